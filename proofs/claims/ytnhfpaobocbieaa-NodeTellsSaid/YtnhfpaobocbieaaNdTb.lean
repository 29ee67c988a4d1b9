/- What the laws say of paths: plain. -/
import Derived.Test.YtnhfpaobocbieaaNdRq
namespace Go.Proofs.Ytnhfpaobocbieaa
set_option linter.unusedVariables false
theorem namesFrom_ok (c : Int) : ∀ (t : List NM) (p : Option (List UInt8)), namesFrom c p t = true → ∀ y ∈ t, nameB y.name = true
  | [], _, _, y, hy => by cases hy
  | x :: t, p, h, y, hy => by
    simp only [namesFrom, Bool.and_eq_true] at h
    rcases List.mem_cons.1 hy with rfl | hy
    · exact h.1.1.1
    · exact namesFrom_ok c t _ h.2 y hy
theorem nodeB_dir {n : ND} {c : Int} (h : nodeB n c = true) : (n.kind ≠ 2 → n.names = []) ∧ ∀ y ∈ n.names, nameB y.name = true := by
  unfold nodeB at h
  simp only [Bool.and_eq_true] at h
  obtain ⟨-, h⟩ := h
  split at h
  · rename_i hk
    simp only [Bool.and_eq_true, List.isEmpty_iff] at h
    exact ⟨fun _ => h.1.2, fun y hy => by rw [h.1.2] at hy; cases hy⟩
  · split at h
    · rename_i hk
      simp only [Bool.and_eq_true] at h
      exact ⟨fun hn => absurd hk hn, namesFrom_ok c _ _ h.1.1⟩
    · split at h
      · simp only [Bool.and_eq_true, List.isEmpty_iff] at h
        exact ⟨fun _ => h.2, fun y hy => by rw [h.2] at hy; cases hy⟩
      · cases h
theorem nameB_ok {s : List UInt8} (h : nameB s = true) : Part s ∧ s ≠ [46] ∧ s ≠ [46, 46] := by
  unfold nameB at h
  simp only [Bool.and_eq_true, Bool.not_eq_true', Bool.or_eq_false_iff] at h
  obtain ⟨⟨⟨⟨⟨h1, h2⟩, h3⟩, h4⟩, h5⟩, h6⟩ := h
  refine ⟨⟨fun e => (by rw [e] at h1; cases h1), fun hm => ?_⟩, fun e => (by rw [e] at h2; simp at h2), fun e => (by rw [e] at h3; simp at h3)⟩
  have := List.contains_iff_mem.2 hm
  rw [this] at h4; cases h4
theorem wk_ok {l : List ND} (hl : ∀ n ∈ l, nodeB n l.length = true) : ∀ (k : Nat) (us : List (List UInt8)) (d : Int), (∀ z ∈ us, nameB z = true) → ∀ x ∈ wk l k us d, ∀ z ∈ pth x, nameB z = true
  | 0, us, d, hu, x, hx => by cases hx
  | k + 1, us, d, hu, x, hx => by
    rw [wk_succ] at hx
    obtain ⟨y, hy, hxy⟩ := List.mem_flatMap.1 hx
    have hyn : nameB y.name = true := (nodeB_dir (hl _ (ndAt_mem hy).2)).2 y hy
    have hu2 : ∀ z ∈ us ++ [y.name], nameB z = true := fun z hz => by
      rcases List.mem_append.1 hz with hz | hz
      · exact hu z hz
      · rw [List.mem_singleton.1 hz]; exact hyn
    unfold wkN at hxy
    rcases List.mem_cons.1 hxy with rfl | hxy
    · exact hu2
    · split at hxy
      · exact wk_ok hl k _ _ hu2 x hxy
      · cases hxy
theorem path_text (x : ST) : pathP x = text true (pth x) := by
  unfold pathP text pth
  rw [if_pos rfl]
theorem inv_of {ks : List (List UInt8)} (h : ∀ z ∈ ks, nameB z = true) : Inv true ks := ⟨0, ks, rfl, fun k hk => ⟨(nameB_ok (h k hk)).1, (nameB_ok (h k hk)).2.1, (nameB_ok (h k hk)).2.2⟩, fun _ => rfl⟩
theorem path_parts {x : ST} (h : ∀ z ∈ pth x, nameB z = true) : parts (pathP x) = pth x := by
  rw [path_text, parts_text (inv_of h)]
  unfold partsOf
  rw [if_neg (by simp)]
theorem path_clean {x : ST} (h : ∀ z ∈ pth x, nameB z = true) : clean (pathP x) = pathP x := by
  rw [path_text, clean_text (inv_of h)]
theorem pth_ne (x : ST) : pth x ≠ [] := by unfold pth; simp
/-- The walk of a checked file system. -/
def WK (l : List ND) : List ST := wk l l.length [] 0
theorem wk_ok' {l : List ND} (h : checkB l = true) : ∀ x ∈ WK l, ∀ z ∈ pth x, nameB z = true := wk_ok (checkB_facts h).2.2.1 _ _ _ (fun z hz => by cases hz)
theorem links_at {l : List ND} (h : checkB l = true) {i : Nat} (hi : i < l.length) : linkB l i = true := List.all_eq_true.1 (checkB_facts h).2.2.2.1 i (List.mem_range.2 hi)
theorem root_dir {l : List ND} (h : checkB l = true) : (ndAt l 0).kind = 2 ∧ (ndAt l 0).links = 1 ∧ cnt l 0 = 0 := by
  have := links_at h (i := 0) (by have := (checkB_facts h).1; omega)
  unfold linkB at this
  rw [if_pos rfl] at this
  simp only [Bool.and_eq_true, decide_eq_true_eq] at this
  exact ⟨this.1.1, this.1.2, this.2⟩
theorem links_cnt {l : List ND} (h : checkB l = true) {i : Nat} (hi : i < l.length) (h0 : i ≠ 0) : (ndAt l i).links = (cnt l i : Int) ∧ ((ndAt l i).kind = 2 → (ndAt l i).links = 0 → (ndAt l i).names = []) := by
  have := links_at h hi
  unfold linkB at this
  rw [if_neg h0] at this
  simp only [Bool.and_eq_true, decide_eq_true_eq, Bool.not_eq_true', Bool.and_eq_false_iff, Bool.or_eq_false_iff, decide_eq_false_iff_not] at this
  refine ⟨this.1, fun hk hl => ?_⟩
  rcases this.2 with h2 | h2
  · exact absurd hk h2
  · rcases h2.2 with h3 | h3
    · exact absurd hl h3
    · simpa using h3
theorem node_ok {l : List ND} (h : checkB l = true) {i : Nat} (hi : i < l.length) : nodeB (ndAt l i) l.length = true := by
  refine (checkB_facts h).2.2.1 _ ?_
  rw [ndAt_nat, List.getD_eq_getElem?_getD, List.getElem?_eq_getElem hi]
  exact List.getElem_mem hi
theorem allI_map (l : List ND) : (allI l).map (ndAt l) = l := by
  unfold allI
  rw [List.map_map]
  apply List.ext_getElem
  · simp
  · intro i h1 h2
    simp only [List.getElem_map, List.getElem_range, Function.comp]
    rw [ndAt_nat, List.getD_eq_getElem?_getD, List.getElem?_eq_getElem h2]
    rfl
theorem allI_length (l : List ND) : (allI l).length = l.length := by unfold allI; simp
def namedI (l : List ND) (i : Int) : Bool := namedB (ndAt l i)
theorem named_count (l : List ND) : named l = ((allI l).filter (namedI l)).length := by
  unfold named
  rw [← List.countP_eq_length_filter]
  conv => lhs; rw [← allI_map l]
  rw [List.countP_map]
  rfl
theorem dd_length (l : List ND) : (DD l l.length).length = reached l := by
  unfold DD reached dirsOf
  rw [List.length_cons, List.length_map, List.countP_eq_length_filter]
  omega
theorem cnt_pos {l : List ND} {x : ST} {k : Nat} {us : List (List UInt8)} {d : Int} (hx : x ∈ wk l k us d) : 1 ≤ cnt l x.node := by
  obtain ⟨y, hy, _, e⟩ := wk_name hx
  exact cnt_one (ndAt_mem hy).1 hy e
/-- Each directory with a name is one that the walk goes into. -/
theorem named_in {l : List ND} (h : checkB l = true) : ∀ i ∈ allI l, namedI l i = true → i ∈ DD l l.length := by
  have h1 := one_of h
  have hn := namesOk_of (checkB_facts h).2.2.1
  have hp : 0 < l.length := (checkB_facts h).1
  have hd := dd_nodup h1 hn l.length
  have hsub : ∀ x ∈ DD l l.length, x ∈ (allI l).filter (namedI l) := fun x hx => by
    refine List.mem_filter.2 ⟨allI_mem.2 (dd_in h1 hp _ x hx), ?_⟩
    unfold DD at hx
    unfold namedI namedB
    rcases List.mem_cons.1 hx with rfl | hx
    · have := root_dir h
      rw [this.1, this.2.1]; rfl
    · unfold dirsOf at hx
      obtain ⟨s, hs, e⟩ := List.mem_map.1 hx
      obtain ⟨hs, hsd⟩ := List.mem_filter.1 hs
      have hin := h1.node_in hs
      have hz := h1.no_root hs
      obtain ⟨m, hm⟩ : ∃ m : Nat, s.node = (m : Int) := ⟨s.node.toNat, by omega⟩
      have hl := (links_cnt h (i := m) (by omega) (by omega)).1
      have hc := cnt_pos hs
      rw [hm] at hc
      unfold isDir at hsd
      rw [← e, hsd, hm, hl]
      simp
      omega
  have hle : (DD l l.length).length ≤ l.length := by
    obtain ⟨R', hR⟩ := subset_perm _ (allI l) hd (fun x hx => allI_mem.2 (dd_in h1 hp _ x hx))
    have := hR.length_eq
    rw [List.length_append, allI_length] at this
    omega
  have h256 := (checkB_facts h).2.1
  have ht := (checkB_facts h).2.2.2.2.1
  unfold treeB at ht
  rw [decide_eq_true_eq] at ht
  have hrl : reached l ≤ 256 := by rw [← dd_length]; omega
  have hw : IntKind.i64.wrap (reached l : Int) = (reached l : Int) := by simp [IntKind.wrap, IntKind.bits, IntKind.signed]; omega
  rw [hw] at ht
  have hrn : (DD l l.length).length = ((allI l).filter (namedI l)).length := by rw [dd_length, ← named_count]; omega
  obtain ⟨R', hR⟩ := subset_perm _ _ hd hsub
  have hl := hR.length_eq
  rw [List.length_append] at hl
  have hnil : R' = [] := List.eq_nil_of_length_eq_zero (by omega)
  subst hnil
  rw [List.append_nil] at hR
  exact fun i hi hni => hR.mem_iff.1 (List.mem_filter.2 ⟨hi, hni⟩)
theorem names_out {l : List ND} (h : checkB l = true) {i : Int} (hi : i ∈ allI l) (hn : i ∉ DD l l.length) : (ndAt l i).names = [] := by
  obtain ⟨a, b⟩ := allI_mem.1 hi
  obtain ⟨m, rfl⟩ : ∃ m : Nat, i = (m : Int) := ⟨i.toNat, by omega⟩
  by_cases hk : (ndAt l (m : Int)).kind = 2
  · by_cases h0 : m = 0
    · subst h0
      exact absurd (List.mem_cons_self ..) hn
    · obtain ⟨h1, h2⟩ := links_cnt h (i := m) (by omega) h0
      refine h2 hk ?_
      have : ¬ namedI l (m : Int) = true := fun hh => hn (named_in h _ hi hh)
      unfold namedI namedB at this
      rw [hk] at this
      simp at this
      omega
  · exact (nodeB_dir (node_ok h (i := m) (by omega))).1 hk
/-- As many steps as names. -/
theorem wk_size {l : List ND} (h : checkB l = true) : (WK l).length = (allNames l).length := by
  have h1 := one_of h
  have hn := namesOk_of (checkB_facts h).2.2.1
  have hp : 0 < l.length := (checkB_facts h).1
  have hdn := dd_nodup h1 hn l.length
  unfold WK
  rw [wk_len l.length [] 0 (checkB_facts h).2.2.2.2.2.2, allNames_length, ← sum_all]
  obtain ⟨R', hR⟩ := subset_perm (DD l l.length) (allI l) hdn (fun x hx => allI_mem.2 (dd_in h1 hp _ x hx))
  have h1 := (hR.map fun d => (ndAt l d).names.length).sum_nat
  rw [h1, List.map_append, List.sum_append]
  have hz : (R'.map fun d => (ndAt l d).names.length).sum = 0 := by
    have hnd := (hR.nodup_iff).1 (allI_nodup l)
    have hd2 := (List.nodup_append.1 hnd).2.2
    have : ∀ d ∈ R', (ndAt l d).names.length = 0 := fun d hd => by
      rw [names_out h (hR.mem_iff.2 (List.mem_append_right _ hd)) (fun hx => hd2 d hx d hd rfl)]; rfl
    clear hR hnd hd2 h1
    induction R' with
    | nil => rfl
    | cons d t ih =>
      rw [List.map_cons, List.sum_cons, this d (List.mem_cons_self ..), ih (fun e he => this e (List.mem_cons_of_mem _ he))]
  rw [hz]
  unfold DD sumN
  simp only [List.map_cons, List.sum_cons]
  omega
theorem all_ne {l : List ND} : ∀ s ∈ allP l, ∃ t, s = 47 :: t := fun s hs => by
  unfold allP at hs
  split at hs
  · cases hs
  · rcases List.mem_cons.1 hs with rfl | hs
    · exact ⟨[], rfl⟩
    · obtain ⟨x, _, rfl⟩ := List.mem_map.1 hs
      exact ⟨_, rfl⟩
theorem all_true {l : List ND} (h : checkB l = true) : allP l = [47] :: (WK l).map pathP := by
  unfold allP
  rw [if_neg (by rw [h]; simp)]
  rfl
theorem all_apart {l : List ND} (h : checkB l = true) : (allP l).Pairwise fun a b => a ≠ b := by
  have hok := wk_ok' h
  rw [all_true h]
  refine .cons (fun s hs e => ?_) ?_
  · obtain ⟨x, hx, rfl⟩ := List.mem_map.1 hs
    have h2 := path_parts (hok x hx)
    rw [← e] at h2
    exact pth_ne x (h2.symm.trans rfl)
  · rw [List.pairwise_map]
    refine (paths_apart (namesOk_of (checkB_facts h).2.2.1) _ _ _).imp_of_mem fun {x y} hx hy hp e => hp ?_
    rw [← path_parts (hok x hx), ← path_parts (hok y hy), e]
theorem all_clean {l : List ND} (h : checkB l = true) : ∀ s ∈ allP l, clean s = s := fun s hs => by
  rw [all_true h] at hs
  rcases List.mem_cons.1 hs with rfl | hs
  · rfl
  · obtain ⟨x, hx, rfl⟩ := List.mem_map.1 hs
    exact path_clean (wk_ok' h x hx)
theorem all_length {l : List ND} (h : checkB l = true) : (allP l).length = 1 + (allNames l).length := by
  rw [all_true h, List.length_cons, List.length_map, wk_size h]
  omega
theorem fnd_mem {m : Int} {s : List ST} {x : ST} (h : fndN m s = some x) : x ∈ s ∧ x.node = m := by
  unfold fndN at h
  exact ⟨List.mem_of_find?_eq_some h, by simpa using List.find?_some h⟩
/-- A path is one of all exactly if there is one. -/
theorem where_all {l : List ND} (h : checkB l = true) (m : Int) : (allP l).contains (whereP l m).1 = (whereP l m).2 := by
  unfold whereP
  rw [if_neg (by rw [h]; simp)]
  by_cases h0 : m = 0
  · rw [if_pos h0, all_true h]
    rfl
  · rw [if_neg h0]
    dsimp only
    cases hf : fndN m (wk l l.length [] 0) with
    | some x =>
      have := List.contains_iff_mem.2 (show pathP x ∈ allP l by rw [all_true h]; exact List.mem_cons_of_mem _ (List.mem_map.2 ⟨x, (fnd_mem hf).1, rfl⟩))
      exact this
    | none =>
      show (allP l).contains [] = false
      rw [Bool.eq_false_iff]
      intro hc
      obtain ⟨t, e⟩ := all_ne _ (List.contains_iff_mem.1 hc)
      cases e
end Go.Proofs.Ytnhfpaobocbieaa
