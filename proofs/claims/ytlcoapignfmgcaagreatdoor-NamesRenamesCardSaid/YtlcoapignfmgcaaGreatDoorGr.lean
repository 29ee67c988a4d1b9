/- Rename keeps a file system (pure). names.within. What Rename's ways say, plain. names.Rename. names.Write. -/
import Derived.Test.YtlcoapignfmgcaaGreatDoorGp
import Derived.Test.YtlcoapignfmgcaaGreatDoorGq
namespace Go.Proofs.YtlcoapignfmgcaaGreatDoor
set_option linter.unusedVariables false
def withinP (l : List ND) (a b : Int) : Bool := (whereP l b).2 && insideP (whereP l a).1 (whereP l b).1
def renameP (l : List ND) (a : Int) (old : List UInt8) (b : Int) (s : List UInt8) : List ND × Int :=
  if hasP l [a, b] then
    let e := firstP [nameC s, writableP l a, writableP l b]
    if e = 0 then
      (if (lkP l a old).2 then
        (if (isDir l (lkP l a old).1 && withinP l b (lkP l a old).1) = true then (l, 32)
         else if (lkP l b s).2 then
          (if (lkP l b s).1 = (lkP l a old).1 then (l, 0)
           else if replaceP l (lkP l a old).1 (lkP l b s).1 = 0 then (insP (remP (remP l b s) a old) b s (lkP l a old).1, 0)
           else (l, replaceP l (lkP l a old).1 (lkP l b s).1))
         else (insP (remP l a old) b s (lkP l a old).1, 0))
       else (l, 20))
    else (l, e)
  else (l, 2)
/-- At a node or below it. -/
inductive Under (l : List ND) (m : Int) : Int → Prop
  | here : Under l m m
  | step {a b : Int} : Under l m a → Child l a b → Under l m b
theorem under_mono {l l' : List ND} {m : Int} (h : ∀ a b, Child l a b → Child l' a b) {i : Int} (hr : Under l m i) : Under l' m i := by
  induction hr with
  | here => exact .here
  | step _ hc ih => exact .step ih (h _ _ hc)
theorem rem_gone {t : List NM} (hs : sortedP t) {s : List UInt8} {y : NM} (hy : t[findP t s]? = some y) (hys : y.name = s) : ∀ x ∈ remN t s, x.name ≠ s := fun x hx hxs => by
  have hc := remN_count (fun z => z.name == s) hy
  rw [if_pos (by simp [hys])] at hc
  have h1 : t.countP (fun z => z.name == s) ≤ 1 := by
    rw [List.countP_eq_length_filter]
    match hf : t.filter (fun z => z.name == s) with
    | [] => rw [hf]; simp
    | [z] => rw [hf]; simp
    | z1 :: z2 :: r =>
      have hp : (z1 :: z2 :: r).Pairwise (fun x y => x.name < y.name) := by rw [← hf]; exact List.Pairwise.filter _ hs
      have hm1 : z1 ∈ t.filter (fun z => z.name == s) := by rw [hf]; simp
      have hm2 : z2 ∈ t.filter (fun z => z.name == s) := by rw [hf]; simp
      have e1 : z1.name = s := by simpa using (List.mem_filter.1 hm1).2
      have e2 : z2.name = s := by simpa using (List.mem_filter.1 hm2).2
      have := (List.pairwise_cons.1 hp).1 z2 (by simp)
      rw [e1, e2] at this
      exact absurd this (blt_irrefl _)
  have h2 : 1 ≤ (remN t s).countP (fun z => z.name == s) := List.countP_pos_iff.2 ⟨x, hx, by simp [hxs]⟩
  omega
/-- A name goes from one directory to another. -/
theorem move_keeps {l : List ND} (h : checkB l = true) {a b k : Nat} (ha : a < l.length) (hb : b < l.length) {old s : List UInt8} (hl : lkP l (a : Int) old = ((k : Int), true)) (hs : nameB s = true)
    (hw : writableP l (b : Int) = 0) (hab : ((ndAt l (b : Int)).names.find? (fun y => y.name == s) = none) ∨ (a = b ∧ old = s)) (hu : (ndAt l (k : Int)).kind = 2 → ¬ Under l (k : Int) (b : Int)) : Kept l (insP (remP l (a : Int) old) (b : Int) s (k : Int)) := by
  obtain ⟨k', hkk, hk⟩ := lk_in h ha hl
  obtain rfl : k = k' := by omega
  have C1 := chg_rem ha hk (s := old) (by rw [hl])
  obtain ⟨y, hy, hyk, hys, hym⟩ := lk_sorted h ha hl
  have hak := kind_in h ha hym
  have hsa := at_sorted h ha
  have hR1 := rem_cnt C1 hy hyk
  have hN1 := rem_nodes (fun i hi => node_ok h hi) hak C1
  have hZ1 := rem_size C1
  generalize remP l (a : Int) old = A at C1 hR1 hN1 hZ1 ⊢
  have hAl := C1.len
  have C2 := chg_ins (l := A) (d := b) (k := k) (by omega) (by omega) s
  generalize insP A (b : Int) s (k : Int) = l' at C2 ⊢
  have hl' : l'.length = l.length := by rw [C2.len, hAl]
  obtain ⟨hbk, hbl⟩ := writable_zero hw
  have hroot := root_dir h
  have hck : 1 ≤ cnt l (k : Int) := cnt_one (ndAt_mem hym).1 hym hyk
  have hk0 : k ≠ 0 := fun e => by
    subst e
    have h2 : cnt l ((0 : Nat) : Int) = 0 := hroot.2.2
    omega
  have n1 : ∀ i : Int, (ndAt A i).names = if i.toNat = a then remN (ndAt l (a : Int)).names old else (ndAt l i).names := C1.names
  have n2 : ∀ i : Int, (ndAt l' i).names = if i.toNat = b then insN (ndAt A (b : Int)).names s (k : Int) else (ndAt A i).names := C2.names
  have hkind : ∀ i : Int, (ndAt l' i).kind = (ndAt l i).kind := fun i => by rw [C2.kind, C1.kind]
  have hlinks : ∀ i : Int, (ndAt l' i).links = (ndAt l i).links := fun i => by
    rw [C2.links, C1.links, C1.links, Int.toNat_natCast, if_pos rfl]
    by_cases hik : i.toNat = k
    · rw [if_pos hik]
      have : ndAt l i = ndAt l (k : Int) := by unfold ndAt; rw [hik, Int.toNat_natCast]
      rw [this]; omega
    · rw [if_neg hik, if_neg hik]
  have hcnt : ∀ v : Int, cnt l' v = cnt l v := fun v => by
    have h1 := C2.count (fun x => x.node == v)
    have h2 := hR1 v
    rw [insN_count] at h1
    unfold cnt at h2 ⊢
    by_cases hv : (k : Int) = v
    · rw [if_pos hv] at h2; rw [if_pos (by simp [hv])] at h1; omega
    · rw [if_neg hv] at h2; rw [if_neg (by simp [hv])] at h1; omega
  have hAb : (ndAt A (b : Int)).names.find? (fun y => y.name == s) = none := by
    refine List.find?_eq_none.2 fun x hx hxs => ?_
    have hxs : x.name = s := by simpa using hxs
    rw [n1, Int.toNat_natCast] at hx
    by_cases hba : b = a
    · subst hba
      rw [if_pos rfl] at hx
      have hxm := remN_sub hx
      have hso : old = s → False := fun e => by
        subst e
        exact rem_gone hsa hy hys x hx hxs
      rcases hab with hab | ⟨_, e⟩
      · have := List.find?_eq_none.1 hab x hxm
        simp [hxs] at this
      · exact hso e
    · rw [if_neg hba] at hx
      rcases hab with hab | ⟨e, _⟩
      · have := List.find?_eq_none.1 hab x hx
        simp [hxs] at this
      · exact hba e.symm
  have hne : ∀ i : Nat, i ≠ b → (ndAt l (i : Int)).names = [] → (ndAt l' (i : Int)).names = [] := fun i hib hi => by
    rw [n2, Int.toNat_natCast, if_neg hib, n1, Int.toNat_natCast]
    by_cases hid : i = a
    · subst hid
      rw [if_pos rfl]
      exact nil_of_sub (fun y hy => remN_sub hy) hi
    · rw [if_neg hid]; exact hi
  -- what leads to the root
  have child : ∀ {p q : Int}, Child l p q → q ≠ (k : Int) → Child l' p q := fun {p q} hc hq =>
    C2.child (C1.child hc fun x hx ex => remN_keep hy hx fun e => hq (by rw [← ex, e, hyk])) fun x hx _ => insN_mem.2 (.inr hx)
  have toB : ∀ {i : Int}, Reach l i → ((ndAt l (k : Int)).kind = 2 → ¬ Under l (k : Int) i) → Reach l' i := fun {i} hi => by
    induction hi with
    | root => intro _; exact .root
    | @step p q hp hc ih =>
      intro hn
      refine .step (ih fun hk2 hu => hn hk2 (.step hu hc)) (child hc fun e => ?_)
      subst e
      have hk2 : (ndAt l (k : Int)).kind = 2 := by have := hc.1; unfold isDir at this; simpa using this
      exact hn hk2 .here
  have rb : Reach l' (b : Int) := toB (ck_reach h hb hbk hbl) hu
  have rk : (ndAt l (k : Int)).kind = 2 → Reach l' (k : Int) := fun hk2 => .step rb ⟨by unfold isDir; rw [hkind, hk2]; rfl, ⟨s, (k : Int)⟩, by rw [n2, if_pos (Int.toNat_natCast b)]; exact insN_mem.2 (.inl rfl), rfl⟩
  have all_ : ∀ {i : Int}, Reach l i → Reach l' i := fun {i} hi => by
    induction hi with
    | root => exact .root
    | @step p q hp hc ih =>
      by_cases e : q = (k : Int)
      · subst e
        exact rk (by have := hc.1; unfold isDir at this; simpa using this)
      · exact .step ih (child hc e)
  refine ⟨?_, by omega, by omega, ?_, fun M hM n hnm => ?_⟩
  · refine ck_of (by rw [hl']; exact (checkB_facts h).1) (by rw [hl']; exact (checkB_facts h).2.1) (fun i hi => ?_) (fun i hi => ?_) (fun i hi h0 hki hc => ?_)
    · by_cases hib : i = b
      · subst hib
        have hNb := hN1 i (by omega)
        refine nodeB_names (n := ndAt A (i : Int)) (by rw [C2.len]; exact hNb) (by rw [C1.kind]; exact hbk) (C2.kind _) (C2.mode _) (C2.data _) (C2.tt _) ?_
        rw [n2, if_pos (Int.toNat_natCast i)]
        obtain ⟨p1, p2⟩ := (namesFrom_iff _ _).1 (nodeB_namesFrom hNb (by rw [C1.kind]; exact hbk))
        refine (namesFrom_iff _ _).2 ⟨fun z hz => ?_, insN_sorted p2 hAb _⟩
        rw [C2.len]
        rcases insN_mem.1 hz with rfl | hz
        · exact ⟨hs, by dsimp only; omega, by dsimp only; omega⟩
        · exact p1 z hz
      · rw [nodeB_eq (C2.kind _) (C2.mode _) (C2.data _) (C2.tt _) (by rw [n2, if_neg (by rw [Int.toNat_natCast]; exact hib)]), C2.len]
        exact hN1 i (by omega)
    · rw [hl'] at hi
      by_cases h0 : i = 0
      · subst h0
        exact linkB_zero ((hkind 0).trans hroot.1) ((hlinks 0).trans hroot.2.1) ((hcnt 0).trans hroot.2.2)
      · refine linkB_of h0 (by rw [hlinks, hcnt]; exact links_eq h hi h0) fun hki => ?_
        rw [hkind] at hki
        have h4 := dir_links h hi h0 hki
        rw [hlinks]
        refine ⟨h4.1, fun hz => ?_⟩
        by_cases hib : i = b
        · subst hib; exact absurd hz hbl
        · exact hne i hib (h4.2 hz)
    · rw [hl'] at hi
      rw [hkind] at hki
      rw [hcnt] at hc
      exact all_ (ck_reach h hi hki (by rw [links_eq h hi h0]; omega))
  · have := C2.count (fun _ => true)
    rw [insN_count] at this
    simp only [List.countP_true, if_true] at this
    have := hZ1.1
    omega
  · obtain ⟨i, hi, rfl⟩ := mem_at hnm
    have hA : ∀ j : Nat, j < A.length → (ndAt A (j : Int)).names.length ≤ M := hZ1.2 M fun j hj => hM _ (ndAt_in hj)
    rw [n2, Int.toNat_natCast]
    by_cases hib : i = b
    · rw [if_pos hib]
      have h1 := insN_count (fun _ => true) (ndAt A (b : Int)).names s (k : Int)
      simp only [List.countP_true, if_true] at h1
      rw [h1]
      have := hA b (by omega)
      omega
    · rw [if_neg hib]
      have := hA i (by omega)
      omega
theorem dd_of_named {l : List ND} (h : checkB l = true) {k : Nat} (hk : k < l.length) (hk2 : (ndAt l (k : Int)).kind = 2) (hc : (ndAt l (k : Int)).links ≠ 0) : (k : Int) ∈ DD l l.length := by
  by_cases h0 : k = 0
  · subst h0; exact List.mem_cons_self ..
  · refine named_in h _ (allI_mem.2 ⟨by omega, by omega⟩) ?_
    have h1 := links_eq h hk h0
    unfold namedI namedB
    rw [hk2, decide_eq_true (by omega : 0 < (ndAt l (k : Int)).links)]
    rfl
theorem step_of_dd {l : List ND} {i : Int} (hi : i ∈ DD l l.length) (h0 : i ≠ 0) : ∃ z ∈ WK l, z.node = i ∧ isDir l z.node = true := by
  unfold DD at hi
  rcases List.mem_cons.1 hi with h | h
  · exact absurd h h0
  · unfold dirsOf at h
    obtain ⟨z, hz, e⟩ := List.mem_map.1 h
    obtain ⟨hz, hd⟩ := List.mem_filter.1 hz
    exact ⟨z, hz, e, hd⟩
theorem where_step {l : List ND} (h : checkB l = true) {z : ST} (hz : z ∈ WK l) (hd : isDir l z.node = true) : whereP l z.node = (pathP z, true) := by
  have h1 := one_of h
  unfold whereP
  rw [if_neg (by rw [h]; simp), if_neg (h1.no_root hz)]
  have hf : fndN z.node (wk l l.length [] 0) = some z := by
    cases hf : fndN z.node (wk l l.length [] 0) with
    | none =>
      unfold fndN at hf
      have := List.find?_eq_none.1 hf z hz
      simp at this
    | some z' =>
      unfold fndN at hf
      have hm := List.mem_of_find?_eq_some hf
      have he : z'.node = z.node := by simpa using List.find?_some hf
      rw [step_uniq h1 _ z' z (Nat.le_refl _) hm hz he (by rw [he]; exact hd)]
  rw [hf]
  rfl
theorem under_path {l : List ND} (h : checkB l = true) {x : ST} (hx : x ∈ WK l) (hxd : isDir l x.node = true) {i : Int} (hu : Under l x.node i) : ∃ z ∈ WK l, z.node = i ∧ isDir l z.node = true ∧ ∃ r, pth z = pth x ++ r := by
  induction hu with
  | here => exact ⟨x, hx, rfl, hxd, [], by simp⟩
  | @step a b _ hc ih =>
    obtain ⟨z, hz, rfl, hzd, r, e⟩ := ih
    obtain ⟨hd, y, hy, ey⟩ := hc
    refine ⟨⟨z.node, y.name, y.node, pth z⟩, wk_next _ _ _ (checkB_facts h).2.2.2.2.2.2 z hz hzd y hy, ey, by show isDir l y.node = true; rw [ey]; exact hd, r ++ [y.name], ?_⟩
    have e2 : pth (⟨z.node, y.name, y.node, pth z⟩ : ST) = pth z ++ [y.name] := rfl
    rw [e2, e, List.append_assoc]
theorem cleaned_text {ks : List (List UInt8)} (h : Inv true ks) : cleaned (text true ks) true = ks := by
  unfold cleaned
  rw [parts_text h, fold_partsOf h]
theorem path_rooted {l : List ND} (h : checkB l = true) {z : ST} (hz : z ∈ WK l) : rooted (pathP z) = true ∧ cleaned (pathP z) true = pth z := by
  have hi := inv_of (wk_ok' h z hz)
  rw [path_text]
  exact ⟨rooted_text hi, cleaned_text hi⟩
/-- What lies below a directory lies within it, as paths tell. -/
theorem within_of {l : List ND} (h : checkB l = true) {k b : Nat} (hk : k < l.length) (hk2 : (ndAt l (k : Int)).kind = 2) (hc : (ndAt l (k : Int)).links ≠ 0) (h0 : k ≠ 0) (hu : Under l (k : Int) (b : Int)) : withinP l (b : Int) (k : Int) = true := by
  obtain ⟨x, hx, ex, hxd⟩ := step_of_dd (dd_of_named h hk hk2 hc) (by omega)
  rw [← ex] at hu
  obtain ⟨z, hz, ez, hzd, r, e⟩ := under_path h hx hxd hu
  have w1 := where_step h hx hxd
  have w2 := where_step h hz hzd
  rw [ex] at w1
  rw [ez] at w2
  unfold withinP
  rw [w1, w2]
  obtain ⟨r1, c1⟩ := path_rooted h hx
  obtain ⟨r2, c2⟩ := path_rooted h hz
  rw [inside_plain _ _ r2 r1, c1, c2, e, Bool.true_and, List.isPrefixOf_iff_prefix]
  exact List.prefix_append _ _
theorem lk_other {l l' : List ND} {d k : Nat} {s : List UInt8} (h : checkB l = true) (hd : d < l.length) (C : Chg l l' d k (fun t => remN t s) (-1)) {y : NM} (hy : (ndAt l (d : Int)).names[findP (ndAt l (d : Int)).names s]? = some y) (hys : y.name = s)
    {a : Nat} (ha : a < l.length) {old : List UInt8} (hne : ¬ (a = d ∧ old = s)) : (lkP l' (a : Int) old) = (lkP l (a : Int) old) := by
  have hn : ∀ i : Int, (ndAt l' i).names = if i.toNat = d then remN (ndAt l (d : Int)).names s else (ndAt l i).names := C.names
  unfold lkP
  rw [hn, Int.toNat_natCast]
  by_cases had : a = d
  · subst had
    rw [if_pos rfl]
    have hso : ¬ old = s := fun e => hne ⟨rfl, e⟩
    have e : (remN (ndAt l (a : Int)).names s).find? (fun y => y.name == old) = (ndAt l (a : Int)).names.find? (fun y => y.name == old) := by
      obtain ⟨hi, e1⟩ := List.getElem?_eq_some_iff.1 hy
      generalize (ndAt l (a : Int)).names = t at hi e1 hy
      have h1 : t = t.take (findP t s) ++ y :: t.drop (findP t s + 1) := by
        rw [← e1, ← List.drop_eq_getElem_cons hi, List.take_append_drop]
      unfold remN
      conv => rhs; rw [h1]
      rw [List.find?_append, List.find?_append, List.find?_cons]
      have : (y.name == old) = false := by rw [hys]; exact beq_eq_false_iff_ne.2 (fun e => hso e.symm)
      rw [this]
    rw [e]
  · rw [if_neg had]
theorem rename_keeps {l : List ND} (h : checkB l = true) (a b : Int) (old s : List UInt8) : Kept l (renameP l a old b s).1 ∧ ((renameP l a old b s).2 ≠ 0 → (renameP l a old b s).1 = l) := by
  unfold renameP
  cases hh : hasP l [a, b] with
  | false => rw [if_neg (by simp)]; exact ⟨.refl h, fun _ => rfl⟩
  | true =>
    rw [if_pos rfl]
    obtain ⟨a, rfl, ha⟩ := hasP_in hh (List.mem_cons_self ..)
    obtain ⟨b, rfl, hb⟩ := hasP_in hh (List.mem_cons_of_mem _ (List.mem_singleton.2 rfl))
    dsimp only
    by_cases he : firstP [nameC s, writableP l (a : Int), writableP l (b : Int)] = 0
    · rw [if_pos he]
      have h1 := first_zero he
      have hs := nameC_ok (h1 (nameC s) (by simp))
      have hwa := h1 (writableP l (a : Int)) (by simp)
      have hwb := h1 (writableP l (b : Int)) (by simp)
      cases hl2 : (lkP l (a : Int) old).2 with
      | false => rw [if_neg (by simp)]; exact ⟨.refl h, fun _ => rfl⟩
      | true =>
        rw [if_pos rfl]
        obtain ⟨m, hm⟩ : ∃ m, (lkP l (a : Int) old).1 = m := ⟨_, rfl⟩
        have hl : lkP l (a : Int) old = (m, true) := by rw [← hl2, ← hm]
        rw [hm]
        obtain ⟨k, rfl, hk⟩ := lk_in h ha hl
        obtain ⟨y, hy, hyk, hys, hym⟩ := lk_sorted h ha hl
        have hck : 1 ≤ cnt l (k : Int) := cnt_one (ndAt_mem hym).1 hym hyk
        have hk0 : k ≠ 0 := fun e => by
          subst e
          have h2 : cnt l ((0 : Nat) : Int) = 0 := (root_dir h).2.2
          omega
        have hkl := links_eq h hk hk0
        by_cases hw : (isDir l (k : Int) && withinP l (b : Int) (k : Int)) = true
        · rw [if_pos hw]; exact ⟨.refl h, fun _ => rfl⟩
        · rw [if_neg hw]
          have hu : (ndAt l (k : Int)).kind = 2 → ¬ Under l (k : Int) (b : Int) := fun hk2 hu => hw (by
            rw [within_of h hk hk2 (by omega) hk0 hu]
            unfold isDir
            rw [hk2]; rfl)
          cases hr2 : (lkP l (b : Int) s).2 with
          | false =>
            rw [if_neg (by simp)]
            refine ⟨move_keeps h ha hb hl hs hwb (.inl ?_) hu, fun h => absurd rfl h⟩
            unfold lkP at hr2
            cases hf : (ndAt l (b : Int)).names.find? (fun y => y.name == s) with
            | none => rfl
            | some y => rw [hf] at hr2; cases hr2
          | true =>
            rw [if_pos rfl]
            obtain ⟨r, hr⟩ : ∃ r, (lkP l (b : Int) s).1 = r := ⟨_, rfl⟩
            have hlr : lkP l (b : Int) s = (r, true) := by rw [← hr2, ← hr]
            rw [hr]
            by_cases hrm : r = (k : Int)
            · rw [if_pos hrm]; exact ⟨.refl h, fun h => absurd rfl h⟩
            · rw [if_neg hrm]
              by_cases hrp : replaceP l (k : Int) r = 0
              · rw [if_pos hrp]
                obtain ⟨q, rfl, hq⟩ := lk_in h hb hlr
                have hqn : (ndAt l (q : Int)).names = [] := by
                  unfold replaceP at hrp
                  split at hrp
                  · omega
                  · split at hrp
                    · omega
                    · split at hrp
                      · rename_i he; exact List.isEmpty_iff.1 he
                      · omega
                obtain ⟨h1, C, _⟩ := rem_keeps h hb hlr hqn
                obtain ⟨z, hz, hzk, hzs, hzm⟩ := lk_sorted h hb hlr
                have hS := rem_size C
                have hne : ¬ (a = b ∧ old = s) := fun ⟨e1, e2⟩ => by
                  subst e1 e2
                  rw [hl] at hlr
                  injection hlr with e _
                  exact hrm e.symm
                have hlk := lk_other h hb C hz hzs ha hne
                rw [hl] at hlk
                have hsz := at_sorted h hb
                generalize remP l (b : Int) s = l1 at h1 C hS hlk ⊢
                have hqb : q ≠ b := fun e => by subst e; rw [hqn] at hzm; cases hzm
                have hwb1 : writableP l1 (b : Int) = 0 := by
                  have hlb : (ndAt l1 (b : Int)).links = (ndAt l (b : Int)).links := by rw [C.links, Int.toNat_natCast, if_neg (fun e => hqb e.symm)]
                  unfold writableP at hwb ⊢
                  rw [C.kind, C.mode, hlb]
                  exact hwb
                have hn : ∀ i : Int, (ndAt l1 i).names = if i.toNat = b then remN (ndAt l (b : Int)).names s else (ndAt l i).names := C.names
                have hf1 : (ndAt l1 (b : Int)).names.find? (fun y => y.name == s) = none := by
                  refine List.find?_eq_none.2 fun x hx hxs => ?_
                  have hxs : x.name = s := by simpa using hxs
                  rw [hn, Int.toNat_natCast, if_pos rfl] at hx
                  exact rem_gone hsz hz hzs x hx hxs
                have K := move_keeps (l := l1) h1 (a := a) (b := b) (k := k) (by rw [C.len]; exact ha) (by rw [C.len]; exact hb) (old := old) (s := s) hlk hs hwb1 (.inl hf1) (fun hk2 hu1 => by
                  rw [C.kind] at hk2
                  exact hu hk2 (under_mono (fun p q ⟨hd, x, hx, ex⟩ => ⟨by unfold isDir at hd ⊢; rw [C.kind] at hd; exact hd, x, by
                    rw [hn] at hx
                    by_cases hp : p.toNat = b
                    · rw [if_pos hp] at hx
                      have he : ndAt l p = ndAt l (b : Int) := by unfold ndAt; rw [hp, Int.toNat_natCast]
                      rw [he]; exact remN_sub hx
                    · rw [if_neg hp] at hx; exact hx, ex⟩) hu1))
                refine ⟨⟨K.ck, by have := K.ge; rw [C.len] at this; exact this, by have := K.le; rw [C.len] at this; exact this, by have := K.all; have := hS.1; dsimp only; omega, fun M hM n hnm => ?_⟩, fun h => absurd rfl h⟩
                refine K.each M (fun n hn => ?_) n hnm
                obtain ⟨i, hi, rfl⟩ := mem_at hn
                exact hS.2 M (fun i hi => hM _ (ndAt_in hi)) i hi
              · rw [if_neg hrp]; exact ⟨.refl h, fun _ => rfl⟩
    · rw [if_neg he]; exact ⟨.refl h, fun _ => rfl⟩
end Go.Proofs.YtlcoapignfmgcaaGreatDoor
namespace Go.Proofs.YtlcoapignfmgcaaGreatDoor
open Go.RowKit
set_option linter.unusedVariables false
theorem fnd_mem {m : Int} {s : List ST} {x : ST} (h : fndN m s = some x) : x ∈ s ∧ x.node = m := by
  unfold fndN at h
  exact ⟨List.mem_of_find?_eq_some h, by simpa using List.find?_some h⟩
theorem where_len {l : List DV} (hB : FewB l) (m : Int) : (whereP (nds l) m).1.length ≤ 40000 := by
  unfold whereP
  split
  · exact Nat.zero_le _
  · split
    · exact (by decide : [47].length ≤ 40000)
    · dsimp only
      cases hf : fndN m (wk (nds l) (nds l).length [] 0) with
      | none => exact Nat.zero_le _
      | some x =>
        obtain ⟨hx, _⟩ := fnd_mem hf
        have h := up_of (l := nds l) (fun d hd y hy => by
          unfold nds at hd
          obtain ⟨z, hz, rfl⟩ := List.mem_map.1 hd
          exact (hB.each z hz).nm y hy) _ [] 0 (fun z hz => by cases hz) x hx
        have h2 := join_small _ h.2
        have h1 := h.1
        have h3 := hB.n
        rw [nds_length] at h1
        simp only [List.length_nil] at h1
        show (pathP x).length ≤ _
        unfold pathP
        rw [List.length_append, List.length_singleton] at h2
        rw [List.length_cons]
        omega
set_option maxRecDepth 100000 in
set_option maxHeartbeats 8000000 in
theorem within_c (L : Option Addr) (n c : Nat) (l : List DV) (a b : Int) (w : World) (hS : Std w) (hF : FsR w w.heap.size L n l) (hB : FewB l) :
    Calls Tryz.prog 47 #[.agg #[.slice L n c], .int .i64 a, .int .i64 b] w fun e w' => e = .returned (.bool (withinP (nds l) a b)) ∧ Below w.heap.size w w' := by
  obtain ⟨W1, hW1⟩ : ∃ W, w.alloc (.cells #[.slice L n c] 24) = W := ⟨_, rfl⟩
  have h1 : Blk W1 w.heap.size 24 #[.slice L n c] := by rw [← hW1]; exact Blk.new w _ _
  have b1 : Below w.heap.size w W1 := by rw [← hW1]; exact on_alloc _ _
  have HA := hide (fun (W : World) (hW : Below w.heap.size w W) => where_any L n c l a W ((hF.below hW).more hW.size) hB)
  have HBB := hide (fun (W : World) (hW : Below w.heap.size w W) => where_any L n c l b W ((hF.below hW).more hW.size) hB)
  have la := where_len hB a
  have lb := where_len hB b
  have HW : Hid (withinP (nds l) a b = ((whereP (nds l) b).2 && insideP (whereP (nds l) a).1 (whereP (nds l) b).1)) := hide rfl
  generalize withinP (nds l) a b = R at *
  generalize whereP (nds l) a = pa at *
  generalize whereP (nds l) b = pb at *
  obtain ⟨ta, oa⟩ := pa
  obtain ⟨tb, ob⟩ := pb
  dsimp only at HA HBB la lb HW
  have HS := hide hS
  have HX := hide h1
  have HB := hide b1
  have k0 := one_ h1
  clear hF hB h1 b1 hS
  go_enter Tryz.func47, Tryz.ntmps47
  go_wp2_with (rw [hW1])
  refine (HA.out W1 HB.out).mono ?_
  rintro e w2 ⟨rfl, hb2⟩
  have HX2 := hide (HX.out.below hb2 HX.out.lt)
  have HB2 := hide (HB.out.trans (hb2.mono HB.out.size))
  clear hb2 k0 HX HB hW1 HA
  have k0 := one_ HX2.out
  go_wp2_with fail
  refine (HBB.out w2 HB2.out).mono ?_
  rintro e w3 ⟨rfl, hb3⟩
  have HB3 := hide (HB2.out.trans (hb3.mono HB2.out.size))
  clear hb3 k0 HX2 HB2 HBB
  cases ob with
  | false =>
    have hRe : R = false := by rw [HW.out]; rfl
    subst hRe
    clear HW
    go_wp2_with fail
    go_ret
    exact ⟨rfl, HB3.out⟩
  | true =>
    have HI := hide (inside_l ta tb w3 (HS.out.below HB3.out) la lb)
    have hRe : insideP ta tb = R := by rw [HW.out]; rfl
    rw [hRe] at HI
    clear HW hRe
    go_wp2_with fail
    refine HI.out.mono ?_
    rintro e w4 ⟨rfl, hb4⟩
    have HB4 := hide (HB3.out.trans (hb4.mono HB3.out.size))
    clear hb4 HB3 HI
    go_wp2_with fail
    go_ret
    exact ⟨rfl, HB4.out⟩
end Go.Proofs.YtlcoapignfmgcaaGreatDoor
namespace Go.Proofs.YtlcoapignfmgcaaGreatDoor
open Go.RowKit
set_option linter.unusedVariables false
section
variable {l : List ND} {a b : Int} {old s : List UInt8}
theorem ren_0 (hh : hasP l [a, b] = false) : renameP l a old b s = (l, 2) := by
  unfold renameP; rw [hh]; rfl
theorem ren_1 (hh : hasP l [a, b] = true) {E : Int} (hE : firstP [nameC s, writableP l a, writableP l b] = E) (h0 : E ≠ 0) : renameP l a old b s = (l, E) := by
  unfold renameP; rw [hh, if_pos rfl]; dsimp only; rw [hE, if_neg h0]
variable (hh : hasP l [a, b] = true) (hE : firstP [nameC s, writableP l a, writableP l b] = 0)
include hh hE
theorem ren_2 {i : Int} (hl : lkP l a old = (i, false)) : renameP l a old b s = (l, 20) := by
  unfold renameP; rw [hh, if_pos rfl]; dsimp only; rw [hE, if_pos rfl, hl]; rfl
theorem ren_3 {k : Int} (hl : lkP l a old = (k, true)) (hw : (isDir l k && withinP l b k) = true) : renameP l a old b s = (l, 32) := by
  unfold renameP; rw [hh, if_pos rfl]; dsimp only; rw [hE, if_pos rfl, hl, if_pos rfl]; dsimp only; rw [if_pos hw]
theorem ren_4 {k : Int} (hl : lkP l a old = (k, true)) (hw : (isDir l k && withinP l b k) = false) (hr : lkP l b s = (k, true)) : renameP l a old b s = (l, 0) := by
  unfold renameP; rw [hh, if_pos rfl]; dsimp only; rw [hE, if_pos rfl, hl, if_pos rfl]; dsimp only; rw [if_neg (by rw [hw]; simp), hr, if_pos rfl, if_pos rfl]
theorem ren_5 {k r E : Int} (hl : lkP l a old = (k, true)) (hw : (isDir l k && withinP l b k) = false) (hr : lkP l b s = (r, true)) (hrk : r ≠ k) (he : replaceP l k r = E) (h0 : E ≠ 0) : renameP l a old b s = (l, E) := by
  unfold renameP; rw [hh, if_pos rfl]; dsimp only; rw [hE, if_pos rfl, hl, if_pos rfl]; dsimp only; rw [if_neg (by rw [hw]; simp), hr, if_pos rfl]; dsimp only; rw [if_neg hrk, he, if_neg h0]
theorem ren_6 {k r : Int} (hl : lkP l a old = (k, true)) (hw : (isDir l k && withinP l b k) = false) (hr : lkP l b s = (r, true)) (hrk : r ≠ k) (he : replaceP l k r = 0) : renameP l a old b s = (insP (remP (remP l b s) a old) b s k, 0) := by
  unfold renameP; rw [hh, if_pos rfl]; dsimp only; rw [hE, if_pos rfl, hl, if_pos rfl]; dsimp only; rw [if_neg (by rw [hw]; simp), hr, if_pos rfl]; dsimp only; rw [if_neg hrk, he, if_pos rfl]
theorem ren_7 {k r : Int} (hl : lkP l a old = (k, true)) (hw : (isDir l k && withinP l b k) = false) (hr : lkP l b s = (r, false)) : renameP l a old b s = (insP (remP l a old) b s k, 0) := by
  unfold renameP; rw [hh, if_pos rfl]; dsimp only; rw [hE, if_pos rfl, hl, if_pos rfl]; dsimp only; rw [if_neg (by rw [hw]; simp), hr]; rfl
end
/-- Numbers that the changes can bear. -/
def SmallL (l : List ND) : Prop := ∀ n ∈ l, n.names.length ≤ 1000 ∧ 0 ≤ n.links ∧ n.links ≤ 1000000
theorem own_small2 {B : Nat} {w : World} {L : Option Addr} {n c : Nat} {X : List DV} {l' : List ND} (hO : OF B w L n c X) (hR : nds X = l') (hl : SmallL l') : ∀ x ∈ X, x.mn ≤ 1000 ∧ 0 ≤ x.r.links ∧ x.r.links ≤ 1000000 := fun x hx => by
  have h1 : x.r ∈ l' := by rw [← hR]; unfold nds; exact List.mem_map.2 ⟨x, hx, rfl⟩
  have h2 := hl _ h1
  have h3 := (hO.ok x hx).nl
  omega
theorem few_names {l : List DV} (hB : FewB l) : ∀ i : Nat, i < (nds l).length → (ndAt (nds l) (i : Int)).names.length ≤ 200 := fun i hi => by
  have hm := ndAt_in hi
  unfold nds at hm
  obtain ⟨x, hx, e⟩ := List.mem_map.1 hm
  unfold nds
  rw [← e]
  exact (hB.each x hx).n
theorem rem_small {l : List ND} (h : checkB l = true) (hA : (allNames l).length ≤ 100000) (hM : ∀ i : Nat, i < l.length → (ndAt l (i : Int)).names.length ≤ 200) {d k : Nat} (hd : d < l.length) {s : List UInt8} (hl : lkP l (d : Int) s = ((k : Int), true)) : SmallL (remP l (d : Int) s) := by
  obtain ⟨k', hkk, hk⟩ := lk_in h hd hl
  obtain rfl : k = k' := by omega
  have C := chg_rem hd hk (s := s) (by rw [hl])
  obtain ⟨y, hy, hyk, hys, hym⟩ := lk_sorted h hd hl
  have hck : 1 ≤ cnt l (k : Int) := cnt_one (ndAt_mem hym).1 hym hyk
  have hk0 : k ≠ 0 := fun e => by
    subst e
    have h2 : cnt l ((0 : Nat) : Int) = 0 := (root_dir h).2.2
    omega
  have hkl := links_eq h hk hk0
  have hS := (rem_size C).2 200 hM
  generalize remP l (d : Int) s = l' at C hS ⊢
  intro n hn
  obtain ⟨i, hi, rfl⟩ := mem_at hn
  have h1 := hS i hi
  rw [C.len] at hi
  have h2 := links_small h hA _ (ndAt_in hi)
  rw [C.links, Int.toNat_natCast]
  refine ⟨by omega, ?_⟩
  by_cases hik : i = k
  · subst hik; rw [if_pos rfl]; omega
  · rw [if_neg hik]; omega
/-- What stands behind the replaced name's going. -/
theorem ren_mid {l : List ND} (h : checkB l = true) {a b k q : Nat} (ha : a < l.length) (hb : b < l.length) {old s : List UInt8} (hl : lkP l (a : Int) old = ((k : Int), true)) (hlr : lkP l (b : Int) s = ((q : Int), true)) (hqk : (q : Int) ≠ (k : Int)) (hrp : replaceP l (k : Int) (q : Int) = 0) :
    checkB (remP l (b : Int) s) = true ∧ lkP (remP l (b : Int) s) (a : Int) old = ((k : Int), true) ∧ (remP l (b : Int) s).length = l.length ∧ (allNames (remP l (b : Int) s)).length ≤ (allNames l).length ∧ ∀ M, (∀ i : Nat, i < l.length → (ndAt l (i : Int)).names.length ≤ M) → ∀ i : Nat, i < (remP l (b : Int) s).length → (ndAt (remP l (b : Int) s) (i : Int)).names.length ≤ M := by
  have hqn : (ndAt l (q : Int)).names = [] := by
    unfold replaceP at hrp
    split at hrp
    · omega
    · split at hrp
      · omega
      · split at hrp
        · rename_i he; exact List.isEmpty_iff.1 he
        · omega
  obtain ⟨h1, C, _⟩ := rem_keeps h hb hlr hqn
  obtain ⟨z, hz, hzk, hzs, hzm⟩ := lk_sorted h hb hlr
  have hne : ¬ (a = b ∧ old = s) := fun ⟨e1, e2⟩ => by
    subst e1 e2
    rw [hl] at hlr
    injection hlr with e _
    exact hqk e.symm
  have hlk := lk_other h hb C hz hzs ha hne
  rw [hl] at hlk
  exact ⟨h1, hlk, C.len, rem_size C⟩
end Go.Proofs.YtlcoapignfmgcaaGreatDoor
namespace Go.Proofs.YtlcoapignfmgcaaGreatDoor
open Go.RowKit
set_option linter.unusedVariables false
set_option maxRecDepth 100000 in
set_option maxHeartbeats 16000000 in
theorem rename_c (L : Option Addr) (n c : Nat) (l : List DV) (a b : Int) (old s : List UInt8) (w : World) (hSt : Std w) (hF : FsR w w.heap.size L n l) (hB : FewB l) (hsl : s.length ≤ 1000000) :
    Calls Tryz.prog 16 #[.agg #[.slice L n c], .int .i64 a, .string ⟨old.toArray⟩, .int .i64 b, .string ⟨s.toArray⟩] w (FsEnd w (renameP (nds l) a old b s).1 [.int .i64 (renameP (nds l) a old b s).2]) := by
  have hl := hF.len
  have hln : (nds l).length = n := by rw [nds_length, hl]
  obtain ⟨W1, hW1⟩ : ∃ W, (w.alloc (.cells #[.slice L n c] 24)).alloc (.cells #[.slice none 0 0] 24) = W := ⟨_, rfl⟩
  have HX : Hid (Blk W1 w.heap.size 24 #[.slice L n c]) := hide (by rw [← hW1]; exact (Blk.new w _ _).alloc _)
  have HY : Hid (Blk W1 (w.heap.size + 1) 24 #[.slice none 0 0]) := hide (by rw [← hW1]; have := Blk.new (w.alloc (.cells #[.slice L n c] 24)) 24 #[.slice none 0 0]; simpa only [World.size_alloc] using this)
  have b1 : Below w.heap.size w W1 := by rw [← hW1]; exact ((Below.refl _ _).alloc (Nat.le_refl _) _).alloc (by simp) _
  have hsz : w.heap.size + 2 = W1.heap.size := by rw [← hW1]; simp
  have XF := hide (fs_any L n c l W1 ((hF.below b1).more b1.size) (small_of hF hB))
  have HF := hide (fun (W : World) (hW : Below w.heap.size w W) => (hF.below hW).more hW.size)
  have HFW := hide hB
  have HB := hide b1
  have HLN := hide hln
  have HST := hide hSt
  obtain ⟨T, hT⟩ : ∃ T, renameP (nds l) a old b s = T := ⟨_, rfl⟩
  have HT := hide hT
  rw [hT]
  have k0 := one_ HX.out
  have k1 := one_ HY.out
  clear hF hB b1 hl hln hT hSt
  go_enter Tryz.func16, Tryz.ntmps16
  go_wp2_with (rw [hW1])
  refine XF.out.mono ?_
  rintro e w2 ⟨L', c', X, rfl, hO, hR, hS, hb2⟩
  obtain ⟨W3, hW3⟩ : ∃ W, w2.alloc (.cells #[.slice L' n c'] 24) = W := ⟨_, rfl⟩
  obtain ⟨W4, hW4⟩ : ∃ W, W3.alloc (.cells #[.int .i64 a, .int .i64 b] 3) = W := ⟨_, rfl⟩
  have b3 : Below w2.heap.size w2 W3 := by rw [← hW3]; exact on_alloc _ _
  have b4 : Below W3.heap.size W3 W4 := by rw [← hW4]; exact on_alloc _ _
  have hp3 : Blk W3 w2.heap.size 24 #[.slice L' n c'] := by rw [← hW3]; exact Blk.new w2 _ _
  have hz2 := hb2.size
  have hz3 := b3.size
  have hz4 := b4.size
  have hpl := hp3.lt
  have hx2 := HX.out.below hb2 HX.out.lt
  have hy2 := HY.out.below hb2 HY.out.lt
  have hx3 := hx2.below b3 hx2.lt
  have hy3 := hy2.below b3 hy2.lt
  have hB3 := (HB.out.trans (hb2.mono (by omega))).trans (b3.mono (by omega))
  have HX4 := hide (hx3.below b4 hx3.lt)
  have HY4 := hide (hy3.below b4 hy3.lt)
  have HP4 := hide (hp3.below b4 hp3.lt)
  have HO4 := hide ((hO.below b3).below b4)
  have HB4 := hide (hB3.trans (b4.mono (by omega)))
  have HRX : Hid (nds X = nds l) := hide hR
  have XR : Reads W4 W4.heap.size 1 (some ⟨W3.heap.size, 0, none⟩) 2 (ivs [a, b]) := by rw [← hW4]; exact ivs_two W3 a b _
  have X5 := hide (has_c L n c l [a, b] (some ⟨W3.heap.size, 0, none⟩) 2 2 W4 (HF.out W4 HB4.out) HFW.out XR (by omega))
  have k3 := one_ hx3
  clear b3 b4 hO hb2 XF HX HY k0 k1 hR hS HB XR hx2 hy2 hx3 hy3 hp3 hB3
  go_wp2_with (first | rw [hW3] | rw [hW4])
  refine X5.out.mono ?_
  rintro e w5 ⟨rfl, hb5⟩
  have HX5 := hide (HX4.out.below hb5 HX4.out.lt)
  have HY5 := hide (HY4.out.below hb5 HY4.out.lt)
  have HP5 := hide (HP4.out.below hb5 HP4.out.lt)
  have HO5 := hide (HO4.out.below hb5)
  have HB5 := hide (HB4.out.trans (hb5.mono HB4.out.size))
  have hz5 := hb5.size
  clear hb5 HX4 HY4 HP4 HO4 HB4 X5 k3 hW1 hW3 hW4
  cases hh : hasP (nds l) [a, b] with
  | false =>
    have hTe : T = (nds l, 2) := by rw [← HT.out]; exact ren_0 hh
    subst hTe
    have k5 := one_ HP5.out
    have k6 := HY5.out.frozen 0
    have k7 := one_ HY5.out
    clear HT
    go_wp2_with fail
    refine bodyPost_ret (v := .tuple #[.agg #[.slice L' n c'], .int .i64 2]) (by simp only [results, Tryz.results16]; go_simp) rfl ?_
    refine ⟨_, _, _, _, rfl, OF.less (OF.far HO5.out (p := ⟨w.heap.size + 1, 0, none⟩) (by show w.heap.size + 1 < W1.heap.size; omega) _) (by omega), HRX.out, HB5.out.setCell (p := ⟨w.heap.size + 1, 0, none⟩) (by show w.heap.size ≤ w.heap.size + 1; omega) _⟩
  | true =>
    obtain ⟨ma, rfl, hal⟩ := hasP_in hh (List.mem_cons_self ..)
    obtain ⟨mb, rfl, hbl⟩ := hasP_in hh (List.mem_cons_of_mem _ (List.mem_singleton.2 rfl))
    have hck := hasP_check hh
    have HCK := hide hck
    have hma : ma < n := by have := HLN.out; omega
    have hmb : mb < n := by have := HLN.out; omega
    obtain ⟨E, hE⟩ : ∃ E, firstP [nameC s, writableP (nds l) (ma : Int), writableP (nds l) (mb : Int)] = E := ⟨_, rfl⟩
    have HE := hide hE
    have HH := hide hh
    have k5 := one_ HX5.out
    clear hh hE hck
    go_wp2_with fail
    refine wp_region_K (fun V => V.cell? ⟨w.heap.size, 0, none⟩ = some (.slice L n c)) [] rfl k5 (fun hHeld => ?_)
    refine wpAnyK_take (i := 0) (v := ?_) rfl rfl (by kernel_rfl) (fun _ _ _ h => h) (Or.inl ⟨by rfl, ?_⟩) (by assumption) ?_
    rotate_left
    · (intro V hV; (try dsimp only at hV); go_simp; with_reducible rfl)
    try simp only [Act.put, List.setIfInBounds_toArray, List.set_cons_zero, List.set_cons_succ]
    refine wpAnyK_take (i := 2) (v := ?_) rfl rfl (by kernel_rfl) (fun _ _ _ h => h) (Or.inl ⟨by rfl, ?_⟩) (by assumption) ?_
    rotate_left
    · (intro V hV; (try dsimp only at hV); go_simp; with_reducible rfl)
    try simp only [Act.put, List.setIfInBounds_toArray, List.set_cons_zero, List.set_cons_succ]
    refine wpAnyK_take (i := 3) (v := ?_) rfl rfl (by kernel_rfl) (fun _ _ _ h => h) (Or.inl ⟨by rfl, ?_⟩) (by assumption) ?_
    rotate_left
    · (intro V hV; (try dsimp only at hV); go_simp; with_reducible rfl)
    try simp only [Act.put, List.setIfInBounds_toArray, List.set_cons_zero, List.set_cons_succ]
    refine wpAnyK_take (i := 5) (v := ?_) rfl rfl (by kernel_rfl) (fun _ _ _ h => h) (Or.inl ⟨by rfl, ?_⟩) (by assumption) ?_
    rotate_left
    · (intro V hV; (try dsimp only at hV); go_simp; with_reducible rfl)
    try simp only [Act.put, List.setIfInBounds_toArray, List.set_cons_zero, List.set_cons_succ]
    refine wpAnyK_take (i := 6) (v := ?_) rfl rfl (by kernel_rfl) (fun _ _ _ h => h) (Or.inl ⟨by rfl, ?_⟩) (by assumption) ?_
    rotate_left
    · (intro V hV; (try dsimp only at hV); go_simp; with_reducible rfl)
    try simp only [Act.put, List.setIfInBounds_toArray, List.set_cons_zero, List.set_cons_succ]
    have hb7 : Below w5.heap.size w5 w5.drew := (Below.refl _ _).drew
    have HX7 := hide (HX5.out.below hb7 HX5.out.lt)
    have HY7 := hide (HY5.out.below hb7 HY5.out.lt)
    have HP7 := hide (HP5.out.below hb7 HP5.out.lt)
    have HO7 := hide (HO5.out.below hb7)
    have HB7 := hide (HB5.out.trans (hb7.mono HB5.out.size))
    have hz7 := hb7.size
    clear hb7 HX5 HY5 HP5 HO5 HB5 k5
    have k5 : True := trivial
    refine wpAnyK_step (i := 1) (by kernel_rfl) rfl rfl (fun K hK => ?_)
    go_simp
    refine (name_c s _ (by omega)).mono ?_
    rintro e w8 ⟨rfl, hb8⟩
    clear k5
    have HX8 := hide (HX7.out.below hb8 HX7.out.lt)
    have HY8 := hide (HY7.out.below hb8 HY7.out.lt)
    have HP8 := hide (HP7.out.below hb8 HP7.out.lt)
    have HO8 := hide (HO7.out.below hb8)
    have HB8 := hide (HB7.out.trans (hb8.mono HB7.out.size))
    have hz8 := hb8.size
    clear hb8 HX7 HY7 HP7 HO7 HB7 hHeld
    have k5 := one_ HX8.out
    refine hK.out _ _ (fun _ _ => k5) ?_
    clear hK K
    simp only [List.setIfInBounds_toArray]
    refine wpAnyK_step (i := 4) (by kernel_rfl) rfl rfl (fun K hK => ?_)
    go_simp
    refine (writable_c L n c l ma _ (HF.out _ HB8.out) hma (at_mode HCK.out hal)).mono ?_
    rintro e w9 ⟨rfl, hb9⟩
    clear k5
    have HX9 := hide (HX8.out.below hb9 HX8.out.lt)
    have HY9 := hide (HY8.out.below hb9 HY8.out.lt)
    have HP9 := hide (HP8.out.below hb9 HP8.out.lt)
    have HO9 := hide (HO8.out.below hb9)
    have HB9 := hide (HB8.out.trans (hb9.mono HB8.out.size))
    have hz9 := hb9.size
    clear hb9 HX8 HY8 HP8 HO8 HB8 
    have k5 := one_ HX9.out
    refine hK.out _ _ (fun _ _ => k5) ?_
    clear hK K
    simp only [List.setIfInBounds_toArray]
    refine wpAnyK_step (i := 7) (by kernel_rfl) rfl rfl (fun K hK => ?_)
    go_simp
    refine (writable_c L n c l mb _ (HF.out _ HB9.out) hmb (at_mode HCK.out hbl)).mono ?_
    rintro e w10 ⟨rfl, hb10⟩
    clear k5
    have HX10 := hide (HX9.out.below hb10 HX9.out.lt)
    have HY10 := hide (HY9.out.below hb10 HY9.out.lt)
    have HP10 := hide (HP9.out.below hb10 HP9.out.lt)
    have HO10 := hide (HO9.out.below hb10)
    have HB10 := hide (HB9.out.trans (hb10.mono HB9.out.size))
    have hz10 := hb10.size
    clear hb10 HX9 HY9 HP9 HO9 HB9 
    have k5 := one_ HX10.out
    refine hK.out _ _ (fun _ _ => k5) ?_
    clear hK K
    simp only [List.setIfInBounds_toArray]
    obtain ⟨e1, he1⟩ : ∃ e, nameC s = e := ⟨_, rfl⟩
    obtain ⟨e2, he2⟩ : ∃ e, writableP (nds l) (ma : Int) = e := ⟨_, rfl⟩
    obtain ⟨e3, he3⟩ : ∃ e, writableP (nds l) (mb : Int) = e := ⟨_, rfl⟩
    have HEE := hide HE.out
    rw [he1, he2, he3] at HE
    rw [he1, he2, he3]
    obtain ⟨W11, hW11⟩ : ∃ W, w10.alloc (.cells #[.int .i64 e1, .int .i64 e2, .int .i64 e3] 32) = W := ⟨_, rfl⟩
    have hb11 : Below w10.heap.size w10 W11 := by rw [← hW11]; exact on_alloc _ _
    have XR : Reads W11 W11.heap.size 1 (some ⟨w10.heap.size, 0, none⟩) 3 (ivs [e1, e2, e3]) := by rw [← hW11]; exact ivs_three w10 e1 e2 e3 _
    have X1 := hide (first_any [e1, e2, e3] (some ⟨w10.heap.size, 0, none⟩) 3 3 W11.heap.size W11 XR (by omega))
    rw [HE.out] at X1
    refine wpAnyK_step (i := 8) (by kernel_rfl) rfl rfl (fun K hK => ?_)
    go_simp
    try rw [hW11]
    clear k5 XR he1 he2 he3
    have HX11 := hide (HX10.out.below hb11 HX10.out.lt)
    have HY11 := hide (HY10.out.below hb11 HY10.out.lt)
    have HP11 := hide (HP10.out.below hb11 HP10.out.lt)
    have HO11 := hide (HO10.out.below hb11)
    have HB11 := hide (HB10.out.trans (hb11.mono HB10.out.size))
    have hz11 := hb11.size
    clear hb11 HX10 HY10 HP10 HO10 HB10 hW11
    have k5 := one_ HX11.out
    refine hK.out _ _ (fun _ _ => k5) ?_
    clear hK K
    simp only [List.setIfInBounds_toArray]
    refine wpAnyK_step (i := 9) (by kernel_rfl) rfl rfl (fun K hK => ?_)
    go_simp
    refine X1.out.mono ?_
    rintro e w12 ⟨rfl, rfl⟩
    refine hK.out _ _ (fun _ _ => k5) ?_
    clear hK K
    simp only [List.setIfInBounds_toArray]
    refine wpAnyK_takeF (i := 10) (v := ?_) rfl rfl (by kernel_rfl) (fun _ _ _ h => h) (Or.inl ⟨by rfl, ?_⟩) ?_
    rotate_left
    · (intro V hV; (try dsimp only at hV); go_simp; with_reducible rfl)
    try simp only [Act.put, List.setIfInBounds_toArray, List.set_cons_zero, List.set_cons_succ]
    refine wpAnyK_done (by kernel_rfl) ?_ _
    clear k5 X1 HE
    by_cases h0 : E = 0
    · subst h0
      have XL := hide (lookup_c L n c l ma old W11 (HF.out W11 HB11.out) HFW.out hma (at_sorted HCK.out hal))
      obtain ⟨Q, hQ⟩ : ∃ Q, lkP (nds l) (ma : Int) old = Q := ⟨_, rfl⟩
      rw [hQ] at XL
      have HQ := hide hQ
      clear hQ
      obtain ⟨i, fo⟩ := Q
      dsimp only at XL
      have k5 := one_ HX11.out
      go_wp2_with fail
      refine XL.out.mono ?_
      rintro e w13 ⟨rfl, hb13⟩
      have HX13 := hide (HX11.out.below hb13 HX11.out.lt)
      have HY13 := hide (HY11.out.below hb13 HY11.out.lt)
      have HP13 := hide (HP11.out.below hb13 HP11.out.lt)
      have HO13 := hide (HO11.out.below hb13)
      have HB13 := hide (HB11.out.trans (hb13.mono HB11.out.size))
      have hz13 := hb13.size
      clear hb13 HX11 HY11 HP11 HO11 HB11 XL k5
      cases fo with
      | false =>
        have hTe : T = (nds l, 20) := by rw [← HT.out]; exact ren_2 HH.out HEE.out HQ.out
        subst hTe
        have k5 := one_ HP13.out
        have k6 := HY13.out.frozen 0
        have k7 := one_ HY13.out
        clear HT
        go_wp2_with fail
        refine bodyPost_ret (v := .tuple #[.agg #[.slice L' n c'], .int .i64 20]) (by simp only [results, Tryz.results16]; go_simp) rfl ?_
        refine ⟨_, _, _, _, rfl, OF.less (OF.far HO13.out (p := ⟨w.heap.size + 1, 0, none⟩) (by show w.heap.size + 1 < W1.heap.size; omega) _) (by omega), HRX.out, HB13.out.setCell (p := ⟨w.heap.size + 1, 0, none⟩) (by show w.heap.size ≤ w.heap.size + 1; omega) _⟩
      | true =>
        obtain ⟨k, rfl, hkl⟩ := lk_in HCK.out hal HQ.out
        have hk : k < n := by have := HLN.out; omega
        have XD := hide (isdir_c L n c l k w13 (HF.out w13 HB13.out) hk)
        obtain ⟨kd, hkd⟩ : ∃ x, isDir (nds l) (k : Int) = x := ⟨_, rfl⟩
        have hkd2 : ((ndAt (nds l) (k : Int)).kind == 2) = kd := hkd
        rw [hkd2] at XD
        have HKD := hide hkd
        have k5 := one_ HX13.out
        clear hkd hkd2
        go_wp2_with fail
        refine XD.out.mono ?_
        rintro e w14 ⟨rfl, hb14⟩
        have HX14 := hide (HX13.out.below hb14 HX13.out.lt)
        have HY14 := hide (HY13.out.below hb14 HY13.out.lt)
        have HP14 := hide (HP13.out.below hb14 HP13.out.lt)
        have HO14 := hide (HO13.out.below hb14)
        have HB14 := hide (HB13.out.trans (hb14.mono HB13.out.size))
        have hz14 := hb14.size
        clear hb14 HX13 HY13 HP13 HO13 HB13 XD k5
        cases kd with
        | true =>
          have XI := hide (within_c L n c l mb k w14 (HST.out.below HB14.out) (HF.out w14 HB14.out) HFW.out)
          obtain ⟨iw, hiw⟩ : ∃ x, withinP (nds l) (mb : Int) (k : Int) = x := ⟨_, rfl⟩
          rw [hiw] at XI
          have HIW : Hid ((isDir (nds l) (k : Int) && withinP (nds l) (mb : Int) (k : Int)) = iw) := hide (by rw [HKD.out, hiw]; rfl)
          have k5 := one_ HX14.out
          clear hiw
          go_wp2_with fail
          refine XI.out.mono ?_
          rintro e w15 ⟨rfl, hb15⟩
          have HX15 := hide (HX14.out.below hb15 HX14.out.lt)
          have HY15 := hide (HY14.out.below hb15 HY14.out.lt)
          have HP15 := hide (HP14.out.below hb15 HP14.out.lt)
          have HO15 := hide (HO14.out.below hb15)
          have HB15 := hide (HB14.out.trans (hb15.mono HB14.out.size))
          have hz15 := hb15.size
          clear hb15 HX14 HY14 HP14 HO14 HB14 XI k5
          cases iw with
          | true =>
            have hTe : T = (nds l, 32) := by rw [← HT.out]; exact ren_3 HH.out HEE.out HQ.out HIW.out
            subst hTe
            have k5 := one_ HP15.out
            have k6 := HY15.out.frozen 0
            have k7 := one_ HY15.out
            clear HT
            go_wp2_with fail
            refine bodyPost_ret (v := .tuple #[.agg #[.slice L' n c'], .int .i64 32]) (by simp only [results, Tryz.results16]; go_simp) rfl ?_
            refine ⟨_, _, _, _, rfl, OF.less (OF.far HO15.out (p := ⟨w.heap.size + 1, 0, none⟩) (by show w.heap.size + 1 < W1.heap.size; omega) _) (by omega), HRX.out, HB15.out.setCell (p := ⟨w.heap.size + 1, 0, none⟩) (by show w.heap.size ≤ w.heap.size + 1; omega) _⟩
          | false =>
            have XL := hide (lookup_c L n c l mb s w15 (HF.out w15 HB15.out) HFW.out hmb (at_sorted HCK.out hbl))
            obtain ⟨Q, hQ⟩ : ∃ Q, lkP (nds l) (mb : Int) s = Q := ⟨_, rfl⟩
            rw [hQ] at XL
            have HQ2 := hide hQ
            clear hQ
            obtain ⟨r, fo⟩ := Q
            dsimp only at XL
            have k5 := one_ HX15.out
            go_wp2_with fail
            refine XL.out.mono ?_
            rintro e w16 ⟨rfl, hb16⟩
            have HX16 := hide (HX15.out.below hb16 HX15.out.lt)
            have HY16 := hide (HY15.out.below hb16 HY15.out.lt)
            have HP16 := hide (HP15.out.below hb16 HP15.out.lt)
            have HO16 := hide (HO15.out.below hb16)
            have HB16 := hide (HB15.out.trans (hb16.mono HB15.out.size))
            have hz16 := hb16.size
            clear hb16 HX15 HY15 HP15 HO15 HB15 XL k5
            cases fo with
            | false =>
              obtain ⟨g, rfl, hgB, hgl⟩ := HO16.out.addr (by omega)
              have HR16 := HRX
              have hTe : T = (insP (remP (nds l) (ma : Int) old) (mb : Int) s (k : Int), 0) := by rw [← HT.out]; exact ren_7 HH.out HEE.out HQ.out HIW.out HQ2.out
              have HTE := hide hTe
              clear hTe HT
              have XM := hide (remove_c W1.heap.size w2.heap.size g n c' ma k X old w16 HO16.out HP16.out (by omega) (own_small HO16.out HFW.out HRX.out HCK.out) hma hk (by rw [HRX.out]; exact at_sorted HCK.out hal) (by rw [HRX.out]; exact HQ.out))
              go_wp2_with fail
              refine XM.out.mono ?_
              rintro e w17 ⟨rfl, X17, hO17, hR17, hP17, hb17⟩
              have HO17 := hide hO17
              have HR17 : Hid (nds X17 = remP (nds l) (ma : Int) old) := hide (by rw [hR17, HR16.out])
              have HP17 := hide hP17
              have HY17 := hide (HY16.out.below hb17 (by have := HY16.out.lt; omega))
              have HB17 := hide (HB16.out.trans (hb17.mono (by omega)))
              have hz17 := hb17.size
              clear hO17 hR17 hP17 hb17 XM HY16 HP16 HO16 HB16 
              have XM := hide (insert_c W1.heap.size w2.heap.size g n c' mb k X17 s w17 HO17.out HP17.out (by omega) (own_small2 HO17.out HR17.out (rem_small HCK.out (names_few HFW.out) (few_names HFW.out) hal HQ.out)) hmb hk)
              go_wp2_with fail
              refine XM.out.mono ?_
              rintro e w18 ⟨rfl, X18, hO18, hR18, hP18, hb18⟩
              have HO18 := hide hO18
              have HR18 : Hid (nds X18 = insP (remP (nds l) (ma : Int) old) (mb : Int) s (k : Int)) := hide (by rw [hR18, HR17.out])
              have HP18 := hide hP18
              have HY18 := hide (HY17.out.below hb18 (by have := HY17.out.lt; omega))
              have HB18 := hide (HB17.out.trans (hb18.mono (by omega)))
              have hz18 := hb18.size
              clear hO18 hR18 hP18 hb18 XM HY17 HP17 HO17 HB17 
              have hTe := HTE.out
              clear HTE
              subst hTe
              have k8 := one_ HP18.out
              have k6 := HY18.out.frozen 0
              have k7 := one_ HY18.out
              go_wp2_with fail
              refine bodyPost_ret (v := .tuple #[.agg #[.slice (some ⟨g, 0, none⟩) n c'], .int .i64 0]) (by simp only [results, Tryz.results16]; go_simp) rfl ?_
              refine ⟨_, _, _, _, rfl, OF.less (OF.far HO18.out (p := ⟨w.heap.size + 1, 0, none⟩) (by show w.heap.size + 1 < W1.heap.size; omega) _) (by omega), HR18.out, HB18.out.setCell (p := ⟨w.heap.size + 1, 0, none⟩) (by show w.heap.size ≤ w.heap.size + 1; omega) _⟩
            | true =>
            obtain ⟨q, rfl, hql⟩ := lk_in HCK.out hbl HQ2.out
            have hq : q < n := by have := HLN.out; omega
            by_cases hqk : (q : Int) = (k : Int)
            · have hqkb : ((q : Int) == (k : Int)) = true := beq_iff_eq.2 hqk
              have hQ3 : lkP (nds l) (mb : Int) s = ((k : Int), true) := by rw [HQ2.out, hqk]
              have HQ3 := hide hQ3
              clear hQ3 HQ2 hqk
              have hTe : T = (nds l, 0) := by rw [← HT.out]; exact ren_4 HH.out HEE.out HQ.out HIW.out HQ3.out
              subst hTe
              have k5 := one_ HP16.out
              have k6 := HY16.out.frozen 0
              have k7 := one_ HY16.out
              clear HT
              go_wp2_with fail
              refine bodyPost_ret (v := .tuple #[.agg #[.slice L' n c'], .int .i64 0]) (by simp only [results, Tryz.results16]; go_simp) rfl ?_
              refine ⟨_, _, _, _, rfl, OF.less (OF.far HO16.out (p := ⟨w.heap.size + 1, 0, none⟩) (by show w.heap.size + 1 < W1.heap.size; omega) _) (by omega), HRX.out, HB16.out.setCell (p := ⟨w.heap.size + 1, 0, none⟩) (by show w.heap.size ≤ w.heap.size + 1; omega) _⟩
            · have hqkb : ((q : Int) == (k : Int)) = false := beq_eq_false_iff_ne.2 hqk
              have HQK := hide hqk
              have XP := hide (replace_c L n c l k q w16 (HF.out w16 HB16.out) hk hq)
              obtain ⟨E2, hE2⟩ : ∃ E, replaceP (nds l) (k : Int) (q : Int) = E := ⟨_, rfl⟩
              rw [hE2] at XP
              have HE2 := hide hE2
              have k5 := one_ HX16.out
              clear hE2 hqk
              go_wp2_with fail
              refine XP.out.mono ?_
              rintro e w17 ⟨rfl, hb17⟩
              have HX17 := hide (HX16.out.below hb17 HX16.out.lt)
              have HY17 := hide (HY16.out.below hb17 HY16.out.lt)
              have HP17 := hide (HP16.out.below hb17 HP16.out.lt)
              have HO17 := hide (HO16.out.below hb17)
              have HB17 := hide (HB16.out.trans (hb17.mono HB16.out.size))
              have hz17 := hb17.size
              clear hb17 HX16 HY16 HP16 HO16 HB16 XP k5
              by_cases h2 : E2 = 0
              · subst h2
                have hmid := ren_mid HCK.out hal hbl HQ.out HQ2.out HQK.out HE2.out
                have HMID := hide hmid
                obtain ⟨g, rfl, hgB, hgl⟩ := HO17.out.addr (by omega)
                have HR17 := HRX
                have hTe : T = (insP (remP (remP (nds l) (mb : Int) s) (ma : Int) old) (mb : Int) s (k : Int), 0) := by rw [← HT.out]; exact ren_6 HH.out HEE.out HQ.out HIW.out HQ2.out HQK.out HE2.out
                have HTE := hide hTe
                clear hTe HT hmid hqkb
                have XM := hide (remove_c W1.heap.size w2.heap.size g n c' mb q X s w17 HO17.out HP17.out (by omega) (own_small HO17.out HFW.out HRX.out HCK.out) hmb hq (by rw [HRX.out]; exact at_sorted HCK.out hbl) (by rw [HRX.out]; exact HQ2.out))
                go_wp2_with fail
                refine XM.out.mono ?_
                rintro e w18 ⟨rfl, X18, hO18, hR18, hP18, hb18⟩
                have HO18 := hide hO18
                have HR18 : Hid (nds X18 = remP (nds l) (mb : Int) s) := hide (by rw [hR18, HR17.out])
                have HP18 := hide hP18
                have HY18 := hide (HY17.out.below hb18 (by have := HY17.out.lt; omega))
                have HB18 := hide (HB17.out.trans (hb18.mono (by omega)))
                have hz18 := hb18.size
                clear hO18 hR18 hP18 hb18 XM HY17 HP17 HO17 HB17 
                have XM := hide (remove_c W1.heap.size w2.heap.size g n c' ma k X18 old w18 HO18.out HP18.out (by omega) (own_small2 HO18.out HR18.out (rem_small HCK.out (names_few HFW.out) (few_names HFW.out) hbl HQ2.out)) hma hk (by rw [HR18.out]; exact at_sorted HMID.out.1 (by rw [HMID.out.2.2.1]; exact hal)) (by rw [HR18.out]; exact HMID.out.2.1))
                go_wp2_with fail
                refine XM.out.mono ?_
                rintro e w19 ⟨rfl, X19, hO19, hR19, hP19, hb19⟩
                have HO19 := hide hO19
                have HR19 : Hid (nds X19 = remP (remP (nds l) (mb : Int) s) (ma : Int) old) := hide (by rw [hR19, HR18.out])
                have HP19 := hide hP19
                have HY19 := hide (HY18.out.below hb19 (by have := HY18.out.lt; omega))
                have HB19 := hide (HB18.out.trans (hb19.mono (by omega)))
                have hz19 := hb19.size
                clear hO19 hR19 hP19 hb19 XM HY18 HP18 HO18 HB18 
                have XM := hide (insert_c W1.heap.size w2.heap.size g n c' mb k X19 s w19 HO19.out HP19.out (by omega) (own_small2 HO19.out HR19.out (rem_small HMID.out.1 (Nat.le_trans HMID.out.2.2.2.1 (names_few HFW.out)) (HMID.out.2.2.2.2 200 (few_names HFW.out)) (by rw [HMID.out.2.2.1]; exact hal) HMID.out.2.1)) hmb hk)
                go_wp2_with fail
                refine XM.out.mono ?_
                rintro e w20 ⟨rfl, X20, hO20, hR20, hP20, hb20⟩
                have HO20 := hide hO20
                have HR20 : Hid (nds X20 = insP (remP (remP (nds l) (mb : Int) s) (ma : Int) old) (mb : Int) s (k : Int)) := hide (by rw [hR20, HR19.out])
                have HP20 := hide hP20
                have HY20 := hide (HY19.out.below hb20 (by have := HY19.out.lt; omega))
                have HB20 := hide (HB19.out.trans (hb20.mono (by omega)))
                have hz20 := hb20.size
                clear hO20 hR20 hP20 hb20 XM HY19 HP19 HO19 HB19 
                have hTe := HTE.out
                clear HTE
                subst hTe
                have k8 := one_ HP20.out
                have k6 := HY20.out.frozen 0
                have k7 := one_ HY20.out
                go_wp2_with fail
                refine bodyPost_ret (v := .tuple #[.agg #[.slice (some ⟨g, 0, none⟩) n c'], .int .i64 0]) (by simp only [results, Tryz.results16]; go_simp) rfl ?_
                refine ⟨_, _, _, _, rfl, OF.less (OF.far HO20.out (p := ⟨w.heap.size + 1, 0, none⟩) (by show w.heap.size + 1 < W1.heap.size; omega) _) (by omega), HR20.out, HB20.out.setCell (p := ⟨w.heap.size + 1, 0, none⟩) (by show w.heap.size ≤ w.heap.size + 1; omega) _⟩
              · have hEb : (E2 != 0) = true := bne_iff_ne.2 h2
                have H2 := hide h2
                clear h2 hqkb
                have hTe : T = (nds l, E2) := by rw [← HT.out]; exact ren_5 HH.out HEE.out HQ.out HIW.out HQ2.out HQK.out HE2.out H2.out
                subst hTe
                have k5 := one_ HP17.out
                have k6 := HY17.out.frozen 0
                have k7 := one_ HY17.out
                clear HT
                go_wp2_with fail
                refine bodyPost_ret (v := .tuple #[.agg #[.slice L' n c'], .int .i64 E2]) (by simp only [results, Tryz.results16]; go_simp) rfl ?_
                refine ⟨_, _, _, _, rfl, OF.less (OF.far HO17.out (p := ⟨w.heap.size + 1, 0, none⟩) (by show w.heap.size + 1 < W1.heap.size; omega) _) (by omega), HRX.out, HB17.out.setCell (p := ⟨w.heap.size + 1, 0, none⟩) (by show w.heap.size ≤ w.heap.size + 1; omega) _⟩
        | false =>
          have HIW : Hid ((isDir (nds l) (k : Int) && withinP (nds l) (mb : Int) (k : Int)) = false) := hide (by rw [HKD.out]; rfl)
          have XL := hide (lookup_c L n c l mb s w14 (HF.out w14 HB14.out) HFW.out hmb (at_sorted HCK.out hbl))
          obtain ⟨Q, hQ⟩ : ∃ Q, lkP (nds l) (mb : Int) s = Q := ⟨_, rfl⟩
          rw [hQ] at XL
          have HQ2 := hide hQ
          clear hQ
          obtain ⟨r, fo⟩ := Q
          dsimp only at XL
          have k5 := one_ HX14.out
          go_wp2_with fail
          refine XL.out.mono ?_
          rintro e w15 ⟨rfl, hb15⟩
          have HX15 := hide (HX14.out.below hb15 HX14.out.lt)
          have HY15 := hide (HY14.out.below hb15 HY14.out.lt)
          have HP15 := hide (HP14.out.below hb15 HP14.out.lt)
          have HO15 := hide (HO14.out.below hb15)
          have HB15 := hide (HB14.out.trans (hb15.mono HB14.out.size))
          have hz15 := hb15.size
          clear hb15 HX14 HY14 HP14 HO14 HB14 XL k5
          cases fo with
          | false =>
            obtain ⟨g, rfl, hgB, hgl⟩ := HO15.out.addr (by omega)
            have HR15 := HRX
            have hTe : T = (insP (remP (nds l) (ma : Int) old) (mb : Int) s (k : Int), 0) := by rw [← HT.out]; exact ren_7 HH.out HEE.out HQ.out HIW.out HQ2.out
            have HTE := hide hTe
            clear hTe HT
            have XM := hide (remove_c W1.heap.size w2.heap.size g n c' ma k X old w15 HO15.out HP15.out (by omega) (own_small HO15.out HFW.out HRX.out HCK.out) hma hk (by rw [HRX.out]; exact at_sorted HCK.out hal) (by rw [HRX.out]; exact HQ.out))
            go_wp2_with fail
            refine XM.out.mono ?_
            rintro e w16 ⟨rfl, X16, hO16, hR16, hP16, hb16⟩
            have HO16 := hide hO16
            have HR16 : Hid (nds X16 = remP (nds l) (ma : Int) old) := hide (by rw [hR16, HR15.out])
            have HP16 := hide hP16
            have HY16 := hide (HY15.out.below hb16 (by have := HY15.out.lt; omega))
            have HB16 := hide (HB15.out.trans (hb16.mono (by omega)))
            have hz16 := hb16.size
            clear hO16 hR16 hP16 hb16 XM HY15 HP15 HO15 HB15 
            have XM := hide (insert_c W1.heap.size w2.heap.size g n c' mb k X16 s w16 HO16.out HP16.out (by omega) (own_small2 HO16.out HR16.out (rem_small HCK.out (names_few HFW.out) (few_names HFW.out) hal HQ.out)) hmb hk)
            go_wp2_with fail
            refine XM.out.mono ?_
            rintro e w17 ⟨rfl, X17, hO17, hR17, hP17, hb17⟩
            have HO17 := hide hO17
            have HR17 : Hid (nds X17 = insP (remP (nds l) (ma : Int) old) (mb : Int) s (k : Int)) := hide (by rw [hR17, HR16.out])
            have HP17 := hide hP17
            have HY17 := hide (HY16.out.below hb17 (by have := HY16.out.lt; omega))
            have HB17 := hide (HB16.out.trans (hb17.mono (by omega)))
            have hz17 := hb17.size
            clear hO17 hR17 hP17 hb17 XM HY16 HP16 HO16 HB16 
            have hTe := HTE.out
            clear HTE
            subst hTe
            have k8 := one_ HP17.out
            have k6 := HY17.out.frozen 0
            have k7 := one_ HY17.out
            go_wp2_with fail
            refine bodyPost_ret (v := .tuple #[.agg #[.slice (some ⟨g, 0, none⟩) n c'], .int .i64 0]) (by simp only [results, Tryz.results16]; go_simp) rfl ?_
            refine ⟨_, _, _, _, rfl, OF.less (OF.far HO17.out (p := ⟨w.heap.size + 1, 0, none⟩) (by show w.heap.size + 1 < W1.heap.size; omega) _) (by omega), HR17.out, HB17.out.setCell (p := ⟨w.heap.size + 1, 0, none⟩) (by show w.heap.size ≤ w.heap.size + 1; omega) _⟩
          | true =>
          obtain ⟨q, rfl, hql⟩ := lk_in HCK.out hbl HQ2.out
          have hq : q < n := by have := HLN.out; omega
          by_cases hqk : (q : Int) = (k : Int)
          · have hqkb : ((q : Int) == (k : Int)) = true := beq_iff_eq.2 hqk
            have hQ3 : lkP (nds l) (mb : Int) s = ((k : Int), true) := by rw [HQ2.out, hqk]
            have HQ3 := hide hQ3
            clear hQ3 HQ2 hqk
            have hTe : T = (nds l, 0) := by rw [← HT.out]; exact ren_4 HH.out HEE.out HQ.out HIW.out HQ3.out
            subst hTe
            have k5 := one_ HP15.out
            have k6 := HY15.out.frozen 0
            have k7 := one_ HY15.out
            clear HT
            go_wp2_with fail
            refine bodyPost_ret (v := .tuple #[.agg #[.slice L' n c'], .int .i64 0]) (by simp only [results, Tryz.results16]; go_simp) rfl ?_
            refine ⟨_, _, _, _, rfl, OF.less (OF.far HO15.out (p := ⟨w.heap.size + 1, 0, none⟩) (by show w.heap.size + 1 < W1.heap.size; omega) _) (by omega), HRX.out, HB15.out.setCell (p := ⟨w.heap.size + 1, 0, none⟩) (by show w.heap.size ≤ w.heap.size + 1; omega) _⟩
          · have hqkb : ((q : Int) == (k : Int)) = false := beq_eq_false_iff_ne.2 hqk
            have HQK := hide hqk
            have XP := hide (replace_c L n c l k q w15 (HF.out w15 HB15.out) hk hq)
            obtain ⟨E2, hE2⟩ : ∃ E, replaceP (nds l) (k : Int) (q : Int) = E := ⟨_, rfl⟩
            rw [hE2] at XP
            have HE2 := hide hE2
            have k5 := one_ HX15.out
            clear hE2 hqk
            go_wp2_with fail
            refine XP.out.mono ?_
            rintro e w16 ⟨rfl, hb16⟩
            have HX16 := hide (HX15.out.below hb16 HX15.out.lt)
            have HY16 := hide (HY15.out.below hb16 HY15.out.lt)
            have HP16 := hide (HP15.out.below hb16 HP15.out.lt)
            have HO16 := hide (HO15.out.below hb16)
            have HB16 := hide (HB15.out.trans (hb16.mono HB15.out.size))
            have hz16 := hb16.size
            clear hb16 HX15 HY15 HP15 HO15 HB15 XP k5
            by_cases h2 : E2 = 0
            · subst h2
              have hmid := ren_mid HCK.out hal hbl HQ.out HQ2.out HQK.out HE2.out
              have HMID := hide hmid
              obtain ⟨g, rfl, hgB, hgl⟩ := HO16.out.addr (by omega)
              have HR16 := HRX
              have hTe : T = (insP (remP (remP (nds l) (mb : Int) s) (ma : Int) old) (mb : Int) s (k : Int), 0) := by rw [← HT.out]; exact ren_6 HH.out HEE.out HQ.out HIW.out HQ2.out HQK.out HE2.out
              have HTE := hide hTe
              clear hTe HT hmid hqkb
              have XM := hide (remove_c W1.heap.size w2.heap.size g n c' mb q X s w16 HO16.out HP16.out (by omega) (own_small HO16.out HFW.out HRX.out HCK.out) hmb hq (by rw [HRX.out]; exact at_sorted HCK.out hbl) (by rw [HRX.out]; exact HQ2.out))
              go_wp2_with fail
              refine XM.out.mono ?_
              rintro e w17 ⟨rfl, X17, hO17, hR17, hP17, hb17⟩
              have HO17 := hide hO17
              have HR17 : Hid (nds X17 = remP (nds l) (mb : Int) s) := hide (by rw [hR17, HR16.out])
              have HP17 := hide hP17
              have HY17 := hide (HY16.out.below hb17 (by have := HY16.out.lt; omega))
              have HB17 := hide (HB16.out.trans (hb17.mono (by omega)))
              have hz17 := hb17.size
              clear hO17 hR17 hP17 hb17 XM HY16 HP16 HO16 HB16 
              have XM := hide (remove_c W1.heap.size w2.heap.size g n c' ma k X17 old w17 HO17.out HP17.out (by omega) (own_small2 HO17.out HR17.out (rem_small HCK.out (names_few HFW.out) (few_names HFW.out) hbl HQ2.out)) hma hk (by rw [HR17.out]; exact at_sorted HMID.out.1 (by rw [HMID.out.2.2.1]; exact hal)) (by rw [HR17.out]; exact HMID.out.2.1))
              go_wp2_with fail
              refine XM.out.mono ?_
              rintro e w18 ⟨rfl, X18, hO18, hR18, hP18, hb18⟩
              have HO18 := hide hO18
              have HR18 : Hid (nds X18 = remP (remP (nds l) (mb : Int) s) (ma : Int) old) := hide (by rw [hR18, HR17.out])
              have HP18 := hide hP18
              have HY18 := hide (HY17.out.below hb18 (by have := HY17.out.lt; omega))
              have HB18 := hide (HB17.out.trans (hb18.mono (by omega)))
              have hz18 := hb18.size
              clear hO18 hR18 hP18 hb18 XM HY17 HP17 HO17 HB17 
              have XM := hide (insert_c W1.heap.size w2.heap.size g n c' mb k X18 s w18 HO18.out HP18.out (by omega) (own_small2 HO18.out HR18.out (rem_small HMID.out.1 (Nat.le_trans HMID.out.2.2.2.1 (names_few HFW.out)) (HMID.out.2.2.2.2 200 (few_names HFW.out)) (by rw [HMID.out.2.2.1]; exact hal) HMID.out.2.1)) hmb hk)
              go_wp2_with fail
              refine XM.out.mono ?_
              rintro e w19 ⟨rfl, X19, hO19, hR19, hP19, hb19⟩
              have HO19 := hide hO19
              have HR19 : Hid (nds X19 = insP (remP (remP (nds l) (mb : Int) s) (ma : Int) old) (mb : Int) s (k : Int)) := hide (by rw [hR19, HR18.out])
              have HP19 := hide hP19
              have HY19 := hide (HY18.out.below hb19 (by have := HY18.out.lt; omega))
              have HB19 := hide (HB18.out.trans (hb19.mono (by omega)))
              have hz19 := hb19.size
              clear hO19 hR19 hP19 hb19 XM HY18 HP18 HO18 HB18 
              have hTe := HTE.out
              clear HTE
              subst hTe
              have k8 := one_ HP19.out
              have k6 := HY19.out.frozen 0
              have k7 := one_ HY19.out
              go_wp2_with fail
              refine bodyPost_ret (v := .tuple #[.agg #[.slice (some ⟨g, 0, none⟩) n c'], .int .i64 0]) (by simp only [results, Tryz.results16]; go_simp) rfl ?_
              refine ⟨_, _, _, _, rfl, OF.less (OF.far HO19.out (p := ⟨w.heap.size + 1, 0, none⟩) (by show w.heap.size + 1 < W1.heap.size; omega) _) (by omega), HR19.out, HB19.out.setCell (p := ⟨w.heap.size + 1, 0, none⟩) (by show w.heap.size ≤ w.heap.size + 1; omega) _⟩
            · have hEb : (E2 != 0) = true := bne_iff_ne.2 h2
              have H2 := hide h2
              clear h2 hqkb
              have hTe : T = (nds l, E2) := by rw [← HT.out]; exact ren_5 HH.out HEE.out HQ.out HIW.out HQ2.out HQK.out HE2.out H2.out
              subst hTe
              have k5 := one_ HP16.out
              have k6 := HY16.out.frozen 0
              have k7 := one_ HY16.out
              clear HT
              go_wp2_with fail
              refine bodyPost_ret (v := .tuple #[.agg #[.slice L' n c'], .int .i64 E2]) (by simp only [results, Tryz.results16]; go_simp) rfl ?_
              refine ⟨_, _, _, _, rfl, OF.less (OF.far HO16.out (p := ⟨w.heap.size + 1, 0, none⟩) (by show w.heap.size + 1 < W1.heap.size; omega) _) (by omega), HRX.out, HB16.out.setCell (p := ⟨w.heap.size + 1, 0, none⟩) (by show w.heap.size ≤ w.heap.size + 1; omega) _⟩
    · have hEb : (E != 0) = true := bne_iff_ne.2 h0
      have H0 := hide h0
      clear h0
      have hTe : T = (nds l, E) := by rw [← HT.out]; exact ren_1 HH.out HEE.out H0.out
      subst hTe
      have k5 := one_ HP11.out
      have k6 := HY11.out.frozen 0
      have k7 := one_ HY11.out
      clear HT
      go_wp2_with fail
      refine bodyPost_ret (v := .tuple #[.agg #[.slice L' n c'], .int .i64 E]) (by simp only [results, Tryz.results16]; go_simp) rfl ?_
      refine ⟨_, _, _, _, rfl, OF.less (OF.far HO11.out (p := ⟨w.heap.size + 1, 0, none⟩) (by show w.heap.size + 1 < W1.heap.size; omega) _) (by omega), HRX.out, HB11.out.setCell (p := ⟨w.heap.size + 1, 0, none⟩) (by show w.heap.size ≤ w.heap.size + 1; omega) _⟩
end Go.Proofs.YtlcoapignfmgcaaGreatDoor
namespace Go.Proofs.YtlcoapignfmgcaaGreatDoor
open Go.RowKit
set_option linter.unusedVariables false
section
variable {l : List ND} {k off : Int} {b : List UInt8}
theorem wr_0 {E : Int} (hE : fileP l k = E) (h0 : E ≠ 0) : writeP l k off b = (l, 0, E) := by
  unfold writeP; rw [hE, if_neg h0]
variable (hE : fileP l k = 0)
include hE
theorem wr_1 (h : off < 0 ∨ 4096 < off) : writeP l k off b = (l, 0, 2) := by
  unfold writeP; rw [if_pos hE, if_pos h]
theorem wr_2 (h : ¬ (off < 0 ∨ 4096 < off)) (hb : b = []) : writeP l k off b = (l, 0, 0) := by
  unfold writeP; rw [if_pos hE, if_neg h, if_pos hb]
theorem wr_3 (h : ¬ (off < 0 ∨ 4096 < off)) (hb : ¬ b = []) (h4 : off = 4096) : writeP l k off b = (l, 0, 35) := by
  unfold writeP; rw [if_pos hE, if_neg h, if_neg hb, if_pos h4]
theorem wr_4 (h : ¬ (off < 0 ∨ 4096 < off)) (hb : ¬ b = []) (h4 : ¬ off = 4096) : writeP l k off b = (modA l k fun n => { n with data := putB n.data off.toNat b }, min (b.length : Int) (4096 - off), 0) := by
  unfold writeP; rw [if_pos hE, if_neg h, if_neg hb, if_neg h4]
end
theorem made_u8 (n : Nat) : (madeCells (Value.int .u8 0).cells (n * 1)).toList = bv (List.replicate n 0) := by
  apply List.ext_getElem?
  intro j
  by_cases h : j < n
  · simp [madeCells, bv, h, Value.cells, Nat.mod_one]
  · simp [madeCells, bv, h]
theorem mkU (q : Nat) (hq : q ≤ 100000000) (W : World) : (Instr.makeSlice 25 (.int .i64 (q : Int)) (.int .i64 (q : Int))).run Tryz.prog W = .ok (.slice (some ⟨W.heap.size, 0, none⟩) q q) (W.alloc (.cells (bv (List.replicate q 0)).toArray 5)) := by
  obtain ⟨i, hi, hz, hs, hb⟩ := info_parts infoU8
  have := run_make_rowN (P := Tryz.prog) 25 5 i _ Tryz.underlying25 hi hz .i64 .i64 q q (Nat.le_refl _) (by rw [hb]; omega) (by omega) W
  rw [hs] at this
  rw [← made_u8, Array.toArray_toList]
  exact this
theorem sl_lhU (A : Option Addr) (n c q e : Nat) (hq : q ≤ e) (he : e ≤ c) (W : World) : (Instr.slice 25 (.slice A n c) (some (.int .i64 (q : Int))) (some (.int .i64 (e : Int))) none).run Tryz.prog W = .ok (.slice (aftU A c q) (e - q) (c - q)) W := by
  have hE : Tryz.prog.elem 25 = 5 := by simp [Program.elem, Tryz.underlying25]
  rw [run_slice_lh W 25 A n c (slice_ht Tryz.underlying25) .i64 .i64 (q : Int) (e : Int) (by omega) (by omega) (by omega), hE, run_sizeOf_one 5 sizeU8]
  simp [Result.andThen, sliced, aftU]
theorem rd_blk {w : World} {g n : Nat} {t : TypeId} {bs : List UInt8} (h : w.heap[g]? = some (.cells (bv bs).toArray t (0, 0))) (hn : bs.length = n) (hg : g < w.heap.size) : Rd w (some ⟨g, 0, none⟩) n bs := by
  refine ⟨by rw [bv_length, hn, Nat.mul_one], fun _ => ⟨_, rfl, hg, fun j v hj => ?_⟩⟩
  rw [at_add, Nat.zero_add, cell_of_row w g j _ t (0, 0) h]
  simpa using hj
theorem splice_bv (a b : List UInt8) (q : Nat) : splice (bv a) q (bv b) = bv (splice a q b) := by
  unfold splice
  simp only [bv, List.map_append, List.map_take, List.map_drop, List.length_map]
/-- The row that is made and filled is what a file holds behind a write. -/
theorem splice_put (old b : List UInt8) (q en tn : Nat) (hq : q ≤ 4096) (hen : en = min (q + b.length) 4096) (htn : tn = max old.length en) : splice (splice (List.replicate tn 0) 0 old) q (b.take (en - q)) = putB old q b := by
  unfold putB
  dsimp only
  have e1 : splice (List.replicate tn (0 : UInt8)) 0 old = old ++ List.replicate (tn - old.length) 0 := by
    unfold splice
    rw [List.take_zero, List.nil_append, Nat.zero_add, List.drop_replicate]
  have e2 : (old ++ List.replicate (tn - old.length) (0 : UInt8)).take q = old.take q ++ List.replicate (q - old.length) 0 := by
    rw [List.take_append, List.take_replicate]
    congr 2
    omega
  have hl : (b.take (en - q)).length = en - q := by rw [List.length_take]; omega
  have e3 : (old ++ List.replicate (tn - old.length) (0 : UInt8)).drop (q + (en - q)) = old.drop (q + min b.length (4096 - q)) := by
    rw [List.drop_append, List.drop_replicate]
    rw [show tn - old.length - (q + (en - q) - old.length) = 0 by omega, show q + (en - q) = q + min b.length (4096 - q) by omega]
    simp
  rw [e1]
  unfold splice
  rw [hl, e2, e3, show en - q = min b.length (4096 - q) by omega]
  simp
set_option maxRecDepth 100000 in
set_option maxHeartbeats 16000000 in
theorem write_c (L : Option Addr) (n c : Nat) (l : List DV) (d off : Int) (A : Option Addr) (bn bc : Nat) (b : List UInt8) (w : World) (hF : FsR w w.heap.size L n l) (hB : FewB l) (hA : Rd w A bn b) (hbn : bn ≤ 100000) :
    Calls Tryz.prog 18 #[.agg #[.slice L n c], .int .i64 d, .int .i64 off, .slice A bn bc] w (FsEnd w (writeP (nds l) d off b).1 [.int .i64 (writeP (nds l) d off b).2.1, .int .i64 (writeP (nds l) d off b).2.2]) := by
  have hl := hF.len
  have hln : (nds l).length = n := by rw [nds_length, hl]
  obtain ⟨W1, hW1⟩ : ∃ W, (w.alloc (.cells #[.slice L n c] 24)).alloc (.cells #[.slice none 0 0] 24) = W := ⟨_, rfl⟩
  have HX : Hid (Blk W1 w.heap.size 24 #[.slice L n c]) := hide (by rw [← hW1]; exact (Blk.new w _ _).alloc _)
  have HY : Hid (Blk W1 (w.heap.size + 1) 24 #[.slice none 0 0]) := hide (by rw [← hW1]; have := Blk.new (w.alloc (.cells #[.slice L n c] 24)) 24 #[.slice none 0 0]; simpa only [World.size_alloc] using this)
  have b1 : Below w.heap.size w W1 := by rw [← hW1]; exact ((Below.refl _ _).alloc (Nat.le_refl _) _).alloc (by simp) _
  have hsz : w.heap.size + 2 = W1.heap.size := by rw [← hW1]; simp
  have XF := hide (fs_any L n c l W1 ((hF.below b1).more b1.size) (small_of hF hB))
  have XC := hide (fun (W : World) (hW : Below w.heap.size w W) => file_c L n c l d W ((hF.below hW).more hW.size) hB)
  have HF := hide (fun (W : World) (hW : Below w.heap.size w W) => (hF.below hW).more hW.size)
  have HA := hide (fun (W : World) (hW : Below w.heap.size w W) => (Reads.below hA hW).more hW.size)
  have hbl := hA.len
  have HBL := hide hbl
  have HFW := hide hB
  have HB := hide b1
  have HLN := hide hln
  obtain ⟨T, hT⟩ : ∃ T, writeP (nds l) d off b = T := ⟨_, rfl⟩
  have HT := hide hT
  rw [hT]
  obtain ⟨E, hE⟩ : ∃ E, fileP (nds l) d = E := ⟨_, rfl⟩
  have HE := hide hE
  rw [hE] at XC
  have k0 := one_ HX.out
  have k1 := one_ HY.out
  clear hF hB b1 hl hln hE hT hA hbl
  go_enter Tryz.func18, Tryz.ntmps18
  go_wp2_with (rw [hW1])
  refine XF.out.mono ?_
  rintro e w2 ⟨L', c', X, rfl, hO, hR, hS, hb2⟩
  obtain ⟨W3, hW3⟩ : ∃ W, w2.alloc (.cells #[.slice L' n c'] 24) = W := ⟨_, rfl⟩
  have b3 : Below w2.heap.size w2 W3 := by rw [← hW3]; exact on_alloc _ _
  have HP3 : Hid (Blk W3 w2.heap.size 24 #[.slice L' n c']) := hide (by rw [← hW3]; exact Blk.new w2 _ _)
  have hz2 := hb2.size
  have HX3 := hide ((HX.out.below hb2 HX.out.lt).below b3 (Nat.lt_of_lt_of_le HX.out.lt hz2))
  have HY3 := hide ((HY.out.below hb2 HY.out.lt).below b3 (Nat.lt_of_lt_of_le HY.out.lt hz2))
  have HO3 := hide (hO.below b3)
  have HB3 := hide ((HB.out.trans (hb2.mono (by omega))).trans (b3.mono (by omega)))
  have X3 := hide (XC.out W3 HB3.out)
  have hz3 := b3.size
  have HRX : Hid (nds X = nds l) := hide hR
  have hpl := HP3.out.lt
  clear b3 hO hb2 XC XF HX HY k0 k1 hR hS HB
  have k0 := one_ HX3.out
  have k1 := one_ HY3.out
  have k2 := one_ HP3.out
  go_wp2_with (rw [hW3])
  refine X3.out.mono ?_
  rintro e w4 ⟨rfl, hb4⟩
  have HX4 := hide (HX3.out.below hb4 HX3.out.lt)
  have HO4 := hide (HO3.out.below hb4)
  have HY4 := hide (HY3.out.below hb4 HY3.out.lt)
  have HP4 := hide (HP3.out.below hb4 hpl)
  have HB4 := hide (HB3.out.trans (hb4.mono HB3.out.size))
  have hz4 := hb4.size
  clear hb4 X3 k0 k1 k2 HX3 HY3 HP3 HO3 HB3 hW3 hW1
  by_cases h0 : E = 0
  · subst h0
    obtain ⟨m, rfl, hml⟩ := file_in HE.out
    have hm : m < n := by have := HLN.out; omega
    by_cases ho : off < 0
    · have HH := hide (show off < 0 ∨ 4096 < off from .inl ho)
      have hTe : T = (nds l, 0, 2) := by rw [← HT.out]; exact wr_1 HE.out HH.out
      subst hTe
      have k5 := one_ HP4.out
      have k6 := HY4.out.frozen 0
      have k7 := one_ HY4.out
      clear HT
      go_wp2_with fail
      refine bodyPost_ret (v := .tuple #[.agg #[.slice L' n c'], .int .i64 0, .int .i64 2]) (by simp only [results, Tryz.results18]; go_simp) rfl ?_
      refine ⟨_, _, _, _, rfl, OF.less (OF.far HO4.out (p := ⟨w.heap.size + 1, 0, none⟩) (by show w.heap.size + 1 < W1.heap.size; omega) _) (by omega), HRX.out, HB4.out.setCell (p := ⟨w.heap.size + 1, 0, none⟩) (by show w.heap.size ≤ w.heap.size + 1; omega) _⟩
    by_cases ho2 : 4096 < off
    · have HH := hide (show off < 0 ∨ 4096 < off from .inr ho2)
      have hTe : T = (nds l, 0, 2) := by rw [← HT.out]; exact wr_1 HE.out HH.out
      subst hTe
      have k5 := one_ HP4.out
      have k6 := HY4.out.frozen 0
      have k7 := one_ HY4.out
      clear HT
      go_wp2_with fail
      refine bodyPost_ret (v := .tuple #[.agg #[.slice L' n c'], .int .i64 0, .int .i64 2]) (by simp only [results, Tryz.results18]; go_simp) rfl ?_
      refine ⟨_, _, _, _, rfl, OF.less (OF.far HO4.out (p := ⟨w.heap.size + 1, 0, none⟩) (by show w.heap.size + 1 < W1.heap.size; omega) _) (by omega), HRX.out, HB4.out.setCell (p := ⟨w.heap.size + 1, 0, none⟩) (by show w.heap.size ≤ w.heap.size + 1; omega) _⟩
    have HH := hide (show ¬ (off < 0 ∨ 4096 < off) from fun h => h.elim ho ho2)
    by_cases hb0 : bn = 0
    · have HNB : Hid (b = []) := hide (List.eq_nil_of_length_eq_zero (by rw [HBL.out, hb0]))
      have hbz : ((bn : Int) == 0) = true := beq_iff_eq.2 (by omega)
      clear hb0
      have hTe : T = (nds l, 0, 0) := by rw [← HT.out]; exact wr_2 HE.out HH.out HNB.out
      subst hTe
      have k5 := one_ HP4.out
      have k6 := HY4.out.frozen 0
      have k7 := one_ HY4.out
      clear HT
      go_wp2_with fail
      refine bodyPost_ret (v := .tuple #[.agg #[.slice L' n c'], .int .i64 0, .int .i64 0]) (by simp only [results, Tryz.results18]; go_simp) rfl ?_
      refine ⟨_, _, _, _, rfl, OF.less (OF.far HO4.out (p := ⟨w.heap.size + 1, 0, none⟩) (by show w.heap.size + 1 < W1.heap.size; omega) _) (by omega), HRX.out, HB4.out.setCell (p := ⟨w.heap.size + 1, 0, none⟩) (by show w.heap.size ≤ w.heap.size + 1; omega) _⟩
    have HNB : Hid (¬ b = []) := hide (fun e => hb0 (by rw [← HBL.out, e]; rfl))
    have hbz : ((bn : Int) == 0) = false := beq_eq_false_iff_ne.2 (by omega)
    by_cases h4 : off = 4096
    · have H4 := hide h4
      subst h4
      clear hb0
      have hTe : T = (nds l, 0, 35) := by rw [← HT.out]; exact wr_3 HE.out HH.out HNB.out H4.out
      subst hTe
      have k5 := one_ HP4.out
      have k6 := HY4.out.frozen 0
      have k7 := one_ HY4.out
      clear HT
      go_wp2_with fail
      refine bodyPost_ret (v := .tuple #[.agg #[.slice L' n c'], .int .i64 0, .int .i64 35]) (by simp only [results, Tryz.results18]; go_simp) rfl ?_
      refine ⟨_, _, _, _, rfl, OF.less (OF.far HO4.out (p := ⟨w.heap.size + 1, 0, none⟩) (by show w.heap.size + 1 < W1.heap.size; omega) _) (by omega), HRX.out, HB4.out.setCell (p := ⟨w.heap.size + 1, 0, none⟩) (by show w.heap.size ≤ w.heap.size + 1; omega) _⟩
    have h4b : (off == 4096) = false := beq_eq_false_iff_ne.2 h4
    have H4 := hide h4
    obtain ⟨q, rfl⟩ : ∃ q : Nat, off = (q : Int) := ⟨off.toNat, by omega⟩
    have hq : q < 4096 := by omega
    obtain ⟨en, HEN⟩ : ∃ en, Hid (en = min (q + bn) 4096) := ⟨_, hide rfl⟩
    have hmin : min ((q : Int) + (bn : Int)) 4096 = (en : Int) := by have := HEN.out; omega
    have hwr : IntKind.i64.wrap ((q : Int) + (bn : Int)) = (q : Int) + (bn : Int) := by simp [IntKind.wrap, IntKind.bits, IntKind.signed]; omega
    obtain ⟨g0, o0, y, hL, hg0, hy, hyok, hyc⟩ := (HF.out w4 HB4.out).at_ hm
    subst hL
    obtain ⟨d0, d1, d2, d3, d4, d5⟩ := hyc
    have i1 := fun W => nd_at g0 o0 n c m (m : Int) rfl hm W
    have hym := List.mem_of_getElem? hy
    have hyf := (HFW.out.each y hym).d
    have hyl := hyok.dl
    have HYL := hide hyl
    have hydn : y.dn ≤ 5000 := by omega
    obtain ⟨tn, HTN⟩ : ∃ tn, Hid (tn = max y.dn en) := ⟨_, hide rfl⟩
    have hmax : max (y.dn : Int) (en : Int) = (tn : Int) := by have := HTN.out; omega
    have htn : tn ≤ 100000000 := by have := HTN.out; have := HEN.out; omega
    have hen1 : q ≤ en := by have := HEN.out; omega
    have hen2 : en ≤ tn := by have := HTN.out; omega
    obtain ⟨W5, hW5⟩ : ∃ W, w4.alloc (.cells (bv (List.replicate tn 0)).toArray 5) = W := ⟨_, rfl⟩
    have hmk := mkU tn htn w4
    rw [hW5] at hmk
    have hN5 : W5.heap[w4.heap.size]? = some (.cells (bv (List.replicate tn 0)).toArray 5 (0, 0)) := by rw [← hW5]; exact Blk.new w4 _ _
    have hb5 : Below w4.heap.size w4 W5 := by rw [← hW5]; exact on_alloc _ _
    have hYD := hyok.d.below hb5
    have HRY : Hid (ndAt (nds l) (m : Int) = y.r) := hide (by rw [nds_at hy])
    have hsl := fun W => sl_lhU (some ⟨w4.heap.size, 0, none⟩) tn tn q en hen1 hen2 W
    obtain ⟨D, HD⟩ : ∃ D, Hid (D = aftU (some ⟨w4.heap.size, 0, none⟩) tn q) := ⟨_, hide rfl⟩
    rw [← HD.out] at hsl
    have HN5 := hide hN5
    have HB5 := hide hb5
    have HYD := hide hYD
    obtain ⟨g, rfl, hgB, hgl⟩ := HO4.out.addr (by omega)
    have k0 := one_ HX4.out
    clear hW5 hN5 hb5 hYD hyok hym hy hyl h4 ho ho2
    go_wp2_with (first | rw [hmin] | rw [hmax] | (with_reducible refine wpList_copy_splice rfl (.tmp 56) (.tmp 57) 25 25 rfl 5 Tryz.underlying25 sizeU8 (some ⟨w4.heap.size, 0, none⟩) y.D tn tn y.dn y.dc rfl rfl w4.heap.size 0 (bv (List.replicate tn 0)) 5 ?hg (bv y.r.data) ?hn ?hp ?hf (bv_one _) w4.heap.size w4 ?hb ?hB ?_))
    case hg => exact HN5.out
    case hn => rw [bv_length, HYL.out]; exact (Nat.min_eq_left (by have := HTN.out; omega)).symm
    case hp =>
      intro hpos
      rw [bv_length, HYL.out] at hpos
      obtain ⟨ad, e1, _, hc⟩ := HYD.out.2 hpos
      first | exact ⟨rfl, ad, e1, hc⟩ | exact ⟨ad, e1, hc⟩
    case hf => rw [bv_length, bv_length, HYL.out, List.length_replicate]; have := HTN.out; omega
    case hb => exact HB5.out
    case hB => exact Nat.le_refl _
    intro w6 HC6 hbel6
    have HB6 := hide hbel6
    have HAb := hide (HA.out w6 (HB4.out.trans (hbel6.mono HB4.out.size)))
    obtain ⟨en2, HE2⟩ : ∃ x, Hid (x = en - q) := ⟨_, hide rfl⟩
    obtain ⟨tq, HTQ⟩ : ∃ x, Hid (x = tn - q) := ⟨_, hide rfl⟩
    rw [← HE2.out, ← HTQ.out] at hsl
    have hbt : Hid ((b.take en2).length = en2) := hide (by rw [List.length_take, HBL.out]; have := HEN.out; have := HE2.out; omega)
    clear hbel6 hmk k0 d0 d1 d2 d3 d4 d5 i1 hmin hmax hwr
    go_wp2_with (with_reducible refine wpList_copy_splice rfl (.tmp 62) (.tmp 63) 25 25 rfl 5 Tryz.underlying25 sizeU8 D A en2 tq bn bc rfl rfl w4.heap.size q (splice (bv (List.replicate tn 0)) 0 (bv y.r.data)) 5 ?j1 (bv (b.take en2)) ?j2 ?j3 ?j4 (bv_one _) w4.heap.size w4 ?j5 ?j6 ?_)
    case j1 => exact HC6.out
    case j2 => rw [bv_length, hbt.out]; exact (Nat.min_eq_right (by have := HEN.out; have := HE2.out; omega)).symm
    case j3 =>
      intro hpos
      rw [bv_length, hbt.out] at hpos
      obtain ⟨ad, e1, _, hc⟩ := HAb.out.2 (by omega)
      refine ⟨?_, ad, e1, fun j v hj => hc j v ?_⟩
      · rw [HD.out]
        unfold aftU
        rw [if_neg (by have := HE2.out; omega)]
        unfold Addr.add
        by_cases hn0 : q = 0 <;> simp [hn0]
      · rw [bv_take, List.getElem?_take] at hj
        split at hj
        · exact hj
        · cases hj
    case j4 => rw [length_splice _ _ _ (by rw [bv_length, bv_length, HYL.out, List.length_replicate]; have := HTN.out; omega)]; simp only [bv_length, hbt.out, List.length_replicate]; have := HE2.out; omega
    case j5 => exact HB6.out
    case j6 => exact Nat.le_refl _
    intro w7 HC7 hbel7
    have hlen : (bv (b.take en2)).length = en2 := by rw [bv_length, hbt.out]
    have hsp : splice (splice (bv (List.replicate tn 0)) 0 (bv y.r.data)) q (bv (b.take en2)) = bv (putB y.r.data q b) := by
      rw [splice_bv, splice_bv, HE2.out, splice_put y.r.data b q en tn (by omega) (by rw [HBL.out]; exact HEN.out) (by rw [HYL.out]; exact HTN.out)]
    rw [hsp] at HC7
    have hpl7 : (putB y.r.data q b).length = tn := by
      have := congrArg List.length hsp
      rw [length_splice _ _ _ (by rw [length_splice _ _ _ (by rw [bv_length, bv_length, HYL.out, List.length_replicate]; have := HTN.out; omega)]; simp only [bv_length, hbt.out, List.length_replicate]; have := HE2.out; omega), length_splice _ _ _ (by rw [bv_length, bv_length, HYL.out, List.length_replicate]; have := HTN.out; omega), bv_length, bv_length, List.length_replicate] at this
      exact this.symm
    have HPL := hide hpl7
    have HX7 := hide (HX4.out.below hbel7 HX4.out.lt)
    have HY7 := hide (HY4.out.below hbel7 HY4.out.lt)
    have HP7 := hide (HP4.out.below hbel7 HP4.out.lt)
    have HO7 := hide (HO4.out.below hbel7)
    have HB7 := hide (HB4.out.trans (hbel7.mono HB4.out.size))
    have hz7 := hbel7.size
    have hnl : w4.heap.size < w7.heap.size := by
      rcases Nat.lt_or_ge w4.heap.size w7.heap.size with h | h
      · exact h
      · have := HC7.out; rw [Array.getElem?_eq_none h] at this; cases this
    clear hbel7 hsp hsl HX4 HY4 HP4 HO4 HB4 HC6 HB6 HB5 HN5 HYD
    obtain ⟨x, hx⟩ : ∃ x, X[m]? = some x := ⟨_, List.getElem?_eq_getElem (by have := HO7.out.len; omega)⟩
    have hxm := List.mem_of_getElem? hx
    obtain ⟨⟨-, -, -, c3, -, -⟩, hfz⟩ := HO7.out.cells hx
    have i1 := fun W => nd_at0 g n c' m (m : Int) rfl hm W
    have hpg : w2.heap.size ≠ g := by
      have := own_blk_ne HO7.out.own HP7.out (by decide)
      intro e
      exact this (by rw [e]; rfl)
    have hxlo := HO7.out.lo x hxm
    have hxok := HO7.out.ok x hxm
    have hxof := HO7.out.off _ rfl x hxm
    have hxr : x.r = y.r := by
      have h1 : ndAt (nds X) (m : Int) = x.r := nds_at hx
      rw [HRX.out, HRY.out] at h1
      exact h1.symm
    have HO8 := hide (HO7.out.put (k := m) (j := 3) (x' := ⟨{ x.r with data := putB y.r.data q b }, some ⟨w4.heap.size, 0, none⟩, tn, tn, x.M, x.mn, x.mc⟩) (v := .slice (some ⟨w4.heap.size, 0, none⟩) tn tn) hm (by omega) (fun y hy => by rw [hx] at hy; injection hy with hy; subst hy; rfl)
      ⟨rd_blk HC7.out HPL.out hnl, hxok.n⟩ ⟨fun _ ad e => by injection e with e; subst e; show w4.heap.size ≠ g; omega, hxof.2⟩ ⟨fun _ ad e => by injection e with e; subst e; show W1.heap.size ≤ w4.heap.size; omega, hxlo.2.1, Nat.le_refl _, hxlo.2.2.2⟩)
    have hfx := hfz (m * 6 + 3)
    have hTe : T = (modA (nds l) (m : Int) fun n => { n with data := putB n.data q b }, (en2 : Int), 0) := by
      rw [← HT.out, wr_4 HE.out HH.out HNB.out H4.out, Int.toNat_natCast, show min (b.length : Int) (4096 - (q : Int)) = (en2 : Int) by have := HBL.out; have := HEN.out; have := HE2.out; omega]
    have hls : nds (X.set m ⟨{ x.r with data := putB y.r.data q b }, some ⟨w4.heap.size, 0, none⟩, tn, tn, x.M, x.mn, x.mc⟩) = modA (nds l) (m : Int) fun n => { n with data := putB n.data q b } := by
      unfold modA
      rw [nds_set, HRX.out, HRY.out, hxr]
      rfl
    have HLS := hide hls
    have HY8 := hide (HY7.out.far (p := ⟨g, m * 6 + 3, none⟩) (by show w.heap.size + 1 ≠ g; omega) (.slice (some ⟨w4.heap.size, 0, none⟩) tn tn))
    have HP8 := hide (HP7.out.far (p := ⟨g, m * 6 + 3, none⟩) hpg (.slice (some ⟨w4.heap.size, 0, none⟩) tn tn))
    have HB8 := hide (HB7.out.setCell (p := ⟨g, m * 6 + 3, none⟩) (by show w.heap.size ≤ g; omega) (.slice (some ⟨w4.heap.size, 0, none⟩) tn tn))
    obtain ⟨w8, hw8⟩ : ∃ W, w7.setCell ⟨g, m * 6 + 3, none⟩ (.slice (some ⟨w4.heap.size, 0, none⟩) tn tn) = W := ⟨_, rfl⟩
    have k4 := one_ HP7.out
    rw [hw8] at HO8 HY8 HP8 HB8
    have k5 := one_ HP8.out
    have k6 := HY8.out.frozen 0
    have k7 := one_ HY8.out
    clear hfz hxlo hxok hxof hx hxm HY7 HP7 HB7 HO7 HE hls HT HC7 HX7 hxr hen1 hen2
    subst hTe
    go_wp2_with (rw [hw8])
    refine bodyPost_ret (v := .tuple #[.agg #[.slice (some ⟨g, 0, none⟩) n c'], .int .i64 (en2 : Int), .int .i64 0]) (by simp only [results, Tryz.results18]; go_simp) rfl ?_
    refine ⟨_, _, _, _, rfl, OF.less (OF.far HO8.out (p := ⟨w.heap.size + 1, 0, none⟩) (by show w.heap.size + 1 < W1.heap.size; omega) _) (by omega), HLS.out, HB8.out.setCell (p := ⟨w.heap.size + 1, 0, none⟩) (by show w.heap.size ≤ w.heap.size + 1; omega) _⟩
  · have hEb : (E == 0) = false := beq_eq_false_iff_ne.2 h0
    have hEb2 : (E != 0) = true := bne_iff_ne.2 h0
    have H0 := hide h0
    clear h0
    have hTe : T = (nds l, 0, E) := by rw [← HT.out]; exact wr_0 HE.out H0.out
    subst hTe
    have k5 := one_ HP4.out
    have k6 := HY4.out.frozen 0
    have k7 := one_ HY4.out
    clear HT
    go_wp2_with fail
    refine bodyPost_ret (v := .tuple #[.agg #[.slice L' n c'], .int .i64 0, .int .i64 E]) (by simp only [results, Tryz.results18]; go_simp) rfl ?_
    refine ⟨_, _, _, _, rfl, OF.less (OF.far HO4.out (p := ⟨w.heap.size + 1, 0, none⟩) (by show w.heap.size + 1 < W1.heap.size; omega) _) (by omega), HRX.out, HB4.out.setCell (p := ⟨w.heap.size + 1, 0, none⟩) (by show w.heap.size ≤ w.heap.size + 1; omega) _⟩
end Go.Proofs.YtlcoapignfmgcaaGreatDoor
