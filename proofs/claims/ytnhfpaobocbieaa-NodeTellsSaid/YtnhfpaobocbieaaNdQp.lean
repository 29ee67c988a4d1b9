/- The document's Check: plain. -/
import Derived.Test.YtnhfpaobocbieaaNdQa
namespace Go.Proofs.Ytnhfpaobocbieaa
set_option linter.unusedVariables false
def prI (l : List ND) (i : Nat) : List (Nat × Int) := (ndAt l (i : Int)).names.map fun y => (i, y.node)
def prs (l : List ND) (n : Nat) : List (Nat × Int) := (List.range n).flatMap (prI l)
/-- The names of the first nodes, and the first names of the next. -/
def prN (l : List ND) (i k : Nat) : List (Nat × Int) := prs l i ++ (prI l i).take k
theorem prN_zero (l : List ND) (i : Nat) : prN l i 0 = prs l i := by simp [prN]
theorem prN_next {l : List ND} {i k : Nat} (h : (ndAt l (i : Int)).names.length ≤ k) : prN l i k = prs l (i + 1) := by
  unfold prN
  rw [List.take_of_length_le (by unfold prI; rw [List.length_map]; exact h)]
  unfold prs
  rw [List.range_succ, List.flatMap_append]
  simp
theorem prN_succ {l : List ND} {i k : Nat} {y : NM} (h : (ndAt l (i : Int)).names[k]? = some y) : prN l i (k + 1) = prN l i k ++ [(i, y.node)] := by
  unfold prN
  have h2 : (prI l i)[k]? = some (i, y.node) := by unfold prI; rw [List.getElem?_map, h]; rfl
  obtain ⟨h3, h4⟩ := List.getElem?_eq_some_iff.1 h2
  rw [List.take_succ_eq_append_getElem h3, h4, List.append_assoc]
def cN (ps : List (Nat × Int)) (v : Int) : Nat := ps.countP fun p => p.2 == v
def iN (ps : List (Nat × Int)) (v : Int) : Int := ps.foldl (fun a p => if p.2 = v then (p.1 : Int) else a) 0
theorem cN_snoc (ps : List (Nat × Int)) (i : Nat) (u v : Int) : cN (ps ++ [(i, u)]) v = cN ps v + (if u = v then 1 else 0) := by
  unfold cN
  rw [List.countP_append, List.countP_cons, List.countP_nil, Nat.zero_add]
  by_cases h : u = v <;> simp [h]
theorem iN_snoc (ps : List (Nat × Int)) (i : Nat) (u v : Int) : iN (ps ++ [(i, u)]) v = if u = v then (i : Int) else iN ps v := by
  unfold iN
  rw [List.foldl_append]
  rfl
def zsN (ps : List (Nat × Int)) (n : Nat) : List Int := (List.range n).map fun (v : Nat) => (cN ps (v : Int) : Int)
def zsI (ps : List (Nat × Int)) (n : Nat) : List Int := (List.range n).map fun (v : Nat) => iN ps (v : Int)
theorem zsN_at {ps : List (Nat × Int)} {n v : Nat} (h : v < n) : (zsN ps n)[v]? = some (cN ps (v : Int) : Int) := by simp [zsN, h]
theorem zsI_at {ps : List (Nat × Int)} {n v : Nat} (h : v < n) : (zsI ps n)[v]? = some (iN ps (v : Int)) := by simp [zsI, h]
theorem zsN_length (ps : List (Nat × Int)) (n : Nat) : (zsN ps n).length = n := by simp [zsN]
theorem zsI_length (ps : List (Nat × Int)) (n : Nat) : (zsI ps n).length = n := by simp [zsI]
theorem zsN_set {ps : List (Nat × Int)} {n v i : Nat} (h : v < n) : (zsN ps n).set v ((cN ps (v : Int) : Int) + 1) = zsN (ps ++ [(i, (v : Int))]) n := by
  apply List.ext_getElem?
  intro q
  rcases Nat.lt_or_ge q n with hq | hq
  · rw [zsN_at hq, List.getElem?_set, zsN_at hq, cN_snoc]
    by_cases hv : v = q
    · subst hv
      rw [if_pos rfl, if_pos (by rw [zsN_length]; exact h), if_pos rfl]
      congr 1
    · rw [if_neg hv, if_neg (by omega)]
      congr 1
  · rw [List.getElem?_eq_none (by rw [List.length_set, zsN_length]; exact hq), List.getElem?_eq_none (by rw [zsN_length]; exact hq)]
theorem zsI_set {ps : List (Nat × Int)} {n v i : Nat} (h : v < n) : (zsI ps n).set v (i : Int) = zsI (ps ++ [(i, (v : Int))]) n := by
  apply List.ext_getElem?
  intro q
  rcases Nat.lt_or_ge q n with hq | hq
  · rw [zsI_at hq, List.getElem?_set, zsI_at hq, iN_snoc]
    by_cases hv : v = q
    · subst hv
      rw [if_pos rfl, if_pos (by rw [zsI_length]; exact h), if_pos rfl]
    · rw [if_neg hv, if_neg (by omega)]
  · rw [List.getElem?_eq_none (by rw [List.length_set, zsI_length]; exact hq), List.getElem?_eq_none (by rw [zsI_length]; exact hq)]
theorem zsN_nil (n : Nat) : zsN [] n = List.replicate n 0 := by
  unfold zsN cN
  simp [List.map_const']
theorem zsI_nil (n : Nat) : zsI [] n = List.replicate n 0 := by
  unfold zsI iN
  simp [List.map_const']
theorem prs_nodes (l : List ND) : (prs l l.length).map (fun p => p.2) = (allNames l).map NM.node := by
  unfold prs allNames
  conv => rhs; rw [← allI_map l]
  unfold allI
  rw [List.flatMap_map, List.flatMap_map, List.map_flatMap, List.map_flatMap]
  congr 1
  funext i
  unfold prI
  rw [List.map_map]
  have e : (List.map (ndAt l) (List.map (fun (i : Nat) => (i : Int)) (List.range l.length))) = l := allI_map l
  first
    | rfl
    | (rw [e]; rfl)
theorem cN_all (l : List ND) (v : Int) : cN (prs l l.length) v = cnt l v := by
  have h1 : cN (prs l l.length) v = ((prs l l.length).map fun p => p.2).countP (fun u => u == v) := by
    rw [List.countP_map]; rfl
  rw [h1, prs_nodes, List.countP_map]
  rfl
theorem prs_mem {l : List ND} {n : Nat} {p : Nat × Int} : p ∈ prs l n ↔ ∃ i, i < n ∧ ∃ y ∈ (ndAt l (i : Int)).names, p = (i, y.node) := by
  unfold prs prI
  rw [List.mem_flatMap]
  constructor
  · rintro ⟨i, hi, hp⟩
    obtain ⟨y, hy, e⟩ := List.mem_map.1 hp
    exact ⟨i, List.mem_range.1 hi, y, hy, e.symm⟩
  · rintro ⟨i, hi, y, hy, rfl⟩
    exact ⟨i, List.mem_range.2 hi, List.mem_map.2 ⟨y, hy, rfl⟩⟩
theorem iN_spec (v : Int) : ∀ (ps : List (Nat × Int)), (iN ps v = 0 ∧ ∀ p ∈ ps, p.2 ≠ v) ∨ ∃ p ∈ ps, p.2 = v ∧ iN ps v = (p.1 : Int) := by
  intro ps
  generalize hr : ps.reverse = rs
  have e : ps = rs.reverse := by rw [← hr, List.reverse_reverse]
  clear hr
  subst e
  induction rs with
  | nil => exact .inl ⟨rfl, fun p hp => by cases hp⟩
  | cons p t ih =>
    obtain ⟨i, u⟩ := p
    rw [List.reverse_cons, iN_snoc]
    by_cases hu : u = v
    · rw [if_pos hu]
      exact .inr ⟨(i, u), by simp, hu, rfl⟩
    · rw [if_neg hu]
      rcases ih with ⟨h1, h2⟩ | ⟨p, hp, h1, h2⟩
      · refine .inl ⟨h1, fun p hp => ?_⟩
        rcases List.mem_append.1 hp with h | h
        · exact h2 p h
        · rw [List.mem_singleton.1 h]; exact hu
      · exact .inr ⟨p, List.mem_append_left _ hp, h1, h2⟩
/-- The last directory that has a name for a node. -/
def pUp (l : List ND) (a : Int) : Int := iN (prs l l.length) a
def itr (f : Int → Int) : Nat → Int → Int
  | 0, a => a
  | k + 1, a => f (itr f k a)
theorem itr_front (f : Int → Int) : ∀ (k : Nat) (a : Int), itr f (k + 1) a = itr f k (f a)
  | 0, a => rfl
  | k + 1, a => by rw [itr, itr_front f k a]; rfl
theorem up_range {l : List ND} (hp : 0 < l.length) (a : Int) : 0 ≤ pUp l a ∧ pUp l a < (l.length : Int) := by
  unfold pUp
  rcases iN_spec a (prs l l.length) with ⟨h, _⟩ | ⟨p, hp2, _, h⟩
  · omega
  · obtain ⟨i, hi, _, _, e⟩ := prs_mem.1 hp2
    rw [h, e]
    omega
theorem up_name {l : List ND} {a : Int} (h : cnt l a ≠ 0) : ∃ y ∈ (ndAt l (pUp l a)).names, y.node = a := by
  unfold pUp
  rcases iN_spec a (prs l l.length) with ⟨h1, h2⟩ | ⟨p, hp2, h3, h4⟩
  · exfalso
    apply h
    rw [← cN_all]
    unfold cN
    rw [List.countP_eq_zero]
    intro p hp
    have := h2 p hp
    simpa using this
  · obtain ⟨i, hi, y, hy, e⟩ := prs_mem.1 hp2
    rw [h4]
    subst e
    exact ⟨y, hy, h3⟩
/-- From a node up to the root. -/
def UpOk (l : List ND) (i : Int) (m : Nat) : Prop := itr (pUp l) m i = 0 ∧ ∀ j, j < m → itr (pUp l) j i ≠ 0 ∧ cnt l (itr (pUp l) j i) ≠ 0
theorem up_of_step {l : List ND} (h : checkB l = true) : ∀ (k : Nat) (x : ST), x.up.length = k → x ∈ WK l → isDir l x.node = true → UpOk l x.node (k + 1) := by
  have h1 := one_of h
  have hp : 0 < l.length := (checkB_facts h).1
  intro k
  induction k with
  | zero =>
    intro x hk hx hd
    have hc := cnt_pos hx
    obtain ⟨y, hy, e⟩ := up_name (l := l) (a := x.node) (by omega)
    rcases wk_up _ [] 0 x hx with ⟨a1, a2, z, hz, a3, a4⟩ | ⟨z, hz, b1, b2, b3, _⟩
    · have hu := child_up h1.r h1.u (up_range hp _).1 (Int.le_refl 0) ⟨hd, y, hy, e⟩ ⟨hd, z, hz, a4⟩
      refine ⟨hu, fun j hj => ?_⟩
      obtain rfl : j = 0 := by omega
      exact ⟨h1.no_root hx, by show cnt l x.node ≠ 0; omega⟩
    · rw [b3] at hk
      unfold pth at hk
      simp at hk
  | succ k ih =>
    intro x hk hx hd
    have hc := cnt_pos hx
    obtain ⟨y, hy, e⟩ := up_name (l := l) (a := x.node) (by omega)
    rcases wk_up _ [] 0 x hx with ⟨a1, a2, z, hz, a3, a4⟩ | ⟨z, hz, b1, b2, b3, t, ht, b4, b5⟩
    · rw [a2] at hk; simp at hk
    · have hin := h1.node_in hz
      have hu := child_up h1.r h1.u (up_range hp _).1 hin.1 ⟨hd, y, hy, e⟩ ⟨hd, t, ht, b5⟩
      have hl : z.up.length = k := by rw [b3] at hk; unfold pth at hk; simp at hk; omega
      obtain ⟨i1, i2⟩ := ih z hl hz b1
      refine ⟨by rw [itr_front, hu]; exact i1, fun j hj => ?_⟩
      match j with
      | 0 => exact ⟨h1.no_root hx, by show cnt l x.node ≠ 0; omega⟩
      | j + 1 =>
        rw [itr_front, hu]
        exact i2 j (by omega)
theorem wk_depth {l : List ND} : ∀ (k : Nat) (us : List (List UInt8)) (d : Int), ∀ x ∈ wk l k us d, x.up.length + 1 ≤ us.length + k
  | 0, us, d, x, hx => by cases hx
  | k + 1, us, d, x, hx => by
    rw [wk_succ] at hx
    obtain ⟨y, hy, hxy⟩ := List.mem_flatMap.1 hx
    unfold wkN at hxy
    rcases List.mem_cons.1 hxy with rfl | hxy
    · show us.length + 1 ≤ _; omega
    · split at hxy
      · have := wk_depth k (us ++ [y.name]) y.node x hxy
        rw [List.length_append, List.length_singleton] at this
        omega
      · cases hxy
/-- In a checked file system each directory with a name leads up to the root. -/
theorem ck_chain {l : List ND} (h : checkB l = true) {i : Nat} (hi : i < l.length) (h0 : i ≠ 0) (hk : (ndAt l (i : Int)).kind = 2) (hc : cnt l (i : Int) ≠ 0) : ∃ m, m ≤ l.length ∧ UpOk l (i : Int) m := by
  have hl := (links_cnt h hi h0).1
  have hin : (i : Int) ∈ DD l l.length := named_in h _ (allI_mem.2 ⟨by omega, by omega⟩) (by
    unfold namedI namedB
    rw [hk, hl]
    simp
    omega)
  unfold DD at hin
  rcases List.mem_cons.1 hin with h1 | h1
  · omega
  · unfold dirsOf at h1
    obtain ⟨x, hx, e⟩ := List.mem_map.1 h1
    obtain ⟨hx, hd⟩ := List.mem_filter.1 hx
    have hdep := wk_depth _ _ _ x hx
    simp only [List.length_nil] at hdep
    refine ⟨x.up.length + 1, by omega, ?_⟩
    rw [← e]
    exact up_of_step h _ x rfl hx hd
theorem dd_child {l : List ND} (hp : 0 < l.length) (hdp : Deep l l.length 0) {i : Int} (hi : i ∈ DD l l.length) {y : NM} (hy : y ∈ (ndAt l i).names) (hd : isDir l y.node = true) : y.node ∈ DD l l.length := by
  have key : ∃ x ∈ wk l l.length [] 0, x.node = y.node := by
    unfold DD at hi
    rcases List.mem_cons.1 hi with rfl | hi
    · obtain ⟨k, hk⟩ : ∃ k, l.length = k + 1 := ⟨l.length - 1, by omega⟩
      rw [hk]
      refine ⟨⟨0, y.name, y.node, []⟩, ?_, rfl⟩
      rw [wk_succ]
      exact List.mem_flatMap.2 ⟨y, hy, List.mem_cons_self ..⟩
    · unfold dirsOf at hi
      obtain ⟨z, hz, e⟩ := List.mem_map.1 hi
      obtain ⟨hz, hzd⟩ := List.mem_filter.1 hz
      subst e
      exact ⟨_, wk_next _ _ _ hdp z hz hzd y hy, rfl⟩
  obtain ⟨x, hx, e⟩ := key
  unfold DD dirsOf
  exact List.mem_cons_of_mem _ (List.mem_map.2 ⟨x, List.mem_filter.2 ⟨hx, by rw [e]; exact hd⟩, e⟩)
theorem dd_of_up {l : List ND} (hp : 0 < l.length) (hdp : Deep l l.length 0) (hk : ∀ n ∈ l, nodeB n l.length = true) : ∀ (m : Nat) (i : Int), UpOk l i m → isDir l i = true → i ∈ DD l l.length
  | 0, i, h, hd => by
    have : i = 0 := h.1
    rw [this]
    exact List.mem_cons_self ..
  | m + 1, i, h, hd => by
    have h0 := h.2 0 (by omega)
    obtain ⟨y, hy, e⟩ := up_name (l := l) (a := i) h0.2
    have hpar : isDir l (pUp l i) = true := by
      unfold isDir
      by_cases hkk : (ndAt l (pUp l i)).kind = 2
      · rw [hkk]; rfl
      · have hm := (ndAt_mem hy).2
        have := (nodeB_dir (hk _ hm)).1 hkk
        rw [this] at hy; cases hy
    have hup : UpOk l (pUp l i) m := ⟨by rw [← itr_front]; exact h.1, fun j hj => by
      have := h.2 (j + 1) (by omega)
      rw [itr_front] at this
      exact this⟩
    have := dd_of_up hp hdp hk m _ hup hpar
    have h2 := dd_child hp hdp this hy (by rw [e]; exact hd)
    rw [e] at h2
    exact h2
theorem one_of_links {l : List ND} (hr : RefsOk l) (hp : 0 < l.length) (hl : linksB l = true) : One l := by
  have hall : ∀ j, j < l.length → linkB l j = true := fun j hj => List.all_eq_true.1 hl j (List.mem_range.2 hj)
  have h0 : cnt l 0 = 0 := by
    have := hall 0 hp
    unfold linkB at this
    rw [if_pos rfl] at this
    simp only [Bool.and_eq_true, decide_eq_true_eq] at this
    exact this.2
  refine ⟨hr, h0, fun i hd => ?_⟩
  by_cases hb : i < 0 ∨ (l.length : Int) ≤ i
  · rw [cnt_out hr hb]; omega
  · obtain ⟨m, rfl⟩ : ∃ m : Nat, i = (m : Int) := ⟨i.toNat, by omega⟩
    have hm := hall m (by omega)
    unfold linkB at hm
    by_cases hz : m = 0
    · subst hz
      have : cnt l ((0 : Nat) : Int) = 0 := h0
      omega
    · rw [if_neg hz] at hm
      have hk : (ndAt l (m : Int)).kind = 2 := by unfold isDir at hd; simpa using hd
      simp only [Bool.and_eq_true, decide_eq_true_eq, Bool.not_eq_true', Bool.and_eq_false_iff, Bool.or_eq_false_iff, decide_eq_false_iff_not] at hm
      obtain ⟨h1, h2⟩ := hm
      rcases h2 with h2 | h2
      · exact absurd hk h2
      · have := h2.1
        omega
/-- What the document's Check has looked at is enough. -/
theorem ck_yes {l : List ND} (hp : 1 ≤ l.length) (h256 : l.length ≤ 256) (hk : ∀ n ∈ l, nodeB n l.length = true) (hl : linksB l = true)
    (hu : ∀ i : Nat, i < l.length → i ≠ 0 → (ndAt l (i : Int)).kind = 2 → cnt l (i : Int) ≠ 0 → ∃ m, UpOk l (i : Int) m) : checkB l = true := by
  have hr := refs_of hk
  have h1 := one_of_links hr hp hl
  have hdp := deep_of_links hr hp hl
  have hd := dd_nodup h1 (namesOk_of hk) l.length
  have hall : ∀ j, j < l.length → linkB l j = true := fun j hj => List.all_eq_true.1 hl j (List.mem_range.2 hj)
  have hroot : (ndAt l 0).kind = 2 ∧ (ndAt l 0).links = 1 := by
    have := hall 0 hp
    unfold linkB at this
    rw [if_pos rfl] at this
    simp only [Bool.and_eq_true, decide_eq_true_eq] at this
    exact this.1
  have hlk : ∀ m : Nat, m < l.length → m ≠ 0 → (ndAt l (m : Int)).links = (cnt l (m : Int) : Int) := fun m hm h0 => by
    have := hall m hm
    unfold linkB at this
    rw [if_neg h0] at this
    simp only [Bool.and_eq_true, decide_eq_true_eq] at this
    exact this.1
  have hsub : ∀ x ∈ DD l l.length, x ∈ (allI l).filter (namedI l) := fun x hx => by
    refine List.mem_filter.2 ⟨allI_mem.2 (dd_in h1 hp _ x hx), ?_⟩
    unfold DD at hx
    unfold namedI namedB
    rcases List.mem_cons.1 hx with rfl | hx
    · rw [hroot.1, hroot.2]; rfl
    · unfold dirsOf at hx
      obtain ⟨s, hs, e⟩ := List.mem_map.1 hx
      obtain ⟨hs, hsd⟩ := List.mem_filter.1 hs
      have hin := h1.node_in hs
      have hz := h1.no_root hs
      obtain ⟨m, hm⟩ : ∃ m : Nat, s.node = (m : Int) := ⟨s.node.toNat, by omega⟩
      have hl2 := hlk m (by omega) (by omega)
      have hc := cnt_pos hs
      rw [hm] at hc
      unfold isDir at hsd
      rw [← e, hsd, hm, hl2]
      simp
      omega
  have hsub2 : ∀ x ∈ (allI l).filter (namedI l), x ∈ DD l l.length := fun x hx => by
    obtain ⟨hx, hn⟩ := List.mem_filter.1 hx
    obtain ⟨a, b⟩ := allI_mem.1 hx
    obtain ⟨m, rfl⟩ : ∃ m : Nat, x = (m : Int) := ⟨x.toNat, by omega⟩
    unfold namedI namedB at hn
    simp only [Bool.and_eq_true, decide_eq_true_eq, beq_iff_eq] at hn
    by_cases h0 : m = 0
    · subst h0
      exact List.mem_cons_self ..
    · have hl2 := hlk m (by omega) h0
      obtain ⟨q, hq⟩ := hu m (by omega) h0 hn.1 (by omega)
      exact dd_of_up hp hdp hk q _ hq (by unfold isDir; rw [hn.1]; rfl)
  have hle : (DD l l.length).length ≤ l.length := by
    obtain ⟨R', hR⟩ := subset_perm _ (allI l) hd (fun x hx => allI_mem.2 (dd_in h1 hp _ x hx))
    have := hR.length_eq
    rw [List.length_append, allI_length] at this
    omega
  have e1 : (DD l l.length).length ≤ ((allI l).filter (namedI l)).length := by
    obtain ⟨R', hR⟩ := subset_perm _ _ hd hsub
    have := hR.length_eq
    rw [List.length_append] at this
    omega
  have e2 : ((allI l).filter (namedI l)).length ≤ (DD l l.length).length := by
    obtain ⟨R', hR⟩ := subset_perm _ _ ((allI_nodup l).filter _) hsub2
    have := hR.length_eq
    rw [List.length_append] at this
    omega
  have ht : treeB l = true := by
    unfold treeB
    have hrl : reached l ≤ 256 := by rw [← dd_length]; omega
    have hw : IntKind.i64.wrap (reached l : Int) = (reached l : Int) := by simp [IntKind.wrap, IntKind.bits, IntKind.signed]; omega
    rw [hw, decide_eq_true_eq, ← dd_length, named_count]
    omega
  unfold checkB
  rw [hl, ht, List.all_eq_true.2 hk, decide_eq_true hp, decide_eq_true h256]
  rfl
end Go.Proofs.Ytnhfpaobocbieaa
