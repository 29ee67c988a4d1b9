/- The document's Check: plain. Names put in and taken out keep a file system (pure): counts, orders, what leads to the root. Link, Unlink and Create keep a file system (pure). -/
import Derived.Test.YtlcoapignfmgcaaGreatDoorNdQa
import Derived.Test.YtlcoapignfmgcaaGreatDoorGl
import Derived.Test.YtlcoapignfmgcaaGreatDoorGn
namespace Go.Proofs.YtlcoapignfmgcaaGreatDoor
set_option linter.unusedVariables false
def prI (l : List ND) (i : Nat) : List (Nat × Int) := (ndAt l (i : Int)).names.map fun y => (i, y.node)
def prs (l : List ND) (n : Nat) : List (Nat × Int) := (List.range n).flatMap (prI l)
/-- The names of the first nodes, and the first names of the next. -/
def prN (l : List ND) (i k : Nat) : List (Nat × Int) := prs l i ++ (prI l i).take k
theorem prN_zero (l : List ND) (i : Nat) : prN l i 0 = prs l i := by simp [prN]
theorem prN_next {l : List ND} {i k : Nat} (h : (ndAt l (i : Int)).names.length ≤ k) : prN l i k = prs l (i + 1) := by
  unfold prN
  rw [List.take_of_length_le (by unfold prI; rw [List.length_map]; exact h)]
  unfold prs
  rw [List.range_succ, List.flatMap_append]
  simp
theorem prN_succ {l : List ND} {i k : Nat} {y : NM} (h : (ndAt l (i : Int)).names[k]? = some y) : prN l i (k + 1) = prN l i k ++ [(i, y.node)] := by
  unfold prN
  have h2 : (prI l i)[k]? = some (i, y.node) := by unfold prI; rw [List.getElem?_map, h]; rfl
  obtain ⟨h3, h4⟩ := List.getElem?_eq_some_iff.1 h2
  rw [List.take_succ_eq_append_getElem h3, h4, List.append_assoc]
def cN (ps : List (Nat × Int)) (v : Int) : Nat := ps.countP fun p => p.2 == v
def iN (ps : List (Nat × Int)) (v : Int) : Int := ps.foldl (fun a p => if p.2 = v then (p.1 : Int) else a) 0
theorem cN_snoc (ps : List (Nat × Int)) (i : Nat) (u v : Int) : cN (ps ++ [(i, u)]) v = cN ps v + (if u = v then 1 else 0) := by
  unfold cN
  rw [List.countP_append, List.countP_cons, List.countP_nil, Nat.zero_add]
  by_cases h : u = v <;> simp [h]
theorem iN_snoc (ps : List (Nat × Int)) (i : Nat) (u v : Int) : iN (ps ++ [(i, u)]) v = if u = v then (i : Int) else iN ps v := by
  unfold iN
  rw [List.foldl_append]
  rfl
def zsN (ps : List (Nat × Int)) (n : Nat) : List Int := (List.range n).map fun (v : Nat) => (cN ps (v : Int) : Int)
def zsI (ps : List (Nat × Int)) (n : Nat) : List Int := (List.range n).map fun (v : Nat) => iN ps (v : Int)
theorem zsN_at {ps : List (Nat × Int)} {n v : Nat} (h : v < n) : (zsN ps n)[v]? = some (cN ps (v : Int) : Int) := by simp [zsN, h]
theorem zsI_at {ps : List (Nat × Int)} {n v : Nat} (h : v < n) : (zsI ps n)[v]? = some (iN ps (v : Int)) := by simp [zsI, h]
theorem zsN_length (ps : List (Nat × Int)) (n : Nat) : (zsN ps n).length = n := by simp [zsN]
theorem zsI_length (ps : List (Nat × Int)) (n : Nat) : (zsI ps n).length = n := by simp [zsI]
theorem zsN_set {ps : List (Nat × Int)} {n v i : Nat} (h : v < n) : (zsN ps n).set v ((cN ps (v : Int) : Int) + 1) = zsN (ps ++ [(i, (v : Int))]) n := by
  apply List.ext_getElem?
  intro q
  rcases Nat.lt_or_ge q n with hq | hq
  · rw [zsN_at hq, List.getElem?_set, zsN_at hq, cN_snoc]
    by_cases hv : v = q
    · subst hv
      rw [if_pos rfl, if_pos (by rw [zsN_length]; exact h), if_pos rfl]
      congr 1
    · rw [if_neg hv, if_neg (by omega)]
      congr 1
  · rw [List.getElem?_eq_none (by rw [List.length_set, zsN_length]; exact hq), List.getElem?_eq_none (by rw [zsN_length]; exact hq)]
theorem zsI_set {ps : List (Nat × Int)} {n v i : Nat} (h : v < n) : (zsI ps n).set v (i : Int) = zsI (ps ++ [(i, (v : Int))]) n := by
  apply List.ext_getElem?
  intro q
  rcases Nat.lt_or_ge q n with hq | hq
  · rw [zsI_at hq, List.getElem?_set, zsI_at hq, iN_snoc]
    by_cases hv : v = q
    · subst hv
      rw [if_pos rfl, if_pos (by rw [zsI_length]; exact h), if_pos rfl]
    · rw [if_neg hv, if_neg (by omega)]
  · rw [List.getElem?_eq_none (by rw [List.length_set, zsI_length]; exact hq), List.getElem?_eq_none (by rw [zsI_length]; exact hq)]
theorem zsN_nil (n : Nat) : zsN [] n = List.replicate n 0 := by
  unfold zsN cN
  simp [List.map_const']
theorem zsI_nil (n : Nat) : zsI [] n = List.replicate n 0 := by
  unfold zsI iN
  simp [List.map_const']
theorem prs_nodes (l : List ND) : (prs l l.length).map (fun p => p.2) = (allNames l).map NM.node := by
  unfold prs allNames
  conv => rhs; rw [← allI_map l]
  unfold allI
  rw [List.flatMap_map, List.flatMap_map, List.map_flatMap, List.map_flatMap]
  congr 1
  funext i
  unfold prI
  rw [List.map_map]
  have e : (List.map (ndAt l) (List.map (fun (i : Nat) => (i : Int)) (List.range l.length))) = l := allI_map l
  first
    | rfl
    | (rw [e]; rfl)
theorem cN_all (l : List ND) (v : Int) : cN (prs l l.length) v = cnt l v := by
  have h1 : cN (prs l l.length) v = ((prs l l.length).map fun p => p.2).countP (fun u => u == v) := by
    rw [List.countP_map]; rfl
  rw [h1, prs_nodes, List.countP_map]
  rfl
theorem prs_mem {l : List ND} {n : Nat} {p : Nat × Int} : p ∈ prs l n ↔ ∃ i, i < n ∧ ∃ y ∈ (ndAt l (i : Int)).names, p = (i, y.node) := by
  unfold prs prI
  rw [List.mem_flatMap]
  constructor
  · rintro ⟨i, hi, hp⟩
    obtain ⟨y, hy, e⟩ := List.mem_map.1 hp
    exact ⟨i, List.mem_range.1 hi, y, hy, e.symm⟩
  · rintro ⟨i, hi, y, hy, rfl⟩
    exact ⟨i, List.mem_range.2 hi, List.mem_map.2 ⟨y, hy, rfl⟩⟩
theorem iN_spec (v : Int) : ∀ (ps : List (Nat × Int)), (iN ps v = 0 ∧ ∀ p ∈ ps, p.2 ≠ v) ∨ ∃ p ∈ ps, p.2 = v ∧ iN ps v = (p.1 : Int) := by
  intro ps
  generalize hr : ps.reverse = rs
  have e : ps = rs.reverse := by rw [← hr, List.reverse_reverse]
  clear hr
  subst e
  induction rs with
  | nil => exact .inl ⟨rfl, fun p hp => by cases hp⟩
  | cons p t ih =>
    obtain ⟨i, u⟩ := p
    rw [List.reverse_cons, iN_snoc]
    by_cases hu : u = v
    · rw [if_pos hu]
      exact .inr ⟨(i, u), by simp, hu, rfl⟩
    · rw [if_neg hu]
      rcases ih with ⟨h1, h2⟩ | ⟨p, hp, h1, h2⟩
      · refine .inl ⟨h1, fun p hp => ?_⟩
        rcases List.mem_append.1 hp with h | h
        · exact h2 p h
        · rw [List.mem_singleton.1 h]; exact hu
      · exact .inr ⟨p, List.mem_append_left _ hp, h1, h2⟩
/-- The last directory that has a name for a node. -/
def pUp (l : List ND) (a : Int) : Int := iN (prs l l.length) a
def itr (f : Int → Int) : Nat → Int → Int
  | 0, a => a
  | k + 1, a => f (itr f k a)
theorem itr_front (f : Int → Int) : ∀ (k : Nat) (a : Int), itr f (k + 1) a = itr f k (f a)
  | 0, a => rfl
  | k + 1, a => by rw [itr, itr_front f k a]; rfl
theorem up_range {l : List ND} (hp : 0 < l.length) (a : Int) : 0 ≤ pUp l a ∧ pUp l a < (l.length : Int) := by
  unfold pUp
  rcases iN_spec a (prs l l.length) with ⟨h, _⟩ | ⟨p, hp2, _, h⟩
  · omega
  · obtain ⟨i, hi, _, _, e⟩ := prs_mem.1 hp2
    rw [h, e]
    omega
theorem up_name {l : List ND} {a : Int} (h : cnt l a ≠ 0) : ∃ y ∈ (ndAt l (pUp l a)).names, y.node = a := by
  unfold pUp
  rcases iN_spec a (prs l l.length) with ⟨h1, h2⟩ | ⟨p, hp2, h3, h4⟩
  · exfalso
    apply h
    rw [← cN_all]
    unfold cN
    rw [List.countP_eq_zero]
    intro p hp
    have := h2 p hp
    simpa using this
  · obtain ⟨i, hi, y, hy, e⟩ := prs_mem.1 hp2
    rw [h4]
    subst e
    exact ⟨y, hy, h3⟩
/-- From a node up to the root. -/
def UpOk (l : List ND) (i : Int) (m : Nat) : Prop := itr (pUp l) m i = 0 ∧ ∀ j, j < m → itr (pUp l) j i ≠ 0 ∧ cnt l (itr (pUp l) j i) ≠ 0
theorem up_of_step {l : List ND} (h : checkB l = true) : ∀ (k : Nat) (x : ST), x.up.length = k → x ∈ WK l → isDir l x.node = true → UpOk l x.node (k + 1) := by
  have h1 := one_of h
  have hp : 0 < l.length := (checkB_facts h).1
  intro k
  induction k with
  | zero =>
    intro x hk hx hd
    have hc := cnt_pos hx
    obtain ⟨y, hy, e⟩ := up_name (l := l) (a := x.node) (by omega)
    rcases wk_up _ [] 0 x hx with ⟨a1, a2, z, hz, a3, a4⟩ | ⟨z, hz, b1, b2, b3, _⟩
    · have hu := child_up h1.r h1.u (up_range hp _).1 (Int.le_refl 0) ⟨hd, y, hy, e⟩ ⟨hd, z, hz, a4⟩
      refine ⟨hu, fun j hj => ?_⟩
      obtain rfl : j = 0 := by omega
      exact ⟨h1.no_root hx, by show cnt l x.node ≠ 0; omega⟩
    · rw [b3] at hk
      unfold pth at hk
      simp at hk
  | succ k ih =>
    intro x hk hx hd
    have hc := cnt_pos hx
    obtain ⟨y, hy, e⟩ := up_name (l := l) (a := x.node) (by omega)
    rcases wk_up _ [] 0 x hx with ⟨a1, a2, z, hz, a3, a4⟩ | ⟨z, hz, b1, b2, b3, t, ht, b4, b5⟩
    · rw [a2] at hk; simp at hk
    · have hin := h1.node_in hz
      have hu := child_up h1.r h1.u (up_range hp _).1 hin.1 ⟨hd, y, hy, e⟩ ⟨hd, t, ht, b5⟩
      have hl : z.up.length = k := by rw [b3] at hk; unfold pth at hk; simp at hk; omega
      obtain ⟨i1, i2⟩ := ih z hl hz b1
      refine ⟨by rw [itr_front, hu]; exact i1, fun j hj => ?_⟩
      match j with
      | 0 => exact ⟨h1.no_root hx, by show cnt l x.node ≠ 0; omega⟩
      | j + 1 =>
        rw [itr_front, hu]
        exact i2 j (by omega)
theorem wk_depth {l : List ND} : ∀ (k : Nat) (us : List (List UInt8)) (d : Int), ∀ x ∈ wk l k us d, x.up.length + 1 ≤ us.length + k
  | 0, us, d, x, hx => by cases hx
  | k + 1, us, d, x, hx => by
    rw [wk_succ] at hx
    obtain ⟨y, hy, hxy⟩ := List.mem_flatMap.1 hx
    unfold wkN at hxy
    rcases List.mem_cons.1 hxy with rfl | hxy
    · show us.length + 1 ≤ _; omega
    · split at hxy
      · have := wk_depth k (us ++ [y.name]) y.node x hxy
        rw [List.length_append, List.length_singleton] at this
        omega
      · cases hxy
/-- In a checked file system each directory with a name leads up to the root. -/
theorem ck_chain {l : List ND} (h : checkB l = true) {i : Nat} (hi : i < l.length) (h0 : i ≠ 0) (hk : (ndAt l (i : Int)).kind = 2) (hc : cnt l (i : Int) ≠ 0) : ∃ m, m ≤ l.length ∧ UpOk l (i : Int) m := by
  have hl := (links_cnt h hi h0).1
  have hin : (i : Int) ∈ DD l l.length := named_in h _ (allI_mem.2 ⟨by omega, by omega⟩) (by
    unfold namedI namedB
    rw [hk, hl]
    simp
    omega)
  unfold DD at hin
  rcases List.mem_cons.1 hin with h1 | h1
  · omega
  · unfold dirsOf at h1
    obtain ⟨x, hx, e⟩ := List.mem_map.1 h1
    obtain ⟨hx, hd⟩ := List.mem_filter.1 hx
    have hdep := wk_depth _ _ _ x hx
    simp only [List.length_nil] at hdep
    refine ⟨x.up.length + 1, by omega, ?_⟩
    rw [← e]
    exact up_of_step h _ x rfl hx hd
theorem dd_child {l : List ND} (hp : 0 < l.length) (hdp : Deep l l.length 0) {i : Int} (hi : i ∈ DD l l.length) {y : NM} (hy : y ∈ (ndAt l i).names) (hd : isDir l y.node = true) : y.node ∈ DD l l.length := by
  have key : ∃ x ∈ wk l l.length [] 0, x.node = y.node := by
    unfold DD at hi
    rcases List.mem_cons.1 hi with rfl | hi
    · obtain ⟨k, hk⟩ : ∃ k, l.length = k + 1 := ⟨l.length - 1, by omega⟩
      rw [hk]
      refine ⟨⟨0, y.name, y.node, []⟩, ?_, rfl⟩
      rw [wk_succ]
      exact List.mem_flatMap.2 ⟨y, hy, List.mem_cons_self ..⟩
    · unfold dirsOf at hi
      obtain ⟨z, hz, e⟩ := List.mem_map.1 hi
      obtain ⟨hz, hzd⟩ := List.mem_filter.1 hz
      subst e
      exact ⟨_, wk_next _ _ _ hdp z hz hzd y hy, rfl⟩
  obtain ⟨x, hx, e⟩ := key
  unfold DD dirsOf
  exact List.mem_cons_of_mem _ (List.mem_map.2 ⟨x, List.mem_filter.2 ⟨hx, by rw [e]; exact hd⟩, e⟩)
theorem dd_of_up {l : List ND} (hp : 0 < l.length) (hdp : Deep l l.length 0) (hk : ∀ n ∈ l, nodeB n l.length = true) : ∀ (m : Nat) (i : Int), UpOk l i m → isDir l i = true → i ∈ DD l l.length
  | 0, i, h, hd => by
    have : i = 0 := h.1
    rw [this]
    exact List.mem_cons_self ..
  | m + 1, i, h, hd => by
    have h0 := h.2 0 (by omega)
    obtain ⟨y, hy, e⟩ := up_name (l := l) (a := i) h0.2
    have hpar : isDir l (pUp l i) = true := by
      unfold isDir
      by_cases hkk : (ndAt l (pUp l i)).kind = 2
      · rw [hkk]; rfl
      · have hm := (ndAt_mem hy).2
        have := (nodeB_dir (hk _ hm)).1 hkk
        rw [this] at hy; cases hy
    have hup : UpOk l (pUp l i) m := ⟨by rw [← itr_front]; exact h.1, fun j hj => by
      have := h.2 (j + 1) (by omega)
      rw [itr_front] at this
      exact this⟩
    have := dd_of_up hp hdp hk m _ hup hpar
    have h2 := dd_child hp hdp this hy (by rw [e]; exact hd)
    rw [e] at h2
    exact h2
theorem one_of_links {l : List ND} (hr : RefsOk l) (hp : 0 < l.length) (hl : linksB l = true) : One l := by
  have hall : ∀ j, j < l.length → linkB l j = true := fun j hj => List.all_eq_true.1 hl j (List.mem_range.2 hj)
  have h0 : cnt l 0 = 0 := by
    have := hall 0 hp
    unfold linkB at this
    rw [if_pos rfl] at this
    simp only [Bool.and_eq_true, decide_eq_true_eq] at this
    exact this.2
  refine ⟨hr, h0, fun i hd => ?_⟩
  by_cases hb : i < 0 ∨ (l.length : Int) ≤ i
  · rw [cnt_out hr hb]; omega
  · obtain ⟨m, rfl⟩ : ∃ m : Nat, i = (m : Int) := ⟨i.toNat, by omega⟩
    have hm := hall m (by omega)
    unfold linkB at hm
    by_cases hz : m = 0
    · subst hz
      have : cnt l ((0 : Nat) : Int) = 0 := h0
      omega
    · rw [if_neg hz] at hm
      have hk : (ndAt l (m : Int)).kind = 2 := by unfold isDir at hd; simpa using hd
      simp only [Bool.and_eq_true, decide_eq_true_eq, Bool.not_eq_true', Bool.and_eq_false_iff, Bool.or_eq_false_iff, decide_eq_false_iff_not] at hm
      obtain ⟨h1, h2⟩ := hm
      rcases h2 with h2 | h2
      · exact absurd hk h2
      · have := h2.1
        omega
/-- What the document's Check has looked at is enough. -/
theorem ck_yes {l : List ND} (hp : 1 ≤ l.length) (h256 : l.length ≤ 256) (hk : ∀ n ∈ l, nodeB n l.length = true) (hl : linksB l = true)
    (hu : ∀ i : Nat, i < l.length → i ≠ 0 → (ndAt l (i : Int)).kind = 2 → cnt l (i : Int) ≠ 0 → ∃ m, UpOk l (i : Int) m) : checkB l = true := by
  have hr := refs_of hk
  have h1 := one_of_links hr hp hl
  have hdp := deep_of_links hr hp hl
  have hd := dd_nodup h1 (namesOk_of hk) l.length
  have hall : ∀ j, j < l.length → linkB l j = true := fun j hj => List.all_eq_true.1 hl j (List.mem_range.2 hj)
  have hroot : (ndAt l 0).kind = 2 ∧ (ndAt l 0).links = 1 := by
    have := hall 0 hp
    unfold linkB at this
    rw [if_pos rfl] at this
    simp only [Bool.and_eq_true, decide_eq_true_eq] at this
    exact this.1
  have hlk : ∀ m : Nat, m < l.length → m ≠ 0 → (ndAt l (m : Int)).links = (cnt l (m : Int) : Int) := fun m hm h0 => by
    have := hall m hm
    unfold linkB at this
    rw [if_neg h0] at this
    simp only [Bool.and_eq_true, decide_eq_true_eq] at this
    exact this.1
  have hsub : ∀ x ∈ DD l l.length, x ∈ (allI l).filter (namedI l) := fun x hx => by
    refine List.mem_filter.2 ⟨allI_mem.2 (dd_in h1 hp _ x hx), ?_⟩
    unfold DD at hx
    unfold namedI namedB
    rcases List.mem_cons.1 hx with rfl | hx
    · rw [hroot.1, hroot.2]; rfl
    · unfold dirsOf at hx
      obtain ⟨s, hs, e⟩ := List.mem_map.1 hx
      obtain ⟨hs, hsd⟩ := List.mem_filter.1 hs
      have hin := h1.node_in hs
      have hz := h1.no_root hs
      obtain ⟨m, hm⟩ : ∃ m : Nat, s.node = (m : Int) := ⟨s.node.toNat, by omega⟩
      have hl2 := hlk m (by omega) (by omega)
      have hc := cnt_pos hs
      rw [hm] at hc
      unfold isDir at hsd
      rw [← e, hsd, hm, hl2]
      simp
      omega
  have hsub2 : ∀ x ∈ (allI l).filter (namedI l), x ∈ DD l l.length := fun x hx => by
    obtain ⟨hx, hn⟩ := List.mem_filter.1 hx
    obtain ⟨a, b⟩ := allI_mem.1 hx
    obtain ⟨m, rfl⟩ : ∃ m : Nat, x = (m : Int) := ⟨x.toNat, by omega⟩
    unfold namedI namedB at hn
    simp only [Bool.and_eq_true, decide_eq_true_eq, beq_iff_eq] at hn
    by_cases h0 : m = 0
    · subst h0
      exact List.mem_cons_self ..
    · have hl2 := hlk m (by omega) h0
      obtain ⟨q, hq⟩ := hu m (by omega) h0 hn.1 (by omega)
      exact dd_of_up hp hdp hk q _ hq (by unfold isDir; rw [hn.1]; rfl)
  have hle : (DD l l.length).length ≤ l.length := by
    obtain ⟨R', hR⟩ := subset_perm _ (allI l) hd (fun x hx => allI_mem.2 (dd_in h1 hp _ x hx))
    have := hR.length_eq
    rw [List.length_append, allI_length] at this
    omega
  have e1 : (DD l l.length).length ≤ ((allI l).filter (namedI l)).length := by
    obtain ⟨R', hR⟩ := subset_perm _ _ hd hsub
    have := hR.length_eq
    rw [List.length_append] at this
    omega
  have e2 : ((allI l).filter (namedI l)).length ≤ (DD l l.length).length := by
    obtain ⟨R', hR⟩ := subset_perm _ _ ((allI_nodup l).filter _) hsub2
    have := hR.length_eq
    rw [List.length_append] at this
    omega
  have ht : treeB l = true := by
    unfold treeB
    have hrl : reached l ≤ 256 := by rw [← dd_length]; omega
    have hw : IntKind.i64.wrap (reached l : Int) = (reached l : Int) := by simp [IntKind.wrap, IntKind.bits, IntKind.signed]; omega
    rw [hw, decide_eq_true_eq, ← dd_length, named_count]
    omega
  unfold checkB
  rw [hl, ht, List.all_eq_true.2 hk, decide_eq_true hp, decide_eq_true h256]
  rfl
end Go.Proofs.YtlcoapignfmgcaaGreatDoor
namespace Go.Proofs.YtlcoapignfmgcaaGreatDoor
set_option linter.unusedVariables false
theorem ndAt_set (l : List ND) (k : Nat) (n : ND) (i : Int) : ndAt (l.set k n) i = if i.toNat = k ∧ k < l.length then n else ndAt l i := by
  unfold ndAt
  rw [List.getD_eq_getElem?_getD, List.getD_eq_getElem?_getD, List.getElem?_set]
  by_cases h : k = i.toNat
  · subst h
    by_cases h2 : i.toNat < l.length
    · simp [h2]
    · simp [h2]
  · rw [if_neg h, if_neg (fun hh => h hh.1.symm)]
theorem names_set (p : NM → Bool) : ∀ (l : List ND) (d : Nat) (n : ND) (h : d < l.length), (allNames (l.set d n)).countP p + (l[d].names).countP p = (allNames l).countP p + n.names.countP p
  | x :: l, 0, n, h => by
    unfold allNames
    simp only [List.set_cons_zero, List.flatMap_cons, List.countP_append, List.getElem_cons_zero]
    omega
  | x :: l, d + 1, n, h => by
    have ih := names_set p l d n (by simpa using h)
    unfold allNames at ih ⊢
    simp only [List.set_cons_succ, List.flatMap_cons, List.countP_append, List.getElem_cons_succ]
    omega
theorem ndAt_get {l : List ND} {d : Nat} (h : d < l.length) : l[d] = ndAt l (d : Int) := by
  rw [ndAt_nat, List.getD_eq_getElem?_getD, List.getElem?_eq_getElem h]
  rfl
theorem names_modA (p : NM → Bool) {l : List ND} {d : Nat} (h : d < l.length) (f : ND → ND) : (allNames (modA l (d : Int) f)).countP p + (ndAt l (d : Int)).names.countP p = (allNames l).countP p + (f (ndAt l (d : Int))).names.countP p := by
  unfold modA
  rw [Int.toNat_natCast, ← ndAt_get h]
  exact names_set p l d _ h
theorem ndAt_modA {l : List ND} {d : Nat} (h : d < l.length) (f : ND → ND) (i : Int) : ndAt (modA l (d : Int) f) i = if i.toNat = d then f (ndAt l (d : Int)) else ndAt l i := by
  unfold modA
  rw [ndAt_set, Int.toNat_natCast]
  by_cases hi : i.toNat = d
  · rw [if_pos ⟨hi, h⟩, if_pos hi]
  · rw [if_neg (fun hh => hi hh.1), if_neg hi]
/-- What a name put in or taken out leaves of the rest. -/
structure Chg (l l' : List ND) (d k : Nat) (f : List NM → List NM) (e : Int) : Prop where
  len : l'.length = l.length
  kind : ∀ i : Int, (ndAt l' i).kind = (ndAt l i).kind
  mode : ∀ i : Int, (ndAt l' i).mode = (ndAt l i).mode
  data : ∀ i : Int, (ndAt l' i).data = (ndAt l i).data
  tt : ∀ i : Int, (ndAt l' i).to = (ndAt l i).to
  names : ∀ i : Int, (ndAt l' i).names = if i.toNat = d then f (ndAt l (d : Int)).names else (ndAt l i).names
  links : ∀ i : Int, (ndAt l' i).links = if i.toNat = k then (ndAt l (k : Int)).links + e else (ndAt l i).links
  count : ∀ p : NM → Bool, (allNames l').countP p + (ndAt l (d : Int)).names.countP p = (allNames l).countP p + (f (ndAt l (d : Int)).names).countP p
theorem chg_mod {l : List ND} {d k : Nat} (hd : d < l.length) (hk : k < l.length) (f : List NM → List NM) (e : Int) :
    Chg l (modA (modA l (d : Int) fun n => { n with names := f n.names }) (k : Int) fun n => { n with links := n.links + e }) d k f e := by
  have hk2 : k < (modA l (d : Int) fun n => { n with names := f n.names }).length := by rw [modA_length]; exact hk
  have key : ∀ i : Int, ndAt (modA (modA l (d : Int) fun n => { n with names := f n.names }) (k : Int) fun n => { n with links := n.links + e }) i = if i.toNat = k then { ndAt (modA l (d : Int) fun n => { n with names := f n.names }) (k : Int) with links := (ndAt (modA l (d : Int) fun n => { n with names := f n.names }) (k : Int)).links + e } else ndAt (modA l (d : Int) fun n => { n with names := f n.names }) i := fun i => ndAt_modA hk2 _ i
  have key2 : ∀ i : Int, ndAt (modA l (d : Int) fun n => { n with names := f n.names }) i = if i.toNat = d then { ndAt l (d : Int) with names := f (ndAt l (d : Int)).names } else ndAt l i := fun i => ndAt_modA hd _ i
  have at_ : ∀ (i : Int) (m : Nat), i.toNat = m → ndAt l i = ndAt l (m : Int) := fun i m h => by unfold ndAt; rw [h, Int.toNat_natCast]
  refine ⟨by rw [modA_length, modA_length], fun i => ?_, fun i => ?_, fun i => ?_, fun i => ?_, fun i => ?_, fun i => ?_, fun p => ?_⟩
  iterate 4
    rw [key, key2, key2, Int.toNat_natCast]
    by_cases h1 : i.toNat = k
    · rw [if_pos h1]
      by_cases h2 : k = d
      · rw [if_pos h2, at_ i d (by omega)]
      · rw [if_neg h2, at_ i k h1]
    · rw [if_neg h1]
      by_cases h2 : i.toNat = d
      · rw [if_pos h2, at_ i d h2]
      · rw [if_neg h2]
  · rw [key, key2, key2, Int.toNat_natCast]
    by_cases h1 : i.toNat = k
    · rw [if_pos h1]
      by_cases h2 : k = d
      · rw [if_pos h2, if_pos (by omega)]
      · rw [if_neg h2, if_neg (by omega), at_ i k h1]
    · rw [if_neg h1]
      by_cases h2 : i.toNat = d
      · rw [if_pos h2, if_pos h2]
      · rw [if_neg h2, if_neg h2]
  · rw [key, key2, key2, Int.toNat_natCast]
    by_cases h1 : i.toNat = k
    · rw [if_pos h1, if_pos h1]
      by_cases h2 : k = d
      · rw [if_pos h2, h2]
      · rw [if_neg h2]
    · rw [if_neg h1, if_neg h1]
      by_cases h2 : i.toNat = d
      · rw [if_pos h2, at_ i d h2]
      · rw [if_neg h2]
  · have a := names_modA p hk2 (fun n => { n with links := n.links + e })
    have b := names_modA p hd (fun n => { n with names := f n.names })
    dsimp only at a b
    omega
theorem chg_ins {l : List ND} {d k : Nat} (hd : d < l.length) (hk : k < l.length) (s : List UInt8) : Chg l (insP l (d : Int) s (k : Int)) d k (fun t => insN t s (k : Int)) 1 := chg_mod hd hk (fun t => insN t s (k : Int)) 1
theorem chg_rem {l : List ND} {d k : Nat} (hd : d < l.length) (hk : k < l.length) {s : List UInt8} (hl : (lkP l (d : Int) s).1 = (k : Int)) : Chg l (remP l (d : Int) s) d k (fun t => remN t s) (-1) := by
  unfold remP
  rw [hl]
  exact chg_mod hd hk (fun t => remN t s) (-1)
/-- Rows of names. -/
theorem namesFrom_of (c : Int) : ∀ (t : List NM) (p : Option (List UInt8)), (∀ y ∈ t, nameB y.name = true ∧ 0 ≤ y.node ∧ y.node < c) → sortedP t → (∀ q, p = some q → ∀ y ∈ t, q < y.name) → namesFrom c p t = true
  | [], _, _, _, _ => rfl
  | x :: t, p, h, hs, hp => by
    obtain ⟨h1, h2⟩ := List.pairwise_cons.1 hs
    have hx := h x (List.mem_cons_self ..)
    have ih := namesFrom_of c t (some x.name) (fun y hy => h y (List.mem_cons_of_mem _ hy)) h2 (fun q hq y hy => by injection hq with hq; subst hq; exact h1 y hy)
    cases p with
    | none =>
      simp only [namesFrom, Bool.and_eq_true, decide_eq_true_eq]
      exact ⟨⟨⟨hx.1, hx.2⟩, trivial⟩, ih⟩
    | some q =>
      simp only [namesFrom, Bool.and_eq_true, decide_eq_true_eq]
      exact ⟨⟨⟨hx.1, hx.2⟩, hp q rfl x (List.mem_cons_self ..)⟩, ih⟩
theorem namesFrom_iff (c : Int) (t : List NM) : namesFrom c none t = true ↔ (∀ y ∈ t, nameB y.name = true ∧ 0 ≤ y.node ∧ y.node < c) ∧ sortedP t :=
  ⟨fun h => ⟨fun y hy => ⟨namesFrom_ok c t none h y hy, namesFrom_refs c t none h y hy⟩, names_sorted c t none h⟩, fun h => namesFrom_of c t none h.1 h.2 (fun q hq => by cases hq)⟩
theorem insN_mem {t : List NM} {s : List UInt8} {k : Int} {y : NM} : y ∈ insN t s k ↔ y = ⟨s, k⟩ ∨ y ∈ t := by
  unfold insN
  rw [List.mem_append, List.mem_append, List.mem_singleton]
  constructor
  · rintro ((h | h) | h)
    · exact .inr (List.mem_of_mem_take h)
    · exact .inl h
    · exact .inr (List.mem_of_mem_drop h)
  · rintro (h | h)
    · exact .inl (.inr h)
    · rw [← List.take_append_drop (findP t s) t] at h
      rcases List.mem_append.1 h with h | h
      · exact .inl (.inl h)
      · exact .inr h
theorem insN_count (p : NM → Bool) (t : List NM) (s : List UInt8) (k : Int) : (insN t s k).countP p = t.countP p + (if p ⟨s, k⟩ = true then 1 else 0) := by
  unfold insN
  rw [List.countP_append, List.countP_append, List.countP_cons, List.countP_nil]
  have h := List.countP_append (p := p) (l₁ := t.take (findP t s)) (l₂ := t.drop (findP t s))
  rw [List.take_append_drop] at h
  omega
theorem insN_sorted {t : List NM} (hs : sortedP t) {s : List UInt8} (hn : t.find? (fun y => y.name == s) = none) (k : Int) : sortedP (insN t s k) := by
  obtain ⟨h1, h2, h3⟩ := find_place hs s
  have hne : ∀ y ∈ t, y.name ≠ s := fun y hy e => by
    have := List.find?_eq_none.1 hn y hy
    simp [e] at this
  have hb : ∀ y ∈ t.take (findP t s), y.name < s := fun y hy => by
    obtain ⟨i, hi, e⟩ := List.mem_take_iff_getElem.1 hy
    have := h2 i (by omega)
    rw [nmAt_lt (by omega), e] at this
    exact this
  have ha : ∀ y ∈ t.drop (findP t s), s < y.name := fun y hy => by
    obtain ⟨i, hi, e⟩ := List.mem_drop_iff_getElem.1 hy
    have := h3 (findP t s + i) (by omega) (by omega)
    rw [nmAt_lt (by omega), e] at this
    rcases blt_tri y.name s with h | h | h
    · exact absurd h this
    · exact absurd h (hne y (List.mem_of_mem_drop hy))
    · exact h
  unfold insN sortedP
  rw [List.append_assoc, List.pairwise_append]
  refine ⟨hs.sublist (List.take_sublist _ _), ?_, fun a hma b hmb => ?_⟩
  · rw [List.singleton_append, List.pairwise_cons]
    exact ⟨fun y hy => ha y hy, hs.sublist (List.drop_sublist _ _)⟩
  · rw [List.singleton_append] at hmb
    rcases List.mem_cons.1 hmb with rfl | hmb
    · exact hb a hma
    · exact blt_trans (hb a hma) (ha b hmb)
theorem remN_erase (t : List NM) (s : List UInt8) : remN t s = t.eraseIdx (findP t s) := by
  unfold remN
  rw [List.eraseIdx_eq_take_drop_succ]
theorem remN_sorted {t : List NM} (hs : sortedP t) (s : List UInt8) : sortedP (remN t s) := by
  rw [remN_erase]
  exact hs.sublist (List.eraseIdx_sublist _ _)
theorem remN_sub {t : List NM} {s : List UInt8} {y : NM} (h : y ∈ remN t s) : y ∈ t := by
  rw [remN_erase] at h
  exact (List.eraseIdx_sublist _ _).subset h
theorem remN_count (p : NM → Bool) {t : List NM} {s : List UInt8} {y : NM} (h : t[findP t s]? = some y) : (remN t s).countP p + (if p y = true then 1 else 0) = t.countP p := by
  obtain ⟨hi, e⟩ := List.getElem?_eq_some_iff.1 h
  unfold remN
  have h1 : t = t.take (findP t s) ++ y :: t.drop (findP t s + 1) := by
    rw [← e, ← List.drop_eq_getElem_cons hi, List.take_append_drop]
  conv => rhs; rw [h1]
  rw [List.countP_append, List.countP_append, List.countP_cons]
  omega
theorem remN_keep {t : List NM} {s : List UInt8} {y x : NM} (h : t[findP t s]? = some y) (hx : x ∈ t) (hne : x ≠ y) : x ∈ remN t s := by
  obtain ⟨hi, e⟩ := List.getElem?_eq_some_iff.1 h
  have h1 : t = t.take (findP t s) ++ y :: t.drop (findP t s + 1) := by
    rw [← e, ← List.drop_eq_getElem_cons hi, List.take_append_drop]
  rw [h1] at hx
  unfold remN
  rcases List.mem_append.1 hx with hx | hx
  · exact List.mem_append_left _ hx
  · rcases List.mem_cons.1 hx with hx | hx
    · exact absurd hx hne
    · exact List.mem_append_right _ hx
/-- Led to from the root. -/
inductive Reach (l : List ND) : Int → Prop
  | root : Reach l 0
  | step {a b : Int} : Reach l a → Child l a b → Reach l b
theorem Reach.pos {l : List ND} (hr : RefsOk l) {i : Int} (h : Reach l i) : 0 ≤ i := by
  cases h with
  | root => exact Int.le_refl 0
  | step _ hc => exact (child_in hr hc).1
theorem up_of_reach {l : List ND} (h1 : One l) (hp : 0 < l.length) {i : Int} (h : Reach l i) : ∃ m, UpOk l i m := by
  induction h with
  | root => exact ⟨0, rfl, fun j hj => absurd hj (by omega)⟩
  | @step a b ha hc ih =>
    obtain ⟨m, e, hm⟩ := ih
    obtain ⟨hd, x, hx, ex⟩ := hc
    have hcn : 1 ≤ cnt l b := cnt_one (ndAt_mem hx).1 hx ex
    obtain ⟨y, hy, ey⟩ := up_name (l := l) (a := b) (by omega)
    have hu := child_up h1.r h1.u (up_range hp _).1 (ha.pos h1.r) ⟨hd, y, hy, ey⟩ ⟨hd, x, hx, ex⟩
    have hb0 : b ≠ 0 := fun e => by rw [e] at hcn; have := h1.z; omega
    refine ⟨m + 1, by rw [itr_front, hu]; exact e, fun j hj => ?_⟩
    match j with
    | 0 => exact ⟨hb0, by show cnt l b ≠ 0; omega⟩
    | j + 1 =>
      rw [itr_front, hu]
      exact hm j (by omega)
theorem reach_of_up {l : List ND} (hk : ∀ n ∈ l, nodeB n l.length = true) : ∀ (m : Nat) (i : Int), UpOk l i m → isDir l i = true → Reach l i
  | 0, i, h, hd => by
    have : i = 0 := h.1
    rw [this]
    exact .root
  | m + 1, i, h, hd => by
    have h0 := h.2 0 (by omega)
    obtain ⟨y, hy, e⟩ := up_name (l := l) (a := i) h0.2
    have hpar : isDir l (pUp l i) = true := by
      unfold isDir
      by_cases hkk : (ndAt l (pUp l i)).kind = 2
      · rw [hkk]; rfl
      · have := (nodeB_dir (hk _ (ndAt_mem hy).2)).1 hkk
        rw [this] at hy; cases hy
    have hup : UpOk l (pUp l i) m := ⟨by rw [← itr_front]; exact h.1, fun j hj => by
      have := h.2 (j + 1) (by omega)
      rw [itr_front] at this
      exact this⟩
    exact .step (reach_of_up hk m _ hup hpar) ⟨hd, y, hy, e⟩
theorem ck_reach {l : List ND} (h : checkB l = true) {i : Nat} (hi : i < l.length) (hk : (ndAt l (i : Int)).kind = 2) (hc : (ndAt l (i : Int)).links ≠ 0) : Reach l (i : Int) := by
  by_cases h0 : i = 0
  · subst h0; exact .root
  · have hl := (links_cnt h hi h0).1
    obtain ⟨m, _, hm⟩ := ck_chain h hi h0 hk (by omega)
    exact reach_of_up (checkB_facts h).2.2.1 m _ hm (by unfold isDir; rw [hk]; rfl)
/-- What makes a file system one that may be. -/
theorem ck_of {l : List ND} (hp : 1 ≤ l.length) (h256 : l.length ≤ 256) (hk : ∀ i : Nat, i < l.length → nodeB (ndAt l (i : Int)) l.length = true) (hl : ∀ i : Nat, i < l.length → linkB l i = true)
    (hu : ∀ i : Nat, i < l.length → i ≠ 0 → (ndAt l (i : Int)).kind = 2 → cnt l (i : Int) ≠ 0 → Reach l (i : Int)) : checkB l = true := by
  have hk2 : ∀ n ∈ l, nodeB n l.length = true := fun n hn => by
    obtain ⟨i, hi, e⟩ := List.getElem_of_mem hn
    have := hk i hi
    rw [← ndAt_get hi, e] at this
    exact this
  have hl2 : linksB l = true := List.all_eq_true.2 fun i hi => hl i (List.mem_range.1 hi)
  exact ck_yes hp h256 hk2 hl2 fun i hi h0 hkk hc => up_of_reach (one_of_links (refs_of hk2) hp hl2) hp (hu i hi h0 hkk hc)
theorem nameC_ok {s : List UInt8} (h : nameC s = 0) : nameB s = true := by
  cases hb : nameB s with
  | true => rfl
  | false => rcases nameC_no hb with hz | hz <;> omega
theorem first_zero : ∀ {es : List Int}, firstP es = 0 → ∀ e ∈ es, e = 0
  | [], _, e, he => by cases he
  | x :: t, h, e, he => by
    rw [firstP] at h
    by_cases hx : x = 0
    · rw [if_pos hx] at h
      rcases List.mem_cons.1 he with rfl | he
      · exact hx
      · exact first_zero h e he
    · rw [if_neg hx] at h; exact absurd h hx
theorem writable_zero {l : List ND} {d : Int} (h : writableP l d = 0) : (ndAt l d).kind = 2 ∧ (ndAt l d).links ≠ 0 := by
  unfold writableP at h
  by_cases h1 : (ndAt l d).kind = 2
  · rw [if_pos h1] at h
    by_cases h2 : (ndAt l d).links = 0
    · rw [if_pos h2] at h; omega
    · exact ⟨h1, h2⟩
  · rw [if_neg h1] at h; omega
theorem absent_zero {l : List ND} {d : Int} {s : List UInt8} (h : absentP l d s = 0) : (ndAt l d).names.find? (fun y => y.name == s) = none := by
  unfold absentP lkP at h
  cases hf : (ndAt l d).names.find? (fun y => y.name == s) with
  | none => rfl
  | some y => rw [hf] at h; simp at h
end Go.Proofs.YtlcoapignfmgcaaGreatDoor
namespace Go.Proofs.YtlcoapignfmgcaaGreatDoor
set_option linter.unusedVariables false
/-- A change keeps a file system, and makes it little larger. -/
structure Kept (l l' : List ND) : Prop where
  ck : checkB l' = true
  ge : l.length ≤ l'.length
  le : l'.length ≤ l.length + 1
  all : (allNames l').length ≤ (allNames l).length + 1
  each : ∀ M, (∀ n ∈ l, n.names.length ≤ M) → ∀ n ∈ l', n.names.length ≤ M + 1
theorem Kept.refl {l : List ND} (h : checkB l = true) : Kept l l := ⟨h, Nat.le_refl _, Nat.le_succ _, Nat.le_succ _, fun M h n hn => Nat.le_succ_of_le (h n hn)⟩
theorem mem_at {l : List ND} {n : ND} (h : n ∈ l) : ∃ i : Nat, i < l.length ∧ n = ndAt l (i : Int) := by
  obtain ⟨i, hi, e⟩ := List.getElem_of_mem h
  exact ⟨i, hi, by rw [← e]; exact ndAt_get hi⟩
theorem nodeB_eq {n n' : ND} (hk : n'.kind = n.kind) (hm : n'.mode = n.mode) (hd : n'.data = n.data) (ht : n'.to = n.to) (hn : n'.names = n.names) (c : Int) : nodeB n' c = nodeB n c := by
  unfold nodeB
  rw [hk, hm, hd, ht, hn]
theorem nodeB_names {n n' : ND} {c : Int} (h : nodeB n c = true) (h2 : n.kind = 2) (hk : n'.kind = n.kind) (hm : n'.mode = n.mode) (hd : n'.data = n.data) (ht : n'.to = n.to) (hn : namesFrom c none n'.names = true) : nodeB n' c = true := by
  unfold nodeB at h ⊢
  rw [hk, hm, hd, ht]
  rw [if_neg (by omega), if_pos h2] at h ⊢
  simp only [Bool.and_eq_true] at h ⊢
  exact ⟨h.1, ⟨hn, h.2.1.2⟩, h.2.2⟩
theorem nodeB_namesFrom {n : ND} {c : Int} (h : nodeB n c = true) (h2 : n.kind = 2) : namesFrom c none n.names = true := by
  unfold nodeB at h
  rw [if_neg (by omega), if_pos h2] at h
  simp only [Bool.and_eq_true] at h
  exact h.2.1.1
theorem reach_mono {l l' : List ND} (h : ∀ a b, Child l a b → Child l' a b) {i : Int} (hr : Reach l i) : Reach l' i := by
  induction hr with
  | root => exact .root
  | step _ hc ih => exact .step ih (h _ _ hc)
theorem kind_in {l : List ND} (h : checkB l = true) {i : Nat} (hi : i < l.length) {y : NM} (hy : y ∈ (ndAt l (i : Int)).names) : (ndAt l (i : Int)).kind = 2 := by
  by_cases hk : (ndAt l (i : Int)).kind = 2
  · exact hk
  · have := (nodeB_dir (node_ok h hi)).1 hk
    rw [this] at hy; cases hy
theorem links_eq {l : List ND} (h : checkB l = true) {i : Nat} (hi : i < l.length) : i ≠ 0 → (ndAt l (i : Int)).links = (cnt l (i : Int) : Int) := fun h0 => (links_cnt h hi h0).1
theorem dir_links {l : List ND} (h : checkB l = true) {i : Nat} (hi : i < l.length) (h0 : i ≠ 0) (hk : (ndAt l (i : Int)).kind = 2) : (ndAt l (i : Int)).links ≤ 1 ∧ ((ndAt l (i : Int)).links = 0 → (ndAt l (i : Int)).names = []) := by
  have h1 := (one_of h).u (i : Int) (by unfold isDir; rw [hk]; rfl)
  obtain ⟨h2, h3⟩ := links_cnt h hi h0
  exact ⟨by omega, h3 hk⟩
theorem linkB_of {l : List ND} {i : Nat} (h0 : i ≠ 0) (h1 : (ndAt l (i : Int)).links = (cnt l (i : Int) : Int)) (h2 : (ndAt l (i : Int)).kind = 2 → (ndAt l (i : Int)).links ≤ 1 ∧ ((ndAt l (i : Int)).links = 0 → (ndAt l (i : Int)).names = [])) : linkB l i = true := by
  unfold linkB
  rw [if_neg h0, decide_eq_true h1, Bool.true_and]
  by_cases hk : (ndAt l (i : Int)).kind = 2
  · obtain ⟨a, b⟩ := h2 hk
    rw [decide_eq_true hk, Bool.true_and, decide_eq_false (by omega : ¬ 1 < (ndAt l (i : Int)).links), Bool.false_or]
    by_cases hz : (ndAt l (i : Int)).links = 0
    · rw [b hz, decide_eq_true hz]; rfl
    · rw [decide_eq_false hz]; rfl
  · rw [decide_eq_false hk]; rfl
theorem linkB_zero {l : List ND} (h1 : (ndAt l 0).kind = 2) (h2 : (ndAt l 0).links = 1) (h3 : cnt l 0 = 0) : linkB l 0 = true := by
  unfold linkB
  rw [if_pos rfl, decide_eq_true h1, decide_eq_true h2, decide_eq_true h3]; rfl
theorem nil_of_sub {t u : List NM} (h : ∀ y ∈ t, y ∈ u) (hu : u = []) : t = [] := by
  cases t with
  | nil => rfl
  | cons x t => have := h x (List.mem_cons_self ..); rw [hu] at this; cases this
theorem Chg.child {l l' : List ND} {d k : Nat} {f : List NM → List NM} {e : Int} (C : Chg l l' d k f e) {a b : Int} (h : Child l a b) (hx : ∀ x ∈ (ndAt l (d : Int)).names, x.node = b → x ∈ f (ndAt l (d : Int)).names) : Child l' a b := by
  obtain ⟨hd, x, hm, e⟩ := h
  refine ⟨?_, x, ?_, e⟩
  · unfold isDir at hd ⊢
    rw [C.kind]; exact hd
  · rw [C.names]
    by_cases ha : a.toNat = d
    · rw [if_pos ha]
      have he : ndAt l a = ndAt l (d : Int) := by unfold ndAt; rw [ha, Int.toNat_natCast]
      rw [he] at hm
      exact hx x hm e
    · rw [if_neg ha]; exact hm
theorem ins_keeps {l : List ND} (h : checkB l = true) {d k : Nat} (hd : d < l.length) (hk : k < l.length) {s : List UInt8} (hkk : (ndAt l (k : Int)).kind = 2 → (ndAt l (k : Int)).links = 0)
    (hs : nameB s = true) (hw : writableP l (d : Int) = 0) (ha : absentP l (d : Int) s = 0) : Kept l (insP l (d : Int) s (k : Int)) := by
  have C := chg_ins hd hk s
  generalize insP l (d : Int) s (k : Int) = l' at C
  obtain ⟨hdk, hdl⟩ := writable_zero hw
  have hab := absent_zero ha
  have hroot := root_dir h
  have hk0 : k ≠ 0 := fun e => by
    subst e
    have h1 := hkk hroot.1
    have h2 : (ndAt l ((0 : Nat) : Int)).links = 1 := hroot.2.1
    omega
  have hn : ∀ i : Int, (ndAt l' i).names = if i.toNat = d then insN (ndAt l (d : Int)).names s (k : Int) else (ndAt l i).names := C.names
  have hcnt : ∀ v : Int, cnt l' v = cnt l v + (if (k : Int) = v then 1 else 0) := fun v => by
    have := C.count (fun x => x.node == v)
    rw [insN_count] at this
    unfold cnt
    by_cases hv : (k : Int) = v
    · rw [if_pos hv]; rw [if_pos (by simp [hv])] at this; omega
    · rw [if_neg hv]; rw [if_neg (by simp [hv])] at this; omega
  have hfrom : namesFrom (l.length : Int) none (insN (ndAt l (d : Int)).names s (k : Int)) = true := by
    obtain ⟨p1, p2⟩ := (namesFrom_iff _ _).1 (nodeB_namesFrom (node_ok h hd) hdk)
    refine (namesFrom_iff _ _).2 ⟨fun y hy => ?_, insN_sorted p2 hab _⟩
    rcases insN_mem.1 hy with rfl | hy
    · exact ⟨hs, by dsimp only; omega, by dsimp only; omega⟩
    · exact p1 y hy
  have hreach : ∀ a b, Child l a b → Child l' a b := fun a b hc => C.child hc fun x hx _ => insN_mem.2 (.inr hx)
  refine ⟨?_, by rw [C.len]; exact Nat.le_refl _, by rw [C.len]; omega, ?_, fun M hM n hnm => ?_⟩
  · refine ck_of (by rw [C.len]; exact (checkB_facts h).1) (by rw [C.len]; exact (checkB_facts h).2.1) (fun i hi => ?_) (fun i hi => ?_) (fun i hi h0 hki hc => ?_)
    · rw [C.len] at hi ⊢
      by_cases hid : i = d
      · subst hid
        refine nodeB_names (node_ok h hi) hdk (C.kind _) (C.mode _) (C.data _) (C.tt _) ?_
        rw [hn, if_pos (Int.toNat_natCast i)]
        exact hfrom
      · rw [nodeB_eq (C.kind _) (C.mode _) (C.data _) (C.tt _) (by rw [hn, if_neg (by rw [Int.toNat_natCast]; exact hid)])]
        exact node_ok h hi
    · rw [C.len] at hi
      by_cases h0 : i = 0
      · subst h0
        refine linkB_zero ((C.kind 0).trans hroot.1) ?_ ?_
        · rw [C.links, if_neg (by show ¬ (0 : Nat) = k; omega)]; exact hroot.2.1
        · rw [hcnt, if_neg (by omega), hroot.2.2]
      · have hl := links_eq h hi h0
        have hL : (ndAt l' (i : Int)).links = (cnt l' (i : Int) : Int) := by
          rw [C.links, hcnt, Int.toNat_natCast]
          by_cases hik : i = k
          · subst hik; rw [if_pos rfl, if_pos rfl, hl]; omega
          · rw [if_neg hik, if_neg (by omega), hl]; omega
        refine linkB_of h0 hL fun hki => ?_
        rw [C.kind] at hki
        have h4 := dir_links h hi h0 hki
        rw [C.links, Int.toNat_natCast]
        by_cases hik : i = k
        · subst hik
          have := hkk hki
          rw [if_pos rfl]
          exact ⟨by omega, fun hz => absurd hz (by omega)⟩
        · rw [if_neg hik]
          refine ⟨h4.1, fun hz => ?_⟩
          rw [hn, Int.toNat_natCast]
          by_cases hid : i = d
          · subst hid; exact absurd hz hdl
          · rw [if_neg hid]; exact h4.2 hz
    · rw [C.len] at hi
      rw [C.kind] at hki
      by_cases hik : i = k
      · subst hik
        refine .step (reach_mono hreach (ck_reach h hd hdk hdl)) ⟨?_, ⟨s, (i : Int)⟩, ?_, rfl⟩
        · unfold isDir; rw [C.kind, hki]; rfl
        · rw [hn, if_pos (Int.toNat_natCast d)]
          exact insN_mem.2 (.inl rfl)
      · refine reach_mono hreach (ck_reach h hi hki ?_)
        rw [hcnt, if_neg (by omega)] at hc
        rw [links_eq h hi h0]; omega
  · have := C.count (fun _ => true)
    rw [insN_count] at this
    simp only [List.countP_true, if_true] at this
    omega
  · obtain ⟨i, hi, rfl⟩ := mem_at hnm
    rw [C.len] at hi
    rw [hn, Int.toNat_natCast]
    by_cases hid : i = d
    · rw [if_pos hid]
      have h1 := insN_count (fun _ => true) (ndAt l (d : Int)).names s (k : Int)
      simp only [List.countP_true, if_true] at h1
      rw [h1]
      have := hM _ (ndAt_in hd)
      omega
    · rw [if_neg hid]
      have := hM _ (ndAt_in hi)
      omega
theorem lk_sorted {l : List ND} (h : checkB l = true) {d : Nat} (hd : d < l.length) {s : List UInt8} {v : Int} (hl : lkP l (d : Int) s = (v, true)) : ∃ y, (ndAt l (d : Int)).names[findP (ndAt l (d : Int)).names s]? = some y ∧ y.node = v ∧ y.name = s ∧ y ∈ (ndAt l (d : Int)).names := by
  rcases lk_found (l := l) (d := (d : Int)) (s := s) (at_sorted h hd) with ⟨h1, y, h2, h3⟩ | ⟨_, h3⟩
  · rw [hl] at h3
    injection h3 with h3 _
    refine ⟨y, h2, h3.symm, ?_, List.mem_of_getElem? h2⟩
    unfold foundP at h1
    simp only [Bool.and_eq_true, beq_iff_eq] at h1
    have := (cmp_zero _ _).1 h1.2
    rw [nmAt_get h2] at this
    exact this
  · rw [hl] at h3
    injection h3 with _ h3
    cases h3
theorem rem_cnt {l l' : List ND} {d k : Nat} {s : List UInt8} {y : NM} (C : Chg l l' d k (fun t => remN t s) (-1)) (hy : (ndAt l (d : Int)).names[findP (ndAt l (d : Int)).names s]? = some y) (hk : y.node = (k : Int)) (v : Int) : cnt l' v + (if (k : Int) = v then 1 else 0) = cnt l v := by
  have h1 := C.count (fun x => x.node == v)
  have h2 := remN_count (fun x => x.node == v) hy
  unfold cnt
  by_cases hv : (k : Int) = v
  · rw [if_pos hv]; rw [if_pos (by simp [hk, hv])] at h2; omega
  · rw [if_neg hv]; rw [if_neg (by simp [hk, hv])] at h2; omega
theorem rem_nodes {l l' : List ND} (h : ∀ i : Nat, i < l.length → nodeB (ndAt l (i : Int)) l.length = true) {d k : Nat} {s : List UInt8} (hdk : (ndAt l (d : Int)).kind = 2) (C : Chg l l' d k (fun t => remN t s) (-1)) : ∀ i : Nat, i < l'.length → nodeB (ndAt l' (i : Int)) l'.length = true := fun i hi => by
  rw [C.len] at hi ⊢
  have hn : ∀ i : Int, (ndAt l' i).names = if i.toNat = d then remN (ndAt l (d : Int)).names s else (ndAt l i).names := C.names
  by_cases hid : i = d
  · subst hid
    refine nodeB_names (h i hi) hdk (C.kind _) (C.mode _) (C.data _) (C.tt _) ?_
    rw [hn, if_pos (Int.toNat_natCast i)]
    obtain ⟨p1, p2⟩ := (namesFrom_iff _ _).1 (nodeB_namesFrom (h i hi) hdk)
    exact (namesFrom_iff _ _).2 ⟨fun y hy => p1 y (remN_sub hy), remN_sorted p2 s⟩
  · rw [nodeB_eq (C.kind _) (C.mode _) (C.data _) (C.tt _) (by rw [hn, if_neg (by rw [Int.toNat_natCast]; exact hid)])]
    exact h i hi
theorem rem_size {l l' : List ND} {d k : Nat} {s : List UInt8} (C : Chg l l' d k (fun t => remN t s) (-1)) : (allNames l').length ≤ (allNames l).length ∧ ∀ M, (∀ i : Nat, i < l.length → (ndAt l (i : Int)).names.length ≤ M) → ∀ i : Nat, i < l'.length → (ndAt l' (i : Int)).names.length ≤ M := by
  have hsub : ∀ t : List NM, (remN t s).length ≤ t.length := fun t => by rw [remN_erase]; exact (List.eraseIdx_sublist _ _).length_le
  have hn : ∀ i : Int, (ndAt l' i).names = if i.toNat = d then remN (ndAt l (d : Int)).names s else (ndAt l i).names := C.names
  constructor
  · have := C.count (fun _ => true)
    simp only [List.countP_true] at this
    have := hsub (ndAt l (d : Int)).names
    omega
  · intro M hM i hi
    rw [C.len] at hi
    rw [hn, Int.toNat_natCast]
    by_cases hid : i = d
    · subst hid
      rw [if_pos rfl]
      exact Nat.le_trans (hsub _) (hM i hi)
    · rw [if_neg hid]; exact hM i hi
theorem rem_keeps {l : List ND} (h : checkB l = true) {d k : Nat} (hd : d < l.length) {s : List UInt8} (hl : lkP l (d : Int) s = ((k : Int), true)) (hkn : (ndAt l (k : Int)).names = []) :
    checkB (remP l (d : Int) s) = true ∧ Chg l (remP l (d : Int) s) d k (fun t => remN t s) (-1) ∧ k < l.length := by
  obtain ⟨k', hkk, hk⟩ := lk_in h hd hl
  obtain rfl : k = k' := by omega
  have C := chg_rem hd hk (s := s) (by rw [hl])
  generalize remP l (d : Int) s = l' at C ⊢
  refine ⟨?_, C, hk⟩
  obtain ⟨y, hy, hyk, hys, hym⟩ := lk_sorted h hd hl
  have hdk := kind_in h hd hym
  have hroot := root_dir h
  have hcnt := rem_cnt C hy hyk
  have hck : 1 ≤ cnt l (k : Int) := cnt_one (ndAt_mem hym).1 hym hyk
  have hk0 : k ≠ 0 := fun e => by
    subst e
    have h2 : cnt l ((0 : Nat) : Int) = 0 := hroot.2.2
    omega
  have hn : ∀ i : Int, (ndAt l' i).names = if i.toNat = d then remN (ndAt l (d : Int)).names s else (ndAt l i).names := C.names
  have hne : ∀ i : Nat, (ndAt l (i : Int)).names = [] → (ndAt l' (i : Int)).names = [] := fun i hi => by
    rw [hn, Int.toNat_natCast]
    by_cases hid : i = d
    · subst hid
      rw [if_pos rfl]
      exact nil_of_sub (fun y hy => remN_sub hy) hi
    · rw [if_neg hid]; exact hi
  refine ck_of (by rw [C.len]; exact (checkB_facts h).1) (by rw [C.len]; exact (checkB_facts h).2.1) (rem_nodes (fun i hi => node_ok h hi) hdk C) (fun i hi => ?_) (fun i hi h0 hki hc => ?_)
  · rw [C.len] at hi
    by_cases h0 : i = 0
    · subst h0
      refine linkB_zero ((C.kind 0).trans hroot.1) ?_ ?_
      · rw [C.links, if_neg (by show ¬ (0 : Nat) = k; omega)]; exact hroot.2.1
      · have := hcnt 0
        rw [hroot.2.2] at this
        omega
    · have hle := links_eq h hi h0
      have hv := hcnt (i : Int)
      have hL : (ndAt l' (i : Int)).links = (cnt l' (i : Int) : Int) := by
        rw [C.links, Int.toNat_natCast]
        by_cases hik : i = k
        · subst hik; rw [if_pos rfl] at hv ⊢; rw [hle]; omega
        · rw [if_neg hik]; rw [if_neg (by omega)] at hv; rw [hle]; omega
      refine linkB_of h0 hL fun hki => ?_
      rw [C.kind] at hki
      have h4 := dir_links h hi h0 hki
      rw [C.links, Int.toNat_natCast]
      by_cases hik : i = k
      · subst hik
        rw [if_pos rfl]
        exact ⟨by omega, fun _ => hne i hkn⟩
      · rw [if_neg hik]
        exact ⟨h4.1, fun hz => hne i (h4.2 hz)⟩
  · rw [C.len] at hi
    rw [C.kind] at hki
    have hv := hcnt (i : Int)
    have hR := ck_reach h hi hki (by rw [links_eq h hi h0]; omega)
    have hik : i ≠ k := fun e => by
      subst e
      have := (dir_links h hi h0 hki).1
      have := links_eq h hi h0
      rw [if_pos rfl] at hv
      omega
    have key : ∀ {j : Int}, Reach l j → j ≠ (k : Int) → Reach l' j := fun {j} hj => by
      induction hj with
      | root => intro _; exact .root
      | @step a b ha hc ih =>
        intro hb
        have hak : a ≠ (k : Int) := fun e => by
          obtain ⟨_, x, hx, _⟩ := hc
          rw [e, hkn] at hx; cases hx
        refine .step (ih hak) (C.child hc fun x hx ex => remN_keep hy hx fun e => hb ?_)
        rw [← ex, e, hyk]
    exact key hR (by omega)
theorem unlink_keeps {l : List ND} (h : checkB l = true) (d : Int) (s : List UInt8) : Kept l (unlinkP l d s).1 ∧ ((unlinkP l d s).2 ≠ 0 → (unlinkP l d s).1 = l) := by
  unfold unlinkP
  cases hh : hasP l [d] with
  | false => rw [if_neg (by simp)]; exact ⟨.refl h, fun _ => rfl⟩
  | true =>
    rw [if_pos rfl]
    obtain ⟨m, rfl, hm⟩ := hasP_in hh (List.mem_singleton.2 rfl)
    by_cases hw : writableP l (m : Int) = 0
    · rw [if_pos hw]
      cases hl2 : (lkP l (m : Int) s).2 with
      | false => rw [if_neg (by simp)]; exact ⟨.refl h, fun _ => rfl⟩
      | true =>
        rw [if_pos rfl]
        have hl : lkP l (m : Int) s = ((lkP l (m : Int) s).1, true) := by rw [← hl2]
        obtain ⟨k, hk, hkl⟩ := lk_in h hm hl
        by_cases hn : (ndAt l (lkP l (m : Int) s).1).names.isEmpty = true
        · rw [if_pos hn]
          rw [hk] at hn hl
          obtain ⟨h1, C, _⟩ := rem_keeps h hm hl (List.isEmpty_iff.1 hn)
          obtain ⟨h2, h3⟩ := rem_size C
          refine ⟨⟨h1, by dsimp only; rw [C.len]; exact Nat.le_refl _, by dsimp only; rw [C.len]; omega, by dsimp only; omega, fun M hM n hnm => ?_⟩, fun h => absurd rfl h⟩
          obtain ⟨i, hi, rfl⟩ := mem_at hnm
          exact Nat.le_succ_of_le (h3 M (fun i hi => hM _ (ndAt_in hi)) i hi)
        · rw [if_neg hn]; exact ⟨.refl h, fun _ => rfl⟩
    · rw [if_neg hw]; exact ⟨.refl h, fun _ => rfl⟩
theorem link_keeps {l : List ND} (h : checkB l = true) (k d : Int) (s : List UInt8) : Kept l (linkP l k d s).1 ∧ ((linkP l k d s).2 ≠ 0 → (linkP l k d s).1 = l) := by
  unfold linkP
  cases hh : hasP l [k, d] with
  | false => rw [if_neg (by simp)]; exact ⟨.refl h, fun _ => rfl⟩
  | true =>
    rw [if_pos rfl]
    obtain ⟨k, rfl, hk⟩ := hasP_in hh (List.mem_cons_self ..)
    obtain ⟨d, rfl, hd⟩ := hasP_in hh (List.mem_cons_of_mem _ (List.mem_singleton.2 rfl))
    by_cases hkk : (ndAt l (k : Int)).kind = 2
    · rw [if_pos hkk]; exact ⟨.refl h, fun _ => rfl⟩
    · rw [if_neg hkk]
      dsimp only
      by_cases he : firstP [nameC s, writableP l (d : Int), absentP l (d : Int) s] = 0
      · rw [if_pos he]
        have h1 := first_zero he
        exact ⟨ins_keeps h hd hk (fun hc => absurd hc hkk) (nameC_ok (h1 _ (by simp))) (h1 _ (by simp)) (h1 _ (by simp)), fun h => absurd rfl h⟩
      · rw [if_neg he]; exact ⟨.refl h, fun _ => rfl⟩
theorem ndAt_push (l : List ND) (n : ND) (i : Nat) (hi : i < l.length) : ndAt (l ++ [n]) (i : Int) = ndAt l (i : Int) := by
  rw [ndAt_nat, ndAt_nat, List.getD_eq_getElem?_getD, List.getD_eq_getElem?_getD, List.getElem?_append_left hi]
theorem ndAt_last (l : List ND) (n : ND) : ndAt (l ++ [n]) (l.length : Int) = n := by
  rw [ndAt_nat, List.getD_eq_getElem?_getD, List.getElem?_append_right (Nat.le_refl _), Nat.sub_self]
  rfl
theorem nodeB_more {n : ND} {c e : Int} (h : nodeB n c = true) (hc : c ≤ e) : nodeB n e = true := by
  by_cases h2 : n.kind = 2
  · refine nodeB_names (n := n) (c := e) ?_ h2 rfl rfl rfl rfl ?_
    all_goals
      have hf : namesFrom e none n.names = true := by
        obtain ⟨p1, p2⟩ := (namesFrom_iff _ _).1 (nodeB_namesFrom h h2)
        exact (namesFrom_iff _ _).2 ⟨fun y hy => ⟨(p1 y hy).1, (p1 y hy).2.1, by have := (p1 y hy).2.2; omega⟩, p2⟩
    · unfold nodeB at h ⊢
      rw [if_neg (by omega), if_pos h2] at h ⊢
      simp only [Bool.and_eq_true] at h ⊢
      exact ⟨h.1, ⟨hf, h.2.1.2⟩, h.2.2⟩
    · exact hf
  · unfold nodeB at h ⊢
    rw [if_neg h2] at h ⊢
    exact h
theorem push_keeps {l : List ND} (h : checkB l = true) (hl : l.length < 256) {n : ND} (hn : nodeB n ((l.length + 1 : Nat) : Int) = true) (hz : n.links = 0) (he : n.names = []) : checkB (l ++ [n]) = true ∧ allNames (l ++ [n]) = allNames l := by
  have hlen : (l ++ [n]).length = l.length + 1 := by simp
  have hall : allNames (l ++ [n]) = allNames l := by
    unfold allNames
    rw [List.flatMap_append, List.flatMap_cons, he]
    simp
  have hcnt : ∀ v : Int, cnt (l ++ [n]) v = cnt l v := fun v => by unfold cnt; rw [hall]
  have hroot := root_dir h
  have hp := (checkB_facts h).1
  have h0 : ndAt (l ++ [n]) 0 = ndAt l 0 := ndAt_push l n 0 (by omega)
  refine ⟨ck_of (by omega) (by omega) (fun i hi => ?_) (fun i hi => ?_) (fun i hi hi0 hki hc => ?_), hall⟩
  · rw [hlen] at hi ⊢
    rcases Nat.lt_or_ge i l.length with h1 | h1
    · rw [ndAt_push l n i h1]
      exact nodeB_more (node_ok h h1) (by omega)
    · obtain rfl : i = l.length := by omega
      rw [ndAt_last]
      exact hn
  · rw [hlen] at hi
    by_cases hi0 : i = 0
    · subst hi0
      exact linkB_zero (by rw [h0]; exact hroot.1) (by rw [h0]; exact hroot.2.1) (by rw [hcnt]; exact hroot.2.2)
    · rcases Nat.lt_or_ge i l.length with h1 | h1
      · refine linkB_of hi0 ?_ ?_
        · rw [ndAt_push l n i h1, hcnt]; exact links_eq h h1 hi0
        · rw [ndAt_push l n i h1]; exact dir_links h h1 hi0
      · obtain rfl : i = l.length := by omega
        refine linkB_of hi0 ?_ ?_
        · rw [ndAt_last, hcnt, hz, cnt_out (one_of h).r (.inr (Int.le_refl _))]; rfl
        · rw [ndAt_last]
          exact fun _ => ⟨by omega, fun _ => he⟩
  · rw [hlen] at hi
    rw [hcnt] at hc
    rcases Nat.lt_or_ge i l.length with h1 | h1
    · rw [ndAt_push l n i h1] at hki
      refine reach_mono (fun a b hab => ?_) (ck_reach h h1 hki (by rw [links_eq h h1 hi0]; omega))
      obtain ⟨hd, x, hx, ex⟩ := hab
      have hr := (one_of h).r
      obtain ⟨c1, c2, c3⟩ := child_in hr ⟨hd, x, hx, ex⟩
      have ea : ndAt (l ++ [n]) a = ndAt l a := by
        unfold ndAt
        rw [List.getD_eq_getElem?_getD, List.getD_eq_getElem?_getD, List.getElem?_append_left c3]
      have eb : ndAt (l ++ [n]) b = ndAt l b := by
        unfold ndAt
        rw [List.getD_eq_getElem?_getD, List.getD_eq_getElem?_getD, List.getElem?_append_left c2]
      exact ⟨by unfold isDir at hd ⊢; rw [eb]; exact hd, x, by rw [ea]; exact hx, ex⟩
    · obtain rfl : i = l.length := by omega
      exact absurd (cnt_out (one_of h).r (.inr (Int.le_refl _))) hc
theorem createP_node {n : ND} (h : creatableP n = true) : n.names = [] ∧ ∀ c : Int, nodeB { n with links := 0 } c = true := by
  unfold creatableP at h
  simp only [Bool.and_eq_true] at h
  have he := List.isEmpty_iff.1 h.1
  refine ⟨he, fun c => ?_⟩
  have h1 := (checkB_facts h.2).2.2.1 { n with links := 1 } (by simp)
  unfold nodeB at h1 ⊢
  dsimp only at h1 ⊢
  rw [he] at h1 ⊢
  exact h1
theorem create_keeps {l : List ND} (h : checkB l = true) (d : Int) (s : List UInt8) (n : ND) : Kept l (createP l d s n).1 ∧ ((createP l d s n).2.2 ≠ 0 → (createP l d s n).1 = l) := by
  unfold createP
  by_cases hh : (hasP l [d] && creatableP n) = true
  · rw [if_pos hh]
    simp only [Bool.and_eq_true] at hh
    obtain ⟨hh, hcr⟩ := hh
    obtain ⟨d, rfl, hd⟩ := hasP_in hh (List.mem_singleton.2 rfl)
    dsimp only
    by_cases he : firstP [nameC s, writableP l (d : Int), absentP l (d : Int) s] = 0
    · rw [if_pos he]
      by_cases h256 : 256 ≤ l.length
      · rw [if_pos h256]; exact ⟨.refl h, fun _ => rfl⟩
      · rw [if_neg h256]
        have h1 := first_zero he
        obtain ⟨hn, hok⟩ := createP_node hcr
        obtain ⟨hck, hall⟩ := push_keeps h (by omega) (n := { n with links := 0 }) (hok _) rfl hn
        have hlen : (l ++ [{ n with links := 0 }]).length = l.length + 1 := by simp
        have hda : ndAt (l ++ [{ n with links := 0 }]) (d : Int) = ndAt l (d : Int) := ndAt_push _ _ _ hd
        have hw : writableP (l ++ [{ n with links := 0 }]) (d : Int) = 0 := by unfold writableP; rw [hda]; exact h1 (writableP l (d : Int)) (by simp)
        have ha : absentP (l ++ [{ n with links := 0 }]) (d : Int) s = 0 := by unfold absentP lkP; rw [hda]; exact h1 (absentP l (d : Int) s) (by simp)
        have K := ins_keeps hck (d := d) (k := l.length) (s := s) (by omega) (by omega) (fun _ => by rw [ndAt_last]) (nameC_ok (h1 _ (by simp))) hw ha
        refine ⟨⟨K.ck, ?_, ?_, ?_, fun M hM n' hn' => ?_⟩, fun h => absurd rfl h⟩
        · have := K.ge; dsimp only; omega
        · dsimp only
          have C := chg_ins (l := l ++ [{ n with links := 0 }]) (d := d) (k := l.length) (by omega) (by omega) s
          rw [C.len]; omega
        · have := K.all; dsimp only; rw [hall] at this; exact this
        · refine K.each M (fun m hm => ?_) n' hn'
          rcases List.mem_append.1 hm with hm | hm
          · exact hM m hm
          · rw [List.mem_singleton.1 hm]
            show n.names.length ≤ M
            rw [hn]; exact Nat.zero_le _
    · rw [if_neg he]; exact ⟨.refl h, fun _ => rfl⟩
  · rw [if_neg hh]; exact ⟨.refl h, fun _ => rfl⟩
end Go.Proofs.YtlcoapignfmgcaaGreatDoor
