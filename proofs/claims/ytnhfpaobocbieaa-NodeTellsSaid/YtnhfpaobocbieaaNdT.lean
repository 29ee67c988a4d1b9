/- The walk's mathematics: each directory once, paths apart, how many steps. -/
import Derived.Test.YtnhfpaobocbieaaNdVb
namespace Go.Proofs.Ytnhfpaobocbieaa
set_option linter.unusedVariables false
/-- The names that lead to a step. -/
def pth (x : ST) : List (List UInt8) := x.up ++ [x.name]
def NamesOk (l : List ND) : Prop := ∀ d ∈ l, d.names.Pairwise fun a b => a.name ≠ b.name
theorem names_above (c : Int) : ∀ (t : List NM) (p : List UInt8), namesFrom c (some p) t = true → ∀ y ∈ t, p < y.name
  | [], _, _, y, hy => by cases hy
  | x :: t, p, h, y, hy => by
    simp only [namesFrom, Bool.and_eq_true, decide_eq_true_eq] at h
    rcases List.mem_cons.1 hy with rfl | hy
    · exact h.1.2
    · exact List.lt_trans h.1.2 (names_above c t _ h.2 y hy)
theorem names_sorted (c : Int) : ∀ (t : List NM) (p : Option (List UInt8)), namesFrom c p t = true → t.Pairwise fun a b => a.name < b.name
  | [], _, _ => .nil
  | x :: t, p, h => by
    simp only [namesFrom, Bool.and_eq_true] at h
    exact .cons (names_above c t _ h.2) (names_sorted c t _ h.2)
theorem nodeB_sorted {n : ND} {c : Int} (h : nodeB n c = true) : n.names.Pairwise fun a b => a.name < b.name := by
  unfold nodeB at h
  simp only [Bool.and_eq_true] at h
  obtain ⟨-, h⟩ := h
  split at h
  · simp only [Bool.and_eq_true, List.isEmpty_iff] at h
    rw [h.1.2]; exact .nil
  · split at h
    · simp only [Bool.and_eq_true] at h
      exact names_sorted c _ _ h.1.1
    · split at h
      · simp only [Bool.and_eq_true, List.isEmpty_iff] at h
        rw [h.2]; exact .nil
      · cases h
theorem namesOk_of {l : List ND} (h : ∀ n ∈ l, nodeB n l.length = true) : NamesOk l := fun d hd =>
  (nodeB_sorted (h d hd)).imp fun hlt e => by rw [e] at hlt; exact List.lt_irrefl _ hlt
theorem names_at {l : List ND} (h : NamesOk l) (d : Int) : (ndAt l d).names.Pairwise fun a b => a.name ≠ b.name := by
  by_cases hd : d.toNat < l.length
  · refine h _ ?_
    unfold ndAt
    rw [List.getD_eq_getElem?_getD, List.getElem?_eq_getElem hd]
    exact List.getElem_mem _
  · rw [ndAt_out (by omega)]; exact .nil
theorem wkN_pre {l : List ND} (k : Nat) (us : List (List UInt8)) (d : Int) (y : NM) (hw : ∀ x ∈ wk l k (us ++ [y.name]) y.node, ∃ n r, pth x = (us ++ [y.name]) ++ n :: r) : ∀ x ∈ wkN l k us d y, ∃ r, pth x = us ++ y.name :: r := fun x hx => by
  unfold wkN at hx
  rcases List.mem_cons.1 hx with rfl | hx
  · exact ⟨[], rfl⟩
  · split at hx
    · obtain ⟨n, r, e⟩ := hw x hx
      exact ⟨n :: r, by rw [e]; simp⟩
    · cases hx
theorem wk_pre {l : List ND} : ∀ (k : Nat) (us : List (List UInt8)) (d : Int), ∀ x ∈ wk l k us d, ∃ n r, pth x = us ++ n :: r
  | 0, us, d, x, hx => by cases hx
  | k + 1, us, d, x, hx => by
    rw [wk_succ] at hx
    obtain ⟨y, hy, hx⟩ := List.mem_flatMap.1 hx
    obtain ⟨r, e⟩ := wkN_pre k us d y (wk_pre k _ _) x hx
    exact ⟨_, r, e⟩
theorem paths_apart {l : List ND} (hn : NamesOk l) : ∀ (k : Nat) (us : List (List UInt8)) (d : Int), (wk l k us d).Pairwise fun x y => pth x ≠ pth y
  | 0, us, d => .nil
  | k + 1, us, d => by
    rw [wk_succ, List.pairwise_flatMap]
    refine ⟨fun y hy => ?_, ?_⟩
    · unfold wkN
      refine .cons (fun z hz e => ?_) ?_
      · split at hz
        · obtain ⟨n, r, e2⟩ := wk_pre k _ _ z hz
          rw [e2] at e
          have := congrArg List.length e
          unfold pth at this
          simp at this
        · cases hz
      · split
        · exact paths_apart hn k _ _
        · exact .nil
    · refine (names_at hn d).imp fun {a b} hab x hx z hz e => ?_
      obtain ⟨r1, e1⟩ := wkN_pre k us d a (wk_pre k _ _) x hx
      obtain ⟨r2, e2⟩ := wkN_pre k us d b (wk_pre k _ _) z hz
      rw [e1, e2] at e
      have := List.append_cancel_left e
      injection this with h1 h2
      exact hab h1
/-- Where a step comes from. -/
theorem wk_up {l : List ND} : ∀ (k : Nat) (us : List (List UInt8)) (d : Int), ∀ x ∈ wk l k us d,
    (x.dir = d ∧ x.up = us ∧ ∃ y ∈ (ndAt l d).names, y.name = x.name ∧ y.node = x.node) ∨ ∃ z ∈ wk l k us d, isDir l z.node = true ∧ x.dir = z.node ∧ x.up = pth z ∧ ∃ y ∈ (ndAt l z.node).names, y.name = x.name ∧ y.node = x.node
  | 0, us, d, x, hx => by cases hx
  | k + 1, us, d, x, hx => by
    rw [wk_succ] at hx ⊢
    obtain ⟨y, hy, hx⟩ := List.mem_flatMap.1 hx
    have hx2 := hx
    unfold wkN at hx
    rcases List.mem_cons.1 hx with rfl | hx
    · exact .inl ⟨rfl, rfl, y, hy, rfl, rfl⟩
    · by_cases hd : isDir l y.node = true
      · rw [if_pos hd] at hx
        rcases wk_up k _ _ x hx with ⟨h1, h2, h3⟩ | ⟨z, hz, h1⟩
        · exact .inr ⟨⟨d, y.name, y.node, us⟩, List.mem_flatMap.2 ⟨y, hy, List.mem_cons_self ..⟩, hd, h1, h2, h3⟩
        · exact .inr ⟨z, List.mem_flatMap.2 ⟨y, hy, by unfold wkN; rw [if_pos hd]; exact List.mem_cons_of_mem _ hz⟩, h1⟩
      · rw [if_neg hd] at hx; cases hx
theorem wk_name {l : List ND} {k : Nat} {us : List (List UInt8)} {d : Int} {x : ST} (hx : x ∈ wk l k us d) : ∃ y ∈ (ndAt l x.dir).names, y.name = x.name ∧ y.node = x.node := by
  rcases wk_up k us d x hx with ⟨h1, _, h3⟩ | ⟨z, _, _, h1, _, h3⟩
  · rw [h1]; exact h3
  · rw [h1]; exact h3
theorem name_uniq {l : List ND} {d e : Int} {a b : NM} (ha : a ∈ (ndAt l d).names) (hb : b ∈ (ndAt l d).names) (ea : a.node = e) (eb : b.node = e) (h : cnt l e ≤ 1) : a = b := by
  obtain ⟨hd, hm⟩ := ndAt_mem ha
  have h1 : (ndAt l d).names.countP (fun x => x.node == e) ≤ cnt l e := by
    unfold cnt allNames
    obtain ⟨s, t, hst⟩ := List.append_of_mem hm
    conv => rhs; rw [hst]
    rw [List.flatMap_append, List.flatMap_cons, List.countP_append, List.countP_append]
    omega
  rw [List.countP_eq_length_filter] at h1
  have ma : a ∈ (ndAt l d).names.filter (fun x => x.node == e) := List.mem_filter.2 ⟨ha, by simp [ea]⟩
  have mb : b ∈ (ndAt l d).names.filter (fun x => x.node == e) := List.mem_filter.2 ⟨hb, by simp [eb]⟩
  match hf : (ndAt l d).names.filter (fun x => x.node == e) with
  | [] => rw [hf] at ma; cases ma
  | [x] => rw [hf] at ma mb; rw [List.mem_singleton.1 ma, List.mem_singleton.1 mb]
  | x :: y :: t => rw [hf] at h1; simp at h1; omega
/-- What a checked file system's counts say. -/
structure One (l : List ND) : Prop where
  r : RefsOk l
  z : cnt l 0 = 0
  u : ∀ i : Int, isDir l i = true → cnt l i ≤ 1
theorem One.no_root {l : List ND} (h : One l) {k : Nat} {us : List (List UInt8)} {d : Int} {x : ST} (hx : x ∈ wk l k us d) : x.node ≠ 0 := fun e => by
  obtain ⟨y, hy, _, e2⟩ := wk_name hx
  obtain ⟨hd, _⟩ := ndAt_mem hy
  have := cnt_one (d := 0) hd hy (e2.trans e)
  have := h.z
  omega
theorem One.node_in {l : List ND} (h : One l) {k : Nat} {us : List (List UInt8)} {d : Int} {x : ST} (hx : x ∈ wk l k us d) : 0 ≤ x.node ∧ x.node < (l.length : Int) := by
  obtain ⟨y, hy, _, e2⟩ := wk_name hx
  rw [← e2]
  exact h.r _ (ndAt_mem hy).2 y hy
theorem step_uniq {l : List ND} (h : One l) {k : Nat} : ∀ (m : Nat) (x y : ST), x.up.length ≤ m → x ∈ wk l k [] 0 → y ∈ wk l k [] 0 → x.node = y.node → isDir l x.node = true → x = y := by
  intro m
  induction m with
  | zero =>
    intro x y hm hx hy e hd
    rcases wk_up k [] 0 x hx with ⟨a1, a2, a, ha, a3, a4⟩ | ⟨z, hz, b1, b2, b3, _⟩
    · rcases wk_up k [] 0 y hy with ⟨c1, c2, c, hc, c3, c4⟩ | ⟨z, hz, c1, c2, c3, c, hc, c4, c5⟩
      · have : a = c := name_uniq ha hc a4 (c4.trans e.symm) (h.u _ hd)
        subst this
        obtain ⟨xd, xn, xo, xu⟩ := x
        obtain ⟨yd, yn, yo, yu⟩ := y
        dsimp only at *
        subst a1 a2 c1 c2 a3 c3 e
        rfl
      · exact absurd (child_up h.r h.u (Int.le_refl 0) (h.node_in hz).1 ⟨hd, a, ha, a4⟩ ⟨hd, c, hc, c5.trans e.symm⟩).symm (h.no_root hz)
    · rw [b3] at hm
      unfold pth at hm
      simp at hm
  | succ m ih =>
    intro x y hm hx hy e hd
    rcases wk_up k [] 0 x hx with ⟨a1, a2, a, ha, a3, a4⟩ | ⟨z, hz, b1, b2, b3, b, hb, b4, b5⟩
    · rcases wk_up k [] 0 y hy with ⟨c1, c2, c, hc, c3, c4⟩ | ⟨z, hz, c1, c2, c3, c, hc, c4, c5⟩
      · have : a = c := name_uniq ha hc a4 (c4.trans e.symm) (h.u _ hd)
        subst this
        obtain ⟨xd, xn, xo, xu⟩ := x
        obtain ⟨yd, yn, yo, yu⟩ := y
        dsimp only at *
        subst a1 a2 c1 c2 a3 c3 e
        rfl
      · exact absurd (child_up h.r h.u (Int.le_refl 0) (h.node_in hz).1 ⟨hd, a, ha, a4⟩ ⟨hd, c, hc, c5.trans e.symm⟩).symm (h.no_root hz)
    · rcases wk_up k [] 0 y hy with ⟨c1, c2, c, hc, c3, c4⟩ | ⟨z', hz', c1, c2, c3, c, hc, c4, c5⟩
      · exact absurd (child_up h.r h.u (h.node_in hz).1 (Int.le_refl 0) ⟨hd, b, hb, b5⟩ ⟨hd, c, hc, c4.trans e.symm⟩) (h.no_root hz)
      · have hzz := child_up h.r h.u (h.node_in hz).1 (h.node_in hz').1 ⟨hd, b, hb, b5⟩ ⟨hd, c, hc, c5.trans e.symm⟩
        have hz2 : z = z' := ih z z' (by rw [b3] at hm; unfold pth at hm; simp at hm; omega) hz hz' hzz b1
        subst hz2
        have : b = c := name_uniq hb hc b5 (c5.trans e.symm) (h.u _ hd)
        subst this
        obtain ⟨xd, xn, xo, xu⟩ := x
        obtain ⟨yd, yn, yo, yu⟩ := y
        dsimp only at *
        subst b2 b3 c2 c3 b4 c4 e
        rfl
def dirsOf (l : List ND) (s : List ST) : List Int := (s.filter fun x => isDir l x.node).map ST.node
def sumN (l : List ND) (D : List Int) : Nat := (D.map fun d => (ndAt l d).names.length).sum
theorem dirsOf_append (l : List ND) (a b : List ST) : dirsOf l (a ++ b) = dirsOf l a ++ dirsOf l b := by simp [dirsOf]
theorem sumN_append (l : List ND) (a b : List Int) : sumN l (a ++ b) = sumN l a + sumN l b := by simp [sumN]
theorem wk_len {l : List ND} : ∀ (k : Nat) (us : List (List UInt8)) (d : Int), Deep l k d → (wk l k us d).length = (ndAt l d).names.length + sumN l (dirsOf l (wk l k us d))
  | 0, us, d, h => absurd h (by simp [Deep])
  | k + 1, us, d, h => by
    rw [wk_succ]
    have hh : ∀ y ∈ (ndAt l d).names, isDir l y.node = true → Deep l k y.node := h
    generalize (ndAt l d).names = t at hh
    induction t with
    | nil => rfl
    | cons y t ih =>
      have h1 := ih (fun z hz => hh z (List.mem_cons_of_mem _ hz))
      rw [List.flatMap_cons, List.length_append, dirsOf_append, sumN_append, h1, List.length_cons]
      have h2 : (wkN l k us d y).length = 1 + sumN l (dirsOf l (wkN l k us d y)) := by
        unfold wkN
        by_cases hd : isDir l y.node = true
        · rw [if_pos hd, List.length_cons, wk_len k _ _ (hh y (List.mem_cons_self ..) hd)]
          have e : dirsOf l (⟨d, y.name, y.node, us⟩ :: wk l k (us ++ [y.name]) y.node) = y.node :: dirsOf l (wk l k (us ++ [y.name]) y.node) := by
            unfold dirsOf
            rw [List.filter_cons, if_pos hd]
            rfl
          rw [e]
          simp only [sumN, List.map_cons, List.sum_cons]
          omega
        · rw [if_neg hd]
          have e : dirsOf l [(⟨d, y.name, y.node, us⟩ : ST)] = [] := by
            unfold dirsOf
            rw [List.filter_cons, if_neg hd]
            rfl
          rw [e]
          rfl
      omega
/-- The directories that the walk goes into. -/
def DD (l : List ND) (k : Nat) : List Int := 0 :: dirsOf l (wk l k [] 0)
theorem dd_nodup {l : List ND} (h : One l) (hn : NamesOk l) (k : Nat) : (DD l k).Nodup := by
  unfold DD
  refine List.nodup_cons.2 ⟨fun h0 => ?_, ?_⟩
  · unfold dirsOf at h0
    obtain ⟨x, hx, e⟩ := List.mem_map.1 h0
    exact h.no_root (List.mem_filter.1 hx).1 e
  · unfold dirsOf List.Nodup
    rw [List.pairwise_map]
    have h1 : ((wk l k [] 0).filter fun x => isDir l x.node).Pairwise fun x y => pth x ≠ pth y := (paths_apart hn k [] 0).filter _
    refine h1.imp_of_mem fun {x y} hx hy hp e => hp ?_
    obtain ⟨mx, dx⟩ := List.mem_filter.1 hx
    obtain ⟨my, dy⟩ := List.mem_filter.1 hy
    rw [step_uniq h _ x y (Nat.le_refl _) mx my e dx]
theorem dd_in {l : List ND} (h : One l) (hp : 0 < l.length) (k : Nat) : ∀ d ∈ DD l k, 0 ≤ d ∧ d < (l.length : Int) := fun d hd => by
  unfold DD at hd
  rcases List.mem_cons.1 hd with rfl | hd
  · omega
  · unfold dirsOf at hd
    obtain ⟨x, hx, e⟩ := List.mem_map.1 hd
    rw [← e]
    exact h.node_in (List.mem_filter.1 hx).1
theorem subset_perm {α : Type} [DecidableEq α] : ∀ (D R : List α), D.Nodup → (∀ x ∈ D, x ∈ R) → ∃ R', R.Perm (D ++ R')
  | [], R, _, _ => ⟨R, .refl _⟩
  | d :: D, R, hn, hs => by
    obtain ⟨h1, h2⟩ := List.nodup_cons.1 hn
    have hd := hs d (List.mem_cons_self ..)
    obtain ⟨R', hR⟩ := subset_perm D (R.erase d) h2 (fun x hx => (List.mem_erase_of_ne (fun e => h1 (by rw [← e]; exact hx))).2 (hs x (List.mem_cons_of_mem _ hx)))
    exact ⟨R', (List.perm_cons_erase hd).trans (hR.cons d)⟩
def allI (l : List ND) : List Int := (List.range l.length).map fun (i : Nat) => (i : Int)
theorem allI_mem {l : List ND} {d : Int} : d ∈ allI l ↔ 0 ≤ d ∧ d < (l.length : Int) := by
  unfold allI
  rw [List.mem_map]
  constructor
  · rintro ⟨i, hi, rfl⟩
    have := List.mem_range.1 hi
    omega
  · rintro ⟨h1, h2⟩
    exact ⟨d.toNat, List.mem_range.2 (by omega), by omega⟩
theorem allI_nodup (l : List ND) : (allI l).Nodup := by
  unfold allI List.Nodup
  rw [List.pairwise_map]
  exact List.nodup_range.imp fun {a b} h e => h (by omega)
theorem ndAt_nat (l : List ND) (i : Nat) : ndAt l (i : Int) = l.getD i nd0 := rfl
theorem sum_all (f : ND → Nat) (l : List ND) : ((allI l).map fun d => f (ndAt l d)).sum = (l.map f).sum := by
  unfold allI
  rw [List.map_map]
  have e : ((List.range l.length).map ((fun d => f (ndAt l d)) ∘ fun (i : Nat) => (i : Int))) = l.map f := by
    apply List.ext_getElem
    · simp
    · intro i h1 h2
      simp only [List.getElem_map, List.getElem_range, Function.comp]
      rw [ndAt_nat, List.getD_eq_getElem?_getD, List.getElem?_eq_getElem (by simpa using h2)]
      rfl
  rw [e]
theorem allNames_length (l : List ND) : (allNames l).length = (l.map fun n => n.names.length).sum := by
  unfold allNames
  rw [List.length_flatMap]
theorem wk_few {l : List ND} (h : One l) (hn : NamesOk l) (hp : 0 < l.length) {k : Nat} (hd : Deep l k 0) : (wk l k [] 0).length ≤ (allNames l).length := by
  rw [wk_len k [] 0 hd, allNames_length, ← sum_all]
  obtain ⟨R', hR⟩ := subset_perm (DD l k) (allI l) (dd_nodup h hn k) (fun x hx => allI_mem.2 (dd_in h hp k x hx))
  have h1 := (hR.map fun d => (ndAt l d).names.length).sum_nat
  rw [h1, List.map_append, List.sum_append]
  unfold DD sumN
  simp only [List.map_cons, List.sum_cons]
  omega
end Go.Proofs.Ytnhfpaobocbieaa
