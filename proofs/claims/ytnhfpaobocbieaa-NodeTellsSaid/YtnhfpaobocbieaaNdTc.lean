/- What the law NodeWhere says: plain. -/
import Derived.Test.YtnhfpaobocbieaaNdLb
namespace Go.Proofs.Ytnhfpaobocbieaa
set_option linter.unusedVariables false
theorem wk_next {l : List ND} : ∀ (k : Nat) (us : List (List UInt8)) (d : Int), Deep l k d → ∀ z ∈ wk l k us d, isDir l z.node = true → ∀ y ∈ (ndAt l z.node).names, (⟨z.node, y.name, y.node, pth z⟩ : ST) ∈ wk l k us d
  | 0, us, d, h, _, _, _, _, _ => absurd h (by simp [Deep])
  | k + 1, us, d, h, z, hz, hd, y, hy => by
    rw [wk_succ] at hz ⊢
    obtain ⟨y0, hy0, hz⟩ := List.mem_flatMap.1 hz
    refine List.mem_flatMap.2 ⟨y0, hy0, ?_⟩
    unfold wkN at hz ⊢
    rcases List.mem_cons.1 hz with rfl | hz
    · have hd' : isDir l y0.node = true := hd
      rw [if_pos hd']
      have hk : Deep l k y0.node := h y0 hy0 hd'
      match k, hk with
      | k + 1, hk =>
        refine List.mem_cons_of_mem _ ?_
        rw [wk_succ]
        exact List.mem_flatMap.2 ⟨y, hy, List.mem_cons_self ..⟩
    · by_cases hd' : isDir l y0.node = true
      · rw [if_pos hd'] at hz ⊢
        exact List.mem_cons_of_mem _ (wk_next k _ _ (h y0 hy0 hd') z hz hd y hy)
      · rw [if_neg hd'] at hz; cases hz
theorem dd_step {l : List ND} (h : checkB l = true) {i : Int} (hi : i ∈ DD l l.length) {y : NM} (hy : y ∈ (ndAt l i).names) : ∃ x ∈ WK l, x.dir = i ∧ x.name = y.name ∧ x.node = y.node := by
  unfold DD at hi
  have hp := (checkB_facts h).1
  have hdp := (checkB_facts h).2.2.2.2.2.2
  unfold WK
  rcases List.mem_cons.1 hi with rfl | hi
  · obtain ⟨k, hk⟩ : ∃ k, l.length = k + 1 := ⟨l.length - 1, by omega⟩
    rw [hk]
    refine ⟨⟨0, y.name, y.node, []⟩, ?_, rfl, rfl, rfl⟩
    rw [wk_succ]
    exact List.mem_flatMap.2 ⟨y, hy, List.mem_cons_self ..⟩
  · unfold dirsOf at hi
    obtain ⟨z, hz, e⟩ := List.mem_map.1 hi
    obtain ⟨hz, hzd⟩ := List.mem_filter.1 hz
    subst e
    exact ⟨_, wk_next _ _ _ hdp z hz hzd y hy, rfl, rfl, rfl⟩
theorem some_step {l : List ND} (h : checkB l = true) {m : Int} (hc : 0 < cnt l m) : ∃ x ∈ WK l, x.node = m := by
  unfold cnt at hc
  obtain ⟨y, hy, e⟩ := List.countP_pos_iff.1 hc
  unfold allNames at hy
  obtain ⟨d, hd, hy⟩ := List.mem_flatMap.1 hy
  obtain ⟨i, hi, ei⟩ := List.getElem_of_mem hd
  have ha : ndAt l (i : Int) = d := by rw [ndAt_nat, List.getD_eq_getElem?_getD, List.getElem?_eq_getElem hi, ← ei]; rfl
  have hin : (i : Int) ∈ allI l := allI_mem.2 ⟨by omega, by omega⟩
  have hdd : (i : Int) ∈ DD l l.length := by
    by_cases hh : (i : Int) ∈ DD l l.length
    · exact hh
    · have := names_out h hin hh
      rw [ha] at this
      rw [this] at hy; cases hy
  obtain ⟨x, hx, _, _, e3⟩ := dd_step h hdd (y := y) (by rw [ha]; exact hy)
  exact ⟨x, hx, by rw [e3]; simpa using e⟩
theorem fnd_isSome {l : List ND} (h : checkB l = true) (m : Int) : (fndN m (WK l)).isSome = decide (0 < cnt l m) := by
  cases hf : fndN m (WK l) with
  | some x =>
    obtain ⟨h1, h2⟩ := fnd_mem hf
    have := cnt_pos h1
    rw [h2] at this
    exact (decide_eq_true (by omega)).symm
  | none =>
    refine (decide_eq_false fun hc => ?_).symm
    obtain ⟨x, hx, e⟩ := some_step h hc
    unfold fndN at hf
    have := List.find?_eq_none.1 hf x hx
    simp [e] at this
theorem where_ok {l : List ND} (h : checkB l = true) {m : Nat} (hm : m < l.length) : (whereP l (m : Int)).2 = decide (0 < (ndAt l (m : Int)).links) := by
  unfold whereP
  rw [if_neg (by rw [h]; simp)]
  by_cases h0 : (m : Int) = 0
  · rw [if_pos h0]
    have := root_dir h
    rw [h0, this.2.1]
    rfl
  · rw [if_neg h0]
    have hl := (links_cnt h hm (by omega)).1
    have hs := fnd_isSome h (m : Int)
    unfold WK at hs
    rw [hl]
    show (fndN (m : Int) (wk l l.length [] 0)).isSome = _
    rw [hs]
    by_cases hc : 0 < cnt l (m : Int)
    · rw [decide_eq_true hc, decide_eq_true (by omega)]
    · rw [decide_eq_false hc, decide_eq_false (by omega)]
def AllOdd (l : List ND) : Prop := ∀ i : Nat, i < l.length → (ndAt l (i : Int)).kind = 2 → (ndAt l (i : Int)).mode % 2 = 1
theorem find_name : ∀ {t : List NM}, (t.Pairwise fun a b => a.name ≠ b.name) → ∀ {y : NM}, y ∈ t → t.find? (fun a => a.name == y.name) = some y
  | [], _, y, hy => by cases hy
  | x :: t, h, y, hy => by
    obtain ⟨h1, h2⟩ := List.pairwise_cons.1 h
    rw [List.find?_cons]
    rcases List.mem_cons.1 hy with rfl | hy
    · simp
    · have : (x.name == y.name) = false := beq_eq_false_iff_ne.2 (h1 y hy)
      rw [this]
      exact find_name h2 hy
theorem look_hit {l : List ND} (h : checkB l = true) (ho : AllOdd l) {d : Int} (h0 : 0 ≤ d) (h1 : d < (l.length : Int)) (hd : isDir l d = true) {y : NM} (hy : y ∈ (ndAt l d).names) : lookP l d y.name = (y.node, 0) := by
  have hk : (ndAt l d).kind = 2 := by unfold isDir at hd; simpa using hd
  obtain ⟨m, rfl⟩ : ∃ m : Nat, d = (m : Int) := ⟨d.toNat, by omega⟩
  have hodd := ho m (by omega) hk
  have hdir : dirP l (m : Int) 1 = 0 := by
    unfold dirP
    rw [if_neg (by rw [h]; simp; omega), if_neg (by rw [hk]; simp), if_neg (by unfold hasBit; rw [if_pos rfl, decide_eq_true hodd]; simp)]
  unfold lookP
  rw [if_pos hdir, find_name (names_at (namesOk_of (checkB_facts h).2.2.1) _) hy]
def goTo (l : List ND) (ks : List Bs) : Int := ks.foldl (fun a s => (lookP l a s).1) 0
theorem goTo_snoc (l : List ND) (ks : List Bs) (s : Bs) : goTo l (ks ++ [s]) = (lookP l (goTo l ks) s).1 := by
  unfold goTo
  rw [List.foldl_append]
  rfl
def Leads (l : List ND) (ks : List Bs) (i : Nat) (s : Bs) : Prop :=
  0 ≤ goTo l (ks.take i) ∧ goTo l (ks.take i) < (l.length : Int) ∧ isDir l (goTo l (ks.take i)) = true ∧ lookP l (goTo l (ks.take i)) s = (goTo l (ks.take (i + 1)), 0)
theorem root_isDir {l : List ND} (h : checkB l = true) : isDir l 0 = true := by
  unfold isDir
  rw [(root_dir h).1]
  rfl
theorem descend {l : List ND} (h : checkB l = true) (ho : AllOdd l) : ∀ (m : Nat) (x : ST), x.up.length ≤ m → x ∈ WK l → goTo l (pth x) = x.node ∧ goTo l x.up = x.dir ∧ ∀ i s, (pth x)[i]? = some s → Leads l (pth x) i s := by
  have h1 := one_of h
  have hp : (0 : Int) < (l.length : Int) := by have := (checkB_facts h).1; omega
  intro m
  induction m with
  | zero =>
    intro x hm hx
    rcases wk_up _ [] 0 x hx with ⟨a1, a2, y, hy, a3, a4⟩ | ⟨z, hz, b1, b2, b3, _⟩
    · have hl := look_hit h ho (Int.le_refl 0) hp (root_isDir h) hy
      rw [a3, a4] at hl
      have e : pth x = [x.name] := by unfold pth; rw [a2]; rfl
      have g : goTo l [x.name] = x.node := by
        show (lookP l 0 x.name).1 = _
        rw [hl]
      rw [e, a2, a1]
      refine ⟨g, rfl, fun i s hs => ?_⟩
      match i with
      | 0 =>
        injection hs with hs
        subst hs
        exact ⟨Int.le_refl 0, hp, root_isDir h, by show lookP l 0 x.name = (goTo l [x.name], 0); rw [g, hl]⟩
      | i + 1 => simp at hs
    · rw [b3] at hm
      unfold pth at hm
      simp at hm
  | succ m ih =>
    intro x hm hx
    rcases wk_up _ [] 0 x hx with ⟨a1, a2, y, hy, a3, a4⟩ | ⟨z, hz, b1, b2, b3, y, hy, b4, b5⟩
    · have hl := look_hit h ho (Int.le_refl 0) hp (root_isDir h) hy
      rw [a3, a4] at hl
      have e : pth x = [x.name] := by unfold pth; rw [a2]; rfl
      have g : goTo l [x.name] = x.node := by
        show (lookP l 0 x.name).1 = _
        rw [hl]
      rw [e, a2, a1]
      refine ⟨g, rfl, fun i s hs => ?_⟩
      match i with
      | 0 =>
        injection hs with hs
        subst hs
        exact ⟨Int.le_refl 0, hp, root_isDir h, by show lookP l 0 x.name = (goTo l [x.name], 0); rw [g, hl]⟩
      | i + 1 => simp at hs
    · obtain ⟨i1, i2, i3⟩ := ih z (by rw [b3] at hm; unfold pth at hm; simp at hm; omega) hz
      have hin := h1.node_in hz
      have hl := look_hit h ho hin.1 hin.2 b1 hy
      rw [b4, b5] at hl
      have e : pth x = pth z ++ [x.name] := by
        conv => lhs; unfold pth
        rw [b3]
      have g : goTo l (pth x) = x.node := by rw [e, goTo_snoc, i1, hl]
      refine ⟨g, by rw [b3, i1, b2], fun i s hs => ?_⟩
      rw [e] at hs
      rcases Nat.lt_or_ge i (pth z).length with hlt | hge
      · rw [List.getElem?_append_left hlt] at hs
        have := i3 i s hs
        unfold Leads at this ⊢
        rw [e, List.take_append_of_le_length (by omega), List.take_append_of_le_length (by omega)]
        exact this
      · rw [List.getElem?_append_right hge] at hs
        have hi : i = (pth z).length := by
          rcases Nat.lt_or_ge (i - (pth z).length) 1 with h2 | h2
          · omega
          · rw [List.getElem?_eq_none (by simpa using h2)] at hs; cases hs
        subst hi
        rw [Nat.sub_self] at hs
        injection hs with hs
        subst hs
        unfold Leads
        have e1 : (pth x).take (pth z).length = pth z := by rw [e, List.take_append_of_le_length (Nat.le_refl _), List.take_length]
        have e2 : (pth x).take ((pth z).length + 1) = pth x := List.take_of_length_le (by rw [e]; simp)
        rw [e1, e2, i1, g]
        exact ⟨hin.1, hin.2, b1, hl⟩
/-- What Where says of a node that has a path. -/
structure Wheres (l : List ND) (m : Nat) (w : Bs) (ps : List Bs) : Prop where
  go : ∀ i s, ps[i]? = some s → Leads l ps i s
  last : ∀ i s, ps[i]? = some s → i + 1 = ps.length → parentP l (m : Int) = (goTo l (ps.take i), s, true)
  ends : goTo l ps = (m : Int)
  cl : clean w = w
theorem where_facts {l : List ND} (h : checkB l = true) (ho : AllOdd l) {m : Nat} (hw : (whereP l (m : Int)).2 = true) : Wheres l m (whereP l (m : Int)).1 (parts (whereP l (m : Int)).1) := by
  unfold whereP at hw ⊢
  rw [if_neg (by rw [h]; simp)] at hw ⊢
  by_cases h0 : (m : Int) = 0
  · rw [if_pos h0]
    have e : parts ((([47] : Bs), true).1) = [] := rfl
    rw [e]
    exact ⟨fun i s hs => by simp at hs, fun i s hs => by simp at hs, h0.symm, rfl⟩
  · rw [if_neg h0] at hw ⊢
    dsimp only at hw ⊢
    cases hf : fndN (m : Int) (wk l l.length [] 0) with
    | none => rw [hf] at hw; cases hw
    | some x =>
      obtain ⟨hx, hxm⟩ := fnd_mem hf
      have hok := wk_ok' h x hx
      show Wheres l m (pathP x) (parts (pathP x))
      rw [path_parts hok]
      obtain ⟨d1, d2, d3⟩ := descend h ho _ x (Nat.le_refl _) hx
      refine ⟨d3, fun i s hs hi => ?_, by rw [d1, hxm], path_clean hok⟩
      have hlen : (pth x).length = x.up.length + 1 := by unfold pth; simp
      have hi2 : i = x.up.length := by omega
      subst hi2
      have hs2 : s = x.name := by
        unfold pth at hs
        rw [List.getElem?_append_right (Nat.le_refl _), Nat.sub_self] at hs
        injection hs with hs
        exact hs.symm
      have ht : (pth x).take x.up.length = x.up := by unfold pth; rw [List.take_append_of_le_length (Nat.le_refl _), List.take_length]
      unfold parentP
      rw [if_neg (by rw [h]; simp), hf, ht, d2, hs2]
      rfl
end Go.Proofs.Ytnhfpaobocbieaa
