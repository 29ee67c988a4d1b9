/- Environments and rows of settings as plain lists. -/
import Derived.Test.YtaibmfahfkoahaaGreatEnvF
namespace Go.Proofs.YtaibmfahfkoahaaGreat
open Go.RowKit
set_option linter.unusedVariables false
def pairAt (l : List LB) (i : Nat) : Option St := (l[i]?).bind parseP
def keyE (l : List LB) (i : Nat) : LB := ((pairAt l i).getD ([], [])).1
def okE (l : List LB) (i : Nat) : Bool := (pairAt l i).isSome && (decide (i = 0) || Op.bytesLess (keyE l (i - 1)) (keyE l i))
def envChk (l : List LB) : Bool := decide (l.length ≤ 32) && (List.range l.length).all (okE l)
theorem envChk_no {l : List LB} {i : Nat} (h : i < l.length) (hi : okE l i = false) : envChk l = false := by
  unfold envChk
  rw [List.all_eq_false.2 ⟨i, by simpa using h, by rw [hi]; decide⟩, Bool.and_false]
def hitE (nm s : LB) : Option LB := (parseP s).bind fun p => if p.1 = nm then some p.2 else none
def getE (l : List LB) (nm : LB) : Option LB := if envChk l = true then l.findSome? (hitE nm) else none
theorem envChk_all {l : List LB} (h : envChk l = true) {i : Nat} {s : LB} (hs : l[i]? = some s) : (parseP s).isSome = true := by
  unfold envChk at h
  rw [Bool.and_eq_true, List.all_eq_true] at h
  have hi := (List.getElem?_eq_some_iff.1 hs).1
  have := h.2 i (by simpa using hi)
  unfold okE pairAt at this
  rw [hs] at this
  simp only [Bool.and_eq_true] at this
  exact this.1
theorem find_hit {l : List LB} {f : LB → Option LB} {i : Nat} {s v : LB} (h0 : ∀ x ∈ l.take i, f x = none) (hs : l[i]? = some s) (hv : f s = some v) : l.findSome? f = some v := by
  obtain ⟨h1, h2⟩ := List.getElem?_eq_some_iff.1 hs
  conv => lhs; rw [← List.take_append_drop i l]
  rw [List.findSome?_append, List.findSome?_eq_none_iff.2 h0, Option.none_or, ← List.getElem_cons_drop (h := h1), h2, List.findSome?_cons, hv]
def Good (S : List St) : Prop := ∀ p ∈ S, parseP (textS p) = some p
theorem good_of {s : LB} {p : St} (h : parseP s = some p) : parseP (textS p) = some p := by rw [parse_text h, h]
theorem Good.cell {S : List St} (h : Good S) {i : Nat} {p : St} (hp : S[i]? = some p) : (S.map textS)[i]? = some (textS p) ∧ parseP (textS p) = some p ∧ (textS p).length ≤ 256 := by
  have h1 := h p (List.mem_of_getElem? hp)
  exact ⟨by rw [List.getElem?_map, hp]; rfl, h1, (parse_name h1).2.1⟩
def notK (nm : LB) (S : List St) : List St := S.filter fun q => q.1 != nm
theorem notK_next {S : List St} {i : Nat} {p : St} (nm : LB) (h : S[i]? = some p) : (notK nm (S.take (i + 1))).map textS = (notK nm (S.take i)).map textS ++ (if (p.1 != nm) = true then [textS p] else []) := by
  obtain ⟨h1, h2⟩ := List.getElem?_eq_some_iff.1 h
  unfold notK
  rw [List.take_succ_eq_append_getElem h1, h2, List.filter_append, List.map_append, List.filter_cons, List.filter_nil]
  congr 1
  split <;> rfl
def atK (nm : LB) (S : List St) : Nat := (S.takeWhile fun q => !decide (nm < q.1)).length
theorem atK_le (nm : LB) (S : List St) : atK nm S ≤ S.length := List.Sublist.length_le (List.takeWhile_sublist _)
theorem atK_of {S : List St} {nm : LB} {i : Nat} (h1 : ∀ q ∈ S.take i, ¬ nm < q.1) (hi : i ≤ S.length) (h2 : i = S.length ∨ ∃ q, S[i]? = some q ∧ nm < q.1) : atK nm S = i := by
  induction S generalizing i with
  | nil => simp at hi; subst hi; rfl
  | cons a r ih =>
    unfold atK
    cases i with
    | zero =>
      rcases h2 with h2 | ⟨q, hq, hlt⟩
      · simp at h2
      · have : a = q := by simpa using hq
        subst this
        rw [List.takeWhile_cons_of_neg (by simpa using hlt)]; rfl
    | succ i =>
      have ha := h1 a (by simp)
      rw [List.takeWhile_cons_of_pos (by simpa using ha), List.length_cons]
      congr 1
      exact ih (fun q hq => h1 q (by rw [List.take_succ_cons]; exact List.mem_cons_of_mem _ hq)) (by simpa using hi) (by simpa using h2)
theorem split_lt {T : List St} (h : sortedS T) (nm : LB) (hne : ∀ q ∈ T, q.1 ≠ nm) : T.take (atK nm T) = T.filter (fun q => decide (q.1 < nm)) ∧ T.drop (atK nm T) = T.filter (fun q => decide (nm < q.1)) := by
  induction T with
  | nil => exact ⟨rfl, rfl⟩
  | cons a r ih =>
    unfold atK
    obtain ⟨g1, g2⟩ := List.pairwise_cons.1 h
    by_cases ha : nm < a.1
    · rw [List.takeWhile_cons_of_neg (by simpa using ha)]
      have e1 : (a :: r).filter (fun q => decide (q.1 < nm)) = [] := List.filter_eq_nil_iff.2 (fun q hq => by
        rcases List.mem_cons.1 hq with rfl | hq
        · simpa using blt_asymm ha
        · simpa using blt_asymm (blt_trans ha (g1 q hq)))
      have e2 : (a :: r).filter (fun q => decide (nm < q.1)) = a :: r := List.filter_eq_self.2 (fun q hq => by
        rcases List.mem_cons.1 hq with rfl | hq
        · simpa using ha
        · simpa using blt_trans ha (g1 q hq))
      rw [e1, e2]; exact ⟨rfl, rfl⟩
    · have hlt : a.1 < nm := by
        rcases blt_tri a.1 nm with h1 | h1 | h1
        · exact h1
        · exact absurd h1 (hne a List.mem_cons_self)
        · exact absurd h1 ha
      obtain ⟨i1, i2⟩ := ih g2 (fun q hq => hne q (List.mem_cons_of_mem _ hq))
      rw [List.takeWhile_cons_of_pos (by simpa using ha), List.length_cons, List.take_succ_cons, List.drop_succ_cons, List.filter_cons_of_pos (by simpa using hlt), List.filter_cons_of_neg (by simpa using ha)]
      exact ⟨by rw [← i1]; rfl, by rw [← i2]; rfl⟩
theorem put_ins {S : List St} (h : sortedS S) (p : St) : (notK p.1 S).take (atK p.1 (notK p.1 S)) ++ [p] ++ (notK p.1 S).drop (atK p.1 (notK p.1 S)) = insS S p := by
  have hs : sortedS (notK p.1 S) := List.Pairwise.sublist List.filter_sublist h
  obtain ⟨e1, e2⟩ := split_lt hs p.1 (fun q hq => by have := (List.mem_filter.1 hq).2; simpa using this)
  rw [e1, e2]
  unfold insS notK
  rw [List.filter_filter, List.filter_filter]
  congr 1
  · congr 1
    apply List.filter_congr
    intro q _
    by_cases hq : q.1 < p.1
    · simp [hq, blt_ne hq]
    · simp [hq]
  · apply List.filter_congr
    intro q _
    by_cases hq : p.1 < q.1
    · simp [hq, (blt_ne hq).symm]
    · simp [hq]
theorem ssl_to (A : Option Addr) (n c : Nat) (k : Nat) (h : Int) (hh : h = (k : Int)) (hk : k ≤ c) (W : World) :
    (Instr.slice 22 (.slice A n c) none (some (.int .i64 h)) none).run Tryz.prog W = .ok (.slice A k c) W := by
  subst hh
  have := run_slice_to (P := Tryz.prog) 22 9 Tryz.underlying22 sizeStr A n c .i64 (k : Int) (by omega) (by omega) W
  rwa [Int.toNat_natCast] at this
theorem ssl_from (A : Option Addr) (n c : Nat) (k : Nat) (hk : k ≤ n) (W : World) :
    (Instr.slice 22 (.slice A n c) (some (.int .i64 (k : Int))) none none).run Tryz.prog W = .ok (.slice (if c = k then A else A.map (·.add k)) (n - k) (c - k)) W := by
  have := run_slice_from (P := Tryz.prog) 22 9 Tryz.underlying22 sizeStr A n c .i64 (k : Int) (by omega) (by omega) W
  rwa [Int.toNat_natCast] at this
theorem reads_drop {w : World} {B n c : Nat} {A : Option Addr} {l : List LB} (h : Reads w B 1 A n (svs l)) {k : Nat} (hk : k ≤ n) (hc : n ≤ c) : Reads w B 1 (if c = k then A else A.map (·.add k)) (n - k) (svs (l.drop k)) := by
  have hl : l.length = n := by have := h.1; rw [svs_length] at this; omega
  refine ⟨by rw [svs_length, List.length_drop]; omega, fun h0 => ?_⟩
  obtain ⟨ad, e, hb, hcl⟩ := h.2 (by omega)
  refine ⟨ad.add k, by rw [if_neg (by omega), e]; rfl, by rw [block_of_add]; exact hb, fun j u hj => ?_⟩
  rw [add_of_add]
  refine hcl _ u ?_
  rw [show svs (l.drop k) = (svs l).drop k by simp [svs, List.map_drop], List.getElem?_drop] at hj
  exact hj
theorem reads_take {w : World} {B n : Nat} {A : Option Addr} {l : List LB} (h : Reads w B 1 A n (svs l)) {k : Nat} (hk : k ≤ n) : Reads w B 1 A k (svs (l.take k)) := by
  have := Reads.take h hk
  rwa [show (svs l).take k = svs (l.take k) by simp [svs, List.map_take]] at this
theorem step_good {S : List St} (h : Good S) (s : LB) : Good (stepS S s) := by
  unfold stepS
  cases hp : parseP s with
  | none => exact h
  | some p =>
    intro q hq
    rcases ins_len S p q hq with rfl | hq
    · exact good_of hp
    · exact h q hq
theorem fold_good : ∀ (l : List LB) (S : List St), Good S → Good (l.foldl stepS S)
  | [], S, h => h
  | s :: l, S, h => fold_good l _ (step_good h s)
theorem ofS_good (l : List LB) : Good (ofS l) := fold_good l [] (fun q hq => by cases hq)
theorem notK_good {S : List St} (h : Good S) (nm : LB) : Good (notK nm S) := fun q hq => h q (List.mem_filter.1 hq).1
end Go.Proofs.YtaibmfahfkoahaaGreat
