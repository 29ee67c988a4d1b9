/- Contracts of test.Compare, test.operator, test.asks, and the reference's Compare, compares, asks. -/
import Derived.Test.YtkiahjfcnhpblaaDoorMapW
import Derived.Outline
namespace Go.Proofs.YtkiahjfcnhpblaaDoor
open Go.RowKit
open Go.Maps
set_option linter.unusedVariables false
/-- The int whose numeral a text is. -/
def parseO (l : Bs) : Option Int := match Lib.atoiAll l with
  | .ok v => if Lib.itoa v = l then some v else none
  | _ => none
def numV (l : Bs) : Int := (parseO l).getD 0
def numB (l : Bs) : Bool := (parseO l).isSome
theorem parseO_some {l : Bs} {v : Int} (h : i64R v) (e : Lib.itoa v = l) : parseO l = some v := by
  have := atoi_itoa v h
  unfold parseO
  rw [← e, this]
  simp
theorem parseO_range {l : Bs} {v : Int} (h : parseO l = some v) : i64R v ∧ Lib.itoa v = l := by
  unfold parseO at h
  split at h
  · rename_i u hu
    split at h
    · rename_i e
      injection h with h
      subst h
      exact ⟨Lib.atoiAll_bounds hu, e⟩
    · cases h
  · cases h
theorem parseO_none {l : Bs} (h : ∀ v, i64R v → Lib.itoa v ≠ l) : parseO l = none := by
  cases e : parseO l with
  | none => rfl
  | some v =>
    obtain ⟨h1, h2⟩ := parseO_range e
    exact absurd h2 (h v h1)
theorem parse_end {w w' : World} {l : Bs} {e : Ending} (h : ParseEnd w l e w') : e = .returned (.tuple #[.int .i64 (numV l), .bool (numB l)]) ∧ Below w.heap.size w w' := by
  obtain ⟨hb, ⟨v, hv, he, rfl⟩ | ⟨hno, rfl⟩⟩ := h
  · have := parseO_some hv he
    refine ⟨?_, hb⟩
    unfold numV numB; rw [this]; rfl
  · have := parseO_none hno
    refine ⟨?_, hb⟩
    unfold numV numB; rw [this]; rfl
theorem parse_l (l : Bs) (w : World) (hs : l.length ≤ 1000000) (h : Std w) : Calls Tryd.prog 23 #[.string ⟨l.toArray⟩] w fun e w' => e = .returned (.tuple #[.int .i64 (numV l), .bool (numB l)]) ∧ Below w.heap.size w w' :=
  (parse_any ⟨l.toArray⟩ w (show l.length ≤ 1000000 from hs) h).mono fun _ _ h => parse_end h
theorem rparse_l (l : Bs) (w : World) (hs : l.length ≤ 1000000) : Calls Tryd.prog 24 #[.string ⟨l.toArray⟩] w fun e w' => e = .returned (.tuple #[.int .i64 (numV l), .bool (numB l)]) ∧ Below w.heap.size w w' :=
  (rparse_any ⟨l.toArray⟩ w (show l.length ≤ 1000000 from hs)).mono fun _ _ h => parse_end h
/-- What a comparison says. -/
def cmpB (f : Nat) (m n : Int) : Bool := if f = 30 then m == n else if f = 31 then m != n else if f = 32 then decide (m < n) else if f = 33 then decide (m ≤ n) else if f = 34 then decide (n < m) else decide (n ≤ m)
theorem cmp30 (m n : Int) (w : World) : Calls Tryd.prog 30 #[.int .i64 m, .int .i64 n] w fun e w' => e = .returned (.bool (m == n)) ∧ w = w' := by
  go_enter Tryd.func30, Tryd.ntmps30
  go_wp2
  go_ret
  exact ⟨rfl, rfl⟩
theorem cmp31 (m n : Int) (w : World) : Calls Tryd.prog 31 #[.int .i64 m, .int .i64 n] w fun e w' => e = .returned (.bool (m != n)) ∧ w = w' := by
  go_enter Tryd.func31, Tryd.ntmps31
  go_wp2
  go_ret
  exact ⟨rfl, rfl⟩
theorem cmp32 (m n : Int) (w : World) : Calls Tryd.prog 32 #[.int .i64 m, .int .i64 n] w fun e w' => e = .returned (.bool (decide (m < n))) ∧ w = w' := by
  go_enter Tryd.func32, Tryd.ntmps32
  go_wp2
  go_ret
  exact ⟨rfl, rfl⟩
theorem cmp33 (m n : Int) (w : World) : Calls Tryd.prog 33 #[.int .i64 m, .int .i64 n] w fun e w' => e = .returned (.bool (decide (m ≤ n))) ∧ w = w' := by
  go_enter Tryd.func33, Tryd.ntmps33
  go_wp2
  go_ret
  exact ⟨rfl, rfl⟩
theorem cmp34 (m n : Int) (w : World) : Calls Tryd.prog 34 #[.int .i64 m, .int .i64 n] w fun e w' => e = .returned (.bool (decide (n < m))) ∧ w = w' := by
  go_enter Tryd.func34, Tryd.ntmps34
  go_wp2
  go_ret
  exact ⟨rfl, rfl⟩
theorem cmp35 (m n : Int) (w : World) : Calls Tryd.prog 35 #[.int .i64 m, .int .i64 n] w fun e w' => e = .returned (.bool (decide (n ≤ m))) ∧ w = w' := by
  go_enter Tryd.func35, Tryd.ntmps35
  go_wp2
  go_ret
  exact ⟨rfl, rfl⟩
theorem cmpF_in {l : Bs} {f : Nat} (h : cmpF l = some f) : f = 30 ∨ f = 31 ∨ f = 32 ∨ f = 33 ∨ f = 34 ∨ f = 35 := by
  unfold cmpF at h
  repeat (split at h; · (injection h with h; omega))
  cases h
theorem cmp_any (f : Nat) (hf : f = 30 ∨ f = 31 ∨ f = 32 ∨ f = 33 ∨ f = 34 ∨ f = 35) (m n : Int) (w : World) : Calls Tryd.prog f #[.int .i64 m, .int .i64 n] w fun e w' => e = .returned (.bool (cmpB f m n)) ∧ w = w' := by
  rcases hf with rfl | rfl | rfl | rfl | rfl | rfl
  · exact cmp30 m n w
  · exact cmp31 m n w
  · exact cmp32 m n w
  · exact cmp33 m n w
  · exact cmp34 m n w
  · exact cmp35 m n w
theorem zero44 (w : World) : (zeroValue 44).run Tryd.prog w = .ok .nilFunc w := by kernel_rfl
/-- Looking a comparison up. -/
theorem look_any (l : Bs) (hl : l.length ≤ maxLen) (b : Nat) (w : World) (h : w.ownsMap Tryd.prog 9 fnElem b 6 cmpD) :
    (cmpF l = none ∧ ∃ v, (Instr.lookup 46 (.map (some b)) (.string ⟨l.toArray⟩) true).run Tryd.prog w = .ok (.tuple #[v, .bool false]) w) ∨
    (∃ f, cmpF l = some f ∧ (Instr.lookup 46 (.map (some b)) (.string ⟨l.toArray⟩) true).run Tryd.prog w = .ok (.tuple #[.func (.func f) #[] #[], .bool true]) w) := by
  obtain ⟨v, ps, hrun, hv⟩ := h.look_ok keyS Tryd.underlying46 (zero44 w) (zd := .nil) (zp := []) rfl (key_of l hl)
  rcases cmp_look l with ⟨h1, h2, h3⟩ | ⟨f, h1, h2, h3⟩
  · rw [h3] at hrun
    exact .inl ⟨h1, v, hrun⟩
  · rw [h3] at hrun
    rw [h2] at hv
    refine .inr ⟨f, h1, ?_⟩
    have : v = .func (.func f) #[] #[] := by
      unfold fnElem at hv
      split at hv
      · rename_i g a c
        split at hv
        · rename_i hz
          obtain rfl : a = #[] := Array.size_eq_zero_iff.1 hz.1
          obtain rfl : c = #[] := Array.size_eq_zero_iff.1 hz.2
          obtain rfl : g = f := by simp at hv; exact Int.ofNat.inj (by simpa using hv.1)
          rfl
        · simp at hv
      · simp at hv
    rw [this] at hrun
    exact hrun
/-- What Compare answers. -/
def cmpR (op a b : Bs) : Bool × Int := if op = [61] then (a == b, 0) else if op = [33, 61] then (a != b, 0) else match cmpF op with
  | some f => if numB a = true ∧ numB b = true then (cmpB f (numV a) (numV b), 0) else (false, 32)
  | none => (false, 32)
set_option maxRecDepth 10000 in
set_option maxHeartbeats 2000000 in
theorem compare_any (op a b : Bs) (w : World) (h : Std w) (hop : op.length ≤ maxLen) (ha : a.length ≤ 1000000) (hb : b.length ≤ 1000000) :
    Calls Tryd.prog 10 #[.string ⟨op.toArray⟩, .string ⟨a.toArray⟩, .string ⟨b.toArray⟩] w fun e w' => e = .returned (.tuple #[.bool (cmpR op a b).1, .int .i64 (cmpR op a b).2]) ∧ Below w.heap.size w w' := by
  have HS := hide h
  clear h
  by_cases e1 : op = [61]
  · subst e1
    have HR : Hid (cmpR [61] a b = (a == b, 0)) := hide rfl
    go_enter Tryd.func10, Tryd.ntmps10
    go_wp2
    all_goals
      go_ret2
      exact ⟨by rw [HR.out] <;> rfl, Below.refl _ _⟩
  by_cases e2 : op = [33, 61]
  · subst e2
    have HR : Hid (cmpR [33, 61] a b = (a != b, 0)) := hide rfl
    go_enter Tryd.func10, Tryd.ntmps10
    go_wp2
    all_goals
      go_ret2
      exact ⟨by rw [HR.out] <;> rfl, Below.refl _ _⟩
  have t1 : (op == [61]) = false := beq_eq_false_iff_ne.2 e1
  have t2 : (op == [33, 61]) = false := beq_eq_false_iff_ne.2 e2
  have HR : Hid (cmpR op a b = match cmpF op with
    | some f => if numB a = true ∧ numB b = true then (cmpB f (numV a) (numV b), 0) else (false, 32)
    | none => (false, 32)) := hide (by unfold cmpR; rw [if_neg e1, if_neg e2])
  have HA := hide (fun W (hS : Std W) => parse_l a W ha hS)
  have HB := hide (fun W (hS : Std W) => parse_l b W hb hS)
  generalize numB a = pa at *
  generalize numB b = pb at *
  generalize numV a = va at *
  generalize numV b = vb at *
  clear e1 e2
  go_enter Tryd.func10, Tryd.ntmps10
  go_wp2_with fail
  refine (comparisons_any _).mono ?_
  rintro e w1 ⟨rfl, hM, hb1⟩
  have K1 := hide hb1
  clear hb1
  rcases look_any op hop _ w1 hM with ⟨hc, v, hrun⟩ | ⟨f, hc, hrun⟩
  · rw [hc] at HR
    clear hM hc
    go_wp2_with fail
    refine (HA.out _ (HS.out.below K1.out)).mono ?_
    rintro e w2 ⟨rfl, k⟩
    have K2 := hide (below_more K1.out (Nat.le_refl _) k)
    clear k
    go_wp2_with fail
    refine (HB.out _ (HS.out.below K2.out)).mono ?_
    rintro e w3 ⟨rfl, k⟩
    have K3 := hide (below_more K2.out (Nat.le_refl _) k)
    clear k
    go_wp2_with fail
    go_ret2
    exact ⟨by rw [HR.out] <;> rfl, K3.out⟩
  · rw [hc] at HR
    have hin := hide (cmpF_in hc)
    clear hM hc
    go_wp2_with fail
    refine (HA.out _ (HS.out.below K1.out)).mono ?_
    rintro e w2 ⟨rfl, k⟩
    have K2 := hide (below_more K1.out (Nat.le_refl _) k)
    clear k
    go_wp2_with fail
    refine (HB.out _ (HS.out.below K2.out)).mono ?_
    rintro e w3 ⟨rfl, k⟩
    have K3 := hide (below_more K2.out (Nat.le_refl _) k)
    clear k
    cases pa with
    | false =>
      have HR2 : Hid (cmpR op a b = (false, 32)) := hide (by rw [HR.out]; simp)
      go_wp2_with fail
      go_ret2
      exact ⟨by rw [HR2.out] <;> rfl, K3.out⟩
    | true =>
      cases pb with
      | false =>
        have HR2 : Hid (cmpR op a b = (false, 32)) := hide (by rw [HR.out]; simp)
        go_wp2_with fail
        go_ret2
        exact ⟨by rw [HR2.out] <;> rfl, K3.out⟩
      | true =>
        have HR2 : Hid (cmpR op a b = (cmpB f va vb, 0)) := hide (by rw [HR.out]; simp)
        rcases hin.out with rfl | rfl | rfl | rfl | rfl | rfl
        · have HR3 : Hid (cmpR op a b = (va == vb, 0)) := hide HR2.out
          clear hin HR2 HR
          go_wp2_with fail
          refine (cmp30 va vb _).mono ?_
          rintro e w4 ⟨rfl, rfl⟩
          go_wp2_with fail
          go_ret2
          exact ⟨by rw [HR3.out] <;> rfl, K3.out⟩
        · have HR3 : Hid (cmpR op a b = (va != vb, 0)) := hide HR2.out
          clear hin HR2 HR
          go_wp2_with fail
          refine (cmp31 va vb _).mono ?_
          rintro e w4 ⟨rfl, rfl⟩
          go_wp2_with fail
          go_ret2
          exact ⟨by rw [HR3.out] <;> rfl, K3.out⟩
        · have HR3 : Hid (cmpR op a b = (decide (va < vb), 0)) := hide HR2.out
          clear hin HR2 HR
          go_wp2_with fail
          refine (cmp32 va vb _).mono ?_
          rintro e w4 ⟨rfl, rfl⟩
          go_wp2_with fail
          go_ret2
          exact ⟨by rw [HR3.out] <;> rfl, K3.out⟩
        · have HR3 : Hid (cmpR op a b = (decide (va ≤ vb), 0)) := hide HR2.out
          clear hin HR2 HR
          go_wp2_with fail
          refine (cmp33 va vb _).mono ?_
          rintro e w4 ⟨rfl, rfl⟩
          go_wp2_with fail
          go_ret2
          exact ⟨by rw [HR3.out] <;> rfl, K3.out⟩
        · have HR3 : Hid (cmpR op a b = (decide (vb < va), 0)) := hide HR2.out
          clear hin HR2 HR
          go_wp2_with fail
          refine (cmp34 va vb _).mono ?_
          rintro e w4 ⟨rfl, rfl⟩
          go_wp2_with fail
          go_ret2
          exact ⟨by rw [HR3.out] <;> rfl, K3.out⟩
        · have HR3 : Hid (cmpR op a b = (decide (vb ≤ va), 0)) := hide HR2.out
          clear hin HR2 HR
          go_wp2_with fail
          refine (cmp35 va vb _).mono ?_
          rintro e w4 ⟨rfl, rfl⟩
          go_wp2_with fail
          go_ret2
          exact ⟨by rw [HR3.out] <;> rfl, K3.out⟩
end Go.Proofs.YtkiahjfcnhpblaaDoor
