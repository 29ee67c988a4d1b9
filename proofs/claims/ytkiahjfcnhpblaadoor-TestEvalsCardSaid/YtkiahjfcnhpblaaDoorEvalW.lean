/- Contracts of test.operator, asks, unary, evaluate, positive, Eval. -/
import Derived.Test.YtkiahjfcnhpblaaDoorCmpW
import Derived.Deep.RegionHeld3
import Derived.Deep.DeepCutAuto
import Derived.Outline
namespace Go.Proofs.YtkiahjfcnhpblaaDoor
open Go.RowKit
open Go.Maps
set_option linter.unusedVariables false
theorem spot_none {w : World} {ad : Addr} {u : Value} (h : w.cell? ad = some u) : ad = ⟨ad.block, ad.off, none⟩ := by
  obtain ⟨b, o, s⟩ := ad
  cases s with
  | none => rfl
  | some x =>
    unfold World.cell? at h
    split at h <;> simp at h
theorem rd_cells {w : World} {B n : Nat} {A : Option Addr} {ks : List Bs} (h : Reads w B 1 A n (svs ks)) (h0 : 0 < n) :
    ∃ g o, A = some ⟨g, o, none⟩ ∧ g < B ∧ ∀ j (hj : j < ks.length), w.cell? ⟨g, o + j, none⟩ = some (.string ⟨ks[j].toArray⟩) := by
  have hl : ks.length = n := by have := h.1; rw [svs_length] at this; omega
  obtain ⟨ad, rfl, hb, hc⟩ := h.2 h0
  have h00 := hc 0 _ (svs_get ks 0 (by omega))
  rw [add_zero_] at h00
  have hs := spot_none h00
  refine ⟨ad.block, ad.off, by rw [← hs], hb, fun j hj => ?_⟩
  have := hc j _ (svs_get ks j hj)
  rw [hs, at_add] at this
  exact this
theorem rd_len {w : World} {B n : Nat} {A : Option Addr} {ks : List Bs} (h : Reads w B 1 A n (svs ks)) : n = ks.length := by have := h.1; rw [svs_length] at this; omega
theorem rd_tail {w : World} {B n c : Nat} {A : Option Addr} {x : Bs} {t : List Bs} (h : Reads w B 1 A (n + 1) (svs (x :: t))) (hc : n + 1 ≤ c) : Reads w B 1 (if c = 1 then A else A.map (·.add 1)) n (svs t) := by
  have hl := rd_len h
  refine ⟨by rw [svs_length]; simp at hl; omega, fun h0 => ?_⟩
  rw [if_neg (by omega)]
  obtain ⟨ad, rfl, hb, hcl⟩ := h.2 (by omega)
  refine ⟨ad.add 1, rfl, by rw [block_of_add]; exact hb, fun j u hj => ?_⟩
  rw [add_of_add]
  have := hcl (1 + j) u (by rw [Nat.add_comm]; simpa [svs] using hj)
  exact this
def isOp (l : Bs) : Bool := (cmpF l).isSome || l == [61] || l == [33, 61]
set_option maxHeartbeats 1000000 in
theorem operator_any (l : Bs) (w : World) (hl : l.length ≤ maxLen) :
    Calls Tryd.prog 28 #[.string ⟨l.toArray⟩] w fun e w' => e = .returned (.bool (isOp l)) ∧ Below w.heap.size w w' := by
  have HI : Hid (isOp l = ((cmpF l).isSome || l == [61] || l == [33, 61])) := hide rfl
  go_enter Tryd.func28, Tryd.ntmps28
  go_wp2_with fail
  refine (comparisons_any _).mono ?_
  rintro e w1 ⟨rfl, hM, hb1⟩
  have K1 := hide hb1
  clear hb1
  rcases look_any l hl _ w1 hM with ⟨hc, v, hrun⟩ | ⟨f, hc, hrun⟩
  · rw [hc] at HI
    clear hM hc
    by_cases e1 : l = [61]
    · have t1 : (l == [61]) = true := beq_iff_eq.2 e1
      rw [t1] at HI
      clear e1
      go_wp2_with fail
      go_ret
      exact ⟨ret_bool (by rw [HI.out]; rfl), K1.out⟩
    · have t1 : (l == [61]) = false := beq_eq_false_iff_ne.2 e1
      rw [t1] at HI
      generalize ht : (l == [33, 61]) = b at HI
      have HI2 : Hid (isOp l = b) := hide (by rw [HI.out]; simp)
      clear e1 HI
      go_wp2_with fail
      go_ret
      exact ⟨ret_bool HI2.out.symm, K1.out⟩
  · rw [hc] at HI
    have HI2 : Hid (isOp l = true) := hide (by rw [HI.out]; simp)
    clear hM hc HI
    go_wp2_with fail
    go_ret
    exact ⟨ret_bool HI2.out.symm, K1.out⟩
def asksN (l : Bs) : Int := if l = [45, 101] then 0 else if l = [45, 102] then 1 else if l = [45, 100] then 2 else if l = [45, 104] then 3 else -1
theorem asks_any (l : Bs) (w : World) : Calls Tryd.prog 25 #[.string ⟨l.toArray⟩] w fun e w' => e = .returned (.int .i64 (asksN l)) ∧ w = w' := by
  by_cases e1 : l = [45, 101]
  · subst e1; go_enter Tryd.func25, Tryd.ntmps25; go_wp2; go_ret; exact ⟨rfl, rfl⟩
  by_cases e2 : l = [45, 102]
  · subst e2; go_enter Tryd.func25, Tryd.ntmps25; go_wp2; go_ret; exact ⟨rfl, rfl⟩
  by_cases e3 : l = [45, 100]
  · subst e3; go_enter Tryd.func25, Tryd.ntmps25; go_wp2; go_ret; exact ⟨rfl, rfl⟩
  by_cases e4 : l = [45, 104]
  · subst e4; go_enter Tryd.func25, Tryd.ntmps25; go_wp2; go_ret; exact ⟨rfl, rfl⟩
  have t1 : (l == [45, 101]) = false := beq_eq_false_iff_ne.2 e1
  have t2 : (l == [45, 102]) = false := beq_eq_false_iff_ne.2 e2
  have t3 : (l == [45, 100]) = false := beq_eq_false_iff_ne.2 e3
  have t4 : (l == [45, 104]) = false := beq_eq_false_iff_ne.2 e4
  have HE : Hid (asksN l = -1) := hide (by unfold asksN; rw [if_neg e1, if_neg e2, if_neg e3, if_neg e4])
  clear e1 e2 e3 e4
  go_enter Tryd.func25, Tryd.ntmps25
  go_wp2
  go_ret
  exact ⟨ret_int HE.out.symm, rfl⟩
/-- Ints as cells. -/
def ivs (zs : List Int) : List Value := zs.map fun z => .int .i64 z
theorem ivs_length (zs : List Int) : (ivs zs).length = zs.length := by simp [ivs]
theorem ri_first {w : World} {B n : Nat} {A : Option Addr} {z : Int} {zs : List Int} (h : Reads w B 1 A n (ivs (z :: zs))) : ∃ g o, A = some ⟨g, o, none⟩ ∧ g < B ∧ w.cell? ⟨g, o, none⟩ = some (.int .i64 z) ∧ n = zs.length + 1 := by
  have hl : zs.length + 1 = n := by have := h.1; simp [ivs] at this; omega
  obtain ⟨ad, rfl, hb, hc⟩ := h.2 (by omega)
  have h00 := hc 0 (.int .i64 z) (by simp [ivs])
  rw [add_zero_] at h00
  have hs := spot_none h00
  exact ⟨ad.block, ad.off, by rw [← hs], hb, by rw [← hs]; exact h00, hl.symm⟩
def unaryR (op arg : Bs) (kinds : List Int) : Bool × Int := if op = [45, 110] then (arg != [], 0) else if op = [45, 122] then (arg == [], 0) else if asksN op = -1 then (false, 32) else if asksN op = 0 then (kinds.headD 0 != 0, 0) else (kinds.headD 0 == asksN op, 0)
theorem emp (l : Bs) : (l == []) = l.isEmpty := by cases l <;> rfl
theorem nemp (l : Bs) : (l != []) = !l.isEmpty := by cases l <;> rfl
set_option maxHeartbeats 2000000 in
theorem unary_any (op arg : Bs) (kinds : List Int) (A : Option Addr) (n c : Nat) (w : World) (hK : Reads w w.heap.size 1 A n (ivs kinds)) :
    Calls Tryd.prog 29 #[.string ⟨op.toArray⟩, .string ⟨arg.toArray⟩, .slice A n c] w fun e w' => e = .returned (.tuple #[.bool (unaryR op arg kinds).1, .int .i64 (unaryR op arg kinds).2]) ∧ w = w' := by
  have ha := emp arg
  have hna := nemp arg
  by_cases e1 : op = [45, 110]
  · subst e1
    have HR : Hid (unaryR [45, 110] arg kinds = (!arg.isEmpty, 0)) := hide (by rw [← hna]; rfl)
    generalize arg.isEmpty = b at *
    go_enter Tryd.func29, Tryd.ntmps29
    go_wp2
    all_goals
      go_ret2
      exact ⟨by rw [HR.out] <;> rfl, rfl⟩
  by_cases e2 : op = [45, 122]
  · subst e2
    have HR : Hid (unaryR [45, 122] arg kinds = (arg.isEmpty, 0)) := hide (by rw [← ha]; rfl)
    generalize arg.isEmpty = b at *
    go_enter Tryd.func29, Tryd.ntmps29
    go_wp2
    all_goals
      go_ret2
      exact ⟨by rw [HR.out] <;> rfl, rfl⟩
  have t1 : (op == [45, 110]) = false := beq_eq_false_iff_ne.2 e1
  have t2 : (op == [45, 122]) = false := beq_eq_false_iff_ne.2 e2
  have HR : Hid (unaryR op arg kinds = if asksN op = -1 then (false, 32) else if asksN op = 0 then (kinds.headD 0 != 0, 0) else (kinds.headD 0 == asksN op, 0)) := hide (by unfold unaryR; rw [if_neg e1, if_neg e2])
  have HA := hide (fun W => asks_any op W)
  generalize asksN op = q at *
  clear e1 e2 ha hna
  by_cases hq : q = -1
  · subst hq
    have HR2 : Hid (unaryR op arg kinds = (false, 32)) := hide (by rw [HR.out]; rfl)
    go_enter Tryd.func29, Tryd.ntmps29
    go_wp2_with fail
    refine (HA.out _).mono ?_
    rintro e w1 ⟨rfl, rfl⟩
    go_wp2_with fail
    go_ret2
    exact ⟨by rw [HR2.out] <;> rfl, rfl⟩
  have tq : (q == -1) = false := beq_eq_false_iff_ne.2 hq
  cases kinds with
  | nil =>
    obtain rfl : n = 0 := by have := hK.1; simp [ivs] at this; omega
    by_cases h0 : q = 0
    · subst h0
      have HR2 : Hid (unaryR op arg [] = (false, 0)) := hide (by rw [HR.out, if_neg hq]; rfl)
      clear hq
      go_enter Tryd.func29, Tryd.ntmps29
      go_wp2_with fail
      refine (HA.out _).mono ?_
      rintro e w1 ⟨rfl, rfl⟩
      go_wp2_with fail
      go_ret2
      exact ⟨by rw [HR2.out] <;> rfl, rfl⟩
    · have tz : (q == 0) = false := beq_eq_false_iff_ne.2 h0
      have tz2 : ((0 : Int) == q) = false := beq_eq_false_iff_ne.2 (Ne.symm h0)
      have HR2 : Hid (unaryR op arg [] = (false, 0)) := hide (by rw [HR.out, if_neg hq, if_neg h0]; simp; exact Ne.symm h0)
      clear hq h0
      go_enter Tryd.func29, Tryd.ntmps29
      go_wp2_with fail
      refine (HA.out _).mono ?_
      rintro e w1 ⟨rfl, rfl⟩
      go_wp2_with fail
      go_ret2
      exact ⟨by rw [HR2.out] <;> rfl, rfl⟩
  | cons z zs =>
    obtain ⟨g, o, rfl, hg, hcell, rfl⟩ := ri_first hK
    have hpos : (0 : Int) < (zs.length : Int) + 1 := by omega
    by_cases h0 : q = 0
    · subst h0
      have HR2 : Hid (unaryR op arg (z :: zs) = (z != 0, 0)) := hide (by rw [HR.out, if_neg hq]; rfl)
      clear hq hK
      go_enter Tryd.func29, Tryd.ntmps29
      go_wp2_with fail
      refine (HA.out _).mono ?_
      rintro e w1 ⟨rfl, rfl⟩
      go_wp2_with fail
      go_ret2
      exact ⟨by rw [HR2.out] <;> rfl, rfl⟩
    · have tz : (q == 0) = false := beq_eq_false_iff_ne.2 h0
      have HR2 : Hid (unaryR op arg (z :: zs) = (z == q, 0)) := hide (by rw [HR.out, if_neg hq, if_neg h0]; rfl)
      clear hq h0 hK
      go_enter Tryd.func29, Tryd.ntmps29
      go_wp2_with fail
      refine (HA.out _).mono ?_
      rintro e w1 ⟨rfl, rfl⟩
      go_wp2_with fail
      go_ret2
      exact ⟨by rw [HR2.out] <;> rfl, rfl⟩
end Go.Proofs.YtkiahjfcnhpblaaDoor
