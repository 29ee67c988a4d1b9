/- The contracts of Cut's closures, shortest, longest. -/
import Derived.Test.YtpioelpmdaeieaaGreatDoorCutA
namespace Go.Proofs.YtpioelpmdaeieaaGreatDoor
open Go.RowKit
set_option linter.unusedVariables false
theorem sl_from (p : LB) (a : Nat) (ha : a ≤ p.length) (W : World) : (Instr.slice 9 (.string ⟨p.toArray⟩) (some (.int .i64 (a : Int))) none none).run Tryz.prog W = .ok (.string ⟨(p.drop a).toArray⟩) W := by
  rw [run_slice_string_l W 9 ⟨p.toArray⟩ Tryz.underlying9 .i64 (a : Int) (by omega) (by show (a : Int) ≤ ((p.length : Nat) : Int); omega), Int.toNat_natCast]
  exact congrArg (fun x => Result.ok (Value.string x) W) (ext_from p a)
theorem sl_to (p : LB) (b : Nat) (j : Int) (hj : j = (b : Int)) (hb : b ≤ p.length) (W : World) : (Instr.slice 9 (.string ⟨p.toArray⟩) none (some (.int .i64 j)) none).run Tryz.prog W = .ok (.string ⟨(p.take b).toArray⟩) W := by
  subst hj
  rw [run_slice_string_h W 9 ⟨p.toArray⟩ Tryz.underlying9 .i64 (b : Int) (by omega) (by show (b : Int) ≤ ((p.length : Nat) : Int); omega), Int.toNat_natCast, ext_two]
  rfl
def preF (v p : LB) (i : Nat) : Bool := MatchP p (v.take i)
def sufF (v p : LB) (i : Nat) : Bool := MatchP p (v.drop (v.length - i))
set_option maxHeartbeats 4000000 in
theorem cut1_any (v p : LB) (i bp bv : Nat) (hi : i ≤ v.length) (hv : v.length ≤ 1024) (W : World) (hbp : bp < W.heap.size) (hbv : bv < W.heap.size) (c1 : W.cell? ⟨bp, 0, none⟩ = some (.string ⟨p.toArray⟩)) (c2 : W.cell? ⟨bv, 0, none⟩ = some (.string ⟨v.toArray⟩)) :
    Calls Tryz.prog 42 #[.int .i64 (i : Int), .pointer (some ⟨bp, 0, none⟩), .pointer (some ⟨bv, 0, none⟩)] W fun e w' => e = .returned (.bool (preF v p i)) ∧ Below W.heap.size W w' := by
  have hsl := fun V => sl_to v i (i : Int) rfl hi V
  have X := hide (fun V => Match_any p (v.take i) V)
  have e : MatchP p (v.take i) = preF v p i := rfl
  rw [e] at X
  clear e
  generalize preF v p i = r at *
  generalize v.take i = s at *
  have HC1 := hide c1
  have HC2 := hide c2
  go_enter Tryz.func42, Tryz.ntmps42
  go_wp2_with fail
  have kW := hide ((Below.refl W.heap.size W).drew)
  go_region_held3 (fun V => V.cell? ⟨bp, 0, none⟩ = some (.string ⟨p.toArray⟩) ∧ V.cell? ⟨bv, 0, none⟩ = some (.string ⟨v.toArray⟩))
    (with_reducible exact ⟨(kW.out.cell (p := ⟨bp, 0, none⟩) hbp).trans HC1.out, (kW.out.cell (p := ⟨bv, 0, none⟩) hbv).trans HC2.out⟩)
    (first
      | (go_at_call 43; with_reducible refine (X.out _).mono ?_
         rintro e wx ⟨rfl, kx⟩
         have kW := hide (below_more kW.out (Nat.le_refl _) kx)
         clear kx))
  all_goals
    go_wp2_with fail
    go_ret
    exact ⟨rfl, kW.out⟩
set_option maxHeartbeats 4000000 in
theorem cut2_any (v p : LB) (i bp bv bn : Nat) (hi : i ≤ v.length) (hv : v.length ≤ 1024) (W : World) (hbp : bp < W.heap.size) (hbv : bv < W.heap.size) (hbn : bn < W.heap.size) (c1 : W.cell? ⟨bp, 0, none⟩ = some (.string ⟨p.toArray⟩)) (c2 : W.cell? ⟨bv, 0, none⟩ = some (.string ⟨v.toArray⟩)) (c3 : W.cell? ⟨bn, 0, none⟩ = some (.int .i64 (v.length : Int))) :
    Calls Tryz.prog 44 #[.int .i64 (i : Int), .pointer (some ⟨bp, 0, none⟩), .pointer (some ⟨bv, 0, none⟩), .pointer (some ⟨bn, 0, none⟩)] W fun e w' => e = .returned (.bool (sufF v p i)) ∧ Below W.heap.size W w' := by
  have hsl : ∀ V, (Instr.slice 9 (.string ⟨v.toArray⟩) (some (.int .i64 ((v.length : Int) - (i : Int)))) none none).run Tryz.prog V = .ok (.string ⟨(v.drop (v.length - i)).toArray⟩) V := fun V => by
    have := sl_from v (v.length - i) (by omega) V
    rwa [show ((v.length - i : Nat) : Int) = (v.length : Int) - (i : Int) by omega] at this
  have kw : IntKind.i64.wrap ((v.length : Int) - (i : Int)) = (v.length : Int) - (i : Int) := by simp [IntKind.wrap, IntKind.bits, IntKind.signed]; omega
  have X := hide (fun V => Match_any p (v.drop (v.length - i)) V)
  have e : MatchP p (v.drop (v.length - i)) = sufF v p i := rfl
  rw [e] at X
  clear e
  generalize sufF v p i = r at *
  generalize v.drop (v.length - i) = s at *
  have HC1 := hide c1
  have HC2 := hide c2
  have HC3 := hide c3
  go_enter Tryz.func44, Tryz.ntmps44
  go_wp2_with fail
  have kW := hide ((Below.refl W.heap.size W).drew)
  go_region_held3 (fun V => V.cell? ⟨bp, 0, none⟩ = some (.string ⟨p.toArray⟩) ∧ V.cell? ⟨bv, 0, none⟩ = some (.string ⟨v.toArray⟩) ∧ V.cell? ⟨bn, 0, none⟩ = some (.int .i64 (v.length : Int)))
    (with_reducible exact ⟨(kW.out.cell (p := ⟨bp, 0, none⟩) hbp).trans HC1.out, (kW.out.cell (p := ⟨bv, 0, none⟩) hbv).trans HC2.out, (kW.out.cell (p := ⟨bn, 0, none⟩) hbn).trans HC3.out⟩)
    (first
      | (go_at_call 43; with_reducible refine (X.out _).mono ?_
         rintro e wx ⟨rfl, kx⟩
         have kW := hide (below_more kW.out (Nat.le_refl _) kx)
         clear kx))
  all_goals
    go_wp2_with fail
    go_ret
    exact ⟨rfl, kW.out⟩
end Go.Proofs.YtpioelpmdaeieaaGreatDoor
