/- The contract of change, with the closures of Set and Export. -/
import Derived.Test.YtpioelpmdaeieaaGreatDoorVarH
namespace Go.Proofs.YtpioelpmdaeieaaGreatDoor
open Go.RowKit
set_option linter.unusedVariables false
def setV (v : LB) (x : Vr) : Vr := ⟨x.name, v, x.exp⟩
def expV (x : Vr) : Vr := ⟨x.name, x.value, true⟩
set_option maxHeartbeats 1000000 in
theorem set1_any (x : Vr) (v : LB) (p : Nat) (w : World) (hp : p < w.heap.size) (hpc : w.cell? ⟨p, 0, none⟩ = some (.string ⟨v.toArray⟩)) :
    Calls Tryz.prog 31 #[x.v, .pointer (some ⟨p, 0, none⟩)] w fun e w' => e = .returned (setV v x).v ∧ Below w.heap.size w w' := by
  obtain ⟨nm, vl, ex⟩ := x
  unfold Vr.v setV
  dsimp only
  have HB : Hid (Below w.heap.size w ((w.alloc (.cells #[.string ⟨nm.toArray⟩, .string ⟨v.toArray⟩, .bool ex] 42)).alloc (.cells #[.string ⟨nm.toArray⟩, .string ⟨v.toArray⟩, .bool ex] 42))) := hide (((Below.refl _ _).alloc (Nat.le_refl _) _).alloc (by simp) _)
  go_enter Tryz.func31, Tryz.ntmps31
  go_wp2_with fail
  refine bodyPost_ret (v := .agg #[.string ⟨nm.toArray⟩, .string ⟨v.toArray⟩, .bool ex]) (by simp only [results, Tryz.results31]; go_simp) rfl ⟨rfl, HB.out⟩
set_option maxHeartbeats 1000000 in
theorem exp1_any (x : Vr) (w : World) :
    Calls Tryz.prog 35 #[x.v] w fun e w' => e = .returned (expV x).v ∧ Below w.heap.size w w' := by
  obtain ⟨nm, vl, ex⟩ := x
  unfold Vr.v expV
  dsimp only
  have HB : Hid (Below w.heap.size w ((w.alloc (.cells #[.string ⟨nm.toArray⟩, .string ⟨vl.toArray⟩, .bool true] 42)).alloc (.cells #[.string ⟨nm.toArray⟩, .string ⟨vl.toArray⟩, .bool true] 42))) := hide (((Below.refl _ _).alloc (Nat.le_refl _) _).alloc (by simp) _)
  go_enter Tryz.func35, Tryz.ntmps35
  go_wp2_with fail
  refine bodyPost_ret (v := .agg #[.string ⟨nm.toArray⟩, .string ⟨vl.toArray⟩, .bool true]) (by simp only [results, Tryz.results35]; go_simp) rfl ⟨rfl, HB.out⟩
theorem one_var {W : World} {g : Nat} {x : Vr} (h : Blk W g 42 #[.string ⟨x.name.toArray⟩, .string ⟨x.value.toArray⟩, .bool x.exp]) : RdV W (some ⟨g, 0, none⟩) 1 [x] := by
  refine ⟨rfl, fun _ => ⟨_, rfl, h.lt, ?_⟩⟩
  intro j u hu
  rw [at_add, Nat.zero_add, h.cell j]
  simpa [vvs, vv, sv] using hu
theorem RdV.alloc {w : World} {A : Option Addr} {n : Nat} {l : List Vr} (h : RdV w A n l) (o : Obj) : RdV (w.alloc o) A n l := (Reads.alloc h (Nat.le_refl _) o).more (by simp)
end Go.Proofs.YtpioelpmdaeieaaGreatDoor
