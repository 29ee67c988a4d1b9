/- Words that are turned. -/
import Derived.Test.YtbbobffedgcbhaaGreatDoorGr
import Derived.Test.YtbbobffedgcbhaaGreatDoorShaM
import Derived.Laws.BitsLemmas
namespace Go.Proofs.YtbbobffedgcbhaaGreatDoor
open Go.RowKit
set_option linter.unusedVariables false
theorem w32 (n : Int) (h0 : 0 ≤ n) (h1 : n < 2 ^ 32) : IntKind.u32.wrap n = n := by
  simp [IntKind.wrap, IntKind.bits, IntKind.signed]; omega
theorem or32 (a b : Nat) (ha : a < 4294967296) (hb : b < 4294967296) : bits .or .u32 (a : Int) (b : Int) = ((a ||| b : Nat) : Int) := (bits_nat .u32 32 (Nat.le_refl _) w32 a b ha hb).2
theorem and32 (a b : Nat) (ha : a < 4294967296) (hb : b < 4294967296) : bits .and .u32 (a : Int) (b : Int) = ((a &&& b : Nat) : Int) := (bits_nat .u32 32 (Nat.le_refl _) w32 a b ha hb).1
theorem xor32 (a b : Nat) (ha : a < 4294967296) (hb : b < 4294967296) : bits .xor .u32 (a : Int) (b : Int) = ((a ^^^ b : Nat) : Int) := by
  have hx : a ^^^ b < 2 ^ 32 := Nat.xor_lt_two_pow (n := 32) ha hb
  have ha' : a % 2 ^ 32 = a := Nat.mod_eq_of_lt ha
  have hb' : b % 2 ^ 32 = b := Nat.mod_eq_of_lt hb
  show IntKind.u32.wrap ((BitVec.ofInt 32 (a : Int) ^^^ BitVec.ofInt 32 (b : Int)).toNat : Int) = _
  rw [BitVec.toNat_xor, BitVec.ofInt_natCast, BitVec.ofInt_natCast, BitVec.toNat_ofNat, BitVec.toNat_ofNat, ha', hb']
  exact w32 _ (Int.natCast_nonneg _) (by exact_mod_cast hx)
theorem rotr_or {r x : Nat} (h : x < 4294967296) : bits BinOp.or IntKind.u32 ((x : Int) / 2 ^ r) ((x : Int) * 2 ^ (32 - r) % 4294967296) = (rotr r x : Nat) := by
  have h := or32 (x / 2 ^ r) (x * 2 ^ (32 - r) % 4294967296) (Nat.lt_of_le_of_lt (Nat.div_le_self _ _) h) (Nat.mod_lt _ (by decide))
  simpa [rotr] using h
theorem rotr_or' {r x : Nat} (h : x < 4294967296) : bits BinOp.or IntKind.u32 ((x : Int) * 2 ^ (32 - r) % 4294967296) ((x : Int) / 2 ^ r) = (rotr r x : Nat) := by
  have h := or32 (x * 2 ^ (32 - r) % 4294967296) (x / 2 ^ r) (Nat.mod_lt _ (by decide)) (Nat.lt_of_le_of_lt (Nat.div_le_self _ _) h)
  rw [Nat.or_comm] at h
  simpa [rotr] using h
set_option maxHeartbeats 400000 in
theorem turned_any (x k : Nat) (w : World) (hx : x < 4294967296) (h0 : 0 < k) (h1 : k < 32) :
    Calls Tryz.prog 93 #[.int .u32 x, .int .u64 k] w fun e w' => e = .returned (.int .u32 (rotr k x : Nat)) ∧ w = w' := by
  have hR := rotr_or (r := k) hx
  go_enter Tryz.func93, Tryz.ntmps93
  go_wp2
  go_ret
  exact ⟨rfl, rfl⟩
set_option maxHeartbeats 400000 in
theorem rot_any (x r : Nat) (K : Int) (w : World) (hx : x < 4294967296) (h0 : 0 < r) (h1 : r < 32) (hK : bits BinOp.and IntKind.u64 (IntKind.u64.wrap K) 31 = ((32 - r : Nat) : Int)) :
    Calls Tryz.prog 95 #[.int .u32 x, .int .i64 K] w fun e w' => e = .returned (.int .u32 (rotr r x : Nat)) ∧ w = w' := by
  have hR := rotr_or' (r := r) hx
  obtain ⟨q, hq⟩ : ∃ q, 32 - r = q := ⟨_, rfl⟩
  obtain rfl : r = 32 - q := by omega
  rw [hq] at hK hR
  have q0 : 0 < q := by omega
  have q1 : q < 32 := by omega
  have hz : (32 : Int) - q = ((32 - q : Nat) : Int) := by omega
  clear hq
  go_enter Tryz.func95, Tryz.ntmps95
  go_wp2
  go_ret
  exact ⟨rfl, rfl⟩
theorem rot17 : bits BinOp.and IntKind.u64 (IntKind.u64.wrap (-17)) 31 = ((32 - 17 : Nat) : Int) := by decide +kernel
end Go.Proofs.YtbbobffedgcbhaaGreatDoor
