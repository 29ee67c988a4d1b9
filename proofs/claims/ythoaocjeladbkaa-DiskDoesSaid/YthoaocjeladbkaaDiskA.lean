/- Disks: what may be; Check, New. -/
import Derived.Test.YthoaocjeladbkaaClone
namespace Go.Proofs.Ythoaocjeladbkaa
open Go.RowKit
set_option linter.unusedVariables false

def okD (n m : Nat) (room arm : Int) : Bool := decide (0 ≤ room ∧ room ≤ 1048576 ∧ (n : Int) + m ≤ room ∧ -1 ≤ arm)
theorem okD_no {n m : Nat} {room arm : Int} (h : room < 0 ∨ 1048576 < room ∨ room < (n : Int) + m ∨ arm < -1) : okD n m room arm = false := decide_eq_false (by rintro ⟨_, _, _, _⟩; omega)
abbrev dv (A : Option Addr) (n c : Nat) (B : Option Addr) (m k : Nat) (room : Int) (dead : Bool) (arm : Int) : Value := .agg #[.slice A n c, .slice B m k, .int .i64 room, .bool dead, .int .i64 arm]
abbrev dC (A : Option Addr) (n c : Nat) (B : Option Addr) (m k : Nat) (room : Int) (dead : Bool) (arm : Int) : Obj := .cells #[.slice A n c, .slice B m k, .int .i64 room, .bool dead, .int .i64 arm] 24

set_option maxHeartbeats 800000 in
theorem check_any (A : Option Addr) (n c : Nat) (B : Option Addr) (m k : Nat) (room : Int) (dead : Bool) (arm : Int) (w : World) (hn : n ≤ 1000000000) (hm : m ≤ 1000000000) :
    Calls Try.prog 22 #[dv A n c B m k room dead arm] w fun e w' => e = .returned (.bool (okD n m room arm)) ∧ w.alloc (dC A n c B m k room dead arm) = w' := by
  go_enter Try.func22, Try.ntmps22
  go_wp2
  all_goals
    go_ret
    refine ⟨ret_bool ?_, rfl⟩
    first
      | rw [okD_no (by omega)]
      | (unfold okD; rw [Bool.eq_iff_iff]; simp; omega)
set_option maxHeartbeats 800000 in
theorem rcheck_any (A : Option Addr) (n c : Nat) (B : Option Addr) (m k : Nat) (room : Int) (dead : Bool) (arm : Int) (w : World) (hn : n ≤ 1000000000) (hm : m ≤ 1000000000) :
    Calls Try.prog 23 #[dv A n c B m k room dead arm] w fun e w' => e = .returned (.bool (okD n m room arm)) ∧ w.alloc (dC A n c B m k room dead arm) = w' := by
  by_cases hr0 : 0 ≤ room
  · by_cases hr1 : room ≤ 1048576
    · go_enter Try.func23, Try.ntmps23
      go_wp2
      all_goals
        go_ret
        refine ⟨ret_bool ?_, rfl⟩
        first
          | rw [okD_no (by omega)]
          | (unfold okD; rw [Bool.eq_iff_iff]; simp; omega)
    · go_enter Try.func23, Try.ntmps23
      go_wp2
      all_goals
        go_ret
        refine ⟨ret_bool ?_, rfl⟩
        rw [okD_no (by omega)]
  · go_enter Try.func23, Try.ntmps23
    go_wp2
    all_goals
      go_ret
      refine ⟨ret_bool ?_, rfl⟩
      rw [okD_no (by omega)]
def newR (room : Int) : Value := if 0 ≤ room ∧ room ≤ 1048576 then .tuple #[dv none 0 0 none 0 0 room false (-1), .int .i64 0] else .tuple #[dv none 0 0 none 0 0 0 false 0, .int .i64 2]
set_option maxHeartbeats 800000 in
theorem new_any (room : Int) (w : World) :
    Calls Try.prog 15 #[.int .i64 room] w fun e w' => e = .returned (newR room) ∧ Below w.heap.size w w' := by
  by_cases h0 : 0 ≤ room
  · by_cases h1 : room ≤ 1048576
    · have HN : Hid (newR room = .tuple #[dv none 0 0 none 0 0 room false (-1), .int .i64 0]) := hide (if_pos ⟨h0, h1⟩)
      go_enter Try.func15, Try.ntmps15
      go_wp2
      refine bodyPost_ret (v := .tuple #[dv none 0 0 none 0 0 room false (-1), .int .i64 0]) (by simp only [results, Try.results15]; go_simp) rfl ⟨by rw [HN.out], (Below.refl _ _).alloc (Nat.le_refl _) _⟩
    · have HN : Hid (newR room = .tuple #[dv none 0 0 none 0 0 0 false 0, .int .i64 2]) := hide (if_neg (by omega))
      have h2 : 1048576 < room := by omega
      go_enter Try.func15, Try.ntmps15
      go_wp2
      refine bodyPost_ret (v := .tuple #[dv none 0 0 none 0 0 0 false 0, .int .i64 2]) (by simp only [results, Try.results15]; go_simp) rfl ⟨by rw [HN.out], (Below.refl _ _).alloc (Nat.le_refl _) _⟩
  · have HN : Hid (newR room = .tuple #[dv none 0 0 none 0 0 0 false 0, .int .i64 2]) := hide (if_neg (by omega))
    have h2 : room < 0 := by omega
    go_enter Try.func15, Try.ntmps15
    go_wp2
    refine bodyPost_ret (v := .tuple #[dv none 0 0 none 0 0 0 false 0, .int .i64 2]) (by simp only [results, Try.results15]; go_simp) rfl ⟨by rw [HN.out], (Below.refl _ _).alloc (Nat.le_refl _) _⟩
set_option maxHeartbeats 800000 in
theorem rnew_any (room : Int) (w : World) :
    Calls Try.prog 16 #[.int .i64 room] w fun e w' => e = .returned (newR room) ∧ Below w.heap.size w w' := by
  by_cases h0 : 0 ≤ room
  · by_cases h1 : room ≤ 1048576
    · have HN : Hid (newR room = .tuple #[dv none 0 0 none 0 0 room false (-1), .int .i64 0]) := hide (if_pos ⟨h0, h1⟩)
      go_enter Try.func16, Try.ntmps16
      go_wp2
      refine bodyPost_ret (v := .tuple #[dv none 0 0 none 0 0 room false (-1), .int .i64 0]) (by simp only [results, Try.results16]; go_simp) rfl ⟨by rw [HN.out], (Below.refl _ _).alloc (Nat.le_refl _) _⟩
    · have HN : Hid (newR room = .tuple #[dv none 0 0 none 0 0 0 false 0, .int .i64 2]) := hide (if_neg (by omega))
      have h2 : 1048576 < room := by omega
      go_enter Try.func16, Try.ntmps16
      go_wp2
      refine bodyPost_ret (v := .tuple #[dv none 0 0 none 0 0 0 false 0, .int .i64 2]) (by simp only [results, Try.results16]; go_simp) rfl ⟨by rw [HN.out], (Below.refl _ _).alloc (Nat.le_refl _) _⟩
  · have HN : Hid (newR room = .tuple #[dv none 0 0 none 0 0 0 false 0, .int .i64 2]) := hide (if_neg (by omega))
    have h2 : room < 0 := by omega
    go_enter Try.func16, Try.ntmps16
    go_wp2
    refine bodyPost_ret (v := .tuple #[dv none 0 0 none 0 0 0 false 0, .int .i64 2]) (by simp only [results, Try.results16]; go_simp) rfl ⟨by rw [HN.out], (Below.refl _ _).alloc (Nat.le_refl _) _⟩
end Go.Proofs.Ythoaocjeladbkaa
