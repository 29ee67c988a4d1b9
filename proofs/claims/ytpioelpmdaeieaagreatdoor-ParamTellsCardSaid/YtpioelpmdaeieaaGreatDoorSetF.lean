/- The contracts of Texts, num.Dec and Param at the texts of the heads. -/
import Derived.Test.YtpioelpmdaeieaaGreatDoorSetE
namespace Go.Proofs.YtpioelpmdaeieaaGreatDoor
open Go.RowKit
set_option linter.unusedVariables false
theorem lit_rd (W : World) (ks : List Bs) : Reads (W.alloc (.cells (svs ks).toArray 9)) (W.alloc (.cells (svs ks).toArray 9)).heap.size 1 (some ⟨W.heap.size, 0, none⟩) ks.length (svs ks) := by
  refine ⟨by simp [svs], fun _ => ⟨_, rfl, by simp, ?_⟩⟩
  intro j u hu
  rw [at_add, Nat.zero_add, (Blk.new W 9 (svs ks).toArray).cell j]
  simpa using hu
theorem rd_len {w : World} {B n : Nat} {A : Option Addr} {ks : List Bs} (h : Reads w B 1 A n (svs ks)) : n = ks.length := by have := h.1; rw [svs_length] at this; omega
set_option maxHeartbeats 1000000 in
theorem texts_eq (ks : List Bs) (A B : Option Addr) (n c m d : Nat) (w : World) (hA : Reads w w.heap.size 1 A n (svs ks)) (hB : Reads w w.heap.size 1 B m (svs ks)) (hn : n ≤ 1000000) :
    Calls Tryz.prog 18 #[.slice A n c, .slice B m d] w fun e w' => e = .returned (.bool true) ∧ Below w.heap.size w w' := by
  have h1 := rd_len hA
  have h2 := rd_len hB
  subst h1
  subst h2
  have HA := hide hA
  have HB := hide hB
  clear hA hB
  go_enter Tryz.func18, Tryz.ntmps18
  go_wp2_with fail
  go_loopw [5] (fun u5 wx => ∃ (k : Nat), k ≤ ks.length ∧ u5 = .int .i64 k ∧ Hid (Below w.heap.size w wx)) (fun i _ => ks.length - (intOf i).toNat)
  case atStart => exact ⟨0, Nat.zero_le _, rfl, hide (Below.refl _ _)⟩
  case round =>
    obtain ⟨k, hkl, rfl, HW⟩ := hrel
    by_cases hlt : k < ks.length
    · obtain ⟨g, o, rfl, hg, hc1⟩ := cells_of (HA.out.below HW.out) (by omega) (by rw [svs_length]; omega)
      obtain ⟨g2, o2, rfl, hg2, hc2⟩ := cells_of (HB.out.below HW.out) (by omega) (by rw [svs_length]; omega)
      have hcell := hc1 k _ (svs_get ks k hlt)
      have hcell2 := hc2 k _ (svs_get ks k hlt)
      generalize ks[k] = x at *
      unfold sv at hcell hcell2
      have hi1 : (k : Int) < (ks.length : Int) := by omega
      have hi0 : (0 : Int) ≤ (k : Int) := by omega
      have hx : (x != x) = false := by simp
      clear hc1 hc2
      go_wp2_with fail
      go_quiet (fail)
      go_wp2_with fail
      go_roundw
      case rel => exact ⟨k + 1, by omega, by go_num, hide (below_drewN HW.out _)⟩
      case measure => simp [intOf]; omega
    · obtain rfl : k = ks.length := by omega
      go_wp2_with fail
      go_ret
      exact ⟨rfl, HW.out⟩
theorem dec7 (w : World) : Calls Tryz.prog 47 #[.int .i64 7] w fun e w' => e = .returned (.string ⟨#[55]⟩) ∧ w = w' := by
  have X : Hid (∀ W, Calls Tryz.prog 64 #[.int .i64 7] W fun e w' => e = .returned (.string ⟨#[55]⟩) ∧ W = w') := hide (fun W => by
    refine (Any.strconv_Itoa_small Tryz.lays171 7 (by decide) W).mono ?_
    rintro e w' ⟨rfl, rfl⟩
    exact ⟨by rw [show Lib.decDigits 7 = [55] by kernel_rfl], rfl⟩)
  go_enter Tryz.func47, Tryz.ntmps47
  go_wp2_with fail
  refine (X.out _).mono ?_
  rintro e w1 ⟨rfl, rfl⟩
  go_wp2_with fail
  go_ret
  exact ⟨rfl, rfl⟩
set_option maxHeartbeats 2000000 in
theorem param_q (V : Value) (A : Option Addr) (n c : Nat) (z : ByteArray) (w : World) : Calls Tryz.prog 26 #[V, .slice A n c, .string z, .int .i64 7, .string ⟨#[63]⟩] w fun e w' => e = .returned (.tuple #[.string ⟨#[55]⟩, .bool true]) ∧ w = w' := by
  have X := hide (fun W => dec7 W)
  go_enter Tryz.func26, Tryz.ntmps26
  go_wp2_with fail
  refine (X.out _).mono ?_
  rintro e w1 ⟨rfl, rfl⟩
  go_wp2_with fail
  refine bodyPost_ret (v := .tuple #[.string ⟨#[55]⟩, .bool true]) (by simp only [results, Tryz.results26]; go_simp) rfl ⟨rfl, rfl⟩
set_option maxHeartbeats 2000000 in
theorem param_at (V : Value) (z : ByteArray) (w : World) : Calls Tryz.prog 26 #[V, .slice none 0 0, .string z, .int .i64 7, .string ⟨#[64]⟩] w fun e w' => e = .returned (.tuple #[.string ⟨#[]⟩, .bool false]) ∧ w = w' := by
  have X := hide (fun W => Any.strings_Join_none Tryz.lays156 Tryz.Builder_Extra_156 none 0 ⟨#[32]⟩ W)
  go_enter Tryz.func26, Tryz.ntmps26
  go_wp2_with fail
  refine (X.out _).mono ?_
  rintro e w1 ⟨rfl, rfl⟩
  go_wp2_with fail
  refine bodyPost_ret (v := .tuple #[.string ⟨#[]⟩, .bool false]) (by simp only [results, Tryz.results26]; go_simp) rfl ⟨rfl, rfl⟩
set_option maxHeartbeats 2000000 in
theorem param_2 (V : Value) (g c : Nat) (z : ByteArray) (w : World) (hc : w.cell? ⟨g, 1, none⟩ = some (.string ⟨#[113]⟩)) : Calls Tryz.prog 26 #[V, .slice (some ⟨g, 0, none⟩) 2 c, .string z, .int .i64 7, .string ⟨#[50]⟩] w fun e w' => e = .returned (.tuple #[.string ⟨#[113]⟩, .bool true]) ∧ w = w' := by
  have hix : ∀ W, (Instr.index 9 (.string ⟨#[50]⟩) (.int .i64 0)).run Tryz.prog W = .ok (.int .u8 50) W := fun W => ix_l [50] 0 50 rfl W
  have hia : ∀ W, (Instr.indexAt 37 (.slice (some ⟨g, 0, none⟩) 2 c) (.int .i64 1)).run Tryz.prog W = .ok (.pointer (some ⟨g, 1, none⟩)) W := fun W => by
    have := str_at g 0 2 c 1 1 rfl (by decide) W
    exact this
  go_enter Tryz.func26, Tryz.ntmps26
  go_wp2_with fail
  refine bodyPost_ret (v := .tuple #[.string ⟨#[113]⟩, .bool true]) (by simp only [results, Tryz.results26]; go_simp) rfl ⟨rfl, rfl⟩
end Go.Proofs.YtpioelpmdaeieaaGreatDoor
