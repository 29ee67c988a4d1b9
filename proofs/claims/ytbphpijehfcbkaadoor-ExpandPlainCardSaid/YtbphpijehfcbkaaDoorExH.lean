/- Tilde, Join, Texts; the law's heads. -/
import Derived.Test.YtbphpijehfcbkaaDoorExT
import Derived.Test.YtbphpijehfcbkaaDoorExN
namespace Go.Proofs.YtbphpijehfcbkaaDoor
open Go Go.RowKit
set_option linter.unusedVariables false
theorem lit_rd (W : World) (ks : List Bs) : Reads (W.alloc (.cells (svs ks).toArray 9)) (W.alloc (.cells (svs ks).toArray 9)).heap.size 1 (some ⟨W.heap.size, 0, none⟩) ks.length (svs ks) := by
  refine ⟨by simp [svs], fun _ => ⟨_, rfl, by simp, ?_⟩⟩
  intro j u hu
  rw [at_add, Nat.zero_add, (Blk.new W 9 (svs ks).toArray).cell j]
  simpa using hu
theorem rd_len {w : World} {B n : Nat} {A : Option Addr} {ks : List Bs} (h : Reads w B 1 A n (svs ks)) : n = ks.length := by have := h.1; rw [svs_length] at this; omega
set_option maxHeartbeats 1000000 in
theorem texts_eq (ks : List Bs) (A B : Option Addr) (n c m d : Nat) (w : World) (hA : Reads w w.heap.size 1 A n (svs ks)) (hB : Reads w w.heap.size 1 B m (svs ks)) (hn : n ≤ 1000000) :
    Calls Tryd.prog 9 #[.slice A n c, .slice B m d] w fun e w' => e = .returned (.bool true) ∧ Below w.heap.size w w' := by
  have h1 := rd_len hA
  have h2 := rd_len hB
  subst h1
  subst h2
  have HA := hide hA
  have HB := hide hB
  clear hA hB
  go_enter Tryd.func9, Tryd.ntmps9
  go_wp2_with fail
  go_loopw [5] (fun u5 wx => ∃ (k : Nat), k ≤ ks.length ∧ u5 = .int .i64 k ∧ Hid (Below w.heap.size w wx)) (fun i _ => ks.length - (intOf i).toNat)
  case atStart => exact ⟨0, Nat.zero_le _, rfl, hide (Below.refl _ _)⟩
  case round =>
    obtain ⟨k, hkl, rfl, HW⟩ := hrel
    by_cases hlt : k < ks.length
    · obtain ⟨g, o, rfl, hg, hc1⟩ := cells_of (HA.out.below HW.out) (by omega) (by rw [svs_length]; omega)
      obtain ⟨g2, o2, rfl, hg2, hc2⟩ := cells_of (HB.out.below HW.out) (by omega) (by rw [svs_length]; omega)
      have hcell := hc1 k _ (svs_get ks k hlt)
      have hcell2 := hc2 k _ (svs_get ks k hlt)
      generalize ks[k] = x at *
      unfold sv at hcell hcell2
      have hi1 : (k : Int) < (ks.length : Int) := by omega
      have hi0 : (0 : Int) ≤ (k : Int) := by omega
      have hx : (x != x) = false := by simp
      clear hc1 hc2
      go_wp2_with fail
      go_quiet (fail)
      go_wp2_with fail
      go_roundw
      case rel => exact ⟨k + 1, by omega, by go_num, hide (below_drewN HW.out _)⟩
      case measure => simp [intOf]; omega
    · obtain rfl : k = ks.length := by omega
      go_wp2_with fail
      go_ret
      exact ⟨rfl, HW.out⟩
theorem suf_yes (w : World) : Calls Tryd.prog 23 #[.string ⟨#[47]⟩, .string ⟨#[47]⟩] w fun e w' => e = .returned (.bool true) ∧ w = w' := by
  have hs : ∀ V, (Instr.slice 9 (.string ⟨#[47]⟩) (some (.int .i64 0)) none none).run Tryd.prog V = .ok (.string ⟨#[47]⟩) V := fun V => sl_from [47] 0 (by decide) V
  have X : ∀ W, Calls Tryd.prog 33 #[.string ⟨#[47]⟩, .string ⟨#[47]⟩] W fun e w' => e = .returned (.bool true) ∧ W = w' := fun W => by
    go_enter Tryd.func33, Tryd.ntmps33
    go_wp2_with fail
    go_ret
    exact ⟨rfl, rfl⟩
  go_enter Tryd.func23, Tryd.ntmps23
  go_wp2_with fail
  refine (X _).mono ?_
  rintro e w1 ⟨rfl, rfl⟩
  go_wp2_with fail
  go_ret
  exact ⟨rfl, rfl⟩
theorem suf_no (w : World) : Calls Tryd.prog 23 #[.string ⟨#[97]⟩, .string ⟨#[47]⟩] w fun e w' => e = .returned (.bool false) ∧ w = w' := by
  have hs : ∀ V, (Instr.slice 9 (.string ⟨#[97]⟩) (some (.int .i64 0)) none none).run Tryd.prog V = .ok (.string ⟨#[97]⟩) V := fun V => sl_from [97] 0 (by decide) V
  have X : ∀ W, Calls Tryd.prog 33 #[.string ⟨#[97]⟩, .string ⟨#[47]⟩] W fun e w' => e = .returned (.bool false) ∧ W = w' := fun W => by
    go_enter Tryd.func33, Tryd.ntmps33
    go_wp2_with fail
    go_ret
    exact ⟨rfl, rfl⟩
  go_enter Tryd.func23, Tryd.ntmps23
  go_wp2_with fail
  refine (X _).mono ?_
  rintro e w1 ⟨rfl, rfl⟩
  go_wp2_with fail
  go_ret
  exact ⟨rfl, rfl⟩
theorem join1 (w : World) : Calls Tryd.prog 12 #[.string ⟨#[47]⟩, .string ⟨#[97]⟩] w fun e w' => e = .returned (.string ⟨#[47, 97]⟩) ∧ w = w' := by
  go_enter Tryd.func12, Tryd.ntmps12
  go_wp2_with fail
  refine (suf_yes _).mono ?_
  rintro e w1 ⟨rfl, rfl⟩
  go_wp2_with fail
  go_ret
  exact ⟨rfl, rfl⟩
theorem join2 (w : World) : Calls Tryd.prog 12 #[.string ⟨#[97]⟩, .string ⟨#[98]⟩] w fun e w' => e = .returned (.string ⟨#[97, 47, 98]⟩) ∧ w = w' := by
  go_enter Tryd.func12, Tryd.ntmps12
  go_wp2_with fail
  refine (suf_no _).mono ?_
  rintro e w1 ⟨rfl, rfl⟩
  go_wp2_with fail
  go_ret
  exact ⟨rfl, rfl⟩
theorem join3 (w : World) : Calls Tryd.prog 12 #[.string ⟨#[]⟩, .string ⟨#[98]⟩] w fun e w' => e = .returned (.string ⟨#[98]⟩) ∧ w = w' := by
  go_enter Tryd.func12, Tryd.ntmps12
  go_wp2_with fail
  go_ret
  exact ⟨rfl, rfl⟩
theorem tilde1 (w : World) : Calls Tryd.prog 11 #[.string ⟨#[126, 47, 120]⟩, .string ⟨#[47, 104]⟩] w fun e w' => e = .returned (.string ⟨#[47, 104, 47, 120]⟩) ∧ w = w' := by
  have hs : ∀ V, (Instr.slice 9 (.string ⟨#[126, 47, 120]⟩) (some (.int .i64 1)) none none).run Tryd.prog V = .ok (.string ⟨#[47, 120]⟩) V := fun V => sl_from [126, 47, 120] 1 (by decide) V
  go_enter Tryd.func11, Tryd.ntmps11
  go_wp2_with fail
  refine (pre_l [126, 47, 120] [126, 47] _).mono ?_
  rintro e w1 ⟨rfl, rfl⟩
  rw [show Lib.hasPrefix [126, 47, 120] [126, 47] = true from rfl]
  go_wp2_with fail
  go_ret
  exact ⟨rfl, rfl⟩
theorem tilde2 (w : World) : Calls Tryd.prog 11 #[.string ⟨#[126, 120]⟩, .string ⟨#[47, 104]⟩] w fun e w' => e = .returned (.string ⟨#[126, 120]⟩) ∧ w = w' := by
  go_enter Tryd.func11, Tryd.ntmps11
  go_wp2_with fail
  refine (pre_l [126, 120] [126, 47] _).mono ?_
  rintro e w1 ⟨rfl, rfl⟩
  rw [show Lib.hasPrefix [126, 120] [126, 47] = false from rfl]
  go_wp2_with fail
  go_ret
  exact ⟨rfl, rfl⟩
theorem plain1 (w : World) : Calls Tryd.prog 5 #[.string ⟨#[97, 92, 42]⟩] w fun e w' => e = .returned (.tuple #[.string ⟨#[97, 42]⟩, .bool true]) ∧ Below w.heap.size w w' := plain_yes [97, 92, 42] (by decide) (by kernel_rfl) w
theorem plain2 (w : World) : Calls Tryd.prog 5 #[.string ⟨#[97, 42]⟩] w fun e w' => e = .returned (.tuple #[.string ⟨#[]⟩, .bool false]) ∧ Below w.heap.size w w' := plain_no [97, 42] (by decide) (by kernel_rfl) w
end Go.Proofs.YtbphpijehfcbkaaDoor
