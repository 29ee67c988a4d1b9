/- The contract of Texts. -/
import Derived.Test.YtaibmfahfkoahaaGreatEnvD
namespace Go.Proofs.YtaibmfahfkoahaaGreat
open Go.RowKit
set_option linter.unusedVariables false
theorem lit_rd (W : World) (ks : List Bs) : Reads (W.alloc (.cells (svs ks).toArray 9)) (W.alloc (.cells (svs ks).toArray 9)).heap.size 1 (some ⟨W.heap.size, 0, none⟩) ks.length (svs ks) := by
  refine ⟨by simp [svs], fun _ => ⟨_, rfl, by simp, ?_⟩⟩
  intro j u hu
  rw [at_add, Nat.zero_add, (Blk.new W 9 (svs ks).toArray).cell j]
  simpa using hu
theorem rd_len {w : World} {B n : Nat} {A : Option Addr} {ks : List Bs} (h : Reads w B 1 A n (svs ks)) : n = ks.length := by have := h.1; rw [svs_length] at this; omega
set_option maxHeartbeats 1000000 in
theorem texts_eq (ks : List Bs) (A B : Option Addr) (n c m d : Nat) (w : World) (hA : Reads w w.heap.size 1 A n (svs ks)) (hB : Reads w w.heap.size 1 B m (svs ks)) (hn : n ≤ 1000000) :
    Calls Tryz.prog 10 #[.slice A n c, .slice B m d] w fun e w' => e = .returned (.bool true) ∧ Below w.heap.size w w' := by
  have h1 := rd_len hA
  have h2 := rd_len hB
  subst h1
  subst h2
  have HA := hide hA
  have HB := hide hB
  clear hA hB
  go_enter Tryz.func10, Tryz.ntmps10
  go_wp2_with fail
  go_loopw [5] (fun u5 wx => ∃ (k : Nat), k ≤ ks.length ∧ u5 = .int .i64 k ∧ Hid (Below w.heap.size w wx)) (fun i _ => ks.length - (intOf i).toNat)
  case atStart => exact ⟨0, Nat.zero_le _, rfl, hide (Below.refl _ _)⟩
  case round =>
    obtain ⟨k, hkl, rfl, HW⟩ := hrel
    by_cases hlt : k < ks.length
    · obtain ⟨g, o, rfl, hg, hc1⟩ := cells_of (HA.out.below HW.out) (by omega) (by rw [svs_length]; omega)
      obtain ⟨g2, o2, rfl, hg2, hc2⟩ := cells_of (HB.out.below HW.out) (by omega) (by rw [svs_length]; omega)
      have hcell := hc1 k _ (svs_get ks k hlt)
      have hcell2 := hc2 k _ (svs_get ks k hlt)
      generalize ks[k] = x at *
      unfold sv at hcell hcell2
      have hi1 : (k : Int) < (ks.length : Int) := by omega
      have hi0 : (0 : Int) ≤ (k : Int) := by omega
      have hx : (x != x) = false := by simp
      clear hc1 hc2
      go_wp2_with fail
      go_quiet (fail)
      go_wp2_with fail
      go_roundw
      case rel => exact ⟨k + 1, by omega, by go_num, hide (below_drewN HW.out _)⟩
      case measure => simp [intOf]; omega
    · obtain rfl : k = ks.length := by omega
      go_wp2_with fail
      go_ret
      exact ⟨rfl, HW.out⟩
end Go.Proofs.YtaibmfahfkoahaaGreat
