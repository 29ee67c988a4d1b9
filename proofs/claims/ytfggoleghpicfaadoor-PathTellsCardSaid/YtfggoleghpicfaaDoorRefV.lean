/- The reference's contracts: Join, Same. -/
import Derived.Test.YtfggoleghpicfaaDoorRefU
import Derived.Outline
namespace Go.Proofs.YtfggoleghpicfaaDoor
open Go.RowKit
set_option linter.unusedVariables false
set_option maxHeartbeats 1000000 in
theorem rjoin_any (a b : Bs) (w : World) (ha : a.length ≤ 40000) (hb : b.length ≤ 40000) :
    Calls Tryd.prog 20 #[.string ⟨a.toArray⟩, .string ⟨b.toArray⟩] w fun e w' => e = .returned (.string ⟨(joinP a b).toArray⟩) ∧ Below w.heap.size w w' := by
  have HC1 := hide (rclean_any b w (by omega))
  have HC2 := hide (rclean_any (a ++ 47 :: b) w (by simp; omega))
  have hj : joinP a b = if a = [] ∨ rooted b = true then clean b else clean (a ++ 47 :: b) := rfl
  have HJ := hide hj
  clear hj
  have e : (⟨a.toArray⟩ : ByteArray) ++ ⟨#[47]⟩ ++ ⟨b.toArray⟩ = ⟨(a ++ 47 :: b).toArray⟩ := ByteArray.ext (by simp)
  have HE := hide e
  clear e
  cases hr : rooted b with
  | true =>
    have HR := hide hr
    have HJ2 : Hid (joinP a b = clean b) := hide (by rw [HJ.out, if_pos (.inr hr)])
    clear hr
    go_enter Tryd.func20, Tryd.ntmps20
    go_wp2_with (first
      | (go_at_call 26; refine (rrooted_any b _).mono ?_; rintro e w' ⟨rfl, rfl⟩; rw [HR.out])
      | (go_at_call 18; refine HC1.out.mono ?_; rintro e w' ⟨rfl, hb⟩))
    go_ret
    exact ⟨by rw [HJ2.out]; rfl, hb⟩
  | false =>
    have HR := hide hr
    by_cases h0 : a = []
    · have HJ2 : Hid (joinP a b = clean b) := hide (by rw [HJ.out, if_pos (.inl h0)])
      subst h0
      clear hr
      go_enter Tryd.func20, Tryd.ntmps20
      go_wp2_with (first
        | (go_at_call 26; refine (rrooted_any b _).mono ?_; rintro e w' ⟨rfl, rfl⟩; rw [HR.out])
        | (go_at_call 18; refine HC1.out.mono ?_; rintro e w' ⟨rfl, hb⟩))
      go_ret
      exact ⟨by rw [HJ2.out]; rfl, hb⟩
    · have HJ2 : Hid (joinP a b = clean (a ++ 47 :: b)) := hide (by rw [HJ.out, if_neg (by simp [hr, h0])])
      have he : (a == []) = false := beq_eq_false_iff_ne.2 h0
      have he2 : a.isEmpty = false := by cases a with
        | nil => exact absurd rfl h0
        | cons x t => rfl
      clear hr h0
      go_enter Tryd.func20, Tryd.ntmps20
      go_wp2_with (first
        | (go_at_call 26; refine (rrooted_any b _).mono ?_; rintro e w' ⟨rfl, rfl⟩; rw [HR.out])
        | (go_at_call 18; rw [HE.out]; refine HC2.out.mono ?_; rintro e w' ⟨rfl, hb⟩))
      go_ret
      exact ⟨by rw [HJ2.out]; rfl, hb⟩
set_option maxHeartbeats 1000000 in
theorem below_drewN {B : Nat} {a w : World} (h : Below B a w) : ∀ n, Below B a (w.drewN n) := fun n => ⟨h.os, h.tape, h.output, h.size, h.block⟩
set_option maxHeartbeats 1000000 in
theorem rsame_any (ks js : List Bs) (A B : Option Addr) (n c m d : Nat) (w : World) (hA : Reads w w.heap.size 1 A n (svs ks)) (hB : Reads w w.heap.size 1 B m (svs js)) (e : ks = js) (hn : n ≤ 1000000) :
    Calls Tryd.prog 14 #[.slice A n c, .slice B m d] w fun e w' => e = .returned (.bool true) ∧ Below w.heap.size w w' := by
  subst e
  have h1 : ks.length = n := by have := hA.1; rw [svs_length] at this; omega
  have h2 : ks.length = m := by have := hB.1; rw [svs_length] at this; omega
  subst h1
  subst h2
  have HA := hide hA
  have HB := hide hB
  clear hA hB
  go_enter Tryd.func14, Tryd.ntmps14
  go_wp2_with fail
  go_loopw [5] (fun u5 wx => ∃ (k : Nat), k ≤ ks.length ∧ u5 = .int .i64 k ∧ Below w.heap.size w wx) (fun i _ => ks.length - (intOf i).toNat)
  case atStart => exact ⟨0, Nat.zero_le _, rfl, Below.refl _ _⟩
  case round =>
    obtain ⟨k, hkl, rfl, hW⟩ := hrel
    have HW := hide hW
    clear hW
    by_cases hlt : k < ks.length
    · obtain ⟨ad, u, hA1, hadb, hu, hcell⟩ := (HA.out.below HW.out).at_ hlt
      obtain ⟨bd, u2, hB1, hbdb, hu2, hcell2⟩ := (HB.out.below HW.out).at_ hlt
      subst hA1
      subst hB1
      rw [svs_get ks k hlt] at hu hu2
      injection hu with hu
      injection hu2 with hu2
      subst hu
      subst hu2
      unfold sv at hcell hcell2
      generalize ks[k] = x at *
      have hi1 : (k : Int) < (ks.length : Int) := by omega
      have hi0 : (0 : Int) ≤ (k : Int) := by omega
      have hx : (x != x) = false := by simp
      go_wp2_with fail
      go_quiet (fail)
      go_wp2_with fail
      go_roundw
      case rel => exact ⟨k + 1, by omega, by go_num, below_drewN HW.out _⟩
      case measure => simp [intOf]; omega
    · obtain rfl : k = ks.length := by omega
      go_wp2_with fail
      go_ret
      exact ⟨rfl, HW.out⟩
end Go.Proofs.YtfggoleghpicfaaDoor
