/- The reference: the length that a frame's beginning tells. -/
import Derived.Test.YtgmpcgcmcheelaaFeedB
import Derived.Test.YtgmpcgcmcheelaaRput
namespace Go.Proofs.Ytgmpcgcmcheelaa
open Go.RowKit
set_option linter.unusedVariables false

def lenR (b : Bs) : Int := if b.length < 2 then -1 else if 4096 < numB (b.take 2) then 0 else (numB (b.take 2) : Nat)
set_option maxHeartbeats 400000 in
theorem len_any (A : Option Addr) (n c : Nat) (b : Bs) (w : World) (hr : Rd w A n b) :
    Calls Try.prog 25 #[.slice A n c] w fun e w' => e = .returned (.int .i64 (lenR b)) ∧ ∃ d, w' = w.drewN d := by
  have hl := hr.len
  by_cases h2 : n < 2
  · have hE : Hid (lenR b = -1) := hide (by unfold lenR; rw [if_pos (by omega)])
    have g2 : (n : Int) < 2 := by omega
    clear hl
    go_enter Try.func25, Try.ntmps25
    go_wp2
    go_ret
    exact ⟨by rw [hE.out]; rfl, 0, rfl⟩
  · have g2 : ¬ (n : Int) < 2 := by omega
    match b, hl, hr with
    | [], hl, _ => simp at hl; omega
    | [_], hl, _ => simp at hl; omega
    | x :: y :: t, hl, hr =>
      obtain ⟨ad, e, hb, hc⟩ := hr.2 (by omega)
      subst e
      have hx := x.toNat_lt
      have hy := y.toNat_lt
      have hn : numB ((x :: y :: t).take 2) = x.toNat * 256 + y.toNat := by show (0 * 256 + x.toNat) * 256 + y.toNat = _; omega
      have hE : Hid (lenR (x :: y :: t) = if 4096 < x.toNat * 256 + y.toNat then 0 else ((x.toNat * 256 + y.toNat : Nat) : Int)) := hide (by unfold lenR; rw [if_neg (by rw [hl]; omega), hn])
      have c0 : ∀ q, (w.drewN q).cell? ad = some (.int .u8 x.toNat) := fun q => by have := hc 0 _ rfl; rw [add_zero_] at this; exact this
      have c0' : ∀ q, (w.drewN q).cell? (ad.add 0) = some (.int .u8 x.toNat) := fun q => hc 0 _ rfl
      have c1 : ∀ q, (w.drewN q).cell? (ad.add 1) = some (.int .u8 y.toNat) := fun q => hc 1 _ rfl
      have c1' : ∀ q, (w.drewN q).cell? ⟨ad.block, ad.off + 1, none⟩ = some (.int .u8 y.toNat) := fun q => by have h := c1 q; simpa [Addr.add] using h
      clear hc hb hn hl hr
      generalize x.toNat = X at *
      generalize y.toNat = Y at *
      have hi0 : (0 : Int) < (n : Int) := by omega
      have hi1 : (1 : Int) < (n : Int) := by omega
      have hj0 : 0 < n := by omega
      have hj1 : 1 < n := by omega
      have hj2 : n ≠ 0 := by omega
      have w0 : IntKind.i64.wrap (X : Int) = X := by simp [IntKind.wrap, IntKind.bits, IntKind.signed]; omega
      have w1 : IntKind.i64.wrap (Y : Int) = Y := by simp [IntKind.wrap, IntKind.bits, IntKind.signed]; omega
      have w2 : IntKind.i64.wrap (256 * (X : Int)) = 256 * X := by simp [IntKind.wrap, IntKind.bits, IntKind.signed]; omega
      have w3 : IntKind.i64.wrap (256 * (X : Int) + Y) = 256 * X + Y := by simp [IntKind.wrap, IntKind.bits, IntKind.signed]; omega
      go_enter Try.func25, Try.ntmps25
      go_wp2
      go_quiet (fail)
      go_wp2
      all_goals
        go_ret
        refine ⟨?_, _, rfl⟩
        rw [hE.out]
        split <;> simp <;> omega
end Go.Proofs.Ytgmpcgcmcheelaa
