/- The contract of slices.Concat at two rows of bytes. -/
import Derived.Test.YtgmpcgcmcheelaaGrowW
namespace Go.Proofs.Ytgmpcgcmcheelaa
open Go.RowKit
set_option linter.unusedVariables false

set_option maxHeartbeats 2000000 in
theorem concat_any (g : Nat) (A : Option Addr) (n c : Nat) (B : Option Addr) (m k : Nat) (a b : Bs) (w : World) (hg : Blk w g 22 #[.slice A n c, .slice B m k]) (ha : Rd w A n a) (hb : Rd w B m b) (hn : n ≤ 100000) (hm : m ≤ 100000) :
    Calls Try.prog 21 #[.slice (some ⟨g, 0, none⟩) 2 2] w fun e w' => ∃ v, e = .returned v ∧ w'.ownsRow w.heap.size 5 1 v (n + m) (bv (a ++ b)) ∧ Below w.heap.size w w' := by
  obtain ⟨i0, hi, hz0, hz1, hz2⟩ := info_parts infoU8
  have hlt := hg.lt
  have pick : ∀ q, q < 2 → ∃ X nx cx l, w.cell? ⟨g, q, none⟩ = some (.slice X nx cx) ∧ Rd w X nx l ∧ nx ≤ 100000 ∧ (q = 0 → nx = n ∧ l = a) ∧ (q = 1 → nx = m ∧ l = b) := by
    intro q hq
    rcases (by omega : q = 0 ∨ q = 1) with rfl | rfl
    · exact ⟨A, n, c, a, hg.cell 0, ha, hn, fun _ => ⟨rfl, rfl⟩, fun h => absurd h (by omega)⟩
    · exact ⟨B, m, k, b, hg.cell 1, hb, hm, fun h => absurd h (by omega), fun _ => ⟨rfl, rfl⟩⟩
  have PK := hide pick
  have HGr := hide (fun S (hS : S ≤ 1000000) => grow_any S w hS)
  clear hg ha hb pick
  go_enter Try.func21, Try.ntmps21
  go_wp2
  go_loop [3, 11] (fun s i => ∃ q S : Nat, q ≤ 2 ∧ i = .int .i64 q ∧ s = .int .i64 S ∧ S ≤ 200000 ∧ (q = 0 → S = 0) ∧ (q = 1 → S = n) ∧ (q = 2 → S = n + m)) (fun _ i => 2 - (intOf i).toNat)
  case atStart => exact ⟨0, 0, by omega, rfl, rfl, by omega, fun _ => rfl, fun h => absurd h (by omega), fun h => absurd h (by omega)⟩
  case round =>
    obtain ⟨q, S, hq, rfl, rfl, hS, e0, e1, e2⟩ := hrel
    by_cases hlq : q < 2
    · obtain ⟨X, nx, cx, l, hcell, hr, hnx, p0, p1⟩ := PK.out q hlq
      have HR := hide hr
      clear hr e2
      have E : Hid ((q + 1 = 1 → S + nx = n) ∧ (q + 1 = 2 → S + nx = n + m)) := hide ⟨fun h => by rw [e0 (by omega), (p0 (by omega)).1]; omega, fun h => by rw [e1 (by omega), (p1 (by omega)).1]⟩
      have hS2 : S + nx ≤ 200000 := by
        rcases (by omega : q = 0 ∨ q = 1) with h | h
        · have := E.out.1 (by omega); omega
        · have := E.out.2 (by omega); omega
      clear e0 e1 p0 p1
      go_wp2
      go_round
      case rel => exact ⟨q + 1, S + nx, by omega, by go_num, by go_num, hS2, fun h => absurd h (by omega), E.out.1, E.out.2⟩
      case measure => simp [intOf]; omega
    · have HS : Hid (S = n + m) := hide (e2 (by omega))
      clear e0 e1 e2
      go_wp2_with fail
      refine (HGr.out S (by omega)).mono ?_
      rintro e w1 ⟨v, rfl, ho, hb1⟩
      obtain ⟨A1, c1, rfl⟩ := own_slice ho
      have HO := hide ho
      have HB1 := hide hb1
      clear ho hb1
      go_wp2
      go_loopw [6, 27] (fun v i wr => ∃ (q : Nat) (A' : Option Addr) (n' c' : Nat) (l' : Bs), q ≤ 2 ∧ i = .int .i64 q ∧ v = .slice A' n' c' ∧ wr.ownsRow w.heap.size 5 1 (.slice A' n' c') n' (bv l') ∧ n' ≤ 200000 ∧ Below w.heap.size w wr ∧ (q = 0 → n' = 0 ∧ l' = []) ∧ (q = 1 → n' = n ∧ l' = a) ∧ (q = 2 → n' = n + m ∧ l' = a ++ b)) (fun _ i _ => 2 - (intOf i).toNat)
      case atStart => exact ⟨0, A1, 0, c1, [], by omega, rfl, rfl, HO.out, by omega, HB1.out, fun _ => ⟨rfl, rfl⟩, fun h => absurd h (by omega), fun h => absurd h (by omega)⟩
      case round =>
        obtain ⟨q, A', n', c', l', hq, rfl, rfl, ho, hn', hb', e0, e1, e2⟩ := hrel
        by_cases hlq : q < 2
        · obtain ⟨X, nx, cx, l, hcell0, hr, hnx, p0, p1⟩ := PK.out q hlq
          have hcell : wr.cell? ⟨g, q, none⟩ = some (.slice X nx cx) := (hb'.cell (p := ⟨g, q, none⟩) hlt).trans hcell0
          have hr2 := (Reads.below hr hb').more hb'.size
          have E : Hid ((q + 1 = 1 → n' + nx = n ∧ l' ++ l = a) ∧ (q + 1 = 2 → n' + nx = n + m ∧ l' ++ l = a ++ b)) := hide ⟨fun h => by
              obtain ⟨a1, a2⟩ := e0 (by omega); obtain ⟨b1, b2⟩ := p0 (by omega); rw [a1, a2, b1, b2]; exact ⟨by omega, rfl⟩, fun h => by
              obtain ⟨a1, a2⟩ := e1 (by omega); obtain ⟨b1, b2⟩ := p1 (by omega); rw [a1, a2, b1, b2]; exact ⟨rfl, rfl⟩⟩
          have hS2 : n' + nx ≤ 200000 := by
            rcases (by omega : q = 0 ∨ q = 1) with h | h
            · have := (E.out.1 (by omega)).1; omega
            · have := (E.out.2 (by omega)).1; omega
          have HBx := hide hb'
          have HOx := hide ho
          clear e0 e1 e2 p0 p1 hcell0 hr hb'
          have hsz := HBx.out.size
          go_wp2_with (at_builtin; (refine wpList_append_any _ rfl (.tmp 31) (.tmp 32) 22 rfl w.heap.size 5 i0 _ 1 1 Try.underlying22 hi hz0 hz1 hz2 rfl (by omega) (.slice A' n' c') n' (bv l') rfl ho wr.heap.size X nx cx (bv l) rfl hr2 (bv_one _) ?c1 ?c2 ?c3 ?_))
          case c1 => unfold maxLen; omega
          case c2 => omega
          case c3 => omega
          intro v1 w2 hown1 hg1 hat1
          obtain ⟨A2, c2, rfl⟩ := own_slice hown1
          rw [← bv_append] at hown1
          have HB2 := hide (Below.grown (h := HBx.out) (hg := hg1) (by omega) (fun g hg => (World.ownsRow.lt HOx.out g hg).1))
          have HO2 := hide hown1
          clear hown1 hg1 hat1 hr2 ho hcell
          go_wp2
          go_roundw
          case rel => exact ⟨q + 1, A2, n' + nx, c2, l' ++ l, by omega, by go_num, rfl, HO2.out, hS2, HB2.out, fun h => absurd h (by omega), E.out.1, E.out.2⟩
          case measure => simp [intOf]; omega
        · have HX : Hid (n' = n + m ∧ l' = a ++ b) := hide (e2 (by omega))
          clear e0 e1 e2
          go_wp2
          go_ret
          obtain ⟨rfl, rfl⟩ := HX.out
          exact ⟨_, rfl, ho, hb'⟩
end Go.Proofs.Ytgmpcgcmcheelaa
