/- The contract of the reference's Toks and bad. -/
import Derived.Test.YtpfcfcbljkdkhaaDoorRefO
namespace Go.Proofs.YtpfcfcbljkdkhaaDoor
open Go.RowKit
set_option linter.unusedVariables false
set_option maxRecDepth 1000000 in
set_option maxHeartbeats 8000000 in
theorem toks_any (w : World) {B1 B2 : Nat} {A1 A2 : Option Addr} {n1 c1 n2 c2 : Nat} {ts : List T} (h1 : To B1 w A1 n1 c1 ts) (h2 : To B2 w A2 n2 c2 ts) (hb1 : n1 ≤ 100000) : Calls Tryd.prog 13 #[.slice A1 n1 c1, .slice A2 n2 c2] w fun e w' => e = .returned (.bool true) ∧ Below w.heap.size w w' := by
  obtain rfl : n1 = n2 := by rw [← h1.len, ← h2.len]
  have HN := hide h1.len
  have HT0 := hide h1
  have HU0 := hide h2
  clear h1 h2
  have kz : ((n1 : Int) != (n1 : Int)) = false := by simp
  obtain ⟨b, hb⟩ : ∃ b, w.heap.size = b := ⟨_, rfl⟩
  have HBE := hide hb
  have HB0 : Hid (Below b w w) := hide (Below.refl _ _)
  clear hb
  go_enter Tryd.func13, Tryd.ntmps13
  go_wp2_with fail
  go_loopw [5] (fun u5 wx => ∃ i : Nat, u5 = .int .i64 i ∧ i ≤ n1 ∧ Hid (To B1 wx A1 n1 c1 ts) ∧ Hid (To B2 wx A2 n1 c2 ts) ∧ Hid (Below b w wx)) (fun u5 _ => n1 - (intOf u5).toNat)
  case atStart => exact ⟨0, rfl, Nat.zero_le _, HT0, HU0, HB0⟩
  case round =>
    clear HT0 HU0 HB0
    obtain ⟨i, rfl, hin, HT, HU, HB⟩ := hrel
    by_cases hlt : i < n1
    · have hk : (i : Int) < (n1 : Int) := by omega
      have hi1 : i < ts.length := by rw [HN.out]; exact hlt
      obtain ⟨g1, hg1, _⟩ := To.addr (s := ⟨0, ts, [], 0⟩) HT.out (by omega)
      subst hg1
      obtain ⟨g2, hg2, _⟩ := To.addr (s := ⟨0, ts, [], 0⟩) HU.out (by omega)
      subst hg2
      have q0 := To.cell HT.out hi1 0 (by omega)
      have q1 := To.cell HT.out hi1 1 (by omega)
      have q2 := To.cell HT.out hi1 2 (by omega)
      have q3 := To.cell HT.out hi1 3 (by omega)
      have q4 := To.cell HT.out hi1 4 (by omega)
      have r0 := To.cell HU.out hi1 0 (by omega)
      have r1 := To.cell HU.out hi1 1 (by omega)
      have r2 := To.cell HU.out hi1 2 (by omega)
      have r3 := To.cell HU.out hi1 3 (by omega)
      have r4 := To.cell HU.out hi1 4 (by omega)
      generalize ts[i] = t at *
      obtain ⟨tk, tx, ta, td, tq⟩ := t
      dsimp only [tokV, sv] at q0 q1 q2 q3 q4 r0 r1 r2 r3 r4
      simp only [List.getElem?_cons_zero, List.getElem?_cons_succ, Nat.add_zero] at q0 q1 q2 q3 q4 r0 r1 r2 r3 r4
      have hia : ∀ W, (Instr.indexAt 23 (.slice (some ⟨g1, 0, none⟩) n1 c1) (.int .i64 (i : Int))).run Tryd.prog W = .ok (.pointer (some ⟨g1, i * 5, none⟩)) W := fun W => tok_at g1 n1 c1 i (i : Int) rfl hlt W
      have hib : ∀ W, (Instr.indexAt 23 (.slice (some ⟨g2, 0, none⟩) n1 c2) (.int .i64 (i : Int))).run Tryd.prog W = .ok (.pointer (some ⟨g2, i * 5, none⟩)) W := fun W => tok_at g2 n1 c2 i (i : Int) rfl hlt W
      go_wp2_with fail
      go_quiet (fail)
      go_wp2_with fail
      go_roundw
      case rel => exact ⟨i + 1, by go_num, by omega, hide (HT.out.below ⟨rfl, rfl, rfl, Nat.le_refl _, fun _ _ => rfl⟩), hide (HU.out.below ⟨rfl, rfl, rfl, Nat.le_refl _, fun _ _ => rfl⟩), hide (belowN _ HB.out)⟩
      case measure => simp [intOf]; omega
    · have hk : ¬ (i : Int) < (n1 : Int) := by omega
      go_wp2_with fail
      go_ret
      exact ⟨rfl, by rw [HBE.out]; exact HB.out⟩
set_option maxHeartbeats 8000000 in
theorem bad_any (w : World) (e a : Nat) (he : e ≤ 100) (ha : a ≤ 1000000) : Calls Tryd.prog 19 #[.int .i64 (e : Int), .int .i64 (a : Int)] w fun en w' => en = .returned (.tuple #[.slice none 0 0, .agg #[.int .i64 (e : Int), .int .i64 (a : Int)]]) ∧ Below w.heap.size w w' := by
  go_enter Tryd.func19, Tryd.ntmps19
  go_wp2_with fail
  refine bodyPost_ret (v := .tuple #[.slice none 0 0, .agg #[.int .i64 (e : Int), .int .i64 (a : Int)]]) (by simp only [results, Tryd.results19]; go_simp) rfl ?_
  exact ⟨rfl, (Below.refl _ _).alloc (Nat.le_refl _) _⟩
end Go.Proofs.YtpfcfcbljkdkhaaDoor
