/- The document's Same; Encode, Decode and Check at any record (for seats without Line and Word). -/
import Derived.Test.YtbbobffedgcbhaaGreatDoorRecD
namespace Go.Proofs.YtbbobffedgcbhaaGreatDoor
open Go.RowKit
set_option linter.unusedVariables false
def sameP (r s : Rec) : Bool := (r.seq == s.seq) && ((r.op == s.op) && ((r.path == s.path) && ((r.path2 == s.path2) && ((r.allow == s.allow) && (r.dig == s.dig)))))
theorem same_iff (r s : Rec) : sameP r s = true ↔ r = s := by
  obtain ⟨q, op, p, g, d, al⟩ := r
  obtain ⟨q2, op2, p2, g2, d2, al2⟩ := s
  simp only [sameP, Bool.and_eq_true, beq_iff_eq, Rec.mk.injEq]
  exact ⟨fun ⟨a, b, c, d, e, f⟩ => ⟨a, b, c, d, f, e⟩, fun ⟨a, b, c, d, f, e⟩ => ⟨a, b, c, d, e, f⟩⟩
set_option maxRecDepth 100000 in
set_option maxHeartbeats 4000000 in
theorem rsame_any (r s : Rec) (A A2 : Option Addr) (n c n2 c2 : Nat) (w : World) (hr : Rd w A n r.dig) (hs : Rd w A2 n2 s.dig) :
    Calls Tryz.prog 37 #[Rec.v r A n c, Rec.v s A2 n2 c2] w fun e w' => e = .returned (.bool (sameP r s)) ∧ Below w.heap.size w w' := by
  obtain ⟨q, op, p, g, d, al⟩ := r
  obtain ⟨q2, op2, p2, g2, d2, al2⟩ := s
  have hb := (Below.refl w.heap.size w).alloc (Nat.le_refl _) (.cells (Rec.cs ⟨q, op, p, g, d, al⟩ A n c) 28)
  have hb2 := hb.alloc (by simp) (.cells (Rec.cs ⟨q2, op2, p2, g2, d2, al2⟩ A2 n2 c2) 28)
  have HB := hide hb2
  have r1 := run_string_of (P := Tryz.prog) _ _ 22 9 5 A n c d Tryz.underlying22 Tryz.underlying5 Tryz.underlying9 (rb hr hb2)
  have r2 := run_string_of (P := Tryz.prog) _ _ 22 9 5 A2 n2 c2 d2 Tryz.underlying22 Tryz.underlying5 Tryz.underlying9 (rb hs hb2)
  clear hb hb2 hr hs
  unfold Rec.v sameP Rec.cs at *
  dsimp only at *
  cases k0 : (q == q2)
  · simp only [Bool.false_and]
    go_enter Tryz.func37, Tryz.ntmps37
    go_wp2_with fail
    go_ret
    exact ⟨rfl, HB.out⟩
  · 
    cases k1 : (op == op2)
    · simp only [Bool.false_and, Bool.true_and]
      go_enter Tryz.func37, Tryz.ntmps37
      go_wp2_with fail
      go_ret
      exact ⟨rfl, HB.out⟩
    · 
      cases k2 : (p == p2)
      · simp only [Bool.false_and, Bool.true_and]
        go_enter Tryz.func37, Tryz.ntmps37
        go_wp2_with fail
        go_ret
        exact ⟨rfl, HB.out⟩
      · 
        cases k3 : (g == g2)
        · simp only [Bool.false_and, Bool.true_and]
          go_enter Tryz.func37, Tryz.ntmps37
          go_wp2_with fail
          go_ret
          exact ⟨rfl, HB.out⟩
        · 
          cases k4 : (al == al2)
          · simp only [Bool.false_and, Bool.true_and]
            go_enter Tryz.func37, Tryz.ntmps37
            go_wp2_with fail
            go_ret
            exact ⟨rfl, HB.out⟩
          · 
            cases k5 : (d == d2)
            · simp only [Bool.true_and]
              go_enter Tryz.func37, Tryz.ntmps37
              go_wp2_with fail
              go_ret
              exact ⟨rfl, HB.out⟩
            · 
              simp only [Bool.true_and]
              go_enter Tryz.func37, Tryz.ntmps37
              go_wp2_with fail
              go_ret
              exact ⟨rfl, HB.out⟩
theorem dec_some {b : LB} {r : Rec} (h : decP b = some r) (A : Option Addr) (n c : Nat) (w : World) (hR : Rd w A n b) (hnc : n ≤ c) (hn : n ≤ 1000000) (hS : Std w) :
    Calls Tryz.prog 61 #[.slice A n c] w fun e w' => ∃ A' n' c', e = .returned (.tuple #[Rec.v r A' n' c', .int .i64 0]) ∧ Rd w' A' n' r.dig ∧ n' ≤ c' ∧ n' ≤ n ∧ Below w.heap.size w w' ∧ (0 < n' → ∃ ad, A' = some ad ∧ w.heap.size ≤ ad.block) :=
  (dec_any A n c b w hR hnc hn hS).mono fun e w' hE => by rw [h] at hE; exact hE
theorem dec_none {b : LB} (h : decP b = none) (A : Option Addr) (n c : Nat) (w : World) (hR : Rd w A n b) (hnc : n ≤ c) (hn : n ≤ 1000000) (hS : Std w) :
    Calls Tryz.prog 61 #[.slice A n c] w fun e w' => ∃ A' n' c', e = .returned (.tuple #[Rec.v zR A' n' c', .int .i64 5]) ∧ Rd w' A' n' [] ∧ n' ≤ c' ∧ n' ≤ n ∧ Below w.heap.size w w' ∧ (0 < n' → ∃ ad, A' = some ad ∧ w.heap.size ≤ ad.block) :=
  (dec_any A n c b w hR hnc hn hS).mono fun e w' hE => by rw [h] at hE; exact hE
theorem Blk.six {w : World} {g : Nat} {t : TypeId} {a b c d e f : Value} (H : Blk w g t #[a, b, c, d, e, f]) : w.cell? ⟨g, 0, none⟩ = some a ∧ w.cell? ⟨g, 1, none⟩ = some b ∧ w.cell? ⟨g, 2, none⟩ = some c ∧ w.cell? ⟨g, 3, none⟩ = some d ∧ w.cell? ⟨g, 4, none⟩ = some e ∧ w.cell? ⟨g, 5, none⟩ = some f :=
  ⟨H.cell 0, H.cell 1, H.cell 2, H.cell 3, H.cell 4, H.cell 5⟩
theorem enc_ok (r : Rec) (A : Option Addr) (n c : Nat) (hd : r.dig.length = n) (w : World) (hS : Std w) (hR : Rd w A n r.dig) (hV : validP r = true) :
    Calls Tryz.prog 67 #[Rec.v r A n c] w fun e w' => ∃ A' n' c', e = .returned (.tuple #[.slice A' n' c', .int .i64 0]) ∧ Rd w' A' n' (encP r) ∧ n' ≤ c' ∧ n' ≤ 1000 ∧ Below w.heap.size w w' := by
  obtain ⟨⟨h1, h2⟩, hg, hp, hp2, hdl⟩ := valid_parts hV
  have hl := gov_le hg
  obtain ⟨q, op, p, g, d, al⟩ := r
  dsimp only at *
  obtain ⟨m, rfl⟩ : ∃ m : Nat, q = m := ⟨q.toNat, by omega⟩
  obtain ⟨x, rfl⟩ : ∃ x : Nat, op = x := ⟨op.toNat, by omega⟩
  exact enc_yes m x p g d al A n c hd w hS hR (by omega) (by omega) hp hp2 (by omega) hV
theorem enc_bad (r : Rec) (A : Option Addr) (n c : Nat) (hd : r.dig.length = n) (w : World) (hS : Std w) (hV : validP r = false) :
    Calls Tryz.prog 67 #[Rec.v r A n c] w fun e w' => e = .returned (.tuple #[.slice none 0 0, .int .i64 2]) ∧ Below w.heap.size w w' := by
  obtain ⟨q, op, p, g, d, al⟩ := r
  exact enc_no q op p g d al A n c hd w hS hV
theorem chk_any (r : Rec) (A : Option Addr) (n c : Nat) (hd : r.dig.length = n) (w : World) (hS : Std w) :
    Calls Tryz.prog 47 #[Rec.v r A n c] w fun e w' => e = .returned (.bool (validP r)) ∧ Below w.heap.size w w' := by
  obtain ⟨q, op, p, g, d, al⟩ := r
  exact check_any q op p g d al A n c hd w hS
end Go.Proofs.YtbbobffedgcbhaaGreatDoor
