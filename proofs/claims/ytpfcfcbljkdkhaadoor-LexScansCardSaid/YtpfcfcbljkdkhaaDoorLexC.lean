/- Contracts of lex.line, pair, operator, number: the walks. -/
import Derived.Test.YtpfcfcbljkdkhaaDoorLexB
import Derived.Deep.QuietTactic
namespace Go.Proofs.YtpfcfcbljkdkhaaDoor
open Go.RowKit
set_option linter.unusedVariables false
theorem ixb_lt (l : LB) (c : UInt8) : Lib.indexByte l c < l.length := by
  induction l with
  | nil => simp [Lib.indexByte]
  | cons x t ih =>
    unfold Lib.indexByte
    split
    · simp
    · split
      · simp; omega
      · simp; omega
set_option maxRecDepth 100000 in
set_option maxHeartbeats 2000000 in
theorem cut_l (l : LB) (w : World) (hl : l.length ≤ 100000) : Calls Tryd.prog 47 #[.string ⟨l.toArray⟩, .string ⟨#[10]⟩] w fun e w' => (∃ r f, e = .returned (.tuple #[.string ⟨(lineP l).toArray⟩, .string r, .bool f])) ∧ ∃ m, w' = w.drewN m := by
  have hlt := ixb_lt l 10
  have hline := line_ix l
  have H0 := fun W => (Any.stringslite_Index_one Tryd.lays219 ⟨l.toArray⟩ 10 W)
  obtain ⟨z, hz⟩ : ∃ z, Lib.indexByte l 10 = z := ⟨_, rfl⟩
  have H1 : Hid (∀ W, Calls Tryd.prog 49 #[.string ⟨l.toArray⟩, .string ⟨#[10]⟩] W fun e w' => e = .returned (.int .i64 z) ∧ W = w') := hide fun W => (H0 W).mono fun e w' h => ⟨by rw [h.1, ← hz], h.2.symm⟩
  rw [hz] at hlt hline
  have HL := hide hline
  clear hline hz H0
  by_cases h0 : z < 0
  · have HL2 : Hid (lineP l = l) := hide (by rw [HL.out, if_pos h0])
    clear HL
    go_enter Tryd.func47, Tryd.ntmps47
    go_wp2_with fail
    refine (H1.out _).mono ?_
    rintro e w1 ⟨rfl, rfl⟩
    have hge : ¬ (0 : Int) ≤ z := by omega
    go_wp2_with fail
    go_ret3
    exact ⟨⟨⟨#[]⟩, false, by rw [HL2.out]; rfl⟩, 0, rfl⟩
  · obtain ⟨k, rfl⟩ : ∃ k : Nat, z = (k : Int) := ⟨z.toNat, by omega⟩
    have HL2 : Hid (lineP l = l.take k) := hide (by rw [HL.out, if_neg h0]; rfl)
    have hs1 := sl_two l 0 k 0 k rfl rfl (by omega) (by omega)
    clear HL
    have hge : (0 : Int) ≤ (k : Int) := by omega
    have hk1 : (k : Int) ≤ (l.length : Int) := by omega
    have hw1 : IntKind.i64.wrap ((k : Int) + 1) = (k : Int) + 1 := by simp [IntKind.wrap, IntKind.bits, IntKind.signed]; omega
    have hk2 : (0 : Int) ≤ (k : Int) + 1 := by omega
    have hk3 : (k : Int) + 1 ≤ (l.length : Int) := by omega
    go_enter Tryd.func47, Tryd.ntmps47
    go_wp2_with fail
    refine (H1.out _).mono ?_
    rintro e w1 ⟨rfl, rfl⟩
    go_wp2_with fail
    go_quiet (fail)
    go_wp2_with fail
    go_ret3
    rw [ext_two]
    exact ⟨⟨(⟨l.toArray⟩ : ByteArray).extract (k + 1) l.length, true, by rw [HL2.out]; simp⟩, _, rfl⟩
set_option maxRecDepth 100000 in
set_option maxHeartbeats 2000000 in
theorem line_q (l : LB) (w : World) (hl : l.length ≤ 100000) : Calls Tryd.prog 31 #[.string ⟨l.toArray⟩] w fun e w' => e = .returned (.string ⟨(lineP l).toArray⟩) ∧ ∃ m, w' = w.drewN m := by
  have H1 := hide (fun W => cut_l l W hl)
  have H2 : Hid (∀ W : World, Calls Tryd.prog 42 #[.string ⟨l.toArray⟩, .string ⟨#[10]⟩] W fun e w' => (∃ r f, e = .returned (.tuple #[.string ⟨(lineP l).toArray⟩, .string r, .bool f])) ∧ ∃ m, w' = W.drewN m) := hide fun W => by
    go_enter Tryd.func42, Tryd.ntmps42
    go_wp2_with fail
    refine (H1.out _).mono ?_
    rintro e w1 ⟨⟨r, f, rfl⟩, m, rfl⟩
    go_wp2_with fail
    go_ret3
    exact ⟨⟨_, _, rfl⟩, _, rfl⟩
  clear H1
  go_enter Tryd.func31, Tryd.ntmps31
  go_wp2_with fail
  refine (H2.out _).mono ?_
  rintro e w1 ⟨⟨r, f, rfl⟩, m, rfl⟩
  go_wp2_with fail
  go_ret
  exact ⟨rfl, _, rfl⟩
theorem line_any (l : LB) (w : World) (hl : l.length ≤ 100000) : Calls Tryd.prog 31 #[.string ⟨l.toArray⟩] w fun e w' => e = .returned (.string ⟨(lineP l).toArray⟩) ∧ Below w.heap.size w w' :=
  (line_q l w hl).mono fun e w' ⟨h, m, hm⟩ => ⟨h, by subst hm; exact ⟨rfl, rfl, rfl, Nat.le_refl _, fun _ _ => rfl⟩⟩
/-- The operators of two bytes at their places. -/
def pairL : List LB := [[38, 38], [124, 124], [59, 59], [62, 62], [60, 60], [60, 38], [62, 38]]
def Std (w : World) : Prop := ∀ k (h : k < 7), w.cell? ⟨0, k, none⟩ = some (.string ⟨(pairL[k]'h).toArray⟩)
theorem Std.below {w w' : World} (h : Std w) (hb : Below w.heap.size w w') : Std w' := fun k hk => (hb.cell (p := ⟨0, k, none⟩) (World.block_lt_of_cell? w ⟨0, k, none⟩ (h k hk))).trans (h k hk)
theorem pre_two (c d : UInt8) (l : LB) (h1 : c ≠ 0) (h2 : d ≠ 0) : Lib.hasPrefix l [c, d] = (l.getD 0 0 == c && l.getD 1 0 == d) := by
  unfold Lib.hasPrefix
  match l with
  | [] => simp [List.isPrefixOf, Ne.symm h1]
  | [x] =>
    have : ((0 : UInt8) == d) = false := beq_eq_false_iff_ne.2 (Ne.symm h2)
    simp [List.isPrefixOf, this]
  | x :: y :: t =>
    simp only [List.isPrefixOf, List.getD_cons_zero, List.getD_cons_succ, Bool.and_true]
    rw [Bool.eq_iff_iff]
    simp only [Bool.and_eq_true, beq_iff_eq]
    exact ⟨fun h => ⟨h.1.symm, h.2.symm⟩, fun h => ⟨h.1.symm, h.2.symm⟩⟩
theorem pair_eq (l : LB) : pairP (l.getD 0 0) (l.getD 1 0) = pairL.any (fun q => Lib.hasPrefix l q) := by
  unfold pairL pairP
  simp only [List.any_cons, List.any_nil, Bool.or_false]
  rw [pre_two 38 38 l (by decide) (by decide), pre_two 124 124 l (by decide) (by decide), pre_two 59 59 l (by decide) (by decide), pre_two 62 62 l (by decide) (by decide), pre_two 60 60 l (by decide) (by decide), pre_two 60 38 l (by decide) (by decide), pre_two 62 38 l (by decide) (by decide)]
  simp only [Bool.or_assoc]
theorem pair_no {l : LB} {k : Nat} (h : ∀ j (hj : j < 7), j < k → Lib.hasPrefix l (pairL[j]'hj) = false) (hk : 7 ≤ k) : pairL.any (fun q => Lib.hasPrefix l q) = false := by
  rw [List.any_eq_false]
  intro q hq
  obtain ⟨j, hj, rfl⟩ := List.getElem_of_mem hq
  have : pairL.length = 7 := rfl
  intro hh
  exact Bool.noConfusion (hh.symm.trans (h j (by omega) (by omega)))
theorem pair_yes {l : LB} {k : Nat} (hk : k < 7) (h : Lib.hasPrefix l (pairL[k]'hk) = true) : pairL.any (fun q => Lib.hasPrefix l q) = true :=
  List.any_eq_true.2 ⟨pairL[k]'hk, List.getElem_mem _, h⟩
end Go.Proofs.YtpfcfcbljkdkhaaDoor
