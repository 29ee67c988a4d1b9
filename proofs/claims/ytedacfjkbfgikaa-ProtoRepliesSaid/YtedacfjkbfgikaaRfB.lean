/- The document's has, wide, texts, short. -/
import Derived.Test.YtedacfjkbfgikaaPrLa
namespace Go.Proofs.Ytedacfjkbfgikaa
open Go.RowKit
set_option linter.unusedVariables false
def hasC (c : UInt8) : LB → Bool
  | [] => false
  | x :: l => x == c || hasC c l
theorem hasC_take (c : UInt8) : ∀ (l : LB) (i : Nat) (h : i < l.length), hasC c (l.take i) = false → hasC c (l.take (i + 1)) = (l.getD i 0 == c)
  | x :: l, 0, h, _ => by simp [hasC]
  | x :: l, i + 1, h, h0 => by
    rw [List.take_succ_cons, hasC, Bool.or_eq_false_iff] at h0
    rw [List.take_succ_cons, hasC, h0.1, Bool.false_or, hasC_take c l i (by simpa using h) h0.2]
    rfl
theorem hasC_mono (c : UInt8) : ∀ (l : LB) (i : Nat), hasC c (l.take i) = true → hasC c l = true
  | [], i, h => by simpa using h
  | x :: l, 0, h => by cases h
  | x :: l, i + 1, h => by
    rw [List.take_succ_cons, hasC, Bool.or_eq_true] at h
    rw [hasC, Bool.or_eq_true]
    exact h.imp id (hasC_mono c l i)
theorem u8_eq (x c : UInt8) : (((x.toNat : Nat) : Int) == (c.toNat : Int)) = (x == c) := by
  by_cases h : x = c
  · rw [h]; simp
  · have h2 : ¬ x.toNat = c.toNat := fun e => h (UInt8.toNat_inj.1 e)
    have h3 : ¬ ((x.toNat : Nat) : Int) = (c.toNat : Int) := by omega
    rw [beq_false_of_ne h, beq_false_of_ne h3]
theorem ix_l (l : LB) (k : Nat) (x : UInt8) (hx : l[k]? = some x) (W : World) : (Instr.index 9 (.string ⟨l.toArray⟩) (.int .i64 (k : Int))).run Try.prog W = .ok (.int .u8 (x.toNat : Int)) W := by
  obtain ⟨h1, h2⟩ := List.getElem?_eq_some_iff.1 hx
  rw [run_index_string (P := Try.prog) W 9 _ .i64 (k : Int) Try.underlying9, dif_pos ⟨by omega, by show (k : Int) < ((l.length : Nat) : Int); omega⟩]
  simp only [Int.toNat_natCast]
  rw [← h2]
  rfl
set_option maxRecDepth 100000 in
set_option maxHeartbeats 4000000 in
theorem has_any (l : LB) (c : UInt8) (w : World) (hl : l.length ≤ 100000) : Calls Try.prog 70 #[.string ⟨l.toArray⟩, .int .u8 (c.toNat : Int)] w fun e w' => e = .returned (.bool (hasC c l)) ∧ w = w' := by
  go_enter Try.func70, Try.ntmps70
  go_wp2_with fail
  go_loop [5] (fun s5 => ∃ i : Nat, i ≤ l.length ∧ s5 = .int .i64 (i : Int) ∧ Hid (hasC c (l.take i) = false)) (fun i => l.length - (intOf i).toNat)
  case atStart => exact ⟨0, Nat.zero_le _, rfl, hide (by simp [hasC])⟩
  case round =>
    obtain ⟨i, hi', rfl, HN⟩ := hrel
    by_cases hlt : i < l.length
    · have hlt1 : (i : Int) < (l.length : Int) := by omega
      have hi0 : (0 : Int) ≤ (i : Int) := by omega
      have v1 : IntKind.i64.wrap ((i : Int) + 1) = (i : Int) + 1 := by simp [IntKind.wrap, IntKind.bits, IntKind.signed]; omega
      have hix := fun W => ix_l l i (l.getD i 0) (by rw [List.getD_eq_getElem?_getD, List.getElem?_eq_getElem hlt]; rfl) W
      have HT := hide (hasC_take c l i hlt HN.out)
      have hcc := u8_eq (l.getD i 0) c
      generalize l.getD i 0 = x at *
      cases hx : (x == c) with
      | true =>
        rw [hx] at HT hcc
        have HY := hide (hasC_mono c l (i + 1) HT.out)
        clear hx
        go_wp2_with fail
        go_ret
        exact ⟨by rw [HY.out]; rfl, rfl⟩
      | false =>
        rw [hx] at HT hcc
        clear hx
        go_wp2_with fail
        go_round
        case rel => exact ⟨i + 1, by omega, by go_num, HT⟩
        case measure => simp [intOf]; omega
    · obtain rfl : i = l.length := by omega
      have hlt1 : ¬ (l.length : Int) < (l.length : Int) := by omega
      rw [List.take_length] at HN
      go_wp2_with fail
      go_ret
      exact ⟨by rw [HN.out]; rfl, rfl⟩
set_option maxHeartbeats 400000 in
theorem rwide_any (n : Int) (w : World) :
    Calls Try.prog 71 #[.int .i64 n] w fun e w' => e = .returned (.bool (wideP n)) ∧ w = w' := by
  have hw : wideP n = (decide (-2147483648 ≤ n) && decide (n < 2147483648)) := by
    unfold wideP
    congr 1
    exact decide_eq_decide.2 (by omega)
  rw [hw]
  by_cases h1 : -2147483648 ≤ n
  · by_cases h2 : n < 2147483648
    · go_enter Try.func71, Try.ntmps71
      go_wp2_with fail
      go_ret
      exact ⟨by first | rfl | (congr 2; simp; omega) | (simp; omega), rfl⟩
    · go_enter Try.func71, Try.ntmps71
      go_wp2_with fail
      go_ret
      exact ⟨by first | rfl | (congr 2; simp; omega) | (simp; omega), rfl⟩
  · go_enter Try.func71, Try.ntmps71
    go_wp2_with fail
    go_ret
    exact ⟨by first | rfl | (congr 2; simp; omega) | (simp; omega), rfl⟩
theorem anyL_take (m : Int) (l : List LB) (i : Nat) (h : i < l.length) (h0 : anyL m (l.take i) = false) : anyL m (l.take (i + 1)) = decide (m < ((l.getD i []).length : Int)) := by
  unfold anyL at h0 ⊢
  rw [List.take_add_one, List.getElem?_eq_getElem h, List.any_append, h0, List.getD_eq_getElem?_getD, List.getElem?_eq_getElem h]
  simp
theorem anyL_mono (m : Int) (l : List LB) (i : Nat) (h : anyL m (l.take i) = true) : anyL m l = true := by
  unfold anyL at h ⊢
  rw [← List.take_append_drop i l, List.any_append, h]
  rfl
def txsP (m : Int) (l : List LB) (most : Int) : Bool := !anyL m l && decide ((l.length : Int) ≤ most)
set_option maxRecDepth 100000 in
set_option maxHeartbeats 4000000 in
theorem rtexts_any (l : List LB) (most : Int) (A : Option Addr) (n c : Nat) (w : World) (hA : Reads w w.heap.size 1 A n (svs l)) (hn : n ≤ 100000) :
    Calls Try.prog 72 #[.slice A n c, .int .i64 most] w fun e w' => e = .returned (.bool (txsP 256 l most)) ∧ w = w' := by
  have HL : Hid (n = l.length) := hide (rd_len hA)
  have HA := hide hA
  clear hA
  unfold txsP
  rw [← HL.out]
  go_enter Try.func72, Try.ntmps72
  go_wp2_with fail
  go_loop [5] (fun s5 => ∃ i : Nat, i ≤ n ∧ s5 = .int .i64 (i : Int) ∧ Hid (anyL 256 (l.take i) = false)) (fun i => n - (intOf i).toNat)
  case atStart => exact ⟨0, Nat.zero_le _, rfl, hide rfl⟩
  case round =>
    obtain ⟨i, hi', rfl, HN⟩ := hrel
    by_cases hlt : i < n
    · have hlt1 : (i : Int) < (n : Int) := by omega
      have hi0 : (0 : Int) ≤ (i : Int) := by omega
      have v1 : IntKind.i64.wrap ((i : Int) + 1) = (i : Int) + 1 := by simp [IntKind.wrap, IntKind.bits, IntKind.signed]; omega
      have hil : i < l.length := by rw [← HL.out]; exact hlt
      obtain ⟨g, o, rfl, hg, hc1⟩ := cells_of HA.out (by omega) (by rw [svs_length]; omega)
      have hcell := hc1 i _ (svs_get l i hil)
      have HT := hide (anyL_take 256 l i hil HN.out)
      rw [show l.getD i [] = l[i] by rw [List.getD_eq_getElem?_getD, List.getElem?_eq_getElem hil]; rfl] at HT
      generalize l[i] = x at *
      unfold sv at hcell
      clear hc1
      by_cases hx : (256 : Int) < (x.length : Int)
      · have HY := hide (anyL_mono 256 l (i + 1) (by rw [HT.out]; simp [hx]))
        go_wp2_with fail
        go_ret
        exact ⟨by rw [HY.out]; rfl, rfl⟩
      · have HF : Hid (anyL 256 (l.take (i + 1)) = false) := hide (by rw [HT.out]; simp [hx])
        go_wp2_with fail
        go_round
        case rel => exact ⟨i + 1, by omega, by go_num, HF⟩
        case measure => simp [intOf]; omega
    · obtain rfl : i = n := by omega
      have hlt1 : ¬ (i : Int) < (i : Int) := by omega
      have HF : Hid (anyL 256 l = false) := hide (by
        have h := HN.out
        rwa [HL.out, List.take_length] at h)
      go_wp2_with fail
      go_ret
      exact ⟨by rw [HF.out]; first | rfl | simp, rfl⟩
set_option maxRecDepth 100000 in
set_option maxHeartbeats 4000000 in
theorem rshort_any (l : List LB) (A : Option Addr) (n c : Nat) (w : World) (hA : Reads w w.heap.size 1 A n (svs l)) (hn : n ≤ 100000) :
    Calls Try.prog 103 #[.slice A n c] w fun e w' => e = .returned (.bool (txsP 32 l 255)) ∧ w = w' := by
  have HL : Hid (n = l.length) := hide (rd_len hA)
  have HA := hide hA
  clear hA
  unfold txsP
  rw [← HL.out]
  go_enter Try.func103, Try.ntmps103
  go_wp2_with fail
  go_loop [3] (fun s5 => ∃ i : Nat, i ≤ n ∧ s5 = .int .i64 (i : Int) ∧ Hid (anyL 32 (l.take i) = false)) (fun i => n - (intOf i).toNat)
  case atStart => exact ⟨0, Nat.zero_le _, rfl, hide rfl⟩
  case round =>
    obtain ⟨i, hi', rfl, HN⟩ := hrel
    by_cases hlt : i < n
    · have hlt1 : (i : Int) < (n : Int) := by omega
      have hi0 : (0 : Int) ≤ (i : Int) := by omega
      have v1 : IntKind.i64.wrap ((i : Int) + 1) = (i : Int) + 1 := by simp [IntKind.wrap, IntKind.bits, IntKind.signed]; omega
      have hil : i < l.length := by rw [← HL.out]; exact hlt
      obtain ⟨g, o, rfl, hg, hc1⟩ := cells_of HA.out (by omega) (by rw [svs_length]; omega)
      have hcell := hc1 i _ (svs_get l i hil)
      have HT := hide (anyL_take 32 l i hil HN.out)
      rw [show l.getD i [] = l[i] by rw [List.getD_eq_getElem?_getD, List.getElem?_eq_getElem hil]; rfl] at HT
      generalize l[i] = x at *
      unfold sv at hcell
      clear hc1
      by_cases hx : (32 : Int) < (x.length : Int)
      · have HY := hide (anyL_mono 32 l (i + 1) (by rw [HT.out]; simp [hx]))
        go_wp2_with fail
        go_ret
        exact ⟨by rw [HY.out]; rfl, rfl⟩
      · have HF : Hid (anyL 32 (l.take (i + 1)) = false) := hide (by rw [HT.out]; simp [hx])
        go_wp2_with fail
        go_round
        case rel => exact ⟨i + 1, by omega, by go_num, HF⟩
        case measure => simp [intOf]; omega
    · obtain rfl : i = n := by omega
      have hlt1 : ¬ (i : Int) < (i : Int) := by omega
      have HF : Hid (anyL 32 l = false) := hide (by
        have h := HN.out
        rwa [HL.out, List.take_length] at h)
      go_wp2_with fail
      go_ret
      exact ⟨by rw [HF.out]; first | rfl | simp, rfl⟩
end Go.Proofs.Ytedacfjkbfgikaa
