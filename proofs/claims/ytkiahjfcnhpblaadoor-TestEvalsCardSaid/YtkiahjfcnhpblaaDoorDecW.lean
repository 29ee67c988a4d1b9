/- Contracts of num.Dec, num.Parse and the reference's. -/
import Derived.Test.YtkiahjfcnhpblaaDoorBase
import Derived.Test.YtkiahjfcnhpblaaDoorDecP
import Derived.Test.YtkiahjfcnhpblaaDoorShelf
import Derived.Lib.AtoiErrMem
import Derived.Lib.AppendIntMem
import Derived.Lib.LaidTab
import Derived.Lib.AtoiAllCases
namespace Go.Proofs.YtkiahjfcnhpblaaDoor
open Go.RowKit
set_option linter.unusedVariables false

/-- What the library's variables hold: the table of powers, the two errors. -/
structure Std (w : World) : Prop where
  tab : Lib.TabIs Tryd.prog w "internal/strconv.uint64pow10" .u64 Lib.pow10Tab
  syn : ∃ t p, w.cell? ⟨0, 0, none⟩ = some (.iface t p)
  rng : ∃ t p, w.cell? ⟨1, 0, none⟩ = some (.iface t p)
theorem Std.below {w w' : World} (h : Std w) (hb : Below w.heap.size w w') : Std w' := by
  obtain ⟨t0, p0, h0⟩ := h.syn
  obtain ⟨t1, p1, h1⟩ := h.rng
  have l0 := World.block_lt_of_cell? w _ h0
  have l1 := World.block_lt_of_cell? w _ h1
  exact ⟨Lib.tabBelow_of_tabIs h.tab w' hb, ⟨t0, p0, (hb.cell (by exact l0)).trans h0⟩, ⟨t1, p1, (hb.cell (by exact l1)).trans h1⟩⟩

theorem atoi_any (s : ByteArray) (w : World) (hs : s.size ≤ 1000000) (h : Std w) :
    Calls Tryd.prog 36 #[.string s] w fun e w' => Below w.heap.size w w' ∧
      ((∃ v, Lib.atoiAll s.data.toList = .ok v ∧ e = .returned (.tuple #[.int .i64 v, .nilIface])) ∨
       ((∀ v, Lib.atoiAll s.data.toList ≠ .ok v) ∧ ∃ x t p, e = .returned (.tuple #[.int .i64 x, .iface t p]))) := by
  obtain ⟨t0, p0, h0⟩ := h.syn
  obtain ⟨t1, p1, h1⟩ := h.rng
  rcases hA : Lib.atoiAll s.data.toList with v | _ | _
  · refine (Any.strconv_Atoi_ok Tryd.laysC172 s (by omega) v hA w).mono fun e w' ⟨he, hw⟩ => ⟨?_, .inl ⟨v, rfl, he⟩⟩
    rcases hw with rfl | ⟨t, rfl⟩
    · exact Below.refl _ _
    · exact Lib.bytesWorld_below _ _ _
  · refine (Any.strconv_Atoi_syntax Tryd.laysC172 s (by omega) hA _ w h0 (.inr ⟨_, _, rfl⟩)).mono fun e w' ⟨N, he, _, _, hb⟩ => ⟨hb, .inr ⟨fun v hv => (by cases hv), _, _, _, he⟩⟩
  · refine (Any.strconv_Atoi_range Tryd.laysC172 s (by omega) hA _ w h1 (.inr ⟨_, _, rfl⟩)).mono fun e w' ⟨N, he, _, _, hb⟩ => ⟨hb, .inr ⟨fun v hv => (by cases hv), _, _, _, he⟩⟩

theorem itoa_any (n : Int) (w : World) (hn : i64R n) (h : Std w) :
    Calls Tryd.prog 42 #[.int .i64 n] w fun e w' => e = .returned (.string ⟨(Lib.itoa n).toArray⟩) ∧ Below w.heap.size w w' :=
  (Any.strconv_Itoa Tryd.laysM171 n hn.1 hn.2 w h.tab).mono fun e w' ⟨he, k, os, hw⟩ => ⟨he, by rw [hw]; exact Lib.below_grow _ w (Nat.le_refl _) k os⟩

set_option maxHeartbeats 400000 in
theorem dec_any (n : Int) (w : World) (hn : i64R n) (h : Std w) :
    Calls Tryd.prog 37 #[.int .i64 n] w fun e w' => e = .returned (.string ⟨(Lib.itoa n).toArray⟩) ∧ Below w.heap.size w w' := by
  go_enter Tryd.func37, Tryd.ntmps37
  go_wp2_with fail
  refine (itoa_any n _ hn h).mono ?_
  rintro e w1 ⟨rfl, hb⟩
  go_wp2
  go_ret
  exact ⟨rfl, hb⟩

/-- How a text is parsed: it is the numeral of an int, or of none. -/
def ParseEnd (w : World) (s : List UInt8) (e : Ending) (w' : World) : Prop :=
  Below w.heap.size w w' ∧ ((∃ v, i64R v ∧ Lib.itoa v = s ∧ e = .returned (.tuple #[.int .i64 v, .bool true])) ∨
    ((∀ v, i64R v → Lib.itoa v ≠ s) ∧ e = .returned (.tuple #[.int .i64 0, .bool false])))

theorem toList_eq (s : ByteArray) : s.toList = s.data.toList := ByteArray.toList_eq s

set_option maxHeartbeats 400000 in
theorem parse_any (s : ByteArray) (w : World) (hs : s.size ≤ 1000000) (h : Std w) :
    Calls Tryd.prog 23 #[.string s] w (ParseEnd w s.data.toList) := by
  go_enter Tryd.func23, Tryd.ntmps23
  go_wp2_with fail
  refine (atoi_any s _ hs h).mono ?_
  rintro e w1 ⟨hb, ⟨v, hv, rfl⟩ | ⟨hno, x, t, p, rfl⟩⟩
  · have hS := h.below hb
    have hr : i64R v := Lib.atoiAll_bounds hv
    have hall := hide hb
    clear hb
    go_wp2_with fail
    refine (dec_any v _ hr hS).mono ?_
    rintro e w2 ⟨rfl, hb2⟩
    have hb3 := hall.out.trans (hb2.mono hall.out.size)
    go_wp2
    · go_ret2
      rename_i hne
      simp only [Bool.not_eq_true', beq_eq_false_iff_ne, ne_eq, toList_eq] at hne
      refine ⟨hb3, .inr ⟨fun u hu hus => hne ?_, rfl⟩⟩
      have := atoi_itoa u hu
      rw [hus, hv] at this
      injection this with this
      rw [this, hus]
    · go_ret2
      rename_i heq
      simp only [Bool.not_eq_false', beq_iff_eq, toList_eq] at heq
      exact ⟨hb3, .inl ⟨v, hr, heq, rfl⟩⟩
  · go_wp2_with fail
    go_ret2
    refine ⟨hb, .inr ⟨fun u hu hus => ?_, rfl⟩⟩
    have := atoi_itoa u hu
    rw [hus] at this
    exact hno u this

theorem dig_cons (j : Nat) (h : j < 10) (l : List UInt8) : ({ data := #[48, 49, 50, 51, 52, 53, 54, 55, 56, 57] } : ByteArray).extract j (j + 1) ++ ⟨l.toArray⟩ = ⟨(UInt8.ofNat (48 + j) :: l).toArray⟩ := by
  have hh : ∀ j : Fin 10, ({ data := #[48, 49, 50, 51, 52, 53, 54, 55, 56, 57] } : ByteArray).extract j.val (j.val + 1) = ⟨[UInt8.ofNat (48 + j.val)].toArray⟩ := by decide
  rw [hh ⟨j, h⟩, ByteArray.mk_append_mk]
  rfl
theorem rdec_more (n : Int) (X : Nat) (l : List UInt8) (h : Lib.decDigits n.natAbs = Lib.decDigits X ++ l) (h10 : ¬ X / 10 = 0) : Lib.decDigits n.natAbs = Lib.decDigits (X / 10) ++ (UInt8.ofNat (48 + X % 10) :: l) := by
  rw [h, dec_big (by omega)]
  simp
theorem rdec_end (n : Int) (X : Nat) (l : List UInt8) (h : Lib.decDigits n.natAbs = Lib.decDigits X ++ l) (h10 : X / 10 = 0) : Lib.decDigits n.natAbs = UInt8.ofNat (48 + X % 10) :: l := by
  rw [h, dec_small (by omega), show X % 10 = X from by omega]
  rfl
theorem rdec_pos (n : Int) (h : 0 ≤ n) (l : List UInt8) (hl : Lib.decDigits n.natAbs = l) : (⟨l.toArray⟩ : ByteArray) = ⟨(Lib.itoa n).toArray⟩ := by
  rcases itoa_shape n with ⟨h', e⟩ | ⟨_, e⟩
  · omega
  · rw [e, hl]
theorem rdec_neg (n : Int) (h : n < 0) (l : List UInt8) (hl : Lib.decDigits n.natAbs = l) : ({ data := #[45] } : ByteArray) ++ (⟨l.toArray⟩ : ByteArray) = ⟨(Lib.itoa n).toArray⟩ := by
  rcases itoa_shape n with ⟨h', e⟩ | ⟨_, e⟩
  · rw [e, hl]
    exact ByteArray.mk_append_mk [45] l
  · omega
set_option maxHeartbeats 400000 in
theorem rdec_any (n : Int) (w : World) (hn : i64R n) :
    Calls Tryd.prog 38 #[.int .i64 n] w fun e w' => e = .returned (.string ⟨(Lib.itoa n).toArray⟩) ∧ w = w' := by
  unfold i64R at hn
  go_enter Tryd.func38, Tryd.ntmps38
  go_wp2
  go_loop [3, 4, 5] (fun s low _ => ∃ (x : Int) (l : List UInt8), -9223372036854775808 ≤ x ∧ x ≤ 9223372036854775807 ∧ low = .int .i64 x ∧ s = .string ⟨l.toArray⟩ ∧ Hid (Lib.decDigits n.natAbs = Lib.decDigits x.natAbs ++ l)) (fun _ low _ => (intOf low).natAbs)
  case atStart => exact ⟨n, [], hn.1, hn.2, rfl, rfl, hide (by simp)⟩
  case round =>
    obtain ⟨x, l, hx1, hx2, rfl, rfl, hd⟩ := hrel
    obtain ⟨X, hX⟩ : ∃ X : Nat, x = X ∨ (x = -(X : Int) ∧ 1 ≤ X) := by
      rcases Int.lt_or_le x 0 with h | h
      · exact ⟨x.natAbs, .inr ⟨by omega, by omega⟩⟩
      · exact ⟨x.natAbs, .inl (by omega)⟩
    have hm : X % 10 < 10 := by omega
    have HD : Hid (Lib.decDigits n.natAbs = Lib.decDigits X ++ l) := hide (by
      have := hd.out
      rwa [show x.natAbs = X from by omega] at this)
    clear hd
    have hl : l.length ≤ 100 := by
      have h1 := congrArg List.length HD.out
      have h2 := dec_len n.natAbs 18 (by omega)
      rw [List.length_append] at h1
      omega
    rcases hX with rfl | ⟨rfl, hX1⟩
    · by_cases hq : X / 10 = 0
      · have hqb : ((X : Int) / 10 == 0) = true := beq_iff_eq.2 (by omega)
        go_wp2
        · go_ret
          refine ⟨ret_str ?_, rfl⟩
          rw [dig_cons _ hm]
          exact rdec_neg n (by assumption) _ (rdec_end n X l HD.out hq)
        · go_ret
          refine ⟨ret_str ?_, rfl⟩
          rw [dig_cons _ hm]
          exact rdec_pos n (by assumption) _ (rdec_end n X l HD.out hq)
      · have hqb : ((X : Int) / 10 == 0) = false := beq_eq_false_iff_ne.2 (by omega)
        go_wp2
        go_round
        case rel => exact ⟨_, UInt8.ofNat (48 + X % 10) :: l, by omega, by omega, rfl, by rw [dig_cons _ hm], hide (by have := rdec_more n X l HD.out hq; rw [show ((X : Int) / 10).natAbs = X / 10 from by omega]; exact this)⟩
        case measure => simp [intOf]; omega
    · have ht : (-(X : Int)).tmod 10 = -((X : Int) % 10) := by rw [Int.neg_tmod, Int.tmod_eq_emod_of_nonneg (by omega)]
      have htq : (-(X : Int)).tdiv 10 = -((X : Int) / 10) := by rw [Int.neg_tdiv, Int.tdiv_eq_ediv_of_nonneg (by omega)]
      by_cases hz : X % 10 = 0
      · by_cases hq : X / 10 = 0
        · omega
        · have hqb : (-((X : Int) / 10) == 0) = false := beq_eq_false_iff_ne.2 (by omega)
          have hneg : ¬ -((X : Int) % 10) < 0 := by omega
          go_wp2
          go_round
          case rel => exact ⟨_, UInt8.ofNat (48 + X % 10) :: l, by omega, by omega, rfl, by rw [show (-((X : Int) % 10)).toNat = X % 10 from by omega, show (-((X : Int) % 10) + 1).toNat = X % 10 + 1 from by omega, dig_cons _ hm], hide (by have := rdec_more n X l HD.out hq; rw [show (-((X : Int) / 10)).natAbs = X / 10 from by omega]; exact this)⟩
          case measure => simp [intOf]; omega
      · by_cases hq : X / 10 = 0
        · have hqb : (-((X : Int) / 10) == 0) = true := beq_iff_eq.2 (by omega)
          have hneg : -((X : Int) % 10) < 0 := by omega
          go_wp2
          · go_ret
            refine ⟨ret_str ?_, rfl⟩
            rw [dig_cons _ hm]
            exact rdec_neg n (by assumption) _ (rdec_end n X l HD.out hq)
          · go_ret
            refine ⟨ret_str ?_, rfl⟩
            rw [dig_cons _ hm]
            exact rdec_pos n (by assumption) _ (rdec_end n X l HD.out hq)
        · have hqb : (-((X : Int) / 10) == 0) = false := beq_eq_false_iff_ne.2 (by omega)
          have hneg : -((X : Int) % 10) < 0 := by omega
          go_wp2
          go_round
          case rel => exact ⟨_, UInt8.ofNat (48 + X % 10) :: l, by omega, by omega, rfl, by rw [dig_cons _ hm], hide (by have := rdec_more n X l HD.out hq; rw [show (-((X : Int) / 10)).natAbs = X / 10 from by omega]; exact this)⟩
          case measure => simp [intOf]; omega
end Go.Proofs.YtkiahjfcnhpblaaDoor
