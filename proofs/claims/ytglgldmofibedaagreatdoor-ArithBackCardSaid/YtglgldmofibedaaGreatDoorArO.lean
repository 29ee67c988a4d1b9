/- The document's Dec, Texts; few. -/
import Derived.Test.YtglgldmofibedaaGreatDoorArN
namespace Go.Proofs.YtglgldmofibedaaGreatDoor
open Go.RowKit
set_option linter.unusedVariables false
theorem bl_drewN {B : Nat} {a w : World} (h : Below B a w) (n : Nat) : Below B a (w.drewN n) := ⟨h.os, h.tape, h.output, h.size, h.block⟩
theorem dig_cons (j : Nat) (h : j < 10) (l : List UInt8) : ({ data := #[48, 49, 50, 51, 52, 53, 54, 55, 56, 57] } : ByteArray).extract j (j + 1) ++ ⟨l.toArray⟩ = ⟨(UInt8.ofNat (48 + j) :: l).toArray⟩ := by
  have hh : ∀ j : Fin 10, ({ data := #[48, 49, 50, 51, 52, 53, 54, 55, 56, 57] } : ByteArray).extract j.val (j.val + 1) = ⟨[UInt8.ofNat (48 + j.val)].toArray⟩ := by decide
  rw [hh ⟨j, h⟩, ByteArray.mk_append_mk]
  rfl
theorem rdec_more (n : Int) (X : Nat) (l : List UInt8) (h : Lib.decDigits n.natAbs = Lib.decDigits X ++ l) (h10 : ¬ X / 10 = 0) : Lib.decDigits n.natAbs = Lib.decDigits (X / 10) ++ (UInt8.ofNat (48 + X % 10) :: l) := by
  rw [h, dec_big (by omega)]
  simp
theorem rdec_end (n : Int) (X : Nat) (l : List UInt8) (h : Lib.decDigits n.natAbs = Lib.decDigits X ++ l) (h10 : X / 10 = 0) : Lib.decDigits n.natAbs = UInt8.ofNat (48 + X % 10) :: l := by
  rw [h, dec_small (by omega), show X % 10 = X from by omega]
  rfl
theorem rdec_pos (n : Int) (h : 0 ≤ n) (l : List UInt8) (hl : Lib.decDigits n.natAbs = l) : (⟨l.toArray⟩ : ByteArray) = ⟨(Lib.itoa n).toArray⟩ := by
  rcases itoa_shape n with ⟨h', e⟩ | ⟨_, e⟩
  · omega
  · rw [e, hl]
theorem rdec_neg (n : Int) (h : n < 0) (l : List UInt8) (hl : Lib.decDigits n.natAbs = l) : ({ data := #[45] } : ByteArray) ++ (⟨l.toArray⟩ : ByteArray) = ⟨(Lib.itoa n).toArray⟩ := by
  rcases itoa_shape n with ⟨h', e⟩ | ⟨_, e⟩
  · rw [e, hl]
    exact ByteArray.mk_append_mk [45] l
  · omega
set_option maxHeartbeats 400000 in
theorem rdec_any (n : Int) (w : World) (hn : i64R n) :
    Calls Tryz.prog 11 #[.int .i64 n] w fun e w' => e = .returned (.string ⟨(Lib.itoa n).toArray⟩) ∧ w = w' := by
  unfold i64R at hn
  go_enter Tryz.func11, Tryz.ntmps11
  go_wp2
  go_loop [3, 4, 5] (fun s low _ => ∃ (x : Int) (l : List UInt8), -9223372036854775808 ≤ x ∧ x ≤ 9223372036854775807 ∧ low = .int .i64 x ∧ s = .string ⟨l.toArray⟩ ∧ Hid (Lib.decDigits n.natAbs = Lib.decDigits x.natAbs ++ l)) (fun _ low _ => (intOf low).natAbs)
  case atStart => exact ⟨n, [], hn.1, hn.2, rfl, rfl, hide (by simp)⟩
  case round =>
    obtain ⟨x, l, hx1, hx2, rfl, rfl, hd⟩ := hrel
    obtain ⟨X, hX⟩ : ∃ X : Nat, x = X ∨ (x = -(X : Int) ∧ 1 ≤ X) := by
      rcases Int.lt_or_le x 0 with h | h
      · exact ⟨x.natAbs, .inr ⟨by omega, by omega⟩⟩
      · exact ⟨x.natAbs, .inl (by omega)⟩
    have hm : X % 10 < 10 := by omega
    have HD : Hid (Lib.decDigits n.natAbs = Lib.decDigits X ++ l) := hide (by
      have := hd.out
      rwa [show x.natAbs = X from by omega] at this)
    clear hd
    have hl : l.length ≤ 100 := by
      have h1 := congrArg List.length HD.out
      have h2 := dec_len n.natAbs 18 (by omega)
      rw [List.length_append] at h1
      omega
    rcases hX with rfl | ⟨rfl, hX1⟩
    · by_cases hq : X / 10 = 0
      · have hqb : ((X : Int) / 10 == 0) = true := beq_iff_eq.2 (by omega)
        go_wp2
        · go_ret
          refine ⟨ret_str ?_, rfl⟩
          rw [dig_cons _ hm]
          exact rdec_neg n (by assumption) _ (rdec_end n X l HD.out hq)
        · go_ret
          refine ⟨ret_str ?_, rfl⟩
          rw [dig_cons _ hm]
          exact rdec_pos n (by assumption) _ (rdec_end n X l HD.out hq)
      · have hqb : ((X : Int) / 10 == 0) = false := beq_eq_false_iff_ne.2 (by omega)
        go_wp2
        go_round
        case rel => exact ⟨_, UInt8.ofNat (48 + X % 10) :: l, by omega, by omega, rfl, by rw [dig_cons _ hm], hide (by have := rdec_more n X l HD.out hq; rw [show ((X : Int) / 10).natAbs = X / 10 from by omega]; exact this)⟩
        case measure => simp [intOf]; omega
    · have ht : (-(X : Int)).tmod 10 = -((X : Int) % 10) := by rw [Int.neg_tmod, Int.tmod_eq_emod_of_nonneg (by omega)]
      have htq : (-(X : Int)).tdiv 10 = -((X : Int) / 10) := by rw [Int.neg_tdiv, Int.tdiv_eq_ediv_of_nonneg (by omega)]
      by_cases hz : X % 10 = 0
      · by_cases hq : X / 10 = 0
        · omega
        · have hqb : (-((X : Int) / 10) == 0) = false := beq_eq_false_iff_ne.2 (by omega)
          have hneg : ¬ -((X : Int) % 10) < 0 := by omega
          go_wp2
          go_round
          case rel => exact ⟨_, UInt8.ofNat (48 + X % 10) :: l, by omega, by omega, rfl, by rw [show (-((X : Int) % 10)).toNat = X % 10 from by omega, show (-((X : Int) % 10) + 1).toNat = X % 10 + 1 from by omega, dig_cons _ hm], hide (by have := rdec_more n X l HD.out hq; rw [show (-((X : Int) / 10)).natAbs = X / 10 from by omega]; exact this)⟩
          case measure => simp [intOf]; omega
      · by_cases hq : X / 10 = 0
        · have hqb : (-((X : Int) / 10) == 0) = true := beq_iff_eq.2 (by omega)
          have hneg : -((X : Int) % 10) < 0 := by omega
          go_wp2
          · go_ret
            refine ⟨ret_str ?_, rfl⟩
            rw [dig_cons _ hm]
            exact rdec_neg n (by assumption) _ (rdec_end n X l HD.out hq)
          · go_ret
            refine ⟨ret_str ?_, rfl⟩
            rw [dig_cons _ hm]
            exact rdec_pos n (by assumption) _ (rdec_end n X l HD.out hq)
        · have hqb : (-((X : Int) / 10) == 0) = false := beq_eq_false_iff_ne.2 (by omega)
          have hneg : -((X : Int) % 10) < 0 := by omega
          go_wp2
          go_round
          case rel => exact ⟨_, UInt8.ofNat (48 + X % 10) :: l, by omega, by omega, rfl, by rw [dig_cons _ hm], hide (by have := rdec_more n X l HD.out hq; rw [show (-((X : Int) / 10)).natAbs = X / 10 from by omega]; exact this)⟩
          case measure => simp [intOf]; omega

set_option maxHeartbeats 1000000 in
theorem texts_eq (ks : List Tok) (A B : Option Addr) (n c m d : Nat) (w : World) (hA : Reads w w.heap.size 1 A n (svs ks)) (hB : Reads w w.heap.size 1 B m (svs ks)) (hn : n ≤ 1000000) :
    Calls Tryz.prog 15 #[.slice A n c, .slice B m d] w fun e w' => e = .returned (.bool true) ∧ Below w.heap.size w w' := by
  obtain rfl := rd_len hA
  obtain rfl := rd_len hB
  have HA := hide hA
  have HB := hide hB
  clear hA hB
  go_enter Tryz.func15, Tryz.ntmps15
  go_wp2_with fail
  go_loopw [5] (fun u5 wx => ∃ (k : Nat), k ≤ ks.length ∧ u5 = .int .i64 k ∧ Hid (Below w.heap.size w wx)) (fun i _ => ks.length - (intOf i).toNat)
  case atStart => exact ⟨0, Nat.zero_le _, rfl, hide (Below.refl _ _)⟩
  case round =>
    obtain ⟨k, hkl, rfl, HW⟩ := hrel
    by_cases hlt : k < ks.length
    · obtain ⟨g, o, rfl, hg, hc1⟩ := rd_cells (HA.out.below HW.out) (by omega)
      obtain ⟨g2, o2, rfl, hg2, hc2⟩ := rd_cells (HB.out.below HW.out) (by omega)
      have hcell := hc1 k hlt
      have hcell2 := hc2 k hlt
      have hia := fun W => str_at g o ks.length c k (k : Int) rfl hlt W
      have hib := fun W => str_at g2 o2 ks.length d k (k : Int) rfl hlt W
      generalize ks[k] = x at *
      have hi1 : (k : Int) < (ks.length : Int) := by omega
      have hi0 : (0 : Int) ≤ (k : Int) := by omega
      have hx : (x != x) = false := by simp
      clear hc1 hc2
      go_wp2_with fail
      go_quiet (fail)
      go_wp2_with fail
      go_roundw
      case rel => exact ⟨k + 1, by omega, by simp, hide (bl_drewN HW.out _)⟩
      case measure => simp [intOf]; omega
    · obtain rfl : k = ks.length := by omega
      go_wp2_with fail
      go_ret
      exact ⟨rfl, HW.out⟩
/-- Are settings few? -/
def fewB (V : List Tok) : Bool := decide (V.length ≤ 60) && V.all fun v => decide (v.length ≤ 600)
theorem fewB_yes {V : List Tok} (h : fewB V = true) : V.length ≤ 60 ∧ ∀ v ∈ V, v.length ≤ 600 := by
  unfold fewB at h
  simp only [Bool.and_eq_true, decide_eq_true_eq, List.all_eq_true] at h
  exact h
set_option maxRecDepth 100000 in
set_option maxHeartbeats 1000000 in
theorem few_any (V : List Tok) (A : Option Addr) (n c : Nat) (w : World) (hA : Reads w w.heap.size 1 A n (svs V)) (hn : n ≤ 1000000000) :
    Calls Tryz.prog 13 #[.slice A n c] w fun e w' => e = .returned (.bool (fewB V)) ∧ w = w' := by
  have hl := rd_len hA
  have HA := hide hA
  have HL := hide hl
  clear hA
  by_cases h60 : n ≤ 60
  · have HF : Hid (fewB V = (V.drop 0).all fun v => decide (v.length ≤ 600)) := hide (by unfold fewB; rw [decide_eq_true (by omega)]; rfl)
    have h60' : (n : Int) ≤ 60 := by omega
    clear hl
    go_enter Tryz.func13, Tryz.ntmps13
    go_wp2_with fail
    go_loopw [3] (fun u3 wx => ∃ k : Nat, k ≤ n ∧ u3 = .int .i64 (k : Int) ∧ wx = w ∧ Hid (fewB V = (V.drop k).all fun v => decide (v.length ≤ 600))) (fun u3 _ => n - (intOf u3).toNat)
    case atStart => exact ⟨0, Nat.zero_le _, rfl, rfl, HF⟩
    case round =>
      clear HF
      obtain ⟨k, hk, rfl, rfl, HN⟩ := hrel
      by_cases hlt : k < n
      · obtain ⟨g, o, rfl, hg, hc⟩ := rd_cells HA.out (by omega)
        have hkl : k < V.length := by have := HL.out; omega
        have hck := hc k hkl
        have hia := fun W => str_at g o n c k (k : Int) rfl hlt W
        have hlt' : (k : Int) < (n : Int) := by omega
        have HN1 : Hid (fewB V = (decide (V[k].length ≤ 600) && (V.drop (k + 1)).all fun v => decide (v.length ≤ 600))) := hide (by rw [HN.out, List.drop_eq_getElem_cons hkl]; rfl)
        clear HN hc
        generalize V[k] = x at *
        by_cases h6 : x.length ≤ 600
        · have h6' : ¬ (600 : Int) < (x.length : Int) := by omega
          have HN2 : Hid (fewB V = (V.drop (k + 1)).all fun v => decide (v.length ≤ 600)) := hide (by rw [HN1.out, decide_eq_true h6]; rfl)
          clear HN1 h6
          go_wp2_with fail
          go_roundw
          case rel => exact ⟨k + 1, by omega, by go_num, by first | rfl | trivial, HN2⟩
          case measure => simp [intOf]; omega
        · have h6' : (600 : Int) < (x.length : Int) := by omega
          have HN2 : Hid (fewB V = false) := hide (by rw [HN1.out, decide_eq_false h6]; rfl)
          clear HN1 h6
          go_wp2_with fail
          go_ret
          exact ⟨by rw [HN2.out]; rfl, by first | rfl | trivial⟩
      · have hlt' : ¬ (k : Int) < (n : Int) := by omega
        have HE : Hid (fewB V = true) := hide (by rw [HN.out, List.drop_of_length_le (by have := HL.out; omega)]; rfl)
        clear HN
        go_wp2_with fail
        go_ret
        exact ⟨by rw [HE.out]; rfl, by first | rfl | trivial⟩
  · have HF : Hid (fewB V = false) := hide (by unfold fewB; rw [decide_eq_false (by omega)]; rfl)
    have h60' : ¬ (n : Int) ≤ 60 := by omega
    have h0 : (0 : Int) < (n : Int) := by omega
    clear hl
    go_enter Tryz.func13, Tryz.ntmps13
    go_wp2_with fail
    refine wp_loop_rounds 1 ?_
    rw [rounds_succ]
    go_wp2_with fail
    go_ret
    exact ⟨ret_b rfl (by rw [HF.out]; exact decide_eq_false (by omega)), rfl⟩
end Go.Proofs.YtglgldmofibedaaGreatDoor
