/- The contract of the reference's Parse. -/
import Derived.Test.YtkiahjfcnhpblaaDoorDecW
namespace Go.Proofs.YtkiahjfcnhpblaaDoor
open Go.RowKit
set_option linter.unusedVariables false

/-- A text that is no int's numeral. -/
def numNo (s : ByteArray) : Prop := ∀ v, i64R v → Lib.itoa v ≠ s.data.toList
theorem wrap64_R (x : Int) : i64R (wrap64 x) := by unfold i64R wrap64; omega
theorem numNo_eq {s : ByteArray} (h : numNo s) (x : Int) : (Lib.itoa (wrap64 x) == s.toList) = false := by
  rw [beq_eq_false_iff_ne, toList_eq]
  exact h _ (wrap64_R x)

-- a text that is no int's numeral: whatever the digits come to, the last test fails
set_option maxHeartbeats 1000000 in
theorem rparse_no (s : ByteArray) (w : World) (hs : s.size ≤ 1000000) (h : numNo s) :
    Calls Tryd.prog 24 #[.string s] w fun e w' => e = .returned (.tuple #[.int .i64 0, .bool false]) ∧ w = w' := by
  have H := hide h
  clear h
  by_cases h0 : 0 < s.size
  · by_cases hm : (s[0].toNat : Int) = 45
    · have hmb : ((s[0].toNat : Int) == 45) = true := beq_iff_eq.2 hm
      clear hm
      by_cases h2 : s.size < 2
      · have hx : ((s.size : Int) - 1 < 1) := by omega
        go_enter Tryd.func24, Tryd.ntmps24
        go_wp2
        go_ret2
        exact ⟨rfl, rfl⟩
      · by_cases h20 : 20 < s.size
        · have hx : ¬ ((s.size : Int) - 1 < 1) := by omega
          go_enter Tryd.func24, Tryd.ntmps24
          go_wp2
          go_ret2
          exact ⟨rfl, rfl⟩
        · have hx : ¬ ((s.size : Int) - 1 < 1) := by omega
          go_enter Tryd.func24, Tryd.ntmps24
          go_wp2
          go_loop [6, 7] (fun nn i => ∃ k m : Nat, 1 ≤ k ∧ k ≤ s.size ∧ i = .int .i64 k ∧ nn = .int .u64 m ∧ m ≤ 11529215046068469769) (fun _ i => s.size - (intOf i).toNat)
          case atStart => exact ⟨1, 0, by omega, by omega, rfl, rfl, by omega⟩
          case round =>
            obtain ⟨k, m, hk1, hk2, rfl, rfl, hmm⟩ := hrel
            by_cases hlt : k < s.size
            · have hc := s[k].toNat_lt
              go_wp2
              all_goals first
                | (go_ret2; exact ⟨rfl, rfl⟩)
                | (go_round
                   case rel => exact ⟨k + 1, 10 * m + (s[k].toNat - 48), by omega, by omega, by go_num, by go_num, by omega⟩
                   case measure => simp [intOf]; omega)
            · have hne := numNo_eq H.out (-wrap64 (m : Int))
              go_wp2_with fail
              refine (rdec_any _ _ (wrap64_R _)).mono ?_
              rintro e w1 ⟨rfl, rfl⟩
              go_wp2
              go_ret2
              exact ⟨rfl, rfl⟩
    · have hmb : ((s[0].toNat : Int) == 45) = false := beq_eq_false_iff_ne.2 hm
      clear hm
      by_cases h20 : 20 < s.size
      · have hx : ¬ ((s.size : Int) < 1) := by omega
        go_enter Tryd.func24, Tryd.ntmps24
        go_wp2
        go_ret2
        exact ⟨rfl, rfl⟩
      · have hx : ¬ ((s.size : Int) < 1) := by omega
        go_enter Tryd.func24, Tryd.ntmps24
        go_wp2
        go_loop [6, 7] (fun nn i => ∃ k m : Nat, 0 ≤ k ∧ k ≤ s.size ∧ i = .int .i64 k ∧ nn = .int .u64 m ∧ m ≤ 11529215046068469769) (fun _ i => s.size - (intOf i).toNat)
        case atStart => exact ⟨0, 0, by omega, by omega, rfl, rfl, by omega⟩
        case round =>
          obtain ⟨k, m, hk1, hk2, rfl, rfl, hmm⟩ := hrel
          by_cases hlt : k < s.size
          · have hc := s[k].toNat_lt
            go_wp2
            all_goals first
              | (go_ret2; exact ⟨rfl, rfl⟩)
              | (go_round
                 case rel => exact ⟨k + 1, 10 * m + (s[k].toNat - 48), by omega, by omega, by go_num, by go_num, by omega⟩
                 case measure => simp [intOf]; omega)
          · have hne := numNo_eq H.out ((m : Int))
            go_wp2_with fail
            refine (rdec_any _ _ (wrap64_R _)).mono ?_
            rintro e w1 ⟨rfl, rfl⟩
            go_wp2
            go_ret2
            exact ⟨rfl, rfl⟩
  · go_enter Tryd.func24, Tryd.ntmps24
    go_wp2
    go_ret2
    exact ⟨rfl, rfl⟩

/-- The digits of a numeral, from place 'at' on. -/
structure Numeral (s : ByteArray) (at_ : Nat) (u : Nat) : Prop where
  size : s.size ≤ 20
  some_ : at_ < s.size
  digs : s.data.toList.drop at_ = Lib.decDigits u
  small : u ≤ 9223372036854775808
theorem Numeral.dg {s : ByteArray} {a u : Nat} (h : Numeral s a u) (k : Nat) (h1 : a ≤ k) (h2 : k < s.size) : 48 ≤ s[k].toNat ∧ s[k].toNat ≤ 57 := by
  have hm : s[k] ∈ Lib.decDigits u := by
    rw [← h.digs]
    refine List.mem_drop_iff_getElem.2 ⟨k - a, ?_, ?_⟩
    · rw [Array.length_toList]; show k - a + a < s.size; omega
    · rw [← bt_get s k h2]
      have : k - a + a = k := by omega
      simp only [Nat.add_comm a, this]
      rw [List.getD_eq_getElem?_getD, List.getElem?_eq_getElem (by rw [Array.length_toList]; exact h2)]
      rfl
  exact dec_dg u _ hm
/-- What the first k - a digits come to. -/
def upTo (s : ByteArray) (a k : Nat) : Nat := val 0 ((s.data.toList.drop a).take (k - a))
theorem Numeral.step {s : ByteArray} {a u : Nat} (h : Numeral s a u) (k : Nat) (h1 : a ≤ k) (h2 : k < s.size) : upTo s a (k + 1) = 10 * upTo s a k + (s[k].toNat - 48) ∧ upTo s a k ≤ 922337203685477580 := by
  have hl : k - a < (s.data.toList.drop a).length := by rw [List.length_drop, Array.length_toList]; show k - a < s.size - a; omega
  have hg : (s.data.toList.drop a)[k - a] = s[k] := by
    rw [List.getElem_drop, ← bt_get s k h2]
    have : a + (k - a) = k := by omega
    simp only [this]
    rw [List.getD_eq_getElem?_getD, List.getElem?_eq_getElem (by rw [Array.length_toList]; exact h2)]
    rfl
  constructor
  · unfold upTo
    rw [show k + 1 - a = k - a + 1 from by omega, val_take_succ _ _ hl, hg]
    omega
  · have := val_take_lt (s.data.toList.drop a) (k - a) hl
    unfold upTo
    rw [h.digs, dec_val] at this
    have := h.small
    rw [h.digs]
    omega
theorem Numeral.all {s : ByteArray} {a u : Nat} (h : Numeral s a u) : upTo s a s.size = u := by
  unfold upTo
  rw [List.take_of_length_le (by rw [List.length_drop, Array.length_toList]; exact Nat.le_refl _), h.digs, dec_val]
theorem upTo_start (s : ByteArray) (a : Nat) : upTo s a a = 0 := by unfold upTo; rw [Nat.sub_self, List.take_zero, val_nil]

theorem get_first (s : ByteArray) (c : UInt8) (r : List UInt8) (h : s.data.toList = c :: r) (h0 : 0 < s.size) : s[0] = c := by
  rw [← bt_get s 0 h0, h]; rfl
theorem size_of_list (s : ByteArray) (l : List UInt8) (h : s.data.toList = l) : s.size = l.length := by rw [← h, Array.length_toList]; rfl
set_option maxHeartbeats 1000000 in
theorem rparse_yes (s : ByteArray) (w : World) (v : Int) (hv : i64R v) (h : Lib.itoa v = s.data.toList) :
    Calls Tryd.prog 24 #[.string s] w fun e w' => e = .returned (.tuple #[.int .i64 v, .bool true]) ∧ w = w' := by
  have hlen := itoa_len v hv
  rw [h, ← size_of_list s _ rfl] at hlen
  have H := hide h
  have hR := hide hv
  unfold i64R at hv
  rcases itoa_shape v with ⟨hs, e⟩ | ⟨hs, e⟩
  · rw [h] at e
    have hz := size_of_list s _ e
    have hd := dec_ne v.natAbs
    have hN : Hid (Numeral s 1 v.natAbs) := hide ⟨hlen, by have := List.length_pos_iff.2 hd; rw [hz]; rw [List.length_cons]; omega, by rw [e]; rfl, by omega⟩
    have h2 : 1 < s.size := hN.out.some_
    have h0 : 0 < s.size := by clear hz; omega
    have hmb : (((s[0]'h0).toNat : Int) == 45) = true := by rw [get_first s _ _ e h0]; rfl
    have hx : ¬ ((s.size : Int) - 1 < 1) := by omega
    clear hd hz e h
    go_enter Tryd.func24, Tryd.ntmps24
    go_wp2
    go_loop [6, 7] (fun nn i => ∃ k m : Nat, 1 ≤ k ∧ k ≤ s.size ∧ i = .int .i64 k ∧ nn = .int .u64 m ∧ Hid (m = upTo s 1 k)) (fun _ i => s.size - (intOf i).toNat)
    case atStart => exact ⟨1, 0, by omega, by omega, rfl, rfl, hide (upTo_start s 1).symm⟩
    case round =>
      obtain ⟨k, m, hk1, hk2, rfl, rfl, hmm⟩ := hrel
      by_cases hlt : k < s.size
      · have hc := hN.out.dg k hk1 hlt
        obtain ⟨q1, q2⟩ := hN.out.step k hk1 hlt
        rw [← hmm.out] at q1 q2
        have Q1 := hide q1
        clear q1
        obtain ⟨hc1, hc2⟩ := hc
        go_wp2
        go_round
        case rel => exact ⟨k + 1, 10 * m + (s[k].toNat - 48), by omega, by omega, by go_num, by go_num, hide Q1.out.symm⟩
        case measure => simp [intOf]; omega
      · obtain rfl : k = s.size := by omega
        have hm := hmm.out
        rw [hN.out.all] at hm
        have hf : wrap64 (-wrap64 (m : Int)) = v := by unfold wrap64; omega
        have heq : (Lib.itoa v == s.toList) = true := by rw [beq_iff_eq, toList_eq]; exact H.out
        have hmle : m ≤ 9223372036854775808 := by omega
        clear hm
        go_wp2_with fail
        refine (rdec_any _ _ hR.out).mono ?_
        rintro e w1 ⟨rfl, rfl⟩
        go_wp2
        go_ret2
        exact ⟨rfl, rfl⟩
  · rw [h] at e
    have hz := size_of_list s _ e
    have hd := dec_ne v.natAbs
    have hN : Hid (Numeral s 0 v.natAbs) := hide ⟨hlen, by have := List.length_pos_iff.2 hd; rw [hz];  omega, by rw [e]; rfl, by omega⟩
    have h2 : 0 < s.size := hN.out.some_
    have hd0 := hN.out.dg 0 (by omega) h2
    have hmb : ((s[0].toNat : Int) == 45) = false := beq_eq_false_iff_ne.2 (by omega)
    have hx : ¬ ((s.size : Int) < 1) := by omega
    clear hd hz e h hd0
    go_enter Tryd.func24, Tryd.ntmps24
    go_wp2
    go_loop [6, 7] (fun nn i => ∃ k m : Nat, 0 ≤ k ∧ k ≤ s.size ∧ i = .int .i64 k ∧ nn = .int .u64 m ∧ Hid (m = upTo s 0 k)) (fun _ i => s.size - (intOf i).toNat)
    case atStart => exact ⟨0, 0, by omega, by omega, rfl, rfl, hide (upTo_start s 0).symm⟩
    case round =>
      obtain ⟨k, m, hk1, hk2, rfl, rfl, hmm⟩ := hrel
      by_cases hlt : k < s.size
      · have hc := hN.out.dg k hk1 hlt
        obtain ⟨q1, q2⟩ := hN.out.step k hk1 hlt
        rw [← hmm.out] at q1 q2
        have Q1 := hide q1
        clear q1
        obtain ⟨hc1, hc2⟩ := hc
        go_wp2
        go_round
        case rel => exact ⟨k + 1, 10 * m + (s[k].toNat - 48), by omega, by omega, by go_num, by go_num, hide Q1.out.symm⟩
        case measure => simp [intOf]; omega
      · obtain rfl : k = s.size := by omega
        have hm := hmm.out
        rw [hN.out.all] at hm
        have hf : (m : Int) = v := by omega
        have heq : (Lib.itoa v == s.toList) = true := by rw [beq_iff_eq, toList_eq]; exact H.out
        have hmle : (m : Int) ≤ 9223372036854775807 := by omega
        have HF := hide hf
        clear hm hf
        go_wp2_with fail
        rw [HF.out]
        refine (rdec_any _ _ hR.out).mono ?_
        rintro e w1 ⟨rfl, rfl⟩
        go_wp2
        go_ret2
        exact ⟨rfl, rfl⟩

theorem rparse_any (s : ByteArray) (w : World) (hs : s.size ≤ 1000000) :
    Calls Tryd.prog 24 #[.string s] w (ParseEnd w s.data.toList) := by
  by_cases h : ∃ v, i64R v ∧ Lib.itoa v = s.data.toList
  · obtain ⟨v, hv, h⟩ := h
    exact (rparse_yes s w v hv h).mono fun e w' ⟨he, hw⟩ => ⟨hw ▸ Below.refl _ _, .inl ⟨v, hv, h, he⟩⟩
  · have hno : numNo s := fun v hv he => h ⟨v, hv, he⟩
    exact (rparse_no s w hs hno).mono fun e w' ⟨he, hw⟩ => ⟨hw ▸ Below.refl _ _, .inr ⟨hno, he⟩⟩
end Go.Proofs.YtkiahjfcnhpblaaDoor
