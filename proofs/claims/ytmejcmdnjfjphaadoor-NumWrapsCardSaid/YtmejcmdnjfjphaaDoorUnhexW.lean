/- Contracts of num.Unhex and the reference's. -/
import Derived.Test.YtmejcmdnjfjphaaDoorHexW
import Derived.WalkSmall
namespace Go.Proofs.YtmejcmdnjfjphaaDoor
open Go.RowKit
set_option linter.unusedVariables false

/-- Byte i of a text, as a digit. -/
def da (l : List UInt8) (i : Nat) : Int := dgt (l.getD i 0).toNat
def okAt (l : List UInt8) (k : Nat) : Bool := decide (0 ≤ da l (2 * k)) && decide (0 ≤ da l (2 * k + 1))
def unh (l : List UInt8) (k : Nat) : List UInt8 := (List.range k).map fun i => UInt8.ofNat (16 * da l (2 * i) + da l (2 * i + 1)).toNat
def unhexS (l : List UInt8) : Option (List UInt8) := if l.length % 2 = 0 ∧ (List.range (l.length / 2)).all (okAt l) then some (unh l (l.length / 2)) else none
theorem unh_succ (l : List UInt8) (k : Nat) : unh l (k + 1) = unh l k ++ [UInt8.ofNat (16 * da l (2 * k) + da l (2 * k + 1)).toNat] := by simp [unh, List.range_succ]
theorem unh_length (l : List UInt8) (k : Nat) : (unh l k).length = k := by simp [unh]
theorem unhexS_bad (l : List UInt8) (k : Nat) (hk : k < l.length / 2) (h : okAt l k = false) : unhexS l = none := by
  unfold unhexS
  rw [if_neg]
  rintro ⟨_, ha⟩
  have := List.all_eq_true.1 ha k (by simpa using hk)
  rw [h] at this
  cases this
theorem unhexS_good (l : List UInt8) (h2 : l.length % 2 = 0) (h : ∀ i, i < l.length / 2 → okAt l i = true) : unhexS l = some (unh l (l.length / 2)) := by
  unfold unhexS
  rw [if_pos ⟨h2, List.all_eq_true.2 fun i hi => h i (by simpa using hi)⟩]

theorem or_shift4 (x y : Int) (h0 : 0 ≤ x) (h1 : x ≤ 15) (h2 : 0 ≤ y) (h3 : y ≤ 15) : bits .or .i64 (x * 16) y = x * 16 + y := by
  obtain ⟨a, rfl⟩ := Int.eq_ofNat_of_zero_le h0
  obtain ⟨b, rfl⟩ := Int.eq_ofNat_of_zero_le h2
  have := i64_or_nat (a * 16) b (by omega) (by omega)
  rw [nat_join 4 (a * 16) b (by omega) (by omega)] at this
  simpa using this
theorem unh_stepV (l : List UInt8) (m k : Nat) (h : k < m) (x y : Int) (hx : da l (2 * k) = x) (hy : da l (2 * k + 1) = y) (h0 : 0 ≤ x) (h1 : x ≤ 15) (h2 : 0 ≤ y) (h3 : y ≤ 15) :
    ((bv (unh l k ++ List.replicate (m - k) 0)).toArray.setIfInBounds k (.int .u8 (x * 16 + y))) = (bv (unh l (k + 1) ++ List.replicate (m - (k + 1)) 0)).toArray := by
  obtain ⟨d, rfl⟩ : ∃ d, m = k + 1 + d := ⟨m - (k + 1), by omega⟩
  rw [show k + 1 + d - k = d + 1 from by omega, show k + 1 + d - (k + 1) = d from by omega, unh_succ, hx, hy]
  have hv : Value.int .u8 (x * 16 + y) = .int .u8 ((UInt8.ofNat (16 * x + y).toNat).toNat : Int) := by
    congr 1
    simp
    omega
  rw [hv]
  have e : (unh l k ++ List.replicate (d + 1) 0).set k (UInt8.ofNat (16 * x + y).toNat) = unh l k ++ [UInt8.ofNat (16 * x + y).toNat] ++ List.replicate d 0 := by
    rw [List.set_append_right _ _ (by simp [unh_length])]
    simp [unh_length, List.replicate_succ]
  rw [← e]
  simp [bv, List.map_set]

/-- What the two functions hand back: no slice, or the bytes. -/
def UnhexEnd (w : World) (s : List UInt8) (e : Ending) (w' : World) : Prop :=
  (unhexS s = none ∧ e = .returned (.tuple #[.slice none 0 0, .bool false]) ∧ Below w.heap.size w w') ∨
  ∃ bs A n c, unhexS s = some bs ∧ e = .returned (.tuple #[.slice A n c, .bool true]) ∧ Rd w' A n bs ∧ Below w.heap.size w w'

set_option maxHeartbeats 400000 in
theorem unhex_odd (s : ByteArray) (w : World) (h : s.size % 2 = 1) (hs : s.size ≤ 1000000) :
    Calls Tryd.prog 16 #[.string s] w fun e w' => e = .returned (.tuple #[.slice none 0 0, .bool false]) ∧ w = w' := by
  go_enter Tryd.func16, Tryd.ntmps16
  go_wp2
  go_ret2
  exact ⟨rfl, rfl⟩
set_option maxHeartbeats 400000 in
theorem unhex_even (s : ByteArray) (w : World) (h : s.size % 2 = 0) (hs : s.size ≤ 1000000) :
    Calls Tryd.prog 16 #[.string s] w (UnhexEnd w s.data.toList) := by
  obtain ⟨i0, hi, hz0, hz1, hz2⟩ := info_parts info5
  obtain ⟨m, hm⟩ : ∃ m, s.size = 2 * m := ⟨s.size / 2, by omega⟩
  have hM := hide hm
  have hm1 : s.size ≤ 2 * m := by omega
  have hm2 : 2 * m ≤ s.size := by omega
  have hmk := fun W => run_make_rowN (P := Tryd.prog) 23 5 i0 _ Tryd.underlying23 hi hz0 .i64 .i64 m m (Nat.le_refl _) (by rw [hz2]; omega) (by omega) W
  rw [hz1, Nat.mul_one] at hmk
  have hq : (s.size : Int) / 2 = (m : Int) := by omega
  have hq2 : (s.size : Int) % 2 = 0 := by omega
  clear h hm
  go_enter Tryd.func16, Tryd.ntmps16
  go_wp2
  have hblk := Blk.new w 5 (madeCells #[Value.int .u8 0] m)
  have hbel := (Below.refl w.heap.size w).alloc (Nat.le_refl _) (.cells (madeCells #[Value.int .u8 0] m) 5)
  go_loopw [5, 6, 7, 18] (fun _ _ _ i wr => ∃ k : Nat, k ≤ m ∧ i = .int .i64 k ∧ Blk wr w.heap.size 5 (bv (unh s.data.toList k ++ List.replicate (m - k) 0)).toArray ∧ Below w.heap.size w wr ∧ w.heap.size < wr.heap.size ∧ Hid (∀ i, i < k → okAt s.data.toList i = true)) (fun _ _ _ i _ => m - (intOf i).toNat)
  case atStart =>
    refine ⟨0, by omega, rfl, ?_, hbel, by simp, hide fun i hi => by omega⟩
    have e0 : (bv (unh s.data.toList 0 ++ List.replicate (m - 0) 0)).toArray = madeCells #[Value.int .u8 0] m := by
      have := made_bytes m
      rw [Nat.mul_one] at this
      apply Array.ext'
      simp only [unh, List.range_zero, List.map_nil, List.nil_append, Nat.sub_zero]
      exact this.symm
    rw [e0]
    exact hblk
  case round =>
    obtain ⟨k, hk, rfl, hb, hbw, hlt0, hok⟩ := hrel
    clear hmk hblk hbel
    by_cases hlt : k < m
    · have k1 : 2 * k < s.size := by omega
      have k2 : 2 * k + 1 < s.size := by omega
      have d1 := dgt_le (s[2 * k].toNat : Int)
      have d2 := dgt_le (s[2 * k + 1].toNat : Int)
      have hd1 := hide (show da s.data.toList (2 * k) = dgt (s[2 * k].toNat : Int) from by unfold da; rw [bt_get s _ k1])
      have hd2 := hide (show da s.data.toList (2 * k + 1) = dgt (s[2 * k + 1].toNat : Int) from by unfold da; rw [bt_get s _ k2])
      have b1 : (2 * (k : Int)) < (s.size : Int) := by omega
      have b2 : (2 * (k : Int) + 1) < (s.size : Int) := by omega
      have b3 : 0 ≤ 2 * (k : Int) := by omega
      have b4 : 0 ≤ 2 * (k : Int) + 1 := by omega
      have q1 : IntKind.i64.wrap (2 * (k : Int)) = 2 * (k : Int) := IntWalk.i64_in _ (by omega)
      have q2 : IntKind.i64.wrap (2 * (k : Int) + 1) = 2 * (k : Int) + 1 := IntWalk.i64_in _ (by omega)
      have q3 : (2 * (k : Int)).toNat = 2 * k := by omega
      have q4 : (2 * (k : Int) + 1).toNat = 2 * k + 1 := by omega
      go_wp2
      go_quiet ((go_at_call 25; exact quiet_left (digit_any _ _)))
      generalize dgt (s[2 * k].toNat : Int) = x at *
      generalize dgt (s[2 * k + 1].toNat : Int) = y at *
      by_cases hx : x < 0
      · go_wp2
        go_ret2
        refine .inl ⟨unhexS_bad _ k (by rw [Array.length_toList]; show k < s.size / 2; omega) ?_, rfl, below_drewN hbw _⟩
        unfold okAt
        rw [hd1.out, decide_eq_false (by omega)]
        rfl
      · by_cases hy : y < 0
        · go_wp2
          go_ret2
          refine .inl ⟨unhexS_bad _ k (by rw [Array.length_toList]; show k < s.size / 2; omega) ?_, rfl, below_drewN hbw _⟩
          unfold okAt
          rw [hd2.out, decide_eq_false (show ¬ 0 ≤ y by omega), Bool.and_false]
        · have hor := or_shift4 x y (by omega) d1.2 (by omega) d2.2
          have hz := hb.frozen k
          have hcl : k < (bv (unh s.data.toList k ++ List.replicate (m - k) 0)).toArray.size := by simp [bv, unh_length]; omega
          have hc := hb.cell k
          rw [Array.getElem?_eq_getElem hcl] at hc
          go_wp2
          go_roundw
          case rel =>
            refine ⟨k + 1, by omega, by go_num, ?_, (below_drewN hbw _).setCell (Nat.le_refl _) _, by simpa [World.setCell] using hlt0, hide fun i hi => ?_⟩
            · have e1 : IntKind.u8.wrap (x * 16 + y) = x * 16 + y := IntWalk.u8_in _ (by omega)
              have := (hb.drewN nq).set_ k (.int .u8 (x * 16 + y))
              rw [unh_stepV s.data.toList m k hlt x y hd1.out hd2.out (by omega) d1.2 (by omega) d2.2] at this
              first | exact this | (rw [e1]; exact this)
            · rcases Nat.lt_or_ge i k with h | h
              · exact hok.out i h
              · obtain rfl : i = k := by omega
                unfold okAt
                rw [hd1.out, hd2.out, decide_eq_true (by omega), decide_eq_true (by omega)]
                rfl
          case measure => simp [intOf]; omega
    · obtain rfl : k = m := by omega
      go_wp2
      go_ret2
      have hm' : s.data.toList.length / 2 = k := by rw [Array.length_toList]; show s.size / 2 = k; have := hM.out; omega
      refine .inr ⟨unh s.data.toList k, some ⟨w.heap.size, 0, none⟩, k, k, ?_, rfl, ?_, hbw⟩
      · have := unhexS_good s.data.toList (by rw [Array.length_toList]; show s.size % 2 = 0; have := hM.out; omega) (by rw [hm']; exact hok.out)
        rw [hm'] at this
        exact this
      · simp only [Nat.sub_self, List.replicate_zero, List.append_nil] at hb
        have := Blk.own (w := wr) (g := w.heap.size) (e := 5) (base := 0) (cap := k) hb (by omega) (by unfold maxLen; omega) (by simp [bv, unh_length])
        exact Reads.of_own (by simpa using this)

set_option maxHeartbeats 400000 in
theorem runhex_odd (s : ByteArray) (w : World) (h : s.size % 2 = 1) (hs : s.size ≤ 1000000) :
    Calls Tryd.prog 17 #[.string s] w fun e w' => e = .returned (.tuple #[.slice none 0 0, .bool false]) ∧ w = w' := by
  go_enter Tryd.func17, Tryd.ntmps17
  go_wp2
  go_ret2
  exact ⟨rfl, rfl⟩
set_option maxHeartbeats 400000 in
theorem runhex_even (s : ByteArray) (w : World) (h : s.size % 2 = 0) (hs : s.size ≤ 1000000) :
    Calls Tryd.prog 17 #[.string s] w (UnhexEnd w s.data.toList) := by
  obtain ⟨i0, hi, hz0, hz1, hz2⟩ := info_parts info5
  obtain ⟨m, hm⟩ : ∃ m, s.size = 2 * m := ⟨s.size / 2, by omega⟩
  have hM := hide hm
  have hm1 : s.size ≤ 2 * m := by omega
  have hm2 : 2 * m ≤ s.size := by omega
  have hq2 : (s.size : Int) % 2 = 0 := by omega
  clear h hm
  go_enter Tryd.func17, Tryd.ntmps17
  go_wp2
  clear hq2
  go_loopw [4, 5, 6, 7] (fun v i _ _ wr => ∃ k : Nat, k ≤ m ∧ i = .int .i64 (2 * k) ∧ wr.ownsRow w.heap.size 5 1 v k (bv (unh s.data.toList k)) ∧ Below w.heap.size w wr ∧ w.heap.size ≤ wr.heap.size ∧ Hid (∀ i, i < k → okAt s.data.toList i = true)) (fun _ i _ _ _ => s.size - (intOf i).toNat)
  case atStart => exact ⟨0, by omega, rfl, World.ownsRow_nil _ _ _ _, Below.refl _ _, Nat.le_refl _, hide fun i hi => by omega⟩
  case round =>
    obtain ⟨k, hk, rfl, hown, hbw, hlt0, hok⟩ := hrel
    by_cases hlt : k < m
    · have k1 : 2 * k < s.size := by omega
      have k2 : 2 * k + 1 < s.size := by omega
      have d1 := dgt_le (s[2 * k].toNat : Int)
      have d2 := dgt_le (s[2 * k + 1].toNat : Int)
      have hd1 := hide (show da s.data.toList (2 * k) = dgt (s[2 * k].toNat : Int) from by unfold da; rw [bt_get s _ k1])
      have hd2 := hide (show da s.data.toList (2 * k + 1) = dgt (s[2 * k + 1].toNat : Int) from by unfold da; rw [bt_get s _ k2])
      have b1 : (2 * (k : Int)) < (s.size : Int) := by omega
      have b2 : (2 * (k : Int) + 1) < (s.size : Int) := by omega
      have b3 : 0 ≤ 2 * (k : Int) := by omega
      have b4 : 0 ≤ 2 * (k : Int) + 1 := by omega
      have q2 : IntKind.i64.wrap (2 * (k : Int) + 1) = 2 * (k : Int) + 1 := IntWalk.i64_in _ (by omega)
      have q3 : (2 * (k : Int)).toNat = 2 * k := by omega
      have q4 : (2 * (k : Int) + 1).toNat = 2 * k + 1 := by omega
      go_wp2
      go_quiet ((go_at_call 26; exact quiet_left (rdigit_any _ _)))
      generalize dgt (s[2 * k].toNat : Int) = x at *
      generalize dgt (s[2 * k + 1].toNat : Int) = y at *
      by_cases hx : x < 0
      · go_wp2
        go_ret2
        refine .inl ⟨unhexS_bad _ k (by rw [Array.length_toList]; show k < s.size / 2; omega) ?_, rfl, below_drewN hbw _⟩
        unfold okAt
        rw [hd1.out, decide_eq_false (by omega)]
        rfl
      · by_cases hy : y < 0
        · go_wp2
          go_ret2
          refine .inl ⟨unhexS_bad _ k (by rw [Array.length_toList]; show k < s.size / 2; omega) ?_, rfl, below_drewN hbw _⟩
          unfold okAt
          rw [hd2.out, decide_eq_false (show ¬ 0 ≤ y by omega), Bool.and_false]
        · have e1 : IntKind.u8.wrap (16 * x + y) = 16 * x + y := IntWalk.u8_in _ (by omega)
          go_wp2_with (at_builtin; refine wpList_append_own _ rfl _ _ 23 rfl w.heap.size 5 i0 _ 1 1 Tryd.underlying23 hi hz0 hz1 hz2 rfl (by decide) u4 k (bv (unh s.data.toList k)) rfl (World.ownsRow.alloc (show (wr.drewN nq).ownsRow w.heap.size 5 1 u4 k (bv (unh s.data.toList k)) from hown) _) ⟨wr.heap.size, 0, none⟩ 1 1 [.int .u8 (16 * x + y)] rfl rfl ?c1 ?c2 ?c3 ?c4 ?c5 ?_)
          case c1 =>
            intro j u hj
            match j, hj with
            | 0, hj => simp at hj; subst hj; exact Blk.cell (Blk.new (wr.drewN nq) 5 #[Value.int .u8 (16 * x + y)]) 0
          case c2 => rfl
          case c3 => unfold maxLen; omega
          case c4 => omega
          case c5 => omega
          intro v' w1 hown1 hg1 hat1
          have hbw1 : Below w.heap.size w w1 := ((below_drewN hbw nq).alloc (by exact hlt0) _).grown hg1 (by simp; omega) (fun g hg => (hown.lt g hg).1)
          have hsz1 := hg1.size
          simp at hsz1
          have hown2 : w1.ownsRow w.heap.size 5 1 v' (k + 1) (bv (unh s.data.toList (k + 1))) := by
            rw [unh_succ, hd1.out, hd2.out, bv_append]
            have hv : bv [UInt8.ofNat (16 * x + y).toNat] = [Value.int .u8 (16 * x + y)] := by
              show [Value.int .u8 ((UInt8.ofNat (16 * x + y).toNat).toNat : Int)] = _
              congr 2
              simp
              omega
            rw [hv]
            exact hown1
          clear hown1 hg1 hat1
          go_wp2
          go_roundw
          case rel =>
            refine ⟨k + 1, by omega, by go_num, hown2, hbw1, by omega, hide fun i hi => ?_⟩
            rcases Nat.lt_or_ge i k with h | h
            · exact hok.out i h
            · obtain rfl : i = k := by omega
              unfold okAt
              rw [hd1.out, hd2.out, decide_eq_true (by omega), decide_eq_true (by omega)]
              rfl
          case measure => simp [intOf]; omega
    · obtain rfl : k = m := by omega
      obtain ⟨A', c', rfl⟩ : ∃ A' c', u4 = .slice A' k c' := by
        rcases hown.2 with ⟨h, h0⟩ | ⟨g, cap, cur, h, _⟩
        · exact ⟨none, 0, by rw [h, h0]⟩
        · exact ⟨_, _, h⟩
      go_wp2
      go_ret2
      have hm' : s.data.toList.length / 2 = k := by rw [Array.length_toList]; show s.size / 2 = k; have := hM.out; omega
      refine .inr ⟨unh s.data.toList k, A', k, c', ?_, rfl, Reads.of_own hown, hbw⟩
      have := unhexS_good s.data.toList (by rw [Array.length_toList]; show s.size % 2 = 0; have := hM.out; omega) (by rw [hm']; exact hok.out)
      rw [hm'] at this
      exact this
end Go.Proofs.YtmejcmdnjfjphaaDoor
