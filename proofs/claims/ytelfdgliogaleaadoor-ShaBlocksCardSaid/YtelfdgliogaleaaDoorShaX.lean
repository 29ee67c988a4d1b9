/- append onto a row that has room; the contracts of sha.Pad and sha.Block. -/
import Derived.Test.YtelfdgliogaleaaDoorShaW
import Derived.Lib.AppendZeros
import Derived.Deep.AppendSrc
namespace Go.Proofs.YtelfdgliogaleaaDoor
open Go.RowKit
set_option linter.unusedVariables false
theorem run_append_room_zeros {P : Program} (w : World) (t tx ty e : TypeId) (i : TypeInfo) (z : Value) (kn : IntKind) (ht : P.underlying t = some (.slice e)) (htx : P.underlying tx = some (.int kn)) (hi : P.info? e = some i) (hs : i.size = 1) (hby : i.bytes = 1)
    (hv : ∀ w, (zeroValue e).run P w = .ok z w) (hz : z.cells = #[z]) (h1 : z.oneCell' = true) (b off sLen sCap n : Nat) (hn : n ≤ 1000000) (hroom : sLen + n ≤ sCap)
    (hc : ∀ j, j < n → (w.cell? ⟨b, off + sLen + j, none⟩).isSome = true) (hf : ∀ j, j < n → w.frozen? ⟨b, off + sLen + j, none⟩ = false) :
    (Builtin.append_ #[t, tx] ty #[.slice (some ⟨b, off, none⟩) sLen sCap, .int .i64 (n : Int)]).run P w = .ok (.slice (some ⟨b, off, none⟩) (sLen + n) sCap) (w.setCells b (off + sLen) (List.replicate n z)) := by
  have hzc : (Builtin.zeroCells z.cells n).toList = List.replicate n z := by
    rw [hz]
    simp [Builtin.zeroCells]
    apply List.ext_getElem
    · simp
    · intro i h1 h2
      simp [Nat.mod_one]
  have hst := run_storeCells_cells (P := P) b (off + sLen) (List.replicate n z) 0 w (by simpa using hc) (by simpa using hf) (by intro v hv'; rw [List.eq_of_mem_replicate hv']; exact h1)
  simp only [Nat.add_zero] at hst
  have hw : IntKind.i64.wrap (n : Int) = n := by rw [IntKind.wrap_i64]; omega
  have hneg : ¬ ((n : Int) < 0) := by omega
  have hbig : ¬ (281474976710656 < (n : Int)) := by omega
  rcases Nat.eq_zero_or_pos n with h0 | h0
  · subst h0
    simp [Builtin.append_, run_underlying ht, run_underlying htx, sizeOf, typeInfo, hi, hs, hby, asInt, asIntOf, hw, Addr.add_lit, World.setCells, storeCells] at *
    omega
  · have hn0 : n ≠ 0 := by omega
    simp [Builtin.append_, run_underlying ht, run_underlying htx, sizeOf, typeInfo, hi, hs, hby, asInt, asIntOf, hw, hneg, hbig, hroom, hn0, hv, Addr.add_lit, hzc, hst]
def RoomAt (w : World) (g cap : Nat) (xs : List UInt8) : Prop := xs.length ≤ cap ∧ Blk w g 5 (bv (xs ++ zerosN (cap - xs.length))).toArray
theorem RoomAt.step {w w' : World} {g cap : Nat} {xs news : List UInt8} (h : RoomAt w g cap xs) (hroom : xs.length + news.length ≤ cap) (hw : w' = w.setCells g xs.length (bv news)) : RoomAt w' g cap (xs ++ news) := by
  subst hw
  refine ⟨by simpa using hroom, ?_⟩
  have hb := Blk.setCells (bv news) xs.length (bv (xs ++ zerosN (cap - xs.length))) w h.2 (by have := h.1; simp [bv, zerosN]; omega)
  rw [splice_bv] at hb
  have e : (xs ++ zerosN (cap - xs.length)).take xs.length ++ (news ++ (xs ++ zerosN (cap - xs.length)).drop (xs.length + news.length)) = xs ++ news ++ zerosN (cap - (xs ++ news).length) := by
    rw [List.take_append_of_le_length (Nat.le_refl _), List.take_length, List.append_assoc]
    congr 2
    rw [List.drop_append, List.drop_eq_nil_of_le (by omega), List.nil_append]
    simp [zerosN]
    omega
  rw [e] at hb
  exact hb
theorem room_slice {w : World} {g cap n m c B : Nat} {xs news : List UInt8} {A : Option Addr} (ty : TypeId) (h : RoomAt w g cap xs) (hn : xs.length = n) (hr : Reads w B 1 A m (bv news)) (hroom : n + m ≤ cap) :
    ∃ w', (Builtin.append_ #[22, 22] ty #[.slice (some ⟨g, 0, none⟩) n cap, .slice A m c]).run Tryd.prog w = .ok (.slice (some ⟨g, 0, none⟩) (n + m) cap) w' ∧ RoomAt w' g cap (xs ++ news) ∧ ∀ B0 w0, Below B0 w0 w → B0 ≤ g → Below B0 w0 w' := by
  obtain ⟨i0, hi, hz0, hz1, hz2⟩ := info_parts info5
  subst hn
  have hml : news.length = m := by have := hr.1; simp [bv] at this; exact this
  have hsrc : Src Tryd.prog i0.size 22 (.slice A m c) m (bv news) w := by
    rcases A with _ | ad
    · have h0 : m = 0 := by
        rcases Nat.eq_zero_or_pos m with h0 | h0
        · exact h0
        · obtain ⟨ad, e, _⟩ := hr.2 h0; cases e
      subst h0
      obtain rfl := List.eq_nil_of_length_eq_zero hml
      exact Src.ofNil w Tryd.underlying22 c
    · refine Src.ofSlice w Tryd.underlying22 ad m c (bv news) (by rw [bv_length, hml, hz1, Nat.mul_one]) ?_ (bv_one _)
      intro j u hu
      rcases Nat.eq_zero_or_pos m with h0 | h0
      · obtain rfl := List.eq_nil_of_length_eq_zero (hml.trans h0)
        simp [bv] at hu
      · obtain ⟨ad', e, _, hc⟩ := hr.2 h0
        injection e with e
        subst e
        exact hc j u hu
  have hrun := run_append_room_src w 22 22 ty 5 i0 Tryd.underlying22 hi g 0 xs.length cap (.slice A m c) m (bv news) hsrc hroom
    (fun j hj => by rw [bv_length] at hj; rw [hz1, Nat.mul_one, Nat.zero_add, h.2.cell]; simp [bv, zerosN]; have := h.1; omega) (fun j hj => by rw [hz1, Nat.mul_one, Nat.zero_add]; exact h.2.frozen _)
  rw [hz1, Nat.mul_one, Nat.zero_add] at hrun
  exact ⟨_, hrun, h.step (by omega) rfl, fun B0 w0 hb hg => below_setCells' hg _ _ _ hb⟩
theorem room_zeros {w : World} {g cap n k : Nat} {xs : List UInt8} (ty : TypeId) (h : RoomAt w g cap xs) (hn : xs.length = n) (hk : k ≤ 1000000) (hroom : n + k ≤ cap) :
    ∃ w', (Builtin.append_ #[22, 3] ty #[.slice (some ⟨g, 0, none⟩) n cap, .int .i64 (k : Int)]).run Tryd.prog w = .ok (.slice (some ⟨g, 0, none⟩) (n + k) cap) w' ∧ RoomAt w' g cap (xs ++ zerosN k) ∧ ∀ B0 w0, Below B0 w0 w → B0 ≤ g → Below B0 w0 w' := by
  obtain ⟨i0, hi, hz0, hz1, hz2⟩ := info_parts info5
  subst hn
  have hrun := run_append_room_zeros w 22 3 ty 5 i0 (.int .u8 0) .i64 Tryd.underlying22 Tryd.underlying3 hi hz1 hz2 zeroU8 rfl rfl g 0 xs.length cap k hk hroom
    (fun j hj => by rw [Nat.zero_add, h.2.cell]; simp [bv, zerosN]; have := h.1; omega) (fun j hj => by rw [Nat.zero_add]; exact h.2.frozen _)
  rw [Nat.zero_add] at hrun
  have e : List.replicate k (Value.int .u8 0) = bv (zerosN k) := by simp [bv, zerosN]
  rw [e] at hrun
  exact ⟨_, hrun, h.step (by simpa [zerosN] using hroom) rfl, fun B0 w0 hb hg => below_setCells' hg _ _ _ hb⟩
theorem RoomAt.alloc {w : World} {g cap : Nat} {xs : List UInt8} (h : RoomAt w g cap xs) (o : Obj) : RoomAt (w.alloc o) g cap xs := ⟨h.1, h.2.alloc o⟩
theorem RoomAt.below {w w' : World} {g cap : Nat} {xs : List UInt8} (h : RoomAt w g cap xs) (hb : Below w.heap.size w w') : RoomAt w' g cap xs := ⟨h.1, h.2.below hb h.2.lt⟩
theorem RoomAt.start (w : World) (cap : Nat) : RoomAt (w.alloc (.cells (bv (zerosN cap)).toArray 5)) w.heap.size cap [] := ⟨by simp, by have := Blk.new w 5 (bv (zerosN cap)).toArray; simpa using this⟩
def RetRow (w : World) (bs : List UInt8) (e : Ending) (w' : World) : Prop :=
  ∃ A n c, e = .returned (.slice A n c) ∧ n ≤ c ∧ w'.ownsRow w.heap.size 5 1 (.slice A n c) n (bv bs) ∧ Below w.heap.size w w'
set_option maxRecDepth 10000 in
set_option maxHeartbeats 2000000 in
theorem pad_any (A : Option Addr) (n c : Nat) (bs : List UInt8) (w : World) (hr : Rd w A n bs) (hn : n ≤ 100000) :
    Calls Tryd.prog 11 #[.slice A n c] w (RetRow w (padL bs)) := by
  obtain ⟨i0, hi, hz0, hz1, hz2⟩ := info_parts info5
  have hl := hr.len
  obtain ⟨b, hb⟩ : ∃ b, blocksN n = b := ⟨_, rfl⟩
  have hb1 : n + 9 ≤ 64 * b := by rw [← hb]; unfold blocksN; omega
  have hb2 : 64 * b ≤ 200000 := by rw [← hb]; unfold blocksN; omega
  have hbI : ((n : Int) + 8) / 64 + 1 = (b : Int) := by rw [← hb]; unfold blocksN; omega
  obtain ⟨k, hk⟩ : ∃ k, 64 * b - 8 - (n + 1) = k := ⟨_, rfl⟩
  have hkI : (b : Int) * 64 - 8 - ((n : Int) + 1) = (k : Int) := by omega
  have hmk : ∀ W, (Instr.makeSlice 22 (.int .i64 0) (.int .i64 ((b : Int) * 64))).run Tryd.prog W = .ok (.slice (some ⟨W.heap.size, 0, none⟩) 0 (64 * b)) (W.alloc (.cells (bv (zerosN (64 * b))).toArray 5)) := fun W => by
    have h := run_make_rowN (P := Tryd.prog) 22 5 i0 _ Tryd.underlying22 hi hz0 .i64 .i64 0 (64 * b) (by omega) (by rw [hz2]; omega) (by omega) W
    have e : madeCells (Value.int IntKind.u8 0).cells (64 * b * i0.size) = (bv (zerosN (64 * b))).toArray := by rw [hz1]; exact Array.toList_inj.1 (made_bytes (64 * b))
    rw [e, show ((64 * b : Nat) : Int) = (b : Int) * 64 by omega] at h
    exact h
  have hS := RoomAt.start w (64 * b)
  have hB0 : Below w.heap.size w (w.alloc (.cells (bv (zerosN (64 * b))).toArray 5)) := (Below.refl _ _).alloc (Nat.le_refl _) _
  obtain ⟨w2, hr1, hS1, hB1⟩ := room_slice (n := 0) (c := c) 22 hS rfl (hr.alloc (Nat.le_refl _) _) (by omega)
  rw [Nat.zero_add, List.nil_append] at *
  have hB1' := hB1 _ _ hB0 (Nat.le_refl _)
  have hone : Reads (w2.alloc (.cells #[.int .u8 128] 5)) (w2.heap.size + 1) 1 (some ⟨w2.heap.size, 0, none⟩) 1 (bv [0x80]) := by
    refine ⟨rfl, fun _ => ⟨_, rfl, Nat.lt_succ_self _, fun j u hu => ?_⟩⟩
    rw [at_add, Nat.zero_add, (Blk.new w2 5 #[.int .u8 128]).cell j, ← hu]
    simp [bv]
  obtain ⟨w3, hr2, hS2, hB2⟩ := room_slice (n := n) (c := 1) 22 (hS1.alloc (.cells #[.int .u8 128] 5)) hl hone (by omega)
  have hB2' := hB2 _ _ (hB1'.alloc hB1'.size _) (Nat.le_refl _)
  obtain ⟨w4, hr3, hS3, hB3⟩ := room_zeros (n := n + 1) (k := k) 22 hS2 (by simp [hl]) (by omega) (by omega)
  have hB3' := hB3 _ _ hB2' (Nat.le_refl _)
  have v8 : IntKind.u64.wrap (8 * (n : Int)) = ((8 * n : Nat) : Int) := by simp [IntKind.wrap, IntKind.bits, IntKind.signed]; omega
  have v1 : IntKind.u64.wrap (n : Int) = n := by simp [IntKind.wrap, IntKind.bits, IntKind.signed]; omega
  have HS3 := hide hS3
  have HB3 := hide hB3'
  have HL := hide hl
  have HK := hide hk
  have HBN := hide hb
  clear hS hB0 hS1 hB1 hB1' hone hS2 hB2 hB2' hS3 hB3 hB3' hr hl hb hk
  go_enter Tryd.func11, Tryd.ntmps11
  go_wp2_with (first
    | (at_builtin; (refine Lib.wpList_append_run _ rfl (.tmp 13) (.tmp 14) 22 22 rfl _ _ rfl rfl _ _ hr1 ?_))
    | (at_builtin; (refine Lib.wpList_append_run _ rfl (.tmp 16) (.tmp 17) 22 22 rfl _ _ rfl rfl _ _ hr2 ?_))
    | (at_builtin; (refine Lib.wpList_append_run _ rfl (.tmp 19) (.tmp 25) 22 3 rfl _ _ rfl rfl _ _ hr3 ?_))
    | fail)
  refine (put_yes (8 * n) 8 _ (by omega) (by omega) (by omega)).mono ?_
  rintro e w5 ⟨v, rfl, ho, hb5⟩
  obtain ⟨Ap, cp, rfl⟩ := own_slice ho
  obtain ⟨w6, hr4, hS4, hB4⟩ := room_slice (n := n + 1 + k) (c := cp) 22 (HS3.out.below hb5) (by simp [HL.out, zerosN]; omega) (Reads.of_own ho) (by have := HK.out; omega)
  have hB6 := hB4 _ _ (below_more HB3.out (Nat.le_refl _) hb5) (Nat.le_refl _)
  have hn8 : n + 1 + k + 8 = 64 * b := by have := HK.out; omega
  rw [hn8] at hr4
  have HS4 := hide hS4
  have HB6 := hide hB6
  have HN8 := hide hn8
  clear hr1 hr2 hr3 hS4 hB6 hn8 ho hb5 hB4
  go_wp2_with (at_builtin; (refine Lib.wpList_append_run _ rfl (.tmp 27) (.tmp 32) 22 22 rfl _ _ rfl rfl _ _ hr4 ?_))
  go_ret
  have hpl : bs ++ [128] ++ zerosN k ++ be 8 (8 * n) = padL bs := by
    rw [padL, HL.out, HBN.out, HK.out]
    simp [List.append_assoc]
  have h := HS4.out
  rw [hpl] at h
  have hpl2 : (padL bs).length = 64 * b := by rw [padL_length, HL.out, HBN.out]
  have h2 := h.2
  rw [hpl2, Nat.sub_self, show zerosN 0 = [] from rfl, List.append_nil] at h2
  have ho := Blk.own (base := w.heap.size) (cap := 64 * b) h2 (Nat.le_refl _) (by unfold maxLen; omega) (by simp [bv, hpl2])
  exact ⟨_, _, _, rfl, Nat.le_refl _, by simpa using ho, HB6.out⟩
end Go.Proofs.YtelfdgliogaleaaDoor
