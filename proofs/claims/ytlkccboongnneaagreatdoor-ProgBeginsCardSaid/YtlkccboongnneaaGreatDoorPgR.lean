/- bytes.ReplaceAll of one byte by one byte. -/
import Derived.Test.YtlkccboongnneaaGreatDoorPgG
import Derived.Deep.RegionLaw
import Derived.Laws.CopyOwn
namespace Go.Proofs.YtlkccboongnneaaGreatDoor
open Go.RowKit
set_option linter.unusedVariables false
theorem swap_app (a b : UInt8) (x y : Bs) : swap a b (x ++ y) = swap a b x ++ swap a b y := by simp [swap]
theorem swap_not (a b : UInt8) (l : Bs) (h : l.count a = 0) : swap a b l = l := by
  unfold swap
  have h2 : ∀ x ∈ l, x ≠ a := by
    intro x hx e
    subst e
    exact absurd (List.count_pos_iff.2 hx) (by omega)
  induction l with
  | nil => rfl
  | cons x l ih =>
    simp only [List.map_cons]
    rw [if_neg (h2 x (by simp)), ih (by
      have := List.count_eq_zero.1 h
      exact List.count_eq_zero.2 fun hx => this (by simp [hx])) (fun y hy => h2 y (by simp [hy]))]
theorem swap_len (a b : UInt8) (l : Bs) : (swap a b l).length = l.length := by simp [swap]
theorem idx_split (a : UInt8) : ∀ l : Bs, 0 < l.count a → ∃ pre rest, l = pre ++ a :: rest ∧ Lib.indexByte l a = (pre.length : Int) ∧ pre.count a = 0 ∧ rest.count a + 1 = l.count a := by
  intro l
  induction l with
  | nil => intro h; simp at h
  | cons x l ih =>
    intro h
    by_cases hx : x = a
    · subst hx
      exact ⟨[], l, rfl, by simp [Lib.indexByte], rfl, by simp⟩
    · rw [List.count_cons_of_ne (by simpa using hx)] at h
      obtain ⟨pre, rest, e, hi, hp, hr⟩ := ih h
      refine ⟨x :: pre, rest, by rw [e]; rfl, ?_, by rw [List.count_cons_of_ne (by simpa using hx)]; exact hp, by rw [List.count_cons_of_ne (by simpa using hx)]; exact hr⟩
      unfold Lib.indexByte
      rw [hi, if_neg (by simpa using hx), if_neg (by simp)]
      simp
theorem splice_take (cur x : List Value) (q : Nat) (h : q + x.length ≤ cur.length) : (splice cur q x).take (q + x.length) = cur.take q ++ x := by
  unfold splice
  have e : (cur.take q).length = q := by rw [List.length_take]; omega
  rw [List.take_append, e, Nat.add_sub_cancel_left, List.take_of_length_le (l := cur.take q) (by omega), List.take_append_of_le_length (Nat.le_refl _), List.take_of_length_le (Nat.le_refl _)]
theorem count_one (a : UInt8) (ad : Addr) (n c b2 d : Nat) (bs : Bs) (w : World) (hR : Reads w w.heap.size 1 (some ad) n (bv bs)) (hc : w.cell? ⟨b2, 0, none⟩ = some (.int .u8 (a.toNat : Int))) :
    Calls Tryz.prog 62 #[.slice (some ad) n c, .slice (some ⟨b2, 0, none⟩) 1 d] w fun e w' => e = .returned (.int .i64 (bs.count a : Int)) ∧ w = w' := by
  obtain ⟨h1, h2⟩ := cells_b hR
  refine (Any.bytes_Count_one_at Tryz.laysSlB13 ad n c b2 0 d _ (a.toNat : Int) w h1 h2 hc).mono ?_
  rintro e w' ⟨rfl, rfl⟩
  refine ⟨?_, rfl⟩
  rw [bytesOf_map]
  simp [Lib.countByte]
theorem index_one (a : UInt8) (ad : Addr) (n c b2 d : Nat) (bs : Bs) (w : World) (hR : Reads w w.heap.size 1 (some ad) n (bv bs)) (hc : w.cell? ⟨b2, 0, none⟩ = some (.int .u8 (a.toNat : Int))) :
    Calls Tryz.prog 75 #[.slice (some ad) n c, .slice (some ⟨b2, 0, none⟩) 1 d] w fun e w' => e = .returned (.int .i64 (Lib.indexByte bs a)) ∧ w = w' := by
  obtain ⟨h1, h2⟩ := cells_b hR
  refine (Any.bytes_Index_one_at Tryz.lays185 ad n c b2 0 d _ (a.toNat : Int) w h1 h2 hc).mono ?_
  rintro e w' ⟨rfl, rfl⟩
  refine ⟨?_, rfl⟩
  rw [bytesOf_map]
  simp
theorem mkN (q : Nat) (hq : q ≤ 100000000) : ∃ zs : List Value, zs.length = q ∧ ∀ W, (Instr.makeSlice 24 (.int .i64 (q : Int)) (.int .i64 (q : Int))).run Tryz.prog W = .ok (.slice (some ⟨W.heap.size, 0, none⟩) q q) (W.alloc (.cells zs.toArray 5)) := by
  obtain ⟨i, hi, hz, hs, hb⟩ := info_parts infoU8
  refine ⟨(madeCells (Value.int .u8 0).cells (q * 1)).toList, by rw [Array.length_toList, size_madeCells, Nat.mul_one], fun W => ?_⟩
  have := run_make_rowN (P := Tryz.prog) 24 5 i _ Tryz.underlying24 hi hz .i64 .i64 q q (Nat.le_refl _) (by rw [hb]; omega) (by omega) W
  rw [hs] at this
  rw [Array.toArray_toList]
  exact this
theorem run_slice_two (A : Option Addr) (n c l h : Nat) (h1 : l ≤ h) (h2 : h ≤ c) (W : World) :
    (Instr.slice 24 (.slice A n c) (some (.int .i64 (l : Int))) (some (.int .i64 (h : Int))) none).run Tryz.prog W = .ok (.slice (if c = l then A else A.map (·.add l)) (h - l) (c - l)) W := by
  have hE : Tryz.prog.elem 24 = 5 := by simp [Program.elem, Tryz.underlying24]
  rw [run_slice_lh W 24 A n c (slice_ht Tryz.underlying24) .i64 .i64 l h (by omega) (by omega) (by omega), hE, run_sizeOf_one 5 sizeU8]
  simp [Result.andThen, sliced]
set_option maxHeartbeats 4000000 in
theorem replace_any (a b : UInt8) (ad : Addr) (n c b1 b2 : Nat) (bs : Bs) (w : World) (hR : Reads w w.heap.size 1 (some ad) n (bv bs)) (h1 : 1 ≤ n) (hn : n ≤ 400000) (hc : n ≤ c)
    (q1 : w.cell? ⟨b1, 0, none⟩ = some (.int .u8 (a.toNat : Int))) (q2 : w.cell? ⟨b2, 0, none⟩ = some (.int .u8 (b.toNat : Int))) (hb1 : b1 < w.heap.size) (hb2 : b2 < w.heap.size) :
    Calls Tryz.prog 63 #[.slice (some ad) n c, .slice (some ⟨b1, 0, none⟩) 1 1, .slice (some ⟨b2, 0, none⟩) 1 1, .int .i64 (-1)] w fun e w' => ∃ D dc, e = .returned (.slice D n dc) ∧ Od w.heap.size w' D n dc (swap a b bs) ∧ Below w.heap.size w w' := by
  obtain ⟨i0, hi, hz0, hz1, hz2⟩ := info_parts infoU8
  have X := hide (count_one a ad n c b1 1 bs w hR q1)
  have hbl : bs.length = n := by have := hR.1; simp [bv] at this; exact this
  have HBL := hide hbl
  have HR := hide hR
  have hml : bs.count a ≤ n := by have := List.count_le_length (a := a) (l := bs); omega
  obtain ⟨m, hm⟩ : ∃ m, bs.count a = m := ⟨_, rfl⟩
  rw [hm] at hml
  have HM := hide hm
  clear hbl hR hm
  go_enter Tryz.func63, Tryz.ntmps63
  go_wp2_with fail
  refine X.out.mono ?_
  rintro e w1 ⟨rfl, rfl⟩
  rw [HM.out]
  clear X
  by_cases h0 : m = 0
  · subst h0
    have HSW : Hid (swap a b bs = bs) := hide (swap_not a b bs HM.out)
    have hown0 : w.ownsRow w.heap.size 5 1 (.slice none 0 0) 0 [] := World.ownsRow_nil _ _ _ _
    go_wp2_with (at_builtin; (refine wpList_append_any _ rfl (.const (.slice none 0 0)) (.tmp 24) 24 rfl w.heap.size 5 i0 _ 1 1 Tryz.underlying24 hi hz0 hz1 hz2 rfl (by omega) (.slice none 0 0) 0 [] rfl hown0 w.heap.size (some ad) n c (bv bs) rfl (by exact HR.out) (bv_one bs) ?c1 ?c2 ?c3 ?_))
    case c1 => unfold maxLen; omega
    case c2 => omega
    case c3 => simp
    intro v1 w1 hown1 hg1 hat1
    obtain ⟨A', c', rfl⟩ := own_slice hown1
    go_wp2
    go_ret
    refine ⟨A', c', by simp, ?_, (Below.refl w.heap.size w).grown hg1 (by simp) (fun g hg => by simp [Value.ownBlock] at hg)⟩
    rw [HSW.out]
    exact Od.of (by unfold Ob; simpa using hown1)
  · have hmb : ((m : Int) == 0) = false := beq_eq_false_iff_ne.2 (by omega)
    obtain ⟨zs, hzs, hmk⟩ := mkN n (by omega)
    have HZ := hide hzs
    clear hzs
    go_wp2_with fail
    go_loopw [11, 12, 13, 49] (fun u11 u12 u13 u49 wx => ∃ (k : Nat) (d l : Bs) (cur : List Value), k ≤ m ∧ u49 = .int .i64 (k : Int) ∧ u11 = .int .i64 (d.length : Int) ∧ u12 = .int .i64 (d.length : Int) ∧ Hid (bs = d ++ l ∧ l.count a = m - k ∧ cur.length = n ∧ cur.take d.length = bv (swap a b d)) ∧ Hid (Blk wx w.heap.size 5 cur.toArray) ∧ Hid (Below w.heap.size w wx)) (fun _ _ _ i _ => m - (intOf i).toNat)
    case atStart => exact ⟨0, [], bs, zs, Nat.zero_le _, rfl, rfl, rfl, hide ⟨rfl, by rw [HM.out]; rfl, HZ.out, rfl⟩, hide (Blk.new w 5 _), hide ((Below.refl w.heap.size w).alloc (Nat.le_refl _) _)⟩
    case round =>
      obtain ⟨k, d, l, cur, hk, rfl, rfl, rfl, HI, HG, HB⟩ := hrel
      have hdl : d.length + l.length = n := by have := congrArg List.length HI.out.1; rw [List.length_append, HBL.out] at this; omega
      obtain ⟨q, hq⟩ : ∃ q, d.length = q := ⟨_, rfl⟩
      rw [hq] at hdl ⊢
      have HQ := hide hq
      clear hq
      have hsz : w.heap.size < wr.heap.size := HG.out.lt
      have hB0 := HB.out.size
      obtain ⟨r, hr⟩ : ∃ r, n - q = r := ⟨_, rfl⟩
      obtain ⟨cq, hcq⟩ : ∃ r, c - q = r := ⟨_, rfl⟩
      have hqr : q + r = n := by omega
      have hlr : l.length = r := by omega
      have hB0 := HB.out.size
      obtain ⟨r, hr⟩ : ∃ r, n - q = r := ⟨_, rfl⟩
      obtain ⟨cq, hcq⟩ : ∃ r, c - q = r := ⟨_, rfl⟩
      have hqr : q + r = n := by omega
      have hlr : l.length = r := by omega
      have hB0 := HB.out.size
      obtain ⟨r, hr⟩ : ∃ r, n - q = r := ⟨_, rfl⟩
      obtain ⟨cq, hcq⟩ : ∃ r, c - q = r := ⟨_, rfl⟩
      have hqr : q + r = n := by omega
      have hlr : l.length = r := by omega
      have hB0 := HB.out.size
      obtain ⟨r, hr⟩ : ∃ r, n - q = r := ⟨_, rfl⟩
      obtain ⟨cq, hcq⟩ : ∃ r, c - q = r := ⟨_, rfl⟩
      have hqr : q + r = n := by omega
      have hlr : l.length = r := by omega
      by_cases hkm : k = m
      · subst hkm
        have HC : Hid (swap a b l = l) := hide (swap_not a b l (by rw [HI.out.2.1]; omega))
        have hsT := fun W => run_slice_from (P := Tryz.prog) 24 5 Tryz.underlying24 sizeU8 (some ⟨w.heap.size, 0, none⟩) n n .i64 (q : Int) (by omega) (by omega) W
        have hsA := fun W => run_slice_from (P := Tryz.prog) 24 5 Tryz.underlying24 sizeU8 (some ad) n c .i64 (q : Int) (by omega) (by omega) W
        simp only [Int.toNat_natCast] at hsT hsA
        rw [hr] at hsT hsA
        rw [hcq] at hsA
        obtain ⟨DT, hDT⟩ : ∃ D, (if n = q then (some ⟨w.heap.size, 0, none⟩ : Option Addr) else (some ⟨w.heap.size, 0, none⟩ : Option Addr).map (·.add q)) = D := ⟨_, rfl⟩
        obtain ⟨DA, hDA⟩ : ∃ D, (if c = q then (some ad : Option Addr) else (some ad : Option Addr).map (·.add q)) = D := ⟨_, rfl⟩
        rw [hDT] at hsT
        rw [hDA] at hsA
        have hRL := Reads.drop_ HR.out hc (l := q) (by omega)
        rw [hDA, hr, ← bv_drop, show bs.drop q = l from by rw [HI.out.1, ← HQ.out, List.drop_left]] at hRL
        have hRL2 := hRL.below HB.out
        obtain ⟨X1, hX1⟩ : ∃ x, bv l = x := ⟨_, rfl⟩
        rw [hX1] at hRL2
        have hxl : X1.length = r := by rw [← hX1, bv_length, hlr]
        have hone : ∀ v ∈ X1, v.oneCell' = true := by rw [← hX1]; exact bv_one l
        have hpos : 0 < X1.length → DT = some ⟨w.heap.size, q, none⟩ ∧ ∃ ad, DA = some ad ∧ ∀ j v, X1[j]? = some v → wr.drew.cell? (ad.add j) = some v := by
          intro h0
          obtain ⟨ad2, e2, _, hc2⟩ := hRL2.2 (by omega)
          refine ⟨?_, ad2, e2, hc2⟩
          rw [← hDT, if_neg (by omega), Option.map_some, add_plain_, Nat.zero_add]
        have hfit : q + X1.length ≤ cur.length := by rw [HI.out.2.2.1]; omega
        have hmin : X1.length = Nat.min r r := by rw [hxl]; exact (Nat.min_self _).symm
        have HX1 := hide hX1
        have HXL := hide hxl
        have hqr2 : (q : Int) + (r : Int) = (n : Int) := by omega
        have hwn : IntKind.i64.wrap (n : Int) = n := by simp [IntKind.wrap, IntKind.bits, IntKind.signed]; omega
        have hs0 := fun W => run_slice_two (some ⟨w.heap.size, 0, none⟩) n n 0 n (by omega) (Nat.le_refl _) W
        rw [if_neg (by omega), Option.map_some, add_zero_] at hs0
        simp only [Nat.sub_zero] at hs0
        have hlen : (splice cur q X1).length = n := by rw [length_splice _ _ _ hfit]; exact HI.out.2.2.1
        have HP := hide hpos
        have HHR := hide hr
        clear hr hcq hDT hDA hRL hRL2 hX1 hpos hlr hqr hdl
        go_wp2_with fail
        refine wp_region_K (fun _ => True) [] rfl trivial (fun _ => ?_)
        refine wpAnyK_takeF (i := 0) (v := ?_) rfl rfl (by kernel_rfl) (fun _ _ _ h => h) (Or.inl ⟨by rfl, ?_⟩) ?_
        rotate_left
        · (intro V hV; go_simp; with_reducible rfl)
        try simp only [Act.put, List.setIfInBounds_toArray, List.set_cons_zero, List.set_cons_succ]
        refine wpAnyK_takeF (i := 1) (v := ?_) rfl rfl (by kernel_rfl) (fun _ _ _ h => h) (Or.inl ⟨by rfl, ?_⟩) ?_
        rotate_left
        · (intro V hV; go_simp; with_reducible rfl)
        try simp only [Act.put, List.setIfInBounds_toArray, List.set_cons_zero, List.set_cons_succ]
        refine wpAnyK_takeF (i := 2) (v := ?_) rfl rfl (by kernel_rfl) (fun _ _ _ h => h) (Or.inl ⟨by rfl, ?_⟩) ?_
        rotate_left
        · (intro V hV; go_simp; with_reducible rfl)
        try simp only [Act.put, List.setIfInBounds_toArray, List.set_cons_zero, List.set_cons_succ]
        refine wpAnyK_takeF (i := 3) (v := ?_) rfl rfl (by kernel_rfl) (fun _ _ _ h => h) (Or.inl ⟨by rfl, ?_⟩) ?_
        rotate_left
        · (intro V hV; go_simp; with_reducible rfl)
        try simp only [Act.put, List.setIfInBounds_toArray, List.set_cons_zero, List.set_cons_succ]
        refine wpAnyK_takeF (i := 4) (v := ?_) rfl rfl (by kernel_rfl) (fun _ _ _ h => h) (Or.inl ⟨by rfl, ?_⟩) ?_
        rotate_left
        · (intro V hV; go_simp; with_reducible rfl)
        try simp only [Act.put, List.setIfInBounds_toArray, List.set_cons_zero, List.set_cons_succ]
        refine wpAnyK_takeF (i := 5) (v := ?_) rfl rfl (by kernel_rfl) (fun _ _ _ h => h) (Or.inl ⟨by rfl, ?_⟩) ?_
        rotate_left
        · (intro V hV; go_simp; with_reducible rfl)
        try simp only [Act.put, List.setIfInBounds_toArray, List.set_cons_zero, List.set_cons_succ]
        refine wpAnyK_takeF (i := 6) (v := ?_) rfl rfl (by kernel_rfl) (fun _ _ _ h => h) (Or.inl ⟨by rfl, ?_⟩) ?_
        rotate_left
        · (intro V hV; go_simp; with_reducible rfl)
        try simp only [Act.put, List.setIfInBounds_toArray, List.set_cons_zero, List.set_cons_succ]
        refine wpAnyK_step (i := 7) (by kernel_rfl) rfl rfl (fun K hK => ?_)
        refine step_copy_splice rfl (.tmp 123) (.tmp 126) 24 24 rfl 5 Tryz.underlying24 sizeU8 DT DA r r r cq (by rfl) (by rfl) w.heap.size q cur 5 (by exact HG.out) X1 hmin (fun h0 => ⟨by first | rfl | exact (HP.out h0).1, (HP.out h0).2⟩) hfit hone w.heap.size w (by exact HB.out.drew) (Nat.le_refl _) ?_
        intro w3 hc3 hb3
        refine hK.out _ _ (fun _ _ => trivial) ?_
        clear hK K
        simp only [List.setIfInBounds_toArray]
        refine wpAnyK_step (i := 8) (by kernel_rfl) rfl rfl (fun K hK => ?_)
        go_simp
        refine hK.out _ _ (fun _ _ => trivial) ?_
        clear hK K
        simp only [List.setIfInBounds_toArray]
        refine wpAnyK_step (i := 9) (by kernel_rfl) rfl rfl (fun K hK => ?_)
        go_simp
        refine hK.out _ _ (fun _ _ => trivial) ?_
        clear hK K
        simp only [List.setIfInBounds_toArray]
        refine wpAnyK_done (by kernel_rfl) ?_ _
        (try simp only [Exit.then])
        go_at_K
        have HC3 := hc3
        have HB3 := hide hb3
        clear hc3 hb3
        go_wp2_with fail
        go_ret
        refine ⟨_, _, rfl, Od.of ?_, HB3.out⟩
        have := Blk.own (base := w.heap.size) (show Blk w3 w.heap.size 5 (splice cur q X1).toArray from HC3.out) (Nat.le_refl _) (cap := n) (by unfold maxLen; omega) (by simpa using hlen)
        unfold Ob
        have e : bv (swap a b bs) = (splice cur q X1).toArray.toList := by
          have h := splice_take cur X1 q hfit
          rw [List.take_of_length_le (by rw [hlen, HXL.out]; omega)] at h
          rw [List.toList_toArray, h, ← HX1.out, ← HQ.out, HI.out.2.2.2, HI.out.1, swap_app, HC.out]
          simp [bv]
        rw [e]
        exact this
      · have hlt : (k : Int) < (m : Int) := by omega
        obtain ⟨pre, rest, hl, hix, hpre, hrest⟩ := idx_split a l (by rw [HI.out.2.1]; omega)
        have hll := congrArg List.length hl
        rw [List.length_append, List.length_cons] at hll
        obtain ⟨i, hi'⟩ : ∃ i, pre.length = i := ⟨_, rfl⟩
        rw [hi'] at hix hll
        have HPI := hide hi'
        have HL := hide hl
        have HRS := hide hrest
        have HPR := hide hpre
        have hqn : q + i + 1 ≤ n := by omega
        obtain ⟨j, hj⟩ : ∃ j, q + i = j := ⟨_, rfl⟩
        have hj2 : (q : Int) + (i : Int) = (j : Int) := by omega
        obtain ⟨r2, hr2⟩ : ∃ r, n - j = r := ⟨_, rfl⟩
        have hr2p : 1 ≤ r2 := by omega
        have hwj : IntKind.i64.wrap (j : Int) = j := by simp [IntKind.wrap, IntKind.bits, IntKind.signed]; omega
        have hsA := fun W => run_slice_from (P := Tryz.prog) 24 5 Tryz.underlying24 sizeU8 (some ad) n c .i64 (q : Int) (by omega) (by omega) W
        have hsT := fun W => run_slice_from (P := Tryz.prog) 24 5 Tryz.underlying24 sizeU8 (some ⟨w.heap.size, 0, none⟩) n n .i64 (q : Int) (by omega) (by omega) W
        have hsT2 := fun W => run_slice_from (P := Tryz.prog) 24 5 Tryz.underlying24 sizeU8 (some ⟨w.heap.size, 0, none⟩) n n .i64 (j : Int) (by omega) (by omega) W
        have hsS := fun W => run_slice_two (some ad) n c q j (by omega) (by omega) W
        simp only [Int.toNat_natCast] at hsT hsA hsT2
        rw [if_neg (by omega), Option.map_some] at hsA hsT hsT2 hsS
        rw [add_plain_, Nat.zero_add] at hsT hsT2
        rw [hr] at hsA hsT
        rw [hr2] at hsT2
        rw [hcq] at hsA hsS
        rw [show j - q = i from by omega] at hsS
        have hRL := Reads.drop_ HR.out hc (l := q) (by omega)
        rw [if_neg (by omega), Option.map_some, hr, ← bv_drop, show bs.drop q = l from by rw [HI.out.1, ← HQ.out, List.drop_left]] at hRL
        have hRL2 := (hRL.below HB.out).more hB0
        have q1' := (HB.out.cell (p := ⟨b1, 0, none⟩) hb1).trans q1
        have q2' := (HB.out.cell (p := ⟨b2, 0, none⟩) hb2).trans q2
        have XI := hide (index_one a (ad.add q) r cq b1 1 l wr hRL2 q1')
        obtain ⟨X1, hX1⟩ : ∃ x, bv pre = x := ⟨_, rfl⟩
        have hxl : X1.length = i := by rw [← hX1, bv_length, hi']
        have hone : ∀ v ∈ X1, v.oneCell' = true := by rw [← hX1]; exact bv_one pre
        have hpos : 0 < X1.length → (some ⟨w.heap.size, q, none⟩ : Option Addr) = some ⟨w.heap.size, q, none⟩ ∧ ∃ ad2, (some (ad.add q) : Option Addr) = some ad2 ∧ ∀ j v, X1[j]? = some v → wr.drew.cell? (ad2.add j) = some v := by
          intro h0
          obtain ⟨ad2, e2, _, hc2⟩ := hRL2.2 (by omega)
          refine ⟨rfl, ad2, e2, fun j v hv => hc2 j v ?_⟩
          rw [hl, show bv (pre ++ a :: rest) = bv pre ++ bv (a :: rest) from by simp [bv], hX1, List.getElem?_append_left (by
            rcases Nat.lt_or_ge j X1.length with h | h
            · exact h
            · rw [List.getElem?_eq_none h] at hv; cases hv)]
          exact hv
        have hfit : q + X1.length ≤ cur.length := by rw [HI.out.2.2.1]; omega
        have hmin : X1.length = Nat.min i r := by rw [hxl]; exact (Nat.min_eq_left (by omega)).symm
        have hlen : (splice cur q X1).length = n := by rw [length_splice _ _ _ hfit]; exact HI.out.2.2.1
        have HP := hide hpos
        have HXL := hide hxl
        have HX1 := hide hX1
        have HJ := hide hj
        have hIX := hide hix
        clear hl hrest hi' hr hcq hr2 hRL hRL2 hpos hX1 hlr hqr hdl hll hj hpre hix
        go_wp2_with fail
        refine XI.out.mono ?_
        rintro e w1 ⟨rfl, rfl⟩
        rw [hIX.out]
        clear XI
        go_wp2_with fail
        refine wp_region_K (fun _ => True) [] rfl trivial (fun _ => ?_)
        refine wpAnyK_takeF (i := 0) (v := ?_) rfl rfl (by kernel_rfl) (fun _ _ _ h => h) (Or.inl ⟨by rfl, ?_⟩) ?_
        rotate_left
        · (intro V hV; go_simp; with_reducible rfl)
        try simp only [Act.put, List.setIfInBounds_toArray, List.set_cons_zero, List.set_cons_succ]
        refine wpAnyK_takeF (i := 1) (v := ?_) rfl rfl (by kernel_rfl) (fun _ _ _ h => h) (Or.inl ⟨by rfl, ?_⟩) ?_
        rotate_left
        · (intro V hV; go_simp; with_reducible rfl)
        try simp only [Act.put, List.setIfInBounds_toArray, List.set_cons_zero, List.set_cons_succ]
        refine wpAnyK_takeF (i := 2) (v := ?_) rfl rfl (by kernel_rfl) (fun _ _ _ h => h) (Or.inl ⟨by rfl, ?_⟩) ?_
        rotate_left
        · (intro V hV; go_simp; with_reducible rfl)
        try simp only [Act.put, List.setIfInBounds_toArray, List.set_cons_zero, List.set_cons_succ]
        refine wpAnyK_takeF (i := 3) (v := ?_) rfl rfl (by kernel_rfl) (fun _ _ _ h => h) (Or.inl ⟨by rfl, ?_⟩) ?_
        rotate_left
        · (intro V hV; go_simp; with_reducible rfl)
        try simp only [Act.put, List.setIfInBounds_toArray, List.set_cons_zero, List.set_cons_succ]
        refine wpAnyK_takeF (i := 4) (v := ?_) rfl rfl (by kernel_rfl) (fun _ _ _ h => h) (Or.inl ⟨by rfl, ?_⟩) ?_
        rotate_left
        · (intro V hV; go_simp; with_reducible rfl)
        try simp only [Act.put, List.setIfInBounds_toArray, List.set_cons_zero, List.set_cons_succ]
        refine wpAnyK_takeF (i := 5) (v := ?_) rfl rfl (by kernel_rfl) (fun _ _ _ h => h) (Or.inl ⟨by rfl, ?_⟩) ?_
        rotate_left
        · (intro V hV; go_simp; with_reducible rfl)
        try simp only [Act.put, List.setIfInBounds_toArray, List.set_cons_zero, List.set_cons_succ]
        refine wpAnyK_takeF (i := 6) (v := ?_) rfl rfl (by kernel_rfl) (fun _ _ _ h => h) (Or.inl ⟨by rfl, ?_⟩) ?_
        rotate_left
        · (intro V hV; go_simp; with_reducible rfl)
        try simp only [Act.put, List.setIfInBounds_toArray, List.set_cons_zero, List.set_cons_succ]
        refine wpAnyK_takeF (i := 7) (v := ?_) rfl rfl (by kernel_rfl) (fun _ _ _ h => h) (Or.inl ⟨by rfl, ?_⟩) ?_
        rotate_left
        · (intro V hV; go_simp; with_reducible rfl)
        try simp only [Act.put, List.setIfInBounds_toArray, List.set_cons_zero, List.set_cons_succ]
        refine wpAnyK_step (i := 8) (by kernel_rfl) rfl rfl (fun K hK => ?_)
        refine step_copy_splice rfl (.tmp 61) (.tmp 65) 24 24 rfl 5 Tryz.underlying24 sizeU8 (some ⟨w.heap.size, q, none⟩) (some (ad.add q)) r r i cq (by rfl) (by rfl) w.heap.size q cur 5 (by exact HG.out) X1 hmin (fun h0 => ⟨by first | rfl | exact (HP.out h0).1, (HP.out h0).2⟩) hfit hone w.heap.size w (by exact HB.out.drew) (Nat.le_refl _) ?_
        intro w3 hc3 hb3
        refine hK.out _ _ (fun _ _ => trivial) ?_
        clear hK K
        simp only [List.setIfInBounds_toArray]
        refine wpAnyK_step (i := 9) (by kernel_rfl) rfl rfl (fun K hK => ?_)
        go_simp
        refine hK.out _ _ (fun _ _ => trivial) ?_
        clear hK K
        simp only [List.setIfInBounds_toArray]
        refine wpAnyK_step (i := 10) (by kernel_rfl) rfl rfl (fun K hK => ?_)
        go_simp
        refine hK.out _ _ (fun _ _ => trivial) ?_
        clear hK K
        simp only [List.setIfInBounds_toArray]
        refine wpAnyK_done (by kernel_rfl) ?_ _
        (try simp only [Exit.then])
        go_at_K
        have HC3 := hc3
        have HB3 := hide hb3
        have q2' := (hb3.cell (p := ⟨b2, 0, none⟩) hb2).trans q2
        clear hc3 hb3
        go_wp2_with (with_reducible refine wpList_copy_splice rfl (.tmp 71) (.tmp 72) 24 24 rfl 5 Tryz.underlying24 sizeU8 (some ⟨w.heap.size, j, none⟩) (some ⟨b2, 0, none⟩) r2 r2 1 1 rfl rfl w.heap.size j (splice cur q X1) 5 ?g1 [.int .u8 (b.toNat : Int)] ?g2 ?g3 ?g4 ?g5 w.heap.size w ?g6 ?g7 ?_)
        case g1 => exact HC3.out
        case g2 => exact (Nat.min_eq_left (by omega)).symm
        case g3 =>
          have hq : ∀ (t : Nat) (v : Value), [Value.int .u8 (b.toNat : Int)][t]? = some v → w3.cell? ⟨b2, t, none⟩ = some v := by
            intro t v hv
            match t with
            | 0 =>
              simp only [List.getElem?_cons_zero, Option.some.injEq] at hv
              subst hv
              exact q2'
            | t + 1 => simp at hv
          exact hq
        case g4 => rw [hlen]; simp; omega
        case g5 => intro v hv; rw [List.mem_singleton.1 hv]; rfl
        case g6 => exact HB3.out
        case g7 => exact Nat.le_refl _
        intro w4 hc4 hb4
        have HC4 := hc4
        have HB4 := hide hb4
        clear hc4 hb4
        go_wp2_with fail
        go_roundw
        case rel =>
          refine ⟨k + 1, d ++ (pre ++ [a]), rest, splice (splice cur q X1) j [.int .u8 (b.toNat : Int)], by omega, by simp, ?_, ?_, hide ⟨?_, ?_, ?_, ?_⟩, hide HC4.out, hide HB4.out⟩
          · have := HQ.out; have := HPI.out; have := HJ.out; simp [*]; omega
          · have := HQ.out; have := HPI.out; have := HJ.out; simp [*]; omega
          · rw [HI.out.1, HL.out]; simp
          · have := HRS.out; have := HI.out.2.1; omega
          · rw [length_splice _ _ _ (by rw [hlen]; simp; omega)]; exact hlen
          · have e1 := splice_take cur X1 q hfit
            have e2 := splice_take (splice cur q X1) [.int .u8 (b.toNat : Int)] j (by rw [hlen]; simp; omega)
            have hdl : (d ++ (pre ++ [a])).length = j + 1 := by have := HQ.out; have := HPI.out; have := HJ.out; simp; omega
            rw [hdl]
            rw [HXL.out, HJ.out] at e1
            simp only [List.length_singleton] at e2
            rw [e2, e1, ← HX1.out, ← HQ.out, HI.out.2.2.2, swap_app, swap_app, swap_not a b pre HPR.out]
            simp [bv, swap]
        case measure => simp [intOf]; omega
end Go.Proofs.YtlkccboongnneaaGreatDoor
