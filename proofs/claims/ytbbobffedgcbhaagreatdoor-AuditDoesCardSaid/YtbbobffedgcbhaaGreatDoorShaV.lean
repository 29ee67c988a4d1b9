/- The contract of sha.sum. -/
import Derived.Test.YtbbobffedgcbhaaGreatDoorShaU
import Derived.Outline
namespace Go.Proofs.YtbbobffedgcbhaaGreatDoor
open Go.RowKit
set_option linter.unusedVariables false
def RetSum (w : World) (m : List UInt8) (e : Ending) (w' : World) : Prop :=
  ∃ A c, e = .returned (.slice A 32 c) ∧ w'.ownsRow w.heap.size 5 1 (.slice A 32 c) 32 (bv (sumL m)) ∧ Below w.heap.size w w'
def lenOf0 (v : Value) : Nat := match v with | .slice _ n _ => n | _ => 0
theorem below_cell {B : Nat} {w w' : World} (h : Below B w w') (p : Addr) (hp : p.block < B) : w'.cell? p = w.cell? p := h.cell hp
theorem flat_take (bs : List (List UInt8)) (k : Nat) (b : List UInt8) (h : bs[k]? = some b) : (bs.take (k + 1)).flatten = (bs.take k).flatten ++ b := by
  obtain ⟨hk, e⟩ := List.getElem?_eq_some_iff.1 h
  rw [List.take_succ_eq_append_getElem hk, e]
  simp
theorem flat_le (bs : List (List UInt8)) (k : Nat) : (bs.take k).flatten.length ≤ bs.flatten.length := by
  conv => rhs; rw [← List.take_append_drop k bs, List.flatten_append, List.length_append]
  omega
theorem flat_le' (bs : List (List UInt8)) (k : Nat) (b : List UInt8) (h : bs[k]? = some b) : (bs.take k).flatten.length + b.length ≤ bs.flatten.length := by
  have := flat_le bs (k + 1)
  rw [flat_take bs k b h, List.length_append] at this
  exact this
theorem SumAt.start (w : World) : SumAt w w.heap.size ((w.alloc (.cells (wv firstS.list).toArray 146)).alloc (.cells (bv (List.replicate 64 0)).toArray 147)) [] := by
  refine ⟨?_, ⟨List.replicate 64 0, by simp, by simp [restL], ?_⟩, ((Below.refl _ _).alloc (Nat.le_refl _) _).alloc (by simp) _⟩
  · exact (Blk.new w 146 _).alloc _
  · have := Blk.new (w.alloc (.cells (wv firstS.list).toArray 146)) 147 (bv (List.replicate 64 0)).toArray
    simpa using this
theorem splice_clear (blk : List UInt8) (f : Nat) (hl : blk.length = 64) (hf : f < 64) : splice ((bv blk).set f (.int .u8 128)) (f + 1) (List.replicate (63 - f) (.int .u8 0)) = bv (blk.take f ++ 0x80 :: zerosN (63 - f)) := by
  have e : (bv blk).set f (.int .u8 128) = bv (blk.set f 0x80) := by simp [bv, List.map_set]
  have e2 : List.replicate (63 - f) (Value.int .u8 0) = bv (zerosN (63 - f)) := by simp [bv, zerosN]
  rw [e, e2, splice_bv]
  congr 1
  rw [List.drop_of_length_le (by simp [hl, zerosN]; omega), List.append_nil, List.take_succ_eq_append_getElem (by simp [hl]; omega), List.take_set_of_le (Nat.le_refl _)]
  simp
/-- Ahead of the last block. -/
def MidAt (w wx : World) (m : List UInt8) : Prop :=
  ∃ (st : St) (blk : List UInt8), st.ok ∧ blk.length = 64 ∧ sumL m = stateBytes (comp st (blk.take 56 ++ be 8 (8 * m.length))) ∧ Blk wx w.heap.size 146 (wv st.list).toArray ∧ Blk wx (w.heap.size + 1) 147 (bv blk).toArray ∧ Below w.heap.size w wx
def EndAt (w wx : World) (m : List UInt8) : Prop :=
  ∃ (st : St) (blk : List UInt8), st.ok ∧ blk.length = 64 ∧ sumL m = stateBytes (comp st blk) ∧ Blk wx w.heap.size 146 (wv st.list).toArray ∧ Blk wx (w.heap.size + 1) 147 (bv blk).toArray ∧ Below w.heap.size w wx
theorem SumAt.drewN {w wr : World} {g : Nat} {m : List UInt8} (h : SumAt w g wr m) (k : Nat) : SumAt w g (wr.drewN k) m := by
  obtain ⟨h1, ⟨blk, e1, e2, h2⟩, h3⟩ := h
  exact ⟨h1.drewN k, ⟨blk, e1, e2, h2.drewN k⟩, ⟨h3.os, h3.tape, h3.output, h3.size, h3.block⟩⟩
set_option maxRecDepth 10000 in
set_option maxHeartbeats 8000000 in
theorem sum_any (A : Option Addr) (n c : Nat) (vs : List Value) (bs : List (List UInt8)) (w : World) (hA : Reads w w.heap.size 1 A n vs) (hrows : RowsV w w.heap.size vs bs) (hlen : bs.flatten.length ≤ 100000)
    (hf : FirstAt w) (hk : KeysAt w) (h1 : 5 < w.heap.size) (hn : n ≤ 100000) :
    Calls Tryz.prog 77 #[.slice A n c] w (RetSum w bs.flatten) := by
  obtain ⟨i0, hi0, hz0, hz1, hz2⟩ := info_parts info5
  have HA := hide hA
  have HR := hide hrows
  have HF := hide hf
  have HK := hide hk
  have hvl : vs.length = n := by have := hA.1; omega
  have hbl : bs.length = n := by rw [← hrows.1]; exact hvl
  have HVL := hide hvl
  have HBL := hide hbl
  have HLEN := hide hlen
  have f0 : w.cell? ⟨3, 0, none⟩ = some (.int .u32 0x6a09e667) := hf 0 (by omega)
  have f1 : w.cell? ⟨3, 1, none⟩ = some (.int .u32 0xbb67ae85) := hf 1 (by omega)
  have f2 : w.cell? ⟨3, 2, none⟩ = some (.int .u32 0x3c6ef372) := hf 2 (by omega)
  have f3 : w.cell? ⟨3, 3, none⟩ = some (.int .u32 0xa54ff53a) := hf 3 (by omega)
  have f4 : w.cell? ⟨3, 4, none⟩ = some (.int .u32 0x510e527f) := hf 4 (by omega)
  have f5 : w.cell? ⟨3, 5, none⟩ = some (.int .u32 0x9b05688c) := hf 5 (by omega)
  have f6 : w.cell? ⟨3, 6, none⟩ = some (.int .u32 0x1f83d9ab) := hf 6 (by omega)
  have f7 : w.cell? ⟨3, 7, none⟩ = some (.int .u32 0x5be0cd19) := hf 7 (by omega)
  clear hA hrows hf hk hvl hbl hlen
  go_enter Tryz.func77, Tryz.ntmps77
  go_wp2_with fail
  clear f0 f1 f2 f3 f4 f5 f6 f7
  go_loopw [5, 6, 16] (fun u5 u6 u16 wr => ∃ k : Nat, k ≤ n ∧ u16 = .int .i64 k ∧ u5 = .int .i64 ((bs.take k).flatten.length : Nat) ∧ u6 = .int .i64 ((bs.take k).flatten.length % 64 : Nat) ∧ SumAt w w.heap.size wr (bs.take k).flatten) (fun _ _ i _ => n - (intOf i).toNat)
  case atStart => exact ⟨0, Nat.zero_le _, rfl, rfl, rfl, SumAt.start w⟩
  case round =>
    obtain ⟨k, hk, rfl, rfl, rfl, hS⟩ := hrel
    by_cases hkn : k < n
    · obtain ⟨b, hb⟩ : ∃ b, bs[k]? = some b := ⟨_, List.getElem?_eq_getElem (by rw [HBL.out]; exact hkn)⟩
      obtain ⟨v, hv⟩ : ∃ v, vs[k]? = some v := ⟨_, List.getElem?_eq_getElem (by rw [HVL.out]; exact hkn)⟩
      obtain ⟨Ab, nb, cb, rfl, hcb, hrb⟩ := HR.out.2 k v b hv hb
      obtain ⟨ad, hAd, hadl, hadc⟩ := HA.out.2 (by omega)
      have hcell := hadc k _ hv
      have hcell2 : wr.cell? (ad.add k) = some (.slice Ab nb cb) := (below_cell hS.2.2 _ (by rw [block_of_add]; exact hadl)).trans hcell
      have hnbl : b.length = nb := by have := hrb.1; simp [bv] at this; exact this
      have hfl := flat_le' bs k b hb
      rw [hnbl] at hfl
      have hfl2 := HLEN.out
      obtain ⟨m, hm⟩ : ∃ m, (bs.take k).flatten = m := ⟨_, rfl⟩
      have HM := hide hm
      have HM1 := hide (flat_take bs k b hb)
      rw [hm] at hS hfl HM1 ⊢
      have hml : m.length + nb ≤ 100000 := by omega
      have HNB := hide hnbl
      have HRB := hide hrb
      have HS := hide hS
      clear hadl hadc hcell hnbl hfl hfl2 hm hb hv hrb hS
      subst hAd
      obtain ⟨L, hL⟩ : ∃ L, m.length = L := ⟨_, rfl⟩
      have HL := hide hL
      rw [hL] at hml ⊢
      clear hL
      go_wp2_with fail
      go_loopw [6, 8] (fun u6 u8 wx => ∃ (x y : List UInt8) (A' : Option Addr) (n' c' : Nat), b = x ++ y ∧ u8 = .slice A' n' c' ∧ n' ≤ c' ∧ Reads w w.heap.size 1 A' n' (bv y) ∧ u6 = .int .i64 ((m ++ x).length % 64 : Nat) ∧ SumAt w w.heap.size wx (m ++ x)) (fun _ u8 _ => lenOf0 u8)
      case atStart => exact ⟨[], b, Ab, nb, cb, rfl, rfl, hcb, HRB.out, by rw [List.append_nil, HL.out], by rw [List.append_nil]; exact HS.out⟩
      case round =>
        clear HS HRB hcell2
        obtain ⟨x, y, A', n', c', hxy, rfl, hc', hry, rfl, hS⟩ := hrel
        have hyl : y.length = n' := by have := hry.1; simp [bv] at this; exact this
        have hxl : (m ++ x).length + n' ≤ 100000 := by
          have e1 := HNB.out
          rw [hxy, List.length_append] at e1
          rw [List.length_append, HL.out]; omega
        obtain ⟨f, hf⟩ : ∃ f, (m ++ x).length % 64 = f := ⟨_, rfl⟩
        have hf64 : f < 64 := by rw [← hf]; exact Nat.mod_lt _ (by decide)
        rw [hf]
        have HF' := hide hf
        have HXY := hide hxy
        have HYL := hide hyl
        have HRY := hide hry
        have HXL := hide hxl
        have HS := hide hS
        clear hf hxy hyl hry hxl hS
        by_cases hn0 : 0 < n'
        · have hn1 : n' ≤ 100000 := by have := HXL.out; omega
          obtain ⟨S1, ⟨blk, hbl, hbt, S2⟩, S3⟩ := HS.out
          rw [HF'.out] at hbt
          obtain ⟨q, hq⟩ : ∃ q, Nat.min n' (64 - f) = q := ⟨_, rfl⟩
          have hq1 : q ≤ n' := by rw [← hq]; exact Nat.min_le_left _ _
          have hq2 : q ≤ 64 - f := by rw [← hq]; exact Nat.min_le_right _ _
          have hq0 : 0 < q := by rw [← hq]; exact Nat.lt_min.2 ⟨hn0, by omega⟩
          have hqc : f + q = 64 ∨ (q = n' ∧ f + q < 64) := by
            rcases Nat.le_total n' (64 - f) with h | h
            · have : q = n' := by rw [← hq]; exact Nat.min_eq_left h
              omega
            · have : q = 64 - f := by rw [← hq]; exact Nat.min_eq_right h
              omega
          have HQ := hide hq
          have HBT := hide hbt
          have HBL' := hide hbl
          have T1 := hide S1
          have T2 := hide S2
          have T3 := hide S3
          clear hq hbt hbl S1 S2 S3 HS
          have hsl := fun W => run_sliceAt_from (P := Tryz.prog) 147 5 64 Tryz.underlying147 sizeU8 (w.heap.size + 1) 0 .i64 (f : Int) (by omega) (by omega) W
          simp only [Int.toNat_natCast, Nat.zero_add] at hsl
          have hsl2 := fun W => run_slice_from (P := Tryz.prog) 22 5 Tryz.underlying22 sizeU8 A' n' c' .i64 (q : Int) (by omega) (by omega) W
          simp only [Int.toNat_natCast] at hsl2
          have HRY2 := hide (Reads.drop_ HRY.out hc' hq1)
          generalize hXA : (if c' = q then A' else A'.map (·.add q)) = XA at hsl2 HRY2
          clear hXA
          have hcl : (bv (y.take q)).length = q := by rw [bv_length, List.length_take, HYL.out]; omega
          have HCL := hide hcl
          obtain ⟨cs, hcs⟩ : ∃ cs, bv (y.take q) = cs := ⟨_, rfl⟩
          have HCS := hide hcs
          rw [hcs] at HCL
          clear hcl hcs
          go_wp2_with (with_reducible refine wpList_copy_splice rfl (.tmp 28) (.tmp 29) 22 22 rfl 5 Tryz.underlying22 sizeU8 (some ⟨w.heap.size + 1, f, none⟩) A' (64 - f) (64 - f) n' c' rfl rfl (w.heap.size + 1) f (bv blk) 147 ?c1 cs ?c2 ?c3 ?c4 ?c5 (w.heap.size + 1) wr ?c6 ?c7 ?_)
          case c1 => exact T2.out
          case c2 => rw [HCL.out]; exact HQ.out.symm
          case c3 =>
            intro _
            obtain ⟨ad', e, hb', hc''⟩ := HRY.out.2 hn0
            refine ⟨ad', e, fun j u hu => ?_⟩
            rw [below_cell T3.out _ (by rw [block_of_add]; exact hb')]
            rw [← HCS.out, bv_take, List.getElem?_take] at hu
            split at hu
            · exact hc'' j u hu
            · cases hu
          case c4 => rw [HCL.out, bv_length, HBL'.out]; omega
          case c5 => rw [← HCS.out]; exact bv_one _
          case c6 => exact Below.refl _ _
          case c7 => omega
          intro w2 hg2 hb2
          rw [HCL.out]
          have HB2 := hide (T3.out.trans (hb2.mono (Nat.le_succ _)))
          have HW1 : Hid (Blk w2 w.heap.size 146 (wv (stateL (m ++ x)).list).toArray) := hide (T1.out.below hb2 (Nat.lt_succ_self _))
          have HG2 : Hid (Blk w2 (w.heap.size + 1) 147 (splice (bv blk) f cs).toArray) := hide hg2.out
          clear hb2 hg2
          rcases hqc with hqc | hqc
          · have hz : ((f : Int) + (q : Int) == 64) = true := by rw [show (f : Int) + (q : Int) = 64 by omega]; rfl
            have hbk : splice (bv blk) f cs = bv (restL (m ++ x) ++ y.take q) := by
              rw [← HCS.out, splice_bv, List.drop_of_length_le (by rw [HBL'.out, List.length_take, HYL.out]; omega), List.append_nil, HBT.out]
            have hlk : (restL (m ++ x) ++ y.take q).length = 64 := by
              rw [List.length_append, restL_length, HF'.out, List.length_take, HYL.out]; omega
            have hg3 := HG2.out
            rw [hbk] at hg3
            have HG3 := hide hg3
            have HLK := hide hlk
            have hsz2 : w.heap.size + 1 < w2.heap.size := hg3.lt
            have HQC := hide hqc
            clear hbk hlk hg3 HG2 hqc
            go_wp2_with fail
            refine (comp_any w.heap.size 146 (w.heap.size + 1) 0 (stateL (m ++ x)) (restL (m ++ x) ++ y.take q) _ (BytesAt.of_blk HG3.out) hsz2 HLK.out ?d1 (stateL_ok _) (by omega) ?d2 h1).mono ?_
            case d1 => exact HW1.out
            case d2 => exact HK.out.keep fun p hp => below_cell HB2.out p (by rw [hp]; exact h1)
            rintro e w3 ⟨rfl, hs3, hg3⟩
            have HS3 := hide hs3
            have HGR := hide hg3
            clear hs3 hg3
            go_wp2_with fail
            go_roundw
            case rel =>
              have hfull := take_in_full (m ++ x) (y.take q) (by have h := HLK.out; rw [List.length_append] at h; exact h)
              refine ⟨x ++ y.take q, y.drop q, XA, n' - q, c' - q, ?_, rfl, by omega, ?_, ?_, ?_, ?_, ?_⟩
              · rw [List.append_assoc, List.take_append_drop]; exact HXY.out
              · rw [bv_drop]; exact HRY2.out
              · rw [← List.append_assoc, List.length_append, List.length_take, HYL.out]
                have e1 := HF'.out
                have e2 := HQC.out
                rw [show ((m ++ x).length + Nat.min q n') % 64 = 0 by rw [show Nat.min q n' = q from Nat.min_eq_left hq1]; omega]
                rfl
              · rw [← List.append_assoc, hfull.2]; exact HS3.out
              · refine ⟨restL (m ++ x) ++ y.take q, HLK.out, ?_, HG3.out.grown HGR.out (by intro h; injection h with h; omega)⟩
                rw [← List.append_assoc, hfull.1]
                have e1 := HF'.out
                have e2 := HQC.out
                rw [List.length_append, List.length_take, HYL.out, show ((m ++ x).length + Nat.min q n') % 64 = 0 by rw [show Nat.min q n' = q from Nat.min_eq_left hq1]; omega]
                rfl
              · exact HB2.out.grown HGR.out HB2.out.size (fun g h => by injection h with h; omega)
            case measure => simp [lenOf0]; omega
          · obtain ⟨hqn, hqf⟩ := hqc
            have hz : ((f : Int) + (q : Int) == 64) = false := beq_eq_false_iff_ne.2 (by omega)
            clear hq1 hq2
            have HQN := hide hqn
            clear hqn
            go_wp2_with fail
            go_roundw
            case rel =>
              have e0 : y.take q = y := List.take_of_length_le (Nat.le_of_eq (by rw [HYL.out, HQN.out]))
              have hsome := take_in_some (m ++ x) y (by rw [restL_length, HF'.out, HYL.out, ← HQN.out]; exact hqf)
              have e3 : (m ++ x ++ y).length % 64 = f + q := by
                have e1 := HF'.out
                have e2 := HYL.out
                have e3 := HQN.out
                rw [List.length_append, e2]; omega
              refine ⟨x ++ y, [], XA, n' - q, c' - q, by rw [List.append_nil]; exact HXY.out, rfl, by have := HQN.out; omega, ?_, ?_, ?_, ?_, HB2.out⟩
              · have h := HRY2.out
                rw [← bv_drop, List.drop_of_length_le (Nat.le_of_eq (by rw [HYL.out, HQN.out]))] at h
                exact h
              · rw [← List.append_assoc, e3]; go_num
              · rw [← List.append_assoc, hsome.2]; exact HW1.out
              · refine ⟨blk.take f ++ (y ++ blk.drop (f + y.length)), ?_, ?_, ?_⟩
                · simp only [List.length_append, List.length_take, List.length_drop, HBL'.out, HYL.out]
                  have := HQN.out
                  omega
                · rw [← List.append_assoc, e3, hsome.1, ← List.append_assoc, List.take_append_of_le_length, List.take_of_length_le, HBT.out]
                  · rw [List.length_append, List.length_take, HBL'.out, HYL.out, ← HQN.out]; omega
                  · rw [List.length_append, List.length_take, HBL'.out, HYL.out, ← HQN.out]; omega
                · have h := HG2.out
                  rw [← HCS.out, e0, splice_bv] at h
                  exact h
            case measure => simp [lenOf0]; omega
        · obtain rfl : n' = 0 := by omega
          clear hn0
          have hy0 : y = [] := List.eq_nil_of_length_eq_zero HYL.out
          have hbx : b = x := by rw [HXY.out, hy0, List.append_nil]
          have HBX := hide hbx
          clear hy0 hbx
          go_wp2_with fail
          go_roundw
          case rel =>
            have e1 := HM1.out
            have e2 := HBX.out
            have e3 : (m ++ x).length = L + nb := by rw [List.length_append, HL.out, ← HBX.out, HNB.out]
            refine ⟨k + 1, by omega, by go_num, ?_, ?_, ?_⟩
            · rw [e1, e2, e3]; go_num
            · rw [e1, e2, HF'.out]
            · rw [e1, e2]; exact HS.out
          case measure => simp [intOf]; omega
    · obtain rfl : k = n := by omega
      have hall : (bs.take k).flatten = bs.flatten := by rw [List.take_of_length_le (Nat.le_of_eq HBL.out)]
      rw [hall] at hS ⊢
      obtain ⟨m, hm⟩ : ∃ m, bs.flatten = m := ⟨_, rfl⟩
      have hml := HLEN.out
      rw [hm] at hS hml ⊢
      have HMM := hide hm
      clear hall hm hkn hk HR HA HVL HBL HLEN
      obtain ⟨L, hL⟩ : ∃ L, m.length = L := ⟨_, rfl⟩
      obtain ⟨f, hf⟩ : ∃ f, L % 64 = f := ⟨_, rfl⟩
      have hf64 : f < 64 := by rw [← hf]; exact Nat.mod_lt _ (by decide)
      rw [hL] at hml ⊢
      rw [hf]
      obtain ⟨S1, ⟨blk, hbl, hbt, S2⟩, S3⟩ := hS
      rw [hL, hf] at hbt
      have T1 := hide S1
      have T2 := hide S2
      have T3 := hide S3
      have HBT := hide hbt
      have HBL := hide hbl
      have HL := hide hL
      have HLF := hide hf
      clear S1 S2 S3 hbt hbl hL hf
      have c0 := T2.out.cell f
      have z0 := T2.out.frozen f
      rw [Array.getElem?_eq_getElem (by simp [HBL.out, bv]; omega)] at c0
      generalize (bv blk).toArray[f]'(by simp [HBL.out, bv]; omega) = c0v at c0
      obtain ⟨X, hX, hsl⟩ : ∃ X : Option Addr, (0 < 63 - f → X = some ⟨w.heap.size + 1, f + 1, none⟩) ∧ ∀ W, (Instr.sliceAt 147 (.pointer (some ⟨w.heap.size + 1, 0, none⟩)) (some (.int .i64 ((f : Int) + 1))) none none).run Tryz.prog W = .ok (.slice X (63 - f) (63 - f)) W := by
        rcases Nat.lt_or_ge f 63 with h | h
        · refine ⟨_, fun _ => rfl, fun W => ?_⟩
          have := run_sliceAt_from (P := Tryz.prog) 147 5 64 Tryz.underlying147 sizeU8 (w.heap.size + 1) 0 .i64 ((f : Int) + 1) (by omega) (by omega) W
          rw [show ((f : Int) + 1).toNat = f + 1 by omega, show 64 - (f + 1) = 63 - f by omega, Nat.zero_add] at this
          exact this
        · obtain rfl : f = 63 := by omega
          exact ⟨_, fun h => absurd h (by omega), fun W => by rfl⟩
      have HX := hide hX
      have hall : ∀ W, (Instr.sliceAt 147 (.pointer (some ⟨w.heap.size + 1, 0, none⟩)) none none none).run Tryz.prog W = .ok (.slice (some ⟨w.heap.size + 1, 0, none⟩) 64 64) W := fun W => by rfl
      clear hX
      go_wp2_with ((with_reducible refine wpList_clear_row rfl (.tmp 45) 22 5 (.int .u8 0) rfl Tryz.underlying22 zeroU8 rfl rfl X (63 - f) (63 - f) rfl (w.heap.size + 1) (f + 1) 147 ((bv blk).set f (.int .u8 128)) ?e1 ?e2 ?e3 (w.heap.size + 1) (wr.setCell ⟨w.heap.size + 1, f, none⟩ (.int .u8 128)) ?e4 ?e5 ?_))
      case e1 => have h := T2.out.set_ f (.int .u8 128); rw [List.setIfInBounds_toArray] at h; exact h
      case e2 => rw [List.length_set, bv_length, HBL.out]; omega
      case e3 => exact HX.out
      case e4 => exact Below.refl _ _
      case e5 => omega
      intro w2 hg2 hb2
      have hg2' := hg2.out
      rw [splice_clear blk f HBL.out hf64, HBT.out] at hg2'
      have HG2 := hide hg2'
      have hbS : Below w.heap.size w w2 := (T3.out.setCell (p := ⟨w.heap.size + 1, f, none⟩) (Nat.le_succ _) _).trans (hb2.mono (Nat.le_succ _))
      have HB2 := hide hbS
      have HW2 := hide ((T1.out.far (p := ⟨w.heap.size + 1, f, none⟩) (Nat.ne_of_lt (Nat.lt_succ_self _)) (.int .u8 128)).below hb2 (Nat.lt_succ_self _))
      have HL2 : Hid ((restL m ++ 128 :: zerosN (63 - f)).length = 64) := hide (by rw [← HBT.out]; simp [HBL.out, zerosN]; omega)
      clear hg2 hb2 hg2' hbS c0 z0 HX hsl T1 T2 T3
      go_upto_if 48 with (fail)
      go_cut [] (fun wx => MidAt w wx m)
      case first =>
        rcases Nat.lt_or_ge 55 f with hf55 | hf55
        · have ht : ((56 : Int) < (f : Int) + 1) := by omega
          have hsz2 : w.heap.size + 1 < w2.heap.size := HG2.out.lt
          go_wp2_with fail
          refine (comp_any w.heap.size 146 (w.heap.size + 1) 0 (stateL m) (restL m ++ 128 :: zerosN (63 - f)) _ (BytesAt.of_blk HG2.out) hsz2 HL2.out ?d1 (stateL_ok _) (by omega) ?d2 h1).mono ?_
          case d1 => exact HW2.out
          case d2 => exact HK.out.keep fun p hp => below_cell HB2.out p (by rw [hp]; exact h1)
          rintro e w3 ⟨rfl, hs3, hg3⟩
          have HS3 := hide hs3
          have HGR := hide hg3
          clear hs3 hg3
          go_wp2_with ((with_reducible refine wpList_clear_row rfl (.tmp 50) 22 5 (.int .u8 0) rfl Tryz.underlying22 zeroU8 rfl rfl (some ⟨w.heap.size + 1, 0, none⟩) 64 64 rfl (w.heap.size + 1) 0 147 (bv (restL m ++ 128 :: zerosN (63 - f))) ?g1 ?g2 ?g3 (w.heap.size + 1) w3 ?g4 ?g5 ?_))
          case g1 => exact HG2.out.grown HGR.out (by intro h; injection h with h; omega)
          case g2 => rw [bv_length, HL2.out]; omega
          case g4 => exact Below.refl _ _
          case g5 => omega
          intro w4 hg4 hb4
          have HG4 := hide hg4.out
          have HB4 := hide hb4
          clear hg4 hb4
          go_wp2_with fail
          go_meet
          have hB3 : Below w.heap.size w w3 := HB2.out.grown HGR.out HB2.out.size (fun g h => by injection h with h; omega)
          refine ⟨comp (stateL m) (restL m ++ 128 :: zerosN (63 - f)), zerosN 64, comp_ok _ _, by simp [zerosN], ?_, HS3.out.below HB4.out (Nat.lt_succ_self _), ?_, hB3.trans (HB4.out.mono (Nat.le_succ _))⟩
          · have h := sum_two m (by rw [HL.out, HLF.out]; exact hf55)
            rw [HL.out, HLF.out] at h
            rw [h, HL.out]
            rfl
          · have h : Blk w4 (w.heap.size + 1) 147 (splice (bv (restL m ++ 128 :: zerosN (63 - f))) 0 (List.replicate 64 (Value.int .u8 0))).toArray := HG4.out
            have e : splice (bv (restL m ++ 128 :: zerosN (63 - f))) 0 (List.replicate 64 (Value.int .u8 0)) = bv (zerosN 64) := by
              have e2 : List.replicate 64 (Value.int .u8 0) = bv (zerosN 64) := by simp [bv, zerosN]
              rw [e2, splice_bv, List.drop_of_length_le (by rw [HL2.out]; simp [zerosN])]
              simp
            rw [e] at h
            exact h
        · have ht : ¬ ((56 : Int) < (f : Int) + 1) := by omega
          go_wp2_with fail
          go_meet
          refine ⟨stateL m, _, stateL_ok m, HL2.out, ?_, HW2.out, HG2.out, HB2.out⟩
          have h := sum_one m (by rw [HL.out, HLF.out]; exact hf55)
          rw [HL.out, HLF.out] at h
          rw [h, HL.out]
          congr 3
          have e1 : (restL m).length = f := by rw [restL_length, HL.out, HLF.out]
          rw [show 63 - f = (55 - f) + 8 by omega, zerosN_add, ← List.cons_append, ← List.append_assoc, List.take_append_of_le_length (by simp [e1, zerosN]; omega), List.take_of_length_le (by simp [e1, zerosN]; omega)]
      case rest =>
        obtain ⟨st, blk2, hst, hb2, hsum, hw3, hg3, hbel⟩ := hcut
        have HSUM := hide hsum
        have HB2' := hide hb2
        have HW3 := hide hw3
        have HG3 := hide hg3
        have HBE := hide hbel
        have HST := hide hst
        have hsz : w.heap.size + 1 < wc.heap.size := hg3.lt
        clear hsum hb2 hw3 hg3 hbel hst HW2 HG2 HB2 HL2 hall HBT HBL HLF hf64
        have v8 : IntKind.u64.wrap (8 * (L : Int)) = ((8 * L : Nat) : Int) := by simp [IntKind.wrap, IntKind.bits, IntKind.signed]; omega
        have v1 : IntKind.u64.wrap (L : Int) = L := by simp [IntKind.wrap, IntKind.bits, IntKind.signed]; omega
        have hs56 : ∀ W, (Instr.sliceAt 147 (.pointer (some ⟨w.heap.size + 1, 0, none⟩)) (some (.int .i64 56)) none none).run Tryz.prog W = .ok (.slice (some ⟨w.heap.size + 1, 56, none⟩) 8 8) W := fun W => by
          have := run_sliceAt_from (P := Tryz.prog) 147 5 64 Tryz.underlying147 sizeU8 (w.heap.size + 1) 0 .i64 56 (by omega) (by omega) W
          simpa using this
        go_upto_region 21 with (fail)
        go_cut [] (fun wx => EndAt w wx m)
        case first =>
          go_region_held3 (fun V => True) (trivial)
            (first
              | (go_at_call 68; refine (put_yes (8 * L) 8 _ (by omega) (by omega) (by omega)).mono ?_
                 rintro e w5 ⟨v, rfl, ho, hb5⟩
                 obtain ⟨Ap, cp, rfl⟩ := own_slice ho
                 have HO := hide ho
                 have HB5 := hide hb5
                 clear ho hb5)
              | ((refine step_copy_splice rfl (.tmp 51) (.tmp 55) 22 22 rfl 5 Tryz.underlying22 sizeU8 (some ⟨w.heap.size + 1, 56, none⟩) Ap 8 8 8 cp (by rfl) (by rfl) (w.heap.size + 1) 56 (bv blk2) 147 (Blk.below (h := HG3.out.drew) (hb := HB5.out) (hg := hsz)) (bv (be 8 (8 * L))) (by simp [bv, be_length]) (fun _ => by obtain ⟨ad, e, _, hc⟩ := (Reads.of_own HO.out).2 (by omega); exact ⟨rfl, ad, e, hc⟩) (by simp [bv, be_length, HB2'.out]) (bv_one _) (w.heap.size + 1) w5 (Below.refl _ _) (Nat.le_refl _) ?_
                  intro w6 hg6 hb6)))
          all_goals
            go_wp2_with fail
            go_meet
          all_goals
            have hw6 := hg6.out
            have e : splice (bv blk2) 56 (bv (be 8 (8 * L))) = bv (blk2.take 56 ++ be 8 (8 * L)) := by
              rw [splice_bv, List.drop_of_length_le (by rw [HB2'.out, be_length]; omega), List.append_nil]
            rw [e] at hw6
            have hS5 := Blk.below (h := HW3.out.drew) (hb := HB5.out) (hg := by show _ < wc.heap.size; omega)
            refine ⟨st, blk2.take 56 ++ be 8 (8 * L), HST.out, by simp [HB2'.out, be_length], by rw [HSUM.out, HL.out], hS5.below hb6 (Nat.lt_succ_self _), hw6, ?_⟩
            exact (below_more (Below.drew HBE.out) (Nat.le_refl _) HB5.out).trans (hb6.mono (Nat.le_succ _))
        case rest =>
          rename_i wc0 _ _
          clear HSUM HB2' HW3 HG3 HBE HST hsz v8 v1 hs56
          obtain ⟨st2, blk3, hst, hb2, hsum, hw3, hg3, hbel⟩ := hcut
          have HSUM := hide hsum
          have HB2' := hide hb2
          have HW3 := hide hw3
          have HG3 := hide hg3
          have HBE := hide hbel
          have hsz := hg3.lt
          clear hsum hb2 hw3 hg3 hbel
          go_wp2_with fail
          refine (comp_any w.heap.size 146 (w.heap.size + 1) 0 st2 blk3 _ (BytesAt.of_blk HG3.out) hsz HB2'.out ?d1 hst (by omega) ?d2 h1).mono ?_
          case d1 => exact HW3.out
          case d2 => exact HK.out.keep fun p hp => below_cell HBE.out p (by rw [hp]; exact h1)
          rintro e w3 ⟨rfl, hs3, hg3⟩
          have hB3 : Below w.heap.size w w3 := HBE.out.grown hg3 HBE.out.size (fun g h => by injection h with h; omega)
          obtain ⟨S, hS⟩ : ∃ S, comp st2 blk3 = S := ⟨_, rfl⟩
          have hSok : S.ok := by rw [← hS]; exact comp_ok _ _
          rw [hS] at hs3
          have HSE := hide hS
          have HB3 := hide hB3
          have HSOK := hide hSok
          have hsz3 : w.heap.size < w3.heap.size := hs3.lt
          have q0 := hs3.cell 0
          have q1 := hs3.cell 1
          have q2 := hs3.cell 2
          have q3 := hs3.cell 3
          have q4 := hs3.cell 4
          have q5 := hs3.cell 5
          have q6 := hs3.cell 6
          have q7 := hs3.cell 7
          rw [st_cells] at q0 q1 q2 q3 q4 q5 q6 q7
          simp only [List.getElem?_toArray, List.getElem?_cons_zero, List.getElem?_cons_succ] at q0 q1 q2 q3 q4 q5 q6 q7
          have hmk : ∀ W, (Instr.makeSlice 22 (.int .i64 0) (.int .i64 32)).run Tryz.prog W = .ok (.slice (some ⟨W.heap.size, 0, none⟩) 0 32) (W.alloc (.cells (bv (zerosN 32)).toArray 5)) := fun W => by
            have h := run_make_rowN (P := Tryz.prog) 22 5 i0 _ Tryz.underlying22 hi0 hz0 .i64 .i64 0 32 (by omega) (by rw [hz2]; omega) (by omega) W
            have e : madeCells (Value.int IntKind.u8 0).cells (32 * i0.size) = (bv (zerosN 32)).toArray := by rw [hz1]; exact Array.toList_inj.1 (made_bytes 32)
            rw [e] at h
            exact h
          have hown0 : World.ownsRow (w3.alloc (.cells (bv (zerosN 32)).toArray 5)) w.heap.size 5 1 (.slice (some ⟨w3.heap.size, 0, none⟩) 0 32) 0 [] :=
            ⟨by simp, .inr ⟨w3.heap.size, 32, (bv (zerosN 32)).toArray, rfl, by omega, Blk.new _ _ _, Nat.zero_le _, by unfold maxLen; omega, by simp [bv, zerosN], by simp⟩⟩
          have HO0 := hide hown0
          clear hown0
          obtain ⟨Z, hZ⟩ : ∃ Z, (bv (zerosN 32)).toArray = Z := ⟨_, rfl⟩
          rw [hZ] at hmk HO0
          clear hZ
          clear hs3 hg3 hB3 hSok hS hst hsz
          go_wp2_with fail
          clear q0 q1 q2 q3 q4 q5 q6 q7 hmk
          go_loopw [10, 60] (fun u10 i wx => ∃ (k : Nat) (A : Option Addr) (c : Nat), k ≤ 8 ∧ i = .int .i64 k ∧ u10 = .slice A (4 * k) c ∧ wx.ownsRow w.heap.size 5 1 (.slice A (4 * k) c) (4 * k) (bv ((S.list.take k).flatMap fun x => be 4 x)) ∧ Below w.heap.size w wx) (fun _ i _ => 8 - (intOf i).toNat)
          case atStart => exact ⟨0, _, _, Nat.zero_le _, rfl, rfl, HO0.out, HB3.out.alloc HB3.out.size _⟩
          case round =>
            obtain ⟨k, A3, c3, hk8, rfl, rfl, ho, hbe⟩ := hrel
            have HO := hide ho
            have HBX := hide hbe
            have hszw := hbe.size
            clear ho hbe HO0 HB3
            by_cases hlt : k < 8
            · obtain ⟨x, hx⟩ : ∃ x, S.list[k]? = some x := ⟨_, List.getElem?_eq_getElem (by simp [St.list]; omega)⟩
              have hxl : x < 4294967296 := HSOK.out x (List.mem_of_getElem? hx)
              have hix := ix8 S.a S.b S.c S.d S.e S.f S.g S.h k x hx
              have e24 : IntKind.u8.wrap ((x : Int) / 16777216) = ((UInt8.ofNat (x / 256 ^ 3)).toNat : Int) := by simp [IntKind.wrap, IntKind.bits, IntKind.signed]
              have e16 : IntKind.u8.wrap ((x : Int) / 65536) = ((UInt8.ofNat (x / 256 ^ 2)).toNat : Int) := by simp [IntKind.wrap, IntKind.bits, IntKind.signed]
              have e8 : IntKind.u8.wrap ((x : Int) / 256) = ((UInt8.ofNat (x / 256 ^ 1)).toNat : Int) := by simp [IntKind.wrap, IntKind.bits, IntKind.signed]
              have e0 : IntKind.u8.wrap (x : Int) = ((UInt8.ofNat (x / 256 ^ 0)).toNat : Int) := by simp [IntKind.wrap, IntKind.bits, IntKind.signed]
              have hnews : bv (be 4 x) = [.int .u8 ((UInt8.ofNat (x / 256 ^ 3)).toNat : Int), .int .u8 ((UInt8.ofNat (x / 256 ^ 2)).toNat : Int), .int .u8 ((UInt8.ofNat (x / 256 ^ 1)).toNat : Int), .int .u8 ((UInt8.ofNat (x / 256 ^ 0)).toNat : Int)] := rfl
              have HNE := hide hnews
              obtain ⟨y3, hy3⟩ : ∃ y, ((UInt8.ofNat (x / 256 ^ 3)).toNat : Int) = y := ⟨_, rfl⟩
              obtain ⟨y2, hy2⟩ : ∃ y, ((UInt8.ofNat (x / 256 ^ 2)).toNat : Int) = y := ⟨_, rfl⟩
              obtain ⟨y1, hy1⟩ : ∃ y, ((UInt8.ofNat (x / 256 ^ 1)).toNat : Int) = y := ⟨_, rfl⟩
              obtain ⟨y0, hy0⟩ : ∃ y, ((UInt8.ofNat (x / 256 ^ 0)).toNat : Int) = y := ⟨_, rfl⟩
              rw [hy3] at e24 HNE
              rw [hy2] at e16 HNE
              rw [hy1] at e8 HNE
              rw [hy0] at e0 HNE
              have htk : (S.list.take (k + 1)).flatMap (fun x => be 4 x) = (S.list.take k).flatMap (fun x => be 4 x) ++ be 4 x := by
                obtain ⟨hkl, hkx⟩ := List.getElem?_eq_some_iff.1 hx
                rw [List.take_succ_eq_append_getElem hkl, hkx]
                simp
              have HTK := hide htk
              have hr4 : Reads (wr.alloc (.cells #[.int .u8 y3, .int .u8 y2, .int .u8 y1, .int .u8 y0] 5)) (wr.heap.size + 1) 1 (some ⟨wr.heap.size, 0, none⟩) 4 (bv (be 4 x)) := by
                refine ⟨by simp [bv, be_length], fun _ => ⟨_, rfl, Nat.lt_succ_self _, fun j u hu => ?_⟩⟩
                rw [at_add, Nat.zero_add, (Blk.new wr 5 #[.int .u8 y3, .int .u8 y2, .int .u8 y1, .int .u8 y0]).cell j, ← hu, HNE.out]
                simp only [List.getElem?_toArray]
              have HR4 := hide hr4
              have d0 : (0 : Int) ≤ (k : Int) := by omega
              have d1 : (k : Int) < 8 := by omega
              clear hx hnews hy3 hy2 hy1 hy0 htk hr4
              go_wp2_with (at_builtin; (refine wpList_append_any _ rfl (.tmp 63) (.tmp 75) 22 rfl w.heap.size 5 i0 _ 1 1 Tryz.underlying22 hi0 hz0 hz1 hz2 rfl (by omega) (.slice A3 (4 * k) c3) (4 * k) _ rfl (HO.out.alloc _) (wr.heap.size + 1) (some ⟨wr.heap.size, 0, none⟩) 4 4 (bv (be 4 x)) rfl HR4.out (bv_one _) ?a1 ?a2 ?a3 ?_))
              case a1 => unfold maxLen; omega
              case a2 => omega
              case a3 => simp; omega
              intro v1 w5 hown1 hg1 hat1
              obtain ⟨A5, c5, rfl⟩ := own_slice hown1
              have HO5 := hide hown1
              have HB5 := hide (Below.grown (h := HBX.out.alloc HBX.out.size (.cells #[.int .u8 y3, .int .u8 y2, .int .u8 y1, .int .u8 y0] 5)) (hg := hg1) (by simp; omega) (fun g hg => (World.ownsRow.lt HO.out g hg).1))
              clear hown1 hg1 hat1
              go_wp2_with fail
              clear hix e24 e16 e8 e0
              go_roundw
              case rel =>
                refine ⟨k + 1, A5, c5, by omega, by go_num, by rw [show 4 * k + 4 = 4 * (k + 1) by omega], ?_, HB5.out⟩
                have h := HO5.out
                rw [← bv_append, ← HTK.out, show 4 * k + 4 = 4 * (k + 1) by omega] at h
                exact h
              case measure => simp [intOf]; omega
            · obtain rfl : k = 8 := by omega
              clear hk8 hlt
              go_wp2_with fail
              go_ret
              refine ⟨A3, c3, rfl, ?_, HBX.out⟩
              have h := HO.out
              rw [HMM.out, HSUM.out, HSE.out]
              exact h
end Go.Proofs.YtbbobffedgcbhaaGreatDoor
