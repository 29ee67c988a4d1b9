/- The document's Scan, Verify, Head. -/
import Derived.Test.YtkiphaagdckkjaaDoorChK
namespace Go.Proofs.YtkiphaagdckkjaaDoor
open Go.RowKit
set_option linter.unusedVariables false
theorem Reads.grownAt {w w' : World} {A : Option Addr} {n : Nat} {xs : List Value} (h : Reads w w.heap.size 1 A n xs) {row : Option Nat} (hg : w.grownBy w' row) (hne : ∀ x, A = some x → 0 < n → some x.block ≠ row) : Reads w' w'.heap.size 1 A n xs := by
  refine ⟨h.1, fun h0 => ?_⟩
  obtain ⟨ad, e, hb, hc⟩ := h.2 h0
  refine ⟨ad, e, Nat.lt_of_lt_of_le hb hg.size, fun j u hj => ?_⟩
  have e2 : w'.cell? (ad.add j) = w.cell? (ad.add j) := World.cell?_of_block (by rw [block_of_add]; exact hg.block _ hb (hne ad e h0))
  rw [e2]; exact hc j u hj
theorem head_step (bs : LB) {i : Nat} {r : Rec} (h : (scanB bs).1[i]? = some r) : (bs.drop (lenP ((scanB bs).1.take i))).take 2 = be 2 (encP r).length ∧ lenP ((scanB bs).1.take i) + (2 + (encP r).length + 32) ≤ bs.length ∧ lenP ((scanB bs).1.take (i + 1)) = lenP ((scanB bs).1.take i) + (2 + (encP r).length + 32) ∧ (encP r).length ≤ 560 := by
  obtain ⟨h1, h2, h3⟩ := scanB_take bs
  have h4 := scanB_end bs
  have h5 : lenP (scanB bs).1 = (scanB bs).2.2 := scan_lenP _ _ _ _
  obtain ⟨L, hL⟩ : ∃ L, (scanB bs).1 = L := ⟨_, rfl⟩
  obtain ⟨E, hE⟩ : ∃ E, (scanB bs).2.2 = E := ⟨_, rfl⟩
  rw [hL, hE] at h1 h5
  rw [hL] at h3 h ⊢
  rw [hE] at h4
  clear hL hE h2
  obtain ⟨hi, he⟩ := List.getElem?_eq_some_iff.1 h
  have e1 : L = L.take i ++ r :: L.drop (i + 1) := by
    conv => lhs; rw [← List.take_append_drop i L]
    rw [List.drop_eq_getElem_cons hi, he]
  have hv : validP r = true := by
    rw [e1, ok_append] at h3
    exact h3.2.1
  have e2 : lenP (L.take (i + 1)) = lenP (L.take i) + (2 + (encP r).length + 32) := by
    rw [List.take_succ_eq_append_getElem hi, he, lenP_append]
    rfl
  have e3 : lenP (L.take (i + 1)) ≤ lenP L := by
    have e : lenP L = lenP (L.take (i + 1)) + lenP (L.drop (i + 1)) := by rw [← lenP_append, List.take_append_drop]
    omega
  have e4 : bs = allP zero32 (L.take i) ++ (entP (lastP zero32 (L.take i)) r ++ allP (digP (lastP zero32 (L.take i)) (encP r)) (L.drop (i + 1)) ++ bs.drop E) := by
    have e5 : allP zero32 L = allP zero32 (L.take i) ++ (entP (lastP zero32 (L.take i)) r ++ allP (digP (lastP zero32 (L.take i)) (encP r)) (L.drop (i + 1))) := by
      conv => lhs; rw [e1]
      rw [all_append, allP]
    conv => lhs; rw [← List.take_append_drop E bs, h1, e5]
    rw [List.append_assoc]
  refine ⟨?_, by omega, e2, enc_small hv⟩
  obtain ⟨X, hX⟩ : ∃ X, bs.drop E = X := ⟨_, rfl⟩
  rw [hX] at e4
  have e6 := all_length (L.take i) zero32
  conv => lhs; rw [e4]
  rw [List.drop_left' e6]
  have e7 : entP (lastP zero32 (L.take i)) r ++ allP (digP (lastP zero32 (L.take i)) (encP r)) (L.drop (i + 1)) ++ X = be 2 (encP r).length ++ (encP r ++ (digP (lastP zero32 (L.take i)) (encP r) ++ (allP (digP (lastP zero32 (L.take i)) (encP r)) (L.drop (i + 1)) ++ X))) := by
    unfold entP; simp
  rw [e7, List.take_append_of_le_length (by rw [be_length]; omega), List.take_of_length_le (by rw [be_length]; omega)]
def RScanEnd (bs : LB) (w : World) (e : Ending) (w' : World) : Prop := ∃ O co D dn l, e = .returned (.tuple #[.slice O l.length co, .slice D 32 dn, .int .i64 ((scanB bs).2.2 : Int)]) ∧ RowR w' O l.length l ∧ l.length ≤ co ∧ l.map RV.r = (scanB bs).1 ∧ Rd w' D 32 (scanB bs).2.1 ∧ Below w.heap.size w w'
set_option maxRecDepth 100000 in
set_option maxHeartbeats 8000000 in
theorem rscan_any (A : Option Addr) (n c : Nat) (bs : LB) (w : World) (hR : Rd w A n bs) (hnc : n ≤ c) (hn : n ≤ 30000) :
    Calls Tryd.prog 15 #[.slice A n c] w (RScanEnd bs w) := by
  obtain ⟨j0, hj0, jz0, jz1, jz2⟩ := info_rec
  have HR := hide hR
  have HL := hide hR.len
  clear hR
  go_enter Tryd.func15, Tryd.ntmps15
  go_wp2_with fail
  refine (rroot_any w).mono ?_
  rintro e0 w0 ⟨rfl, hZ, hb0⟩
  have HB0 := hide hb0
  have HZ0 := hide hZ.rd
  clear hZ hb0
  go_wp2_with fail
  go_loopw [5, 6, 7] (fun u5 u6 u7 wx => ∃ (l : List RV) (e : Nat) (h : LB) (D : Option Addr) (dn co : Nat) (O : Option Addr), u5 = .slice O l.length co ∧ u6 = .slice D 32 dn ∧ u7 = .int .i64 (e : Int) ∧ Hid (Rd wx D 32 h) ∧ 32 ≤ dn ∧ Hid (AtS bs (l.map RV.r) e h) ∧ e ≤ n ∧ 34 * l.length ≤ e ∧ Hid (OutR w.heap.size wx O l.length co l) ∧ Hid (Below w.heap.size w wx)) (fun _ _ e _ => n - (intOf e).toNat)
  case atStart =>
    exact ⟨[], 0, zero32, some ⟨w.heap.size, 0, none⟩, 32, 0, none, rfl, rfl, rfl, HZ0, Nat.le_refl _, hide (at_start bs), Nat.zero_le _, Nat.le_refl _, hide (OutR.nil _ _), HB0⟩
  case round =>
    clear HZ0 HB0
    obtain ⟨l, e, h, D, dn, co, O, rfl, rfl, rfl, HD, hdn, HAT, he, hfew, HO, HB⟩ := hrel
    have hsl := fun W => sl_from A n c e .i64 (e : Int) rfl he W
    have hr2 := rd_from (rb HR.out HB.out) he hnc
    have HLL : Hid ((l.map RV.r).length = l.length) := hide (List.length_map ..)
    have XN := hide (rnext_any (from_ c e A) D (n - e) (c - e) dn l.length (bs.drop e) h wr hr2 (by omega) (by omega) HD.out hdn)
    generalize from_ c e A = AA at *
    obtain ⟨cc, hcc⟩ : ∃ cc, c - e = cc := ⟨_, rfl⟩
    obtain ⟨mm, hmm⟩ : ∃ mm, n - e = mm := ⟨_, rfl⟩
    rw [hcc, hmm] at hsl XN
    clear hcc hr2
    obtain ⟨k, hk⟩ : ∃ k, l.length = k := ⟨_, rfl⟩
    have HK := hide hk
    rw [hk] at hfew HO XN HLL ⊢
    clear hk
    cases hnx : nextP h k (bs.drop e) with
    | none =>
      rw [hnx] at XN
      unfold NextEnd at XN
      dsimp only at XN
      have HE : Hid (scanB bs = (l.map RV.r, h, e)) := hide (at_end HAT.out (by rw [HLL.out]; exact hnx))
      clear hnx hmm
      go_wp2_with fail
      refine XN.out.mono ?_
      rintro e1 w1 ⟨rfl, hb1⟩
      have hb2 := below_more hb1 (Nat.le_refl _) (bl_alloc w1 (.cells #[.int .i64 0, .int .i64 0, .string ⟨#[]⟩, .string ⟨#[]⟩, .slice none 0 0, .bool false] 24))
      have HEND : Hid (RScanEnd bs w (.returned (.tuple #[.slice O k co, .slice D 32 dn, .int .i64 (e : Int)])) (w1.alloc (.cells #[.int .i64 0, .int .i64 0, .string ⟨#[]⟩, .string ⟨#[]⟩, .slice none 0 0, .bool false] 24))) := hide (by
        have h1 := OutR.below HO.out hb2
        rw [← HK.out] at h1 ⊢
        exact ⟨O, co, D, dn, l, by rw [HE.out], h1.row, h1.le, by rw [HE.out], by rw [HE.out]; exact rb HD.out hb2, below_more HB.out (Nat.le_refl _) hb2⟩)
      clear hb1 hb2 XN HO HD HAT
      go_wp2_with fail
      refine bodyPost_ret (v := .tuple #[.slice O k co, .slice D 32 dn, .int .i64 (e : Int)]) (by simp only [results, Tryd.results15]; go_simp) rfl HEND.out
    | some x =>
      obtain ⟨r, own, z⟩ := x
      rw [hnx] at XN
      unfold NextEnd Rec.v at XN
      dsimp only at XN
      have HN := hide (at_step HAT.out (show nextP h (l.map RV.r).length (bs.drop e) = some (r, own, z) by rw [HLL.out]; exact hnx))
      have hz2 := next_len hnx
      have hz3 : e + z ≤ n := by have h1 := hz2.2.1; rw [List.length_drop, HL.out] at h1; omega
      have hz4 : 34 ≤ z := hz2.1
      obtain ⟨sq, op, pa, pb, dg, al⟩ := r
      dsimp only at XN
      clear hnx hz2 hmm
      go_wp2_with fail
      refine XN.out.mono ?_
      rintro e1 w2 ⟨A4, n4, c4, B4, d4, rfl, h1, h2, h3, h4, h5, ⟨adB, rfl, h6⟩, h7⟩
      obtain ⟨WL, hWL⟩ : ∃ W, w2.alloc (.cells #[.int .i64 sq, .int .i64 op, .string ⟨pa.toArray⟩, .string ⟨pb.toArray⟩, .slice A4 n4 c4, .bool al] 24) = W := ⟨_, rfl⟩
      have hba : Below w2.heap.size w2 WL := by rw [← hWL]; exact bl_alloc _ _
      have hz := Blk.new w2 24 #[.int .i64 sq, .int .i64 op, .string ⟨pa.toArray⟩, .string ⟨pb.toArray⟩, .slice A4 n4 c4, .bool al]
      rw [hWL] at hz
      obtain ⟨z0, z1, z2, z3, z4, z5⟩ := hz.six
      have hzl := hz.lt
      have hb8 := below_more h7 (Nat.le_refl _) hba
      have hb9 := bl_alloc WL (.cells #[.int .i64 sq, .int .i64 op, .string ⟨pa.toArray⟩, .string ⟨pb.toArray⟩, .slice A4 n4 c4, .bool al] 24)
      have hb10 := below_more hb8 (Nat.le_refl _) hb9
      have HB10 := hide (below_more HB.out (Nat.le_refl _) hb10)
      have HO10 := hide (OutR.below HO.out hb10)
      have HX10 := hide ((show RVok w2 ⟨⟨sq, op, pa, pb, dg, al⟩, A4, n4, c4⟩ from ⟨h1, h2⟩).below (below_more hba (Nat.le_refl _) hb9))
      have HY10 := hide (rb h4 (below_more hba (Nat.le_refl _) hb9))
      have HF10 := hide (rv_fresh HO.out (Nat.le_refl _) h3)
      have HGO : Hid (∀ g, (Value.slice O k co).ownBlock = some g → w.heap.size ≤ g ∧ g < wr.heap.size) := hide (fun g hg => HO.out.1.lt g hg)
      have hone : Reads (WL.alloc (.cells #[.int .i64 sq, .int .i64 op, .string ⟨pa.toArray⟩, .string ⟨pb.toArray⟩, .slice A4 n4 c4, .bool al] 24)) (WL.heap.size + 1) 6 (some ⟨WL.heap.size, 0, none⟩) 1 (rcs [⟨⟨sq, op, pa, pb, dg, al⟩, A4, n4, c4⟩]) := by
        have h := one_rec (x := ⟨⟨sq, op, pa, pb, dg, al⟩, A4, n4, c4⟩) (W := WL.alloc (.cells #[.int .i64 sq, .int .i64 op, .string ⟨pa.toArray⟩, .string ⟨pb.toArray⟩, .slice A4 n4 c4, .bool al] 24)) (g := WL.heap.size) (Blk.new WL 24 #[.int .i64 sq, .int .i64 op, .string ⟨pa.toArray⟩, .string ⟨pb.toArray⟩, .slice A4 n4 c4, .bool al])
        simpa using h
      have HONE := hide hone
      have hs10 := HB10.out.size
      have kz : ¬ (z : Int) < 0 := by omega
      have v1 : IntKind.i64.wrap ((e : Int) + (z : Int)) = (e : Int) + (z : Int) := by simp [IntKind.wrap, IntKind.bits, IntKind.signed]; omega
      have h6' : Hid (wr.heap.size ≤ adB.block) := hide h6
      clear h1 h2 h3 h4 h6 h7 hba hz hb8 hb9 hb10 hone XN HO HD HAT
      go_wp2_with (at_builtin; (refine wpList_append_any _ rfl (.tmp 28) (.tmp 30) 34 rfl w.heap.size 24 j0 _ 6 80 Tryd.underlying34 hj0 jz0 jz1 jz2 rfl (by omega) (.slice O k co) k (rcs l) rfl HO10.out.1 (WL.heap.size + 1) (some ⟨WL.heap.size, 0, none⟩) 1 1 _ rfl HONE.out (rcs_one _) ?b1 ?b2 ?b3 ?_))
      case b1 => unfold maxLen; omega
      case b2 => omega
      case b3 => simp at hs10 ⊢; omega
      intro v5 w5 ho5 hg5 hat5
      obtain ⟨O5, co5, rfl⟩ := own_slice ho5
      have HO5 := hide (out_grow HO10.out HX10.out HF10.out ho5 hg5 (by simpa using hat5))
      have HY5 := hide (Reads.grownAt HY10.out hg5 (fun x hx h0 h => by
        injection hx with hx
        have h8 := (HGO.out _ h.symm).2
        have h9 := h6'.out
        rw [← hx] at h8
        omega))
      have HB5 := hide (HB10.out.grown hg5 HB10.out.size (fun g h => (HGO.out g h).1))
      clear ho5 hg5 hat5 HO10 HX10 HF10 HY10 HB10 HONE hs10 z0 z1 z2 z3 z4 z5 hzl hWL
      go_wp2_with fail
      clear v1 kz
      go_roundw
      case rel => exact ⟨l ++ [⟨⟨sq, op, pa, pb, dg, al⟩, A4, n4, c4⟩], e + z, own, some adB, d4, co5, O5, by rw [List.length_append, HK.out]; rfl, rfl, by go_num, HY5, h5, hide (by rw [List.map_append]; exact HN.out), hz3, by rw [List.length_append, HK.out]; simp; omega, hide (by rw [List.length_append, HK.out]; exact HO5.out), HB5⟩
      case measure => simp [intOf]; omega
set_option maxRecDepth 100000 in
set_option maxHeartbeats 2000000 in
theorem rverify_any (A : Option Addr) (n c : Nat) (bs : LB) (w : World) (hR : Rd w A n bs) (hnc : n ≤ c) (hn : n ≤ 30000) :
    Calls Tryd.prog 20 #[.slice A n c] w fun e w' => e = .returned (.bool (verP bs)) ∧ Below w.heap.size w w' := by
  have X := hide (rscan_any A n c bs w hR hnc hn)
  have hl := hR.len
  clear hR
  obtain ⟨b, hb⟩ : ∃ b, verP bs = b := ⟨_, rfl⟩
  rw [hb]
  unfold verP at hb
  rw [hl] at hb
  unfold RScanEnd at X
  obtain ⟨z, hz⟩ : ∃ z, (scanB bs).2.2 = z := ⟨_, rfl⟩
  rw [hz] at hb X
  clear hz hl
  go_enter Tryd.func20, Tryd.ntmps20
  go_wp2_with fail
  refine X.out.mono ?_
  rintro e w1 ⟨O, co, D, dn, l, rfl, _, _, _, _, h1⟩
  have HB1 := hide h1
  clear h1 X
  go_wp2_with fail
  go_ret
  exact ⟨rfl, HB1.out⟩
end Go.Proofs.YtkiphaagdckkjaaDoor
