/- The contract of record.Line. -/
import Derived.Test.YtabbkhkkhphgdaaDoorRecE
import Derived.Test.YtabbkhkkhphgdaaDoorJoin
namespace Go.Proofs.YtabbkhkkhphgdaaDoor
open Go.RowKit
set_option linter.unusedVariables false
def verdP (al : Bool) : LB := if al = true then [97, 108, 108, 111, 119] else [100, 101, 110, 121]
def lineL (r : Rec) : List LB := [Lib.itoa r.seq, verdP r.allow, wordL r.op.toNat, r.path] ++ (if r.op = 14 then [r.path2] else if r.op = 7 then [hexL r.dig] else [])
def lineP (r : Rec) : LB := if validP r = true then Lib.join (lineL r) [32] else []
theorem word_len (j : Nat) : (wordL j).length ≤ 7 := by
  unfold wordL
  split <;> decide
theorem verd_len (al : Bool) : (verdP al).length ≤ 5 := by cases al <;> decide
set_option maxRecDepth 100000 in
set_option maxHeartbeats 4000000 in
theorem line_no (q op : Int) (p p2 d : LB) (al : Bool) (A : Option Addr) (n c : Nat) (hd : d.length = n) (w : World) (hS : Std w) (hV : validP ⟨q, op, p, p2, d, al⟩ = false) :
    Calls Tryd.prog 16 #[Rec.v ⟨q, op, p, p2, d, al⟩ A n c] w fun e w' => e = .returned (.string ⟨([] : LB).toArray⟩) ∧ Below w.heap.size w w' := by
  have hb := (Below.refl w.heap.size w).alloc (Nat.le_refl _) (.cells (Rec.cs ⟨q, op, p, p2, d, al⟩ A n c) 24)
  have HB := hide hb
  have HS := hide (hS.below hb)
  have XC := hide (fun W h => check_any q op p p2 d al A n c hd W h)
  rw [hV] at XC
  clear hb hS hV hd
  unfold Rec.v Rec.cs at *
  dsimp only at *
  go_enter Tryd.func16, Tryd.ntmps16
  go_wp2_with fail
  refine (XC.out _ HS.out).mono ?_
  rintro e w1 ⟨rfl, hb⟩
  have HB1 := hide (below_more HB.out (Nat.le_refl _) hb)
  clear hb XC
  go_wp2_with fail
  go_ret
  exact ⟨rfl, HB1.out⟩
set_option maxRecDepth 100000 in
set_option maxHeartbeats 8000000 in
theorem line_yes (m x : Nat) (p p2 d : LB) (al : Bool) (A : Option Addr) (n c : Nat) (hd : d.length = n) (w : World) (hS : Std w) (hR : Rd w A n d) (hm : m ≤ 2147483647) (hx : x ≤ 14) (hp : p.length ≤ 256) (hp2 : p2.length ≤ 256) (hn : n ≤ 32) (hV : validP ⟨(m : Int), (x : Int), p, p2, d, al⟩ = true) :
    Calls Tryd.prog 16 #[Rec.v ⟨(m : Int), (x : Int), p, p2, d, al⟩ A n c] w fun e w' => e = .returned (.string ⟨(Lib.join (lineL ⟨(m : Int), (x : Int), p, p2, d, al⟩) [32]).toArray⟩) ∧ Below w.heap.size w w' := by
  obtain ⟨i0, hi, hz0, hz1, hz2⟩ := info_parts infoStr
  have hb := (Below.refl w.heap.size w).alloc (Nat.le_refl _) (.cells (Rec.cs ⟨(m : Int), (x : Int), p, p2, d, al⟩ A n c) 24)
  have HB := hide hb
  have HS := hide (hS.below hb)
  have HR := hide (rb hR hb)
  have HX := hide (Blk.new w 24 (Rec.cs ⟨(m : Int), (x : Int), p, p2, d, al⟩ A n c))
  have XC := hide (fun W h => check_any (m : Int) (x : Int) p p2 d al A n c hd W h)
  rw [hV] at XC
  have hr64 : i64R (m : Int) := by unfold i64R; omega
  have XD := hide (fun W (h : Std W) => dec_any_ (m : Int) W hr64 h)
  have hla := itoa_len (m : Int) hr64
  have hlw := word_len x
  have hlv := verd_len al
  have HDL := hide hd
  have HE : Hid (lineL ⟨(m : Int), (x : Int), p, p2, d, al⟩ = [Lib.itoa (m : Int), verdP al, wordL x, p] ++ (if x = 14 then [p2] else if x = 7 then [hexL d] else [])) := hide (by
    unfold lineL
    dsimp only
    rw [Int.toNat_natCast]
    rcases (by omega : x = 14 ∨ x = 7 ∨ (x ≠ 14 ∧ x ≠ 7)) with rfl | rfl | ⟨h1, h2⟩
    · rfl
    · rfl
    · rw [if_neg (by omega), if_neg (by omega), if_neg h1, if_neg h2])
  obtain ⟨R, hRe⟩ : ∃ R, lineL ⟨(m : Int), (x : Int), p, p2, d, al⟩ = R := ⟨_, rfl⟩
  rw [hRe] at HE ⊢
  clear hb hS hV hR hRe hd hr64
  generalize Lib.itoa (m : Int) = a at *
  obtain ⟨v, hv, hvt, hvf⟩ : ∃ v, verdP al = v ∧ (al = true → v = [97, 108, 108, 111, 119]) ∧ (al = false → v = [100, 101, 110, 121]) := by
    cases al
    · exact ⟨_, rfl, by simp, fun _ => rfl⟩
    · exact ⟨_, rfl, fun _ => rfl, by simp⟩
  rw [hv] at HE hlv
  clear hv
  unfold Rec.v Rec.cs at *
  dsimp only at *
  go_enter Tryd.func16, Tryd.ntmps16
  go_wp2_with fail
  refine (XC.out _ HS.out).mono ?_
  rintro e w2 ⟨rfl, hb⟩
  replace HX := hide (HX.out.below hb HX.out.lt)
  replace HB := hide (below_more HB.out (Nat.le_refl _) hb)
  replace HS := hide (HS.out.below hb)
  replace HR := hide (rb HR.out hb)
  clear hb XC
  have f0 := HX.out.cell 0
  have f1 := HX.out.cell 1
  have f2 := HX.out.cell 2
  have f5 := HX.out.cell 5
  have hx2 := HX.out.lt
  simp only [List.getElem?_toArray, List.getElem?_cons_succ, List.getElem?_cons_zero] at f0 f1 f2 f5
  go_upto_if 9 with (fail)
  go_cut [3] (fun u3 wx => u3 = .string ⟨v.toArray⟩ ∧ w2 = wx)
  case first =>
    cases al with
    | true =>
      obtain rfl := hvt rfl
      go_wp2_with fail
      go_meet
      exact ⟨rfl, rfl⟩
    | false =>
      obtain rfl := hvf rfl
      go_wp2_with fail
      go_meet
      exact ⟨rfl, rfl⟩
  case rest =>
    obtain ⟨rfl, rfl⟩ := hcut
    clear hvt hvf
    go_upto_region 6 with (fail)
    go_cut [4] (fun u4 wx => ∃ A4, u4 = .slice A4 4 4 ∧ Hid (Ow w.heap.size wx A4 4 4 [a, v, wordL x, p]) ∧ Hid (Below w.heap.size w wx) ∧ Hid (Blk wx w.heap.size 24 #[.int .i64 (m : Int), .int .i64 (x : Int), .string ⟨p.toArray⟩, .string ⟨p2.toArray⟩, .slice A n c, .bool al]) ∧ Hid (Std wx) ∧ Hid (Rd wx A n d))
    case first =>
      refine wp_region_M (fun V => V.cell? ⟨w.heap.size, 0, none⟩ = some (.int .i64 (m : Int)) ∧ V.cell? ⟨w.heap.size, 1, none⟩ = some (.int .i64 (x : Int)) ∧ V.cell? ⟨w.heap.size, 2, none⟩ = some (.string ⟨p.toArray⟩)) 10 rfl ⟨f0, f1, f2⟩ (fun hHeld => ?_)
      refine wpAnyM_take (i := 0) (v := ?_) rfl rfl (by kernel_rfl) (fun _ _ _ h => h) (Or.inl ⟨by rfl, ?_⟩) (by assumption) ?_
      rotate_left
      · (intro V hV; (try dsimp only at hV); go_simp; with_reducible rfl)
      try simp only [Act.put, List.setIfInBounds_toArray, List.set_cons_zero, List.set_cons_succ]
      refine wpAnyM_take (i := 1) (v := ?_) rfl rfl (by kernel_rfl) (fun _ _ _ h => h) (Or.inl ⟨by rfl, ?_⟩) (by assumption) ?_
      rotate_left
      · (intro V hV; (try dsimp only at hV); go_simp; with_reducible rfl)
      try simp only [Act.put, List.setIfInBounds_toArray, List.set_cons_zero, List.set_cons_succ]
      refine wpAnyM_take (i := 3) (v := ?_) rfl rfl (by kernel_rfl) (fun _ _ _ h => h) (Or.inl ⟨by rfl, ?_⟩) (by assumption) ?_
      rotate_left
      · (intro V hV; (try dsimp only at hV); go_simp; with_reducible rfl)
      try simp only [Act.put, List.setIfInBounds_toArray, List.set_cons_zero, List.set_cons_succ]
      refine wpAnyM_take (i := 4) (v := ?_) rfl rfl (by kernel_rfl) (fun _ _ _ h => h) (Or.inl ⟨by rfl, ?_⟩) (by assumption) ?_
      rotate_left
      · (intro V hV; (try dsimp only at hV); go_simp; with_reducible rfl)
      try simp only [Act.put, List.setIfInBounds_toArray, List.set_cons_zero, List.set_cons_succ]
      refine wpAnyM_take (i := 5) (v := ?_) rfl rfl (by kernel_rfl) (fun _ _ _ h => h) (Or.inl ⟨by rfl, ?_⟩) (by assumption) ?_
      rotate_left
      · (intro V hV; (try dsimp only at hV); go_simp; with_reducible rfl)
      try simp only [Act.put, List.setIfInBounds_toArray, List.set_cons_zero, List.set_cons_succ]
      refine wpAnyM_take (i := 7) (v := ?_) rfl rfl (by kernel_rfl) (fun _ _ _ h => h) (Or.inl ⟨by rfl, ?_⟩) (by assumption) ?_
      rotate_left
      · (intro V hV; (try dsimp only at hV); go_simp; with_reducible rfl)
      try simp only [Act.put, List.setIfInBounds_toArray, List.set_cons_zero, List.set_cons_succ]
      refine wpAnyM_take (i := 8) (v := ?_) rfl rfl (by kernel_rfl) (fun _ _ _ h => h) (Or.inl ⟨by rfl, ?_⟩) (by assumption) ?_
      rotate_left
      · (intro V hV; (try dsimp only at hV); go_simp; with_reducible rfl)
      try simp only [Act.put, List.setIfInBounds_toArray, List.set_cons_zero, List.set_cons_succ]
      refine wpAnyM_step (i := 2) (by kernel_rfl) rfl rfl (fun K hK => ?_)
      · go_simp
        refine (XD.out _ (HS.out.below ((Below.refl w2.heap.size w2).drew))).mono ?_
        rintro e w3 ⟨rfl, hb⟩
        have HS3 := hide ((HS.out.below ((Below.refl w2.heap.size w2).drew)).below hb)
        have HB3 : Hid (Below w.heap.size w w3) := hide (below_more HB.out.drew (Nat.le_refl _) hb)
        have HX3 : Hid (Blk w3 w.heap.size 24 #[.int .i64 (m : Int), .int .i64 (x : Int), .string ⟨p.toArray⟩, .string ⟨p2.toArray⟩, .slice A n c, .bool al]) := hide (HX.out.drew.below hb HX.out.lt)
        have HR3 : Hid (Rd w3 A n d) := hide (rb (w := w2.drew) (rb HR.out ((Below.refl w2.heap.size w2).drew)) hb)
        have d0 := HX3.out.cell 0
        have d1 := HX3.out.cell 1
        have d2 := HX3.out.cell 2
        simp only [List.getElem?_toArray, List.getElem?_cons_succ, List.getElem?_cons_zero] at d0 d1 d2
        refine hK.out _ _ (fun _ => ⟨d0, d1, d2⟩) ?_
        clear hK K hHeld hb
        simp only [List.setIfInBounds_toArray]
        refine wpAnyM_step (i := 6) (by kernel_rfl) rfl rfl (fun K hK => ?_)
        go_simp
        refine (word_in x (by omega) _ HS3.out).mono ?_
        rintro e w5 ⟨rfl, rfl⟩
        refine hK.out _ _ (fun _ => ⟨d0, d1, d2⟩) ?_
        clear hK K d0 d1 d2
        simp only [List.setIfInBounds_toArray]
        refine wpAnyM_step (i := 9) (by kernel_rfl) rfl rfl (fun K hK => ?_)
        go_simp
        have HX4 := hide (HX3.out.alloc (.cells #[.string ⟨a.toArray⟩, .string ⟨v.toArray⟩, .string ⟨(wordL x).toArray⟩, .string ⟨p.toArray⟩] 9))
        have HB4 := hide (HB3.out.alloc HB3.out.size (.cells #[.string ⟨a.toArray⟩, .string ⟨v.toArray⟩, .string ⟨(wordL x).toArray⟩, .string ⟨p.toArray⟩] 9))
        have HO4 := hide (lit4 (B := w.heap.size) w3 HB3.out.size a v (wordL x) p)
        have HS4 := hide (HS3.out.below ((Below.refl w3.heap.size w3).alloc (Nat.le_refl _) (.cells #[.string ⟨a.toArray⟩, .string ⟨v.toArray⟩, .string ⟨(wordL x).toArray⟩, .string ⟨p.toArray⟩] 9)))
        have HR4 := hide (rb HR3.out ((Below.refl w3.heap.size w3).alloc (Nat.le_refl _) (.cells #[.string ⟨a.toArray⟩, .string ⟨v.toArray⟩, .string ⟨(wordL x).toArray⟩, .string ⟨p.toArray⟩] 9)))
        have e0 := HX4.out.cell 0
        have e1 := HX4.out.cell 1
        have e2 := HX4.out.cell 2
        simp only [List.getElem?_toArray, List.getElem?_cons_succ, List.getElem?_cons_zero] at e0 e1 e2
        refine hK.out _ _ (fun _ => ⟨e0, e1, e2⟩) ?_
        clear hK K e0 e1 e2
        simp only [List.setIfInBounds_toArray]
        refine wpAnyM_step (i := 10) (by kernel_rfl) rfl rfl (fun K hK => ?_)
        go_simp
        refine hK.out _ _ (fun h => absurd rfl h) ?_
        refine wpAnyM_done (by kernel_rfl) ?_ _
        clear hK K
        go_wp2_with fail
        go_meet
        exact ⟨_, rfl, HO4, HB4, HX4, HS4, HR4⟩
    case rest =>
      obtain ⟨A4, rfl, HO4, HB4, HX4, HS4, HR4⟩ := hcut
      clear HB HX HS HR f0 f1 f2 f5 hx2 XD
      have f1 := HX4.out.cell 1
      have f3 := HX4.out.cell 3
      have f4 := HX4.out.cell 4
      have hx4 := HX4.out.lt
      simp only [List.getElem?_toArray, List.getElem?_cons_succ, List.getElem?_cons_zero] at f1 f3 f4
      obtain ⟨L4, hL4⟩ : ∃ l, [a, v, wordL x, p] = l := ⟨_, rfl⟩
      have HL4 := hide hL4
      have hsum : Lib.lens L4 ≤ 300 := by rw [← hL4]; simp [Lib.lens]; omega
      rw [hL4] at HO4 HE
      clear hL4
      rcases (by omega : x = 14 ∨ x = 7 ∨ (x ≠ 14 ∧ x ≠ 7)) with rfl | rfl | ⟨hx14, hx7⟩
      · have HE2 : Hid (R = L4 ++ [p2]) := hide (by rw [HE.out, if_pos rfl])
        have HLS : Hid (Lib.lens (L4 ++ [p2]) ≤ 1000000) := hide (by simp [Lib.lens] at hsum ⊢; omega)
        have HOa := HO4
        have HBa := HB4
        clear HE
        have hr1 := one_str wc p2
        have hO1 := HOa.out.alloc (.cells #[.string ⟨(p2).toArray⟩] 9)
        have hsz5 := HBa.out.size
        go_wp2_with (at_builtin; (refine wpList_append_any _ rfl (.tmp 24) (.tmp 27) 60 rfl w.heap.size 9 i0 _ 1 16 Tryd.underlying60 hi hz0 hz1 hz2 rfl (by omega) (.slice A4 4 4) 4 (svs L4) rfl hO1 (wc.heap.size + 1) (some ⟨wc.heap.size, 0, none⟩) 1 1 (svs [p2]) rfl hr1 (svs_one _) ?c1 ?c2 ?c3 ?_))
        case c1 => unfold maxLen; omega
        case c2 => omega
        case c3 => simp; omega
        intro v1 w8 hown1 hg1 hat1
        obtain ⟨A9, c9, rfl, O2, W2⟩ := ow_next' HOa.out hown1 hg1 HBa.out (Nat.le_refl _)
        have HO9 := hide O2
        have HB9 := hide W2
        clear hown1 hg1 hat1 O2 W2 hr1 hO1
        go_wp2_with fail
        refine (join_any (L4 ++ [p2]) A9 5 c9 _ HO9.out.rd HO9.out.addr.1 (by omega) HLS.out).mono ?_
        rintro e w9 ⟨rfl, hb⟩
        have HBE := hide (below_more HB9.out (Nat.le_refl _) hb)
        clear hb
        go_wp2_with fail
        go_ret
        exact ⟨by rw [HE2.out]; rfl, HBE.out⟩
      · have HE2 : Hid (R = L4 ++ [hexL d]) := hide (by rw [HE.out, if_neg (by omega), if_pos rfl])
        have HLS : Hid (Lib.lens (L4 ++ [hexL d]) ≤ 1000000) := hide (by have := hexL_length d; have := HDL.out; simp [Lib.lens] at hsum ⊢; omega)
        have hhl : (hexL d).length ≤ 100 := by have := hexL_length d; have := HDL.out; omega
        clear HE
        have XH := hide (fun W (h : Rd W A n d) => hex_any A n c d W h (by omega))
        obtain ⟨y, hy⟩ : ∃ y, hexL d = y := ⟨_, rfl⟩
        rw [hy] at HLS hhl HE2 XH
        clear hy
        go_wp2_with fail
        refine (XH.out _ HR4.out).mono ?_
        rintro e w7 ⟨rfl, hb⟩
        have HOa := hide (HO4.out.below hb)
        have HBa := hide (below_more HB4.out (Nat.le_refl _) hb)
        clear hb
        have hr1 := one_str w7 y
        have hO1 := HOa.out.alloc (.cells #[.string ⟨(y).toArray⟩] 9)
        have hsz5 := HBa.out.size
        go_wp2_with (at_builtin; (refine wpList_append_any _ rfl (.tmp 31) (.tmp 35) 60 rfl w.heap.size 9 i0 _ 1 16 Tryd.underlying60 hi hz0 hz1 hz2 rfl (by omega) (.slice A4 4 4) 4 (svs L4) rfl hO1 (w7.heap.size + 1) (some ⟨w7.heap.size, 0, none⟩) 1 1 (svs [y]) rfl hr1 (svs_one _) ?c1 ?c2 ?c3 ?_))
        case c1 => unfold maxLen; omega
        case c2 => omega
        case c3 => simp; omega
        intro v1 w8 hown1 hg1 hat1
        obtain ⟨A9, c9, rfl, O2, W2⟩ := ow_next' HOa.out hown1 hg1 HBa.out (Nat.le_refl _)
        have HO9 := hide O2
        have HB9 := hide W2
        clear hown1 hg1 hat1 O2 W2 hr1 hO1
        go_wp2_with fail
        refine (join_any (L4 ++ [y]) A9 5 c9 _ HO9.out.rd HO9.out.addr.1 (by omega) HLS.out).mono ?_
        rintro e w9 ⟨rfl, hb⟩
        have HBE := hide (below_more HB9.out (Nat.le_refl _) hb)
        clear hb
        go_wp2_with fail
        go_ret
        exact ⟨by rw [HE2.out]; rfl, HBE.out⟩
      · have HE2 : Hid (R = L4) := hide (by rw [HE.out, if_neg hx14, if_neg hx7, List.append_nil])
        have HLS : Hid (Lib.lens L4 ≤ 1000000) := hide (by omega)
        have hxa : ((x : Int) == 14) = false := beq_eq_false_iff_ne.2 (by omega)
        have hxb : ((x : Int) == 7) = false := beq_eq_false_iff_ne.2 (by omega)
        have HO9 := HO4
        have HB9 := HB4
        clear HE
        obtain ⟨c9, hc9⟩ : ∃ c9, c9 = 4 := ⟨4, rfl⟩
        go_wp2_with fail
        refine (join_any L4 A4 4 4 _ HO9.out.rd HO9.out.addr.1 (by omega) HLS.out).mono ?_
        rintro e w9 ⟨rfl, hb⟩
        have HBE := hide (below_more HB9.out (Nat.le_refl _) hb)
        clear hb
        go_wp2_with fail
        go_ret
        exact ⟨by rw [HE2.out]; rfl, HBE.out⟩
end Go.Proofs.YtabbkhkkhphgdaaDoor
