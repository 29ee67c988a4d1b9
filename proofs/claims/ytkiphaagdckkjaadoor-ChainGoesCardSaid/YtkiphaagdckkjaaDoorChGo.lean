/- The law ChainGoes. -/
import Derived.Test.YtkiphaagdckkjaaDoorChC
namespace Go.Proofs.YtkiphaagdckkjaaDoor
open Go.RowKit
set_option linter.unusedVariables false
theorem RVok.set1 {w : World} {x : RV} (h : RVok w x) {p : Addr} {v0 : Value} (hp : w.cell? p = some v0) (hv : ∀ z, v0 ≠ .int .u8 z) (u : Value) : RVok (w.setCell p u) x := ⟨(Reads.set1 h.1 hp hv u).more (by simp), h.2⟩
theorem OutR.set1 {B : Nat} {w : World} {A : Option Addr} {n c : Nat} {l : List RV} (h : OutR B w A n c l) {p : Addr} (hB : p.block < B) {v0 : Value} (hp : w.cell? p = some v0) (hv : ∀ z, v0 ≠ .int .u8 z) (u : Value) : OutR B (w.setCell p u) A n c l :=
  ⟨own_far h.1 hB u, fun x hx => (h.2.1 x hx).set1 hp hv u, h.2.2⟩
set_option maxRecDepth 100000 in
set_option maxHeartbeats 16000000 in
theorem goes_law (bs : LB) (r : Rec) (A RA : Option Addr) (n c rn rc : Nat) (w : World) (hR : Rd w A n bs) (hnc : n ≤ c) (hD : Rd w RA rn r.dig) (hdc : rn ≤ rc) (hS : Std w) (hT : Tabs w) :
    Calls Tryd.prog 7 #[.slice A n c, Rec.v r RA rn rc] w fun e w' => e = .returned (.bool true) ∧ Below w.heap.size w w' := by
  obtain ⟨i0, hi, hz0, hz1, hz2⟩ := info_parts infoU8
  obtain ⟨q, op, p, p2, g, al⟩ := r
  have hb := bl_alloc w (.cells #[.int .i64 q, .int .i64 op, .string ⟨p.toArray⟩, .string ⟨p2.toArray⟩, .slice RA rn rc, .bool al] 24)
  have hk := Blk.new w 24 #[.int .i64 q, .int .i64 op, .string ⟨p.toArray⟩, .string ⟨p2.toArray⟩, .slice RA rn rc, .bool al]
  have XHD := hide (fun W (hW : Below w.heap.size w W) => heads_any W (hS.below hW) (hT.below hW))
  have HR := hide hR
  have HD := hide hD
  have HS := hide hS
  have HT := hide hT
  have XC := hide (rcheck_any ⟨q, op, p, p2, g, al⟩ RA rn rc hD.len (w.alloc (.cells #[.int .i64 q, .int .i64 op, .string ⟨p.toArray⟩, .string ⟨p2.toArray⟩, .slice RA rn rc, .bool al] 24)))
  have HB := hide hb
  have HN0 : Hid (bs.length = n) := hide hR.len
  clear hb hS hT hR hD
  obtain ⟨W0, hW0⟩ : ∃ W0, w.alloc (.cells #[.int .i64 q, .int .i64 op, .string ⟨p.toArray⟩, .string ⟨p2.toArray⟩, .slice RA rn rc, .bool al] 24) = W0 := ⟨_, rfl⟩
  unfold Rec.v at *
  dsimp only at *
  rw [hW0] at XC HB hk
  obtain ⟨z0, z1, z2, z3, z4, z5⟩ := hk.six
  have hzl := hk.lt
  have HK := hide hk
  clear hk
  by_cases k1 : (4000 : Int) < (n : Int)
  · clear XC HR HD
    go_enter Tryd.func7, Tryd.ntmps7
    go_wp2_with fail
    refine (XHD.out _ HB.out).mono ?_
    rintro e1 w9 ⟨rfl, hb9⟩
    have HB9 := hide (below_more HB.out (Nat.le_refl _) hb9)
    clear hb9 XHD
    go_wp2_with fail
    go_ret
    exact ⟨rfl, HB9.out⟩
  have hn4 : n ≤ 4000 := by omega
  cases hv : validP ⟨q, op, p, p2, g, al⟩ with
  | false =>
    rw [hv] at XC
    clear hv
    go_enter Tryd.func7, Tryd.ntmps7
    go_wp2_with fail
    refine XC.out.mono ?_
    rintro e0 w1 ⟨rfl, hb1⟩
    have HB1 := hide (below_more HB.out (Nat.le_refl _) hb1)
    clear hb1 XC HK z0 z1 z2 z3 z4 z5 hzl
    go_wp2_with fail
    refine (XHD.out _ HB1.out).mono ?_
    rintro e1 w9 ⟨rfl, hb9⟩
    have HB9 := hide (below_more HB1.out (Nat.le_refl _) hb9)
    clear hb9 XHD
    go_wp2_with fail
    go_ret
    exact ⟨rfl, HB9.out⟩
  | true =>
    rw [hv] at XC
    have HV := hide hv
    clear hv
    go_enter Tryd.func7, Tryd.ntmps7
    go_wp2_with fail
    refine XC.out.mono ?_
    rintro e0 w1 ⟨rfl, hb1⟩
    have HB1 := hide (below_more HB.out (Nat.le_refl _) hb1)
    have HK1 := hide (HK.out.below hb1 HK.out.lt)
    have hlow1 : w.heap.size < w1.heap.size := HK1.out.lt
    have XS := hide (scan_any A n c bs w1 (rb HR.out HB1.out) hnc (by omega) (HS.out.below HB1.out) (HT.out.below HB1.out))
    unfold ScanEnd at XS
    obtain ⟨E, hE⟩ : ∃ E, (scanB bs).2.2 = E := ⟨_, rfl⟩
    obtain ⟨Dg, hDg⟩ : ∃ D, (scanB bs).2.1 = D := ⟨_, rfl⟩
    obtain ⟨P, hP⟩ : ∃ P, (scanB bs).1 = P := ⟨_, rfl⟩
    have hEn := scanB_end bs
    have hfew := scanB_few bs
    have hgo := fun (r : Rec) => scanB_goes bs (r := r)
    rw [hE] at hEn hfew XS
    rw [hP] at hfew XS
    rw [hDg] at XS
    rw [hE, hDg, hP] at hgo
    rw [HN0.out] at hEn
    have HGO := hide hgo
    have HFW := hide hfew
    clear hE hDg hP hgo hfew hb1 XC HK z0 z1 z2 z3 z4 z5 hzl hW0
    go_wp2_with fail
    refine XS.out.mono ?_
    rintro e1 w2 ⟨O, co, D, dn, l, rfl, h1, h2, h3, h4⟩
    obtain ⟨k, hkl⟩ : ∃ k, l.length = k := ⟨_, rfl⟩
    have hPk : P.length = k := by rw [← h2, List.length_map, hkl]
    have hk117 : 34 * k ≤ E := by rw [← hPk]; exact HFW.out
    rw [hkl] at h1 ⊢
    have hK2 := HK1.out.below h4 HK1.out.lt
    have hB2 := below_more HB1.out (Nat.le_refl _) h4
    have hR2 := rb HR.out hB2
    have hD2 := rb HD.out hB2
    have c0 := hK2.cell 0
    simp at c0
    have cu8 : ∀ z, (Value.int .i64 q) ≠ .int .u8 z := fun z => by simp
    obtain ⟨w3, hw3⟩ : ∃ W, w2.setCell ⟨w.heap.size, 0, none⟩ (.int .i64 (k : Int)) = W := ⟨_, rfl⟩
    have e3s : w3.heap.size = w2.heap.size := by rw [← hw3]; simp
    have HK3 : Hid (Blk w3 w.heap.size 24 #[.int .i64 (k : Int), .int .i64 op, .string ⟨p.toArray⟩, .string ⟨p2.toArray⟩, .slice RA rn rc, .bool al]) := hide (by rw [← hw3]; exact hK2.set_ 0 _)
    have HO3 : Hid (OutR w1.heap.size w3 O k co l) := hide (by rw [← hw3]; exact h1.set1 (by exact hlow1) c0 cu8 _)
    have HG3 : Hid (OwB w1.heap.size w3 D 32 dn Dg) := hide (by rw [← hw3]; exact own_far h3 (by exact hlow1) _)
    have HR3 : Hid (Rd w3 A n bs) := hide (by rw [← hw3]; exact (Reads.set1 hR2 c0 cu8 _).more (by simp))
    have HD3 : Hid (Rd w3 RA rn g) := hide (by rw [← hw3]; exact (Reads.set1 hD2 c0 cu8 _).more (by simp))
    have HB3 : Hid (Below w.heap.size w w3) := hide (by rw [← hw3]; exact hB2.setCell (Nat.le_refl _) _)
    have HLM := hide h2
    have c1 := hK2.frozen 0
    have c2 := hK2.lt
    have hvk := valid_seq HV.out (k := k) (by omega)
    dsimp only at hvk
    have XL := hide (link_ok Dg ⟨(k : Int), op, p, p2, g, al⟩ D RA dn rn rc HD3.out.len w3 (HS.out.below HB3.out) (HT.out.below HB3.out) HD3.out hvk HG3.out.rd HG3.out.le)
    unfold RetLinkYes Rec.v at XL
    dsimp only at XL
    have hes := enc_small hvk
    have hsg := HGO.out ⟨(k : Int), op, p, p2, g, al⟩ hvk (by dsimp only; rw [hPk])
    have hel := ent_length Dg ⟨(k : Int), op, p, p2, g, al⟩
    obtain ⟨R, hRR⟩ : ∃ R : Rec, (⟨(k : Int), op, p, p2, g, al⟩ : Rec) = R := ⟨_, rfl⟩
    have HRR := hide hRR
    rw [hRR] at XL hes hsg hel
    obtain ⟨X, hX⟩ : ∃ X, entP Dg R = X := ⟨_, rfl⟩
    obtain ⟨Y, hY⟩ : ∃ Y, digP Dg (encP R) = Y := ⟨_, rfl⟩
    rw [hX] at XL hsg hel
    rw [hY] at XL hsg
    rw [← hel] at XL
    have HSG := hide hsg
    have HEL : Hid (X.length ≤ 600) := hide (by rw [hel]; omega)
    have e30 := HK3.out.cell 0
    have e31 := HK3.out.cell 1
    have e32 := HK3.out.cell 2
    have e33 := HK3.out.cell 3
    have e34 := HK3.out.cell 4
    have e35 := HK3.out.cell 5
    simp at e30 e31 e32 e33 e34 e35
    have e3l := HK3.out.lt
    clear h1 h2 h3 h4 hK2 hB2 hR2 hD2 hvk hes hsg hel hRR hX hY XS HK1 HG3 HGO HFW cu8
    go_wp2_with fail
    clear hw3 c0 c1 c2
    refine XL.out.mono ?_
    rintro e2 w4 ⟨A1, n1, c1, B1, d1, rfl, hn1, hX4, hY4, hb4⟩
    have hn600 : n1 ≤ 600 := by rw [hn1]; exact HEL.out
    have HN1 := hide hn1
    have HB4 := hide (below_more HB3.out (Nat.le_refl _) hb4)
    have HO4 := hide (OutR.below HO3.out hb4)
    have HK4 := hide (HK3.out.below hb4 HK3.out.lt)
    have hR4 := rb HR3.out hb4
    have HD4 := hide (rb HD3.out hb4)
    have HY4 := hide hY4.rd
    have hX4r := hX4.rd
    have kq1 : ¬ (n : Int) < (E : Int) := by omega
    have kq2 : ¬ (E : Int) < 0 := by omega
    have s1 := fun W => sl_to A n c E .i64 (E : Int) rfl (by omega) W
    have hE4 := hide (own_empty w4)
    have hra := hide (Reads.alloc (o := .cells #[] 5) (rd_to hR4 hEn) (Nat.le_refl _))
    have hrb := hide (Reads.alloc (o := .cells #[] 5) hX4r (Nat.le_refl _))
    have hbe := hide (bl_alloc w4 (.cells #[] 5))
    clear hb4 hX4 hY4 hX4r hR4 XL HO3 HK3 HR3 HD3 HB3 hn1 e30 e31 e32 e33 e34 e35 e3l e3s
    go_wp2_with (at_builtin; (refine wpList_append_any _ rfl (.tmp 52) (.tmp 55) 22 rfl w4.heap.size 5 i0 _ 1 1 Tryd.underlying22 hi hz0 hz1 hz2 rfl (by omega) (.slice (some ⟨w4.heap.size, 0, none⟩) 0 0) 0 [] rfl hE4.out w4.heap.size A E c (bv (bs.take E)) rfl hra.out (bv_one _) (by unfold maxLen; omega) (by omega) (by simp) ?_))
    intro v5 w5 ho5 hg5 hat5
    have hbb5 : Below w4.heap.size w4 w5 := hbe.out.grown hg5 (by simp) (fun g hg => by simp [Value.ownBlock] at hg; omega)
    have hbc5 : Below w4.heap.size (w4.alloc (.cells #[] 5)) w5 := Below.grown (h := Below.refl _ _) (hg := hg5) (by simp) (fun g hg => by simp [Value.ownBlock] at hg; omega)
    obtain ⟨A5, c5, rfl⟩ := own_slice ho5
    have HB5 := hide hbb5
    have HO5 := hide ho5
    have HRB : Hid (Reads w5 w4.heap.size 1 A1 n1 (bv X)) := hide (hrb.out.below hbc5)
    have hsz5 := hbb5.size
    clear ho5 hg5 hat5 hbb5 hbc5
    go_wp2_with (at_builtin; (refine wpList_append_any _ rfl (.tmp 56) (.tmp 57) 22 rfl w4.heap.size 5 i0 _ 1 1 Tryd.underlying22 hi hz0 hz1 hz2 rfl (by omega) (.slice A5 E c5) E (bv (bs.take E)) rfl (by simpa using HO5.out) w4.heap.size A1 n1 c1 (bv X) rfl HRB.out (bv_one _) ?a1 ?a2 ?a3 ?_))
    case a1 => unfold maxLen; omega
    case a2 => omega
    case a3 => exact hsz5
    intro v6 w6 ho6 hg6 hat6
    have hbb6 : Below w4.heap.size w4 w6 := HB5.out.grown hg6 hsz5 (fun g hg => (HO5.out.lt g (by simpa using hg)).1)
    rw [← bv_append] at ho6
    obtain ⟨A6, c6, rfl⟩ := own_slice ho6
    have HB6 := hide (below_more HB4.out (Nat.le_refl _) hbb6)
    have HO6 := hide (OutR.below HO4.out hbb6)
    have HK6 := hide (HK4.out.below hbb6 HK4.out.lt)
    have HD6 := hide (rb HD4.out hbb6)
    have HY6 := hide (rb HY4.out hbb6)
    have XS := hide (scan_any A6 (E + n1) c6 (bs.take E ++ X) w6 (Reads.of_own ho6) (own_caps ho6) (by omega) (HS.out.below HB6.out) (HT.out.below HB6.out))
    unfold ScanEnd at XS
    rw [HSG.out, ← HN1.out] at XS
    dsimp only at XS
    clear ho6 hg6 hat6 hbb6 HO4 HK4 HD4 HY4 HRB HB5 HO5 hsz5 hE4 hra hrb hbe s1
    go_wp2_with fail
    refine XS.out.mono ?_
    rintro e3 w7 ⟨M, mo, D2, dn2, lm, rfl, h1, h2, h3, h4⟩
    have hlm : lm.length = k + 1 := by rw [← List.length_map (f := RV.r), h2, List.length_append, hPk]; rfl
    rw [hlm] at h1 ⊢
    have HB7 := hide (below_more HB6.out (Nat.le_refl _) h4)
    have HM := hide h1.row
    have hmo := h1.le
    have HO7 := hide (OutR.below HO6.out h4).row
    have HK7 := hide (HK6.out.below h4 HK6.out.lt)
    have HD7 := hide (rb HD6.out h4)
    have HY7 := hide (rb HY6.out h4)
    have HL7 := hide h3.rd
    have hxk : lm[k]? = some (lm[k]'(by omega)) := List.getElem?_eq_getElem _
    have hxr : (lm[k]'(by omega)).r = R := by
      have h := congrArg (·[k]?) h2
      simp only [List.getElem?_map, hxk, Option.map_some] at h
      rw [List.getElem?_append_right (by omega), hPk, Nat.sub_self] at h
      simpa using h
    obtain ⟨x, hxe⟩ : ∃ x, lm[k]'(by omega) = x := ⟨_, rfl⟩
    rw [hxe] at hxk hxr
    clear hxe
    have kx := hide (h1.2.1 x (List.mem_of_getElem? hxk))
    have HTK : Hid ((lm.take k).map RV.r = l.map RV.r) := hide (by rw [List.map_take, h2, HLM.out, List.take_left' hPk])
    obtain ⟨gm, om, rfl, hgm, a0, a1, a2, a3, a4, a5⟩ := rec_cells h1.row.1 hxk
    obtain ⟨rx, XA, xn, xc⟩ := x
    dsimp only at *
    obtain rfl := hxr
    have YR := hide (fun W (hW : Below w7.heap.size w7 W) => rows_same (some ⟨gm, om, none⟩) O k mo co (lm.take k) l W ((HM.out.below hW).take (Nat.le_succ k)) (HO7.out.below hW) HTK.out (by omega))
    have YS := hide (fun W (hW : Below w7.heap.size w7 W) => rsame_any rx rx XA RA xn xc rn rc W (rb kx.out.1 hW) (by rw [← HRR.out]; exact rb HD7.out hW))
    rw [show sameP rx rx = true from (same_iff _ _).2 rfl] at YS
    have hrr := HRR.out
    subst hrr
    unfold Rec.v at YS
    dsimp only at YS a0 a1 a2 a3 a4 a5
    have YQ : Hid (∀ W, Below w7.heap.size w7 W → Calls Tryd.prog 11 #[.slice D2 32 dn2, .slice B1 32 d1] W fun e w' => e = .returned (.bool true) ∧ Below W.heap.size W w') := hide (fun W hW => (same_any D2 B1 32 32 dn2 d1 Y Y W _ _ (rb HL7.out hW) (rb HY7.out hW)).mono fun e w' ⟨h1, h2⟩ => ⟨by rw [h1, show (Y == Y) = true from beq_self_eq_true Y], by rw [← h2]; exact Below.refl _ _⟩)
    have YH := hide (fun W (hW : Below w7.heap.size w7 W) => XHD.out W (below_more HB7.out (Nat.le_refl _) hW))
    have allS : Hid (∀ V, Below w7.heap.size w7 V → (V.cell? ⟨gm, om + k * 6, none⟩ = some (.int .i64 (k : Int)) ∧ V.cell? ⟨gm, om + k * 6 + 1, none⟩ = some (.int .i64 op) ∧ V.cell? ⟨gm, om + k * 6 + 2, none⟩ = some (.string ⟨p.toArray⟩) ∧ V.cell? ⟨gm, om + k * 6 + 3, none⟩ = some (.string ⟨p2.toArray⟩) ∧ V.cell? ⟨gm, om + k * 6 + 4, none⟩ = some (.slice XA xn xc) ∧ V.cell? ⟨gm, om + k * 6 + 5, none⟩ = some (.bool al)) ∧ (V.cell? ⟨w.heap.size, 0, none⟩ = some (.int .i64 (k : Int)) ∧ V.cell? ⟨w.heap.size, 1, none⟩ = some (.int .i64 op) ∧ V.cell? ⟨w.heap.size, 2, none⟩ = some (.string ⟨p.toArray⟩) ∧ V.cell? ⟨w.heap.size, 3, none⟩ = some (.string ⟨p2.toArray⟩) ∧ V.cell? ⟨w.heap.size, 4, none⟩ = some (.slice RA rn rc) ∧ V.cell? ⟨w.heap.size, 5, none⟩ = some (.bool al))) := hide (fun V hV => by
      obtain ⟨x0, x1, x2, x3, x4, x5⟩ := (HK7.out.below hV HK7.out.lt).six
      exact ⟨⟨(hV.cell (p := ⟨gm, om + k * 6, none⟩) hgm).trans a0, (hV.cell (p := ⟨gm, om + k * 6 + 1, none⟩) hgm).trans a1, (hV.cell (p := ⟨gm, om + k * 6 + 2, none⟩) hgm).trans a2, (hV.cell (p := ⟨gm, om + k * 6 + 3, none⟩) hgm).trans a3, (hV.cell (p := ⟨gm, om + k * 6 + 4, none⟩) hgm).trans a4, (hV.cell (p := ⟨gm, om + k * 6 + 5, none⟩) hgm).trans a5⟩, ⟨x0, x1, x2, x3, x4, x5⟩⟩)
    have s2 := fun W => rsl_to (some ⟨gm, om, none⟩) (k + 1) mo k .i64 (k : Int) rfl (by omega) W
    have s3 := fun W => rec_at gm om (k + 1) mo k (k : Int) rfl (Nat.lt_succ_self k) W
    have v1 : IntKind.i64.wrap ((k : Int) + 1) = (k : Int) + 1 := by simp [IntKind.wrap, IntKind.bits, IntKind.signed]; omega
    have v2 : IntKind.i64.wrap ((E : Int) + (n1 : Int)) = (E : Int) + (n1 : Int) := by simp [IntKind.wrap, IntKind.bits, IntKind.signed]; omega
    have hkk : decide ((k : Int) < (k : Int) + 1) = true := decide_eq_true (by omega)
    have kW := hide (Below.refl w7.heap.size w7)
    obtain ⟨⟨a0', a1', a2', a3', a4', a5'⟩, ⟨x0, x1, x2, x3, x4, x5⟩⟩ := allS.out _ kW.out
    clear a0 a1 a2 a3 a4 a5 h1 h2 h3 h4 hxk kx HTK HO7 HM HK7 HD7 HY7 HL7 HO6 HK6 HD6 HY6 XS hlm HSG HLM HEL HN1 hgm
    go_wp2_with fail
    go_region_held3 (fun V => (V.cell? ⟨gm, om + k * 6, none⟩ = some (.int .i64 (k : Int)) ∧ V.cell? ⟨gm, om + k * 6 + 1, none⟩ = some (.int .i64 op) ∧ V.cell? ⟨gm, om + k * 6 + 2, none⟩ = some (.string ⟨p.toArray⟩) ∧ V.cell? ⟨gm, om + k * 6 + 3, none⟩ = some (.string ⟨p2.toArray⟩) ∧ V.cell? ⟨gm, om + k * 6 + 4, none⟩ = some (.slice XA xn xc) ∧ V.cell? ⟨gm, om + k * 6 + 5, none⟩ = some (.bool al)) ∧ (V.cell? ⟨w.heap.size, 0, none⟩ = some (.int .i64 (k : Int)) ∧ V.cell? ⟨w.heap.size, 1, none⟩ = some (.int .i64 op) ∧ V.cell? ⟨w.heap.size, 2, none⟩ = some (.string ⟨p.toArray⟩) ∧ V.cell? ⟨w.heap.size, 3, none⟩ = some (.string ⟨p2.toArray⟩) ∧ V.cell? ⟨w.heap.size, 4, none⟩ = some (.slice RA rn rc) ∧ V.cell? ⟨w.heap.size, 5, none⟩ = some (.bool al)))
      (first | with_reducible exact allS.out _ (Below.drew kW.out) | with_reducible exact allS.out _ kW.out)
      (first
      | (go_at_call 18; with_reducible refine (YR.out _ (Below.drew kW.out)).mono ?_
         rintro e wx ⟨rfl, kx⟩
         have kX := hide (below_more (Below.drew kW.out) (Nat.le_refl _) kx)
         clear kW
         have kW := hide kX.out
         clear kx kX)
      | (go_at_call 18; with_reducible refine (YR.out _ kW.out).mono ?_
         rintro e wx ⟨rfl, kx⟩
         have kX := hide (below_more kW.out (Nat.le_refl _) kx)
         clear kW
         have kW := hide kX.out
         clear kx kX)
      | (go_at_call 24; with_reducible refine (YS.out _ (Below.drew kW.out)).mono ?_
         rintro e wx ⟨rfl, kx⟩
         have kX := hide (below_more (Below.drew kW.out) (Nat.le_refl _) kx)
         clear kW
         have kW := hide kX.out
         clear kx kX)
      | (go_at_call 24; with_reducible refine (YS.out _ kW.out).mono ?_
         rintro e wx ⟨rfl, kx⟩
         have kX := hide (below_more kW.out (Nat.le_refl _) kx)
         clear kW
         have kW := hide kX.out
         clear kx kX)
      | (go_at_call 11; with_reducible refine (YQ.out _ (Below.drew kW.out)).mono ?_
         rintro e wx ⟨rfl, kx⟩
         have kX := hide (below_more (Below.drew kW.out) (Nat.le_refl _) kx)
         clear kW
         have kW := hide kX.out
         clear kx kX)
      | (go_at_call 11; with_reducible refine (YQ.out _ kW.out).mono ?_
         rintro e wx ⟨rfl, kx⟩
         have kX := hide (below_more kW.out (Nat.le_refl _) kx)
         clear kW
         have kW := hide kX.out
         clear kx kX)
      | (go_at_call 8; with_reducible refine (YH.out _ (Below.drew kW.out)).mono ?_
         rintro e wx ⟨rfl, kx⟩
         have kX := hide (below_more (Below.drew kW.out) (Nat.le_refl _) kx)
         clear kW
         have kW := hide kX.out
         clear kx kX)
      | (go_at_call 8; with_reducible refine (YH.out _ kW.out).mono ?_
         rintro e wx ⟨rfl, kx⟩
         have kX := hide (below_more kW.out (Nat.le_refl _) kx)
         clear kW
         have kW := hide kX.out
         clear kx kX))
    all_goals
      go_wp2
      go_ret
      exact ⟨rfl, below_more HB7.out (Nat.le_refl _) kW.out⟩
end Go.Proofs.YtkiphaagdckkjaaDoor
