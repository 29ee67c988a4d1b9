/- The document's next. The document's Scan, Verify, Head. -/
import Derived.Test.YtbbobffedgcbhaaGreatDoorChG
namespace Go.Proofs.YtbbobffedgcbhaaGreatDoor
open Go.RowKit
set_option linter.unusedVariables false
theorem rdec_some {b : LB} {r : Rec} (h : decP b = some r) (A : Option Addr) (n c : Nat) (w : World) (hR : Rd w A n b) (hnc : n ≤ c) (hn : n ≤ 1000000) :
    Calls Tryz.prog 63 #[.slice A n c] w fun e w' => ∃ A' n' c', e = .returned (.tuple #[Rec.v r A' n' c', .int .i64 0]) ∧ Rd w' A' n' r.dig ∧ n' ≤ c' ∧ n' ≤ n ∧ Below w.heap.size w w' ∧ (0 < n' → ∃ ad, A' = some ad ∧ w.heap.size ≤ ad.block) :=
  (rdec_any_ A n c b w hR hnc hn).mono fun e w' hE => by rw [h] at hE; exact hE
theorem rdec_none {b : LB} (h : decP b = none) (A : Option Addr) (n c : Nat) (w : World) (hR : Rd w A n b) (hnc : n ≤ c) (hn : n ≤ 1000000) :
    Calls Tryz.prog 63 #[.slice A n c] w fun e w' => ∃ A' n' c', e = .returned (.tuple #[Rec.v zR A' n' c', .int .i64 5]) ∧ Rd w' A' n' [] ∧ n' ≤ c' ∧ n' ≤ n ∧ Below w.heap.size w w' ∧ (0 < n' → ∃ ad, A' = some ad ∧ w.heap.size ≤ ad.block) :=
  (rdec_any_ A n c b w hR hnc hn).mono fun e w' hE => by rw [h] at hE; exact hE
def NextEnd (N : Option (Rec × LB × Nat)) (w : World) (e : Ending) (w' : World) : Prop := match N with
  | none => e = .returned (.tuple #[.agg #[.int .i64 0, .int .i64 0, .string ⟨#[]⟩, .string ⟨#[]⟩, .slice none 0 0, .bool false], .slice none 0 0, .int .i64 (-1)]) ∧ Below w.heap.size w w'
  | some (r, own, n) => ∃ A' n' c' B d, e = .returned (.tuple #[Rec.v r A' n' c', .slice B 32 d, .int .i64 (n : Int)]) ∧ Rd w' A' n' r.dig ∧ n' ≤ c' ∧ (0 < n' → ∃ ad, A' = some ad ∧ w.heap.size ≤ ad.block) ∧ Rd w' B 32 own ∧ 32 ≤ d ∧ (∃ ad, B = some ad ∧ w.heap.size ≤ ad.block) ∧ Below w.heap.size w w'
theorem next_none_end (w w' : World) (hb : Below w.heap.size w w') : NextEnd none w (.returned (.tuple #[.agg #[.int .i64 0, .int .i64 0, .string ⟨#[]⟩, .string ⟨#[]⟩, .slice none 0 0, .bool false], .slice none 0 0, .int .i64 (-1)])) w' := ⟨rfl, hb⟩
theorem own_some {B : Nat} {w : World} {A : Option Addr} {n c : Nat} {bs : LB} (h : OwB B w A n c bs) (h0 : 0 < n) : A ≠ none := by
  obtain ⟨ad, rfl, _⟩ := h.fresh h0
  simp
theorem rd_six {w : World} {b : Nat} {A : Option Addr} {n : Nat} {bs : LB} (h : Rd w A n bs) (hb : Blk w b 28 #[.int .i64 0, .int .i64 0, .string ⟨#[]⟩, .string ⟨#[]⟩, .slice none 0 0, .bool false]) (v0 v1 v2 v3 v4 v5 : Value) :
    Rd ((((((w.setCell ⟨b, 0, none⟩ v0).setCell ⟨b, 1, none⟩ v1).setCell ⟨b, 2, none⟩ v2).setCell ⟨b, 3, none⟩ v3).setCell ⟨b, 4, none⟩ v4).setCell ⟨b, 5, none⟩ v5) A n bs := by
  have k1 := hb.set_ 0 v0
  have k2 := k1.set_ 1 v1
  have k3 := k2.set_ 2 v2
  have k4 := k3.set_ 3 v3
  have k5 := k4.set_ 4 v4
  have r0 := Reads.set1 h (show _ = some (Value.int .i64 0) from hb.cell 0) (fun z => by simp) v0
  have r1 := Reads.set1 r0 (show _ = some (Value.int .i64 0) from k1.cell 1) (fun z => by simp) v1
  have r2 := Reads.set1 r1 (show _ = some (Value.string ⟨#[]⟩) from k2.cell 2) (fun z => by simp) v2
  have r3 := Reads.set1 r2 (show _ = some (Value.string ⟨#[]⟩) from k3.cell 3) (fun z => by simp) v3
  have r4 := Reads.set1 r3 (show _ = some (Value.slice none 0 0) from k4.cell 4) (fun z => by simp) v4
  have r5 := Reads.set1 r4 (show _ = some (Value.bool false) from k5.cell 5) (fun z => by simp) v5
  exact r5.more (by simp)
theorem ent_same {bs body own h : LB} {r : Rec} (hc : cutP bs = some (body, own)) (hd : decP body = some r) : (entP h r = bs.take (2 + body.length + 32)) ↔ own = digP h body := by
  obtain ⟨h1, h2, h3, h4, h5, h6⟩ := cut_some hc
  obtain ⟨hv, he⟩ := dec_enc hd
  unfold entP
  rw [h4, he, ← h1, num_be (bs.take 2) 2 (by rw [List.length_take]; omega)]
  constructor
  · intro h
    exact (List.append_cancel_left h).symm
  · intro h
    rw [h]
set_option maxRecDepth 100000 in
set_option maxHeartbeats 16000000 in
theorem rnext_any (A B : Option Addr) (n c d k : Nat) (bs h : LB) (w : World) (hR : Rd w A n bs) (hnc : n ≤ c) (hn : n ≤ 30000) (hH : Rd w B 32 h) (hd : 32 ≤ d) :
    Calls Tryz.prog 44 #[.slice A n c, .slice B 32 d, .int .i64 (k : Int)] w (NextEnd (nextP h k bs) w) := by
  have hl := hR.len
  have hb := bl_alloc w (.cells #[.int .i64 0, .int .i64 0, .string ⟨#[]⟩, .string ⟨#[]⟩, .slice none 0 0, .bool false] 28)
  have HB := hide hb
  have HZ := hide (Blk.new w 28 #[.int .i64 0, .int .i64 0, .string ⟨#[]⟩, .string ⟨#[]⟩, .slice none 0 0, .bool false])
  by_cases h2 : n < 2
  · have k2 : (n : Int) < 2 := by omega
    rw [next_nocut (show cutP bs = none by unfold cutP; rw [if_pos (by omega)])]
    clear hR hb hl
    go_enter Tryz.func44, Tryz.ntmps44
    go_wp2_with fail
    refine bodyPost_ret (v := .tuple #[.agg #[.int .i64 0, .int .i64 0, .string ⟨#[]⟩, .string ⟨#[]⟩, .slice none 0 0, .bool false], .slice none 0 0, .int .i64 (-1)]) (by simp only [results, Tryz.results44]; go_simp) rfl (next_none_end _ _ HB.out)
  have k2 : ¬ (n : Int) < 2 := by omega
  obtain ⟨g, oo, rfl, hg, hcl⟩ := cells_of hR (by omega) (by rw [bv_length]; omega)
  have c0 := hcl 0 _ (bv_get bs 0 (by omega))
  have c1 := hcl 1 _ (bv_get bs 1 (by omega))
  have hx0 := (bs[0]'(by omega)).toNat_lt
  have hx1 := (bs[1]'(by omega)).toNat_lt
  have hnum : numB (bs.take 2) = 256 * (bs[0]'(by omega)).toNat + (bs[1]'(by omega)).toNat := by
    have e : bs.take 2 = [bs[0]'(by omega), bs[1]'(by omega)] := by
      match bs, hl with
      | [], hl => simp at hl; omega
      | [x], hl => simp at hl; omega
      | x :: y :: t, hl => simp
    rw [e]
    simp [numB]
    omega
  obtain ⟨N, hN⟩ : ∃ N, numB (bs.take 2) = N := ⟨_, rfl⟩
  rw [hN] at hnum
  have HNN := hide hN
  have i0 := fun W => u8_at g oo n c 0 0 rfl (by omega) W
  have i1 := fun W => u8_at g oo n c 1 1 rfl (by omega) W
  simp only [Nat.add_zero] at i0 c0
  have HR := hide hR
  have HH := hide hH
  have HL := hide hl
  clear hcl hN hR hH
  generalize (bs[0]'(by omega)).toNat = x0 at *
  generalize (bs[1]'(by omega)).toNat = x1 at *
  have HN := hide hnum
  have hNl : N ≤ 70000 := by omega
  have w1 : IntKind.i64.wrap (256 * (x0 : Int)) = 256 * (x0 : Int) := by simp [IntKind.wrap, IntKind.bits, IntKind.signed]; omega
  have w2 : IntKind.i64.wrap (256 * (x0 : Int) + (x1 : Int)) = 256 * (x0 : Int) + (x1 : Int) := by simp [IntKind.wrap, IntKind.bits, IntKind.signed]; omega
  have w3 : IntKind.i64.wrap ((n : Int) - 2) = (n : Int) - 2 := by simp [IntKind.wrap, IntKind.bits, IntKind.signed]; omega
  have w4 : IntKind.i64.wrap ((N : Int) + 32) = (N : Int) + 32 := by simp [IntKind.wrap, IntKind.bits, IntKind.signed]; omega
  have w5 : IntKind.i64.wrap (2 + (N : Int)) = 2 + (N : Int) := by simp [IntKind.wrap, IntKind.bits, IntKind.signed]; omega
  have w6 : IntKind.i64.wrap (2 + (N : Int) + 32) = 2 + (N : Int) + 32 := by simp [IntKind.wrap, IntKind.bits, IntKind.signed]; omega
  clear hnum hl h2 hb
  obtain ⟨RES, hRES⟩ : ∃ r, nextP h k bs = r := ⟨_, rfl⟩
  have HRES := hide hRES
  rw [hRES]
  clear hRES
  go_enter Tryz.func44, Tryz.ntmps44
  go_upto_region 3 with (fail)
  go_cut [9] (fun u9 wx => u9 = .int .i64 (N : Int) ∧ Hid (Below w.heap.size w wx) ∧ Hid (Blk wx w.heap.size 28 #[.int .i64 0, .int .i64 0, .string ⟨#[]⟩, .string ⟨#[]⟩, .slice none 0 0, .bool false]))
  case first =>
    go_quiet (fail)
    go_wp2_with fail
    go_meet
    exact ⟨by have := HN.out; congr 1; omega, hide (below_drewN HB.out _), hide (by exact HZ.out)⟩
  case rest =>
    obtain ⟨rfl, HBC, HZC⟩ := hcut
    clear c0 c1 i0 i1 w1 w2 hx0 hx1 HN HB HZ
    by_cases hlk : n < 2 + N + 32
    · have klk : (n : Int) - 2 < (N : Int) + 32 := by omega
      have HE : Hid (RES = none) := hide (by
        rw [← HRES.out]
        apply next_nocut
        unfold cutP
        rw [HNN.out, HL.out, if_neg (by omega), if_pos hlk])
      obtain ⟨u0, u1, u2, u3, u4, u5⟩ := HZC.out.six
      have uz0 := HZC.out.frozen 0
      have uz1 := HZC.out.frozen 1
      have uz2 := HZC.out.frozen 2
      have uz3 := HZC.out.frozen 3
      have uz4 := HZC.out.frozen 4
      have uz5 := HZC.out.frozen 5
      have ul := HZC.out.lt
      go_wp2_with fail
      refine bodyPost_ret (v := .tuple #[.agg #[.int .i64 0, .int .i64 0, .string ⟨#[]⟩, .string ⟨#[]⟩, .slice none 0 0, .bool false], .slice none 0 0, .int .i64 (-1)]) (by simp only [results, Tryz.results44]; go_simp) rfl (by rw [HE.out]; exact next_none_end _ _ ((((((HBC.out.setCell (by exact Nat.le_refl _) _).setCell (by exact Nat.le_refl _) _).setCell (by exact Nat.le_refl _) _).setCell (by exact Nat.le_refl _) _).setCell (by exact Nat.le_refl _) _).setCell (by exact Nat.le_refl _) _))
    · have klk : ¬ (n : Int) - 2 < (N : Int) + 32 := by omega
      have hc : cutP bs = some ((bs.drop 2).take N, (bs.drop (2 + N)).take 32) := by
        unfold cutP
        rw [HNN.out, HL.out, if_neg (by omega), if_neg hlk]
      obtain ⟨p1, p2, p3, p4, p5, p6⟩ := cut_some hc
      rw [HNN.out] at p1
      have hrs : Rd wc (from_ c 2 (some ⟨g, oo, none⟩)) (2 + N - 2) ((bs.drop 2).take (2 + N - 2)) := rd_mid (q := 2) (z := 2 + N) (rb HR.out HBC.out) (by omega) (by omega) hnc
      have hsm := fun W => sl_mid (some ⟨g, oo, none⟩) n c 2 (2 + N) .i64 .i64 2 (2 + (N : Int)) rfl (by omega) (by omega) (by omega) W
      rw [show 2 + N - 2 = N by omega] at hrs hsm
      obtain ⟨body, hbody⟩ : ∃ b, (bs.drop 2).take N = b := ⟨_, rfl⟩
      obtain ⟨own, hown⟩ : ∃ b, (bs.drop (2 + N)).take 32 = b := ⟨_, rfl⟩
      rw [hbody] at hrs hc p1
      rw [hown] at hc
      obtain ⟨cc, hcc⟩ : ∃ x, c - 2 = x := ⟨_, rfl⟩
      rw [hcc] at hsm
      have hNc : N ≤ cc := by omega
      generalize from_ c 2 (some (⟨g, oo, none⟩ : Addr)) = AA at *
      have HRS := hide hrs
      have HC := hide hc
      have HBLN : Hid (body.length = N) := hide p1.symm
      clear p1 p2 p3 p4 p5 p6 hrs hc hbody hown hcc
      cases hdc : decP body with
      | none =>
        have XD := hide (rdec_none hdc AA N cc wc HRS.out hNc (by omega))
        have HE : Hid (RES = none) := hide (by rw [← HRES.out]; exact next_nodec HC.out hdc)
        unfold Rec.v zR at XD
        dsimp only at XD
        clear hdc
        go_wp2_with fail
        refine XD.out.mono ?_
        rintro e4 w4' ⟨A4, n4, c4, rfl, h41, h42, h43, h44, h45⟩
        have XL := hide (rlink_bad h zR B A4 32 d n4 c4 (by have := h41.len; simpa [zR] using this) (w4'.alloc (.cells #[.int .i64 0, .int .i64 0, .string ⟨#[]⟩, .string ⟨#[]⟩, .slice A4 n4 c4, .bool false] 28)) (by kernel_rfl))
        unfold RetLinkNo Rec.v zR at XL
        dsimp only at XL
        have hba := bl_alloc w4' (.cells #[.int .i64 0, .int .i64 0, .string ⟨#[]⟩, .string ⟨#[]⟩, .slice A4 n4 c4, .bool false] 28)
        have hb5 := below_more h44 (Nat.le_refl _) hba
        have HB5 := hide (below_more HBC.out (Nat.le_refl _) hb5)
        have HZ5 := hide (HZC.out.below hb5 HZC.out.lt)
        clear h41 h42 h43 h44 h45 XD hba hb5
        go_wp2_with fail
        refine XL.out.mono ?_
        rintro e5 w5' ⟨rfl, hb6⟩
        have HB6 := hide (below_more HB5.out (Nat.le_refl _) hb6)
        have HZ6 := hide (HZ5.out.below hb6 HZ5.out.lt)
        clear hb6 XL HB5 HZ5 HZC HBC
        go_upto_region 8 with (fail)
        go_cut [73] (fun u73 wx => u73 = .bool true ∧ Hid (Below w.heap.size w wx) ∧ Hid (Blk wx w.heap.size 28 #[.int .i64 0, .int .i64 0, .string ⟨#[]⟩, .string ⟨#[]⟩, .slice none 0 0, .bool false]))
        case first =>
          go_quiet (fail)
          go_wp2_with fail
          go_meet
          exact ⟨rfl, hide (below_drewN HB6.out _), hide (by exact HZ6.out)⟩
        case rest =>
          obtain ⟨rfl, HB7, HZ7⟩ := hcut
          clear HB6 HZ6
          obtain ⟨u0, u1, u2, u3, u4, u5⟩ := HZ7.out.six
          have uz0 := HZ7.out.frozen 0
          have uz1 := HZ7.out.frozen 1
          have uz2 := HZ7.out.frozen 2
          have uz3 := HZ7.out.frozen 3
          have uz4 := HZ7.out.frozen 4
          have uz5 := HZ7.out.frozen 5
          have ul := HZ7.out.lt
          go_wp2_with fail
          refine bodyPost_ret (v := .tuple #[.agg #[.int .i64 0, .int .i64 0, .string ⟨#[]⟩, .string ⟨#[]⟩, .slice none 0 0, .bool false], .slice none 0 0, .int .i64 (-1)]) (by simp only [results, Tryz.results44]; go_simp) rfl (by rw [HE.out]; exact next_none_end _ _ ((((((HB7.out.setCell (by exact Nat.le_refl _) _).setCell (by exact Nat.le_refl _) _).setCell (by exact Nat.le_refl _) _).setCell (by exact Nat.le_refl _) _).setCell (by exact Nat.le_refl _) _).setCell (by exact Nat.le_refl _) _))
      | some r =>
        obtain ⟨hv, henc⟩ := dec_enc hdc
        have HDC := hide hdc
        have XD := hide (rdec_some hdc AA N cc wc HRS.out hNc (by omega))
        have hen : 2 + (encP r).length + 32 = 2 + N + 32 := by rw [henc, HBLN.out]
        have hes := hide (ent_same (h := h) HC.out hdc)
        have hni : Hid (r.seq ≠ (k : Int) → RES = none) := hide (fun hs => by rw [← HRES.out]; exact next_noseq HC.out hdc hs)
        have hnd : Hid (own ≠ digP h body → RES = none) := hide (fun hs => by rw [← HRES.out]; exact next_nodig HC.out hs)
        have hny : Hid (own = digP h body → r.seq = (k : Int) → RES = some (r, own, 2 + N + 32)) := hide (fun h1 h2 => by rw [← HRES.out, next_yes HC.out h1 hdc h2, HBLN.out])
        have HEN := hide henc
        have HVV := hide hv
        obtain ⟨sq, op, pa, pb, dg, al⟩ := r
        unfold Rec.v at XD
        dsimp only at XD
        clear hdc hv henc
        go_wp2_with fail
        refine XD.out.mono ?_
        rintro e4 w4' ⟨A4, n4, c4, rfl, h41, h42, h43, h44, h45⟩
        obtain ⟨WL, hWL⟩ : ∃ W, w4'.alloc (.cells #[.int .i64 sq, .int .i64 op, .string ⟨pa.toArray⟩, .string ⟨pb.toArray⟩, .slice A4 n4 c4, .bool al] 28) = W := ⟨_, rfl⟩
        have hba : Below w4'.heap.size w4' WL := by rw [← hWL]; exact bl_alloc _ _
        have hb5 := below_more h44 (Nat.le_refl _) hba
        have HB5 := hide (below_more HBC.out (Nat.le_refl _) hb5)
        have HZ5 := hide (HZC.out.below hb5 HZC.out.lt)
        have hz := Blk.new w4' 28 #[.int .i64 sq, .int .i64 op, .string ⟨pa.toArray⟩, .string ⟨pb.toArray⟩, .slice A4 n4 c4, .bool al]
        rw [hWL] at hz
        obtain ⟨z0, z1, z2, z3, z4, z5⟩ := hz.six
        have hzl := hz.lt
        have HK5 := hide hz
        have HD5 := hide (rb h41 hba)
        have H42 := hide h42
        have H45 : Hid (0 < n4 → ∃ ad, A4 = some ad ∧ w.heap.size ≤ ad.block) := hide (fun h0 => by
          obtain ⟨ad, e, hb⟩ := h45 h0
          exact ⟨ad, e, by have := HBC.out.size; omega⟩)
        have XL := hide (rlink_ok h ⟨sq, op, pa, pb, dg, al⟩ B A4 d n4 c4 h41.len WL HD5.out HVV.out (rb HH.out HB5.out) hd)
        unfold RetLinkYes Rec.v at XL
        dsimp only at XL
        rw [hen] at XL
        have hgw : w.heap.size < w4'.heap.size := by have h1 := HZC.out.lt; have h2 := h44.size; omega
        clear h41 h42 h43 h44 h45 XD hba hb5 hz HZC HBC
        go_wp2_with fail
        refine XL.out.mono ?_
        rintro e5 w5' ⟨A5, n5, c5, B5, d5, rfl, hn5, hO5, hY5, hb6⟩
        have HB6 := hide (below_more HB5.out (Nat.le_refl _) hb6)
        have HZ6 := hide (HZ5.out.below hb6 HZ5.out.lt)
        have HK6 := hide (HK5.out.below hb6 HK5.out.lt)
        have HD6 := hide (rb HD5.out hb6)
        have HY6 := hide hY5.rd
        have HYn : Hid (∃ ad, B5 = some ad ∧ w.heap.size ≤ ad.block) := hide (by
          obtain ⟨ad, e, hb⟩ := hY5.fresh (by omega)
          exact ⟨ad, e, by have := HB5.out.size; omega⟩)
        have hd5 : 32 ≤ d5 := hY5.le
        have HX6 := hide hO5.rd
        have HT6 := hide (rd_to (rb HR.out HB6.out) (show 2 + N + 32 ≤ n by omega))
        obtain ⟨EB, hEB⟩ : ∃ x, entP h ⟨sq, op, pa, pb, dg, al⟩ = x := ⟨_, rfl⟩
        obtain ⟨TB, hTB⟩ : ∃ x, bs.take (2 + N + 32) = x := ⟨_, rfl⟩
        have HES := hes
        rw [HBLN.out, hEB, hTB] at HES
        rw [hEB] at HX6
        rw [hTB] at HT6
        clear hO5 hY5 hb6 XL HB5 HZ5 HK5 HD5 z0 z1 z2 z3 z4 z5 hzl hes hEB hTB hWL
        obtain ⟨z0, z1, z2, z3, z4, z5⟩ := HK6.out.six
        have hzl := HK6.out.lt
        have s1 := fun W => sl_to (some ⟨g, oo, none⟩) n c (2 + N + 32) .i64 (2 + (N : Int) + 32) (by omega) (by omega) W
        have hn5' : n5 = 2 + N + 32 := by rw [hn5]
        subst hn5'
        clear hn5
        by_cases hsq : sq = (k : Int)
        · have tsq : (sq != (k : Int)) = false := by rw [hsq]; simp
          have v1 : ∀ j, (convert 22 9 (.slice A5 (2 + N + 32) c5)).run Tryz.prog (w5'.drewN j) = .ok (.string ⟨EB.toArray⟩) (w5'.drewN j) := fun j => conv_str (w := w5'.drewN j) (by exact HX6.out)
          have v2 : ∀ j, (convert 22 9 (.slice (some ⟨g, oo, none⟩) (2 + N + 32) c)).run Tryz.prog (w5'.drewN j) = .ok (.string ⟨TB.toArray⟩) (w5'.drewN j) := fun j => conv_str (w := w5'.drewN j) (by exact HT6.out)
          have v3 := conv_str (c := c5) HX6.out
          have v4 := conv_str (c := c) HT6.out
          cases hT : (EB != TB) with
          | true =>
            have HE : Hid (RES = none) := hide (hnd.out (fun ho => by
              have h1 := HES.out.2 ho
              rw [h1] at hT
              simp at hT))
            go_upto_region 8 with (fail)
            go_cut [73] (fun u73 wx => u73 = .bool true ∧ Hid (Below w.heap.size w wx) ∧ Hid (Blk wx w.heap.size 28 #[.int .i64 0, .int .i64 0, .string ⟨#[]⟩, .string ⟨#[]⟩, .slice none 0 0, .bool false]))
            case first =>
              go_quiet (fail)
              go_wp2_with fail
              go_meet
              exact ⟨congrArg Value.bool hT, hide (below_drewN HB6.out _), hide (by exact HZ6.out)⟩
            case rest =>
              obtain ⟨rfl, HB7, HZ7⟩ := hcut
              clear HB6 HZ6 v1 v2 v3 v4 z0 z1 z2 z3 z4 z5 hzl
              obtain ⟨u0, u1, u2, u3, u4, u5⟩ := HZ7.out.six
              have uz0 := HZ7.out.frozen 0
              have uz1 := HZ7.out.frozen 1
              have uz2 := HZ7.out.frozen 2
              have uz3 := HZ7.out.frozen 3
              have uz4 := HZ7.out.frozen 4
              have uz5 := HZ7.out.frozen 5
              have ul := HZ7.out.lt
              go_wp2_with fail
              refine bodyPost_ret (v := .tuple #[.agg #[.int .i64 0, .int .i64 0, .string ⟨#[]⟩, .string ⟨#[]⟩, .slice none 0 0, .bool false], .slice none 0 0, .int .i64 (-1)]) (by simp only [results, Tryz.results44]; go_simp) rfl (by rw [HE.out]; exact next_none_end _ _ ((((((HB7.out.setCell (by exact Nat.le_refl _) _).setCell (by exact Nat.le_refl _) _).setCell (by exact Nat.le_refl _) _).setCell (by exact Nat.le_refl _) _).setCell (by exact Nat.le_refl _) _).setCell (by exact Nat.le_refl _) _))
          | false =>
            have ho : own = digP h body := HES.out.1 (by simpa using hT)
            have HE := hide (hny.out ho hsq)
            have HO := hide ho
            go_upto_region 8 with (fail)
            go_cut [73] (fun u73 wx => u73 = .bool false ∧ Hid (Below w.heap.size w wx) ∧ Hid (Blk wx w.heap.size 28 #[.int .i64 0, .int .i64 0, .string ⟨#[]⟩, .string ⟨#[]⟩, .slice none 0 0, .bool false]) ∧ Hid (Blk wx w4'.heap.size 28 #[.int .i64 sq, .int .i64 op, .string ⟨pa.toArray⟩, .string ⟨pb.toArray⟩, .slice A4 n4 c4, .bool al]) ∧ Hid (Rd wx A4 n4 dg) ∧ Hid (Rd wx B5 32 (digP h (encP ⟨sq, op, pa, pb, dg, al⟩))))
            case first =>
              go_quiet (fail)
              go_wp2_with fail
              go_meet
              exact ⟨congrArg Value.bool hT, hide (below_drewN HB6.out _), hide (by exact HZ6.out), hide (by exact HK6.out), hide (by exact HD6.out), hide (by exact HY6.out)⟩
            case rest =>
              obtain ⟨rfl, HB7, HZ7, HK7, HD7, HY7⟩ := hcut
              clear HB6 HZ6 HK6 HD6 HY6 v1 v2 v3 v4 z0 z1 z2 z3 z4 z5 hzl ho
              obtain ⟨WE, hWE⟩ : ∃ W, ((((((wc.setCell ⟨w.heap.size, 0, none⟩ (.int .i64 sq)).setCell ⟨w.heap.size, 1, none⟩ (.int .i64 op)).setCell ⟨w.heap.size, 2, none⟩ (.string ⟨pa.toArray⟩)).setCell ⟨w.heap.size, 3, none⟩ (.string ⟨pb.toArray⟩)).setCell ⟨w.heap.size, 4, none⟩ (.slice A4 n4 c4)).setCell ⟨w.heap.size, 5, none⟩ (.bool al)) = W := ⟨_, rfl⟩
              have HBE : Hid (Below w.heap.size w WE) := hide (by rw [← hWE]; exact ((((((HB7.out.setCell (by exact Nat.le_refl _) _).setCell (by exact Nat.le_refl _) _).setCell (by exact Nat.le_refl _) _).setCell (by exact Nat.le_refl _) _).setCell (by exact Nat.le_refl _) _).setCell (by exact Nat.le_refl _) _))
              have HDE : Hid (Rd WE A4 n4 dg) := hide (by rw [← hWE]; exact rd_six HD7.out HZ7.out _ _ _ _ _ _)
              have HYE : Hid (Rd WE B5 32 (digP h (encP ⟨sq, op, pa, pb, dg, al⟩))) := hide (by rw [← hWE]; exact rd_six HY7.out HZ7.out _ _ _ _ _ _)
              have HZE : Hid (Blk WE w.heap.size 28 #[.int .i64 sq, .int .i64 op, .string ⟨pa.toArray⟩, .string ⟨pb.toArray⟩, .slice A4 n4 c4, .bool al]) := hide (by rw [← hWE]; exact (((((HZ7.out.set_ 0 _).set_ 1 _).set_ 2 _).set_ 3 _).set_ 4 _).set_ 5 _)
              have HEND : Hid (NextEnd RES w (.returned (.tuple #[.agg #[.int .i64 sq, .int .i64 op, .string ⟨pa.toArray⟩, .string ⟨pb.toArray⟩, .slice A4 n4 c4, .bool al], .slice B5 32 d5, .int .i64 (2 + (N : Int) + 32)])) WE) := hide (by
                rw [HE.out]
                have e : ((2 + N + 32 : Nat) : Int) = 2 + (N : Int) + 32 := by omega
                exact ⟨A4, n4, c4, B5, d5, by rw [e]; rfl, HDE.out, H42.out, H45.out, by rw [HO.out, ← HEN.out]; exact HYE.out, hd5, HYn.out, HBE.out⟩)
              clear hd5 HES hsq tsq hT
              obtain ⟨u0, u1, u2, u3, u4, u5⟩ := HZ7.out.six
              have uz0 := HZ7.out.frozen 0
              have uz1 := HZ7.out.frozen 1
              have uz2 := HZ7.out.frozen 2
              have uz3 := HZ7.out.frozen 3
              have uz4 := HZ7.out.frozen 4
              have uz5 := HZ7.out.frozen 5
              have ul := HZ7.out.lt
              obtain ⟨z0, z1, z2, z3, z4, z5⟩ := HK7.out.six
              have hzl := HK7.out.lt
              go_wp2_with fail
              clear hWE u0 u1 u2 u3 u4 u5 uz0 uz1 uz2 uz3 uz4 uz5 z0 z1 z2 z3 z4 z5
              obtain ⟨y0, y1, y2, y3, y4, y5⟩ := HZE.out.six
              have yz0 := HZE.out.frozen 0
              have yz1 := HZE.out.frozen 1
              have yz2 := HZE.out.frozen 2
              have yz3 := HZE.out.frozen 3
              have yz4 := HZE.out.frozen 4
              have yz5 := HZE.out.frozen 5
              have yl := HZE.out.lt
              refine bodyPost_ret (v := .tuple #[.agg #[.int .i64 sq, .int .i64 op, .string ⟨pa.toArray⟩, .string ⟨pb.toArray⟩, .slice A4 n4 c4, .bool al], .slice B5 32 d5, .int .i64 (2 + (N : Int) + 32)]) (by simp only [results, Tryz.results44]; go_simp) rfl HEND.out
        · have tsq : (sq != (k : Int)) = true := by rw [bne_iff_ne]; exact hsq
          have HE := hide (hni.out hsq)
          go_upto_region 8 with (fail)
          go_cut [73] (fun u73 wx => u73 = .bool true ∧ Hid (Below w.heap.size w wx) ∧ Hid (Blk wx w.heap.size 28 #[.int .i64 0, .int .i64 0, .string ⟨#[]⟩, .string ⟨#[]⟩, .slice none 0 0, .bool false]))
          case first =>
            go_quiet (fail)
            go_wp2_with fail
            go_meet
            exact ⟨rfl, hide (below_drewN HB6.out _), hide (by exact HZ6.out)⟩
          case rest =>
            obtain ⟨rfl, HB7, HZ7⟩ := hcut
            clear HB6 HZ6 z0 z1 z2 z3 z4 z5 hzl
            obtain ⟨u0, u1, u2, u3, u4, u5⟩ := HZ7.out.six
            have uz0 := HZ7.out.frozen 0
            have uz1 := HZ7.out.frozen 1
            have uz2 := HZ7.out.frozen 2
            have uz3 := HZ7.out.frozen 3
            have uz4 := HZ7.out.frozen 4
            have uz5 := HZ7.out.frozen 5
            have ul := HZ7.out.lt
            go_wp2_with fail
            refine bodyPost_ret (v := .tuple #[.agg #[.int .i64 0, .int .i64 0, .string ⟨#[]⟩, .string ⟨#[]⟩, .slice none 0 0, .bool false], .slice none 0 0, .int .i64 (-1)]) (by simp only [results, Tryz.results44]; go_simp) rfl (by rw [HE.out]; exact next_none_end _ _ ((((((HB7.out.setCell (by exact Nat.le_refl _) _).setCell (by exact Nat.le_refl _) _).setCell (by exact Nat.le_refl _) _).setCell (by exact Nat.le_refl _) _).setCell (by exact Nat.le_refl _) _).setCell (by exact Nat.le_refl _) _))
end Go.Proofs.YtbbobffedgcbhaaGreatDoor
namespace Go.Proofs.YtbbobffedgcbhaaGreatDoor
open Go.RowKit
set_option linter.unusedVariables false
theorem Reads.grownAt {w w' : World} {A : Option Addr} {n : Nat} {xs : List Value} (h : Reads w w.heap.size 1 A n xs) {row : Option Nat} (hg : w.grownBy w' row) (hne : ∀ x, A = some x → 0 < n → some x.block ≠ row) : Reads w' w'.heap.size 1 A n xs := by
  refine ⟨h.1, fun h0 => ?_⟩
  obtain ⟨ad, e, hb, hc⟩ := h.2 h0
  refine ⟨ad, e, Nat.lt_of_lt_of_le hb hg.size, fun j u hj => ?_⟩
  have e2 : w'.cell? (ad.add j) = w.cell? (ad.add j) := World.cell?_of_block (by rw [block_of_add]; exact hg.block _ hb (hne ad e h0))
  rw [e2]; exact hc j u hj
theorem head_step (bs : LB) {i : Nat} {r : Rec} (h : (scanB bs).1[i]? = some r) : (bs.drop (lenP ((scanB bs).1.take i))).take 2 = be 2 (encP r).length ∧ lenP ((scanB bs).1.take i) + (2 + (encP r).length + 32) ≤ bs.length ∧ lenP ((scanB bs).1.take (i + 1)) = lenP ((scanB bs).1.take i) + (2 + (encP r).length + 32) ∧ (encP r).length ≤ 560 := by
  obtain ⟨h1, h2, h3⟩ := scanB_take bs
  have h4 := scanB_end bs
  have h5 : lenP (scanB bs).1 = (scanB bs).2.2 := scan_lenP _ _ _ _
  obtain ⟨L, hL⟩ : ∃ L, (scanB bs).1 = L := ⟨_, rfl⟩
  obtain ⟨E, hE⟩ : ∃ E, (scanB bs).2.2 = E := ⟨_, rfl⟩
  rw [hL, hE] at h1 h5
  rw [hL] at h3 h ⊢
  rw [hE] at h4
  clear hL hE h2
  obtain ⟨hi, he⟩ := List.getElem?_eq_some_iff.1 h
  have e1 : L = L.take i ++ r :: L.drop (i + 1) := by
    conv => lhs; rw [← List.take_append_drop i L]
    rw [List.drop_eq_getElem_cons hi, he]
  have hv : validP r = true := by
    rw [e1, ok_append] at h3
    exact h3.2.1
  have e2 : lenP (L.take (i + 1)) = lenP (L.take i) + (2 + (encP r).length + 32) := by
    rw [List.take_succ_eq_append_getElem hi, he, lenP_append]
    rfl
  have e3 : lenP (L.take (i + 1)) ≤ lenP L := by
    have e : lenP L = lenP (L.take (i + 1)) + lenP (L.drop (i + 1)) := by rw [← lenP_append, List.take_append_drop]
    omega
  have e4 : bs = allP zero32 (L.take i) ++ (entP (lastP zero32 (L.take i)) r ++ allP (digP (lastP zero32 (L.take i)) (encP r)) (L.drop (i + 1)) ++ bs.drop E) := by
    have e5 : allP zero32 L = allP zero32 (L.take i) ++ (entP (lastP zero32 (L.take i)) r ++ allP (digP (lastP zero32 (L.take i)) (encP r)) (L.drop (i + 1))) := by
      conv => lhs; rw [e1]
      rw [all_append, allP]
    conv => lhs; rw [← List.take_append_drop E bs, h1, e5]
    rw [List.append_assoc]
  refine ⟨?_, by omega, e2, enc_small hv⟩
  obtain ⟨X, hX⟩ : ∃ X, bs.drop E = X := ⟨_, rfl⟩
  rw [hX] at e4
  have e6 := all_length (L.take i) zero32
  conv => lhs; rw [e4]
  rw [List.drop_left' e6]
  have e7 : entP (lastP zero32 (L.take i)) r ++ allP (digP (lastP zero32 (L.take i)) (encP r)) (L.drop (i + 1)) ++ X = be 2 (encP r).length ++ (encP r ++ (digP (lastP zero32 (L.take i)) (encP r) ++ (allP (digP (lastP zero32 (L.take i)) (encP r)) (L.drop (i + 1)) ++ X))) := by
    unfold entP; simp
  rw [e7, List.take_append_of_le_length (by rw [be_length]; omega), List.take_of_length_le (by rw [be_length]; omega)]
def RScanEnd (bs : LB) (w : World) (e : Ending) (w' : World) : Prop := ∃ O co D dn l, e = .returned (.tuple #[.slice O l.length co, .slice D 32 dn, .int .i64 ((scanB bs).2.2 : Int)]) ∧ OutR w.heap.size w' O l.length co l ∧ l.length ≤ co ∧ l.map RV.r = (scanB bs).1 ∧ Rd w' D 32 (scanB bs).2.1 ∧ Below w.heap.size w w'
set_option maxRecDepth 100000 in
set_option maxHeartbeats 8000000 in
theorem rscan_any (A : Option Addr) (n c : Nat) (bs : LB) (w : World) (hR : Rd w A n bs) (hnc : n ≤ c) (hn : n ≤ 30000) :
    Calls Tryz.prog 23 #[.slice A n c] w (RScanEnd bs w) := by
  obtain ⟨j0, hj0, jz0, jz1, jz2⟩ := info_rec
  have HR := hide hR
  have HL := hide hR.len
  clear hR
  go_enter Tryz.func23, Tryz.ntmps23
  go_wp2_with fail
  refine (rroot_any w).mono ?_
  rintro e0 w0 ⟨rfl, hZ, hb0⟩
  have HB0 := hide hb0
  have HZ0 := hide hZ.rd
  clear hZ hb0
  go_wp2_with fail
  go_loopw [5, 6, 7] (fun u5 u6 u7 wx => ∃ (l : List RV) (e : Nat) (h : LB) (D : Option Addr) (dn co : Nat) (O : Option Addr), u5 = .slice O l.length co ∧ u6 = .slice D 32 dn ∧ u7 = .int .i64 (e : Int) ∧ Hid (Rd wx D 32 h) ∧ 32 ≤ dn ∧ Hid (AtS bs (l.map RV.r) e h) ∧ e ≤ n ∧ 34 * l.length ≤ e ∧ Hid (OutR w.heap.size wx O l.length co l) ∧ Hid (Below w.heap.size w wx)) (fun _ _ e _ => n - (intOf e).toNat)
  case atStart =>
    exact ⟨[], 0, zero32, some ⟨w.heap.size, 0, none⟩, 32, 0, none, rfl, rfl, rfl, HZ0, Nat.le_refl _, hide (at_start bs), Nat.zero_le _, Nat.le_refl _, hide (OutR.nil _ _), HB0⟩
  case round =>
    clear HZ0 HB0
    obtain ⟨l, e, h, D, dn, co, O, rfl, rfl, rfl, HD, hdn, HAT, he, hfew, HO, HB⟩ := hrel
    have hsl := fun W => sl_from A n c e .i64 (e : Int) rfl he W
    have hr2 := rd_from (rb HR.out HB.out) he hnc
    have HLL : Hid ((l.map RV.r).length = l.length) := hide (List.length_map ..)
    have XN := hide (rnext_any (from_ c e A) D (n - e) (c - e) dn l.length (bs.drop e) h wr hr2 (by omega) (by omega) HD.out hdn)
    generalize from_ c e A = AA at *
    obtain ⟨cc, hcc⟩ : ∃ cc, c - e = cc := ⟨_, rfl⟩
    obtain ⟨mm, hmm⟩ : ∃ mm, n - e = mm := ⟨_, rfl⟩
    rw [hcc, hmm] at hsl XN
    clear hcc hr2
    obtain ⟨k, hk⟩ : ∃ k, l.length = k := ⟨_, rfl⟩
    have HK := hide hk
    rw [hk] at hfew HO XN HLL ⊢
    clear hk
    cases hnx : nextP h k (bs.drop e) with
    | none =>
      rw [hnx] at XN
      unfold NextEnd at XN
      dsimp only at XN
      have HE : Hid (scanB bs = (l.map RV.r, h, e)) := hide (at_end HAT.out (by rw [HLL.out]; exact hnx))
      clear hnx hmm
      go_wp2_with fail
      refine XN.out.mono ?_
      rintro e1 w1 ⟨rfl, hb1⟩
      have hb2 := below_more hb1 (Nat.le_refl _) (bl_alloc w1 (.cells #[.int .i64 0, .int .i64 0, .string ⟨#[]⟩, .string ⟨#[]⟩, .slice none 0 0, .bool false] 28))
      have HEND : Hid (RScanEnd bs w (.returned (.tuple #[.slice O k co, .slice D 32 dn, .int .i64 (e : Int)])) (w1.alloc (.cells #[.int .i64 0, .int .i64 0, .string ⟨#[]⟩, .string ⟨#[]⟩, .slice none 0 0, .bool false] 28))) := hide (by
        have h1 := OutR.below HO.out hb2
        rw [← HK.out] at h1 ⊢
        exact ⟨O, co, D, dn, l, by rw [HE.out], h1, h1.le, by rw [HE.out], by rw [HE.out]; exact rb HD.out hb2, below_more HB.out (Nat.le_refl _) hb2⟩)
      clear hb1 hb2 XN HO HD HAT
      go_wp2_with fail
      refine bodyPost_ret (v := .tuple #[.slice O k co, .slice D 32 dn, .int .i64 (e : Int)]) (by simp only [results, Tryz.results23]; go_simp) rfl HEND.out
    | some x =>
      obtain ⟨r, own, z⟩ := x
      rw [hnx] at XN
      unfold NextEnd Rec.v at XN
      dsimp only at XN
      have HN := hide (at_step HAT.out (show nextP h (l.map RV.r).length (bs.drop e) = some (r, own, z) by rw [HLL.out]; exact hnx))
      have hz2 := next_len hnx
      have hz3 : e + z ≤ n := by have h1 := hz2.2.1; rw [List.length_drop, HL.out] at h1; omega
      have hz4 : 34 ≤ z := hz2.1
      obtain ⟨sq, op, pa, pb, dg, al⟩ := r
      dsimp only at XN
      clear hnx hz2 hmm
      go_wp2_with fail
      refine XN.out.mono ?_
      rintro e1 w2 ⟨A4, n4, c4, B4, d4, rfl, h1, h2, h3, h4, h5, ⟨adB, rfl, h6⟩, h7⟩
      obtain ⟨WL, hWL⟩ : ∃ W, w2.alloc (.cells #[.int .i64 sq, .int .i64 op, .string ⟨pa.toArray⟩, .string ⟨pb.toArray⟩, .slice A4 n4 c4, .bool al] 28) = W := ⟨_, rfl⟩
      have hba : Below w2.heap.size w2 WL := by rw [← hWL]; exact bl_alloc _ _
      have hz := Blk.new w2 28 #[.int .i64 sq, .int .i64 op, .string ⟨pa.toArray⟩, .string ⟨pb.toArray⟩, .slice A4 n4 c4, .bool al]
      rw [hWL] at hz
      obtain ⟨z0, z1, z2, z3, z4, z5⟩ := hz.six
      have hzl := hz.lt
      have hb8 := below_more h7 (Nat.le_refl _) hba
      have hb9 := bl_alloc WL (.cells #[.int .i64 sq, .int .i64 op, .string ⟨pa.toArray⟩, .string ⟨pb.toArray⟩, .slice A4 n4 c4, .bool al] 28)
      have hb10 := below_more hb8 (Nat.le_refl _) hb9
      have HB10 := hide (below_more HB.out (Nat.le_refl _) hb10)
      have HO10 := hide (OutR.below HO.out hb10)
      have HX10 := hide ((show RVok w2 ⟨⟨sq, op, pa, pb, dg, al⟩, A4, n4, c4⟩ from ⟨h1, h2⟩).below (below_more hba (Nat.le_refl _) hb9))
      have HY10 := hide (rb h4 (below_more hba (Nat.le_refl _) hb9))
      have HF10 := hide (rv_fresh HO.out (Nat.le_refl _) h3)
      have HGO : Hid (∀ g, (Value.slice O k co).ownBlock = some g → w.heap.size ≤ g ∧ g < wr.heap.size) := hide (fun g hg => HO.out.1.lt g hg)
      have hone : Reads (WL.alloc (.cells #[.int .i64 sq, .int .i64 op, .string ⟨pa.toArray⟩, .string ⟨pb.toArray⟩, .slice A4 n4 c4, .bool al] 28)) (WL.heap.size + 1) 6 (some ⟨WL.heap.size, 0, none⟩) 1 (rcs [⟨⟨sq, op, pa, pb, dg, al⟩, A4, n4, c4⟩]) := by
        have h := one_rec (x := ⟨⟨sq, op, pa, pb, dg, al⟩, A4, n4, c4⟩) (W := WL.alloc (.cells #[.int .i64 sq, .int .i64 op, .string ⟨pa.toArray⟩, .string ⟨pb.toArray⟩, .slice A4 n4 c4, .bool al] 28)) (g := WL.heap.size) (Blk.new WL 28 #[.int .i64 sq, .int .i64 op, .string ⟨pa.toArray⟩, .string ⟨pb.toArray⟩, .slice A4 n4 c4, .bool al])
        simpa using h
      have HONE := hide hone
      have hs10 := HB10.out.size
      have kz : ¬ (z : Int) < 0 := by omega
      have v1 : IntKind.i64.wrap ((e : Int) + (z : Int)) = (e : Int) + (z : Int) := by simp [IntKind.wrap, IntKind.bits, IntKind.signed]; omega
      have h6' : Hid (wr.heap.size ≤ adB.block) := hide h6
      clear h1 h2 h3 h4 h6 h7 hba hz hb8 hb9 hb10 hone XN HO HD HAT
      go_wp2_with (at_builtin; (refine wpList_append_any _ rfl (.tmp 28) (.tmp 30) 31 rfl w.heap.size 28 j0 _ 6 80 Tryz.underlying31 hj0 jz0 jz1 jz2 rfl (by omega) (.slice O k co) k (rcs l) rfl HO10.out.1 (WL.heap.size + 1) (some ⟨WL.heap.size, 0, none⟩) 1 1 _ rfl HONE.out (rcs_one _) ?b1 ?b2 ?b3 ?_))
      case b1 => unfold maxLen; omega
      case b2 => omega
      case b3 => simp at hs10 ⊢; omega
      intro v5 w5 ho5 hg5 hat5
      obtain ⟨O5, co5, rfl⟩ := own_slice ho5
      have HO5 := hide (out_grow HO10.out HX10.out HF10.out ho5 hg5 (by simpa using hat5))
      have HY5 := hide (Reads.grownAt HY10.out hg5 (fun x hx h0 h => by
        injection hx with hx
        have h8 := (HGO.out _ h.symm).2
        have h9 := h6'.out
        rw [← hx] at h8
        omega))
      have HB5 := hide (HB10.out.grown hg5 HB10.out.size (fun g h => (HGO.out g h).1))
      clear ho5 hg5 hat5 HO10 HX10 HF10 HY10 HB10 HONE hs10 z0 z1 z2 z3 z4 z5 hzl hWL
      go_wp2_with fail
      clear v1 kz
      go_roundw
      case rel => exact ⟨l ++ [⟨⟨sq, op, pa, pb, dg, al⟩, A4, n4, c4⟩], e + z, own, some adB, d4, co5, O5, by rw [List.length_append, HK.out]; rfl, rfl, by go_num, HY5, h5, hide (by rw [List.map_append]; exact HN.out), hz3, by rw [List.length_append, HK.out]; simp; omega, hide (by rw [List.length_append, HK.out]; exact HO5.out), HB5⟩
      case measure => simp [intOf]; omega
end Go.Proofs.YtbbobffedgcbhaaGreatDoor
