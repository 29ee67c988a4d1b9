/- The document's Check and Records of a log. The reference's Crash of a disk: what is synced lies in a slice with room for it. The document's Open and Recover of a log. The document's Recover, Write and Same of logs. -/
import Derived.Test.YtbbobffedgcbhaaGreatDoorChKall
import Derived.Test.YtbbobffedgcbhaaGreatDoorAuXall
import Derived.Test.YtbbobffedgcbhaaGreatDoorDkAll
namespace Go.Proofs.YtbbobffedgcbhaaGreatDoor
open Go.RowKit
set_option linter.unusedVariables false
set_option maxRecDepth 100000 in
set_option maxHeartbeats 8000000 in
theorem rlcheck_any (L : Lg) (A : Option Addr) (n c : Nat) (B : Option Addr) (m k : Nat) (H : Option Addr) (hn hc : Nat) (w : World) (hI : LogIn w L A n c B m k H hn hc) :
    Calls Tryz.prog 15 #[lv L A n c B m k H hn hc] w fun e w' => e = .returned (.bool (okL L)) ∧ Below w.heap.size w w' := by
  obtain ⟨s, p, room, dead, arm, seq, hash, stop⟩ := L
  obtain ⟨rs, ls, rp, lp, rh, lh, sn, sm, sh⟩ := hI
  dsimp only at *
  have hls : s.length = n := rs.len
  have hlp : p.length = m := rp.len
  have hb := bl_alloc w (.cells #[.slice A n c, .slice B m k, .int .i64 room, .bool dead, .int .i64 arm, .int .i64 seq, .slice H hn hc, .bool stop] 26)
  have hk := Blk.new w 26 #[.slice A n c, .slice B m k, .int .i64 room, .bool dead, .int .i64 arm, .int .i64 seq, .slice H hn hc, .bool stop]
  have HKO := hide (okL_not (L := ⟨s, p, room, dead, arm, seq, hash, stop⟩))
  have HKY := hide (okL_join (L := ⟨s, p, room, dead, arm, seq, hash, stop⟩))
  dsimp only at HKO HKY
  rw [hls, hlp] at HKO HKY
  generalize okL ⟨s, p, room, dead, arm, seq, hash, stop⟩ = OK at *
  have HNO : Hid (∀ W, OK = false → Below w.heap.size w W → (Ending.returned (.bool false) = Ending.returned (.bool OK) ∧ Below w.heap.size w W)) := hide (fun W h1 h2 => ⟨by rw [h1], h2⟩)
  have HYES : Hid (∀ W, OK = true → Below w.heap.size w W → (Ending.returned (.bool true) = Ending.returned (.bool OK) ∧ Below w.heap.size w W)) := hide (fun W h1 h2 => ⟨by rw [h1], h2⟩)
  have XC := hide (fun W => Dk.rcheck_any A n c B m k room dead arm W (by omega) (by omega))
  have XS := hide (fun W (hW : Below w.heap.size w W) => rscan_any A n c s W (rb rs hW) ls (by omega))
  have XH := hide (fun W (hW : Below w.heap.size w W) => conv_str (c := hc) (rb rh hW))
  unfold RScanEnd at XS
  obtain ⟨E, hE⟩ : ∃ E, (scanB s).2.2 = E := ⟨_, rfl⟩
  obtain ⟨Dg, hDg⟩ : ∃ D, (scanB s).2.1 = D := ⟨_, rfl⟩
  obtain ⟨P, hP⟩ : ∃ P, (scanB s).1 = P := ⟨_, rfl⟩
  rw [hE, hDg, hP] at XS HKO HKY
  have HB := hide hb
  have HK := hide hk
  clear hls hlp hb hk rs rp rh hE hDg hP
  obtain ⟨d, hd⟩ : ∃ d, Dk.okD n m room arm = d := ⟨_, rfl⟩
  rw [hd] at XC HKO HKY
  clear hd
  unfold lv Dk.dv at *
  dsimp only at *
  go_enter Tryz.func15, Tryz.ntmps15
  go_wp2_with fail
  refine (XC.out _).mono ?_
  rintro e1 w1 ⟨rfl, hw1⟩
  unfold Dk.dC at hw1
  have hb1 : Below w.heap.size w w1 := by rw [← hw1]; exact HB.out.alloc (by simp) _
  have hk1 : Blk w1 w.heap.size 26 #[.slice A n c, .slice B m k, .int .i64 room, .bool dead, .int .i64 arm, .int .i64 seq, .slice H hn hc, .bool stop] := by rw [← hw1]; exact HK.out.below (bl_alloc _ _) HK.out.lt
  have HB1 := hide hb1
  have HK1 := hide hk1
  clear hw1 hb1 hk1 XC HB HK
  cases d with
  | false =>
    have HX := hide (HNO.out w1 (HKO.out (fun h => by cases h.1)) HB1.out)
    go_wp2_with fail
    first | exact HX.out | (go_ret; exact HX.out) | refine bodyPost_ret (v := .bool false) (by simp only [results, Tryz.results15]; go_simp) rfl HX.out
  | true =>
    obtain ⟨z0, z1, z2, z3, z4, z5, z6, z7⟩ := HK1.out.eight
    have zl := HK1.out.lt
    have XS1 := hide (XS.out w1 HB1.out)
    clear XS
    go_wp2_with fail
    refine XS1.out.mono ?_
    rintro e2 w2 ⟨O, co, D, dn, l, rfl, g1, g1', g2, g3, g4⟩
    have hpl : P.length = l.length := by rw [← g2, List.length_map]
    rw [hpl] at HKO HKY
    have hb2 := below_more HB1.out (Nat.le_refl _) g4
    have hk2 := HK1.out.below g4 HK1.out.lt
    have cv1 := conv_str (c := dn) g3
    have cv2 := XH.out w2 hb2
    obtain ⟨q, hq⟩ : ∃ q, l.length = q := ⟨_, rfl⟩
    have HYE : Hid (∀ W, OK = true → Below w2.heap.size w2 W → (Ending.returned (.bool true) = Ending.returned (.bool OK) ∧ Below w.heap.size w W)) := hide (fun W h1 h2 => HYES.out W h1 (below_more hb2 (Nat.le_refl _) h2))
    have HNE : Hid (∀ W, OK = false → Below w2.heap.size w2 W → (Ending.returned (.bool false) = Ending.returned (.bool OK) ∧ Below w.heap.size w W)) := hide (fun W h1 h2 => HNO.out W h1 (below_more hb2 (Nat.le_refl _) h2))
    rw [hq] at HKO HKY ⊢
    clear z0 z1 z2 z3 z4 z5 z6 z7 zl
    obtain ⟨z0, z1, z2, z3, z4, z5, z6, z7⟩ := hk2.eight
    have zl := hk2.lt
    clear g1 g1' g2 g3 g4 hk2 hpl hq hb2 HB1 HK1 XH XS1 HNO HYES
    by_cases hsq : (q : Int) = seq
    · subst hsq
      cases hh : (Dg == hash) with
      | false =>
        have HX := hide (HNE.out w2 (HKO.out (fun h => by rw [h.2.2.1] at hh; simp at hh)) (Below.refl _ _))
        go_wp2_with fail
        first | exact HX.out | (go_ret; exact HX.out) | refine bodyPost_ret (v := .bool false) (by simp only [results, Tryz.results15]; go_simp) rfl HX.out
      | true =>
        have hde : Dg = hash := by simpa using hh
        cases stop with
        | true =>
          have HX := hide (HYE.out w2 (HKY.out (by trivial) (by trivial) hde (by simp)) (Below.refl _ _))
          clear hde HKO HKY
          go_wp2_with fail
          first | exact HX.out | (go_ret; exact HX.out) | refine bodyPost_ret (v := .bool true) (by simp only [results, Tryz.results15]; go_simp) rfl HX.out
        | false =>
          by_cases he : E = n
          · by_cases hm : m = 0
            · cases dead with
              | false =>
                have HX := hide (HYE.out w2 (HKY.out (by trivial) (by trivial) hde (.inr ⟨he, hm, rfl⟩)) (Below.refl _ _))
                subst he
                subst hm
                clear hde HKO HKY
                go_wp2_with fail
                first | exact HX.out | (go_ret; exact HX.out) | refine bodyPost_ret (v := .bool true) (by simp only [results, Tryz.results15]; go_simp) rfl HX.out
              | true =>
                have HX := hide (HNE.out w2 (HKO.out (fun h => by have := h.2.2.2; simp at this)) (Below.refl _ _))
                clear hde HKO HKY
                subst he
                subst hm
                go_wp2_with fail
                first | exact HX.out | (go_ret; exact HX.out) | refine bodyPost_ret (v := .bool false) (by simp only [results, Tryz.results15]; go_simp) rfl HX.out
            · have HX := hide (HNE.out w2 (HKO.out (fun h => by have := h.2.2.2; simp at this; omega)) (Below.refl _ _))
              have hm1 : ((m : Int) == 0) = false := by rw [beq_eq_false_iff_ne]; omega
              clear hde HKO HKY hm
              subst he
              go_wp2_with fail
              first | exact HX.out | (go_ret; exact HX.out) | refine bodyPost_ret (v := .bool false) (by simp only [results, Tryz.results15]; go_simp) rfl HX.out
          · have HX := hide (HNE.out w2 (HKO.out (fun h => by have := h.2.2.2; simp at this; omega)) (Below.refl _ _))
            have he1 : ((E : Int) == (n : Int)) = false := by rw [beq_eq_false_iff_ne]; omega
            clear hde HKO HKY he
            go_wp2_with fail
            first | exact HX.out | (go_ret; exact HX.out) | refine bodyPost_ret (v := .bool false) (by simp only [results, Tryz.results15]; go_simp) rfl HX.out
    · have HX := hide (HNE.out w2 (HKO.out (fun h => hsq h.2.1)) (Below.refl _ _))
      have hsq1 : ((q : Int) != seq) = true := by rw [bne_iff_ne]; exact hsq
      clear hsq HKO HKY
      go_wp2_with fail
      first | exact HX.out | (go_ret; exact HX.out) | refine bodyPost_ret (v := .bool false) (by simp only [results, Tryz.results15]; go_simp) rfl HX.out
set_option maxRecDepth 100000 in
set_option maxHeartbeats 4000000 in
theorem rlrecords_any (L : Lg) (A : Option Addr) (n c : Nat) (B : Option Addr) (m k : Nat) (H : Option Addr) (hn hc : Nat) (w : World) (hI : LogIn w L A n c B m k H hn hc) :
    Calls Tryz.prog 17 #[lv L A n c B m k H hn hc] w (RRet (rcR L) w) := by
  have hb := bl_alloc w (.cells (lcs L A n c B m k H hn hc) 26)
  have XC := hide (rlcheck_any L A n c B m k H hn hc _ (hI.below hb))
  have XS := hide (fun W (hW : Below w.heap.size w W) => rscan_any A n c L.s W (rb hI.rs hW) hI.ls (by have := hI.sn; omega))
  have HK := hide (Blk.new w 26 (lcs L A n c B m k H hn hc))
  have HB := hide hb
  clear hb hI
  unfold RScanEnd at XS
  cases hok : okL L with
  | false =>
    have he : rcR L = [] := if_neg (by rw [hok]; simp)
    rw [he]
    rw [hok] at XC
    clear he hok XS HK
    obtain ⟨s, p, room, dead, arm, seq, hash, stop⟩ := L
    unfold lcs lv at *
    dsimp only at *
    go_enter Tryz.func17, Tryz.ntmps17
    go_wp2_with fail
    refine XC.out.mono ?_
    rintro e1 w1 ⟨rfl, hb1⟩
    have HB1 := hide (below_more HB.out (Nat.le_refl _) hb1)
    clear hb1 XC
    go_wp2_with fail
    go_ret
    exact ⟨none, 0, [], rfl, rnil w1, rfl, HB1.out⟩
  | true =>
    have he : rcR L = (scanB L.s).1 := if_pos hok
    rw [he]
    rw [hok] at XC
    clear he hok
    obtain ⟨s, p, room, dead, arm, seq, hash, stop⟩ := L
    unfold lcs lv at *
    dsimp only at *
    obtain ⟨P, hP⟩ : ∃ P, (scanB s).1 = P := ⟨_, rfl⟩
    rw [hP] at XS ⊢
    clear hP
    go_enter Tryz.func17, Tryz.ntmps17
    go_wp2_with fail
    refine XC.out.mono ?_
    rintro e1 w1 ⟨rfl, hb1⟩
    have HB1 := hide (below_more HB.out (Nat.le_refl _) hb1)
    have hk1 := HK.out.below hb1 HK.out.lt
    obtain ⟨z0, z1, z2, z3, z4, z5, z6, z7⟩ := hk1.eight
    have zl := hk1.lt
    have XS1 := hide (XS.out w1 HB1.out)
    clear hb1 XC XS hk1 HK
    go_wp2_with fail
    refine XS1.out.mono ?_
    rintro e2 w2 ⟨O, co, D, dn, l, rfl, g1, g1', g2, g3, g4⟩
    have HB2 := hide (below_more HB1.out (Nat.le_refl _) g4)
    have HR := hide g1.row
    have HM := hide g2
    obtain ⟨q, hq⟩ : ∃ q, l.length = q := ⟨_, rfl⟩
    have HQ := hide hq
    rw [hq] at HR ⊢
    clear g1 g1' g2 g3 g4 XS1 hq
    go_wp2_with fail
    go_ret
    exact ⟨O, co, l, by rw [HQ.out]; rfl, by rw [HQ.out]; exact HR.out, HM.out, HB2.out⟩
end Go.Proofs.YtbbobffedgcbhaaGreatDoor
namespace Go.Proofs.YtbbobffedgcbhaaGreatDoor.Dk
open Go.RowKit
set_option linter.unusedVariables false
def RRetC (w : World) (room : Int) (D : Bool) (R : Int) (S P : List UInt8) (e : Ending) (w' : World) : Prop :=
  ∃ A n c B m k, e = .returned (dv A n c B m k room D R) ∧ n ≤ c ∧ Rd w' A n S ∧ Rd w' B m P ∧ Below w.heap.size w w'
set_option maxHeartbeats 4000000 in
theorem rcrash_cap (A : Option Addr) (c : Nat) (B : Option Addr) (k : Nat) (room : Int) (dead : Bool) (arm q : Int) (s p : List UInt8) (w : World) (hs : Rd w A s.length s) (hp : Rd w B p.length p) (h1 : s.length ≤ 10000) (h2 : p.length ≤ 10000) (hk : p.length ≤ k) (hc : s.length ≤ c) :
    Calls Tryz.prog 35 #[dv A s.length c B p.length k room dead arm, .int .i64 q] w (RRetC w room (crD dead (okD s.length p.length room arm)) (crA arm (okD s.length p.length room arm)) (crS s p (okD s.length p.length room arm) q) (crP p (okD s.length p.length room arm))) := by
  generalize hok : okD s.length p.length room arm = ok
  go_enter Tryz.func35, Tryz.ntmps35
  go_wp2_with fail
  refine (rcheck_any A _ c B _ k room dead arm _ (by omega) (by omega)).mono ?_
  rintro e w3 ⟨rfl, rfl⟩
  rw [hok]
  clear hok
  cases ok
  · have HE : Hid (crD dead false = dead ∧ crA arm false = arm ∧ crS s p false q = s ∧ crP p false = p) := hide ⟨rfl, rfl, rfl, rfl⟩
    go_wp2
    have belF : Below w.heap.size w (((w.alloc (dC A s.length c B p.length k room dead arm)).alloc (dC A s.length c B p.length k room dead arm)).alloc (dC A s.length c B p.length k room dead arm)) := (((Below.refl w.heap.size w).alloc (Nat.le_refl _) _).alloc (by simp) _).alloc (by simp; omega) _
    refine bodyPost_ret (v := dv A s.length c B p.length k room dead arm) (by simp only [results, Tryz.results35]; go_simp) rfl ⟨A, _, c, B, _, k, by rw [HE.out.1, HE.out.2.1], hc, ?_, ?_, ?_⟩
    · rw [HE.out.2.2.1]; exact (Reads.below hs belF).more belF.size
    · rw [HE.out.2.2.2]; exact (Reads.below hp belF).more belF.size
    · ((repeat (refine Below.alloc ?_ (by first | exact Nat.le_refl _ | (simp; done) | (simp; omega)) _)); exact Below.refl _ _)
  · obtain ⟨n, hn⟩ : ∃ n, kpN p.length q = n := ⟨_, rfl⟩
    have hnl : n ≤ p.length := hn ▸ kpN_le _ _
    have HE : Hid (crD dead true = false ∧ crA arm true = -1 ∧ crS s p true q = s ++ p.take n ∧ crP p true = []) := hide ⟨rfl, rfl, by unfold crS; rw [if_pos rfl, hn], rfl⟩
    have hsl := fun W => run_slice_to (P := Tryz.prog) 22 5 Tryz.underlying22 sizeU8 B p.length k .i64 (n : Int) (by omega) (by omega) W
    simp only [Int.toNat_natCast] at hsl
    generalize hW : ((w.alloc (dC A s.length c B p.length k room dead arm)).alloc (.cells #[.slice none 0 0, .slice none 0 0, .int .i64 0, .bool false, .int .i64 0] 24)).alloc (dC A s.length c B p.length k room dead arm) = W1
    have hP : Blk W1 w.heap.size 24 #[Value.slice A s.length c, .slice B p.length k, .int .i64 room, .bool dead, .int .i64 arm] := by rw [← hW]; exact ((Blk.new w 24 _).alloc _).alloc _
    have hQ : Blk W1 (w.heap.size + 1) 24 #[.slice none 0 0, .slice none 0 0, .int .i64 0, .bool false, .int .i64 0] := by
      rw [← hW]
      have h := (Blk.new (w.alloc (dC A s.length c B p.length k room dead arm)) 24 #[.slice none 0 0, .slice none 0 0, .int .i64 0, .bool false, .int .i64 0]).alloc (dC A s.length c B p.length k room dead arm)
      rwa [World.size_alloc] at h
    have bel : Hid (Below w.heap.size w W1) := hide (by rw [← hW]; exact (((Below.refl w.heap.size w).alloc (Nat.le_refl _) _).alloc (by simp) _).alloc (by simp; omega) _)
    have zW : w.heap.size + 3 ≤ W1.heap.size := by rw [← hW]; simp
    have RA : Hid (Rd W1 A s.length s) := hide ((Reads.below hs bel.out).more bel.out.size)
    have RB : Hid (Rd W1 B n (p.take n)) := hide (by
      have h := Reads.take ((Reads.below hp bel.out).more bel.out.size) (q := n) hnl
      rwa [← bv_take] at h)
    clear hW hs hp
    have HP := hide hP
    have HQ := hide hQ
    clear hQ
    obtain ⟨⟨a0, a1, a2, a3, a4⟩, f0, f1, f2, f3, f4⟩ := hP.five
    clear hP
    have XJ := hide (rjoin_any A s.length c B n k s (p.take n) W1.drew RA.out.drew RB.out.drew (by omega) (by omega))
    have HN := hide hn
    have hne : w.heap.size ≠ w.heap.size + 1 := by omega
    by_cases c1 : q < 0
    · obtain rfl : n = 0 := by rw [← hn]; unfold kpN; rw [if_pos c1]
      clear hn
      simp only [Int.natCast_zero] at hsl
      go_upto_region 4 with (fail)
      go_region_held3 (fun W => W.cell? ⟨w.heap.size, 0, none⟩ = some (.slice A s.length c) ∧ W.cell? ⟨w.heap.size, 1, none⟩ = some (.slice B p.length k) ∧ W.cell? ⟨w.heap.size, 2, none⟩ = some (.int .i64 room))
        (first | with_reducible exact blk5a HP.out.drew | with_reducible exact blk5a HP5.out | with_reducible exact blk5a (((((HP5.out.far (p := ⟨w.heap.size + 1, 0, none⟩) hne _).far (p := ⟨w.heap.size + 1, 1, none⟩) hne _).far (p := ⟨w.heap.size + 1, 2, none⟩) hne _).far (p := ⟨w.heap.size + 1, 3, none⟩) hne _).far (p := ⟨w.heap.size + 1, 4, none⟩) hne _))
        (first
          | (go_at_call 45
             refine XJ.out.mono ?_
             rintro e w5 ⟨J, j, rfl, ho, k5⟩
             have HP5 := hide (HP.out.drew.below k5 HP.out.lt)
             have HQ5 := hide (HQ.out.drew.below k5 HQ.out.lt)
             have bel5 := hide (below_more bel.out.drew (Nat.le_refl _) k5)
             have OJ : Hid (Rc (w.heap.size + 2) w5 J (s.length + 0) j (s ++ p.take 0)) := hide (rc_of_own ho (by simp; omega))
             have z5 := k5.size
             simp at z5
             obtain ⟨⟨u0, u1, u2, u3, u4⟩, v0, v1, v2, v3, v4⟩ := HP5.out.five
             obtain ⟨⟨x0, x1, x2, x3, x4⟩, y0, y1, y2, y3, y4⟩ := HQ5.out.five
             clear k5 ho))
      all_goals
        have hz5 : w.heap.size + 1 < w5.heap.size := by omega
        go_wp2
        refine bodyPost_ret (v := dv J (s.length + 0) j none 0 0 room false (-1)) (by simp only [results, Tryz.results35]; go_simp) rfl ⟨J, _, j, none, 0, 0, by rw [HE.out.1, HE.out.2.1], OJ.out.caps.1, ?_, ?_, ?_⟩
        · rw [HE.out.2.2.1]; exact Rc.rd (B := w.heap.size + 2) (((((OJ.out.far (by simp) _).far (by simp) _).far (by simp) _).far (by simp) _).far (by simp) _)
        · rw [HE.out.2.2.2]; exact Reads.none_
        · exact ((((bel5.out.setCell (by simp) _).setCell (by simp) _).setCell (by simp) _).setCell (by simp) _).setCell (by simp) _
    · by_cases c0 : q = 0
      · subst c0
        obtain rfl : n = 0 := by rw [← hn]; unfold kpN; rw [if_neg c1]; split <;> omega
        clear hn c1
        simp only [Int.natCast_zero] at hsl
        go_upto_region 4 with (fail)
        go_region_held3 (fun W => W.cell? ⟨w.heap.size, 0, none⟩ = some (.slice A s.length c) ∧ W.cell? ⟨w.heap.size, 1, none⟩ = some (.slice B p.length k) ∧ W.cell? ⟨w.heap.size, 2, none⟩ = some (.int .i64 room))
          (first | with_reducible exact blk5a HP.out.drew | with_reducible exact blk5a HP5.out | with_reducible exact blk5a (((((HP5.out.far (p := ⟨w.heap.size + 1, 0, none⟩) hne _).far (p := ⟨w.heap.size + 1, 1, none⟩) hne _).far (p := ⟨w.heap.size + 1, 2, none⟩) hne _).far (p := ⟨w.heap.size + 1, 3, none⟩) hne _).far (p := ⟨w.heap.size + 1, 4, none⟩) hne _))
          (first
            | (go_at_call 45
               refine XJ.out.mono ?_
               rintro e w5 ⟨J, j, rfl, ho, k5⟩
               have HP5 := hide (HP.out.drew.below k5 HP.out.lt)
               have HQ5 := hide (HQ.out.drew.below k5 HQ.out.lt)
               have bel5 := hide (below_more bel.out.drew (Nat.le_refl _) k5)
               have OJ : Hid (Rc (w.heap.size + 2) w5 J (s.length + 0) j (s ++ p.take 0)) := hide (rc_of_own ho (by simp; omega))
               have z5 := k5.size
               simp at z5
               obtain ⟨⟨u0, u1, u2, u3, u4⟩, v0, v1, v2, v3, v4⟩ := HP5.out.five
               obtain ⟨⟨x0, x1, x2, x3, x4⟩, y0, y1, y2, y3, y4⟩ := HQ5.out.five
               clear k5 ho))
        all_goals
          have hz5 : w.heap.size + 1 < w5.heap.size := by omega
          go_wp2
          refine bodyPost_ret (v := dv J (s.length + 0) j none 0 0 room false (-1)) (by simp only [results, Tryz.results35]; go_simp) rfl ⟨J, _, j, none, 0, 0, by rw [HE.out.1, HE.out.2.1], OJ.out.caps.1, ?_, ?_, ?_⟩
          · rw [HE.out.2.2.1]; exact Rc.rd (B := w.heap.size + 2) (((((OJ.out.far (by simp) _).far (by simp) _).far (by simp) _).far (by simp) _).far (by simp) _)
          · rw [HE.out.2.2.2]; exact Reads.none_
          · exact ((((bel5.out.setCell (by simp) _).setCell (by simp) _).setCell (by simp) _).setCell (by simp) _).setCell (by simp) _
      · by_cases cp : p.length = 0
        · obtain rfl := List.eq_nil_of_length_eq_zero cp
          obtain rfl : n = 0 := by simp at hnl; exact hnl
          have c3 : 0 < q := by omega
          clear hn c1 c0 cp
          simp only [Int.natCast_zero, List.length_nil] at hsl
          simp only [List.length_nil] at *
          go_upto_region 4 with (fail)
          go_region_held3 (fun W => W.cell? ⟨w.heap.size, 0, none⟩ = some (.slice A s.length c) ∧ W.cell? ⟨w.heap.size, 1, none⟩ = some (.slice B 0 k) ∧ W.cell? ⟨w.heap.size, 2, none⟩ = some (.int .i64 room))
            (first | with_reducible exact blk5a HP.out.drew | with_reducible exact blk5a HP5.out | with_reducible exact blk5a (((((HP5.out.far (p := ⟨w.heap.size + 1, 0, none⟩) hne _).far (p := ⟨w.heap.size + 1, 1, none⟩) hne _).far (p := ⟨w.heap.size + 1, 2, none⟩) hne _).far (p := ⟨w.heap.size + 1, 3, none⟩) hne _).far (p := ⟨w.heap.size + 1, 4, none⟩) hne _))
            (first
              | (go_at_call 45
                 refine XJ.out.mono ?_
                 rintro e w5 ⟨J, j, rfl, ho, k5⟩
                 have HP5 := hide (HP.out.drew.below k5 HP.out.lt)
                 have HQ5 := hide (HQ.out.drew.below k5 HQ.out.lt)
                 have bel5 := hide (below_more bel.out.drew (Nat.le_refl _) k5)
                 have OJ : Hid (Rc (w.heap.size + 2) w5 J (s.length + 0) j (s ++ [].take 0)) := hide (rc_of_own ho (by simp; omega))
                 have z5 := k5.size
                 simp at z5
                 obtain ⟨⟨u0, u1, u2, u3, u4⟩, v0, v1, v2, v3, v4⟩ := HP5.out.five
                 obtain ⟨⟨x0, x1, x2, x3, x4⟩, y0, y1, y2, y3, y4⟩ := HQ5.out.five
                 clear k5 ho))
          all_goals
            have hz5 : w.heap.size + 1 < w5.heap.size := by omega
            go_wp2
            refine bodyPost_ret (v := dv J (s.length + 0) j none 0 0 room false (-1)) (by simp only [results, Tryz.results35]; go_simp) rfl ⟨J, _, j, none, 0, 0, by rw [HE.out.1, HE.out.2.1], OJ.out.caps.1, ?_, ?_, ?_⟩
            · rw [HE.out.2.2.1]; exact Rc.rd (B := w.heap.size + 2) (((((OJ.out.far (by simp) _).far (by simp) _).far (by simp) _).far (by simp) _).far (by simp) _)
            · rw [HE.out.2.2.2]; exact Reads.none_
            · exact ((((bel5.out.setCell (by simp) _).setCell (by simp) _).setCell (by simp) _).setCell (by simp) _).setCell (by simp) _
        · by_cases c2 : (p.length : Int) < q
          · obtain rfl : n = p.length := by rw [← hn]; unfold kpN; rw [if_neg c1, if_pos c2]
            have c3 : (0 : Int) < p.length := by omega
            clear hn
            go_upto_region 4 with (fail)
            go_region_held3 (fun W => W.cell? ⟨w.heap.size, 0, none⟩ = some (.slice A s.length c) ∧ W.cell? ⟨w.heap.size, 1, none⟩ = some (.slice B p.length k) ∧ W.cell? ⟨w.heap.size, 2, none⟩ = some (.int .i64 room))
              (first | with_reducible exact blk5a HP.out.drew | with_reducible exact blk5a HP5.out | with_reducible exact blk5a (((((HP5.out.far (p := ⟨w.heap.size + 1, 0, none⟩) hne _).far (p := ⟨w.heap.size + 1, 1, none⟩) hne _).far (p := ⟨w.heap.size + 1, 2, none⟩) hne _).far (p := ⟨w.heap.size + 1, 3, none⟩) hne _).far (p := ⟨w.heap.size + 1, 4, none⟩) hne _))
              (first
                | (go_at_call 45
                   refine XJ.out.mono ?_
                   rintro e w5 ⟨J, j, rfl, ho, k5⟩
                   have HP5 := hide (HP.out.drew.below k5 HP.out.lt)
                   have HQ5 := hide (HQ.out.drew.below k5 HQ.out.lt)
                   have bel5 := hide (below_more bel.out.drew (Nat.le_refl _) k5)
                   have OJ : Hid (Rc (w.heap.size + 2) w5 J (s.length + p.length) j (s ++ p.take p.length)) := hide (rc_of_own ho (by simp; omega))
                   have z5 := k5.size
                   simp at z5
                   obtain ⟨⟨u0, u1, u2, u3, u4⟩, v0, v1, v2, v3, v4⟩ := HP5.out.five
                   obtain ⟨⟨x0, x1, x2, x3, x4⟩, y0, y1, y2, y3, y4⟩ := HQ5.out.five
                   clear k5 ho))
            all_goals
              have hz5 : w.heap.size + 1 < w5.heap.size := by omega
              go_wp2
              refine bodyPost_ret (v := dv J (s.length + p.length) j none 0 0 room false (-1)) (by simp only [results, Tryz.results35]; go_simp) rfl ⟨J, _, j, none, 0, 0, by rw [HE.out.1, HE.out.2.1], OJ.out.caps.1, ?_, ?_, ?_⟩
              · rw [HE.out.2.2.1]; exact Rc.rd (B := w.heap.size + 2) (((((OJ.out.far (by simp) _).far (by simp) _).far (by simp) _).far (by simp) _).far (by simp) _)
              · rw [HE.out.2.2.2]; exact Reads.none_
              · exact ((((bel5.out.setCell (by simp) _).setCell (by simp) _).setCell (by simp) _).setCell (by simp) _).setCell (by simp) _
          · obtain rfl : q = (n : Int) := by rw [← hn]; unfold kpN; rw [if_neg c1, if_neg c2]; omega
            have c3 : (0 : Int) < n := by omega
            clear hn c1 c0
            go_upto_region 4 with (fail)
            go_region_held3 (fun W => W.cell? ⟨w.heap.size, 0, none⟩ = some (.slice A s.length c) ∧ W.cell? ⟨w.heap.size, 1, none⟩ = some (.slice B p.length k) ∧ W.cell? ⟨w.heap.size, 2, none⟩ = some (.int .i64 room))
              (first | with_reducible exact blk5a HP.out.drew | with_reducible exact blk5a HP5.out | with_reducible exact blk5a (((((HP5.out.far (p := ⟨w.heap.size + 1, 0, none⟩) hne _).far (p := ⟨w.heap.size + 1, 1, none⟩) hne _).far (p := ⟨w.heap.size + 1, 2, none⟩) hne _).far (p := ⟨w.heap.size + 1, 3, none⟩) hne _).far (p := ⟨w.heap.size + 1, 4, none⟩) hne _))
              (first
                | (go_at_call 45
                   refine XJ.out.mono ?_
                   rintro e w5 ⟨J, j, rfl, ho, k5⟩
                   have HP5 := hide (HP.out.drew.below k5 HP.out.lt)
                   have HQ5 := hide (HQ.out.drew.below k5 HQ.out.lt)
                   have bel5 := hide (below_more bel.out.drew (Nat.le_refl _) k5)
                   have OJ : Hid (Rc (w.heap.size + 2) w5 J (s.length + n) j (s ++ p.take n)) := hide (rc_of_own ho (by simp; omega))
                   have z5 := k5.size
                   simp at z5
                   obtain ⟨⟨u0, u1, u2, u3, u4⟩, v0, v1, v2, v3, v4⟩ := HP5.out.five
                   obtain ⟨⟨x0, x1, x2, x3, x4⟩, y0, y1, y2, y3, y4⟩ := HQ5.out.five
                   clear k5 ho))
            all_goals
              have hz5 : w.heap.size + 1 < w5.heap.size := by omega
              go_wp2
              refine bodyPost_ret (v := dv J (s.length + n) j none 0 0 room false (-1)) (by simp only [results, Tryz.results35]; go_simp) rfl ⟨J, _, j, none, 0, 0, by rw [HE.out.1, HE.out.2.1], OJ.out.caps.1, ?_, ?_, ?_⟩
              · rw [HE.out.2.2.1]; exact Rc.rd (B := w.heap.size + 2) (((((OJ.out.far (by simp) _).far (by simp) _).far (by simp) _).far (by simp) _).far (by simp) _)
              · rw [HE.out.2.2.2]; exact Reads.none_
              · exact ((((bel5.out.setCell (by simp) _).setCell (by simp) _).setCell (by simp) _).setCell (by simp) _).setCell (by simp) _
end Go.Proofs.YtbbobffedgcbhaaGreatDoor.Dk
namespace Go.Proofs.YtbbobffedgcbhaaGreatDoor
open Go.RowKit
set_option linter.unusedVariables false
structure LRdW (w : World) (L : Lg) (A : Option Addr) (n : Nat) (B : Option Addr) (m : Nat) (H : Option Addr) (hn : Nat) : Prop where
  rs : Rd w A n L.s
  rp : Rd w B m L.p
  rh : Rd w H hn L.hash
theorem LRdW.below {w w' : World} {L : Lg} {A : Option Addr} {n : Nat} {B : Option Addr} {m : Nat} {H : Option Addr} {hn : Nat} (h : LRdW w L A n B m H hn) (hb : Below w.heap.size w w') : LRdW w' L A n B m H hn := ⟨rb h.rs hb, rb h.rp hb, rb h.rh hb⟩
theorem LogIn.w {w : World} {L : Lg} {A : Option Addr} {n c : Nat} {B : Option Addr} {m k : Nat} {H : Option Addr} {hn hc : Nat} (h : LogIn w L A n c B m k H hn hc) : LRdW w L A n B m H hn := ⟨h.rs, h.rp, h.rh⟩
def OpenW (s : LB) (room arm : Int) (w : World) (e : Ending) (w' : World) : Prop := ∃ A n c B m k H hc O co l, e = .returned (.tuple #[lv (opP s room arm) A n c B m k H 32 hc, .slice O l.length co, .int .i64 0]) ∧ LRdW w' (opP s room arm) A n B m H 32 ∧ OutR w.heap.size w' O l.length co l ∧ l.map RV.r = (scanB s).1 ∧ Below w.heap.size w w'
def ORetW (R : Lg × List Rec × Int) (w : World) (e : Ending) (w' : World) : Prop := ∃ A n c B m k H hn hc O co l, e = .returned (.tuple #[lv R.1 A n c B m k H hn hc, .slice O l.length co, .int .i64 R.2.2]) ∧ LRdW w' R.1 A n B m H hn ∧ RowR w' O l.length l ∧ l.map RV.r = R.2.1 ∧ Below w.heap.size w w'
theorem zendW (E : Int) (w w' : World) (hb : Below w.heap.size w w') : ORetW (zL, [], E) w (.returned (.tuple #[.agg #[.slice none 0 0, .slice none 0 0, .int .i64 0, .bool false, .int .i64 0, .int .i64 0, .slice none 0 0, .bool false], .slice none 0 0, .int .i64 E])) w' :=
  ⟨none, 0, 0, none, 0, 0, none, 0, 0, none, 0, [], rfl, (zin w').w, rnil w', rfl, hb⟩
set_option maxRecDepth 100000 in
set_option maxHeartbeats 16000000 in
theorem ropen_ok (s p : LB) (room arm : Int) (A : Option Addr) (n c : Nat) (B : Option Addr) (m k : Nat) (w : World) (rs : Rd w A n s) (ls : n ≤ c) (rp : Rd w B m p) (lp : m ≤ k) (hm : p = []) (sn : n ≤ 9000) (hok : Dk.okD n m room arm = true) :
    Calls Tryz.prog 7 #[.agg #[.slice A n c, .slice B m k, .int .i64 room, .bool false, .int .i64 arm]] w (OpenW s room arm w) := by
  have hls : s.length = n := rs.len
  have hlp : p.length = m := rp.len
  have hm0 : m = 0 := by rw [← hlp, hm]; rfl
  have hEn := scanB_end s
  have hlast := scanB_last s
  have XC := hide (fun W => Dk.rcheck_any A n c B m k room false arm W (by omega) (by omega))
  have XS := hide (fun W (hW : Below w.heap.size w W) => rscan_any A n c s W (rb rs hW) ls (by omega))
  have XU := hide (fun W (hW : Below w.heap.size w W) => Dk.rcut_any A c B k room false arm ((scanB s).2.2 : Int) s p W (by rw [hls]; exact rb rs hW) (by rw [hlp]; exact rb rp hW) (by omega) (by omega) (by omega))
  rw [hok] at XC
  have hce : Dk.ctE s.length p.length room false arm ((scanB s).2.2 : Int) = 0 := by
    unfold Dk.ctE
    rw [if_pos ⟨by rw [hls, hlp]; exact hok, by omega, rfl, by omega, by omega⟩]
  rw [hce] at XU
  have hcs : Dk.ctS s 0 ((scanB s).2.2 : Int) = s.take (scanB s).2.2 := by
    unfold Dk.ctS
    rw [if_pos rfl, Int.toNat_natCast]
  rw [hcs] at XU
  have hop : opP s room arm = ⟨s.take (scanB s).2.2, [], room, false, arm, ((scanB s).1.length : Int), (scanB s).2.1, false⟩ := rfl
  obtain ⟨OPL, hOPL⟩ : ∃ o, opP s room arm = o := ⟨_, rfl⟩
  rw [hOPL] at hop
  have HOPL := hide hOPL
  unfold Dk.REnd at XU
  unfold RScanEnd at XS
  rw [hls, hlp] at XU
  rw [hls] at hEn
  obtain ⟨E, hE⟩ : ∃ E, (scanB s).2.2 = E := ⟨_, rfl⟩
  obtain ⟨Dg, hDg⟩ : ∃ D, (scanB s).2.1 = D := ⟨_, rfl⟩
  obtain ⟨P, hP⟩ : ∃ P, (scanB s).1 = P := ⟨_, rfl⟩
  rw [hE, hDg, hP] at XS hop
  rw [hE] at XU hEn
  rw [hDg] at hlast
  have HEND : Hid (∀ A n c B m k H hc O co (l : List RV) W, LRdW W OPL A n B m H 32 → OutR w.heap.size W O l.length co l → l.map RV.r = P → Below w.heap.size w W → OpenW s room arm w (.returned (.tuple #[.agg #[.slice A n c, .slice B m k, .int .i64 room, .bool false, .int .i64 arm, .int .i64 (P.length : Int), .slice H 32 hc, .bool false], .slice O l.length co, .int .i64 0])) W) := hide (fun A n c B m k H hc O co l W h1 h2 h4 h5 => by
    refine ⟨A, n, c, B, m, k, H, hc, O, co, l, ?_, by rw [hOPL]; exact h1, h2, by rw [hP]; exact h4, h5⟩
    rw [hOPL, hop])
  generalize OpenW s room arm w = POST at *
  have HOP := hide hop
  have HLA := hide hlast
  have HLS := hide hls
  have HPN := hide hm
  subst hm0
  have hb := bl_alloc w (.cells #[.slice A n c, .slice B 0 k, .int .i64 room, .bool false, .int .i64 arm] 24)
  have hb2 : Below w.heap.size w ((w.alloc (.cells #[.slice A n c, .slice B 0 k, .int .i64 room, .bool false, .int .i64 arm] 24)).alloc (.cells #[.slice none 0 0, .slice none 0 0, .int .i64 0, .bool false, .int .i64 0, .int .i64 0, .slice none 0 0, .bool false] 26)) := hb.alloc (by simp) _
  have hk1 : Blk ((w.alloc (.cells #[.slice A n c, .slice B 0 k, .int .i64 room, .bool false, .int .i64 arm] 24)).alloc (.cells #[.slice none 0 0, .slice none 0 0, .int .i64 0, .bool false, .int .i64 0, .int .i64 0, .slice none 0 0, .bool false] 26)) w.heap.size 24 #[.slice A n c, .slice B 0 k, .int .i64 room, .bool false, .int .i64 arm] := (Blk.new w 24 _).below (bl_alloc _ _) (by simp)
  have hk2 : Blk ((w.alloc (.cells #[.slice A n c, .slice B 0 k, .int .i64 room, .bool false, .int .i64 arm] 24)).alloc (.cells #[.slice none 0 0, .slice none 0 0, .int .i64 0, .bool false, .int .i64 0, .int .i64 0, .slice none 0 0, .bool false] 26)) (w.heap.size + 1) 26 #[.slice none 0 0, .slice none 0 0, .int .i64 0, .bool false, .int .i64 0, .int .i64 0, .slice none 0 0, .bool false] := by
    have h := Blk.new (w.alloc (.cells #[.slice A n c, .slice B 0 k, .int .i64 room, .bool false, .int .i64 arm] 24)) 26 #[.slice none 0 0, .slice none 0 0, .int .i64 0, .bool false, .int .i64 0, .int .i64 0, .slice none 0 0, .bool false]
    simpa using h
  have HB := hide hb2
  have HK := hide hk1
  have HZ := hide hk2
  clear hb hb2 hk1 hk2 hls hlp hm hlast hce hcs hop hE hDg hP rs rp hok hOPL
  unfold Dk.dv at *
  go_enter Tryz.func7, Tryz.ntmps7
  go_wp2_with fail
  refine (XC.out _).mono ?_
  rintro e1 w1 ⟨rfl, hw1⟩
  unfold Dk.dC at hw1
  have hbw : Below ((w.alloc (.cells #[.slice A n c, .slice B 0 k, .int .i64 room, .bool false, .int .i64 arm] 24)).alloc (.cells #[.slice none 0 0, .slice none 0 0, .int .i64 0, .bool false, .int .i64 0, .int .i64 0, .slice none 0 0, .bool false] 26)).heap.size ((w.alloc (.cells #[.slice A n c, .slice B 0 k, .int .i64 room, .bool false, .int .i64 arm] 24)).alloc (.cells #[.slice none 0 0, .slice none 0 0, .int .i64 0, .bool false, .int .i64 0, .int .i64 0, .slice none 0 0, .bool false] 26)) w1 := by rw [← hw1]; exact bl_alloc _ _
  have HB1 := hide (below_more HB.out (Nat.le_refl _) hbw)
  have HK1 := hide (HK.out.below hbw HK.out.lt)
  have HZ1 := hide (HZ.out.below hbw HZ.out.lt)
  clear hw1 hbw XC HB HK HZ
  obtain ⟨⟨x0, x1, x2, x3, x4⟩, _⟩ := HK1.out.five
  have xl := HK1.out.lt
  have XS1 := hide (XS.out w1 HB1.out)
  clear XS
  go_wp2_with fail
  refine XS1.out.mono ?_
  rintro e2 w2 ⟨O, co, D, dn, l, rfl, g1, g1', g2, g3, g4⟩
  have hpl : P.length = l.length := by rw [← g2, List.length_map]
  rw [hpl] at HEND HOP
  have HB2 := hide (below_more HB1.out (Nat.le_refl _) g4)
  have HO2 := hide g1
  have HM2 := hide g2
  have HD2 := hide g3
  clear g1'
  have hk2 := HK1.out.below g4 HK1.out.lt
  have hz2 := HZ1.out.below g4 HZ1.out.lt
  have HZ2 := hide hz2
  have HK2 := hide hk2
  have XU2 := hide (XU.out w2 HB2.out)
  obtain ⟨q, hq⟩ : ∃ q, l.length = q := ⟨_, rfl⟩
  have HQ := hide hq
  rw [hq] at HO2 HOP ⊢
  clear x0 x1 x2 x3 x4 xl g1 g2 g3 g4 hk2 hz2 hpl hq HK1 HZ1 XS1 XU
  obtain ⟨⟨x0, x1, x2, x3, x4⟩, _⟩ := HK2.out.five
  have xl := HK2.out.lt
  go_wp2_with fail
  refine XU2.out.mono ?_
  rintro e3 w3 ⟨A4, n4, c4, B4, m4, k4, rfl, u1, u2, u3⟩
  have HB3 := hide (below_more HB2.out (Nat.le_refl _) u3)
  have HO3 := hide (OutR.below HO2.out u3)
  have HD3 := hide (rb HD2.out u3)
  have HZ3 := hide (HZ2.out.below u3 HZ2.out.lt)
  have HS3 := hide u1
  have hn4 : n4 ≤ 9000 := by have h1 := u1.len; rw [List.length_take] at h1; have h2 := HLS.out; omega
  have hm4 : Hid (m4 = 0) := hide (by have h1 := u2.len; have h2 := HPN.out; rw [h2] at h1; simpa using h1.symm)
  have HP3 := hide u2
  clear u1 u2 u3 XU2 HO2 HD2 HZ2 HK2 x0 x1 x2 x3 x4 xl HB2
  obtain ⟨u0, u1, u2, u3, u4, u5, u6, u7⟩ := HZ3.out.eight
  have uz0 := HZ3.out.frozen 0
  have uz1 := HZ3.out.frozen 1
  have uz2 := HZ3.out.frozen 2
  have uz3 := HZ3.out.frozen 3
  have uz4 := HZ3.out.frozen 4
  have uz5 := HZ3.out.frozen 5
  have uz6 := HZ3.out.frozen 6
  have uz7 := HZ3.out.frozen 7
  have ul := HZ3.out.lt
  obtain ⟨WE, hWE⟩ : ∃ W, (((((((((w3.setCell ⟨w.heap.size + 1, 0, none⟩ (.slice A4 n4 c4)).setCell ⟨w.heap.size + 1, 1, none⟩ (.slice B4 m4 k4)).setCell ⟨w.heap.size + 1, 2, none⟩ (.int .i64 room)).setCell ⟨w.heap.size + 1, 3, none⟩ (.bool false)).setCell ⟨w.heap.size + 1, 4, none⟩ (.int .i64 arm)).setCell ⟨w.heap.size + 1, 5, none⟩ (.int .i64 (q : Int))).setCell ⟨w.heap.size + 1, 6, none⟩ (.slice D 32 dn)).setCell ⟨w.heap.size + 1, 7, none⟩ (.bool false))).alloc (.cells #[.slice A4 n4 c4, .slice B4 m4 k4, .int .i64 room, .bool false, .int .i64 arm] 24) = W := ⟨_, rfl⟩
  have hBE0 : Below w.heap.size w (((((((((w3.setCell ⟨w.heap.size + 1, 0, none⟩ (.slice A4 n4 c4)).setCell ⟨w.heap.size + 1, 1, none⟩ (.slice B4 m4 k4)).setCell ⟨w.heap.size + 1, 2, none⟩ (.int .i64 room)).setCell ⟨w.heap.size + 1, 3, none⟩ (.bool false)).setCell ⟨w.heap.size + 1, 4, none⟩ (.int .i64 arm)).setCell ⟨w.heap.size + 1, 5, none⟩ (.int .i64 (q : Int))).setCell ⟨w.heap.size + 1, 6, none⟩ (.slice D 32 dn)).setCell ⟨w.heap.size + 1, 7, none⟩ (.bool false))) := ((((((((HB3.out.setCell (by exact Nat.le_succ _) _).setCell (by exact Nat.le_succ _) _).setCell (by exact Nat.le_succ _) _).setCell (by exact Nat.le_succ _) _).setCell (by exact Nat.le_succ _) _).setCell (by exact Nat.le_succ _) _).setCell (by exact Nat.le_succ _) _).setCell (by exact Nat.le_succ _) _)
  have hxa := bl_alloc (((((((((w3.setCell ⟨w.heap.size + 1, 0, none⟩ (.slice A4 n4 c4)).setCell ⟨w.heap.size + 1, 1, none⟩ (.slice B4 m4 k4)).setCell ⟨w.heap.size + 1, 2, none⟩ (.int .i64 room)).setCell ⟨w.heap.size + 1, 3, none⟩ (.bool false)).setCell ⟨w.heap.size + 1, 4, none⟩ (.int .i64 arm)).setCell ⟨w.heap.size + 1, 5, none⟩ (.int .i64 (q : Int))).setCell ⟨w.heap.size + 1, 6, none⟩ (.slice D 32 dn)).setCell ⟨w.heap.size + 1, 7, none⟩ (.bool false))) (.cells #[.slice A4 n4 c4, .slice B4 m4 k4, .int .i64 room, .bool false, .int .i64 arm] 24)
  have hzs := set_log HZ3.out (.slice A4 n4 c4) (.slice B4 m4 k4) (.int .i64 room) (.bool false) (.int .i64 arm) (.int .i64 (q : Int)) (.slice D 32 dn) (.bool false)
  have HBE : Hid (Below w.heap.size w WE) := hide (by rw [← hWE]; exact below_more hBE0 (Nat.le_refl _) hxa)
  have HSE : Hid (Rd WE A4 n4 (s.take E)) := hide (by rw [← hWE]; exact rb (rd_log HS3.out HZ3.out (.slice A4 n4 c4) (.slice B4 m4 k4) (.int .i64 room) (.bool false) (.int .i64 arm) (.int .i64 (q : Int)) (.slice D 32 dn) (.bool false)) hxa)
  have HPE : Hid (Rd WE B4 m4 p) := hide (by rw [← hWE]; exact rb (rd_log HP3.out HZ3.out (.slice A4 n4 c4) (.slice B4 m4 k4) (.int .i64 room) (.bool false) (.int .i64 arm) (.int .i64 (q : Int)) (.slice D 32 dn) (.bool false)) hxa)
  have HDE : Hid (Rd WE D 32 Dg) := hide (by rw [← hWE]; exact rb (rd_log HD3.out HZ3.out (.slice A4 n4 c4) (.slice B4 m4 k4) (.int .i64 room) (.bool false) (.int .i64 arm) (.int .i64 (q : Int)) (.slice D 32 dn) (.bool false)) hxa)
  have HOE : Hid (OutR w.heap.size WE O q co l) := hide (by rw [← hWE]; exact (OutR.below (row_log HO3.out HZ3.out (.slice A4 n4 c4) (.slice B4 m4 k4) (.int .i64 room) (.bool false) (.int .i64 arm) (.int .i64 (q : Int)) (.slice D 32 dn) (.bool false)) hxa).more HB1.out.size)
  have HZE : Hid (Blk WE (w.heap.size + 1) 26 #[.slice A4 n4 c4, .slice B4 m4 k4, .int .i64 room, .bool false, .int .i64 arm, .int .i64 (q : Int), .slice D 32 dn, .bool false]) := hide (by rw [← hWE]; exact hzs.below hxa hzs.lt)
  have HF : Hid (POST (.returned (.tuple #[.agg #[.slice A4 n4 c4, .slice B4 m4 k4, .int .i64 room, .bool false, .int .i64 arm, .int .i64 (q : Int), .slice D 32 dn, .bool false], .slice O q co, .int .i64 0])) WE) := hide (by
    have h := HEND.out A4 n4 c4 B4 m4 k4 D dn O co l WE ?_ (by rw [HQ.out]; exact HOE.out) HM2.out HBE.out
    · rw [HQ.out] at h; exact h
    · rw [HOP.out]
      exact ⟨HSE.out, by have h := HPE.out; rw [HPN.out] at h; exact h, HDE.out⟩)
  clear HBE HSE HPE HDE HOE HEND HOP HS3 HP3 HD3 HO3 HB3 hBE0 hxa hzs
  go_wp2_with fail
  clear hWE u0 u1 u2 u3 u4 u5 u6 u7 uz0 uz1 uz2 uz3 uz4 uz5 uz6 uz7
  obtain ⟨y0, y1, y2, y3, y4, y5, y6, y7⟩ := HZE.out.eight
  have yz0 := HZE.out.frozen 0
  have yz1 := HZE.out.frozen 1
  have yz2 := HZE.out.frozen 2
  have yz3 := HZE.out.frozen 3
  have yz4 := HZE.out.frozen 4
  have yz5 := HZE.out.frozen 5
  have yz6 := HZE.out.frozen 6
  have yz7 := HZE.out.frozen 7
  have yl := HZE.out.lt
  refine bodyPost_ret (v := .tuple #[.agg #[.slice A4 n4 c4, .slice B4 m4 k4, .int .i64 room, .bool false, .int .i64 arm, .int .i64 (q : Int), .slice D 32 dn, .bool false], .slice O q co, .int .i64 0]) (by simp only [results, Tryz.results7]; go_simp) rfl HF.out
set_option maxRecDepth 100000 in
set_option maxHeartbeats 8000000 in
theorem ropen_any (s p : LB) (room arm : Int) (dead : Bool) (A : Option Addr) (n c : Nat) (B : Option Addr) (m k : Nat) (w : World) (rs : Rd w A n s) (ls : n ≤ c) (rp : Rd w B m p) (lp : m ≤ k) (sn : n ≤ 9000) (sm : m ≤ 9000) :
    Calls Tryz.prog 7 #[.agg #[.slice A n c, .slice B m k, .int .i64 room, .bool dead, .int .i64 arm]] w (ORetW (opR s p room dead arm) w) := by
  have hls : s.length = n := rs.len
  have hlp : p.length = m := rp.len
  cases hd : Dk.okD n m room arm with
  | false =>
    have he : opR s p room dead arm = (zL, [], 2) := by unfold opR; rw [hls, hlp, hd, if_neg (by simp)]
    rw [he]
    have XC := hide (fun W => Dk.rcheck_any A n c B m k room dead arm W (by omega) (by omega))
    rw [hd] at XC
    clear hls hlp hd he rs rp
    unfold Dk.dv Dk.dC at XC
    go_enter Tryz.func7, Tryz.ntmps7
    go_wp2_with fail
    refine (XC.out _).mono ?_
    rintro e1 w1 ⟨rfl, rfl⟩
    have HZ : Hid (∀ W, (W = ((w.alloc (.cells #[.slice A n c, .slice B m k, .int .i64 room, .bool dead, .int .i64 arm] 24)).alloc (.cells #[.slice none 0 0, .slice none 0 0, .int .i64 0, .bool false, .int .i64 0, .int .i64 0, .slice none 0 0, .bool false] 26)).alloc (.cells #[.slice A n c, .slice B m k, .int .i64 room, .bool dead, .int .i64 arm] 24)) → Below w.heap.size w W) := hide (fun W h => by rw [h]; exact ((bl_alloc w _).alloc (by simp) _).alloc (by simp; omega) _)
    go_wp2_with fail
    first
      | exact zendW 2 _ _ (HZ.out _ rfl)
      | refine bodyPost_ret (v := .tuple #[.agg #[.slice none 0 0, .slice none 0 0, .int .i64 0, .bool false, .int .i64 0, .int .i64 0, .slice none 0 0, .bool false], .slice none 0 0, .int .i64 2]) (by simp only [results, Tryz.results7]; go_simp) rfl (zendW 2 _ _ (HZ.out _ rfl))
  | true =>
    by_cases hm : m = 0
    · have hp : p = [] := List.length_eq_zero_iff.1 (by omega)
      subst hm
      cases dead with
      | true =>
        have he : opR s p room true arm = (zL, [], 42) := by unfold opR; rw [hls, hlp, hd, if_pos ⟨rfl, hp⟩, if_pos rfl]
        rw [he]
        have XC := hide (fun W => Dk.rcheck_any A n c B 0 k room true arm W (by omega) (by omega))
        rw [hd] at XC
        clear hls hlp hd he rs rp hp
        unfold Dk.dv Dk.dC at XC
        go_enter Tryz.func7, Tryz.ntmps7
        go_wp2_with fail
        refine (XC.out _).mono ?_
        rintro e1 w1 ⟨rfl, rfl⟩
        have HZ : Hid (∀ W, (W = ((w.alloc (.cells #[.slice A n c, .slice B 0 k, .int .i64 room, .bool true, .int .i64 arm] 24)).alloc (.cells #[.slice none 0 0, .slice none 0 0, .int .i64 0, .bool false, .int .i64 0, .int .i64 0, .slice none 0 0, .bool false] 26)).alloc (.cells #[.slice A n c, .slice B 0 k, .int .i64 room, .bool true, .int .i64 arm] 24)) → Below w.heap.size w W) := hide (fun W h => by rw [h]; exact ((bl_alloc w _).alloc (by simp) _).alloc (by simp; omega) _)
        go_wp2_with fail
        first
          | exact zendW 42 _ _ (HZ.out _ rfl)
          | refine bodyPost_ret (v := .tuple #[.agg #[.slice none 0 0, .slice none 0 0, .int .i64 0, .bool false, .int .i64 0, .int .i64 0, .slice none 0 0, .bool false], .slice none 0 0, .int .i64 42]) (by simp only [results, Tryz.results7]; go_simp) rfl (zendW 42 _ _ (HZ.out _ rfl))
      | false =>
        have he : opR s p room false arm = (opP s room arm, (scanB s).1, 0) := by unfold opR; rw [hls, hlp, hd, if_pos ⟨rfl, hp⟩, if_neg (by simp)]
        rw [he]
        refine (ropen_ok s p room arm A n c B 0 k w rs ls rp lp hp sn hd).mono ?_
        rintro e w' ⟨A2, n2, c2, B2, m2, k2, H2, hc2, O, co, l, rfl, g1, g2, g3, g4⟩
        exact ⟨A2, n2, c2, B2, m2, k2, H2, 32, hc2, O, co, l, rfl, g1, g2.row, g3, g4⟩
    · have hp : p ≠ [] := fun h => hm (by rw [← hlp, h]; rfl)
      have he : opR s p room dead arm = (zL, [], 2) := by unfold opR; rw [if_neg (fun h => hp h.2)]
      have hm1 : (0 : Int) < (m : Int) := by omega
      rw [he]
      have XC := hide (fun W => Dk.rcheck_any A n c B m k room dead arm W (by omega) (by omega))
      rw [hd] at XC
      clear hls hlp hd he rs rp hp
      unfold Dk.dv Dk.dC at XC
      go_enter Tryz.func7, Tryz.ntmps7
      go_wp2_with fail
      refine (XC.out _).mono ?_
      rintro e1 w1 ⟨rfl, rfl⟩
      have HZ : Hid (∀ W, (W = ((w.alloc (.cells #[.slice A n c, .slice B m k, .int .i64 room, .bool dead, .int .i64 arm] 24)).alloc (.cells #[.slice none 0 0, .slice none 0 0, .int .i64 0, .bool false, .int .i64 0, .int .i64 0, .slice none 0 0, .bool false] 26)).alloc (.cells #[.slice A n c, .slice B m k, .int .i64 room, .bool dead, .int .i64 arm] 24)) → Below w.heap.size w W) := hide (fun W h => by rw [h]; exact ((bl_alloc w _).alloc (by simp) _).alloc (by simp; omega) _)
      go_wp2_with fail
      first
        | exact zendW 2 _ _ (HZ.out _ rfl)
        | refine bodyPost_ret (v := .tuple #[.agg #[.slice none 0 0, .slice none 0 0, .int .i64 0, .bool false, .int .i64 0, .int .i64 0, .slice none 0 0, .bool false], .slice none 0 0, .int .i64 2]) (by simp only [results, Tryz.results7]; go_simp) rfl (zendW 2 _ _ (HZ.out _ rfl))
end Go.Proofs.YtbbobffedgcbhaaGreatDoor
namespace Go.Proofs.YtbbobffedgcbhaaGreatDoor
open Go.RowKit
set_option linter.unusedVariables false
set_option maxRecDepth 100000 in
set_option maxHeartbeats 16000000 in
theorem rrecover_ok (L : Lg) (keep : Int) (A : Option Addr) (n c : Nat) (B : Option Addr) (m k : Nat) (H : Option Addr) (hn hc : Nat) (w : World) (hI : LogIn w L A n c B m k H hn hc) (hsum : L.s.length + L.p.length ≤ 9000) (hok : okL L = true) :
    Calls Tryz.prog 11 #[lv L A n c B m k H hn hc, .int .i64 keep] w (OpenW (L.s ++ L.p.take (Dk.kpN L.p.length keep)) L.room (-1) w) := by
  have hok1 := (okL_split hok).1
  have hls := hI.rs.len
  have hlp := hI.rp.len
  have XC := hide (fun W (hW : Below w.heap.size w W) => rlcheck_any L A n c B m k H hn hc W (hI.below hW))
  rw [hok] at XC
  have XR := hide (fun W (hW : Below w.heap.size w W) => Dk.rcrash_cap A c B k L.room L.dead L.arm keep L.s L.p W (by rw [hls]; exact rb hI.rs hW) (by rw [hlp]; exact rb hI.rp hW) (by have := hI.sn; omega) (by have := hI.sm; omega) (by rw [hlp]; exact hI.lp) (by rw [hls]; exact hI.ls))
  rw [hok1] at XR
  obtain ⟨s, p, room, dead, arm, seq, hash, stop⟩ := L
  dsimp only at *
  have hcs : Dk.crS s p true keep = s ++ p.take (Dk.kpN p.length keep) := if_pos rfl
  have hcp : Dk.crP p true = [] := if_pos rfl
  have hcd : Dk.crD dead true = false := if_pos rfl
  have hca : Dk.crA arm true = -1 := if_pos rfl
  rw [hcs, hcp, hcd, hca] at XR
  obtain ⟨S, hSS⟩ : ∃ S, s ++ p.take (Dk.kpN p.length keep) = S := ⟨_, rfl⟩
  rw [hSS] at XR ⊢
  have hSl : S.length ≤ s.length + p.length := by
    rw [← hSS, List.length_append, List.length_take]; omega
  have hokS : ∀ z : Nat, z = S.length → Dk.okD z 0 room (-1) = true := by
    intro z hz
    unfold Dk.okD at hok1 ⊢
    rw [decide_eq_true_eq] at hok1 ⊢
    omega
  have XO := hide (fun W (hW : Below w.heap.size w W) (A4 : Option Addr) (n4 c4 : Nat) (B4 : Option Addr) (k4 : Nat) (h1 : Rd W A4 n4 S) (h2 : n4 ≤ c4) (h3 : Rd W B4 0 []) => ropen_ok S [] room (-1) A4 n4 c4 B4 0 k4 W h1 h2 h3 (Nat.zero_le _) rfl (by have := h1.len; omega) (hokS n4 h1.len.symm))
  unfold OpenW at XO
  have HOPL := hide (show opP S room (-1) = ⟨S.take (scanB S).2.2, [], room, false, -1, ((scanB S).1.length : Int), (scanB S).2.1, false⟩ from rfl)
  obtain ⟨OPL, hOPL⟩ : ∃ o, opP S room (-1) = o := ⟨_, rfl⟩
  have HEND : Hid (∀ e W, (∃ A n c B m k H hc O co l, e = .returned (.tuple #[lv OPL A n c B m k H 32 hc, .slice O l.length co, .int .i64 0]) ∧ LRdW W OPL A n B m H 32 ∧ OutR w.heap.size W O l.length co l ∧ l.map RV.r = (scanB S).1 ∧ Below w.heap.size w W) → OpenW S room (-1) w e W) := hide (fun e W h => by
    unfold OpenW
    rw [hOPL]
    exact h)
  rw [hOPL] at XO HOPL
  generalize OpenW S room (-1) w = POST at *
  obtain ⟨sq, hsq⟩ : ∃ x, ((scanB S).1.length : Int) = x := ⟨_, rfl⟩
  rw [hsq] at HOPL
  unfold Dk.RRetC at XR
  rw [hls, hlp] at XR
  have hb2 : Below w.heap.size w ((w.alloc (.cells #[.slice A n c, .slice B m k, .int .i64 room, .bool dead, .int .i64 arm, .int .i64 seq, .slice H hn hc, .bool stop] 26)).alloc (.cells #[.slice none 0 0, .slice none 0 0, .int .i64 0, .bool false, .int .i64 0, .int .i64 0, .slice none 0 0, .bool false] 26)) := (bl_alloc w _).alloc (by simp) _
  have HK := hide (show Blk ((w.alloc (.cells #[.slice A n c, .slice B m k, .int .i64 room, .bool dead, .int .i64 arm, .int .i64 seq, .slice H hn hc, .bool stop] 26)).alloc (.cells #[.slice none 0 0, .slice none 0 0, .int .i64 0, .bool false, .int .i64 0, .int .i64 0, .slice none 0 0, .bool false] 26)) w.heap.size 26 #[.slice A n c, .slice B m k, .int .i64 room, .bool dead, .int .i64 arm, .int .i64 seq, .slice H hn hc, .bool stop] from (Blk.new w 26 _).below (bl_alloc _ _) (by simp))
  have HZ : Hid (Blk ((w.alloc (.cells #[.slice A n c, .slice B m k, .int .i64 room, .bool dead, .int .i64 arm, .int .i64 seq, .slice H hn hc, .bool stop] 26)).alloc (.cells #[.slice none 0 0, .slice none 0 0, .int .i64 0, .bool false, .int .i64 0, .int .i64 0, .slice none 0 0, .bool false] 26)) (w.heap.size + 1) 26 #[.slice none 0 0, .slice none 0 0, .int .i64 0, .bool false, .int .i64 0, .int .i64 0, .slice none 0 0, .bool false]) := hide (by
    have h := Blk.new (w.alloc (.cells #[.slice A n c, .slice B m k, .int .i64 room, .bool dead, .int .i64 arm, .int .i64 seq, .slice H hn hc, .bool stop] 26)) 26 #[.slice none 0 0, .slice none 0 0, .int .i64 0, .bool false, .int .i64 0, .int .i64 0, .slice none 0 0, .bool false]
    simpa using h)
  have HB := hide hb2
  clear hb2 hls hlp hI hsum hok hok1 hcs hcp hcd hca hSS hSl hokS hOPL hsq
  unfold lv Dk.dv at *
  dsimp only at *
  go_enter Tryz.func11, Tryz.ntmps11
  go_wp2_with fail
  refine (XC.out _ HB.out).mono ?_
  rintro e1 w1 ⟨rfl, u1⟩
  have HB1 := hide (below_more HB.out (Nat.le_refl _) u1)
  have HK1 := hide (HK.out.below u1 HK.out.lt)
  have HZ1 := hide (HZ.out.below u1 HZ.out.lt)
  have XR1 := hide (XR.out w1 HB1.out)
  clear u1 XC XR HB HK HZ
  obtain ⟨x0, x1, x2, x3, x4, x5, x6, x7⟩ := HK1.out.eight
  have xl := HK1.out.lt
  go_wp2_with fail
  refine XR1.out.mono ?_
  rintro e2 w2 ⟨A2, n2, c2, B2, m2, k2, rfl, uc, u1, u2, u3⟩
  have hm2 : m2 = 0 := by have := u2.len; simpa using this.symm
  subst hm2
  have HB2 := hide (below_more HB1.out (Nat.le_refl _) u3)
  have HZ2 := hide (HZ1.out.below u3 HZ1.out.lt)
  have XO2 := hide (XO.out w2 HB2.out A2 n2 c2 B2 k2 u1 uc u2)
  clear uc u1 u2 u3 XR1 XO x0 x1 x2 x3 x4 x5 x6 x7 xl HK1 HZ1
  go_wp2_with fail
  refine XO2.out.mono ?_
  rintro e3 w3 ⟨A4, n4, c4, B4, m4, k4, D, dn, O, co, l, rfl, g1, g2, g3, g4⟩
  have HB3 := hide (below_more HB2.out (Nat.le_refl _) g4)
  have HZ3 := hide (HZ2.out.below g4 HZ2.out.lt)
  have HL3 := hide g1
  have HO3 := hide g2
  have HM3 := hide g3
  rw [HOPL.out]
  dsimp only
  obtain ⟨q, hq⟩ : ∃ q, l.length = q := ⟨_, rfl⟩
  have HQ := hide hq
  rw [hq] at HO3 ⊢
  clear g1 g2 g3 g4 XO2 HZ2 hq
  obtain ⟨u0, u1, u2, u3, u4, u5, u6, u7⟩ := HZ3.out.eight
  have uz0 := HZ3.out.frozen 0
  have uz1 := HZ3.out.frozen 1
  have uz2 := HZ3.out.frozen 2
  have uz3 := HZ3.out.frozen 3
  have uz4 := HZ3.out.frozen 4
  have uz5 := HZ3.out.frozen 5
  have uz6 := HZ3.out.frozen 6
  have uz7 := HZ3.out.frozen 7
  have ul := HZ3.out.lt
  obtain ⟨WE, hWE⟩ : ∃ W, ((((((((w3.setCell ⟨w.heap.size + 1, 0, none⟩ (.slice A4 n4 c4)).setCell ⟨w.heap.size + 1, 1, none⟩ (.slice B4 m4 k4)).setCell ⟨w.heap.size + 1, 2, none⟩ (.int .i64 room)).setCell ⟨w.heap.size + 1, 3, none⟩ (.bool false)).setCell ⟨w.heap.size + 1, 4, none⟩ (.int .i64 (-1))).setCell ⟨w.heap.size + 1, 5, none⟩ (.int .i64 sq)).setCell ⟨w.heap.size + 1, 6, none⟩ (.slice D 32 dn)).setCell ⟨w.heap.size + 1, 7, none⟩ (.bool false)) = W := ⟨_, rfl⟩
  have hBE0 : Below w.heap.size w (((((((((w3.setCell ⟨w.heap.size + 1, 0, none⟩ (.slice A4 n4 c4)).setCell ⟨w.heap.size + 1, 1, none⟩ (.slice B4 m4 k4)).setCell ⟨w.heap.size + 1, 2, none⟩ (.int .i64 room)).setCell ⟨w.heap.size + 1, 3, none⟩ (.bool false)).setCell ⟨w.heap.size + 1, 4, none⟩ (.int .i64 (-1))).setCell ⟨w.heap.size + 1, 5, none⟩ (.int .i64 sq)).setCell ⟨w.heap.size + 1, 6, none⟩ (.slice D 32 dn)).setCell ⟨w.heap.size + 1, 7, none⟩ (.bool false))) := ((((((((HB3.out.setCell (by exact Nat.le_succ _) _).setCell (by exact Nat.le_succ _) _).setCell (by exact Nat.le_succ _) _).setCell (by exact Nat.le_succ _) _).setCell (by exact Nat.le_succ _) _).setCell (by exact Nat.le_succ _) _).setCell (by exact Nat.le_succ _) _).setCell (by exact Nat.le_succ _) _)
  have hzs := set_log HZ3.out (.slice A4 n4 c4) (.slice B4 m4 k4) (.int .i64 room) (.bool false) (.int .i64 (-1)) (.int .i64 sq) (.slice D 32 dn) (.bool false)
  have HBE : Hid (Below w.heap.size w WE) := hide (by rw [← hWE]; exact hBE0)
  have HZE : Hid (Blk WE (w.heap.size + 1) 26 #[.slice A4 n4 c4, .slice B4 m4 k4, .int .i64 room, .bool false, .int .i64 (-1), .int .i64 sq, .slice D 32 dn, .bool false]) := hide (by rw [← hWE]; exact hzs)
  have HF : Hid (POST (.returned (.tuple #[.agg #[.slice A4 n4 c4, .slice B4 m4 k4, .int .i64 room, .bool false, .int .i64 (-1), .int .i64 sq, .slice D 32 dn, .bool false], .slice O q co, .int .i64 0])) WE) := hide (by
    refine HEND.out _ _ ⟨A4, n4, c4, B4, m4, k4, D, dn, O, co, l, by rw [HOPL.out, HQ.out], ⟨?_, ?_, ?_⟩, ?_, HM3.out, HBE.out⟩
    · rw [← hWE]; exact rd_log HL3.out.rs HZ3.out (.slice A4 n4 c4) (.slice B4 m4 k4) (.int .i64 room) (.bool false) (.int .i64 (-1)) (.int .i64 sq) (.slice D 32 dn) (.bool false)
    · rw [← hWE]; exact rd_log HL3.out.rp HZ3.out (.slice A4 n4 c4) (.slice B4 m4 k4) (.int .i64 room) (.bool false) (.int .i64 (-1)) (.int .i64 sq) (.slice D 32 dn) (.bool false)
    · rw [← hWE]; exact rd_log HL3.out.rh HZ3.out (.slice A4 n4 c4) (.slice B4 m4 k4) (.int .i64 room) (.bool false) (.int .i64 (-1)) (.int .i64 sq) (.slice D 32 dn) (.bool false)
    · rw [← hWE, HQ.out]; exact (row_log HO3.out HZ3.out (.slice A4 n4 c4) (.slice B4 m4 k4) (.int .i64 room) (.bool false) (.int .i64 (-1)) (.int .i64 sq) (.slice D 32 dn) (.bool false)).more HB2.out.size)
  clear HBE HEND HOPL HL3 HO3 HM3 HB3 hBE0 hzs
  go_wp2_with fail
  clear hWE u0 u1 u2 u3 u4 u5 u6 u7 uz0 uz1 uz2 uz3 uz4 uz5 uz6 uz7
  obtain ⟨y0, y1, y2, y3, y4, y5, y6, y7⟩ := HZE.out.eight
  have yz0 := HZE.out.frozen 0
  have yz1 := HZE.out.frozen 1
  have yz2 := HZE.out.frozen 2
  have yz3 := HZE.out.frozen 3
  have yz4 := HZE.out.frozen 4
  have yz5 := HZE.out.frozen 5
  have yz6 := HZE.out.frozen 6
  have yz7 := HZE.out.frozen 7
  have yl := HZE.out.lt
  refine bodyPost_ret (v := .tuple #[.agg #[.slice A4 n4 c4, .slice B4 m4 k4, .int .i64 room, .bool false, .int .i64 (-1), .int .i64 sq, .slice D 32 dn, .bool false], .slice O q co, .int .i64 0]) (by simp only [results, Tryz.results11]; go_simp) rfl HF.out
set_option maxRecDepth 100000 in
set_option maxHeartbeats 8000000 in
theorem rrecover_any (L : Lg) (keep : Int) (A : Option Addr) (n c : Nat) (B : Option Addr) (m k : Nat) (H : Option Addr) (hn hc : Nat) (w : World) (hI : LogIn w L A n c B m k H hn hc) (hsum : L.s.length + L.p.length ≤ 9000) :
    Calls Tryz.prog 11 #[lv L A n c B m k H hn hc, .int .i64 keep] w (ORetW (reR L keep) w) := by
  cases hok : okL L with
  | true =>
    have he : reR L keep = (opP (L.s ++ L.p.take (Dk.kpN L.p.length keep)) L.room (-1), (scanB (L.s ++ L.p.take (Dk.kpN L.p.length keep))).1, 0) := by unfold reR; rw [if_pos hok]
    rw [he]
    refine (rrecover_ok L keep A n c B m k H hn hc w hI hsum hok).mono ?_
    rintro e w' ⟨A2, n2, c2, B2, m2, k2, H2, hc2, O, co, l, rfl, g1, g2, g3, g4⟩
    exact ⟨A2, n2, c2, B2, m2, k2, H2, 32, hc2, O, co, l, rfl, g1, g2.row, g3, g4⟩
  | false =>
    have he : reR L keep = (zL, [], 2) := by unfold reR; rw [if_neg (by rw [hok]; simp)]
    rw [he]
    have XC := hide (fun W (hW : Below w.heap.size w W) => rlcheck_any L A n c B m k H hn hc W (hI.below hW))
    rw [hok] at XC
    clear he hok hI hsum
    obtain ⟨s, p, room, dead, arm, seq, hash, stop⟩ := L
    unfold lv at *
    dsimp only at *
    have hb2 : Below w.heap.size w ((w.alloc (.cells #[.slice A n c, .slice B m k, .int .i64 room, .bool dead, .int .i64 arm, .int .i64 seq, .slice H hn hc, .bool stop] 26)).alloc (.cells #[.slice none 0 0, .slice none 0 0, .int .i64 0, .bool false, .int .i64 0, .int .i64 0, .slice none 0 0, .bool false] 26)) := (bl_alloc w _).alloc (by simp) _
    have XC2 := hide (XC.out _ hb2)
    have HB2 := hide hb2
    clear hb2 XC
    go_enter Tryz.func11, Tryz.ntmps11
    go_wp2_with fail
    refine XC2.out.mono ?_
    rintro e1 w1 ⟨rfl, hb1⟩
    have hz : Blk w1 (w.heap.size + 1) 26 #[.slice none 0 0, .slice none 0 0, .int .i64 0, .bool false, .int .i64 0, .int .i64 0, .slice none 0 0, .bool false] := by
      have h := Blk.new (w.alloc (.cells #[.slice A n c, .slice B m k, .int .i64 room, .bool dead, .int .i64 arm, .int .i64 seq, .slice H hn hc, .bool stop] 26)) 26 #[.slice none 0 0, .slice none 0 0, .int .i64 0, .bool false, .int .i64 0, .int .i64 0, .slice none 0 0, .bool false]
      rw [World.size_alloc] at h
      exact h.below hb1 h.lt
    obtain ⟨⟨z0, z1, z2, z3, z4, z5, z6, z7⟩, zz0, zz1, zz2, zz3, zz4, zz5, zz6, zz7⟩ := blk8 hz
    have zl := hz.lt
    have HZ := hide hz
    have HB3 := hide (below_more HB2.out (Nat.le_refl _) hb1)
    clear hz hb1 XC2 HB2
    go_wp2_with fail
    have hzz := set_log8x HZ.out
    obtain ⟨⟨y0, y1, y2, y3, y4, y5, y6, y7⟩, yz0, yz1, yz2, yz3, yz4, yz5, yz6, yz7⟩ := blk8 hzz
    have yl := hzz.lt
    have HE : Hid (∀ W, W = ((((((((w1.setCell ⟨w.heap.size + 1, 0, none⟩ (.slice none 0 0)).setCell ⟨w.heap.size + 1, 1, none⟩ (.slice none 0 0)).setCell ⟨w.heap.size + 1, 2, none⟩ (.int .i64 0)).setCell ⟨w.heap.size + 1, 3, none⟩ (.bool false)).setCell ⟨w.heap.size + 1, 4, none⟩ (.int .i64 0)).setCell ⟨w.heap.size + 1, 5, none⟩ (.int .i64 0)).setCell ⟨w.heap.size + 1, 6, none⟩ (.slice none 0 0)).setCell ⟨w.heap.size + 1, 7, none⟩ (.bool false)) → Below w.heap.size w W) := hide (fun W h => by rw [h]; exact below8 HB3.out (w.heap.size + 1) (by omega) _ _ _ _ _ _ _ _)
    go_simp
    refine bodyPost_ret (v := .tuple #[.agg #[.slice none 0 0, .slice none 0 0, .int .i64 0, .bool false, .int .i64 0, .int .i64 0, .slice none 0 0, .bool false], .slice none 0 0, .int .i64 2]) (by simp only [results, Tryz.results11]; go_simp) rfl (zendW 2 _ _ (HE.out _ rfl))
theorem below5 {w w0 : World} {B : Nat} (h : Below B w0 w) (b : Nat) (hb : B ≤ b) (u0 u1 u2 u3 u4 : Value) : Below B w0 (((((w.setCell ⟨b, 0, none⟩ u0).setCell ⟨b, 1, none⟩ u1).setCell ⟨b, 2, none⟩ u2).setCell ⟨b, 3, none⟩ u3).setCell ⟨b, 4, none⟩ u4) := (((((h.setCell (p := ⟨b, 0, none⟩) hb u0).setCell (p := ⟨b, 1, none⟩) hb u1).setCell (p := ⟨b, 2, none⟩) hb u2).setCell (p := ⟨b, 3, none⟩) hb u3).setCell (p := ⟨b, 4, none⟩) hb u4)
theorem far5 {w : World} {g b : Nat} {t : TypeId} {cs : Array Value} (h : Blk w g t cs) (hne : g ≠ b) (u0 u1 u2 u3 u4 : Value) : Blk (((((w.setCell ⟨b, 0, none⟩ u0).setCell ⟨b, 1, none⟩ u1).setCell ⟨b, 2, none⟩ u2).setCell ⟨b, 3, none⟩ u3).setCell ⟨b, 4, none⟩ u4) g t cs := (Blk.far (Blk.far (Blk.far (Blk.far (Blk.far h (p := ⟨b, 0, none⟩) hne u0) (p := ⟨b, 1, none⟩) hne u1) (p := ⟨b, 2, none⟩) hne u2) (p := ⟨b, 3, none⟩) hne u3) (p := ⟨b, 4, none⟩) hne u4)
theorem set5 {w : World} {b : Nat} {t : TypeId} {a0 a1 a2 a3 a4 : Value} (h : Blk w b t #[a0, a1, a2, a3, a4]) (u0 u1 u2 u3 u4 : Value) : Blk (((((w.setCell ⟨b, 0, none⟩ u0).setCell ⟨b, 1, none⟩ u1).setCell ⟨b, 2, none⟩ u2).setCell ⟨b, 3, none⟩ u3).setCell ⟨b, 4, none⟩ u4) b t #[u0, u1, u2, u3, u4] := by
  have k1 : Blk _ b t #[u0, a1, a2, a3, a4] := h.set_ 0 u0
  have k2 : Blk _ b t #[u0, u1, a2, a3, a4] := k1.set_ 1 u1
  have k3 : Blk _ b t #[u0, u1, u2, a3, a4] := k2.set_ 2 u2
  have k4 : Blk _ b t #[u0, u1, u2, u3, a4] := k3.set_ 3 u3
  have k5 : Blk _ b t #[u0, u1, u2, u3, u4] := k4.set_ 4 u4
  exact k5
theorem rd5 {w : World} {b : Nat} {t : TypeId} {A : Option Addr} {n : Nat} {bs : LB} (h : Rd w A n bs) {A0 B0 : Option Addr} {n0 c0 m0 k0 : Nat} {r0 x0 : Int} {d0 : Bool} (hb : Blk w b t #[.slice A0 n0 c0, .slice B0 m0 k0, .int .i64 r0, .bool d0, .int .i64 x0]) (u0 u1 u2 u3 u4 : Value) : Rd (((((w.setCell ⟨b, 0, none⟩ u0).setCell ⟨b, 1, none⟩ u1).setCell ⟨b, 2, none⟩ u2).setCell ⟨b, 3, none⟩ u3).setCell ⟨b, 4, none⟩ u4) A n bs := by
  have k1 : Blk _ b t #[u0, .slice B0 m0 k0, .int .i64 r0, .bool d0, .int .i64 x0] := hb.set_ 0 u0
  have k2 : Blk _ b t #[u0, u1, .int .i64 r0, .bool d0, .int .i64 x0] := k1.set_ 1 u1
  have k3 : Blk _ b t #[u0, u1, u2, .bool d0, .int .i64 x0] := k2.set_ 2 u2
  have k4 : Blk _ b t #[u0, u1, u2, u3, .int .i64 x0] := k3.set_ 3 u3
  have r0_ := Reads.set1 h (show _ = some (Value.slice A0 n0 c0) from hb.cell 0) (fun z => by simp) u0
  have r1_ := Reads.set1 r0_ (show _ = some (Value.slice B0 m0 k0) from k1.cell 1) (fun z => by simp) u1
  have r2_ := Reads.set1 r1_ (show _ = some (Value.int .i64 r0) from k2.cell 2) (fun z => by simp) u2
  have r3_ := Reads.set1 r2_ (show _ = some (Value.bool d0) from k3.cell 3) (fun z => by simp) u3
  have r4_ := Reads.set1 r3_ (show _ = some (Value.int .i64 x0) from k4.cell 4) (fun z => by simp) u4
  exact r4_.more (by simp)
def LRetW (R : Lg × Int) (w : World) (e : Ending) (w' : World) : Prop := ∃ A n c B m k H hn hc, e = .returned (.tuple #[lv R.1 A n c B m k H hn hc, .int .i64 R.2]) ∧ LRdW w' R.1 A n B m H hn ∧ Below w.heap.size w w'
set_option maxRecDepth 100000 in
set_option maxHeartbeats 32000000 in
theorem rwrite_any (L : Lg) (r : Rec) (A : Option Addr) (n c : Nat) (B : Option Addr) (m k : Nat) (H : Option Addr) (hn hc : Nat) (RA : Option Addr) (rn rc : Nat) (w : World) (hI : LogIn w L A n c B m k H hn hc) (hls : L.s.length ≤ 4000) (hlp : L.p.length ≤ 4000) (ha : L.arm ≤ 9223372036854775807) (hD : Rd w RA rn r.dig) :
    Calls Tryz.prog 9 #[lv L A n c B m k H hn hc, Rec.v r RA rn rc] w (LRetW (wrR L r) w) := by
  have XC := hide (fun W (hW : Below w.heap.size w W) => rlcheck_any L A n c B m k H hn hc W (hI.below hW))
  obtain ⟨s, p, room, dead, arm, seq, hash, stop⟩ := L
  obtain ⟨sq, op, pa, pb, g, al⟩ := r
  have hlh := hI.rh.len
  have hsn := hI.rs.len
  have hpm := hI.rp.len
  dsimp only at hls hlp ha hlh hsn hpm hD
  rw [hsn] at hls
  rw [hpm] at hlp
  have HLH := hide hlh
  have HSN := hide hsn
  have HPM := hide hpm
  clear hlh hsn hpm
  unfold lv Rec.v at *
  dsimp only at *
  cases hok : okL ⟨s, p, room, dead, arm, seq, hash, stop⟩ with
  | false =>
    have he : wrR ⟨s, p, room, dead, arm, seq, hash, stop⟩ ⟨sq, op, pa, pb, g, al⟩ = (⟨s, p, room, dead, arm, seq, hash, stop⟩, 2) := by unfold wrR; rw [if_pos hok]
    rw [he]
    rw [hok] at XC
    clear he hok
    have hb3 : Below w.heap.size w (((w.alloc (.cells #[Value.slice A n c, .slice B m k, .int .i64 room, .bool dead, .int .i64 arm, .int .i64 seq, .slice H hn hc, .bool stop] 26)).alloc (.cells #[Value.int .i64 sq, .int .i64 op, .string ⟨pa.toArray⟩, .string ⟨pb.toArray⟩, .slice RA rn rc, .bool al] 28)).alloc (.cells #[Value.slice none 0 0, .slice none 0 0, .int .i64 0, .bool false, .int .i64 0, .int .i64 0, .slice none 0 0, .bool false] 26)) := ((bl_alloc w _).alloc (by simp) _).alloc (by simp; omega) _
    obtain ⟨W0, hW0⟩ : ∃ W, (((w.alloc (.cells #[Value.slice A n c, .slice B m k, .int .i64 room, .bool dead, .int .i64 arm, .int .i64 seq, .slice H hn hc, .bool stop] 26)).alloc (.cells #[Value.int .i64 sq, .int .i64 op, .string ⟨pa.toArray⟩, .string ⟨pb.toArray⟩, .slice RA rn rc, .bool al] 28)).alloc (.cells #[Value.slice none 0 0, .slice none 0 0, .int .i64 0, .bool false, .int .i64 0, .int .i64 0, .slice none 0 0, .bool false] 26)) = W := ⟨_, rfl⟩
    have HB0 : Hid (Below w.heap.size w W0) := hide (by rw [← hW0]; exact hb3)
    have HL0 : Hid (Blk W0 w.heap.size 26 #[Value.slice A n c, .slice B m k, .int .i64 room, .bool dead, .int .i64 arm, .int .i64 seq, .slice H hn hc, .bool stop]) := hide (by rw [← hW0]; exact ((Blk.new w 26 #[Value.slice A n c, .slice B m k, .int .i64 room, .bool dead, .int .i64 arm, .int .i64 seq, .slice H hn hc, .bool stop]).alloc _).alloc _)
    have HR0 : Hid (Blk W0 (w.heap.size + 1) 28 #[Value.int .i64 sq, .int .i64 op, .string ⟨pa.toArray⟩, .string ⟨pb.toArray⟩, .slice RA rn rc, .bool al]) := hide (by
      rw [← hW0]
      have h := (Blk.new (w.alloc (.cells #[Value.slice A n c, .slice B m k, .int .i64 room, .bool dead, .int .i64 arm, .int .i64 seq, .slice H hn hc, .bool stop] 26)) 28 #[Value.int .i64 sq, .int .i64 op, .string ⟨pa.toArray⟩, .string ⟨pb.toArray⟩, .slice RA rn rc, .bool al]).alloc (.cells #[Value.slice none 0 0, .slice none 0 0, .int .i64 0, .bool false, .int .i64 0, .int .i64 0, .slice none 0 0, .bool false] 26)
      simpa only [World.size_alloc] using h)
    have HZ0 : Hid (Blk W0 (w.heap.size + 1 + 1) 26 #[Value.slice none 0 0, .slice none 0 0, .int .i64 0, .bool false, .int .i64 0, .int .i64 0, .slice none 0 0, .bool false]) := hide (by
      rw [← hW0]
      have h := Blk.new ((w.alloc (.cells #[Value.slice A n c, .slice B m k, .int .i64 room, .bool dead, .int .i64 arm, .int .i64 seq, .slice H hn hc, .bool stop] 26)).alloc (.cells #[Value.int .i64 sq, .int .i64 op, .string ⟨pa.toArray⟩, .string ⟨pb.toArray⟩, .slice RA rn rc, .bool al] 28)) 26 #[Value.slice none 0 0, .slice none 0 0, .int .i64 0, .bool false, .int .i64 0, .int .i64 0, .slice none 0 0, .bool false]
      simpa only [World.size_alloc] using h)
    clear hb3
    obtain ⟨⟨x0, x1, x2, x3, x4, x5, x6, x7⟩, xz0, xz1, xz2, xz3, xz4, xz5, xz6, xz7⟩ := blk8 HL0.out
    have xl := HL0.out.lt
    go_enter Tryz.func9, Tryz.ntmps9
    go_wp2_with fail
    refine (XC.out W0 HB0.out).mono ?_
    rintro e1 w1 ⟨rfl, g4⟩
    clear hW0 x0 x1 x2 x3 x4 x5 x6 x7 xz0 xz1 xz2 xz3 xz4 xz5 xz6 xz7 xl XC
    have HB1 := hide (below_more HB0.out (Nat.le_refl _) g4)
    have HL1 := hide (HL0.out.below g4 HL0.out.lt)
    have HR1 := hide (HR0.out.below g4 HR0.out.lt)
    have HZ1 := hide (HZ0.out.below g4 HZ0.out.lt)
    have hs1 := HB1.out.size
    clear g4 HB0 HL0 HR0 HZ0
    obtain ⟨⟨x0, x1, x2, x3, x4, x5, x6, x7⟩, xz0, xz1, xz2, xz3, xz4, xz5, xz6, xz7⟩ := blk8 HL1.out
    have xl := HL1.out.lt
    obtain ⟨⟨u0, u1, u2, u3, u4, u5, u6, u7⟩, uz0, uz1, uz2, uz3, uz4, uz5, uz6, uz7⟩ := blk8 HZ1.out
    have ul := HZ1.out.lt
    obtain ⟨WE, hWE⟩ : ∃ W, ((((((((w1.setCell ⟨w.heap.size + 1 + 1, 0, none⟩ (.slice A n c)).setCell ⟨w.heap.size + 1 + 1, 1, none⟩ (.slice B m k)).setCell ⟨w.heap.size + 1 + 1, 2, none⟩ (.int .i64 room)).setCell ⟨w.heap.size + 1 + 1, 3, none⟩ (.bool dead)).setCell ⟨w.heap.size + 1 + 1, 4, none⟩ (.int .i64 arm)).setCell ⟨w.heap.size + 1 + 1, 5, none⟩ (.int .i64 seq)).setCell ⟨w.heap.size + 1 + 1, 6, none⟩ (.slice H hn hc)).setCell ⟨w.heap.size + 1 + 1, 7, none⟩ (.bool stop)) = W := ⟨_, rfl⟩
    have HZE : Hid (Blk WE (w.heap.size + 1 + 1) 26 #[.slice A n c, .slice B m k, .int .i64 room, .bool dead, .int .i64 arm, .int .i64 seq, .slice H hn hc, .bool stop]) := hide (by rw [← hWE]; exact set_log HZ1.out (.slice A n c) (.slice B m k) (.int .i64 room) (.bool dead) (.int .i64 arm) (.int .i64 seq) (.slice H hn hc) (.bool stop))
    have HF : Hid (LRetW (⟨s, p, room, dead, arm, seq, hash, stop⟩, 2) w (.returned (.tuple #[.agg #[.slice A n c, .slice B m k, .int .i64 room, .bool dead, .int .i64 arm, .int .i64 seq, .slice H hn hc, .bool stop], .int .i64 2])) WE) := hide ⟨A, n, c, B, m, k, H, hn, hc, rfl, ⟨by rw [← hWE]; exact rd_log (rb hI.rs HB1.out) HZ1.out (.slice A n c) (.slice B m k) (.int .i64 room) (.bool dead) (.int .i64 arm) (.int .i64 seq) (.slice H hn hc) (.bool stop), by rw [← hWE]; exact rd_log (rb hI.rp HB1.out) HZ1.out (.slice A n c) (.slice B m k) (.int .i64 room) (.bool dead) (.int .i64 arm) (.int .i64 seq) (.slice H hn hc) (.bool stop), by rw [← hWE]; exact rd_log (rb hI.rh HB1.out) HZ1.out (.slice A n c) (.slice B m k) (.int .i64 room) (.bool dead) (.int .i64 arm) (.int .i64 seq) (.slice H hn hc) (.bool stop)⟩, by rw [← hWE]; exact below8 HB1.out (w.heap.size + 1 + 1) (by omega) (.slice A n c) (.slice B m k) (.int .i64 room) (.bool dead) (.int .i64 arm) (.int .i64 seq) (.slice H hn hc) (.bool stop)⟩
    go_wp2_with fail
    clear hWE x0 x1 x2 x3 x4 x5 x6 x7 xz0 xz1 xz2 xz3 xz4 xz5 xz6 xz7 xl u0 u1 u2 u3 u4 u5 u6 u7 uz0 uz1 uz2 uz3 uz4 uz5 uz6 uz7 ul
    obtain ⟨⟨y0, y1, y2, y3, y4, y5, y6, y7⟩, yz0, yz1, yz2, yz3, yz4, yz5, yz6, yz7⟩ := blk8 HZE.out
    have yl := HZE.out.lt
    refine bodyPost_ret (v := .tuple #[.agg #[.slice A n c, .slice B m k, .int .i64 room, .bool dead, .int .i64 arm, .int .i64 seq, .slice H hn hc, .bool stop], .int .i64 2]) (by simp only [results, Tryz.results9]; go_simp) rfl HF.out
  | true =>
    rw [hok] at XC
    cases stop with
    | true =>
      have he : wrR ⟨s, p, room, dead, arm, seq, hash, true⟩ ⟨sq, op, pa, pb, g, al⟩ = (⟨s, p, room, dead, arm, seq, hash, true⟩, 42) := by unfold wrR; rw [if_neg (by rw [hok]; simp), if_pos rfl]
      rw [he]
      clear he hok
      have hb3 : Below w.heap.size w (((w.alloc (.cells #[Value.slice A n c, .slice B m k, .int .i64 room, .bool dead, .int .i64 arm, .int .i64 seq, .slice H hn hc, .bool true] 26)).alloc (.cells #[Value.int .i64 sq, .int .i64 op, .string ⟨pa.toArray⟩, .string ⟨pb.toArray⟩, .slice RA rn rc, .bool al] 28)).alloc (.cells #[Value.slice none 0 0, .slice none 0 0, .int .i64 0, .bool false, .int .i64 0, .int .i64 0, .slice none 0 0, .bool false] 26)) := ((bl_alloc w _).alloc (by simp) _).alloc (by simp; omega) _
      obtain ⟨W0, hW0⟩ : ∃ W, (((w.alloc (.cells #[Value.slice A n c, .slice B m k, .int .i64 room, .bool dead, .int .i64 arm, .int .i64 seq, .slice H hn hc, .bool true] 26)).alloc (.cells #[Value.int .i64 sq, .int .i64 op, .string ⟨pa.toArray⟩, .string ⟨pb.toArray⟩, .slice RA rn rc, .bool al] 28)).alloc (.cells #[Value.slice none 0 0, .slice none 0 0, .int .i64 0, .bool false, .int .i64 0, .int .i64 0, .slice none 0 0, .bool false] 26)) = W := ⟨_, rfl⟩
      have HB0 : Hid (Below w.heap.size w W0) := hide (by rw [← hW0]; exact hb3)
      have HL0 : Hid (Blk W0 w.heap.size 26 #[Value.slice A n c, .slice B m k, .int .i64 room, .bool dead, .int .i64 arm, .int .i64 seq, .slice H hn hc, .bool true]) := hide (by rw [← hW0]; exact ((Blk.new w 26 #[Value.slice A n c, .slice B m k, .int .i64 room, .bool dead, .int .i64 arm, .int .i64 seq, .slice H hn hc, .bool true]).alloc _).alloc _)
      have HR0 : Hid (Blk W0 (w.heap.size + 1) 28 #[Value.int .i64 sq, .int .i64 op, .string ⟨pa.toArray⟩, .string ⟨pb.toArray⟩, .slice RA rn rc, .bool al]) := hide (by
        rw [← hW0]
        have h := (Blk.new (w.alloc (.cells #[Value.slice A n c, .slice B m k, .int .i64 room, .bool dead, .int .i64 arm, .int .i64 seq, .slice H hn hc, .bool true] 26)) 28 #[Value.int .i64 sq, .int .i64 op, .string ⟨pa.toArray⟩, .string ⟨pb.toArray⟩, .slice RA rn rc, .bool al]).alloc (.cells #[Value.slice none 0 0, .slice none 0 0, .int .i64 0, .bool false, .int .i64 0, .int .i64 0, .slice none 0 0, .bool false] 26)
        simpa only [World.size_alloc] using h)
      have HZ0 : Hid (Blk W0 (w.heap.size + 1 + 1) 26 #[Value.slice none 0 0, .slice none 0 0, .int .i64 0, .bool false, .int .i64 0, .int .i64 0, .slice none 0 0, .bool false]) := hide (by
        rw [← hW0]
        have h := Blk.new ((w.alloc (.cells #[Value.slice A n c, .slice B m k, .int .i64 room, .bool dead, .int .i64 arm, .int .i64 seq, .slice H hn hc, .bool true] 26)).alloc (.cells #[Value.int .i64 sq, .int .i64 op, .string ⟨pa.toArray⟩, .string ⟨pb.toArray⟩, .slice RA rn rc, .bool al] 28)) 26 #[Value.slice none 0 0, .slice none 0 0, .int .i64 0, .bool false, .int .i64 0, .int .i64 0, .slice none 0 0, .bool false]
        simpa only [World.size_alloc] using h)
      clear hb3
      obtain ⟨⟨x0, x1, x2, x3, x4, x5, x6, x7⟩, xz0, xz1, xz2, xz3, xz4, xz5, xz6, xz7⟩ := blk8 HL0.out
      have xl := HL0.out.lt
      go_enter Tryz.func9, Tryz.ntmps9
      go_wp2_with fail
      refine (XC.out W0 HB0.out).mono ?_
      rintro e1 w1 ⟨rfl, g4⟩
      clear hW0 x0 x1 x2 x3 x4 x5 x6 x7 xz0 xz1 xz2 xz3 xz4 xz5 xz6 xz7 xl XC
      have HB1 := hide (below_more HB0.out (Nat.le_refl _) g4)
      have HL1 := hide (HL0.out.below g4 HL0.out.lt)
      have HR1 := hide (HR0.out.below g4 HR0.out.lt)
      have HZ1 := hide (HZ0.out.below g4 HZ0.out.lt)
      have hs1 := HB1.out.size
      clear g4 HB0 HL0 HR0 HZ0
      obtain ⟨⟨x0, x1, x2, x3, x4, x5, x6, x7⟩, xz0, xz1, xz2, xz3, xz4, xz5, xz6, xz7⟩ := blk8 HL1.out
      have xl := HL1.out.lt
      obtain ⟨⟨u0, u1, u2, u3, u4, u5, u6, u7⟩, uz0, uz1, uz2, uz3, uz4, uz5, uz6, uz7⟩ := blk8 HZ1.out
      have ul := HZ1.out.lt
      obtain ⟨WE, hWE⟩ : ∃ W, ((((((((w1.setCell ⟨w.heap.size + 1 + 1, 0, none⟩ (.slice A n c)).setCell ⟨w.heap.size + 1 + 1, 1, none⟩ (.slice B m k)).setCell ⟨w.heap.size + 1 + 1, 2, none⟩ (.int .i64 room)).setCell ⟨w.heap.size + 1 + 1, 3, none⟩ (.bool dead)).setCell ⟨w.heap.size + 1 + 1, 4, none⟩ (.int .i64 arm)).setCell ⟨w.heap.size + 1 + 1, 5, none⟩ (.int .i64 seq)).setCell ⟨w.heap.size + 1 + 1, 6, none⟩ (.slice H hn hc)).setCell ⟨w.heap.size + 1 + 1, 7, none⟩ (.bool true)) = W := ⟨_, rfl⟩
      have HZE : Hid (Blk WE (w.heap.size + 1 + 1) 26 #[.slice A n c, .slice B m k, .int .i64 room, .bool dead, .int .i64 arm, .int .i64 seq, .slice H hn hc, .bool true]) := hide (by rw [← hWE]; exact set_log HZ1.out (.slice A n c) (.slice B m k) (.int .i64 room) (.bool dead) (.int .i64 arm) (.int .i64 seq) (.slice H hn hc) (.bool true))
      have HF : Hid (LRetW (⟨s, p, room, dead, arm, seq, hash, true⟩, 42) w (.returned (.tuple #[.agg #[.slice A n c, .slice B m k, .int .i64 room, .bool dead, .int .i64 arm, .int .i64 seq, .slice H hn hc, .bool true], .int .i64 42])) WE) := hide ⟨A, n, c, B, m, k, H, hn, hc, rfl, ⟨by rw [← hWE]; exact rd_log (rb hI.rs HB1.out) HZ1.out (.slice A n c) (.slice B m k) (.int .i64 room) (.bool dead) (.int .i64 arm) (.int .i64 seq) (.slice H hn hc) (.bool true), by rw [← hWE]; exact rd_log (rb hI.rp HB1.out) HZ1.out (.slice A n c) (.slice B m k) (.int .i64 room) (.bool dead) (.int .i64 arm) (.int .i64 seq) (.slice H hn hc) (.bool true), by rw [← hWE]; exact rd_log (rb hI.rh HB1.out) HZ1.out (.slice A n c) (.slice B m k) (.int .i64 room) (.bool dead) (.int .i64 arm) (.int .i64 seq) (.slice H hn hc) (.bool true)⟩, by rw [← hWE]; exact below8 HB1.out (w.heap.size + 1 + 1) (by omega) (.slice A n c) (.slice B m k) (.int .i64 room) (.bool dead) (.int .i64 arm) (.int .i64 seq) (.slice H hn hc) (.bool true)⟩
      go_wp2_with fail
      clear hWE x0 x1 x2 x3 x4 x5 x6 x7 xz0 xz1 xz2 xz3 xz4 xz5 xz6 xz7 xl u0 u1 u2 u3 u4 u5 u6 u7 uz0 uz1 uz2 uz3 uz4 uz5 uz6 uz7 ul
      obtain ⟨⟨y0, y1, y2, y3, y4, y5, y6, y7⟩, yz0, yz1, yz2, yz3, yz4, yz5, yz6, yz7⟩ := blk8 HZE.out
      have yl := HZE.out.lt
      refine bodyPost_ret (v := .tuple #[.agg #[.slice A n c, .slice B m k, .int .i64 room, .bool dead, .int .i64 arm, .int .i64 seq, .slice H hn hc, .bool true], .int .i64 42]) (by simp only [results, Tryz.results9]; go_simp) rfl HF.out
    | false =>
      cases hv : validP ⟨seq, op, pa, pb, g, al⟩ with
      | false =>
        have he : wrR ⟨s, p, room, dead, arm, seq, hash, false⟩ ⟨sq, op, pa, pb, g, al⟩ = (⟨s, p, room, dead, arm, seq, hash, false⟩, 2) := by unfold wrR; rw [if_neg (by rw [hok]; simp), if_neg (by simp), if_pos hv]
        rw [he]
        have XV := hide (fun W => rcheck_any ⟨seq, op, pa, pb, g, al⟩ RA rn rc hD.len W)
        rw [hv] at XV
        unfold Rec.v at XV
        dsimp only at XV
        clear he hok hv
        have hb3 : Below w.heap.size w (((w.alloc (.cells #[Value.slice A n c, .slice B m k, .int .i64 room, .bool dead, .int .i64 arm, .int .i64 seq, .slice H hn hc, .bool false] 26)).alloc (.cells #[Value.int .i64 sq, .int .i64 op, .string ⟨pa.toArray⟩, .string ⟨pb.toArray⟩, .slice RA rn rc, .bool al] 28)).alloc (.cells #[Value.slice none 0 0, .slice none 0 0, .int .i64 0, .bool false, .int .i64 0, .int .i64 0, .slice none 0 0, .bool false] 26)) := ((bl_alloc w _).alloc (by simp) _).alloc (by simp; omega) _
        obtain ⟨W0, hW0⟩ : ∃ W, (((w.alloc (.cells #[Value.slice A n c, .slice B m k, .int .i64 room, .bool dead, .int .i64 arm, .int .i64 seq, .slice H hn hc, .bool false] 26)).alloc (.cells #[Value.int .i64 sq, .int .i64 op, .string ⟨pa.toArray⟩, .string ⟨pb.toArray⟩, .slice RA rn rc, .bool al] 28)).alloc (.cells #[Value.slice none 0 0, .slice none 0 0, .int .i64 0, .bool false, .int .i64 0, .int .i64 0, .slice none 0 0, .bool false] 26)) = W := ⟨_, rfl⟩
        have HB0 : Hid (Below w.heap.size w W0) := hide (by rw [← hW0]; exact hb3)
        have HL0 : Hid (Blk W0 w.heap.size 26 #[Value.slice A n c, .slice B m k, .int .i64 room, .bool dead, .int .i64 arm, .int .i64 seq, .slice H hn hc, .bool false]) := hide (by rw [← hW0]; exact ((Blk.new w 26 #[Value.slice A n c, .slice B m k, .int .i64 room, .bool dead, .int .i64 arm, .int .i64 seq, .slice H hn hc, .bool false]).alloc _).alloc _)
        have HR0 : Hid (Blk W0 (w.heap.size + 1) 28 #[Value.int .i64 sq, .int .i64 op, .string ⟨pa.toArray⟩, .string ⟨pb.toArray⟩, .slice RA rn rc, .bool al]) := hide (by
          rw [← hW0]
          have h := (Blk.new (w.alloc (.cells #[Value.slice A n c, .slice B m k, .int .i64 room, .bool dead, .int .i64 arm, .int .i64 seq, .slice H hn hc, .bool false] 26)) 28 #[Value.int .i64 sq, .int .i64 op, .string ⟨pa.toArray⟩, .string ⟨pb.toArray⟩, .slice RA rn rc, .bool al]).alloc (.cells #[Value.slice none 0 0, .slice none 0 0, .int .i64 0, .bool false, .int .i64 0, .int .i64 0, .slice none 0 0, .bool false] 26)
          simpa only [World.size_alloc] using h)
        have HZ0 : Hid (Blk W0 (w.heap.size + 1 + 1) 26 #[Value.slice none 0 0, .slice none 0 0, .int .i64 0, .bool false, .int .i64 0, .int .i64 0, .slice none 0 0, .bool false]) := hide (by
          rw [← hW0]
          have h := Blk.new ((w.alloc (.cells #[Value.slice A n c, .slice B m k, .int .i64 room, .bool dead, .int .i64 arm, .int .i64 seq, .slice H hn hc, .bool false] 26)).alloc (.cells #[Value.int .i64 sq, .int .i64 op, .string ⟨pa.toArray⟩, .string ⟨pb.toArray⟩, .slice RA rn rc, .bool al] 28)) 26 #[Value.slice none 0 0, .slice none 0 0, .int .i64 0, .bool false, .int .i64 0, .int .i64 0, .slice none 0 0, .bool false]
          simpa only [World.size_alloc] using h)
        clear hb3
        obtain ⟨⟨x0, x1, x2, x3, x4, x5, x6, x7⟩, xz0, xz1, xz2, xz3, xz4, xz5, xz6, xz7⟩ := blk8 HL0.out
        have xl := HL0.out.lt
        go_enter Tryz.func9, Tryz.ntmps9
        go_wp2_with fail
        refine (XC.out W0 HB0.out).mono ?_
        rintro e1 w1 ⟨rfl, g4⟩
        clear hW0 x0 x1 x2 x3 x4 x5 x6 x7 xz0 xz1 xz2 xz3 xz4 xz5 xz6 xz7 xl XC
        have HB1 := hide (below_more HB0.out (Nat.le_refl _) g4)
        have HL1 := hide (HL0.out.below g4 HL0.out.lt)
        have HR1 := hide (HR0.out.below g4 HR0.out.lt)
        have HZ1 := hide (HZ0.out.below g4 HZ0.out.lt)
        have hs1 := HB1.out.size
        clear g4 HB0 HL0 HR0 HZ0
        obtain ⟨W2, hW2⟩ : ∃ W, w1.setCell ⟨w.heap.size + 1, 0, none⟩ (.int .i64 seq) = W := ⟨_, rfl⟩
        have HB2 : Hid (Below w.heap.size w W2) := hide (by rw [← hW2]; exact HB1.out.setCell (Nat.le_succ _) _)
        have HL2 : Hid (Blk W2 w.heap.size 26 #[Value.slice A n c, .slice B m k, .int .i64 room, .bool dead, .int .i64 arm, .int .i64 seq, .slice H hn hc, .bool false]) := hide (by rw [← hW2]; exact HL1.out.far (p := ⟨w.heap.size + 1, 0, none⟩) (by show w.heap.size ≠ w.heap.size + 1; omega) (.int .i64 seq))
        have HR2 : Hid (Blk W2 (w.heap.size + 1) 28 #[Value.int .i64 seq, .int .i64 op, .string ⟨pa.toArray⟩, .string ⟨pb.toArray⟩, .slice RA rn rc, .bool al]) := hide (by rw [← hW2]; exact HR1.out.set_ 0 _)
        have HZ2 : Hid (Blk W2 (w.heap.size + 1 + 1) 26 #[Value.slice none 0 0, .slice none 0 0, .int .i64 0, .bool false, .int .i64 0, .int .i64 0, .slice none 0 0, .bool false]) := hide (by rw [← hW2]; exact HZ1.out.far (p := ⟨w.heap.size + 1, 0, none⟩) (by show w.heap.size + 1 + 1 ≠ w.heap.size + 1; omega) (.int .i64 seq))
        obtain ⟨⟨x0, x1, x2, x3, x4, x5, x6, x7⟩, xz0, xz1, xz2, xz3, xz4, xz5, xz6, xz7⟩ := blk8 HL1.out
        have xl := HL1.out.lt
        obtain ⟨⟨y0, y1, y2, y3, y4, y5⟩, yz0, yz1, yz2, yz3, yz4, yz5⟩ := blk6 HR1.out
        have yl := HR1.out.lt
        obtain ⟨⟨t0, t1, t2, t3, t4, t5⟩, tz0, tz1, tz2, tz3, tz4, tz5⟩ := blk6 HR2.out
        have tl := HR2.out.lt
        go_wp2_with fail
        refine (XV.out W2).mono ?_
        rintro e2 w3 ⟨rfl, g4⟩
        clear hW2 x0 x1 x2 x3 x4 x5 x6 x7 xz0 xz1 xz2 xz3 xz4 xz5 xz6 xz7 xl y0 y1 y2 y3 y4 y5 yz0 yz1 yz2 yz3 yz4 yz5 yl t0 t1 t2 t3 t4 t5 tz0 tz1 tz2 tz3 tz4 tz5 tl XV
        have HB3 := hide (below_more HB2.out (Nat.le_refl _) g4)
        have HL3 := hide (HL2.out.below g4 HL2.out.lt)
        have HR3 := hide (HR2.out.below g4 HR2.out.lt)
        have HZ3 := hide (HZ2.out.below g4 HZ2.out.lt)
        clear g4 HB2 HL2 HR2 HZ2 HB1 HL1 HR1 HZ1
        obtain ⟨⟨x0, x1, x2, x3, x4, x5, x6, x7⟩, xz0, xz1, xz2, xz3, xz4, xz5, xz6, xz7⟩ := blk8 HL3.out
        have xl := HL3.out.lt
        obtain ⟨⟨u0, u1, u2, u3, u4, u5, u6, u7⟩, uz0, uz1, uz2, uz3, uz4, uz5, uz6, uz7⟩ := blk8 HZ3.out
        have ul := HZ3.out.lt
        obtain ⟨WE, hWE⟩ : ∃ W, ((((((((w3.setCell ⟨w.heap.size + 1 + 1, 0, none⟩ (.slice A n c)).setCell ⟨w.heap.size + 1 + 1, 1, none⟩ (.slice B m k)).setCell ⟨w.heap.size + 1 + 1, 2, none⟩ (.int .i64 room)).setCell ⟨w.heap.size + 1 + 1, 3, none⟩ (.bool dead)).setCell ⟨w.heap.size + 1 + 1, 4, none⟩ (.int .i64 arm)).setCell ⟨w.heap.size + 1 + 1, 5, none⟩ (.int .i64 seq)).setCell ⟨w.heap.size + 1 + 1, 6, none⟩ (.slice H hn hc)).setCell ⟨w.heap.size + 1 + 1, 7, none⟩ (.bool false)) = W := ⟨_, rfl⟩
        have HZE : Hid (Blk WE (w.heap.size + 1 + 1) 26 #[.slice A n c, .slice B m k, .int .i64 room, .bool dead, .int .i64 arm, .int .i64 seq, .slice H hn hc, .bool false]) := hide (by rw [← hWE]; exact set_log HZ3.out (.slice A n c) (.slice B m k) (.int .i64 room) (.bool dead) (.int .i64 arm) (.int .i64 seq) (.slice H hn hc) (.bool false))
        have HF : Hid (LRetW (⟨s, p, room, dead, arm, seq, hash, false⟩, 2) w (.returned (.tuple #[.agg #[.slice A n c, .slice B m k, .int .i64 room, .bool dead, .int .i64 arm, .int .i64 seq, .slice H hn hc, .bool false], .int .i64 2])) WE) := hide ⟨A, n, c, B, m, k, H, hn, hc, rfl, ⟨by rw [← hWE]; exact rd_log (rb hI.rs HB3.out) HZ3.out (.slice A n c) (.slice B m k) (.int .i64 room) (.bool dead) (.int .i64 arm) (.int .i64 seq) (.slice H hn hc) (.bool false), by rw [← hWE]; exact rd_log (rb hI.rp HB3.out) HZ3.out (.slice A n c) (.slice B m k) (.int .i64 room) (.bool dead) (.int .i64 arm) (.int .i64 seq) (.slice H hn hc) (.bool false), by rw [← hWE]; exact rd_log (rb hI.rh HB3.out) HZ3.out (.slice A n c) (.slice B m k) (.int .i64 room) (.bool dead) (.int .i64 arm) (.int .i64 seq) (.slice H hn hc) (.bool false)⟩, by rw [← hWE]; exact below8 HB3.out (w.heap.size + 1 + 1) (by omega) (.slice A n c) (.slice B m k) (.int .i64 room) (.bool dead) (.int .i64 arm) (.int .i64 seq) (.slice H hn hc) (.bool false)⟩
        go_wp2_with fail
        clear hWE x0 x1 x2 x3 x4 x5 x6 x7 xz0 xz1 xz2 xz3 xz4 xz5 xz6 xz7 xl u0 u1 u2 u3 u4 u5 u6 u7 uz0 uz1 uz2 uz3 uz4 uz5 uz6 uz7 ul
        obtain ⟨⟨y0, y1, y2, y3, y4, y5, y6, y7⟩, yz0, yz1, yz2, yz3, yz4, yz5, yz6, yz7⟩ := blk8 HZE.out
        have yl := HZE.out.lt
        refine bodyPost_ret (v := .tuple #[.agg #[.slice A n c, .slice B m k, .int .i64 room, .bool dead, .int .i64 arm, .int .i64 seq, .slice H hn hc, .bool false], .int .i64 2]) (by simp only [results, Tryz.results9]; go_simp) rfl HF.out
      | true =>
        have hh32 : hn = 32 := by
          have h1 := (okL_split hok).2.2.1
          have h2 := scanB_last s
          dsimp only at h1
          rw [h1, HLH.out] at h2
          exact h2
        subst hh32
        have hq9 : 0 ≤ seq ∧ seq ≤ 9000 := by
          have h1 := (okL_split hok).2.1
          have h2 := scanB_few s
          have h3 := scanB_end s
          have h4 := HSN.out
          dsimp only at h1
          omega
        have XV := hide (fun W => rcheck_any ⟨seq, op, pa, pb, g, al⟩ RA rn rc hD.len W)
        rw [hv] at XV
        have XL := hide (fun W (hW : Below w.heap.size w W) => rlink_ok hash ⟨seq, op, pa, pb, g, al⟩ H RA hc rn rc hD.len W (rb hD hW) hv (rb hI.rh hW) hI.lh)
        unfold RetLinkYes at XL
        unfold Rec.v at XV XL
        have hel := enc_small hv
        have hen := ent_length hash ⟨seq, op, pa, pb, g, al⟩
        have hpl := apP_len (n := s.length) (m := p.length) (p := p) (room := room) (arm := arm) (dead := dead) (b := entP hash ⟨seq, op, pa, pb, g, al⟩)
        have hR1le := apA_le (n := s.length) (m := p.length) (room := room) (dead := dead) ha
        unfold wrR
        rw [if_neg (by rw [hok]; simp), if_neg (by simp), if_neg (by dsimp only; rw [hv]; simp)]
        dsimp only at XV XL ⊢
        obtain ⟨XB, hXB⟩ : ∃ x, entP hash ⟨seq, op, pa, pb, g, al⟩ = x := ⟨_, rfl⟩
        obtain ⟨YB, hYB⟩ : ∃ x, digP hash (encP ⟨seq, op, pa, pb, g, al⟩) = x := ⟨_, rfl⟩
        rw [hXB, hYB]
        rw [hXB] at hen hpl
        rw [hXB, hYB, ← hen] at XL
        rw [HSN.out, HPM.out] at hR1le ⊢
        rw [HSN.out, HPM.out] at hpl
        obtain ⟨T1, hT1⟩ : ∃ T, Dk.apD n m room dead arm = T := ⟨_, rfl⟩
        obtain ⟨R1x, hR1⟩ : ∃ T, Dk.apA n m room dead arm = T := ⟨_, rfl⟩
        obtain ⟨P1x, hP1⟩ : ∃ T, Dk.apP n m p room dead arm XB = T := ⟨_, rfl⟩
        obtain ⟨xl, hxl0⟩ : ∃ q, XB.length = q := ⟨_, rfl⟩
        rw [hxl0] at hen XL hpl ⊢
        obtain ⟨E1x, hE1⟩ : ∃ T, Dk.apE n m room dead arm xl = T := ⟨_, rfl⟩
        rw [hT1, hR1, hP1, hE1]
        rw [hP1] at hpl
        rw [hR1] at hR1le
        have hx6 : xl ≤ 600 := by omega
        have hpl6 : P1x.length ≤ 4600 := by omega
        have HT1 := hide hT1
        have HR1x := hide hR1
        have HP1x := hide hP1
        have HE1x := hide hE1
        clear hok hv hXB hYB hT1 hR1 hP1 hE1 hxl0 hen hel hpl
        by_cases hz : E1x = 0
        · subst hz
          rw [if_neg (by simp)]
          obtain ⟨T2, hT2⟩ : ∃ T, Dk.apD n P1x.length room T1 R1x = T := ⟨_, rfl⟩
          obtain ⟨R2x, hR2⟩ : ∃ T, Dk.apA n P1x.length room T1 R1x = T := ⟨_, rfl⟩
          obtain ⟨E2x, hE2⟩ : ∃ T, Dk.syE n P1x.length room T1 R1x = T := ⟨_, rfl⟩
          rw [hT2, hR2, hE2]
          have HT2 := hide hT2
          have HR2x := hide hR2
          have HE2x := hide hE2
          clear hT2 hR2 hE2
          by_cases hz2 : E2x = 0
          · subst hz2
            rw [if_neg (by simp)]
            have hb3 : Below w.heap.size w (((w.alloc (.cells #[Value.slice A n c, .slice B m k, .int .i64 room, .bool dead, .int .i64 arm, .int .i64 seq, .slice H 32 hc, .bool false] 26)).alloc (.cells #[Value.int .i64 sq, .int .i64 op, .string ⟨pa.toArray⟩, .string ⟨pb.toArray⟩, .slice RA rn rc, .bool al] 28)).alloc (.cells #[Value.slice none 0 0, .slice none 0 0, .int .i64 0, .bool false, .int .i64 0, .int .i64 0, .slice none 0 0, .bool false] 26)) := ((bl_alloc w _).alloc (by simp) _).alloc (by simp; omega) _
            obtain ⟨W0, hW0⟩ : ∃ W, (((w.alloc (.cells #[Value.slice A n c, .slice B m k, .int .i64 room, .bool dead, .int .i64 arm, .int .i64 seq, .slice H 32 hc, .bool false] 26)).alloc (.cells #[Value.int .i64 sq, .int .i64 op, .string ⟨pa.toArray⟩, .string ⟨pb.toArray⟩, .slice RA rn rc, .bool al] 28)).alloc (.cells #[Value.slice none 0 0, .slice none 0 0, .int .i64 0, .bool false, .int .i64 0, .int .i64 0, .slice none 0 0, .bool false] 26)) = W := ⟨_, rfl⟩
            have HB0 : Hid (Below w.heap.size w W0) := hide (by rw [← hW0]; exact hb3)
            have HL0 : Hid (Blk W0 w.heap.size 26 #[Value.slice A n c, .slice B m k, .int .i64 room, .bool dead, .int .i64 arm, .int .i64 seq, .slice H 32 hc, .bool false]) := hide (by rw [← hW0]; exact ((Blk.new w 26 #[Value.slice A n c, .slice B m k, .int .i64 room, .bool dead, .int .i64 arm, .int .i64 seq, .slice H 32 hc, .bool false]).alloc _).alloc _)
            have HR0 : Hid (Blk W0 (w.heap.size + 1) 28 #[Value.int .i64 sq, .int .i64 op, .string ⟨pa.toArray⟩, .string ⟨pb.toArray⟩, .slice RA rn rc, .bool al]) := hide (by
              rw [← hW0]
              have h := (Blk.new (w.alloc (.cells #[Value.slice A n c, .slice B m k, .int .i64 room, .bool dead, .int .i64 arm, .int .i64 seq, .slice H 32 hc, .bool false] 26)) 28 #[Value.int .i64 sq, .int .i64 op, .string ⟨pa.toArray⟩, .string ⟨pb.toArray⟩, .slice RA rn rc, .bool al]).alloc (.cells #[Value.slice none 0 0, .slice none 0 0, .int .i64 0, .bool false, .int .i64 0, .int .i64 0, .slice none 0 0, .bool false] 26)
              simpa only [World.size_alloc] using h)
            have HZ0 : Hid (Blk W0 (w.heap.size + 1 + 1) 26 #[Value.slice none 0 0, .slice none 0 0, .int .i64 0, .bool false, .int .i64 0, .int .i64 0, .slice none 0 0, .bool false]) := hide (by
              rw [← hW0]
              have h := Blk.new ((w.alloc (.cells #[Value.slice A n c, .slice B m k, .int .i64 room, .bool dead, .int .i64 arm, .int .i64 seq, .slice H 32 hc, .bool false] 26)).alloc (.cells #[Value.int .i64 sq, .int .i64 op, .string ⟨pa.toArray⟩, .string ⟨pb.toArray⟩, .slice RA rn rc, .bool al] 28)) 26 #[Value.slice none 0 0, .slice none 0 0, .int .i64 0, .bool false, .int .i64 0, .int .i64 0, .slice none 0 0, .bool false]
              simpa only [World.size_alloc] using h)
            clear hb3
            obtain ⟨⟨x0, x1, x2, x3, x4, x5, x6, x7⟩, xz0, xz1, xz2, xz3, xz4, xz5, xz6, xz7⟩ := blk8 HL0.out
            have xl := HL0.out.lt
            go_enter Tryz.func9, Tryz.ntmps9
            go_wp2_with fail
            refine (XC.out W0 HB0.out).mono ?_
            rintro e1 w1 ⟨rfl, g4⟩
            clear hW0 x0 x1 x2 x3 x4 x5 x6 x7 xz0 xz1 xz2 xz3 xz4 xz5 xz6 xz7 xl XC
            have HB1 := hide (below_more HB0.out (Nat.le_refl _) g4)
            have HL1 := hide (HL0.out.below g4 HL0.out.lt)
            have HR1 := hide (HR0.out.below g4 HR0.out.lt)
            have HZ1 := hide (HZ0.out.below g4 HZ0.out.lt)
            have hs1 := HB1.out.size
            clear g4 HB0 HL0 HR0 HZ0
            obtain ⟨W2, hW2⟩ : ∃ W, w1.setCell ⟨w.heap.size + 1, 0, none⟩ (.int .i64 seq) = W := ⟨_, rfl⟩
            have HB2 : Hid (Below w.heap.size w W2) := hide (by rw [← hW2]; exact HB1.out.setCell (Nat.le_succ _) _)
            have HL2 : Hid (Blk W2 w.heap.size 26 #[Value.slice A n c, .slice B m k, .int .i64 room, .bool dead, .int .i64 arm, .int .i64 seq, .slice H 32 hc, .bool false]) := hide (by rw [← hW2]; exact HL1.out.far (p := ⟨w.heap.size + 1, 0, none⟩) (by show w.heap.size ≠ w.heap.size + 1; omega) (.int .i64 seq))
            have HR2 : Hid (Blk W2 (w.heap.size + 1) 28 #[Value.int .i64 seq, .int .i64 op, .string ⟨pa.toArray⟩, .string ⟨pb.toArray⟩, .slice RA rn rc, .bool al]) := hide (by rw [← hW2]; exact HR1.out.set_ 0 _)
            have HZ2 : Hid (Blk W2 (w.heap.size + 1 + 1) 26 #[Value.slice none 0 0, .slice none 0 0, .int .i64 0, .bool false, .int .i64 0, .int .i64 0, .slice none 0 0, .bool false]) := hide (by rw [← hW2]; exact HZ1.out.far (p := ⟨w.heap.size + 1, 0, none⟩) (by show w.heap.size + 1 + 1 ≠ w.heap.size + 1; omega) (.int .i64 seq))
            obtain ⟨⟨x0, x1, x2, x3, x4, x5, x6, x7⟩, xz0, xz1, xz2, xz3, xz4, xz5, xz6, xz7⟩ := blk8 HL1.out
            have xl := HL1.out.lt
            obtain ⟨⟨y0, y1, y2, y3, y4, y5⟩, yz0, yz1, yz2, yz3, yz4, yz5⟩ := blk6 HR1.out
            have yl := HR1.out.lt
            obtain ⟨⟨t0, t1, t2, t3, t4, t5⟩, tz0, tz1, tz2, tz3, tz4, tz5⟩ := blk6 HR2.out
            have tl := HR2.out.lt
            go_wp2_with fail
            refine (XV.out W2).mono ?_
            rintro e2 w3 ⟨rfl, g4⟩
            clear hW2 x0 x1 x2 x3 x4 x5 x6 x7 xz0 xz1 xz2 xz3 xz4 xz5 xz6 xz7 xl y0 y1 y2 y3 y4 y5 yz0 yz1 yz2 yz3 yz4 yz5 yl t0 t1 t2 t3 t4 t5 tz0 tz1 tz2 tz3 tz4 tz5 tl XV
            have HB3 := hide (below_more HB2.out (Nat.le_refl _) g4)
            have HL3 := hide (HL2.out.below g4 HL2.out.lt)
            have HR3 := hide (HR2.out.below g4 HR2.out.lt)
            have HZ3 := hide (HZ2.out.below g4 HZ2.out.lt)
            clear g4 HB2 HL2 HR2 HZ2 HB1 HL1 HR1 HZ1
            obtain ⟨⟨x0, x1, x2, x3, x4, x5, x6, x7⟩, xz0, xz1, xz2, xz3, xz4, xz5, xz6, xz7⟩ := blk8 HL3.out
            have xl := HL3.out.lt
            obtain ⟨⟨y0, y1, y2, y3, y4, y5⟩, yz0, yz1, yz2, yz3, yz4, yz5⟩ := blk6 HR3.out
            have yl := HR3.out.lt
            go_wp2_with fail
            refine (XL.out w3 HB3.out).mono ?_
            rintro e3 w4 ⟨X, x, cx, Y, cy, rfl, q1, q2, q3, q4⟩
            subst q1
            clear x0 x1 x2 x3 x4 x5 x6 x7 xz0 xz1 xz2 xz3 xz4 xz5 xz6 xz7 xl y0 y1 y2 y3 y4 y5 yz0 yz1 yz2 yz3 yz4 yz5 yl XL
            have HB4 := hide (below_more HB3.out (Nat.le_refl _) q4)
            have HL4 := hide (HL3.out.below q4 HL3.out.lt)
            have HZ4 := hide (HZ3.out.below q4 HZ3.out.lt)
            have HX4 := hide q2.rd
            have HY4 := hide q3.rd
            have HXL := hide q2.rd.len
            have XA := hide (Dk.rappend_any A c B k room dead arm s p XB X cx w4 (by rw [HSN.out]; exact rb hI.rs HB4.out) (by rw [HPM.out]; exact rb hI.rp HB4.out) (by rw [HXL.out]; exact q2.rd) (by rw [HSN.out]; omega) (by rw [HPM.out]; omega) (by rw [HXL.out]; omega) ha)
            unfold Dk.ApEnd Dk.dv at XA
            rw [HSN.out, HPM.out, HXL.out, HT1.out, HR1x.out, HP1x.out, HE1x.out] at XA
            clear q2 q3 q4 HB3 HL3 HR3 HZ3
            obtain ⟨⟨x0, x1, x2, x3, x4, x5, x6, x7⟩, xz0, xz1, xz2, xz3, xz4, xz5, xz6, xz7⟩ := blk8 HL4.out
            have xl := HL4.out.lt
            go_wp2_with fail
            refine XA.out.mono ?_
            rintro e4 w5 ⟨A5, n5, c5, B5, m5, k5, rfl, v1, v2, v3⟩
            clear x0 x1 x2 x3 x4 x5 x6 x7 xz0 xz1 xz2 xz3 xz4 xz5 xz6 xz7 xl XA
            have HB5 := hide (below_more HB4.out (Nat.le_refl _) v3)
            have HY5 := hide (rb HY4.out v3)
            have hal := bl_alloc w5 (.cells #[Value.slice A5 n c5, .slice B5 m5 k5, .int .i64 room, .bool T1, .int .i64 R1x] 24)
            have HB6 := hide (below_more HB5.out (Nat.le_refl _) hal)
            have HL6 := hide ((HL4.out.below v3 HL4.out.lt).below hal (HL4.out.below v3 HL4.out.lt).lt)
            have HZ6 := hide ((HZ4.out.below v3 HZ4.out.lt).below hal (HZ4.out.below v3 HZ4.out.lt).lt)
            have HZ5 := hide (HZ4.out.below v3 HZ4.out.lt)
            have HS5 := hide v1
            have HP5 := hide v2
            have HS6 := hide (rb v1 hal)
            have HP6 := hide (rb v2 hal)
            have HY6 := hide (rb HY5.out hal)
            have hz5 : w.heap.size + 1 + 1 < w5.heap.size := (HZ4.out.below v3 HZ4.out.lt).lt
            have hn5 : n = n5 := by rw [← HSN.out]; exact v1.len
            subst hn5
            have HP1L := hide v2.len
            have hm5 : m5 ≤ 4600 := by rw [← HP1L.out]; exact hpl6
            clear v1 v2 v3 HB4 HL4 HZ4 HX4 HY4 HY5
            have hK6 : Blk (w5.alloc (.cells #[Value.slice A5 n c5, .slice B5 m5 k5, .int .i64 room, .bool T1, .int .i64 R1x] 24)) w5.heap.size 24 #[Value.slice A5 n c5, .slice B5 m5 k5, .int .i64 room, .bool T1, .int .i64 R1x] := Blk.new w5 24 #[Value.slice A5 n c5, .slice B5 m5 k5, .int .i64 room, .bool T1, .int .i64 R1x]
            have HK6 := hide hK6
            have XS := hide (Dk.rsync_any A5 c5 B5 k5 room T1 R1x s P1x (w5.alloc (.cells #[Value.slice A5 n c5, .slice B5 m5 k5, .int .i64 room, .bool T1, .int .i64 R1x] 24)) (by rw [HSN.out]; exact HS6.out) (by rw [HP1L.out]; exact HP6.out) (by rw [HSN.out]; omega) (by rw [HP1L.out]; omega) hR1le)
            unfold Dk.SyEnd Dk.dv at XS
            rw [HSN.out, HP1L.out] at XS
            rw [HP1L.out] at HT2 HR2x HE2x
            rw [HE2x.out, HT2.out, HR2x.out, show Dk.syS s P1x 0 = s ++ P1x from if_pos rfl, show Dk.syP P1x 0 = [] from if_pos rfl] at XS
            obtain ⟨⟨x0, x1, x2, x3, x4, x5, x6, x7⟩, xz0, xz1, xz2, xz3, xz4, xz5, xz6, xz7⟩ := blk8 HL6.out
            have xl := HL6.out.lt
            clear hK6
            go_wp2_with fail
            refine XS.out.mono ?_
            rintro e5 w7 ⟨A7, n7, c7, B7, m7, k7, rfl, v1, v2, v3⟩
            clear x0 x1 x2 x3 x4 x5 x6 x7 xz0 xz1 xz2 xz3 xz4 xz5 xz6 xz7 xl XS
            have HB7 := hide (below_more HB6.out (Nat.le_refl _) v3)
            have HL7 := hide (HL6.out.below v3 HL6.out.lt)
            have HZ7 := hide (HZ6.out.below v3 HZ6.out.lt)
            have hk7 := HK6.out.below v3 HK6.out.lt
            have HS7 := hide v1
            have HP7 := hide v2
            have HY7 := hide (rb HY6.out v3)
            obtain ⟨W8, hW8⟩ : ∃ W, (((((w7.setCell ⟨w5.heap.size, 0, none⟩ (.slice A7 n7 c7)).setCell ⟨w5.heap.size, 1, none⟩ (.slice B7 m7 k7)).setCell ⟨w5.heap.size, 2, none⟩ (.int .i64 room)).setCell ⟨w5.heap.size, 3, none⟩ (.bool T2)).setCell ⟨w5.heap.size, 4, none⟩ (.int .i64 R2x)) = W := ⟨_, rfl⟩
            have HB8 : Hid (Below w.heap.size w W8) := hide (by rw [← hW8]; exact below5 HB7.out w5.heap.size (by omega) (.slice A7 n7 c7) (.slice B7 m7 k7) (.int .i64 room) (.bool T2) (.int .i64 R2x))
            have HK8 : Hid (Blk W8 w5.heap.size 24 #[Value.slice A7 n7 c7, .slice B7 m7 k7, .int .i64 room, .bool T2, .int .i64 R2x]) := hide (by rw [← hW8]; exact set5 hk7 (.slice A7 n7 c7) (.slice B7 m7 k7) (.int .i64 room) (.bool T2) (.int .i64 R2x))
            have HL8 : Hid (Blk W8 w.heap.size 26 #[Value.slice A n c, .slice B m k, .int .i64 room, .bool dead, .int .i64 arm, .int .i64 seq, .slice H 32 hc, .bool false]) := hide (by rw [← hW8]; exact far5 HL7.out (by omega) (.slice A7 n7 c7) (.slice B7 m7 k7) (.int .i64 room) (.bool T2) (.int .i64 R2x))
            have HZ8 : Hid (Blk W8 (w.heap.size + 1 + 1) 26 #[Value.slice none 0 0, .slice none 0 0, .int .i64 0, .bool false, .int .i64 0, .int .i64 0, .slice none 0 0, .bool false]) := hide (by rw [← hW8]; exact far5 HZ7.out (by omega) (.slice A7 n7 c7) (.slice B7 m7 k7) (.int .i64 room) (.bool T2) (.int .i64 R2x))
            have HS8 : Hid (Rd W8 A7 n7 (s ++ P1x)) := hide (by rw [← hW8]; exact rd5 HS7.out hk7 (.slice A7 n7 c7) (.slice B7 m7 k7) (.int .i64 room) (.bool T2) (.int .i64 R2x))
            have HP8 : Hid (Rd W8 B7 m7 []) := hide (by rw [← hW8]; exact rd5 HP7.out hk7 (.slice A7 n7 c7) (.slice B7 m7 k7) (.int .i64 room) (.bool T2) (.int .i64 R2x))
            have HY8 : Hid (Rd W8 Y 32 YB) := hide (by rw [← hW8]; exact rd5 HY7.out hk7 (.slice A7 n7 c7) (.slice B7 m7 k7) (.int .i64 room) (.bool T2) (.int .i64 R2x))
            obtain ⟨⟨t0, t1, t2, t3, t4⟩, tz0, tz1, tz2, tz3, tz4⟩ := hk7.five
            have tl := hk7.lt
            obtain ⟨⟨i0, i1, i2, i3, i4⟩, iz0, iz1, iz2, iz3, iz4⟩ := HK8.out.five
            have il := HK8.out.lt
            clear v1 v2 v3 HB6 HL6 HZ6 HS6 HP6 HY6 HK6 HB7 HL7 HZ7 HS7 HP7 HY7 hk7
            obtain ⟨⟨x0, x1, x2, x3, x4, x5, x6, x7⟩, xz0, xz1, xz2, xz3, xz4, xz5, xz6, xz7⟩ := blk8 HL8.out
            have xl := HL8.out.lt
            obtain ⟨⟨u0, u1, u2, u3, u4, u5, u6, u7⟩, uz0, uz1, uz2, uz3, uz4, uz5, uz6, uz7⟩ := blk8 HZ8.out
            have ul := HZ8.out.lt
            have vq : IntKind.i64.wrap (seq + 1) = seq + 1 := by simp [IntKind.wrap, IntKind.bits, IntKind.signed]; omega
            obtain ⟨WE, hWE⟩ : ∃ W, ((((((((W8.setCell ⟨w.heap.size + 1 + 1, 0, none⟩ (.slice A7 n7 c7)).setCell ⟨w.heap.size + 1 + 1, 1, none⟩ (.slice B7 m7 k7)).setCell ⟨w.heap.size + 1 + 1, 2, none⟩ (.int .i64 room)).setCell ⟨w.heap.size + 1 + 1, 3, none⟩ (.bool T2)).setCell ⟨w.heap.size + 1 + 1, 4, none⟩ (.int .i64 R2x)).setCell ⟨w.heap.size + 1 + 1, 5, none⟩ (.int .i64 (seq + 1))).setCell ⟨w.heap.size + 1 + 1, 6, none⟩ (.slice Y 32 cy)).setCell ⟨w.heap.size + 1 + 1, 7, none⟩ (.bool false)) = W := ⟨_, rfl⟩
            have HZE : Hid (Blk WE (w.heap.size + 1 + 1) 26 #[.slice A7 n7 c7, .slice B7 m7 k7, .int .i64 room, .bool T2, .int .i64 R2x, .int .i64 (seq + 1), .slice Y 32 cy, .bool false]) := hide (by rw [← hWE]; exact set_log HZ8.out (.slice A7 n7 c7) (.slice B7 m7 k7) (.int .i64 room) (.bool T2) (.int .i64 R2x) (.int .i64 (seq + 1)) (.slice Y 32 cy) (.bool false))
            have HF : Hid (LRetW (⟨s ++ P1x, [], room, T2, R2x, seq + 1, YB, false⟩, 0) w (.returned (.tuple #[.agg #[.slice A7 n7 c7, .slice B7 m7 k7, .int .i64 room, .bool T2, .int .i64 R2x, .int .i64 (seq + 1), .slice Y 32 cy, .bool false], .int .i64 0])) WE) := hide ⟨A7, n7, c7, B7, m7, k7, Y, 32, cy, rfl, ⟨by rw [← hWE]; exact rd_log HS8.out HZ8.out (.slice A7 n7 c7) (.slice B7 m7 k7) (.int .i64 room) (.bool T2) (.int .i64 R2x) (.int .i64 (seq + 1)) (.slice Y 32 cy) (.bool false), by rw [← hWE]; exact rd_log HP8.out HZ8.out (.slice A7 n7 c7) (.slice B7 m7 k7) (.int .i64 room) (.bool T2) (.int .i64 R2x) (.int .i64 (seq + 1)) (.slice Y 32 cy) (.bool false), by rw [← hWE]; exact rd_log HY8.out HZ8.out (.slice A7 n7 c7) (.slice B7 m7 k7) (.int .i64 room) (.bool T2) (.int .i64 R2x) (.int .i64 (seq + 1)) (.slice Y 32 cy) (.bool false)⟩, by rw [← hWE]; exact below8 HB8.out (w.heap.size + 1 + 1) (by omega) (.slice A7 n7 c7) (.slice B7 m7 k7) (.int .i64 room) (.bool T2) (.int .i64 R2x) (.int .i64 (seq + 1)) (.slice Y 32 cy) (.bool false)⟩
            go_wp2_with fail
            clear hWE x0 x1 x2 x3 x4 x5 x6 x7 xz0 xz1 xz2 xz3 xz4 xz5 xz6 xz7 xl u0 u1 u2 u3 u4 u5 u6 u7 uz0 uz1 uz2 uz3 uz4 uz5 uz6 uz7 ul
            obtain ⟨⟨y0, y1, y2, y3, y4, y5, y6, y7⟩, yz0, yz1, yz2, yz3, yz4, yz5, yz6, yz7⟩ := blk8 HZE.out
            have yl := HZE.out.lt
            refine bodyPost_ret (v := .tuple #[.agg #[.slice A7 n7 c7, .slice B7 m7 k7, .int .i64 room, .bool T2, .int .i64 R2x, .int .i64 (seq + 1), .slice Y 32 cy, .bool false], .int .i64 0]) (by simp only [results, Tryz.results9]; go_simp) rfl HF.out
          · rw [if_pos (by simpa using hz2)]
            have hz2b : (E2x != 0) = true := by rw [bne_iff_ne]; exact hz2
            have HZ2N := hide hz2
            have hb3 : Below w.heap.size w (((w.alloc (.cells #[Value.slice A n c, .slice B m k, .int .i64 room, .bool dead, .int .i64 arm, .int .i64 seq, .slice H 32 hc, .bool false] 26)).alloc (.cells #[Value.int .i64 sq, .int .i64 op, .string ⟨pa.toArray⟩, .string ⟨pb.toArray⟩, .slice RA rn rc, .bool al] 28)).alloc (.cells #[Value.slice none 0 0, .slice none 0 0, .int .i64 0, .bool false, .int .i64 0, .int .i64 0, .slice none 0 0, .bool false] 26)) := ((bl_alloc w _).alloc (by simp) _).alloc (by simp; omega) _
            obtain ⟨W0, hW0⟩ : ∃ W, (((w.alloc (.cells #[Value.slice A n c, .slice B m k, .int .i64 room, .bool dead, .int .i64 arm, .int .i64 seq, .slice H 32 hc, .bool false] 26)).alloc (.cells #[Value.int .i64 sq, .int .i64 op, .string ⟨pa.toArray⟩, .string ⟨pb.toArray⟩, .slice RA rn rc, .bool al] 28)).alloc (.cells #[Value.slice none 0 0, .slice none 0 0, .int .i64 0, .bool false, .int .i64 0, .int .i64 0, .slice none 0 0, .bool false] 26)) = W := ⟨_, rfl⟩
            have HB0 : Hid (Below w.heap.size w W0) := hide (by rw [← hW0]; exact hb3)
            have HL0 : Hid (Blk W0 w.heap.size 26 #[Value.slice A n c, .slice B m k, .int .i64 room, .bool dead, .int .i64 arm, .int .i64 seq, .slice H 32 hc, .bool false]) := hide (by rw [← hW0]; exact ((Blk.new w 26 #[Value.slice A n c, .slice B m k, .int .i64 room, .bool dead, .int .i64 arm, .int .i64 seq, .slice H 32 hc, .bool false]).alloc _).alloc _)
            have HR0 : Hid (Blk W0 (w.heap.size + 1) 28 #[Value.int .i64 sq, .int .i64 op, .string ⟨pa.toArray⟩, .string ⟨pb.toArray⟩, .slice RA rn rc, .bool al]) := hide (by
              rw [← hW0]
              have h := (Blk.new (w.alloc (.cells #[Value.slice A n c, .slice B m k, .int .i64 room, .bool dead, .int .i64 arm, .int .i64 seq, .slice H 32 hc, .bool false] 26)) 28 #[Value.int .i64 sq, .int .i64 op, .string ⟨pa.toArray⟩, .string ⟨pb.toArray⟩, .slice RA rn rc, .bool al]).alloc (.cells #[Value.slice none 0 0, .slice none 0 0, .int .i64 0, .bool false, .int .i64 0, .int .i64 0, .slice none 0 0, .bool false] 26)
              simpa only [World.size_alloc] using h)
            have HZ0 : Hid (Blk W0 (w.heap.size + 1 + 1) 26 #[Value.slice none 0 0, .slice none 0 0, .int .i64 0, .bool false, .int .i64 0, .int .i64 0, .slice none 0 0, .bool false]) := hide (by
              rw [← hW0]
              have h := Blk.new ((w.alloc (.cells #[Value.slice A n c, .slice B m k, .int .i64 room, .bool dead, .int .i64 arm, .int .i64 seq, .slice H 32 hc, .bool false] 26)).alloc (.cells #[Value.int .i64 sq, .int .i64 op, .string ⟨pa.toArray⟩, .string ⟨pb.toArray⟩, .slice RA rn rc, .bool al] 28)) 26 #[Value.slice none 0 0, .slice none 0 0, .int .i64 0, .bool false, .int .i64 0, .int .i64 0, .slice none 0 0, .bool false]
              simpa only [World.size_alloc] using h)
            clear hb3
            obtain ⟨⟨x0, x1, x2, x3, x4, x5, x6, x7⟩, xz0, xz1, xz2, xz3, xz4, xz5, xz6, xz7⟩ := blk8 HL0.out
            have xl := HL0.out.lt
            go_enter Tryz.func9, Tryz.ntmps9
            go_wp2_with fail
            refine (XC.out W0 HB0.out).mono ?_
            rintro e1 w1 ⟨rfl, g4⟩
            clear hW0 x0 x1 x2 x3 x4 x5 x6 x7 xz0 xz1 xz2 xz3 xz4 xz5 xz6 xz7 xl XC
            have HB1 := hide (below_more HB0.out (Nat.le_refl _) g4)
            have HL1 := hide (HL0.out.below g4 HL0.out.lt)
            have HR1 := hide (HR0.out.below g4 HR0.out.lt)
            have HZ1 := hide (HZ0.out.below g4 HZ0.out.lt)
            have hs1 := HB1.out.size
            clear g4 HB0 HL0 HR0 HZ0
            obtain ⟨W2, hW2⟩ : ∃ W, w1.setCell ⟨w.heap.size + 1, 0, none⟩ (.int .i64 seq) = W := ⟨_, rfl⟩
            have HB2 : Hid (Below w.heap.size w W2) := hide (by rw [← hW2]; exact HB1.out.setCell (Nat.le_succ _) _)
            have HL2 : Hid (Blk W2 w.heap.size 26 #[Value.slice A n c, .slice B m k, .int .i64 room, .bool dead, .int .i64 arm, .int .i64 seq, .slice H 32 hc, .bool false]) := hide (by rw [← hW2]; exact HL1.out.far (p := ⟨w.heap.size + 1, 0, none⟩) (by show w.heap.size ≠ w.heap.size + 1; omega) (.int .i64 seq))
            have HR2 : Hid (Blk W2 (w.heap.size + 1) 28 #[Value.int .i64 seq, .int .i64 op, .string ⟨pa.toArray⟩, .string ⟨pb.toArray⟩, .slice RA rn rc, .bool al]) := hide (by rw [← hW2]; exact HR1.out.set_ 0 _)
            have HZ2 : Hid (Blk W2 (w.heap.size + 1 + 1) 26 #[Value.slice none 0 0, .slice none 0 0, .int .i64 0, .bool false, .int .i64 0, .int .i64 0, .slice none 0 0, .bool false]) := hide (by rw [← hW2]; exact HZ1.out.far (p := ⟨w.heap.size + 1, 0, none⟩) (by show w.heap.size + 1 + 1 ≠ w.heap.size + 1; omega) (.int .i64 seq))
            obtain ⟨⟨x0, x1, x2, x3, x4, x5, x6, x7⟩, xz0, xz1, xz2, xz3, xz4, xz5, xz6, xz7⟩ := blk8 HL1.out
            have xl := HL1.out.lt
            obtain ⟨⟨y0, y1, y2, y3, y4, y5⟩, yz0, yz1, yz2, yz3, yz4, yz5⟩ := blk6 HR1.out
            have yl := HR1.out.lt
            obtain ⟨⟨t0, t1, t2, t3, t4, t5⟩, tz0, tz1, tz2, tz3, tz4, tz5⟩ := blk6 HR2.out
            have tl := HR2.out.lt
            go_wp2_with fail
            refine (XV.out W2).mono ?_
            rintro e2 w3 ⟨rfl, g4⟩
            clear hW2 x0 x1 x2 x3 x4 x5 x6 x7 xz0 xz1 xz2 xz3 xz4 xz5 xz6 xz7 xl y0 y1 y2 y3 y4 y5 yz0 yz1 yz2 yz3 yz4 yz5 yl t0 t1 t2 t3 t4 t5 tz0 tz1 tz2 tz3 tz4 tz5 tl XV
            have HB3 := hide (below_more HB2.out (Nat.le_refl _) g4)
            have HL3 := hide (HL2.out.below g4 HL2.out.lt)
            have HR3 := hide (HR2.out.below g4 HR2.out.lt)
            have HZ3 := hide (HZ2.out.below g4 HZ2.out.lt)
            clear g4 HB2 HL2 HR2 HZ2 HB1 HL1 HR1 HZ1
            obtain ⟨⟨x0, x1, x2, x3, x4, x5, x6, x7⟩, xz0, xz1, xz2, xz3, xz4, xz5, xz6, xz7⟩ := blk8 HL3.out
            have xl := HL3.out.lt
            obtain ⟨⟨y0, y1, y2, y3, y4, y5⟩, yz0, yz1, yz2, yz3, yz4, yz5⟩ := blk6 HR3.out
            have yl := HR3.out.lt
            go_wp2_with fail
            refine (XL.out w3 HB3.out).mono ?_
            rintro e3 w4 ⟨X, x, cx, Y, cy, rfl, q1, q2, q3, q4⟩
            subst q1
            clear x0 x1 x2 x3 x4 x5 x6 x7 xz0 xz1 xz2 xz3 xz4 xz5 xz6 xz7 xl y0 y1 y2 y3 y4 y5 yz0 yz1 yz2 yz3 yz4 yz5 yl XL
            have HB4 := hide (below_more HB3.out (Nat.le_refl _) q4)
            have HL4 := hide (HL3.out.below q4 HL3.out.lt)
            have HZ4 := hide (HZ3.out.below q4 HZ3.out.lt)
            have HX4 := hide q2.rd
            have HY4 := hide q3.rd
            have HXL := hide q2.rd.len
            have XA := hide (Dk.rappend_any A c B k room dead arm s p XB X cx w4 (by rw [HSN.out]; exact rb hI.rs HB4.out) (by rw [HPM.out]; exact rb hI.rp HB4.out) (by rw [HXL.out]; exact q2.rd) (by rw [HSN.out]; omega) (by rw [HPM.out]; omega) (by rw [HXL.out]; omega) ha)
            unfold Dk.ApEnd Dk.dv at XA
            rw [HSN.out, HPM.out, HXL.out, HT1.out, HR1x.out, HP1x.out, HE1x.out] at XA
            clear q2 q3 q4 HB3 HL3 HR3 HZ3
            obtain ⟨⟨x0, x1, x2, x3, x4, x5, x6, x7⟩, xz0, xz1, xz2, xz3, xz4, xz5, xz6, xz7⟩ := blk8 HL4.out
            have xl := HL4.out.lt
            go_wp2_with fail
            refine XA.out.mono ?_
            rintro e4 w5 ⟨A5, n5, c5, B5, m5, k5, rfl, v1, v2, v3⟩
            clear x0 x1 x2 x3 x4 x5 x6 x7 xz0 xz1 xz2 xz3 xz4 xz5 xz6 xz7 xl XA
            have HB5 := hide (below_more HB4.out (Nat.le_refl _) v3)
            have HY5 := hide (rb HY4.out v3)
            have hal := bl_alloc w5 (.cells #[Value.slice A5 n c5, .slice B5 m5 k5, .int .i64 room, .bool T1, .int .i64 R1x] 24)
            have HB6 := hide (below_more HB5.out (Nat.le_refl _) hal)
            have HL6 := hide ((HL4.out.below v3 HL4.out.lt).below hal (HL4.out.below v3 HL4.out.lt).lt)
            have HZ6 := hide ((HZ4.out.below v3 HZ4.out.lt).below hal (HZ4.out.below v3 HZ4.out.lt).lt)
            have HZ5 := hide (HZ4.out.below v3 HZ4.out.lt)
            have HS5 := hide v1
            have HP5 := hide v2
            have HS6 := hide (rb v1 hal)
            have HP6 := hide (rb v2 hal)
            have HY6 := hide (rb HY5.out hal)
            have hz5 : w.heap.size + 1 + 1 < w5.heap.size := (HZ4.out.below v3 HZ4.out.lt).lt
            have hn5 : n = n5 := by rw [← HSN.out]; exact v1.len
            subst hn5
            have HP1L := hide v2.len
            have hm5 : m5 ≤ 4600 := by rw [← HP1L.out]; exact hpl6
            clear v1 v2 v3 HB4 HL4 HZ4 HX4 HY4 HY5
            have hK6 : Blk (w5.alloc (.cells #[Value.slice A5 n c5, .slice B5 m5 k5, .int .i64 room, .bool T1, .int .i64 R1x] 24)) w5.heap.size 24 #[Value.slice A5 n c5, .slice B5 m5 k5, .int .i64 room, .bool T1, .int .i64 R1x] := Blk.new w5 24 #[Value.slice A5 n c5, .slice B5 m5 k5, .int .i64 room, .bool T1, .int .i64 R1x]
            have HK6 := hide hK6
            have XS := hide (Dk.rsync_any A5 c5 B5 k5 room T1 R1x s P1x (w5.alloc (.cells #[Value.slice A5 n c5, .slice B5 m5 k5, .int .i64 room, .bool T1, .int .i64 R1x] 24)) (by rw [HSN.out]; exact HS6.out) (by rw [HP1L.out]; exact HP6.out) (by rw [HSN.out]; omega) (by rw [HP1L.out]; omega) hR1le)
            unfold Dk.SyEnd Dk.dv at XS
            rw [HSN.out, HP1L.out] at XS
            rw [HP1L.out] at HT2 HR2x HE2x
            rw [HE2x.out, HT2.out, HR2x.out, show Dk.syS s P1x E2x = s from if_neg HZ2N.out, show Dk.syP P1x E2x = P1x from if_neg HZ2N.out] at XS
            obtain ⟨⟨x0, x1, x2, x3, x4, x5, x6, x7⟩, xz0, xz1, xz2, xz3, xz4, xz5, xz6, xz7⟩ := blk8 HL6.out
            have xl := HL6.out.lt
            clear hK6
            go_wp2_with fail
            refine XS.out.mono ?_
            rintro e5 w7 ⟨A7, n7, c7, B7, m7, k7, rfl, v1, v2, v3⟩
            clear x0 x1 x2 x3 x4 x5 x6 x7 xz0 xz1 xz2 xz3 xz4 xz5 xz6 xz7 xl XS
            have HB7 := hide (below_more HB6.out (Nat.le_refl _) v3)
            have HL7 := hide (HL6.out.below v3 HL6.out.lt)
            have HZ7 := hide (HZ6.out.below v3 HZ6.out.lt)
            have hk7 := HK6.out.below v3 HK6.out.lt
            have HS7 := hide v1
            have HP7 := hide v2
            have HY7 := hide (rb HY6.out v3)
            obtain ⟨W8, hW8⟩ : ∃ W, (((((w7.setCell ⟨w5.heap.size, 0, none⟩ (.slice A7 n7 c7)).setCell ⟨w5.heap.size, 1, none⟩ (.slice B7 m7 k7)).setCell ⟨w5.heap.size, 2, none⟩ (.int .i64 room)).setCell ⟨w5.heap.size, 3, none⟩ (.bool T2)).setCell ⟨w5.heap.size, 4, none⟩ (.int .i64 R2x)) = W := ⟨_, rfl⟩
            have HB8 : Hid (Below w.heap.size w W8) := hide (by rw [← hW8]; exact below5 HB7.out w5.heap.size (by omega) (.slice A7 n7 c7) (.slice B7 m7 k7) (.int .i64 room) (.bool T2) (.int .i64 R2x))
            have HK8 : Hid (Blk W8 w5.heap.size 24 #[Value.slice A7 n7 c7, .slice B7 m7 k7, .int .i64 room, .bool T2, .int .i64 R2x]) := hide (by rw [← hW8]; exact set5 hk7 (.slice A7 n7 c7) (.slice B7 m7 k7) (.int .i64 room) (.bool T2) (.int .i64 R2x))
            have HL8 : Hid (Blk W8 w.heap.size 26 #[Value.slice A n c, .slice B m k, .int .i64 room, .bool dead, .int .i64 arm, .int .i64 seq, .slice H 32 hc, .bool false]) := hide (by rw [← hW8]; exact far5 HL7.out (by omega) (.slice A7 n7 c7) (.slice B7 m7 k7) (.int .i64 room) (.bool T2) (.int .i64 R2x))
            have HZ8 : Hid (Blk W8 (w.heap.size + 1 + 1) 26 #[Value.slice none 0 0, .slice none 0 0, .int .i64 0, .bool false, .int .i64 0, .int .i64 0, .slice none 0 0, .bool false]) := hide (by rw [← hW8]; exact far5 HZ7.out (by omega) (.slice A7 n7 c7) (.slice B7 m7 k7) (.int .i64 room) (.bool T2) (.int .i64 R2x))
            have HS8 : Hid (Rd W8 A7 n7 s) := hide (by rw [← hW8]; exact rd5 HS7.out hk7 (.slice A7 n7 c7) (.slice B7 m7 k7) (.int .i64 room) (.bool T2) (.int .i64 R2x))
            have HP8 : Hid (Rd W8 B7 m7 P1x) := hide (by rw [← hW8]; exact rd5 HP7.out hk7 (.slice A7 n7 c7) (.slice B7 m7 k7) (.int .i64 room) (.bool T2) (.int .i64 R2x))
            have HY8 : Hid (Rd W8 Y 32 YB) := hide (by rw [← hW8]; exact rd5 HY7.out hk7 (.slice A7 n7 c7) (.slice B7 m7 k7) (.int .i64 room) (.bool T2) (.int .i64 R2x))
            obtain ⟨⟨t0, t1, t2, t3, t4⟩, tz0, tz1, tz2, tz3, tz4⟩ := hk7.five
            have tl := hk7.lt
            obtain ⟨⟨i0, i1, i2, i3, i4⟩, iz0, iz1, iz2, iz3, iz4⟩ := HK8.out.five
            have il := HK8.out.lt
            clear v1 v2 v3 HB6 HL6 HZ6 HS6 HP6 HY6 HK6 HB7 HL7 HZ7 HS7 HP7 HY7 hk7
            obtain ⟨⟨x0, x1, x2, x3, x4, x5, x6, x7⟩, xz0, xz1, xz2, xz3, xz4, xz5, xz6, xz7⟩ := blk8 HL8.out
            have xl := HL8.out.lt
            obtain ⟨⟨u0, u1, u2, u3, u4, u5, u6, u7⟩, uz0, uz1, uz2, uz3, uz4, uz5, uz6, uz7⟩ := blk8 HZ8.out
            have ul := HZ8.out.lt
            obtain ⟨WE, hWE⟩ : ∃ W, ((((((((W8.setCell ⟨w.heap.size + 1 + 1, 0, none⟩ (.slice A7 n7 c7)).setCell ⟨w.heap.size + 1 + 1, 1, none⟩ (.slice B7 m7 k7)).setCell ⟨w.heap.size + 1 + 1, 2, none⟩ (.int .i64 room)).setCell ⟨w.heap.size + 1 + 1, 3, none⟩ (.bool T2)).setCell ⟨w.heap.size + 1 + 1, 4, none⟩ (.int .i64 R2x)).setCell ⟨w.heap.size + 1 + 1, 5, none⟩ (.int .i64 seq)).setCell ⟨w.heap.size + 1 + 1, 6, none⟩ (.slice H 32 hc)).setCell ⟨w.heap.size + 1 + 1, 7, none⟩ (.bool true)) = W := ⟨_, rfl⟩
            have HZE : Hid (Blk WE (w.heap.size + 1 + 1) 26 #[.slice A7 n7 c7, .slice B7 m7 k7, .int .i64 room, .bool T2, .int .i64 R2x, .int .i64 seq, .slice H 32 hc, .bool true]) := hide (by rw [← hWE]; exact set_log HZ8.out (.slice A7 n7 c7) (.slice B7 m7 k7) (.int .i64 room) (.bool T2) (.int .i64 R2x) (.int .i64 seq) (.slice H 32 hc) (.bool true))
            have HF : Hid (LRetW (⟨s, P1x, room, T2, R2x, seq, hash, true⟩, 42) w (.returned (.tuple #[.agg #[.slice A7 n7 c7, .slice B7 m7 k7, .int .i64 room, .bool T2, .int .i64 R2x, .int .i64 seq, .slice H 32 hc, .bool true], .int .i64 42])) WE) := hide ⟨A7, n7, c7, B7, m7, k7, H, 32, hc, rfl, ⟨by rw [← hWE]; exact rd_log HS8.out HZ8.out (.slice A7 n7 c7) (.slice B7 m7 k7) (.int .i64 room) (.bool T2) (.int .i64 R2x) (.int .i64 seq) (.slice H 32 hc) (.bool true), by rw [← hWE]; exact rd_log HP8.out HZ8.out (.slice A7 n7 c7) (.slice B7 m7 k7) (.int .i64 room) (.bool T2) (.int .i64 R2x) (.int .i64 seq) (.slice H 32 hc) (.bool true), by rw [← hWE]; exact rd_log (rb hI.rh HB8.out) HZ8.out (.slice A7 n7 c7) (.slice B7 m7 k7) (.int .i64 room) (.bool T2) (.int .i64 R2x) (.int .i64 seq) (.slice H 32 hc) (.bool true)⟩, by rw [← hWE]; exact below8 HB8.out (w.heap.size + 1 + 1) (by omega) (.slice A7 n7 c7) (.slice B7 m7 k7) (.int .i64 room) (.bool T2) (.int .i64 R2x) (.int .i64 seq) (.slice H 32 hc) (.bool true)⟩
            go_wp2_with fail
            clear hWE x0 x1 x2 x3 x4 x5 x6 x7 xz0 xz1 xz2 xz3 xz4 xz5 xz6 xz7 xl u0 u1 u2 u3 u4 u5 u6 u7 uz0 uz1 uz2 uz3 uz4 uz5 uz6 uz7 ul
            obtain ⟨⟨y0, y1, y2, y3, y4, y5, y6, y7⟩, yz0, yz1, yz2, yz3, yz4, yz5, yz6, yz7⟩ := blk8 HZE.out
            have yl := HZE.out.lt
            refine bodyPost_ret (v := .tuple #[.agg #[.slice A7 n7 c7, .slice B7 m7 k7, .int .i64 room, .bool T2, .int .i64 R2x, .int .i64 seq, .slice H 32 hc, .bool true], .int .i64 42]) (by simp only [results, Tryz.results9]; go_simp) rfl HF.out
        · rw [if_pos (by simpa using hz)]
          have hzb : (E1x != 0) = true := by rw [bne_iff_ne]; exact hz
          clear hz
          have hb3 : Below w.heap.size w (((w.alloc (.cells #[Value.slice A n c, .slice B m k, .int .i64 room, .bool dead, .int .i64 arm, .int .i64 seq, .slice H 32 hc, .bool false] 26)).alloc (.cells #[Value.int .i64 sq, .int .i64 op, .string ⟨pa.toArray⟩, .string ⟨pb.toArray⟩, .slice RA rn rc, .bool al] 28)).alloc (.cells #[Value.slice none 0 0, .slice none 0 0, .int .i64 0, .bool false, .int .i64 0, .int .i64 0, .slice none 0 0, .bool false] 26)) := ((bl_alloc w _).alloc (by simp) _).alloc (by simp; omega) _
          obtain ⟨W0, hW0⟩ : ∃ W, (((w.alloc (.cells #[Value.slice A n c, .slice B m k, .int .i64 room, .bool dead, .int .i64 arm, .int .i64 seq, .slice H 32 hc, .bool false] 26)).alloc (.cells #[Value.int .i64 sq, .int .i64 op, .string ⟨pa.toArray⟩, .string ⟨pb.toArray⟩, .slice RA rn rc, .bool al] 28)).alloc (.cells #[Value.slice none 0 0, .slice none 0 0, .int .i64 0, .bool false, .int .i64 0, .int .i64 0, .slice none 0 0, .bool false] 26)) = W := ⟨_, rfl⟩
          have HB0 : Hid (Below w.heap.size w W0) := hide (by rw [← hW0]; exact hb3)
          have HL0 : Hid (Blk W0 w.heap.size 26 #[Value.slice A n c, .slice B m k, .int .i64 room, .bool dead, .int .i64 arm, .int .i64 seq, .slice H 32 hc, .bool false]) := hide (by rw [← hW0]; exact ((Blk.new w 26 #[Value.slice A n c, .slice B m k, .int .i64 room, .bool dead, .int .i64 arm, .int .i64 seq, .slice H 32 hc, .bool false]).alloc _).alloc _)
          have HR0 : Hid (Blk W0 (w.heap.size + 1) 28 #[Value.int .i64 sq, .int .i64 op, .string ⟨pa.toArray⟩, .string ⟨pb.toArray⟩, .slice RA rn rc, .bool al]) := hide (by
            rw [← hW0]
            have h := (Blk.new (w.alloc (.cells #[Value.slice A n c, .slice B m k, .int .i64 room, .bool dead, .int .i64 arm, .int .i64 seq, .slice H 32 hc, .bool false] 26)) 28 #[Value.int .i64 sq, .int .i64 op, .string ⟨pa.toArray⟩, .string ⟨pb.toArray⟩, .slice RA rn rc, .bool al]).alloc (.cells #[Value.slice none 0 0, .slice none 0 0, .int .i64 0, .bool false, .int .i64 0, .int .i64 0, .slice none 0 0, .bool false] 26)
            simpa only [World.size_alloc] using h)
          have HZ0 : Hid (Blk W0 (w.heap.size + 1 + 1) 26 #[Value.slice none 0 0, .slice none 0 0, .int .i64 0, .bool false, .int .i64 0, .int .i64 0, .slice none 0 0, .bool false]) := hide (by
            rw [← hW0]
            have h := Blk.new ((w.alloc (.cells #[Value.slice A n c, .slice B m k, .int .i64 room, .bool dead, .int .i64 arm, .int .i64 seq, .slice H 32 hc, .bool false] 26)).alloc (.cells #[Value.int .i64 sq, .int .i64 op, .string ⟨pa.toArray⟩, .string ⟨pb.toArray⟩, .slice RA rn rc, .bool al] 28)) 26 #[Value.slice none 0 0, .slice none 0 0, .int .i64 0, .bool false, .int .i64 0, .int .i64 0, .slice none 0 0, .bool false]
            simpa only [World.size_alloc] using h)
          clear hb3
          obtain ⟨⟨x0, x1, x2, x3, x4, x5, x6, x7⟩, xz0, xz1, xz2, xz3, xz4, xz5, xz6, xz7⟩ := blk8 HL0.out
          have xl := HL0.out.lt
          go_enter Tryz.func9, Tryz.ntmps9
          go_wp2_with fail
          refine (XC.out W0 HB0.out).mono ?_
          rintro e1 w1 ⟨rfl, g4⟩
          clear hW0 x0 x1 x2 x3 x4 x5 x6 x7 xz0 xz1 xz2 xz3 xz4 xz5 xz6 xz7 xl XC
          have HB1 := hide (below_more HB0.out (Nat.le_refl _) g4)
          have HL1 := hide (HL0.out.below g4 HL0.out.lt)
          have HR1 := hide (HR0.out.below g4 HR0.out.lt)
          have HZ1 := hide (HZ0.out.below g4 HZ0.out.lt)
          have hs1 := HB1.out.size
          clear g4 HB0 HL0 HR0 HZ0
          obtain ⟨W2, hW2⟩ : ∃ W, w1.setCell ⟨w.heap.size + 1, 0, none⟩ (.int .i64 seq) = W := ⟨_, rfl⟩
          have HB2 : Hid (Below w.heap.size w W2) := hide (by rw [← hW2]; exact HB1.out.setCell (Nat.le_succ _) _)
          have HL2 : Hid (Blk W2 w.heap.size 26 #[Value.slice A n c, .slice B m k, .int .i64 room, .bool dead, .int .i64 arm, .int .i64 seq, .slice H 32 hc, .bool false]) := hide (by rw [← hW2]; exact HL1.out.far (p := ⟨w.heap.size + 1, 0, none⟩) (by show w.heap.size ≠ w.heap.size + 1; omega) (.int .i64 seq))
          have HR2 : Hid (Blk W2 (w.heap.size + 1) 28 #[Value.int .i64 seq, .int .i64 op, .string ⟨pa.toArray⟩, .string ⟨pb.toArray⟩, .slice RA rn rc, .bool al]) := hide (by rw [← hW2]; exact HR1.out.set_ 0 _)
          have HZ2 : Hid (Blk W2 (w.heap.size + 1 + 1) 26 #[Value.slice none 0 0, .slice none 0 0, .int .i64 0, .bool false, .int .i64 0, .int .i64 0, .slice none 0 0, .bool false]) := hide (by rw [← hW2]; exact HZ1.out.far (p := ⟨w.heap.size + 1, 0, none⟩) (by show w.heap.size + 1 + 1 ≠ w.heap.size + 1; omega) (.int .i64 seq))
          obtain ⟨⟨x0, x1, x2, x3, x4, x5, x6, x7⟩, xz0, xz1, xz2, xz3, xz4, xz5, xz6, xz7⟩ := blk8 HL1.out
          have xl := HL1.out.lt
          obtain ⟨⟨y0, y1, y2, y3, y4, y5⟩, yz0, yz1, yz2, yz3, yz4, yz5⟩ := blk6 HR1.out
          have yl := HR1.out.lt
          obtain ⟨⟨t0, t1, t2, t3, t4, t5⟩, tz0, tz1, tz2, tz3, tz4, tz5⟩ := blk6 HR2.out
          have tl := HR2.out.lt
          go_wp2_with fail
          refine (XV.out W2).mono ?_
          rintro e2 w3 ⟨rfl, g4⟩
          clear hW2 x0 x1 x2 x3 x4 x5 x6 x7 xz0 xz1 xz2 xz3 xz4 xz5 xz6 xz7 xl y0 y1 y2 y3 y4 y5 yz0 yz1 yz2 yz3 yz4 yz5 yl t0 t1 t2 t3 t4 t5 tz0 tz1 tz2 tz3 tz4 tz5 tl XV
          have HB3 := hide (below_more HB2.out (Nat.le_refl _) g4)
          have HL3 := hide (HL2.out.below g4 HL2.out.lt)
          have HR3 := hide (HR2.out.below g4 HR2.out.lt)
          have HZ3 := hide (HZ2.out.below g4 HZ2.out.lt)
          clear g4 HB2 HL2 HR2 HZ2 HB1 HL1 HR1 HZ1
          obtain ⟨⟨x0, x1, x2, x3, x4, x5, x6, x7⟩, xz0, xz1, xz2, xz3, xz4, xz5, xz6, xz7⟩ := blk8 HL3.out
          have xl := HL3.out.lt
          obtain ⟨⟨y0, y1, y2, y3, y4, y5⟩, yz0, yz1, yz2, yz3, yz4, yz5⟩ := blk6 HR3.out
          have yl := HR3.out.lt
          go_wp2_with fail
          refine (XL.out w3 HB3.out).mono ?_
          rintro e3 w4 ⟨X, x, cx, Y, cy, rfl, q1, q2, q3, q4⟩
          subst q1
          clear x0 x1 x2 x3 x4 x5 x6 x7 xz0 xz1 xz2 xz3 xz4 xz5 xz6 xz7 xl y0 y1 y2 y3 y4 y5 yz0 yz1 yz2 yz3 yz4 yz5 yl XL
          have HB4 := hide (below_more HB3.out (Nat.le_refl _) q4)
          have HL4 := hide (HL3.out.below q4 HL3.out.lt)
          have HZ4 := hide (HZ3.out.below q4 HZ3.out.lt)
          have HX4 := hide q2.rd
          have HY4 := hide q3.rd
          have HXL := hide q2.rd.len
          have XA := hide (Dk.rappend_any A c B k room dead arm s p XB X cx w4 (by rw [HSN.out]; exact rb hI.rs HB4.out) (by rw [HPM.out]; exact rb hI.rp HB4.out) (by rw [HXL.out]; exact q2.rd) (by rw [HSN.out]; omega) (by rw [HPM.out]; omega) (by rw [HXL.out]; omega) ha)
          unfold Dk.ApEnd Dk.dv at XA
          rw [HSN.out, HPM.out, HXL.out, HT1.out, HR1x.out, HP1x.out, HE1x.out] at XA
          clear q2 q3 q4 HB3 HL3 HR3 HZ3
          obtain ⟨⟨x0, x1, x2, x3, x4, x5, x6, x7⟩, xz0, xz1, xz2, xz3, xz4, xz5, xz6, xz7⟩ := blk8 HL4.out
          have xl := HL4.out.lt
          go_wp2_with fail
          refine XA.out.mono ?_
          rintro e4 w5 ⟨A5, n5, c5, B5, m5, k5, rfl, v1, v2, v3⟩
          clear x0 x1 x2 x3 x4 x5 x6 x7 xz0 xz1 xz2 xz3 xz4 xz5 xz6 xz7 xl XA
          have HB5 := hide (below_more HB4.out (Nat.le_refl _) v3)
          have HY5 := hide (rb HY4.out v3)
          have hal := bl_alloc w5 (.cells #[Value.slice A5 n c5, .slice B5 m5 k5, .int .i64 room, .bool T1, .int .i64 R1x] 24)
          have HB6 := hide (below_more HB5.out (Nat.le_refl _) hal)
          have HL6 := hide ((HL4.out.below v3 HL4.out.lt).below hal (HL4.out.below v3 HL4.out.lt).lt)
          have HZ6 := hide ((HZ4.out.below v3 HZ4.out.lt).below hal (HZ4.out.below v3 HZ4.out.lt).lt)
          have HZ5 := hide (HZ4.out.below v3 HZ4.out.lt)
          have HS5 := hide v1
          have HP5 := hide v2
          have HS6 := hide (rb v1 hal)
          have HP6 := hide (rb v2 hal)
          have HY6 := hide (rb HY5.out hal)
          have hz5 : w.heap.size + 1 + 1 < w5.heap.size := (HZ4.out.below v3 HZ4.out.lt).lt
          have hn5 : n = n5 := by rw [← HSN.out]; exact v1.len
          subst hn5
          have HP1L := hide v2.len
          have hm5 : m5 ≤ 4600 := by rw [← HP1L.out]; exact hpl6
          clear v1 v2 v3 HB4 HL4 HZ4 HX4 HY4 HY5
          obtain ⟨⟨x0, x1, x2, x3, x4, x5, x6, x7⟩, xz0, xz1, xz2, xz3, xz4, xz5, xz6, xz7⟩ := blk8 HL6.out
          have xl := HL6.out.lt
          obtain ⟨⟨u0, u1, u2, u3, u4, u5, u6, u7⟩, uz0, uz1, uz2, uz3, uz4, uz5, uz6, uz7⟩ := blk8 HZ5.out
          have ul := HZ5.out.lt
          have hxa := bl_alloc (((((((((w5.setCell ⟨w.heap.size + 1 + 1, 0, none⟩ (.slice A5 n c5)).setCell ⟨w.heap.size + 1 + 1, 1, none⟩ (.slice B5 m5 k5)).setCell ⟨w.heap.size + 1 + 1, 2, none⟩ (.int .i64 room)).setCell ⟨w.heap.size + 1 + 1, 3, none⟩ (.bool T1)).setCell ⟨w.heap.size + 1 + 1, 4, none⟩ (.int .i64 R1x)).setCell ⟨w.heap.size + 1 + 1, 5, none⟩ (.int .i64 seq)).setCell ⟨w.heap.size + 1 + 1, 6, none⟩ (.slice H 32 hc)).setCell ⟨w.heap.size + 1 + 1, 7, none⟩ (.bool true))) (.cells #[Value.slice A5 n c5, .slice B5 m5 k5, .int .i64 room, .bool T1, .int .i64 R1x] 24)
          obtain ⟨WE, hWE⟩ : ∃ W, (((((((((w5.setCell ⟨w.heap.size + 1 + 1, 0, none⟩ (.slice A5 n c5)).setCell ⟨w.heap.size + 1 + 1, 1, none⟩ (.slice B5 m5 k5)).setCell ⟨w.heap.size + 1 + 1, 2, none⟩ (.int .i64 room)).setCell ⟨w.heap.size + 1 + 1, 3, none⟩ (.bool T1)).setCell ⟨w.heap.size + 1 + 1, 4, none⟩ (.int .i64 R1x)).setCell ⟨w.heap.size + 1 + 1, 5, none⟩ (.int .i64 seq)).setCell ⟨w.heap.size + 1 + 1, 6, none⟩ (.slice H 32 hc)).setCell ⟨w.heap.size + 1 + 1, 7, none⟩ (.bool true))).alloc (.cells #[Value.slice A5 n c5, .slice B5 m5 k5, .int .i64 room, .bool T1, .int .i64 R1x] 24) = W := ⟨_, rfl⟩
          have hzs := set_log HZ5.out (.slice A5 n c5) (.slice B5 m5 k5) (.int .i64 room) (.bool T1) (.int .i64 R1x) (.int .i64 seq) (.slice H 32 hc) (.bool true)
          have HZE : Hid (Blk WE (w.heap.size + 1 + 1) 26 #[.slice A5 n c5, .slice B5 m5 k5, .int .i64 room, .bool T1, .int .i64 R1x, .int .i64 seq, .slice H 32 hc, .bool true]) := hide (by rw [← hWE]; exact hzs.below hxa hzs.lt)
          have HF : Hid (LRetW (⟨s, P1x, room, T1, R1x, seq, hash, true⟩, 42) w (.returned (.tuple #[.agg #[.slice A5 n c5, .slice B5 m5 k5, .int .i64 room, .bool T1, .int .i64 R1x, .int .i64 seq, .slice H 32 hc, .bool true], .int .i64 42])) WE) := hide ⟨A5, n, c5, B5, m5, k5, H, 32, hc, rfl, ⟨by rw [← hWE]; exact rb (rd_log HS5.out HZ5.out (.slice A5 n c5) (.slice B5 m5 k5) (.int .i64 room) (.bool T1) (.int .i64 R1x) (.int .i64 seq) (.slice H 32 hc) (.bool true)) hxa, by rw [← hWE]; exact rb (rd_log HP5.out HZ5.out (.slice A5 n c5) (.slice B5 m5 k5) (.int .i64 room) (.bool T1) (.int .i64 R1x) (.int .i64 seq) (.slice H 32 hc) (.bool true)) hxa, by rw [← hWE]; exact rb (rd_log (rb hI.rh HB5.out) HZ5.out (.slice A5 n c5) (.slice B5 m5 k5) (.int .i64 room) (.bool T1) (.int .i64 R1x) (.int .i64 seq) (.slice H 32 hc) (.bool true)) hxa⟩, by rw [← hWE]; exact below_more (below8 HB5.out (w.heap.size + 1 + 1) (by omega) (.slice A5 n c5) (.slice B5 m5 k5) (.int .i64 room) (.bool T1) (.int .i64 R1x) (.int .i64 seq) (.slice H 32 hc) (.bool true)) (Nat.le_refl _) hxa⟩
          clear hxa hzs
          go_wp2_with fail
          clear hWE x0 x1 x2 x3 x4 x5 x6 x7 xz0 xz1 xz2 xz3 xz4 xz5 xz6 xz7 xl u0 u1 u2 u3 u4 u5 u6 u7 uz0 uz1 uz2 uz3 uz4 uz5 uz6 uz7 ul
          obtain ⟨⟨y0, y1, y2, y3, y4, y5, y6, y7⟩, yz0, yz1, yz2, yz3, yz4, yz5, yz6, yz7⟩ := blk8 HZE.out
          have yl := HZE.out.lt
          refine bodyPost_ret (v := .tuple #[.agg #[.slice A5 n c5, .slice B5 m5 k5, .int .i64 room, .bool T1, .int .i64 R1x, .int .i64 seq, .slice H 32 hc, .bool true], .int .i64 42]) (by simp only [results, Tryz.results9]; go_simp) rfl HF.out
end Go.Proofs.YtbbobffedgcbhaaGreatDoor
