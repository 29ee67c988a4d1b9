/- The law AuditKeeps. -/
import Derived.Test.YtbbobffedgcbhaaDoorAuCu
import Derived.Test.YtbbobffedgcbhaaDoorAuFw
namespace Go.Proofs.YtbbobffedgcbhaaDoor
open Go.RowKit
set_option linter.unusedVariables false
theorem row_log8 {w : World} {b B : Nat} {A : Option Addr} {n c : Nat} {l : List RV} (h : OutR B w A n c l) {A0 B0 H0 : Option Addr} {n0 c0 m0 k0 h0 g0 : Nat} {r0 x0 q0 : Int} {d0 s0 : Bool} (hb : Blk w b 31 #[.slice A0 n0 c0, .slice B0 m0 k0, .int .i64 r0, .bool d0, .int .i64 x0, .int .i64 q0, .slice H0 h0 g0, .bool s0]) (v0 v1 v2 v3 v4 v5 v6 v7 : Value) :
    OutR B ((((((((w.setCell ⟨b, 0, none⟩ v0).setCell ⟨b, 1, none⟩ v1).setCell ⟨b, 2, none⟩ v2).setCell ⟨b, 3, none⟩ v3).setCell ⟨b, 4, none⟩ v4).setCell ⟨b, 5, none⟩ v5).setCell ⟨b, 6, none⟩ v6).setCell ⟨b, 7, none⟩ v7) A n c l := by
  refine ⟨?_, fun x hx => ⟨rd_log8 (h.2.1 x hx).1 hb _ _ _ _ _ _ _ _, (h.2.1 x hx).2⟩, h.2.2⟩
  have ne : 39 ≠ 31 := by decide
  have k1 := hb.set_ 0 v0
  have k2 := k1.set_ 1 v1
  have k3 := k2.set_ 2 v2
  have k4 := k3.set_ 3 v3
  have k5 := k4.set_ 4 v4
  have k6 := k5.set_ 5 v5
  have k7 := k6.set_ 6 v6
  have o0 := own_set_blk h.1 (p := ⟨b, 0, none⟩) hb ne v0
  have o1 := own_set_blk o0 (p := ⟨b, 1, none⟩) k1 ne v1
  have o2 := own_set_blk o1 (p := ⟨b, 2, none⟩) k2 ne v2
  have o3 := own_set_blk o2 (p := ⟨b, 3, none⟩) k3 ne v3
  have o4 := own_set_blk o3 (p := ⟨b, 4, none⟩) k4 ne v4
  have o5 := own_set_blk o4 (p := ⟨b, 5, none⟩) k5 ne v5
  have o6 := own_set_blk o5 (p := ⟨b, 6, none⟩) k6 ne v6
  have o7 := own_set_blk o6 (p := ⟨b, 7, none⟩) k7 ne v7
  exact o7
theorem Reads.grownAt {w w' : World} {A : Option Addr} {n : Nat} {xs : List Value} (h : Reads w w.heap.size 1 A n xs) {row : Option Nat} (hg : w.grownBy w' row) (hne : ∀ x, A = some x → 0 < n → some x.block ≠ row) : Reads w' w'.heap.size 1 A n xs := by
  refine ⟨h.1, fun h0 => ?_⟩
  obtain ⟨ad, e, hb, hc⟩ := h.2 h0
  refine ⟨ad, e, Nat.lt_of_lt_of_le hb hg.size, fun j u hj => ?_⟩
  have e2 : w'.cell? (ad.add j) = w.cell? (ad.add j) := World.cell?_of_block (by rw [block_of_add]; exact hg.block _ hb (hne ad e h0))
  rw [e2]; exact hc j u hj
theorem LogIn.grown {w w' : World} {L : Lg} {A : Option Addr} {n c : Nat} {B : Option Addr} {m k : Nat} {H : Option Addr} {hn hc : Nat} (h : LogIn w L A n c B m k H hn hc) {row : Option Nat} (hg : w.grownBy w' row) (hA : ∀ x, A = some x → 0 < n → some x.block ≠ row) (hB : ∀ x, B = some x → 0 < m → some x.block ≠ row) (hH : ∀ x, H = some x → 0 < hn → some x.block ≠ row) : LogIn w' L A n c B m k H hn hc :=
  ⟨Reads.grownAt h.rs hg hA, h.ls, Reads.grownAt h.rp hg hB, h.lp, Reads.grownAt h.rh hg hH, h.lh, h.sn, h.sm, h.sh⟩
theorem recover_k (s p hash : LB) (room arm q : Int) (dead stop : Bool) (keep : Int) (A : Option Addr) (n c : Nat) (B : Option Addr) (m k : Nat) (H : Option Addr) (hc : Nat) (w : World) (hI : LogIn w ⟨s, p, room, dead, arm, q, hash, stop⟩ A n c B m k H 32 hc) (hsum : s.length + p.length ≤ 9000) (hok : okL ⟨s, p, room, dead, arm, q, hash, stop⟩ = true) (hS : Std w) (hT : Tabs w) :
    Calls Tryd.prog 14 #[.agg #[Value.slice A n c, .slice B m k, .int .i64 room, .bool dead, .int .i64 arm, .int .i64 q, .slice H 32 hc, .bool stop], .int .i64 keep] w fun e w' => ∃ (A2 : Option Addr) (n2 c2 : Nat) (B2 : Option Addr) (m2 k2 : Nat) (H2 : Option Addr) (hc2 : Nat) (ar2 sq2 : Int) (O : Option Addr) (co : Nat) (l : List RV), e = .returned (.tuple #[.agg #[.slice A2 n2 c2, .slice B2 m2 k2, .int .i64 room, .bool false, .int .i64 ar2, .int .i64 sq2, .slice H2 32 hc2, .bool false], .slice O l.length co, .int .i64 0]) ∧ OutR w.heap.size w' O l.length co l ∧ l.map RV.r = (scanB (s ++ p.take (Dk.kpN p.length keep))).1 ∧ Below w.heap.size w w' := by
  refine (arecover_ok ⟨s, p, room, dead, arm, q, hash, stop⟩ keep A n c B m k H 32 hc w hI hsum hok hS hT).mono ?_
  rintro e w' ⟨A, n, c, B, m, k, H, hc, O, co, l, rfl, g1, g2, g3, g4⟩
  exact ⟨A, n, c, B, m, k, H, hc, -1, _, O, co, l, rfl, g2, g3, g4⟩
theorem open_k (room AR : Int) (h1 : 0 ≤ room) (h2 : room ≤ 8000) (h3 : -1 ≤ AR) (w : World) (hS : Std w) (hT : Tabs w) :
    Calls Tryd.prog 8 #[.agg #[.slice none 0 0, .slice none 0 0, .int .i64 room, .bool false, .int .i64 AR]] w fun e w' => ∃ A4 c4 B4 k4 H4 hc4 O co, e = .returned (.tuple #[.agg #[.slice A4 0 c4, .slice B4 0 k4, .int .i64 room, .bool false, .int .i64 AR, .int .i64 0, .slice H4 32 hc4, .bool false], .slice O 0 co, .int .i64 0]) ∧ LogIn w' ⟨[], [], room, false, AR, 0, zero32, false⟩ A4 0 c4 B4 0 k4 H4 32 hc4 ∧ Below w.heap.size w w' := by
  have ho : opP [] room AR = ⟨[], [], room, false, AR, 0, zero32, false⟩ := by unfold opP; rw [scan_nil]; rfl
  refine (aopen_ok [] [] room AR none 0 0 none 0 0 w Reads.none_ (Nat.le_refl _) Reads.none_ (Nat.le_refl _) rfl (by omega) (by unfold Dk.okD; rw [decide_eq_true_eq]; omega) hS hT).mono ?_
  rintro e w' ⟨A, n, c, B, m, k, H, hc, O, co, l, rfl, g1, g2, g3, g4⟩
  rw [scan_nil] at g3
  have hl : l = [] := by simpa using g3
  subst hl
  rw [ho] at g1 ⊢
  have hn : n = 0 := by have := g1.rs.len; simpa using this.symm
  have hm : m = 0 := by have := g1.rp.len; simpa using this.symm
  subst hn hm
  exact ⟨A, c, B, k, H, hc, O, co, rfl, g1, g4⟩
set_option maxRecDepth 100000 in
set_option maxHeartbeats 32000000 in
theorem keeps_law (A : Option Addr) (n c : Nat) (room arm keep : Int) (l : List RV) (s0 s1 s2 : Addr) (w : World) (h1 : RowR w A n l) (hnc : n ≤ c) (hnm : n ≤ maxLen) (harm : arm ≤ 9223372036854775807) (hS : Std w) (hT : Tabs w) (hE : Sent s0 s1 s2 w) :
    Calls Tryd.prog 3 #[.slice A n c, .int .i64 room, .int .i64 arm, .int .i64 keep] w fun e w' => e = .returned (.bool true) ∧ Below w.heap.size w w' := by
  obtain ⟨j0, hj0, jz0, jz1, jz2⟩ := info_rec
  have XF := hide (few_any A n c l w h1 hnm)
  have XHD := hide (fun W (hW : Below w.heap.size w W) => heads_any s0 s1 s2 W (hS.below hW) (hT.below hW) (hE.below hW))
  have H1 := hide h1
  have HS := hide hS
  have HT := hide hT
  have HE := hide hE
  have hl := h1.len
  have HL := hide hl
  have HLL : Hid ((l.map RV.r).length = n) := hide (by rw [List.length_map, hl])
  clear h1 hS hT hE hl
  cases hf : fewP (l.map RV.r) with
  | false =>
    rw [hf] at XF
    clear hf H1 HL
    go_enter Tryd.func3, Tryd.ntmps3
    go_wp2_with fail
    refine XF.out.mono ?_
    rintro e1 w1 ⟨rfl, hb1⟩
    have HB1 := hide hb1
    clear hb1 XF
    go_wp2_with fail
    refine (XHD.out _ HB1.out).mono ?_
    rintro e9 w9 ⟨rfl, hb9⟩
    have HB9 := hide (below_more HB1.out (Nat.le_refl _) hb9)
    clear hb9 XHD
    go_wp2_with fail
    go_ret
    exact ⟨rfl, HB9.out⟩
  | true =>
    rw [hf] at XF
    have hn20 : n ≤ 20 := by
      unfold fewP at hf
      rw [Bool.and_eq_true, decide_eq_true_eq, HLL.out] at hf
      exact hf.1
    have HALL : Hid ((l.map RV.r).all validP = true) := hide (by
      unfold fewP at hf
      rw [Bool.and_eq_true] at hf
      exact hf.2)
    clear hf
    by_cases kr : room < 0 ∨ 8000 < room
    · have hcase : room < 0 ∨ (¬ room < 0 ∧ 8000 < room) := by omega
      clear kr
      rcases hcase with kc1 | ⟨kc1, kc2⟩
      all_goals
        go_enter Tryd.func3, Tryd.ntmps3
        go_wp2_with fail
        refine XF.out.mono ?_
        rintro e1 w1 ⟨rfl, hb1⟩
        have HB1 := hide hb1
        clear hb1 XF
        go_wp2_with fail
        refine (XHD.out _ HB1.out).mono ?_
        rintro e9 w9 ⟨rfl, hb9⟩
        have HB9 := hide (below_more HB1.out (Nat.le_refl _) hb9)
        clear hb9 XHD
        go_wp2_with fail
        go_ret
        exact ⟨rfl, HB9.out⟩
    · have kr1 : ¬ room < 0 := by omega
      have kr2 : ¬ 8000 < room := by omega
      have kr0 : 0 ≤ room := by omega
      have kr8 : room ≤ 8000 := by omega
      clear kr
      obtain ⟨L, hL⟩ : ∃ L, l.map RV.r = L := ⟨_, rfl⟩
      have HLE := hide hL
      rw [hL] at HALL HLL
      clear hL
      have hnew : Dk.newR room = .tuple #[.agg #[.slice none 0 0, .slice none 0 0, .int .i64 room, .bool false, .int .i64 (-1)], .int .i64 0] := if_pos ⟨kr0, by omega⟩
      have har : Dk.arA 0 0 room (-1) arm = max (-1) arm := by
        unfold Dk.arA
        rw [if_neg (by unfold Dk.okD; simp; omega)]
      obtain ⟨AR, hAR⟩ : ∃ x, max (-1) arm = x := ⟨_, rfl⟩
      have hA1 : -1 ≤ AR := by omega
      have hA2 : AR ≤ 9223372036854775807 := by omega
      have HST := hide (keeps_start L kr0 kr8 hA1 hA2)
      have XN := hide (fun W => Dk.rnew_any room W)
      rw [hnew] at XN
      have XA := hide (fun W => Dk.rarm_any none 0 none 0 0 0 room false (-1) arm W (by omega) (by omega))
      rw [har, hAR] at XA
      unfold Dk.dv at XA
      have XO := hide (fun W h1 h2 => open_k room AR kr0 kr8 hA1 W h1 h2)
      clear hnew har hAR
      go_enter Tryd.func3, Tryd.ntmps3
      go_wp2_with fail
      refine XF.out.mono ?_
      rintro e1 w1 ⟨rfl, hb1⟩
      have HB1 := hide hb1
      clear hb1 XF
      go_wp2_with fail
      with_reducible refine (XN.out w1).mono ?_
      rintro e2 w2 ⟨rfl, hb2⟩
      have HB2 := hide (below_more HB1.out (Nat.le_refl _) hb2)
      clear hb2 XN
      go_wp2_with fail
      refine (XA.out _).mono ?_
      rintro e3 w3 ⟨rfl, hb3⟩
      have hb3' := below_more HB2.out (Nat.le_refl _) ((bl_alloc w2 (.cells #[.slice none 0 0, .slice none 0 0, .int .i64 room, .bool false, .int .i64 (-1)] 27)).trans (hb3.mono (by simp)))
      have HB3 := hide hb3'
      have XO3 := hide (XO.out w3 (HS.out.below hb3') (HT.out.below hb3'))
      clear hb3 hb3' XA XO
      go_wp2_with fail
      refine XO3.out.mono ?_
      rintro e4 w4 ⟨A4, c4, B4, k4, H4, hc4, O4, co4, rfl, y1, y2⟩
      have hal := bl_alloc w4 (.cells #[.slice A4 0 c4, .slice B4 0 k4, .int .i64 room, .bool false, .int .i64 AR, .int .i64 0, .slice H4 32 hc4, .bool false] 31)
      have HB4 := hide (below_more HB3.out (Nat.le_refl _) (below_more y2 (Nat.le_refl _) hal))
      have hw4 : w.heap.size ≤ w4.heap.size := (below_more HB3.out (Nat.le_refl _) y2).size
      have HL4 := hide (y1.below hal)
      have HK4 := hide (Blk.new w4 31 #[.slice A4 0 c4, .slice B4 0 k4, .int .i64 room, .bool false, .int .i64 AR, .int .i64 0, .slice H4 32 hc4, .bool false])
      clear y1 y2 hal XO3 HB1 HB2 HB3
      go_wp2_with fail
      go_loopw [14, 15, 16] (fun u14 u15 u16 wx => ∃ (i q : Nat) (failed : Int) (s p hash : LB) (dead stop : Bool) (ar : Int) (A' : Option Addr) (n' c' : Nat) (B' : Option Addr) (m' k' : Nat) (H' : Option Addr) (hc' : Nat) (O : Option Addr) (co : Nat) (lo : List RV), i ≤ n ∧ u14 = .slice O q co ∧ u15 = .int .i64 failed ∧ u16 = .int .i64 (i : Int) ∧ Hid (KInv room L i s p hash dead stop ar q (lo.map RV.r) failed) ∧ Hid (LogIn wx ⟨s, p, room, dead, ar, (q : Int), hash, stop⟩ A' n' c' B' m' k' H' 32 hc') ∧ Hid (Blk wx w4.heap.size 31 #[.slice A' n' c', .slice B' m' k', .int .i64 room, .bool dead, .int .i64 ar, .int .i64 (q : Int), .slice H' 32 hc', .bool stop]) ∧ Hid (OutR w.heap.size wx O q co lo) ∧ Hid (∀ x ∈ lo, ∀ ad, x.A = some ad → 0 < x.n → ad.block < w.heap.size) ∧ Hid (Below w.heap.size w wx)) (fun _ _ i _ => n - (intOf i).toNat)
      case atStart =>
        exact ⟨0, 0, -1, [], [], zero32, false, false, AR, A4, 0, c4, B4, 0, k4, H4, hc4, none, 0, [], Nat.zero_le _, rfl, rfl, rfl, HST, HL4, HK4, hide (OutR.nil _ _), hide (fun x h => nomatch h), HB4⟩
      case round =>
        clear HL4 HK4 HB4 HST
        obtain ⟨i, q, failed, s, p, hash, dead, stop, ar, A', n', c', B', m', k', H', hc', O, co, lo, hi, rfl, rfl, rfl, KI, LG, KB, OO, DB, HB⟩ := hrel
        have hqi : q ≤ i := KI.out.hqi
        have hfl := KI.out.hfl
        by_cases hlt : i < n
        · have hlt1 : (i : Int) < (n : Int) := by omega
          have hx : l[i]? = some (l[i]'(by rw [HL.out]; exact hlt)) := List.getElem?_eq_getElem _
          obtain ⟨x, hxe⟩ : ∃ x, l[i]'(by rw [HL.out]; exact hlt) = x := ⟨_, rfl⟩
          rw [hxe] at hx
          clear hxe
          have kx := hide (H1.out.2 x (List.mem_of_getElem? hx))
          have HXX : Hid (L[i]? = some x.r) := hide (by rw [← HLE.out, List.getElem?_map, hx]; rfl)
          obtain ⟨g, o, rfl, hg, a0, a1, a2, a3, a4, a5⟩ := rec_cells (H1.out.below HB.out).1 hx
          have hvx := all_at HALL.out HXX.out
          obtain ⟨rx, A1, n1, c1⟩ := x
          obtain ⟨q1, o1, p1, g1, d1, b1⟩ := rx
          dsimp only at *
          have i1 := fun W => rec_at g o n c i (i : Int) rfl hlt W
          have v1 : IntKind.i64.wrap ((i : Int) + 1) = (i : Int) + 1 := by simp [IntKind.wrap, IntKind.bits, IntKind.signed]; omega
          have XW := hide (fun W (hW : Below wr.heap.size wr W) => keeps_write KI.out kr0 kr8 (by omega) ⟨q1, o1, p1, g1, d1, b1⟩ HXX.out hvx s0 s1 s2 A' n' c' B' m' k' H' hc' A1 n1 c1 W (LG.out.below hW) (rb kx.out.1 (below_more HB.out (Nat.le_refl _) hW)) (HS.out.below (below_more HB.out (Nat.le_refl _) hW)) (HT.out.below (below_more HB.out (Nat.le_refl _) hW)) (HE.out.below (below_more HB.out (Nat.le_refl _) hW)))
          unfold Rec.v at XW
          dsimp only at XW
          have KBL := KB.out.lt
          have allS : Hid (∀ V, Below wr.heap.size wr V → (V.cell? ⟨w4.heap.size, 0, none⟩ = some (.slice A' n' c') ∧ V.cell? ⟨w4.heap.size, 1, none⟩ = some (.slice B' m' k') ∧ V.cell? ⟨w4.heap.size, 2, none⟩ = some (.int .i64 room) ∧ V.cell? ⟨w4.heap.size, 3, none⟩ = some (.bool dead) ∧ V.cell? ⟨w4.heap.size, 4, none⟩ = some (.int .i64 ar) ∧ V.cell? ⟨w4.heap.size, 5, none⟩ = some (.int .i64 (q : Int)) ∧ V.cell? ⟨w4.heap.size, 6, none⟩ = some (.slice H' 32 hc') ∧ V.cell? ⟨w4.heap.size, 7, none⟩ = some (.bool stop)) ∧ (V.cell? ⟨g, o + i * 6, none⟩ = some (.int .i64 q1) ∧ V.cell? ⟨g, o + i * 6 + 1, none⟩ = some (.int .i64 o1) ∧ V.cell? ⟨g, o + i * 6 + 2, none⟩ = some (.string ⟨p1.toArray⟩) ∧ V.cell? ⟨g, o + i * 6 + 3, none⟩ = some (.string ⟨g1.toArray⟩) ∧ V.cell? ⟨g, o + i * 6 + 4, none⟩ = some (.slice A1 n1 c1) ∧ V.cell? ⟨g, o + i * 6 + 5, none⟩ = some (.bool b1))) := hide (fun V hV => ⟨(KB.out.below hV KB.out.lt).eight, (hV.cell (p := ⟨g, o + i * 6, none⟩) hg).trans a0, (hV.cell (p := ⟨g, o + i * 6 + 1, none⟩) hg).trans a1, (hV.cell (p := ⟨g, o + i * 6 + 2, none⟩) hg).trans a2, (hV.cell (p := ⟨g, o + i * 6 + 3, none⟩) hg).trans a3, (hV.cell (p := ⟨g, o + i * 6 + 4, none⟩) hg).trans a4, (hV.cell (p := ⟨g, o + i * 6 + 5, none⟩) hg).trans a5⟩)
          have kW := hide (Below.refl wr.heap.size wr)
          clear a0 a1 a2 a3 a4 a5 hx hvx
          obtain ⟨⟨y0, y1, y2, y3, y4, y5, y6, y7⟩, ⟨a0, a1, a2, a3, a4, a5⟩⟩ := allS.out _ kW.out
          go_upto_region 12 with (fail)
          go_cut [17, 18] (fun u17 u18 wx => ∃ (gx : Nat) (s2 p2 h2 : LB) (dead2 stop2 : Bool) (ar2 code : Int) (q2 : Nat) (A2 : Option Addr) (n2 c2 : Nat) (B2 : Option Addr) (m2 k2 : Nat) (H2 : Option Addr) (hc2 : Nat), u17 = .pointer (some ⟨gx, 0, none⟩) ∧ u18 = .int .i64 code ∧ gx ≠ w4.heap.size ∧ wr.heap.size ≤ gx ∧ Hid (Blk wx gx 31 #[.slice A2 n2 c2, .slice B2 m2 k2, .int .i64 room, .bool dead2, .int .i64 ar2, .int .i64 (q2 : Int), .slice H2 32 hc2, .bool stop2]) ∧ Hid (LogIn wx ⟨s2, p2, room, dead2, ar2, (q2 : Int), h2, stop2⟩ A2 n2 c2 B2 m2 k2 H2 32 hc2) ∧ Hid (code = 0 → Fr wr.heap.size A2 ∧ Fr wr.heap.size B2 ∧ Fr wr.heap.size H2) ∧ Hid (KStep room L i q (lo.map RV.r) failed ⟨q1, o1, p1, g1, d1, b1⟩ code s2 p2 h2 dead2 stop2 ar2 q2) ∧ Hid (Below wr.heap.size wr wx))
          case first =>
            go_region_held3 (fun V => (V.cell? ⟨w4.heap.size, 0, none⟩ = some (.slice A' n' c') ∧ V.cell? ⟨w4.heap.size, 1, none⟩ = some (.slice B' m' k') ∧ V.cell? ⟨w4.heap.size, 2, none⟩ = some (.int .i64 room) ∧ V.cell? ⟨w4.heap.size, 3, none⟩ = some (.bool dead) ∧ V.cell? ⟨w4.heap.size, 4, none⟩ = some (.int .i64 ar) ∧ V.cell? ⟨w4.heap.size, 5, none⟩ = some (.int .i64 (q : Int)) ∧ V.cell? ⟨w4.heap.size, 6, none⟩ = some (.slice H' 32 hc') ∧ V.cell? ⟨w4.heap.size, 7, none⟩ = some (.bool stop)) ∧ (V.cell? ⟨g, o + i * 6, none⟩ = some (.int .i64 q1) ∧ V.cell? ⟨g, o + i * 6 + 1, none⟩ = some (.int .i64 o1) ∧ V.cell? ⟨g, o + i * 6 + 2, none⟩ = some (.string ⟨p1.toArray⟩) ∧ V.cell? ⟨g, o + i * 6 + 3, none⟩ = some (.string ⟨g1.toArray⟩) ∧ V.cell? ⟨g, o + i * 6 + 4, none⟩ = some (.slice A1 n1 c1) ∧ V.cell? ⟨g, o + i * 6 + 5, none⟩ = some (.bool b1)))
            (first | with_reducible exact allS.out _ kW.out | with_reducible exact allS.out _ (Below.drew kW.out) | with_reducible exact allS.out _ (kW.out.alloc kW.out.size _) | with_reducible exact allS.out _ (Below.drew (kW.out.alloc kW.out.size _)) | with_reducible exact allS.out _ ((Below.drew kW.out).alloc (Below.drew kW.out).size _) | with_reducible exact allS.out _ (below8 kW.out wr.heap.size (Nat.le_refl _) _ _ _ _ _ _ _ _) | with_reducible exact allS.out _ (below8 (Below.drew kW.out) wr.heap.size (Nat.le_refl _) _ _ _ _ _ _ _ _) | with_reducible exact allS.out _ (Below.drew (below8 kW.out wr.heap.size (Nat.le_refl _) _ _ _ _ _ _ _ _)))
            (first
      | (go_at_call 10; with_reducible refine (XW.out _ (Below.drew kW.out)).mono ?_
         rintro e wx ⟨s2, p2, h2, dead2, stop2, ar2, code, q2, A2, n2, c2, B2, m2, k2, H2, hc2, rfl, y1, y2, y4, y3⟩
         have HL2 := hide y1
         have HK2 := hide y3
         have HF2 : Hid (code = 0 → Fr wr.heap.size A2 ∧ Fr wr.heap.size B2 ∧ Fr wr.heap.size H2) := hide (fun h => ⟨fun ad e => Nat.le_trans (Below.drew kW.out).size ((y4 h).1 ad e), fun ad e => Nat.le_trans (Below.drew kW.out).size ((y4 h).2.1 ad e), fun ad e => Nat.le_trans (Below.drew kW.out).size ((y4 h).2.2 ad e)⟩)
         have kX := hide (below_more (Below.drew kW.out) (Nat.le_refl _) y2)
         clear kW y1 y2 y3 y4
         have kW := hide kX.out
         clear kX)
      | (go_at_call 10; with_reducible refine (XW.out _ kW.out).mono ?_
         rintro e wx ⟨s2, p2, h2, dead2, stop2, ar2, code, q2, A2, n2, c2, B2, m2, k2, H2, hc2, rfl, y1, y2, y4, y3⟩
         have HL2 := hide y1
         have HK2 := hide y3
         have HF2 : Hid (code = 0 → Fr wr.heap.size A2 ∧ Fr wr.heap.size B2 ∧ Fr wr.heap.size H2) := hide (fun h => ⟨fun ad e => Nat.le_trans kW.out.size ((y4 h).1 ad e), fun ad e => Nat.le_trans kW.out.size ((y4 h).2.1 ad e), fun ad e => Nat.le_trans kW.out.size ((y4 h).2.2 ad e)⟩)
         have kX := hide (below_more kW.out (Nat.le_refl _) y2)
         clear kW y1 y2 y3 y4
         have kW := hide kX.out
         clear kX)
      | (go_at_call 10; with_reducible refine (XW.out _ (kW.out.alloc kW.out.size _)).mono ?_
         rintro e wx ⟨s2, p2, h2, dead2, stop2, ar2, code, q2, A2, n2, c2, B2, m2, k2, H2, hc2, rfl, y1, y2, y4, y3⟩
         have HL2 := hide y1
         have HK2 := hide y3
         have HF2 : Hid (code = 0 → Fr wr.heap.size A2 ∧ Fr wr.heap.size B2 ∧ Fr wr.heap.size H2) := hide (fun h => ⟨fun ad e => Nat.le_trans (by simp) ((y4 h).1 ad e), fun ad e => Nat.le_trans (by simp) ((y4 h).2.1 ad e), fun ad e => Nat.le_trans (by simp) ((y4 h).2.2 ad e)⟩)
         have hZ : Blk wx wr.heap.size 31 #[Value.slice none 0 0, .slice none 0 0, .int .i64 0, .bool false, .int .i64 0, .int .i64 0, .slice none 0 0, .bool false] := Blk.below (h := (show Blk (wr.alloc (.cells #[Value.slice none 0 0, .slice none 0 0, .int .i64 0, .bool false, .int .i64 0, .int .i64 0, .slice none 0 0, .bool false] 31)) wr.heap.size 31 #[Value.slice none 0 0, .slice none 0 0, .int .i64 0, .bool false, .int .i64 0, .int .i64 0, .slice none 0 0, .bool false] from Blk.new wr 31 #[Value.slice none 0 0, .slice none 0 0, .int .i64 0, .bool false, .int .i64 0, .int .i64 0, .slice none 0 0, .bool false])) y2 (by exact (Blk.new wr 31 #[Value.slice none 0 0, .slice none 0 0, .int .i64 0, .bool false, .int .i64 0, .int .i64 0, .slice none 0 0, .bool false]).lt)
         have HZ := hide hZ
         obtain ⟨⟨z0, z1, z2, z3, z4, z5, z6, z7⟩, zz0, zz1, zz2, zz3, zz4, zz5, zz6, zz7⟩ := blk8 hZ
         have zl := hZ.lt
         clear hZ
         have kX := hide (below_more (kW.out.alloc kW.out.size _) (Nat.le_refl _) y2)
         clear kW y1 y2 y3 y4
         have kW := hide kX.out
         clear kX)
      | (go_at_call 10; with_reducible refine (XW.out _ (Below.drew (kW.out.alloc kW.out.size _))).mono ?_
         rintro e wx ⟨s2, p2, h2, dead2, stop2, ar2, code, q2, A2, n2, c2, B2, m2, k2, H2, hc2, rfl, y1, y2, y4, y3⟩
         have HL2 := hide y1
         have HK2 := hide y3
         have HF2 : Hid (code = 0 → Fr wr.heap.size A2 ∧ Fr wr.heap.size B2 ∧ Fr wr.heap.size H2) := hide (fun h => ⟨fun ad e => Nat.le_trans (by simp) ((y4 h).1 ad e), fun ad e => Nat.le_trans (by simp) ((y4 h).2.1 ad e), fun ad e => Nat.le_trans (by simp) ((y4 h).2.2 ad e)⟩)
         have hZ : Blk wx wr.heap.size 31 #[Value.slice none 0 0, .slice none 0 0, .int .i64 0, .bool false, .int .i64 0, .int .i64 0, .slice none 0 0, .bool false] := Blk.below (h := (show Blk (wr.alloc (.cells #[Value.slice none 0 0, .slice none 0 0, .int .i64 0, .bool false, .int .i64 0, .int .i64 0, .slice none 0 0, .bool false] 31)).drew wr.heap.size 31 #[Value.slice none 0 0, .slice none 0 0, .int .i64 0, .bool false, .int .i64 0, .int .i64 0, .slice none 0 0, .bool false] from Blk.new wr 31 #[Value.slice none 0 0, .slice none 0 0, .int .i64 0, .bool false, .int .i64 0, .int .i64 0, .slice none 0 0, .bool false])) y2 (by exact (Blk.new wr 31 #[Value.slice none 0 0, .slice none 0 0, .int .i64 0, .bool false, .int .i64 0, .int .i64 0, .slice none 0 0, .bool false]).lt)
         have HZ := hide hZ
         obtain ⟨⟨z0, z1, z2, z3, z4, z5, z6, z7⟩, zz0, zz1, zz2, zz3, zz4, zz5, zz6, zz7⟩ := blk8 hZ
         have zl := hZ.lt
         clear hZ
         have kX := hide (below_more (Below.drew (kW.out.alloc kW.out.size _)) (Nat.le_refl _) y2)
         clear kW y1 y2 y3 y4
         have kW := hide kX.out
         clear kX))
            · go_wp2_with fail
              go_meet
              have hx := kW.out.size
              exact ⟨wx.heap.size, s2, p2, h2, dead2, stop2, ar2, code, q2, A2, n2, c2, B2, m2, k2, H2, hc2, rfl, rfl, by omega, hx, hide (by exact Blk.new wx 31 #[.slice A2 n2 c2, .slice B2 m2 k2, .int .i64 room, .bool dead2, .int .i64 ar2, .int .i64 (q2 : Int), .slice H2 32 hc2, .bool stop2]), hide (by exact HL2.out.below (bl_alloc wx (.cells #[.slice A2 n2 c2, .slice B2 m2 k2, .int .i64 room, .bool dead2, .int .i64 ar2, .int .i64 (q2 : Int), .slice H2 32 hc2, .bool stop2] 31))), HF2, HK2, hide (by exact kW.out.alloc kW.out.size _)⟩
            · go_wp2_with fail
              go_meet
              exact ⟨wr.heap.size, s2, p2, h2, dead2, stop2, ar2, code, q2, A2, n2, c2, B2, m2, k2, H2, hc2, rfl, rfl, by omega, Nat.le_refl _, hide (by exact set_log8 HZ.out _ _ _ _ _ _ _ _), hide (by exact HL2.out.log8 HZ.out _ _ _ _ _ _ _ _), HF2, HK2, hide (by exact below8 kW.out wr.heap.size (Nat.le_refl _) _ _ _ _ _ _ _ _)⟩
          case rest =>
            obtain ⟨gx, s2, p2, h2, dead2, stop2, ar2, code, q2, A2, n2, c2, B2, m2, k2, H2, hc2, rfl, rfl, hgx, hgx2, KX, LG2, KF, KS, HBW⟩ := hcut
            have HBc := hide (below_more HB.out (Nat.le_refl _) HBW.out)
            have KBc := hide (KB.out.below HBW.out KB.out.lt)
            have OOc := hide (OO.out.below HBW.out)
            have HGO : Hid (∀ go, (Value.slice O q co).ownBlock = some go → w.heap.size ≤ go ∧ go < wr.heap.size) := hide (fun go h => OO.out.1.lt go h)
            have e0 := (HBW.out.cell (p := ⟨g, o + i * 6, none⟩) hg).trans a0
            have e1 := (HBW.out.cell (p := ⟨g, o + i * 6 + 1, none⟩) hg).trans a1
            have e2 := (HBW.out.cell (p := ⟨g, o + i * 6 + 2, none⟩) hg).trans a2
            have e3 := (HBW.out.cell (p := ⟨g, o + i * 6 + 3, none⟩) hg).trans a3
            have e4 := (HBW.out.cell (p := ⟨g, o + i * 6 + 4, none⟩) hg).trans a4
            have e5 := (HBW.out.cell (p := ⟨g, o + i * 6 + 5, none⟩) hg).trans a5
            have hwrc := HBW.out.size
            have hwwr := HB.out.size
            have hwc := HBc.out.size
            have kwr := hide (Below.refl wr.heap.size wr)
            have hxl : gx < wc.heap.size := KX.out.lt
            have hb5 := bl_alloc wc (.cells #[.int .i64 (q : Int), .int .i64 o1, .string ⟨p1.toArray⟩, .string ⟨g1.toArray⟩, .slice A1 n1 c1, .bool b1] 39)
            have HB5 := hide (below_more HBc.out (Nat.le_refl _) hb5)
            have KX5 := hide (KX.out.below hb5 KX.out.lt)
            have KB5 := hide (KBc.out.below hb5 KBc.out.lt)
            have LG5 := hide (LG2.out.below hb5)
            have OO5 := hide (OOc.out.below hb5)
            clear hb5 allS kW XW y0 y1 y2 y3 y4 y5 y6 y7 a0 a1 a2 a3 a4 a5 KB OO KI LG HB HBW KX KBc LG2 hfl
            rcases KS.out with ⟨rfl, hf, hst, hq2, KI2⟩ | ⟨rfl, hf, hst, hq2, KI2⟩ | ⟨rfl, hf, hst, hq2, KI2⟩
            · have hst2 := hst
              subst hst
              subst hf
              have HQ2 := hide hq2
              have HKI := hide KI2
              clear hq2 KI2 KS hst2
              have hb6 := bl_alloc (wc.alloc (.cells #[.int .i64 (q : Int), .int .i64 o1, .string ⟨p1.toArray⟩, .string ⟨g1.toArray⟩, .slice A1 n1 c1, .bool b1] 39)) (.cells #[.int .i64 (q : Int), .int .i64 o1, .string ⟨p1.toArray⟩, .string ⟨g1.toArray⟩, .slice A1 n1 c1, .bool b1] 39)
              have hone : Reads ((wc.alloc (.cells #[.int .i64 (q : Int), .int .i64 o1, .string ⟨p1.toArray⟩, .string ⟨g1.toArray⟩, .slice A1 n1 c1, .bool b1] 39)).alloc (.cells #[.int .i64 (q : Int), .int .i64 o1, .string ⟨p1.toArray⟩, .string ⟨g1.toArray⟩, .slice A1 n1 c1, .bool b1] 39)) (wc.heap.size + 1 + 1) 6 (some ⟨wc.heap.size + 1, 0, none⟩) 1 (rcs [(⟨⟨(q : Int), o1, p1, g1, d1, b1⟩, A1, n1, c1⟩ : RV)]) := by
                have h := one_rec (x := (⟨⟨(q : Int), o1, p1, g1, d1, b1⟩, A1, n1, c1⟩ : RV)) (W := (wc.alloc (.cells #[.int .i64 (q : Int), .int .i64 o1, .string ⟨p1.toArray⟩, .string ⟨g1.toArray⟩, .slice A1 n1 c1, .bool b1] 39)).alloc (.cells #[.int .i64 (q : Int), .int .i64 o1, .string ⟨p1.toArray⟩, .string ⟨g1.toArray⟩, .slice A1 n1 c1, .bool b1] 39)) (g := wc.heap.size + 1) (by
                  have h := Blk.new (wc.alloc (.cells #[.int .i64 (q : Int), .int .i64 o1, .string ⟨p1.toArray⟩, .string ⟨g1.toArray⟩, .slice A1 n1 c1, .bool b1] 39)) 39 #[.int .i64 (q : Int), .int .i64 o1, .string ⟨p1.toArray⟩, .string ⟨g1.toArray⟩, .slice A1 n1 c1, .bool b1]
                  rw [World.size_alloc] at h
                  exact h)
                simpa only [World.size_alloc] using h
              have HONE := hide hone
              have HB6 := hide (below_more HB5.out (Nat.le_refl _) hb6)
              have KX6 := hide (KX5.out.below hb6 KX5.out.lt)
              have KB6 := hide (KB5.out.below hb6 KB5.out.lt)
              have LG6 := hide (LG5.out.below hb6)
              have OO6 := hide (OO5.out.below hb6)
              have HX6 : Hid (RVok ((wc.alloc (.cells #[.int .i64 (q : Int), .int .i64 o1, .string ⟨p1.toArray⟩, .string ⟨g1.toArray⟩, .slice A1 n1 c1, .bool b1] 39)).alloc (.cells #[.int .i64 (q : Int), .int .i64 o1, .string ⟨p1.toArray⟩, .string ⟨g1.toArray⟩, .slice A1 n1 c1, .bool b1] 39)) ⟨⟨(q : Int), o1, p1, g1, d1, b1⟩, A1, n1, c1⟩) := hide ((show RVok w ⟨⟨(q : Int), o1, p1, g1, d1, b1⟩, A1, n1, c1⟩ from ⟨kx.out.1, kx.out.2⟩).below HB6.out)
              have hdb : ∀ ad, A1 = some ad → 0 < n1 → ad.block < w.heap.size := fun ad e h0 => kx.out.lt e h0
              clear hb6 hone HB5 KX5 KB5 LG5 OO5
              go_wp2_with (at_builtin; (refine wpList_append_any _ rfl (.tmp 80) (.tmp 82) 22 rfl w.heap.size 39 j0 _ 6 80 Tryd.underlying22 hj0 jz0 jz1 jz2 rfl (by omega) (.slice O q co) q (rcs lo) rfl OO6.out.1 (wc.heap.size + 1 + 1) (some ⟨wc.heap.size + 1, 0, none⟩) 1 1 _ rfl HONE.out (rcs_one _) ?b1 ?b2 ?b3 ?_))
              case b1 => unfold maxLen; omega
              case b2 => omega
              case b3 => first | exact HB6.out.size | omega | (simp; omega)
              intro v7 w7 ho7 hg7 hat7
              obtain ⟨O7, co7, rfl⟩ := own_slice ho7
              have hne7 : ∀ x : Nat, wr.heap.size ≤ x → some x ≠ (Value.slice O q co).ownBlock := fun x hx h => by have := (HGO.out x h.symm).2; omega
              have OO7 := hide (out_grow OO6.out HX6.out (fun ad e h0 h => by have h1 := hdb ad e h0; have h2 := (HGO.out _ h.symm).1; omega) ho7 hg7 (by simpa using hat7))
              have KX7 := hide (KX6.out.grown hg7 (hne7 gx hgx2))
              have KB7 := hide (KB6.out.grown hg7 (Ne.symm (own_blk_ne OO6.out.1 KB6.out (by decide))))
              have LG7 := hide (LG6.out.grown hg7 (fun x hx _ => hne7 _ ((KF.out (by trivial)).1 x hx)) (fun x hx _ => hne7 _ ((KF.out (by trivial)).2.1 x hx)) (fun x hx _ => hne7 _ ((KF.out (by trivial)).2.2 x hx)))
              have HB7 := hide (HB6.out.grown hg7 HB6.out.size (fun g h => (HGO.out g h).1))
              have hs7 := hg7.size
              have DB7 : Hid (∀ y ∈ (lo ++ [(⟨⟨(q : Int), o1, p1, g1, d1, b1⟩, A1, n1, c1⟩ : RV)]), ∀ ad, y.A = some ad → 0 < y.n → ad.block < w.heap.size) := hide (fun y hy ad e h0 => by
                rcases List.mem_append.1 hy with h | h
                · exact DB.out y h ad e h0
                · rw [List.mem_singleton.1 h] at e h0; exact hdb ad e h0)
              have hlw : w4.heap.size < w7.heap.size := KB7.out.lt
              clear ho7 hg7 hat7 KX6 KB6 LG6 OO6 HX6 HONE HB6 hdb e0 e1 e2 e3 e4 e5
              obtain ⟨⟨y0, y1, y2, y3, y4, y5, y6, y7⟩, yz0, yz1, yz2, yz3, yz4, yz5, yz6, yz7⟩ := blk8 KB7.out
              obtain ⟨x0, x1, x2, x3, x4, x5, x6, x7⟩ := KX7.out.eight
              have xl := KX7.out.lt
              obtain ⟨W8, hW8⟩ : ∃ W, ((((((((w7.setCell ⟨w4.heap.size, 0, none⟩ (.slice A2 n2 c2)).setCell ⟨w4.heap.size, 1, none⟩ (.slice B2 m2 k2)).setCell ⟨w4.heap.size, 2, none⟩ (.int .i64 room)).setCell ⟨w4.heap.size, 3, none⟩ (.bool dead2)).setCell ⟨w4.heap.size, 4, none⟩ (.int .i64 ar2)).setCell ⟨w4.heap.size, 5, none⟩ (.int .i64 (q2 : Int))).setCell ⟨w4.heap.size, 6, none⟩ (.slice H2 32 hc2)).setCell ⟨w4.heap.size, 7, none⟩ (.bool false)) = W := ⟨_, rfl⟩
              have KB8 : Hid (Blk W8 w4.heap.size 31 #[.slice A2 n2 c2, .slice B2 m2 k2, .int .i64 room, .bool dead2, .int .i64 ar2, .int .i64 (q2 : Int), .slice H2 32 hc2, .bool false]) := hide (by rw [← hW8]; exact set_log8 KB7.out _ _ _ _ _ _ _ _)
              have LG8 : Hid (LogIn W8 ⟨s2, p2, room, dead2, ar2, (q2 : Int), h2, false⟩ A2 n2 c2 B2 m2 k2 H2 32 hc2) := hide (by rw [← hW8]; exact LG7.out.log8 KB7.out _ _ _ _ _ _ _ _)
              have OO8 : Hid (OutR w.heap.size W8 O7 (q + 1) co7 (lo ++ [(⟨⟨(q : Int), o1, p1, g1, d1, b1⟩, A1, n1, c1⟩ : RV)])) := hide (by rw [← hW8]; exact row_log8 OO7.out KB7.out _ _ _ _ _ _ _ _)
              have HB8 : Hid (Below w.heap.size w W8) := hide (by rw [← hW8]; exact below8 HB7.out w4.heap.size hw4 _ _ _ _ _ _ _ _)
              have XC := hide (acheck_any ⟨s2, p2, room, dead2, ar2, (q2 : Int), h2, false⟩ A2 n2 c2 B2 m2 k2 H2 32 hc2 W8 LG8.out (HS.out.below HB8.out) (HT.out.below HB8.out))
              rw [HKI.out.hok] at XC
              obtain ⟨u0, u1, u2, u3, u4, u5, u6, u7⟩ := KB8.out.eight
              have ul := KB8.out.lt
              clear KB7 LG7 OO7 HB7
              go_wp2_with fail
              refine XC.out.mono ?_
              rintro e9 w9 ⟨rfl, hb9⟩
              have HB9 := hide (below_more HB8.out (Nat.le_refl _) hb9)
              have LG9 := hide (LG8.out.below hb9)
              have OO9 := hide (OO8.out.below hb9)
              have KB9 := hide (KB8.out.below hb9 KB8.out.lt)
              have XR := hide (recs_b _ ⟨s2, p2, room, dead2, ar2, (q2 : Int), h2, false⟩ (q + 1) HKI.out.hsc (by have h := HKI.out.hq; have h2 := HQ2.out; omega) HKI.out.hok A2 n2 c2 B2 m2 k2 H2 32 hc2 w9 LG9.out (HS.out.below HB9.out) (HT.out.below HB9.out))
              clear hW8 hb9 XC KB8 LG8 OO8 HB8 y0 y1 y2 y3 y4 y5 y6 y7 yz0 yz1 yz2 yz3 yz4 yz5 yz6 yz7 x0 x1 x2 x3 x4 x5 x6 x7 xl u0 u1 u2 u3 u4 u5 u6 u7 ul
              obtain ⟨u0, u1, u2, u3, u4, u5, u6, u7⟩ := KB9.out.eight
              have ul := KB9.out.lt
              go_wp2_with fail
              refine XR.out.mono ?_
              rintro e10 w10 ⟨O10, co10, l10, rfl, t1, t2, t3⟩
              have HB10 := hide (below_more HB9.out (Nat.le_refl _) t3)
              have LG10 := hide (LG9.out.below t3)
              have OO10 := hide (OO9.out.below t3)
              have KB10 := hide (KB9.out.below t3 KB9.out.lt)
              have XE := hide (rows_same O10 O7 (q + 1) co10 co7 l10 (lo ++ [(⟨⟨(q : Int), o1, p1, g1, d1, b1⟩, A1, n1, c1⟩ : RV)]) w10 t1.row OO10.out.row (by first | (rw [t2]; done) | (rw [t2]; rfl) | (rw [t2, List.map_append]; rfl)) (by omega))
              clear t1 t2 t3 XR KB9 LG9 OO9 HB9 u0 u1 u2 u3 u4 u5 u6 u7 ul
              go_wp2_with fail
              refine XE.out.mono ?_
              rintro e11 w11 ⟨rfl, hb11⟩
              have HB11 := hide (below_more HB10.out (Nat.le_refl _) hb11)
              have LG11 := hide (LG10.out.below hb11)
              have OO11 := hide (OO10.out.below hb11)
              have KB11 := hide (KB10.out.below hb11 KB10.out.lt)
              obtain ⟨u0, u1, u2, u3, u4, u5, u6, u7⟩ := KB11.out.eight
              have ul := KB11.out.lt
              clear hb11 XE KB10 LG10 OO10 HB10
              go_wp2_with fail
              clear v1
              go_roundw
              case rel =>
                have hq2 := HQ2.out.symm
                subst hq2
                exact ⟨i + 1, (q + 1), (-1), s2, p2, h2, dead2, false, ar2, A2, n2, c2, B2, m2, k2, H2, hc2, O7, co7, (lo ++ [(⟨⟨(q : Int), o1, p1, g1, d1, b1⟩, A1, n1, c1⟩ : RV)]), by omega, rfl, rfl, by go_num, hide (by have h := HKI.out; first | exact h | (rw [List.map_append]; exact h)), LG11, KB11, OO11, DB7, HB11⟩
              case measure => simp [intOf]; omega
            · have hst2 := hst
              subst hst
              subst hf
              have hf2 : decide ((0 : Int) ≤ (i : Int)) = true := decide_eq_true (by omega)
              have HQ2 := hide hq2
              have HKI := hide KI2
              clear hq2 KI2 KS hst2
              obtain ⟨w7, hw7⟩ : ∃ W, wc.alloc (.cells #[.int .i64 (q : Int), .int .i64 o1, .string ⟨p1.toArray⟩, .string ⟨g1.toArray⟩, .slice A1 n1 c1, .bool b1] 39) = W := ⟨_, rfl⟩
              rw [hw7] at HB5 KX5 KB5 LG5 OO5
              have KX7 := hide KX5.out
              have KB7 := hide KB5.out
              have LG7 := hide LG5.out
              have OO7 := hide OO5.out
              have HB7 := hide HB5.out
              have DB7 := hide DB.out
              have hlw : w4.heap.size < w7.heap.size := KB7.out.lt
              clear HB5 KX5 KB5 LG5 OO5
              obtain ⟨⟨y0, y1, y2, y3, y4, y5, y6, y7⟩, yz0, yz1, yz2, yz3, yz4, yz5, yz6, yz7⟩ := blk8 KB7.out
              obtain ⟨x0, x1, x2, x3, x4, x5, x6, x7⟩ := KX7.out.eight
              have xl := KX7.out.lt
              obtain ⟨W8, hW8⟩ : ∃ W, ((((((((w7.setCell ⟨w4.heap.size, 0, none⟩ (.slice A2 n2 c2)).setCell ⟨w4.heap.size, 1, none⟩ (.slice B2 m2 k2)).setCell ⟨w4.heap.size, 2, none⟩ (.int .i64 room)).setCell ⟨w4.heap.size, 3, none⟩ (.bool dead2)).setCell ⟨w4.heap.size, 4, none⟩ (.int .i64 ar2)).setCell ⟨w4.heap.size, 5, none⟩ (.int .i64 (q2 : Int))).setCell ⟨w4.heap.size, 6, none⟩ (.slice H2 32 hc2)).setCell ⟨w4.heap.size, 7, none⟩ (.bool true)) = W := ⟨_, rfl⟩
              have KB8 : Hid (Blk W8 w4.heap.size 31 #[.slice A2 n2 c2, .slice B2 m2 k2, .int .i64 room, .bool dead2, .int .i64 ar2, .int .i64 (q2 : Int), .slice H2 32 hc2, .bool true]) := hide (by rw [← hW8]; exact set_log8 KB7.out _ _ _ _ _ _ _ _)
              have LG8 : Hid (LogIn W8 ⟨s2, p2, room, dead2, ar2, (q2 : Int), h2, true⟩ A2 n2 c2 B2 m2 k2 H2 32 hc2) := hide (by rw [← hW8]; exact LG7.out.log8 KB7.out _ _ _ _ _ _ _ _)
              have OO8 : Hid (OutR w.heap.size W8 O q co lo) := hide (by rw [← hW8]; exact row_log8 OO7.out KB7.out _ _ _ _ _ _ _ _)
              have HB8 : Hid (Below w.heap.size w W8) := hide (by rw [← hW8]; exact below8 HB7.out w4.heap.size hw4 _ _ _ _ _ _ _ _)
              have XC := hide (acheck_any ⟨s2, p2, room, dead2, ar2, (q2 : Int), h2, true⟩ A2 n2 c2 B2 m2 k2 H2 32 hc2 W8 LG8.out (HS.out.below HB8.out) (HT.out.below HB8.out))
              rw [HKI.out.hok] at XC
              obtain ⟨u0, u1, u2, u3, u4, u5, u6, u7⟩ := KB8.out.eight
              have ul := KB8.out.lt
              clear KB7 LG7 OO7 HB7
              go_wp2_with fail
              refine XC.out.mono ?_
              rintro e9 w9 ⟨rfl, hb9⟩
              have HB9 := hide (below_more HB8.out (Nat.le_refl _) hb9)
              have LG9 := hide (LG8.out.below hb9)
              have OO9 := hide (OO8.out.below hb9)
              have KB9 := hide (KB8.out.below hb9 KB8.out.lt)
              have XR := hide (recs_b _ ⟨s2, p2, room, dead2, ar2, (q2 : Int), h2, true⟩ q HKI.out.hsc (by have h := HKI.out.hq; have h2 := HQ2.out; omega) HKI.out.hok A2 n2 c2 B2 m2 k2 H2 32 hc2 w9 LG9.out (HS.out.below HB9.out) (HT.out.below HB9.out))
              clear hW8 hb9 XC KB8 LG8 OO8 HB8 y0 y1 y2 y3 y4 y5 y6 y7 yz0 yz1 yz2 yz3 yz4 yz5 yz6 yz7 x0 x1 x2 x3 x4 x5 x6 x7 xl u0 u1 u2 u3 u4 u5 u6 u7 ul
              obtain ⟨u0, u1, u2, u3, u4, u5, u6, u7⟩ := KB9.out.eight
              have ul := KB9.out.lt
              go_wp2_with fail
              refine XR.out.mono ?_
              rintro e10 w10 ⟨O10, co10, l10, rfl, t1, t2, t3⟩
              have HB10 := hide (below_more HB9.out (Nat.le_refl _) t3)
              have LG10 := hide (LG9.out.below t3)
              have OO10 := hide (OO9.out.below t3)
              have KB10 := hide (KB9.out.below t3 KB9.out.lt)
              have XE := hide (rows_same O10 O q co10 co l10 lo w10 t1.row OO10.out.row (by first | (rw [t2]; done) | (rw [t2]; rfl) | (rw [t2, List.map_append]; rfl)) (by omega))
              clear t1 t2 t3 XR KB9 LG9 OO9 HB9 u0 u1 u2 u3 u4 u5 u6 u7 ul
              go_wp2_with fail
              refine XE.out.mono ?_
              rintro e11 w11 ⟨rfl, hb11⟩
              have HB11 := hide (below_more HB10.out (Nat.le_refl _) hb11)
              have LG11 := hide (LG10.out.below hb11)
              have OO11 := hide (OO10.out.below hb11)
              have KB11 := hide (KB10.out.below hb11 KB10.out.lt)
              obtain ⟨u0, u1, u2, u3, u4, u5, u6, u7⟩ := KB11.out.eight
              have ul := KB11.out.lt
              clear hb11 XE KB10 LG10 OO10 HB10
              go_wp2_with fail
              clear v1
              go_roundw
              case rel =>
                have hq2 := HQ2.out.symm
                subst hq2
                exact ⟨i + 1, q, (i : Int), s2, p2, h2, dead2, true, ar2, A2, n2, c2, B2, m2, k2, H2, hc2, O, co, lo, by omega, rfl, rfl, by go_num, hide (by have h := HKI.out; first | exact h | (rw [List.map_append]; exact h)), LG11, KB11, OO11, DB7, HB11⟩
              case measure => simp [intOf]; omega
            · have hst2 := hst
              subst hst
              have hf1 : ¬ failed < 0 := by omega
              have hf2 : decide (0 ≤ failed) = true := decide_eq_true hf
              have HQ2 := hide hq2
              have HKI := hide KI2
              clear hq2 KI2 KS hst2
              obtain ⟨w7, hw7⟩ : ∃ W, wc.alloc (.cells #[.int .i64 (q : Int), .int .i64 o1, .string ⟨p1.toArray⟩, .string ⟨g1.toArray⟩, .slice A1 n1 c1, .bool b1] 39) = W := ⟨_, rfl⟩
              rw [hw7] at HB5 KX5 KB5 LG5 OO5
              have KX7 := hide KX5.out
              have KB7 := hide KB5.out
              have LG7 := hide LG5.out
              have OO7 := hide OO5.out
              have HB7 := hide HB5.out
              have DB7 := hide DB.out
              have hlw : w4.heap.size < w7.heap.size := KB7.out.lt
              clear HB5 KX5 KB5 LG5 OO5
              obtain ⟨⟨y0, y1, y2, y3, y4, y5, y6, y7⟩, yz0, yz1, yz2, yz3, yz4, yz5, yz6, yz7⟩ := blk8 KB7.out
              obtain ⟨x0, x1, x2, x3, x4, x5, x6, x7⟩ := KX7.out.eight
              have xl := KX7.out.lt
              obtain ⟨W8, hW8⟩ : ∃ W, ((((((((w7.setCell ⟨w4.heap.size, 0, none⟩ (.slice A2 n2 c2)).setCell ⟨w4.heap.size, 1, none⟩ (.slice B2 m2 k2)).setCell ⟨w4.heap.size, 2, none⟩ (.int .i64 room)).setCell ⟨w4.heap.size, 3, none⟩ (.bool dead2)).setCell ⟨w4.heap.size, 4, none⟩ (.int .i64 ar2)).setCell ⟨w4.heap.size, 5, none⟩ (.int .i64 (q2 : Int))).setCell ⟨w4.heap.size, 6, none⟩ (.slice H2 32 hc2)).setCell ⟨w4.heap.size, 7, none⟩ (.bool true)) = W := ⟨_, rfl⟩
              have KB8 : Hid (Blk W8 w4.heap.size 31 #[.slice A2 n2 c2, .slice B2 m2 k2, .int .i64 room, .bool dead2, .int .i64 ar2, .int .i64 (q2 : Int), .slice H2 32 hc2, .bool true]) := hide (by rw [← hW8]; exact set_log8 KB7.out _ _ _ _ _ _ _ _)
              have LG8 : Hid (LogIn W8 ⟨s2, p2, room, dead2, ar2, (q2 : Int), h2, true⟩ A2 n2 c2 B2 m2 k2 H2 32 hc2) := hide (by rw [← hW8]; exact LG7.out.log8 KB7.out _ _ _ _ _ _ _ _)
              have OO8 : Hid (OutR w.heap.size W8 O q co lo) := hide (by rw [← hW8]; exact row_log8 OO7.out KB7.out _ _ _ _ _ _ _ _)
              have HB8 : Hid (Below w.heap.size w W8) := hide (by rw [← hW8]; exact below8 HB7.out w4.heap.size hw4 _ _ _ _ _ _ _ _)
              have XC := hide (acheck_any ⟨s2, p2, room, dead2, ar2, (q2 : Int), h2, true⟩ A2 n2 c2 B2 m2 k2 H2 32 hc2 W8 LG8.out (HS.out.below HB8.out) (HT.out.below HB8.out))
              rw [HKI.out.hok] at XC
              obtain ⟨u0, u1, u2, u3, u4, u5, u6, u7⟩ := KB8.out.eight
              have ul := KB8.out.lt
              clear KB7 LG7 OO7 HB7
              go_wp2_with fail
              refine XC.out.mono ?_
              rintro e9 w9 ⟨rfl, hb9⟩
              have HB9 := hide (below_more HB8.out (Nat.le_refl _) hb9)
              have LG9 := hide (LG8.out.below hb9)
              have OO9 := hide (OO8.out.below hb9)
              have KB9 := hide (KB8.out.below hb9 KB8.out.lt)
              have XR := hide (recs_b _ ⟨s2, p2, room, dead2, ar2, (q2 : Int), h2, true⟩ q HKI.out.hsc (by have h := HKI.out.hq; have h2 := HQ2.out; omega) HKI.out.hok A2 n2 c2 B2 m2 k2 H2 32 hc2 w9 LG9.out (HS.out.below HB9.out) (HT.out.below HB9.out))
              clear hW8 hb9 XC KB8 LG8 OO8 HB8 y0 y1 y2 y3 y4 y5 y6 y7 yz0 yz1 yz2 yz3 yz4 yz5 yz6 yz7 x0 x1 x2 x3 x4 x5 x6 x7 xl u0 u1 u2 u3 u4 u5 u6 u7 ul
              obtain ⟨u0, u1, u2, u3, u4, u5, u6, u7⟩ := KB9.out.eight
              have ul := KB9.out.lt
              go_wp2_with fail
              refine XR.out.mono ?_
              rintro e10 w10 ⟨O10, co10, l10, rfl, t1, t2, t3⟩
              have HB10 := hide (below_more HB9.out (Nat.le_refl _) t3)
              have LG10 := hide (LG9.out.below t3)
              have OO10 := hide (OO9.out.below t3)
              have KB10 := hide (KB9.out.below t3 KB9.out.lt)
              have XE := hide (rows_same O10 O q co10 co l10 lo w10 t1.row OO10.out.row (by first | (rw [t2]; done) | (rw [t2]; rfl) | (rw [t2, List.map_append]; rfl)) (by omega))
              clear t1 t2 t3 XR KB9 LG9 OO9 HB9 u0 u1 u2 u3 u4 u5 u6 u7 ul
              go_wp2_with fail
              refine XE.out.mono ?_
              rintro e11 w11 ⟨rfl, hb11⟩
              have HB11 := hide (below_more HB10.out (Nat.le_refl _) hb11)
              have LG11 := hide (LG10.out.below hb11)
              have OO11 := hide (OO10.out.below hb11)
              have KB11 := hide (KB10.out.below hb11 KB10.out.lt)
              obtain ⟨u0, u1, u2, u3, u4, u5, u6, u7⟩ := KB11.out.eight
              have ul := KB11.out.lt
              clear hb11 XE KB10 LG10 OO10 HB10
              go_wp2_with fail
              clear v1
              go_roundw
              case rel =>
                have hq2 := HQ2.out.symm
                subst hq2
                exact ⟨i + 1, q, failed, s2, p2, h2, dead2, true, ar2, A2, n2, c2, B2, m2, k2, H2, hc2, O, co, lo, by omega, rfl, rfl, by go_num, hide (by have h := HKI.out; first | exact h | (rw [List.map_append]; exact h)), LG11, KB11, OO11, DB7, HB11⟩
              case measure => simp [intOf]; omega
        · obtain rfl : i = n := by omega
          have hlt1 : ¬ (i : Int) < (i : Int) := by omega
          have hfl := KI.out.hfl
          have hend := keeps_end KI.out (Dk.kpN p.length keep)
          have hdq : (lo.map RV.r).length = q := KI.out.hq
          have hsz : s.length + p.length ≤ 9000 := by
            have h1 := (okL_split KI.out.hok).1
            unfold Dk.okD at h1
            rw [decide_eq_true_eq] at h1
            dsimp only at h1
            omega
          have XR := hide (recover_k s p hash room ar (q : Int) dead stop keep A' n' c' B' m' k' H' hc' wr LG.out hsz KI.out.hok (HS.out.below HB.out) (HT.out.below HB.out))
          obtain ⟨b0, b1, b2, b3, b4, b5, b6, b7⟩ := KB.out.eight
          have bl := KB.out.lt
          have HEND := hide hend
          clear hsz KI LG hend
          go_wp2_with fail
          refine XR.out.mono ?_
          rintro e9 w9 ⟨A2, n2, c2, B2, m2, k2, H2, hc2, ar2, sq2, M, mo, lm, rfl, t1, t2, t3⟩
          have hal := bl_alloc w9 (.cells #[.slice A2 n2 c2, .slice B2 m2 k2, .int .i64 room, .bool false, .int .i64 ar2, .int .i64 sq2, .slice H2 32 hc2, .bool false] 31)
          have HB9 := hide (below_more HB.out (Nat.le_refl _) (below_more t3 (Nat.le_refl _) hal))
          have HO9 := hide ((OO.out.below t3).below hal)
          have hm9 := t1.below hal
          have hv1 : IntKind.i64.wrap ((q : Int) + 1) = (q : Int) + 1 := by simp [IntKind.wrap, IntKind.bits, IntKind.signed]; omega
          have T2 := hide t2
          have HDQ := hide hdq
          clear t1 t2 t3 hal XR HB OO KB b0 b1 b2 b3 b4 b5 b6 b7 bl hdq
          rcases HEND.out with hd | ⟨f, r, hf, hr, hd⟩
          · have hll : lm.length = q := by rw [← HDQ.out, ← hd, ← T2.out, List.length_map]
            rw [hll] at hm9 ⊢
            have hmo : q ≤ mo := hm9.le
            have XE := hide (rows_same M O q mo co lm lo _ hm9.row HO9.out.row (by rw [T2.out, hd]) (by omega))
            have sq0 := fun W => rsl_to M q mo q .i64 (q : Int) rfl hmo W
            have hn1 : ¬ (q : Int) + 1 < (q : Int) := by omega
            have hn2 : decide ((q : Int) + 1 < (q : Int)) = false := decide_eq_false hn1
            clear hm9 hd hll HEND
            go_wp2_with fail
            refine XE.out.mono ?_
            rintro e10 w10 ⟨rfl, hb10⟩
            have HB10 := hide (below_more HB9.out (Nat.le_refl _) hb10)
            clear hb10 XE
            go_wp2_with fail
            refine (XHD.out _ HB10.out).mono ?_
            rintro e9 w9 ⟨rfl, hb9⟩
            have HB9 := hide (below_more HB10.out (Nat.le_refl _) hb9)
            clear hb9 XHD
            go_wp2_with fail
            go_ret
            exact ⟨rfl, HB9.out⟩
          · have hll : lm.length = q + 1 := by rw [← List.length_map (f := RV.r), T2.out, hd, List.length_append, HDQ.out]; rfl
            rw [hll] at hm9 ⊢
            have hmo : q + 1 ≤ mo := hm9.le
            have hmq : q ≤ mo := by omega
            have hfi : f < i := by omega
            have hLx : L[f]? = (l[f]?).map RV.r := by rw [← HLE.out, List.getElem?_map]
            have hx : l[f]? = some (l[f]'(by rw [HL.out]; exact hfi)) := List.getElem?_eq_getElem _
            obtain ⟨x, hxe⟩ : ∃ x, l[f]'(by rw [HL.out]; exact hfi) = x := ⟨_, rfl⟩
            rw [hxe] at hx
            rw [hx, hr] at hLx
            have hxr : x.r = r := (Option.some.inj hLx).symm
            have kx := hide (H1.out.2 x (List.mem_of_getElem? hx))
            have XE := hide (rows_same M O q mo co (lm.take q) lo _ (hm9.row.take (Nat.le_succ q)) HO9.out.row (by rw [List.map_take, T2.out, hd, List.take_left' HDQ.out]) (by omega))
            have hmk : lm[q]? = some (lm[q]'(by omega)) := List.getElem?_eq_getElem _
            obtain ⟨y, hye⟩ : ∃ y, lm[q]'(by omega) = y := ⟨_, rfl⟩
            rw [hye] at hmk
            have hyr : y.r = { r with seq := (q : Int) } := by
              have h := congrArg (·[q]?) (T2.out.trans hd)
              simp only [List.getElem?_map, hmk, Option.map_some] at h
              rw [List.getElem?_append_right (by rw [HDQ.out]; exact Nat.le_refl _), HDQ.out, Nat.sub_self] at h
              simpa using h
            have HM9 := hide hm9
            have sq0 := fun W => rsl_to M (q + 1) mo q .i64 (q : Int) rfl hmq W
            have hn0 : ¬ (q : Int) + 1 < (q : Int) := by omega
            have hn2 : decide ((q : Int) + 1 < (q : Int)) = false := decide_eq_false hn0
            have hn3 : (q : Int) < (q : Int) + 1 := by omega
            have hn4 : decide ((q : Int) < (q : Int) + 1) = true := decide_eq_true hn3
            subst hf
            have hf0 : ¬ (f : Int) < 0 := by omega
            have hf1 : (0 : Int) ≤ (f : Int) := by omega
            have hf2 : decide ((0 : Int) ≤ (f : Int)) = true := decide_eq_true hf1
            clear hm9 hd hll hxe hye HEND hr hLx
            go_wp2_with fail
            refine XE.out.mono ?_
            rintro e10 w10 ⟨rfl, hb10⟩
            have HB10 := hide (below_more HB9.out (Nat.le_refl _) hb10)
            have HM10 := hide (HM9.out.below hb10)
            clear hb10 XE HM9 HO9 HB9
            obtain ⟨g, o, rfl, hg, a0, a1, a2, a3, a4, a5⟩ := rec_cells (H1.out.below HB10.out).1 hx
            obtain ⟨rx, A1, n1, c1⟩ := x
            obtain ⟨q1, o1, p1, g1, d1, b1⟩ := rx
            dsimp only at hxr a0 a1 a2 a3 a4 a5
            subst hxr
            dsimp only at hyr
            obtain ⟨oF, hoF⟩ : ∃ x, o + f * 6 = x := ⟨_, rfl⟩
            rw [hoF] at a0 a1 a2 a3 a4 a5
            have i1 : ∀ W, (Instr.indexAt 22 (.slice (some ⟨g, o, none⟩) i c) (.int .i64 (f : Int))).run Tryd.prog W = .ok (.pointer (some ⟨g, oF, none⟩)) W := fun W => by rw [← hoF]; exact rec_at g o i c f (f : Int) rfl hfi W
            clear hoF
            rcases Nat.eq_zero_or_pos f with hz | hz
            · subst hz
              have i0 : ∀ W, (Instr.indexAt 22 (.slice (some ⟨g, o, none⟩) i c) (.int .i64 0)).run Tryd.prog W = .ok (.pointer (some ⟨g, oF, none⟩)) W := fun W => i1 W
              have hal := bl_alloc w10 (.cells #[.int .i64 (q : Int), .int .i64 o1, .string ⟨p1.toArray⟩, .string ⟨g1.toArray⟩, .slice A1 n1 c1, .bool b1] 39)
              have HB11 := hide (below_more HB10.out (Nat.le_refl _) hal)
              have HM11 := hide (HM10.out.below hal)
              have HK11 := hide (Blk.new w10 39 #[.int .i64 (q : Int), .int .i64 o1, .string ⟨p1.toArray⟩, .string ⟨g1.toArray⟩, .slice A1 n1 c1, .bool b1])
              obtain ⟨gm, om, rfl, hgm, c0, c1', c2', c3, c4, c5⟩ := rec_cells HM11.out.row.1 hmk
              have ky := hide (HM11.out.2.1 y (List.mem_of_getElem? hmk))
              obtain ⟨ry, XA, xn, xc⟩ := y
              dsimp only at *
              subst hyr
              dsimp only at c0 c1' c2' c3 c4 c5
              obtain ⟨W11, hW11⟩ : ∃ W, w10.alloc (.cells #[.int .i64 (q : Int), .int .i64 o1, .string ⟨p1.toArray⟩, .string ⟨g1.toArray⟩, .slice A1 n1 c1, .bool b1] 39) = W := ⟨_, rfl⟩
              rw [hW11] at HB11 HM11 HK11 c0 c1' c2' c3 c4 c5 hgm ky
              have YS := hide (fun W (hW : Below W11.heap.size W11 W) => rsame_any ⟨(q : Int), o1, p1, g1, d1, b1⟩ ⟨(q : Int), o1, p1, g1, d1, b1⟩ XA A1 xn xc n1 c1 W (rb ky.out.1 hW) (rb kx.out.1 (below_more HB11.out (Nat.le_refl _) hW)))
              rw [show sameP ⟨(q : Int), o1, p1, g1, d1, b1⟩ ⟨(q : Int), o1, p1, g1, d1, b1⟩ = true from (same_iff _ _).2 rfl] at YS
              unfold Rec.v at YS
              dsimp only at YS
              have YH := hide (fun W (hW : Below W11.heap.size W11 W) => XHD.out W (below_more HB11.out (Nat.le_refl _) hW))
              have allS : Hid (∀ V, Below W11.heap.size W11 V → (V.cell? ⟨gm, om + q * 6, none⟩ = some (.int .i64 (q : Int)) ∧ V.cell? ⟨gm, om + q * 6 + 1, none⟩ = some (.int .i64 o1) ∧ V.cell? ⟨gm, om + q * 6 + 2, none⟩ = some (.string ⟨p1.toArray⟩) ∧ V.cell? ⟨gm, om + q * 6 + 3, none⟩ = some (.string ⟨g1.toArray⟩) ∧ V.cell? ⟨gm, om + q * 6 + 4, none⟩ = some (.slice XA xn xc) ∧ V.cell? ⟨gm, om + q * 6 + 5, none⟩ = some (.bool b1)) ∧ (V.cell? ⟨w10.heap.size, 0, none⟩ = some (.int .i64 (q : Int)) ∧ V.cell? ⟨w10.heap.size, 1, none⟩ = some (.int .i64 o1) ∧ V.cell? ⟨w10.heap.size, 2, none⟩ = some (.string ⟨p1.toArray⟩) ∧ V.cell? ⟨w10.heap.size, 3, none⟩ = some (.string ⟨g1.toArray⟩) ∧ V.cell? ⟨w10.heap.size, 4, none⟩ = some (.slice A1 n1 c1) ∧ V.cell? ⟨w10.heap.size, 5, none⟩ = some (.bool b1))) := hide (fun V hV => by
                obtain ⟨x0, x1, x2, x3, x4, x5⟩ := (HK11.out.below hV HK11.out.lt).six
                exact ⟨⟨(hV.cell (p := ⟨gm, om + q * 6, none⟩) hgm).trans c0, (hV.cell (p := ⟨gm, om + q * 6 + 1, none⟩) hgm).trans c1', (hV.cell (p := ⟨gm, om + q * 6 + 2, none⟩) hgm).trans c2', (hV.cell (p := ⟨gm, om + q * 6 + 3, none⟩) hgm).trans c3, (hV.cell (p := ⟨gm, om + q * 6 + 4, none⟩) hgm).trans c4, (hV.cell (p := ⟨gm, om + q * 6 + 5, none⟩) hgm).trans c5⟩, ⟨x0, x1, x2, x3, x4, x5⟩⟩)
              have s3 := fun W => rec_at gm om (q + 1) mo q (q : Int) rfl (Nat.lt_succ_self q) W
              have kW := hide (Below.refl W11.heap.size W11)
              obtain ⟨⟨d0', d1', d2', d3', d4', d5'⟩, ⟨x0, x1, x2, x3, x4, x5⟩⟩ := allS.out _ kW.out
              clear hal c0 c1' c2' c3 c4 c5 HM11 HM10 HB10 HK11 hmk hx ky hgm hg XHD
              go_wp2_with fail
              clear hW11
              go_region_held3 (fun V => (V.cell? ⟨gm, om + q * 6, none⟩ = some (.int .i64 (q : Int)) ∧ V.cell? ⟨gm, om + q * 6 + 1, none⟩ = some (.int .i64 o1) ∧ V.cell? ⟨gm, om + q * 6 + 2, none⟩ = some (.string ⟨p1.toArray⟩) ∧ V.cell? ⟨gm, om + q * 6 + 3, none⟩ = some (.string ⟨g1.toArray⟩) ∧ V.cell? ⟨gm, om + q * 6 + 4, none⟩ = some (.slice XA xn xc) ∧ V.cell? ⟨gm, om + q * 6 + 5, none⟩ = some (.bool b1)) ∧ (V.cell? ⟨w10.heap.size, 0, none⟩ = some (.int .i64 (q : Int)) ∧ V.cell? ⟨w10.heap.size, 1, none⟩ = some (.int .i64 o1) ∧ V.cell? ⟨w10.heap.size, 2, none⟩ = some (.string ⟨p1.toArray⟩) ∧ V.cell? ⟨w10.heap.size, 3, none⟩ = some (.string ⟨g1.toArray⟩) ∧ V.cell? ⟨w10.heap.size, 4, none⟩ = some (.slice A1 n1 c1) ∧ V.cell? ⟨w10.heap.size, 5, none⟩ = some (.bool b1)))
              (first | with_reducible exact allS.out _ (Below.drew kW.out) | with_reducible exact allS.out _ kW.out)
              (first
              | (go_at_call 15; with_reducible refine (YS.out _ (Below.drew kW.out)).mono ?_
                 rintro e wx ⟨rfl, kx2⟩
                 have kX := hide (below_more (Below.drew kW.out) (Nat.le_refl _) kx2)
                 clear kW
                 have kW := hide kX.out
                 clear kx2 kX)
              | (go_at_call 15; with_reducible refine (YS.out _ kW.out).mono ?_
                 rintro e wx ⟨rfl, kx2⟩
                 have kX := hide (below_more kW.out (Nat.le_refl _) kx2)
                 clear kW
                 have kW := hide kX.out
                 clear kx2 kX)
              | (go_at_call 6; with_reducible refine (YH.out _ (Below.drew kW.out)).mono ?_
                 rintro e wx ⟨rfl, kx2⟩
                 have kX := hide (below_more (Below.drew kW.out) (Nat.le_refl _) kx2)
                 clear kW
                 have kW := hide kX.out
                 clear kx2 kX)
              | (go_at_call 6; with_reducible refine (YH.out _ kW.out).mono ?_
                 rintro e wx ⟨rfl, kx2⟩
                 have kX := hide (below_more kW.out (Nat.le_refl _) kx2)
                 clear kW
                 have kW := hide kX.out
                 clear kx2 kX))
              all_goals
                go_wp2
                go_ret
                exact ⟨rfl, below_more HB11.out (Nat.le_refl _) kW.out⟩
            · have hzI : (0 : Int) < (f : Int) := by omega
              have hal := bl_alloc w10 (.cells #[.int .i64 (q : Int), .int .i64 o1, .string ⟨p1.toArray⟩, .string ⟨g1.toArray⟩, .slice A1 n1 c1, .bool b1] 39)
              have HB11 := hide (below_more HB10.out (Nat.le_refl _) hal)
              have HM11 := hide (HM10.out.below hal)
              have HK11 := hide (Blk.new w10 39 #[.int .i64 (q : Int), .int .i64 o1, .string ⟨p1.toArray⟩, .string ⟨g1.toArray⟩, .slice A1 n1 c1, .bool b1])
              obtain ⟨gm, om, rfl, hgm, c0, c1', c2', c3, c4, c5⟩ := rec_cells HM11.out.row.1 hmk
              have ky := hide (HM11.out.2.1 y (List.mem_of_getElem? hmk))
              obtain ⟨ry, XA, xn, xc⟩ := y
              dsimp only at *
              subst hyr
              dsimp only at c0 c1' c2' c3 c4 c5
              obtain ⟨W11, hW11⟩ : ∃ W, w10.alloc (.cells #[.int .i64 (q : Int), .int .i64 o1, .string ⟨p1.toArray⟩, .string ⟨g1.toArray⟩, .slice A1 n1 c1, .bool b1] 39) = W := ⟨_, rfl⟩
              rw [hW11] at HB11 HM11 HK11 c0 c1' c2' c3 c4 c5 hgm ky
              have YS := hide (fun W (hW : Below W11.heap.size W11 W) => rsame_any ⟨(q : Int), o1, p1, g1, d1, b1⟩ ⟨(q : Int), o1, p1, g1, d1, b1⟩ XA A1 xn xc n1 c1 W (rb ky.out.1 hW) (rb kx.out.1 (below_more HB11.out (Nat.le_refl _) hW)))
              rw [show sameP ⟨(q : Int), o1, p1, g1, d1, b1⟩ ⟨(q : Int), o1, p1, g1, d1, b1⟩ = true from (same_iff _ _).2 rfl] at YS
              unfold Rec.v at YS
              dsimp only at YS
              have YH := hide (fun W (hW : Below W11.heap.size W11 W) => XHD.out W (below_more HB11.out (Nat.le_refl _) hW))
              have allS : Hid (∀ V, Below W11.heap.size W11 V → (V.cell? ⟨gm, om + q * 6, none⟩ = some (.int .i64 (q : Int)) ∧ V.cell? ⟨gm, om + q * 6 + 1, none⟩ = some (.int .i64 o1) ∧ V.cell? ⟨gm, om + q * 6 + 2, none⟩ = some (.string ⟨p1.toArray⟩) ∧ V.cell? ⟨gm, om + q * 6 + 3, none⟩ = some (.string ⟨g1.toArray⟩) ∧ V.cell? ⟨gm, om + q * 6 + 4, none⟩ = some (.slice XA xn xc) ∧ V.cell? ⟨gm, om + q * 6 + 5, none⟩ = some (.bool b1)) ∧ (V.cell? ⟨w10.heap.size, 0, none⟩ = some (.int .i64 (q : Int)) ∧ V.cell? ⟨w10.heap.size, 1, none⟩ = some (.int .i64 o1) ∧ V.cell? ⟨w10.heap.size, 2, none⟩ = some (.string ⟨p1.toArray⟩) ∧ V.cell? ⟨w10.heap.size, 3, none⟩ = some (.string ⟨g1.toArray⟩) ∧ V.cell? ⟨w10.heap.size, 4, none⟩ = some (.slice A1 n1 c1) ∧ V.cell? ⟨w10.heap.size, 5, none⟩ = some (.bool b1))) := hide (fun V hV => by
                obtain ⟨x0, x1, x2, x3, x4, x5⟩ := (HK11.out.below hV HK11.out.lt).six
                exact ⟨⟨(hV.cell (p := ⟨gm, om + q * 6, none⟩) hgm).trans c0, (hV.cell (p := ⟨gm, om + q * 6 + 1, none⟩) hgm).trans c1', (hV.cell (p := ⟨gm, om + q * 6 + 2, none⟩) hgm).trans c2', (hV.cell (p := ⟨gm, om + q * 6 + 3, none⟩) hgm).trans c3, (hV.cell (p := ⟨gm, om + q * 6 + 4, none⟩) hgm).trans c4, (hV.cell (p := ⟨gm, om + q * 6 + 5, none⟩) hgm).trans c5⟩, ⟨x0, x1, x2, x3, x4, x5⟩⟩)
              have s3 := fun W => rec_at gm om (q + 1) mo q (q : Int) rfl (Nat.lt_succ_self q) W
              have kW := hide (Below.refl W11.heap.size W11)
              obtain ⟨⟨d0', d1', d2', d3', d4', d5'⟩, ⟨x0, x1, x2, x3, x4, x5⟩⟩ := allS.out _ kW.out
              clear hal c0 c1' c2' c3 c4 c5 HM11 HM10 HB10 HK11 hmk hx ky hgm hg XHD
              go_wp2_with fail
              clear hW11
              go_region_held3 (fun V => (V.cell? ⟨gm, om + q * 6, none⟩ = some (.int .i64 (q : Int)) ∧ V.cell? ⟨gm, om + q * 6 + 1, none⟩ = some (.int .i64 o1) ∧ V.cell? ⟨gm, om + q * 6 + 2, none⟩ = some (.string ⟨p1.toArray⟩) ∧ V.cell? ⟨gm, om + q * 6 + 3, none⟩ = some (.string ⟨g1.toArray⟩) ∧ V.cell? ⟨gm, om + q * 6 + 4, none⟩ = some (.slice XA xn xc) ∧ V.cell? ⟨gm, om + q * 6 + 5, none⟩ = some (.bool b1)) ∧ (V.cell? ⟨w10.heap.size, 0, none⟩ = some (.int .i64 (q : Int)) ∧ V.cell? ⟨w10.heap.size, 1, none⟩ = some (.int .i64 o1) ∧ V.cell? ⟨w10.heap.size, 2, none⟩ = some (.string ⟨p1.toArray⟩) ∧ V.cell? ⟨w10.heap.size, 3, none⟩ = some (.string ⟨g1.toArray⟩) ∧ V.cell? ⟨w10.heap.size, 4, none⟩ = some (.slice A1 n1 c1) ∧ V.cell? ⟨w10.heap.size, 5, none⟩ = some (.bool b1)))
              (first | with_reducible exact allS.out _ (Below.drew kW.out) | with_reducible exact allS.out _ kW.out)
              (first
              | (go_at_call 15; with_reducible refine (YS.out _ (Below.drew kW.out)).mono ?_
                 rintro e wx ⟨rfl, kx2⟩
                 have kX := hide (below_more (Below.drew kW.out) (Nat.le_refl _) kx2)
                 clear kW
                 have kW := hide kX.out
                 clear kx2 kX)
              | (go_at_call 15; with_reducible refine (YS.out _ kW.out).mono ?_
                 rintro e wx ⟨rfl, kx2⟩
                 have kX := hide (below_more kW.out (Nat.le_refl _) kx2)
                 clear kW
                 have kW := hide kX.out
                 clear kx2 kX)
              | (go_at_call 6; with_reducible refine (YH.out _ (Below.drew kW.out)).mono ?_
                 rintro e wx ⟨rfl, kx2⟩
                 have kX := hide (below_more (Below.drew kW.out) (Nat.le_refl _) kx2)
                 clear kW
                 have kW := hide kX.out
                 clear kx2 kX)
              | (go_at_call 6; with_reducible refine (YH.out _ kW.out).mono ?_
                 rintro e wx ⟨rfl, kx2⟩
                 have kX := hide (below_more kW.out (Nat.le_refl _) kx2)
                 clear kW
                 have kW := hide kX.out
                 clear kx2 kX))
              all_goals
                go_wp2
                go_ret
                exact ⟨rfl, below_more HB11.out (Nat.le_refl _) kW.out⟩
theorem keeps_fin (A : Option Addr) (n c : Nat) (room arm keep : Int) (l : List RV) (w : World) (h1 : RowR w A n l) (hnc : n ≤ c) (hnm : n ≤ maxLen) (harm : arm ≤ 9223372036854775807) (hS : Std w ∧ Tabs w ∧ ∃ a0 a1 a2, Sent a0 a1 a2 w) :
    Calls Tryd.prog 3 #[.slice A n c, .int .i64 room, .int .i64 arm, .int .i64 keep] w fun e w' => e = .returned (.bool true) ∧ Below w.heap.size w w' := by
  obtain ⟨h2, h3, s0, s1, s2, h4⟩ := hS
  exact keeps_law A n c room arm keep l s0 s1 s2 w h1 hnc hnm harm h2 h3 h4
end Go.Proofs.YtbbobffedgcbhaaDoor
