/- The law Answers. -/
import Derived.Test.YtedacfjkbfgikaaPrLb
namespace Go.Proofs.Ytedacfjkbfgikaa
open Go.RowKit
set_option linter.unusedVariables false
theorem eff_eff (u : Int) (r : RP) : r.eff (r.eff u) = r.eff u := by
  unfold RP.eff
  by_cases h : r.err = 0 <;> simp [h]
theorem rok_eff (u : Int) (r : RP) : r.ok (r.eff u) = r.ok u := by
  unfold RP.ok
  rw [eff_eff]
theorem encP_dec {op : Int} {r : RP} (h0 : (repU op).2 = true) (h : r.ok (repU op).1 = true) : decR (repU op) (encP (repU op).1 r) = some r := by
  have hp := rok_parts h
  unfold encP decR
  rw [if_pos h0]
  dsimp only
  rw [opB_nat hp.1.1 hp.1.2]
  have hd := decY_app (r.eff (repU op).1) r [] (rok_fit h) (rok_zer h0 h)
  rw [List.append_nil] at hd
  show decW (r.eff (repU op).1) r.err _ = _
  unfold decW
  rw [hd]
  dsimp only
  rw [rok_eff, h]
  rfl
theorem decP_enc {op : Int} {bs : LB} {q : RP} (h : decR (repU op) bs = some q) : (repU op).2 = true ∧ q.ok (repU op).1 = true ∧ encP (repU op).1 q = bs := by
  unfold decR at h
  split at h
  · rename_i h0
    cases bs with
    | nil => cases h
    | cons b rest =>
      dsimp only at h
      generalize hu : (if (b.toNat : Int) = 0 then (repU op).1 else 0) = u at h
      unfold decW at h
      split at h
      · rename_i hx
        injection h with h
        rw [Bool.and_eq_true, Bool.and_eq_true] at hx
        obtain ⟨⟨x1, x2⟩, x3⟩ := hx
        have hst : (decY u (b.toNat : Int) (rest, false)).2 = ([], false) := by
          refine Prod.ext ?_ ?_
          · exact List.isEmpty_iff.1 x2
          · simpa using x1
        obtain ⟨e1, e2, e3, e4⟩ := decY_back _ _ _ _ hst
        rw [h] at x3 e1 e4
        have he : q.eff (repU op).1 = u := by unfold RP.eff; rw [e4]; exact hu
        rw [← he, rok_eff] at x3
        rw [← he] at e1
        refine ⟨h0, x3, ?_⟩
        injection e1 with e1
        unfold encP
        rw [e4, ← List.append_nil (catP _), ← e1]
        congr 1
        unfold opB
        simp
      · cases h
  · cases h
structure RdP (w : World) (r : RP) (D A : Option Addr) (dn dc an ac : Nat) : Prop where
  d : Rd w D dn r.d
  a : Reads w w.heap.size 1 A an (svs r.names)
theorem RdP.below {w w' : World} {r : RP} {D A : Option Addr} {dn dc an ac : Nat} (h : RdP w r D A dn dc an ac) (hb : Below w.heap.size w w') : RdP w' r D A dn dc an ac := ⟨rdb h.d hb, (h.a.below hb).more hb.size⟩
theorem drS {op : Int} {bs : LB} {q : RP} (hd : decR (repU op) bs = some q) (A : Option Addr) (n c : Nat) (w : World) (ho : i64ok op) (hr : Rd w A n bs) (hn : n ≤ 100000) (hc : n ≤ c) : Calls Try.prog 22 #[.int .i64 op, .slice A n c] w fun e w' => ∃ D dn dc A an ac, e = .returned (.tuple #[q.v D A dn dc an ac, .int .i64 0]) ∧ RdP w' q D A dn dc an ac ∧ Below w.heap.size w w' :=
  (dr_any op bs A n c w ho hr hn hc).mono fun e w' h => by
    rw [hd] at h
    obtain ⟨D, dn, dc, B, bn, bc, h1, h2, h3, h4⟩ := h
    exact ⟨D, dn, dc, B, bn, bc, h1, ⟨Reads.of_own h2, Reads.of_own h3⟩, h4⟩
theorem drN {op : Int} {bs : LB} (hd : decR (repU op) bs = none) (A : Option Addr) (n c : Nat) (w : World) (ho : i64ok op) (hr : Rd w A n bs) (hn : n ≤ 100000) (hc : n ≤ c) : Calls Try.prog 22 #[.int .i64 op, .slice A n c] w fun e w' => ∃ D2 dn2 dc2 A2 an2 ac2, ∃ x : Int, e = .returned (.tuple #[.agg #[.int .i64 0, .int .i64 0, .int .i64 0, .int .i64 0, .slice D2 dn2 dc2, .slice A2 an2 ac2], .int .i64 x]) ∧ (x == 0) = false ∧ Below w.heap.size w w' :=
  (dr_any op bs A n c w ho hr hn hc).mono fun e w' h => by
    rw [hd] at h
    obtain ⟨D, dn, dc, B, bn, bc, h1, h2, h3, h4⟩ := h
    refine ⟨D, dn, dc, B, bn, bc, _, h1, ?_, h4⟩
    cases (repU op).2 <;> rfl
theorem RdP.lens {w : World} {r : RP} {D A : Option Addr} {dn dc an ac : Nat} (h : RdP w r D A dn dc an ac) {u : Int} (hk : r.ok u = true) : dn ≤ 2048 ∧ an ≤ 255 := by
  have hs := rok_small hk
  have h1 := h.d.len
  have h2 := rd_len h.a
  obtain ⟨s0, s1, s2, s3, s4, s5⟩ := hs
  omega
theorem encP_len {u : Int} {r : RP} (h : r.ok u = true) : (encP u r).length ≤ 100000 := by
  have := (rok_small h).sofar (r.eff u) [opB r.err] (by simp) 5
  rw [List.take_of_length_le (by exact Nat.le_refl 5)] at this
  unfold encP
  simp only [List.length_append, List.length_cons, List.length_nil] at this ⊢
  omega
theorem erY (op : Int) (r : RP) (D1 A1 : Option Addr) (dn1 dc1 an1 ac1 : Nat) (w : World) (h : RdP w r D1 A1 dn1 dc1 an1 ac1) (ho : i64ok op) (hq : (repU op).2 = true) (hok : r.ok (repU op).1 = true) (bs : LB) (hbs : encP (repU op).1 r = bs) :
    Calls Try.prog 20 #[.int .i64 op, .agg #[.int .i64 r.err, .int .i64 r.h, .int .i64 r.h2, .int .i64 r.n, .slice D1 dn1 dc1, .slice A1 an1 ac1]] w fun e w' => ∃ A' n' c', e = .returned (.tuple #[.slice A' n' c', .int .i64 0]) ∧ OwB w.heap.size w' A' n' c' bs ∧ Below w.heap.size w w' := by
  subst hbs
  exact er_yes op r D1 A1 dn1 dc1 an1 ac1 w h.d h.a ho (by have := h.lens hok; omega) hq hok
theorem erN (op : Int) (r : RP) (D1 A1 : Option Addr) (dn1 dc1 an1 ac1 : Nat) (w : World) (h : RdP w r D1 A1 dn1 dc1 an1 ac1) (ho : i64ok op) (hn : dn1 ≤ 5000 ∧ an1 ≤ 300) (hno : ((repU op).2 && r.ok (repU op).1) = false) :
    Calls Try.prog 20 #[.int .i64 op, .agg #[.int .i64 r.err, .int .i64 r.h, .int .i64 r.h2, .int .i64 r.n, .slice D1 dn1 dc1, .slice A1 an1 ac1]] w fun e w' => e = .returned (.tuple #[.slice none 0 0, .int .i64 2]) ∧ Below w.heap.size w w' :=
  er_no op r D1 A1 dn1 dc1 an1 ac1 w h.a h.d.len ho (by omega) hno
theorem repsV (r : RP) (D1 A1 D2 A2 : Option Addr) (dn1 dc1 an1 ac1 dn2 dc2 an2 ac2 : Nat) (w : World) (h : RdP w r D1 A1 dn1 dc1 an1 ac1) (h' : RdP w r D2 A2 dn2 dc2 an2 ac2) (hn : an1 ≤ 300) :
    Calls Try.prog 24 #[.agg #[.int .i64 r.err, .int .i64 r.h, .int .i64 r.h2, .int .i64 r.n, .slice D2 dn2 dc2, .slice A2 an2 ac2], .agg #[.int .i64 r.err, .int .i64 r.h, .int .i64 r.h2, .int .i64 r.n, .slice D1 dn1 dc1, .slice A1 an1 ac1]] w fun e w' => e = .returned (.bool true) ∧ Below w.heap.size w w' :=
  reps_eq r D2 A2 D1 A1 _ _ _ _ _ _ _ _ w h'.d h.d h'.a h.a (by
    have e1 := rd_len h.a
    have e4 := rd_len h'.a
    omega)
set_option maxRecDepth 100000 in
set_option maxHeartbeats 8000000 in
theorem answers_any (op : Int) (r : RP) (D1 A1 : Option Addr) (dn1 dc1 an1 ac1 : Nat) (B : Option Addr) (m k : Nat) (bs : LB) (w : World) (hop : i64ok op) (h : RdP w r D1 A1 dn1 dc1 an1 ac1) (hB : Rd w B m bs) (hmk : m ≤ k) :
    Calls Try.prog 6 #[.int .i64 op, r.v D1 A1 dn1 dc1 an1 ac1, .slice B m k] w fun e w' => e = .returned (.bool true) ∧ Below w.heap.size w w' := by
  have hb := (Below.refl w.heap.size w).alloc (Nat.le_refl _) (.cells #[.int .i64 r.err, .int .i64 r.h, .int .i64 r.h2, .int .i64 r.n, .slice D1 dn1 dc1, .slice A1 an1 ac1] 43)
  have HB := hide hb
  have HK := hide (Blk.new w 43 #[.int .i64 r.err, .int .i64 r.h, .int .i64 r.h2, .int .i64 r.n, .slice D1 dn1 dc1, .slice A1 an1 ac1])
  have HR := hide (h.below hb)
  have HX := hide (rdb hB hb)
  have hl := HK.out.lt
  have XS := hide (few_any r D1 A1 dn1 dc1 an1 ac1 _ HR.out.a)
  have HO := hide hop
  clear h hB hb hop
  unfold RP.v at XS ⊢
  obtain ⟨x0, x1, x2, x3, x4, x5⟩ := blk6 HK.out
  go_enter Try.func6, Try.ntmps6
  go_wp2_with fail
  refine XS.out.mono ?_
  rintro e w1 ⟨s, rfl, hs, hb⟩
  have HS := hide hs
  replace HB := hide (below_more HB.out (Nat.le_refl _) hb)
  replace HK := hide (HK.out.below hb hl)
  replace HR := hide (HR.out.below hb)
  replace HX := hide (rdb HX.out hb)
  clear hs hb XS x0 x1 x2 x3 x4 x5 hl
  cases s with
  | false =>
    go_wp2_with fail
    refine (heads_any _).mono ?_
    rintro e w2 ⟨rfl, hb⟩
    replace HB := hide (below_more HB.out (Nat.le_refl _) hb)
    clear hb
    go_wp2_with fail
    go_ret
    exact ⟨rfl, HB.out⟩
  | true =>
    have HN := hide (HS.out rfl)
    clear HS
    by_cases hm : (6000 : Int) < (m : Int)
    · go_wp2_with fail
      refine (heads_any _).mono ?_
      rintro e w2 ⟨rfl, hb⟩
      replace HB := hide (below_more HB.out (Nat.le_refl _) hb)
      clear hb
      go_wp2_with fail
      go_ret
      exact ⟨rfl, HB.out⟩
    · have hl := HK.out.lt
      obtain ⟨x0, x1, x2, x3, x4, x5⟩ := blk6 HK.out
      cases hok : ((repU op).2 && r.ok (repU op).1) with
      | false =>
        have XE := hide (erN op r D1 A1 dn1 dc1 an1 ac1 w1 HR.out HO.out HN.out hok)
        clear hok
        go_wp2_with fail
        refine XE.out.mono ?_
        rintro e w3 ⟨rfl, hb⟩
        replace HB := hide (below_more HB.out (Nat.le_refl _) hb)
        replace HX := hide (rdb HX.out hb)
        clear hb XE x0 x1 x2 x3 x4 x5 hl HK HR
        cases hd : decR (repU op) bs with
        | none =>
          have XD := hide (drN hd B m k w3 HO.out HX.out (by omega) hmk)
          clear hd
          go_wp2_with fail
          refine XD.out.mono ?_
          rintro e w5 ⟨D2, dn2, dc2, A2, an2, ac2, x, rfl, hx, hb⟩
          have hxn : (x != 0) = true := by simp [bne, hx]
          replace HB := hide (below_more HB.out (Nat.le_refl _) (below_more hb (Nat.le_refl _) ((Below.refl w5.heap.size w5).alloc (Nat.le_refl _) (.cells #[.int .i64 0, .int .i64 0, .int .i64 0, .int .i64 0, .slice D2 dn2 dc2, .slice A2 an2 ac2] 43))))
          clear hb XD
          go_wp2_with fail
          refine (heads_any _).mono ?_
          rintro e w6 ⟨rfl, hb⟩
          replace HB := hide (below_more HB.out (Nat.le_refl _) hb)
          clear hb
          go_wp2_with fail
          go_ret
          exact ⟨rfl, HB.out⟩
        | some q =>
          have HQ := hide (decP_enc hd)
          have XD := hide (drS hd B m k w3 HO.out HX.out (by omega) hmk)
          unfold RP.v at XD
          clear hd
          go_wp2_with fail
          refine XD.out.mono ?_
          rintro e w5 ⟨D2, dn2, dc2, A2, an2, ac2, rfl, hR2, hb⟩
          have ba := (Below.refl w5.heap.size w5).alloc (Nat.le_refl _) (.cells #[.int .i64 q.err, .int .i64 q.h, .int .i64 q.h2, .int .i64 q.n, .slice D2 dn2 dc2, .slice A2 an2 ac2] 43)
          have hb2 := below_more hb (Nat.le_refl _) ba
          have HR2 := hide (hR2.below ba)
          have HK2 := hide (Blk.new w5 43 #[.int .i64 q.err, .int .i64 q.h, .int .i64 q.h2, .int .i64 q.n, .slice D2 dn2 dc2, .slice A2 an2 ac2])
          replace HB := hide (below_more HB.out (Nat.le_refl _) hb2)
          replace HX := hide (rdb HX.out hb2)
          clear hb hb2 ba hR2 XD
          obtain ⟨y0, y1, y2, y3, y4, y5⟩ := blk6 HK2.out
          have hl2 := HK2.out.lt
          have XE := hide (erY op q D2 A2 dn2 dc2 an2 ac2 _ HR2.out HO.out HQ.out.1 HQ.out.2.1 bs HQ.out.2.2)
          go_wp2_with fail
          refine XE.out.mono ?_
          rintro e w6 ⟨A7, n7, c7, rfl, hO7, hb⟩
          replace HB := hide (below_more HB.out (Nat.le_refl _) hb)
          replace HX := hide (rdb HX.out hb)
          have XS := hide (same_any A7 B n7 m c7 k bs bs w6 _ _ hO7.rd HX.out)
          rw [show (bs == bs) = true by simp] at XS
          clear hb hO7 XE y0 y1 y2 y3 y4 y5 hl2
          go_wp2_with fail
          refine XS.out.mono ?_
          rintro e w7 ⟨rfl, rfl⟩
          clear XS
          go_wp2_with fail
          refine (heads_any _).mono ?_
          rintro e w8 ⟨rfl, hb⟩
          replace HB := hide (below_more HB.out (Nat.le_refl _) hb)
          clear hb
          go_wp2_with fail
          go_ret
          exact ⟨rfl, HB.out⟩
      | true =>
        have HOK := hide ((Bool.and_eq_true_iff).1 hok)
        have XE := hide (erY op r D1 A1 dn1 dc1 an1 ac1 w1 HR.out HO.out HOK.out.1 HOK.out.2 _ rfl)
        clear hok
        go_wp2_with fail
        refine XE.out.mono ?_
        rintro e w2 ⟨A5, n5, c5, rfl, hO5, hb⟩
        replace HB := hide (below_more HB.out (Nat.le_refl _) hb)
        replace HK := hide (HK.out.below hb hl)
        replace HR := hide (HR.out.below hb)
        replace HX := hide (rdb HX.out hb)
        have XD := hide (drS (encP_dec HOK.out.1 HOK.out.2) A5 n5 c5 w2 HO.out hO5.rd (by have := hO5.rd.len; have := encP_len HOK.out.2; omega) hO5.le)
        unfold RP.v at XD
        clear hb hO5 XE x0 x1 x2 x3 x4 x5 hl
        go_wp2_with fail
        refine XD.out.mono ?_
        rintro e w4 ⟨D2, dn2, dc2, A2, an2, ac2, rfl, hR2, hb⟩
        have ba := (Below.refl w4.heap.size w4).alloc (Nat.le_refl _) (.cells #[.int .i64 r.err, .int .i64 r.h, .int .i64 r.h2, .int .i64 r.n, .slice D2 dn2 dc2, .slice A2 an2 ac2] 43)
        have hb2 := below_more hb (Nat.le_refl _) ba
        have HR2 := hide (hR2.below ba)
        have HK2 := hide (Blk.new w4 43 #[.int .i64 r.err, .int .i64 r.h, .int .i64 r.h2, .int .i64 r.n, .slice D2 dn2 dc2, .slice A2 an2 ac2])
        replace HB := hide (below_more HB.out (Nat.le_refl _) hb2)
        replace HK := hide (HK.out.below hb2 HK.out.lt)
        replace HR := hide (HR.out.below hb2)
        replace HX := hide (rdb HX.out hb2)
        clear hb hb2 ba hR2 XD
        obtain ⟨x0, x1, x2, x3, x4, x5⟩ := blk6 HK.out
        obtain ⟨y0, y1, y2, y3, y4, y5⟩ := blk6 HK2.out
        have hl := HK.out.lt
        have hl2 := HK2.out.lt
        have XM := hide (repsV r D1 A1 D2 A2 dn1 dc1 an1 ac1 dn2 dc2 an2 ac2 _ HR.out HR2.out HN.out.2)
        go_wp2_with fail
        refine XM.out.mono ?_
        rintro e w3 ⟨rfl, hb⟩
        replace HB := hide (below_more HB.out (Nat.le_refl _) hb)
        replace HX := hide (rdb HX.out hb)
        clear hb XM x0 x1 x2 x3 x4 x5 y0 y1 y2 y3 y4 y5 hl hl2 HK HK2 HR HR2
        cases hd : decR (repU op) bs with
        | none =>
          have XD := hide (drN hd B m k w3 HO.out HX.out (by omega) hmk)
          clear hd
          go_wp2_with fail
          refine XD.out.mono ?_
          rintro e w5 ⟨D2, dn2, dc2, A2, an2, ac2, x, rfl, hx, hb⟩
          have hxn : (x != 0) = true := by simp [bne, hx]
          replace HB := hide (below_more HB.out (Nat.le_refl _) (below_more hb (Nat.le_refl _) ((Below.refl w5.heap.size w5).alloc (Nat.le_refl _) (.cells #[.int .i64 0, .int .i64 0, .int .i64 0, .int .i64 0, .slice D2 dn2 dc2, .slice A2 an2 ac2] 43))))
          clear hb XD
          go_wp2_with fail
          refine (heads_any _).mono ?_
          rintro e w6 ⟨rfl, hb⟩
          replace HB := hide (below_more HB.out (Nat.le_refl _) hb)
          clear hb
          go_wp2_with fail
          go_ret
          exact ⟨rfl, HB.out⟩
        | some q =>
          have HQ := hide (decP_enc hd)
          have XD := hide (drS hd B m k w3 HO.out HX.out (by omega) hmk)
          unfold RP.v at XD
          clear hd
          go_wp2_with fail
          refine XD.out.mono ?_
          rintro e w5 ⟨D2, dn2, dc2, A2, an2, ac2, rfl, hR2, hb⟩
          have ba := (Below.refl w5.heap.size w5).alloc (Nat.le_refl _) (.cells #[.int .i64 q.err, .int .i64 q.h, .int .i64 q.h2, .int .i64 q.n, .slice D2 dn2 dc2, .slice A2 an2 ac2] 43)
          have hb2 := below_more hb (Nat.le_refl _) ba
          have HR2 := hide (hR2.below ba)
          have HK2 := hide (Blk.new w5 43 #[.int .i64 q.err, .int .i64 q.h, .int .i64 q.h2, .int .i64 q.n, .slice D2 dn2 dc2, .slice A2 an2 ac2])
          replace HB := hide (below_more HB.out (Nat.le_refl _) hb2)
          replace HX := hide (rdb HX.out hb2)
          clear hb hb2 ba hR2 XD
          obtain ⟨y0, y1, y2, y3, y4, y5⟩ := blk6 HK2.out
          have hl2 := HK2.out.lt
          have XE := hide (erY op q D2 A2 dn2 dc2 an2 ac2 _ HR2.out HO.out HQ.out.1 HQ.out.2.1 bs HQ.out.2.2)
          go_wp2_with fail
          refine XE.out.mono ?_
          rintro e w6 ⟨A7, n7, c7, rfl, hO7, hb⟩
          replace HB := hide (below_more HB.out (Nat.le_refl _) hb)
          replace HX := hide (rdb HX.out hb)
          have XS := hide (same_any A7 B n7 m c7 k bs bs w6 _ _ hO7.rd HX.out)
          rw [show (bs == bs) = true by simp] at XS
          clear hb hO7 XE y0 y1 y2 y3 y4 y5 hl2
          go_wp2_with fail
          refine XS.out.mono ?_
          rintro e w7 ⟨rfl, rfl⟩
          clear XS
          go_wp2_with fail
          refine (heads_any _).mono ?_
          rintro e w8 ⟨rfl, hb⟩
          replace HB := hide (below_more HB.out (Nat.le_refl _) hb)
          clear hb
          go_wp2_with fail
          go_ret
          exact ⟨rfl, HB.out⟩
end Go.Proofs.Ytedacfjkbfgikaa
