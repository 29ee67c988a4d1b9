/- The law Back. -/
import Derived.Test.YtedacfjkbfgikaaPrHd
namespace Go.Proofs.Ytedacfjkbfgikaa
open Go.RowKit
set_option linter.unusedVariables false
theorem opB_nat {op : Int} (h1 : 0 ≤ op) (h2 : op ≤ 255) : ((opB op).toNat : Int) = op := by
  simp [opB]
  omega
theorem enc_dec {r : RQ} (h : r.ok = true) : decP (encQ r) = some r := by
  have hp := ok_parts h
  obtain ⟨o1, o2⟩ := op_range hp.1
  unfold encQ decP
  dsimp only
  rw [opB_nat (by omega) (by omega), if_pos hp.1]
  have hd := decX_app (reqU r.op).1 r [] (ok_fit h) (ok_zer h)
  rw [List.append_nil] at hd
  unfold decV
  rw [hd]
  dsimp only
  rw [h]
  rfl
theorem dec_enc {bs : LB} {q : RQ} (h : decP bs = some q) : q.ok = true ∧ encQ q = bs := by
  cases bs with
  | nil => cases h
  | cons b rest =>
    unfold decP at h
    dsimp only at h
    split at h
    · rename_i hq
      unfold decV at h
      split at h
      · rename_i hx
        injection h with h
        rw [Bool.and_eq_true, Bool.and_eq_true] at hx
        obtain ⟨⟨x1, x2⟩, x3⟩ := hx
        have hst : (decX (reqU (b.toNat : Int)).1 (b.toNat : Int) (rest, false)).2 = ([], false) := by
          refine Prod.ext ?_ ?_
          · exact List.isEmpty_iff.1 x2
          · simpa using x1
        obtain ⟨e1, e2, e3, e4⟩ := decX_back _ _ _ _ hst
        rw [h] at x3 e1 e4
        refine ⟨x3, ?_⟩
        injection e1 with e1
        unfold encQ
        rw [e4, ← List.append_nil (catP _), ← e1]
        congr 1
        unfold opB
        simp
      · cases h
    · cases h
theorem dec_some {bs : LB} {q : RQ} (hd : decP bs = some q) (A : Option Addr) (n c : Nat) (w : World) (hr : Rd w A n bs) (hn : n ≤ 100000) (hc : n ≤ c) : Calls Try.prog 11 #[.slice A n c] w fun e w' => ∃ D dn dc A an ac E en ec F fn fc, e = .returned (.tuple #[q.v D A E F dn dc an ac en ec fn fc, .int .i64 0]) ∧ RdQ w' q D A E F dn dc an ac en ec fn fc ∧ Below w.heap.size w w' :=
  (dec_any bs A n c w hr hn hc).mono fun e w' h => by
    rw [hd] at h
    obtain ⟨D, dn, dc, B, bn, bc, E, en, ec, F, fn, fc, h1, h2, h3, h4, h5, h6⟩ := h
    exact ⟨D, dn, dc, B, bn, bc, E, en, ec, F, fn, fc, h1, ⟨Reads.of_own h2, Reads.of_own h3, Reads.of_own h4, Reads.of_own h5⟩, h6⟩
theorem dec_no {bs : LB} (hd : decP bs = none) (A : Option Addr) (n c : Nat) (w : World) (hr : Rd w A n bs) (hn : n ≤ 100000) (hc : n ≤ c) : Calls Try.prog 11 #[.slice A n c] w fun e w' => ∃ D2 dn2 dc2 A2 an2 ac2 E2 en2 ec2 F2 fn2 fc2, e = .returned (.tuple #[.agg #[.int .i64 0, .string ⟨#[]⟩, .string ⟨#[]⟩, .int .i64 0, .int .i64 0, .int .i64 0, .slice D2 dn2 dc2, .slice A2 an2 ac2, .slice E2 en2 ec2, .slice F2 fn2 fc2], .int .i64 5]) ∧ Below w.heap.size w w' :=
  (dec_any bs A n c w hr hn hc).mono fun e w' h => by
    rw [hd] at h
    obtain ⟨D, dn, dc, B, bn, bc, E, en, ec, F, fn, fc, h1, h2, h3, h4, h5, h6⟩ := h
    exact ⟨D, dn, dc, B, bn, bc, E, en, ec, F, fn, fc, h1, h6⟩
theorem RdQ.lens {w : World} {r : RQ} {D A E F : Option Addr} {dn dc an ac en ec fn fc : Nat} (h : RdQ w r D A E F dn dc an ac en ec fn fc) (hk : r.ok = true) : dn ≤ 2048 ∧ an ≤ 16 ∧ en ≤ 32 ∧ fn ≤ 3 := by
  have hs := ok_small hk
  have h1 := h.d.1
  have h2 := rd_len h.a
  have h3 := rd_len h.e
  have h4 := ri_len h.f
  rw [bv_length] at h1
  obtain ⟨s0, s1, s2, s3, s4, s5, s6, s7, s8, s9⟩ := hs
  omega
theorem encQ_len {r : RQ} (h : r.ok = true) : (encQ r).length ≤ 100000 := by
  have := (ok_small h).sofar (reqU r.op).1 [opB r.op] (by simp) 9
  rw [List.take_of_length_le (by exact Nat.le_refl 9)] at this
  unfold encQ
  simp only [List.length_append, List.length_cons, List.length_nil] at this ⊢
  omega
/-- Encode, Check of a request that is valid, or is not. -/
theorem encV_yes (r : RQ) (D1 A1 E1 F1 : Option Addr) (dn1 dc1 an1 ac1 en1 ec1 fn1 fc1 : Nat) (w : World) (h : RdQ w r D1 A1 E1 F1 dn1 dc1 an1 ac1 en1 ec1 fn1 fc1) (hok : r.ok = true) :
    Calls Try.prog 9 #[.agg #[.int .i64 r.op, .string ⟨r.p.toArray⟩, .string ⟨r.p2.toArray⟩, .int .i64 r.h, .int .i64 r.n, .int .i64 r.fl, .slice D1 dn1 dc1, .slice A1 an1 ac1, .slice E1 en1 ec1, .slice F1 fn1 fc1]] w fun e w' => ∃ A' n' c', e = .returned (.tuple #[.slice A' n' c', .int .i64 0]) ∧ OwB w.heap.size w' A' n' c' (encQ r) ∧ Below w.heap.size w w' :=
  enc_yes r D1 A1 E1 F1 dn1 dc1 an1 ac1 en1 ec1 fn1 fc1 w h.d h.a h.e h.f (ok_small hok).1 (by have := h.lens hok; omega) hok
theorem chkV (r : RQ) (D1 A1 E1 F1 : Option Addr) (dn1 dc1 an1 ac1 en1 ec1 fn1 fc1 : Nat) (w : World) (h : RdQ w r D1 A1 E1 F1 dn1 dc1 an1 ac1 en1 ec1 fn1 fc1) (ho : i64ok r.op) (hn : dn1 ≤ 100000 ∧ an1 ≤ 1000 ∧ en1 ≤ 1000 ∧ fn1 ≤ 100000) (b : Bool) (hb : r.ok = b) :
    Calls Try.prog 15 #[.agg #[.int .i64 r.op, .string ⟨r.p.toArray⟩, .string ⟨r.p2.toArray⟩, .int .i64 r.h, .int .i64 r.n, .int .i64 r.fl, .slice D1 dn1 dc1, .slice A1 an1 ac1, .slice E1 en1 ec1, .slice F1 fn1 fc1]] w fun e w' => e = .returned (.bool b) ∧ Below w.heap.size w w' := by
  subst hb
  exact check_any r D1 A1 E1 F1 dn1 dc1 an1 ac1 en1 ec1 fn1 fc1 w h.d h.a h.e h.f ho hn
theorem sameV (r : RQ) (D1 A1 E1 F1 D2 A2 E2 F2 : Option Addr) (dn1 dc1 an1 ac1 en1 ec1 fn1 fc1 dn2 dc2 an2 ac2 en2 ec2 fn2 fc2 : Nat) (w : World) (h : RdQ w r D1 A1 E1 F1 dn1 dc1 an1 ac1 en1 ec1 fn1 fc1) (h' : RdQ w r D2 A2 E2 F2 dn2 dc2 an2 ac2 en2 ec2 fn2 fc2) (hn : an1 ≤ 1000 ∧ en1 ≤ 1000 ∧ fn1 ≤ 100000) :
    Calls Try.prog 14 #[.agg #[.int .i64 r.op, .string ⟨r.p.toArray⟩, .string ⟨r.p2.toArray⟩, .int .i64 r.h, .int .i64 r.n, .int .i64 r.fl, .slice D2 dn2 dc2, .slice A2 an2 ac2, .slice E2 en2 ec2, .slice F2 fn2 fc2], .agg #[.int .i64 r.op, .string ⟨r.p.toArray⟩, .string ⟨r.p2.toArray⟩, .int .i64 r.h, .int .i64 r.n, .int .i64 r.fl, .slice D1 dn1 dc1, .slice A1 an1 ac1, .slice E1 en1 ec1, .slice F1 fn1 fc1]] w fun e w' => e = .returned (.bool true) ∧ Below w.heap.size w w' :=
  sameq_eq r D2 A2 E2 F2 D1 A1 E1 F1 _ _ _ _ _ _ _ _ _ _ _ _ _ _ _ _ w h' h (by
    have e1 := rd_len h.a
    have e2 := rd_len h.e
    have e3 := ri_len h.f
    have e4 := rd_len h'.a
    have e5 := rd_len h'.e
    have e6 := ri_len h'.f
    omega)
set_option maxRecDepth 100000 in
set_option maxHeartbeats 8000000 in
/-- From where the bytes are decoded. -/
theorem back_any (r : RQ) (D1 A1 E1 F1 : Option Addr) (dn1 dc1 an1 ac1 en1 ec1 fn1 fc1 : Nat) (B : Option Addr) (m k : Nat) (bs : LB) (w : World) (h : RdQ w r D1 A1 E1 F1 dn1 dc1 an1 ac1 en1 ec1 fn1 fc1) (hB : Rd w B m bs) (hmk : m ≤ k) (ho : i64ok r.op) :
    Calls Try.prog 5 #[r.v D1 A1 E1 F1 dn1 dc1 an1 ac1 en1 ec1 fn1 fc1, .slice B m k] w fun e w' => e = .returned (.bool true) ∧ Below w.heap.size w w' := by
  have hb := (Below.refl w.heap.size w).alloc (Nat.le_refl _) (.cells #[.int .i64 r.op, .string ⟨r.p.toArray⟩, .string ⟨r.p2.toArray⟩, .int .i64 r.h, .int .i64 r.n, .int .i64 r.fl, .slice D1 dn1 dc1, .slice A1 an1 ac1, .slice E1 en1 ec1, .slice F1 fn1 fc1] 26)
  have HB := hide hb
  have HK := hide (Blk.new w 26 #[.int .i64 r.op, .string ⟨r.p.toArray⟩, .string ⟨r.p2.toArray⟩, .int .i64 r.h, .int .i64 r.n, .int .i64 r.fl, .slice D1 dn1 dc1, .slice A1 an1 ac1, .slice E1 en1 ec1, .slice F1 fn1 fc1])
  have HR := hide (h.below hb)
  have HX := hide (rdb hB hb)
  have hl := HK.out.lt
  have XS := hide (small_any r D1 A1 E1 F1 dn1 dc1 an1 ac1 en1 ec1 fn1 fc1 _ HR.out)
  have HO := hide ho
  clear h hB hb ho
  unfold RQ.v at XS ⊢
  obtain ⟨x0, x1, x2, x3, x4, x5, x6, x7, x8, x9⟩ := blk10 HK.out
  go_enter Try.func5, Try.ntmps5
  go_wp2_with fail
  refine XS.out.mono ?_
  rintro e w1 ⟨s, rfl, hs, hb⟩
  have HS := hide hs
  replace HB := hide (below_more HB.out (Nat.le_refl _) hb)
  replace HK := hide (HK.out.below hb hl)
  replace HR := hide (HR.out.below hb)
  replace HX := hide (rdb HX.out hb)
  clear hs hb XS x0 x1 x2 x3 x4 x5 x6 x7 x8 x9 hl
  cases s with
  | false =>
    go_wp2_with fail
    refine (heads_any _).mono ?_
    rintro e w2 ⟨rfl, hb⟩
    replace HB := hide (below_more HB.out (Nat.le_refl _) hb)
    clear hb
    go_wp2_with fail
    go_ret
    exact ⟨rfl, HB.out⟩
  | true =>
    have HN := hide (HS.out rfl)
    clear HS
    by_cases hm : (6000 : Int) < (m : Int)
    · go_wp2_with fail
      refine (heads_any _).mono ?_
      rintro e w2 ⟨rfl, hb⟩
      replace HB := hide (below_more HB.out (Nat.le_refl _) hb)
      clear hb
      go_wp2_with fail
      go_ret
      exact ⟨rfl, HB.out⟩
    · have hl := HK.out.lt
      obtain ⟨x0, x1, x2, x3, x4, x5, x6, x7, x8, x9⟩ := blk10 HK.out
      cases hok : r.ok with
      | false =>
        have XE := hide (enc_no r D1 A1 E1 F1 dn1 dc1 an1 ac1 en1 ec1 fn1 fc1 w1 HR.out.d HR.out.a HR.out.e HR.out.f HO.out (by have := HN.out; omega) hok)
        unfold RQ.v at XE
        have HOK := hide hok
        clear hok
        go_wp2_with fail
        refine XE.out.mono ?_
        rintro e w2 ⟨rfl, hb⟩
        replace HB := hide (below_more HB.out (Nat.le_refl _) hb)
        replace HK := hide (HK.out.below hb hl)
        replace HR := hide (HR.out.below hb)
        replace HX := hide (rdb HX.out hb)
        clear hb XE x0 x1 x2 x3 x4 x5 x6 x7 x8 x9 hl
        have hl := HK.out.lt
        obtain ⟨x0, x1, x2, x3, x4, x5, x6, x7, x8, x9⟩ := blk10 HK.out
        have XC := hide (chkV r D1 A1 E1 F1 dn1 dc1 an1 ac1 en1 ec1 fn1 fc1 w2 HR.out HO.out (by have := HN.out; omega) false HOK.out)
        go_wp2_with fail
        refine XC.out.mono ?_
        rintro e w3 ⟨rfl, hb⟩
        replace HB := hide (below_more HB.out (Nat.le_refl _) hb)
        replace HX := hide (rdb HX.out hb)
        clear hb XC x0 x1 x2 x3 x4 x5 x6 x7 x8 x9 hl HK HR
        cases hd : decP bs with
        | none =>
          have XD := hide (dec_no hd B m k w3 HX.out (by omega) hmk)
          clear hd
          go_wp2_with fail
          refine XD.out.mono ?_
          rintro e w5 ⟨D2, dn2, dc2, A2, an2, ac2, E2, en2, ec2, F2, fn2, fc2, rfl, hb⟩
          replace HB := hide (below_more HB.out (Nat.le_refl _) (below_more hb (Nat.le_refl _) ((Below.refl w5.heap.size w5).alloc (Nat.le_refl _) (.cells #[.int .i64 0, .string ⟨#[]⟩, .string ⟨#[]⟩, .int .i64 0, .int .i64 0, .int .i64 0, .slice D2 dn2 dc2, .slice A2 an2 ac2, .slice E2 en2 ec2, .slice F2 fn2 fc2] 26))))
          have hk := (Blk.new w5 26 #[.int .i64 0, .string ⟨#[]⟩, .string ⟨#[]⟩, .int .i64 0, .int .i64 0, .int .i64 0, .slice D2 dn2 dc2, .slice A2 an2 ac2, .slice E2 en2 ec2, .slice F2 fn2 fc2]).cell 0
          simp only [List.getElem?_toArray, List.getElem?_cons_zero] at hk
          clear hb XD
          go_wp2_with fail
          refine (heads_any _).mono ?_
          rintro e w6 ⟨rfl, hb⟩
          replace HB := hide (below_more HB.out (Nat.le_refl _) hb)
          clear hb hk
          go_wp2_with fail
          go_ret
          exact ⟨rfl, HB.out⟩
        | some q =>
          have HQ := hide (dec_enc hd)
          have XD := hide (dec_some hd B m k w3 HX.out (by omega) hmk)
          unfold RQ.v at XD
          clear hd
          go_wp2_with fail
          refine XD.out.mono ?_
          rintro e w5 ⟨D2, dn2, dc2, A2, an2, ac2, E2, en2, ec2, F2, fn2, fc2, rfl, hR2, hb⟩
          have ba := (Below.refl w5.heap.size w5).alloc (Nat.le_refl _) (.cells #[.int .i64 q.op, .string ⟨q.p.toArray⟩, .string ⟨q.p2.toArray⟩, .int .i64 q.h, .int .i64 q.n, .int .i64 q.fl, .slice D2 dn2 dc2, .slice A2 an2 ac2, .slice E2 en2 ec2, .slice F2 fn2 fc2] 26)
          have hb2 := below_more hb (Nat.le_refl _) ba
          have HR2 := hide (hR2.below ba)
          have HK2 := hide (Blk.new w5 26 #[.int .i64 q.op, .string ⟨q.p.toArray⟩, .string ⟨q.p2.toArray⟩, .int .i64 q.h, .int .i64 q.n, .int .i64 q.fl, .slice D2 dn2 dc2, .slice A2 an2 ac2, .slice E2 en2 ec2, .slice F2 fn2 fc2])
          replace HB := hide (below_more HB.out (Nat.le_refl _) hb2)
          replace HX := hide (rdb HX.out hb2)
          clear hb hb2 ba hR2 XD
          obtain ⟨y0, y1, y2, y3, y4, y5, y6, y7, y8, y9⟩ := blk10 HK2.out
          have hl2 := HK2.out.lt
          have XE := hide (encV_yes q D2 A2 E2 F2 dn2 dc2 an2 ac2 en2 ec2 fn2 fc2 _ HR2.out HQ.out.1)
          rw [HQ.out.2] at XE
          go_wp2_with fail
          refine XE.out.mono ?_
          rintro e w6 ⟨A7, n7, c7, rfl, hO7, hb⟩
          replace HB := hide (below_more HB.out (Nat.le_refl _) hb)
          replace HX := hide (rdb HX.out hb)
          replace HK2 := hide (HK2.out.below hb hl2)
          replace HR2 := hide (HR2.out.below hb)
          have XS := hide (same_any A7 B n7 m c7 k bs bs w6 _ _ hO7.rd HX.out)
          rw [show (bs == bs) = true by simp] at XS
          clear hb hO7 XE y0 y1 y2 y3 y4 y5 y6 y7 y8 y9 hl2
          obtain ⟨y0, y1, y2, y3, y4, y5, y6, y7, y8, y9⟩ := blk10 HK2.out
          have XC := hide (chkV q D2 A2 E2 F2 dn2 dc2 an2 ac2 en2 ec2 fn2 fc2 w6 HR2.out (ok_small HQ.out.1).1 (by have := HR2.out.lens HQ.out.1; omega) true HQ.out.1)
          go_wp2_with fail
          refine XS.out.mono ?_
          rintro e w7 ⟨rfl, rfl⟩
          go_wp2_with fail
          refine XC.out.mono ?_
          rintro e w7 ⟨rfl, hb⟩
          replace HB := hide (below_more HB.out (Nat.le_refl _) hb)
          clear hb XC XS y0 y1 y2 y3 y4 y5 y6 y7 y8 y9
          go_wp2_with fail
          refine (heads_any _).mono ?_
          rintro e w8 ⟨rfl, hb⟩
          replace HB := hide (below_more HB.out (Nat.le_refl _) hb)
          clear hb
          go_wp2_with fail
          go_ret
          exact ⟨rfl, HB.out⟩
      | true =>
        have XE := hide (encV_yes r D1 A1 E1 F1 dn1 dc1 an1 ac1 en1 ec1 fn1 fc1 w1 HR.out hok)
        have HOK := hide hok
        clear hok
        go_wp2_with fail
        refine XE.out.mono ?_
        rintro e w2 ⟨A5, n5, c5, rfl, hO5, hb⟩
        have HO5 := hide hO5
        replace HB := hide (below_more HB.out (Nat.le_refl _) hb)
        replace HK := hide (HK.out.below hb hl)
        replace HR := hide (HR.out.below hb)
        replace HX := hide (rdb HX.out hb)
        clear hb hO5 XE x0 x1 x2 x3 x4 x5 x6 x7 x8 x9 hl
        have hl := HK.out.lt
        obtain ⟨x0, x1, x2, x3, x4, x5, x6, x7, x8, x9⟩ := blk10 HK.out
        have XC := hide (chkV r D1 A1 E1 F1 dn1 dc1 an1 ac1 en1 ec1 fn1 fc1 w2 HR.out HO.out (by have := HN.out; omega) true HOK.out)
        go_wp2_with fail
        refine XC.out.mono ?_
        rintro e w3 ⟨rfl, hb⟩
        replace HB := hide (below_more HB.out (Nat.le_refl _) hb)
        replace HK := hide (HK.out.below hb hl)
        replace HR := hide (HR.out.below hb)
        replace HX := hide (rdb HX.out hb)
        have HO6 := hide (HO5.out.below hb)
        have XD := hide (dec_some (enc_dec HOK.out) A5 n5 c5 w3 HO6.out.rd (by have := HO6.out.rd.len; have := encQ_len HOK.out; omega) HO6.out.le)
        unfold RQ.v at XD
        clear hb XC x0 x1 x2 x3 x4 x5 x6 x7 x8 x9 hl HO5
        go_wp2_with fail
        refine XD.out.mono ?_
        rintro e w4 ⟨D2, dn2, dc2, A2, an2, ac2, E2, en2, ec2, F2, fn2, fc2, rfl, hR2, hb⟩
        have hb2 := below_more hb (Nat.le_refl _) ((Below.refl w4.heap.size w4).alloc (Nat.le_refl _) (.cells #[.int .i64 r.op, .string ⟨r.p.toArray⟩, .string ⟨r.p2.toArray⟩, .int .i64 r.h, .int .i64 r.n, .int .i64 r.fl, .slice D2 dn2 dc2, .slice A2 an2 ac2, .slice E2 en2 ec2, .slice F2 fn2 fc2] 26))
        have HR2 := hide (hR2.below ((Below.refl w4.heap.size w4).alloc (Nat.le_refl _) (.cells #[.int .i64 r.op, .string ⟨r.p.toArray⟩, .string ⟨r.p2.toArray⟩, .int .i64 r.h, .int .i64 r.n, .int .i64 r.fl, .slice D2 dn2 dc2, .slice A2 an2 ac2, .slice E2 en2 ec2, .slice F2 fn2 fc2] 26)))
        have HK2 := hide (Blk.new w4 26 #[.int .i64 r.op, .string ⟨r.p.toArray⟩, .string ⟨r.p2.toArray⟩, .int .i64 r.h, .int .i64 r.n, .int .i64 r.fl, .slice D2 dn2 dc2, .slice A2 an2 ac2, .slice E2 en2 ec2, .slice F2 fn2 fc2])
        replace HB := hide (below_more HB.out (Nat.le_refl _) hb2)
        replace HK := hide (HK.out.below hb2 HK.out.lt)
        replace HR := hide (HR.out.below hb2)
        replace HX := hide (rdb HX.out hb2)
        clear hb hb2 hR2 XD HO6
        obtain ⟨x0, x1, x2, x3, x4, x5, x6, x7, x8, x9⟩ := blk10 HK.out
        obtain ⟨y0, y1, y2, y3, y4, y5, y6, y7, y8, y9⟩ := blk10 HK2.out
        have hl := HK.out.lt
        have hl2 := HK2.out.lt
        have XM := hide (sameV r D1 A1 E1 F1 D2 A2 E2 F2 dn1 dc1 an1 ac1 en1 ec1 fn1 fc1 dn2 dc2 an2 ac2 en2 ec2 fn2 fc2 _ HR.out HR2.out (by have := HN.out; omega))
        go_wp2_with fail
        refine XM.out.mono ?_
        rintro e w3 ⟨rfl, hb⟩
        replace HB := hide (below_more HB.out (Nat.le_refl _) hb)
        replace HX := hide (rdb HX.out hb)
        clear hb XM x0 x1 x2 x3 x4 x5 x6 x7 x8 x9 y0 y1 y2 y3 y4 y5 y6 y7 y8 y9 hl hl2 HK HK2 HR HR2
        cases hd : decP bs with
        | none =>
          have XD := hide (dec_no hd B m k w3 HX.out (by omega) hmk)
          clear hd
          go_wp2_with fail
          refine XD.out.mono ?_
          rintro e w5 ⟨D2, dn2, dc2, A2, an2, ac2, E2, en2, ec2, F2, fn2, fc2, rfl, hb⟩
          replace HB := hide (below_more HB.out (Nat.le_refl _) (below_more hb (Nat.le_refl _) ((Below.refl w5.heap.size w5).alloc (Nat.le_refl _) (.cells #[.int .i64 0, .string ⟨#[]⟩, .string ⟨#[]⟩, .int .i64 0, .int .i64 0, .int .i64 0, .slice D2 dn2 dc2, .slice A2 an2 ac2, .slice E2 en2 ec2, .slice F2 fn2 fc2] 26))))
          have hk := (Blk.new w5 26 #[.int .i64 0, .string ⟨#[]⟩, .string ⟨#[]⟩, .int .i64 0, .int .i64 0, .int .i64 0, .slice D2 dn2 dc2, .slice A2 an2 ac2, .slice E2 en2 ec2, .slice F2 fn2 fc2]).cell 0
          simp only [List.getElem?_toArray, List.getElem?_cons_zero] at hk
          clear hb XD
          go_wp2_with fail
          refine (heads_any _).mono ?_
          rintro e w6 ⟨rfl, hb⟩
          replace HB := hide (below_more HB.out (Nat.le_refl _) hb)
          clear hb hk
          go_wp2_with fail
          go_ret
          exact ⟨rfl, HB.out⟩
        | some q =>
          have HQ := hide (dec_enc hd)
          have XD := hide (dec_some hd B m k w3 HX.out (by omega) hmk)
          unfold RQ.v at XD
          clear hd
          go_wp2_with fail
          refine XD.out.mono ?_
          rintro e w5 ⟨D2, dn2, dc2, A2, an2, ac2, E2, en2, ec2, F2, fn2, fc2, rfl, hR2, hb⟩
          have ba := (Below.refl w5.heap.size w5).alloc (Nat.le_refl _) (.cells #[.int .i64 q.op, .string ⟨q.p.toArray⟩, .string ⟨q.p2.toArray⟩, .int .i64 q.h, .int .i64 q.n, .int .i64 q.fl, .slice D2 dn2 dc2, .slice A2 an2 ac2, .slice E2 en2 ec2, .slice F2 fn2 fc2] 26)
          have hb2 := below_more hb (Nat.le_refl _) ba
          have HR2 := hide (hR2.below ba)
          have HK2 := hide (Blk.new w5 26 #[.int .i64 q.op, .string ⟨q.p.toArray⟩, .string ⟨q.p2.toArray⟩, .int .i64 q.h, .int .i64 q.n, .int .i64 q.fl, .slice D2 dn2 dc2, .slice A2 an2 ac2, .slice E2 en2 ec2, .slice F2 fn2 fc2])
          replace HB := hide (below_more HB.out (Nat.le_refl _) hb2)
          replace HX := hide (rdb HX.out hb2)
          clear hb hb2 ba hR2 XD
          obtain ⟨y0, y1, y2, y3, y4, y5, y6, y7, y8, y9⟩ := blk10 HK2.out
          have hl2 := HK2.out.lt
          have XE := hide (encV_yes q D2 A2 E2 F2 dn2 dc2 an2 ac2 en2 ec2 fn2 fc2 _ HR2.out HQ.out.1)
          rw [HQ.out.2] at XE
          go_wp2_with fail
          refine XE.out.mono ?_
          rintro e w6 ⟨A7, n7, c7, rfl, hO7, hb⟩
          replace HB := hide (below_more HB.out (Nat.le_refl _) hb)
          replace HX := hide (rdb HX.out hb)
          replace HK2 := hide (HK2.out.below hb hl2)
          replace HR2 := hide (HR2.out.below hb)
          have XS := hide (same_any A7 B n7 m c7 k bs bs w6 _ _ hO7.rd HX.out)
          rw [show (bs == bs) = true by simp] at XS
          clear hb hO7 XE y0 y1 y2 y3 y4 y5 y6 y7 y8 y9 hl2
          obtain ⟨y0, y1, y2, y3, y4, y5, y6, y7, y8, y9⟩ := blk10 HK2.out
          have XC := hide (chkV q D2 A2 E2 F2 dn2 dc2 an2 ac2 en2 ec2 fn2 fc2 w6 HR2.out (ok_small HQ.out.1).1 (by have := HR2.out.lens HQ.out.1; omega) true HQ.out.1)
          go_wp2_with fail
          refine XS.out.mono ?_
          rintro e w7 ⟨rfl, rfl⟩
          go_wp2_with fail
          refine XC.out.mono ?_
          rintro e w7 ⟨rfl, hb⟩
          replace HB := hide (below_more HB.out (Nat.le_refl _) hb)
          clear hb XC XS y0 y1 y2 y3 y4 y5 y6 y7 y8 y9
          go_wp2_with fail
          refine (heads_any _).mono ?_
          rintro e w8 ⟨rfl, hb⟩
          replace HB := hide (below_more HB.out (Nat.le_refl _) hb)
          clear hb
          go_wp2_with fail
          go_ret
          exact ⟨rfl, HB.out⟩
end Go.Proofs.Ytedacfjkbfgikaa
