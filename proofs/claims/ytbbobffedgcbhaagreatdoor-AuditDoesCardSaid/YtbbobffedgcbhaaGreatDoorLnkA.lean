/- Root, Link of the program and of the document; the document's Chain. -/
import Derived.Test.YtbbobffedgcbhaaGreatDoorSrS8
import Derived.Test.YtbbobffedgcbhaaGreatDoorShaC8
import Derived.Test.YtbbobffedgcbhaaGreatDoorChP
import Derived.Test.YtbbobffedgcbhaaGreatDoorRefRe
namespace Go.Proofs.YtbbobffedgcbhaaGreatDoor
open Go.RowKit
set_option linter.unusedVariables false
set_option maxRecDepth 10000 in
set_option maxHeartbeats 2000000 in
theorem rchain_any (A B : Option Addr) (n c m d : Nat) (a b : LB) (w : World) (hr : Rd w A n a) (hn : n ≤ 40000) (hs : Rd w B m b) (hm : m ≤ 40000) :
    Calls Tryz.prog 54 #[.slice A n c, .slice B m d] w (RetSum w (a ++ b)) := by
  obtain ⟨i0, hi, hz0, hz1, hz2⟩ := info_parts infoU8
  have hE := hide (own_empty w)
  have hra := hide (Reads.alloc (o := .cells #[] 5) hr (Nat.le_refl _))
  have hrb := hide (Reads.alloc (o := .cells #[] 5) hs (Nat.le_refl _))
  clear hr hs
  go_enter Tryz.func54, Tryz.ntmps54
  go_wp2_with (at_builtin; (refine wpList_append_any _ rfl (.tmp 5) (.tmp 6) 22 rfl w.heap.size 5 i0 _ 1 1 Tryz.underlying22 hi hz0 hz1 hz2 rfl (by omega) (.slice (some ⟨w.heap.size, 0, none⟩) 0 0) 0 [] rfl hE.out w.heap.size A n c (bv a) rfl hra.out (bv_one _) (by unfold maxLen; omega) (by omega) (by simp) ?_))
  intro v2 w2 ho2 hg2 hat2
  have hbb2 : Below w.heap.size w w2 := (bl_alloc w (.cells #[] 5)).grown hg2 (by simp) (fun g hg => by simp [Value.ownBlock] at hg; omega)
  obtain ⟨A2, c2, rfl⟩ := own_slice ho2
  have HB2 := hide hbb2
  have HO2 := hide ho2
  have HRB : Hid (Reads w2 w.heap.size 1 B m (bv b)) := hide (hrb.out.below (by
    refine Below.grown (h := Below.refl _ _) (hg := hg2) (by simp) (fun g hg => by simp [Value.ownBlock] at hg; omega)))
  have hsz2 := hbb2.size
  clear ho2 hg2 hat2 hbb2
  go_wp2_with (at_builtin; (refine wpList_append_any _ rfl (.tmp 7) (.tmp 8) 22 rfl w.heap.size 5 i0 _ 1 1 Tryz.underlying22 hi hz0 hz1 hz2 rfl (by omega) (.slice A2 n c2) n (bv a) rfl HO2.out w.heap.size B m d (bv b) rfl HRB.out (bv_one _) (by unfold maxLen; omega) (by omega) hsz2 ?_))
  intro v3 w3 ho3 hg3 hat3
  have hbb3 : Below w.heap.size w w3 := HB2.out.grown hg3 hsz2 (fun g hg => (HO2.out.lt g hg).1)
  rw [← bv_append] at ho3
  obtain ⟨A3, c3, rfl⟩ := own_slice ho3
  have HB3 := hide hbb3
  have XS := hide (rsum_any A3 (n + m) c3 (a ++ b) w3 (Reads.of_own ho3) (by omega))
  clear ho3 hg3 hat3 hbb3
  go_wp2_with fail
  with_reducible refine XS.out.mono ?_
  rintro e w4 ⟨A4, c4, rfl, ho4, hb4⟩
  have HO4 := hide (own_more ho4 HB3.out.size)
  have HB4 := hide (below_more HB3.out (Nat.le_refl _) hb4)
  clear ho4 hb4
  go_wp2_with fail
  go_ret
  exact ⟨A4, c4, rfl, HO4.out, HB4.out⟩
def zero32 : LB := List.replicate 32 0
def RetRoot (w : World) (e : Ending) (w' : World) : Prop := e = .returned (.slice (some ⟨w.heap.size, 0, none⟩) 32 32) ∧ OwB w.heap.size w' (some ⟨w.heap.size, 0, none⟩) 32 32 zero32 ∧ Below w.heap.size w w'
theorem own_zero (w : World) : OwB w.heap.size (w.alloc (.cells (bv zero32).toArray 5)) (some ⟨w.heap.size, 0, none⟩) 32 32 zero32 :=
  ⟨rfl, .inr ⟨w.heap.size, 32, (bv zero32).toArray, rfl, Nat.le_refl _, Blk.new _ _ _, Nat.le_refl _, by unfold maxLen; omega, by simp [bv, zero32], by simp [bv, zero32]⟩⟩
set_option maxRecDepth 10000 in
set_option maxHeartbeats 1000000 in
theorem root_any (w : World) : Calls Tryz.prog 58 #[] w (RetRoot w) := by
  obtain ⟨i0, hi, hz0, hz1, hz2⟩ := info_parts infoU8
  have hmk := fun W => run_make_rowN (P := Tryz.prog) 22 5 i0 _ Tryz.underlying22 hi hz0 .i64 .i64 32 32 (Nat.le_refl _) (by rw [hz2]; omega) (by omega) W
  have e0 : (madeCells (Value.int .u8 0).cells (32 * i0.size)) = (bv zero32).toArray := by rw [hz1]; kernel_rfl
  rw [e0] at hmk
  simp only [show ((32 : Nat) : Int) = 32 from rfl] at hmk
  have HZ := hide (own_zero w)
  have HB := hide (bl_alloc w (.cells (bv zero32).toArray 5))
  generalize bv zero32 = zs at hmk HZ HB
  go_enter Tryz.func58, Tryz.ntmps58
  go_wp2_with fail
  go_ret
  exact ⟨rfl, HZ.out, HB.out⟩
set_option maxRecDepth 10000 in
set_option maxHeartbeats 1000000 in
theorem rroot_any (w : World) : Calls Tryz.prog 43 #[] w (RetRoot w) := by
  obtain ⟨i0, hi, hz0, hz1, hz2⟩ := info_parts infoU8
  have hmk := fun W => run_make_rowN (P := Tryz.prog) 22 5 i0 _ Tryz.underlying22 hi hz0 .i64 .i64 32 32 (Nat.le_refl _) (by rw [hz2]; omega) (by omega) W
  have e0 : (madeCells (Value.int .u8 0).cells (32 * i0.size)) = (bv zero32).toArray := by rw [hz1]; kernel_rfl
  rw [e0] at hmk
  simp only [show ((32 : Nat) : Int) = 32 from rfl] at hmk
  have HZ := hide (own_zero w)
  have HB := hide (bl_alloc w (.cells (bv zero32).toArray 5))
  generalize bv zero32 = zs at hmk HZ HB
  go_enter Tryz.func43, Tryz.ntmps43
  go_wp2_with fail
  go_ret
  exact ⟨rfl, HZ.out, HB.out⟩
def RetLinkNo (w : World) (e : Ending) (w' : World) : Prop := e = .returned (.tuple #[.slice none 0 0, .slice none 0 0, .int .i64 2]) ∧ Below w.heap.size w w'
def RetLinkYes (h : LB) (r : Rec) (w : World) (e : Ending) (w' : World) : Prop := ∃ A n c B d, e = .returned (.tuple #[.slice A n c, .slice B 32 d, .int .i64 0]) ∧ n = 2 + (encP r).length + 32 ∧ OwB w.heap.size w' A n c (entP h r) ∧ OwB w.heap.size w' B 32 d (digP h (encP r)) ∧ Below w.heap.size w w'
set_option maxRecDepth 100000 in
set_option maxHeartbeats 2000000 in
theorem link_bad (h : LB) (r : Rec) (B A : Option Addr) (m d n c : Nat) (hd : r.dig.length = n) (w : World) (hS : Std w) (hT : Tabs w) (hV : validP r = false) :
    Calls Tryz.prog 48 #[.slice B m d, Rec.v r A n c] w (RetLinkNo w) := by
  obtain ⟨q, op, p, p2, g, al⟩ := r
  have hb := (Below.refl w.heap.size w).alloc (Nat.le_refl _) (.cells (Rec.cs ⟨q, op, p, p2, g, al⟩ A n c) 28)
  have HS := hide (hS.below hb)
  have HT := hide (hT.below hb)
  clear hS hT
  have XE := hide (enc_bad ⟨q, op, p, p2, g, al⟩ A n c hd (w.alloc (.cells (Rec.cs ⟨q, op, p, p2, g, al⟩ A n c) 28)) HS.out hV)
  have HB := hide hb
  clear hb hV hd
  unfold Rec.v Rec.cs at *
  dsimp only at *
  go_enter Tryz.func48, Tryz.ntmps48
  go_wp2_with fail
  with_reducible refine XE.out.mono ?_
  rintro e w1 ⟨rfl, hb1⟩
  have HB1 := hide (below_more HB.out (Nat.le_refl _) hb1)
  clear hb1 XE
  go_wp2_with fail
  refine bodyPost_ret (v := .tuple #[.slice none 0 0, .slice none 0 0, .int .i64 2]) (by simp only [results, Tryz.results48]; go_simp) rfl ⟨rfl, HB1.out⟩
set_option maxRecDepth 100000 in
set_option maxHeartbeats 2000000 in
theorem link_off (h : LB) (r : Rec) (B A : Option Addr) (m d n c : Nat) (hd : r.dig.length = n) (w : World) (hS : Std w) (hT : Tabs w) (hR : Rd w A n r.dig) (hV : validP r = true) (hm : m ≠ 32) :
    Calls Tryz.prog 48 #[.slice B m d, Rec.v r A n c] w (RetLinkNo w) := by
  obtain ⟨q, op, p, p2, g, al⟩ := r
  have hb := (Below.refl w.heap.size w).alloc (Nat.le_refl _) (.cells (Rec.cs ⟨q, op, p, p2, g, al⟩ A n c) 28)
  have HS := hide (hS.below hb)
  have HT := hide (hT.below hb)
  clear hS hT
  have XE := hide (enc_ok ⟨q, op, p, p2, g, al⟩ A n c hd (w.alloc (.cells (Rec.cs ⟨q, op, p, p2, g, al⟩ A n c) 28)) HS.out (rb hR hb) hV)
  have HB := hide hb
  have hm1 : ((m : Int) != 32) = true := by rw [bne_iff_ne]; omega
  clear hb hV hd hR hm
  unfold Rec.v Rec.cs at *
  dsimp only at *
  go_enter Tryz.func48, Tryz.ntmps48
  go_wp2_with fail
  with_reducible refine XE.out.mono ?_
  rintro e w1 ⟨E, n1, c1, rfl, hE, hc1, hn1, hb1⟩
  have HB1 := hide (below_more HB.out (Nat.le_refl _) hb1)
  clear hb1 XE hE hc1 hn1
  go_wp2_with fail
  refine bodyPost_ret (v := .tuple #[.slice none 0 0, .slice none 0 0, .int .i64 2]) (by simp only [results, Tryz.results48]; go_simp) rfl ⟨rfl, HB1.out⟩
set_option maxRecDepth 100000 in
set_option maxHeartbeats 4000000 in
theorem link_ok (h : LB) (r : Rec) (B A : Option Addr) (d n c : Nat) (hd : r.dig.length = n) (w : World) (hS : Std w) (hT : Tabs w) (hR : Rd w A n r.dig) (hV : validP r = true) (hH : Rd w B 32 h) (hmd : 32 ≤ d) :
    Calls Tryz.prog 48 #[.slice B 32 d, Rec.v r A n c] w (RetLinkYes h r w) := by
  obtain ⟨i0, hi, hz0, hz1, hz2⟩ := info_parts infoU8
  obtain ⟨q, op, p, p2, g, al⟩ := r
  have hb := (Below.refl w.heap.size w).alloc (Nat.le_refl _) (.cells (Rec.cs ⟨q, op, p, p2, g, al⟩ A n c) 28)
  have HS := hide (hS.below hb)
  have HT := hide (hT.below hb)
  clear hS hT
  have XE := hide (enc_ok ⟨q, op, p, p2, g, al⟩ A n c hd (w.alloc (.cells (Rec.cs ⟨q, op, p, p2, g, al⟩ A n c) 28)) HS.out (rb hR hb) hV)
  have HB := hide hb
  have HH := hide (rb hH hb)
  obtain ⟨x, hx⟩ : ∃ x, encP ⟨q, op, p, p2, g, al⟩ = x := ⟨_, rfl⟩
  have HEND : Hid (∀ (N cc D dd : Nat) (A1 B1 : Option Addr) (w' : World), N = 2 + x.length + 32 → OwB w.heap.size w' A1 N cc (be 2 x.length ++ x ++ digP h x) → OwB w.heap.size w' B1 32 dd (digP h x) → Below w.heap.size w w' → RetLinkYes h ⟨q, op, p, p2, g, al⟩ w (.returned (.tuple #[.slice A1 N cc, .slice B1 32 dd, .int .i64 0])) w') := hide (fun N cc D dd A1 B1 w' e1 e2 e3 e4 => ⟨A1, N, cc, B1, dd, rfl, by rw [hx]; exact e1, by unfold entP; rw [hx]; exact e2, by rw [hx]; exact e3, e4⟩)
  rw [hx] at XE
  clear hb hV hd hR hH hx
  unfold Rec.v Rec.cs at *
  dsimp only at *
  generalize RetLinkYes h _ w = POST at HEND
  go_enter Tryz.func48, Tryz.ntmps48
  go_wp2_with fail
  with_reducible refine XE.out.mono ?_
  rintro e w1 ⟨E, n1, c1, rfl, hE, hc1, hn1, hb1⟩
  have hl := hE.len
  have HL := hide hl
  have XC := hide (chain_any B E 32 d n1 c1 h x w1 (rb HH.out hb1) hmd (by omega) hE hc1 (by omega) (HT.out.below hb1).1 (HT.out.below hb1).2.1 (HT.out.below hb1).2.2)
  have HE := hide hE
  have HB1 := hide (below_more HB.out (Nat.le_refl _) hb1)
  clear hb1 XE hE hl
  go_wp2_with fail
  with_reducible refine XC.out.mono ?_
  rintro e w2 ⟨D, dd, rfl, hD, hb2⟩
  have HE2 := hide (rb HE.out hb2)
  have HB2 := hide (below_more HB1.out (Nat.le_refl _) hb2)
  have HD2 : Hid (OwB w1.heap.size w2 D 32 dd (digP h x)) := hide hD
  have XP := hide (put2 x.length w2 (by rw [HL.out]; omega))
  rw [HL.out] at XP
  have w64 : IntKind.u64.wrap (n1 : Int) = (n1 : Int) := by simp [IntKind.wrap, IntKind.bits, IntKind.signed]; omega
  clear hb2 hD XC HE
  go_wp2_with fail
  with_reducible refine XP.out.mono ?_
  rintro e w3 ⟨A3, c3, rfl, hO3, hb3⟩
  have HO3 := hide hO3
  have HE3 := hide (rb HE2.out hb3)
  have HB3 := hide hb3
  have hs3 := hb3.size
  clear hO3 hb3 XP HE2
  go_wp2_with (at_builtin; (refine wpList_append_any _ rfl (.tmp 29) (.tmp 30) 22 rfl w2.heap.size 5 i0 _ 1 1 Tryz.underlying22 hi hz0 hz1 hz2 rfl (by omega) (.slice A3 2 c3) 2 (bv (be 2 n1)) rfl (by exact HO3.out) w3.heap.size E n1 c1 (bv x) rfl HE3.out (bv_one _) ?a1 ?a2 ?a3 ?_))
  case a1 => unfold maxLen; omega
  case a2 => omega
  case a3 => exact hs3
  intro v4 w4 ho4 hg4 hat4
  obtain ⟨A4, c4, rfl⟩ := own_slice ho4
  rw [← bv_append] at ho4
  have HO4 := hide ho4
  have HB4 := hide (Below.grown (h := HB3.out) (hg := hg4) hs3 (fun g hg => (World.ownsRow.lt HO3.out g hg).1))
  have hs4 := HB4.out.size
  have HD4 := hide (HD2.out.below HB4.out)
  clear ho4 hg4 hat4 HO3 HE3 HB3
  go_wp2_with (at_builtin; (refine wpList_append_any _ rfl (.tmp 32) (.tmp 33) 22 rfl w2.heap.size 5 i0 _ 1 1 Tryz.underlying22 hi hz0 hz1 hz2 rfl (by omega) (.slice A4 (2 + n1) c4) (2 + n1) _ rfl HO4.out w4.heap.size D 32 dd (bv (digP h x)) rfl HD4.out.rd (bv_one _) ?b1 ?b2 ?b3 ?_))
  case b1 => unfold maxLen; omega
  case b2 => omega
  case b3 => exact hs4
  intro v5 w5 ho5 hg5 hat5
  obtain ⟨A5, c5, rfl⟩ := own_slice ho5
  rw [← bv_append] at ho5
  have HB5 := hide (Below.grown (h := HB4.out) (hg := hg5) hs4 (fun g hg => (World.ownsRow.lt HO4.out g hg).1))
  have hs1 := HB1.out.size
  have hs2 := HB2.out.size
  have HX := hide (HEND.out (2 + n1 + 32) c5 0 dd A5 D w5 (by rw [HL.out]) (by rw [HL.out]; exact own_more ho5 (by omega)) (own_more (HD2.out.below HB5.out) hs1) (below_more HB2.out (Nat.le_refl _) HB5.out))
  clear ho5 hg5 hat5 HO4 HD4 HD2 HEND HB4
  go_wp2_with fail
  refine bodyPost_ret (v := .tuple #[.slice A5 (2 + n1 + 32) c5, .slice D 32 dd, .int .i64 0]) (by simp only [results, Tryz.results48]; go_simp) rfl HX.out
set_option maxRecDepth 100000 in
set_option maxHeartbeats 2000000 in
theorem rlink_bad (h : LB) (r : Rec) (B A : Option Addr) (m d n c : Nat) (hd : r.dig.length = n) (w : World) (hV : validP r = false) :
    Calls Tryz.prog 31 #[.slice B m d, Rec.v r A n c] w (RetLinkNo w) := by
  obtain ⟨q, op, p, p2, g, al⟩ := r
  have hb := (Below.refl w.heap.size w).alloc (Nat.le_refl _) (.cells (Rec.cs ⟨q, op, p, p2, g, al⟩ A n c) 28)
  have XE := hide (renc_bad ⟨q, op, p, p2, g, al⟩ A n c hd (w.alloc (.cells (Rec.cs ⟨q, op, p, p2, g, al⟩ A n c) 28)) hV)
  have HB := hide hb
  clear hb hV hd
  unfold Rec.v Rec.cs at *
  dsimp only at *
  go_enter Tryz.func31, Tryz.ntmps31
  go_wp2_with fail
  with_reducible refine XE.out.mono ?_
  rintro e w1 ⟨rfl, hb1⟩
  have HB1 := hide (below_more HB.out (Nat.le_refl _) hb1)
  clear hb1 XE
  go_wp2_with fail
  refine bodyPost_ret (v := .tuple #[.slice none 0 0, .slice none 0 0, .int .i64 2]) (by simp only [results, Tryz.results31]; go_simp) rfl ⟨rfl, HB1.out⟩
set_option maxRecDepth 100000 in
set_option maxHeartbeats 2000000 in
theorem rlink_off (h : LB) (r : Rec) (B A : Option Addr) (m d n c : Nat) (hd : r.dig.length = n) (w : World) (hR : Rd w A n r.dig) (hV : validP r = true) (hm : m ≠ 32) :
    Calls Tryz.prog 31 #[.slice B m d, Rec.v r A n c] w (RetLinkNo w) := by
  obtain ⟨q, op, p, p2, g, al⟩ := r
  have hb := (Below.refl w.heap.size w).alloc (Nat.le_refl _) (.cells (Rec.cs ⟨q, op, p, p2, g, al⟩ A n c) 28)
  have XE := hide (renc_ok ⟨q, op, p, p2, g, al⟩ A n c hd (w.alloc (.cells (Rec.cs ⟨q, op, p, p2, g, al⟩ A n c) 28)) (rb hR hb) hV)
  have HB := hide hb
  have hm1 : ((m : Int) != 32) = true := by rw [bne_iff_ne]; omega
  clear hb hV hd hR hm
  unfold Rec.v Rec.cs at *
  dsimp only at *
  go_enter Tryz.func31, Tryz.ntmps31
  go_wp2_with fail
  with_reducible refine XE.out.mono ?_
  rintro e w1 ⟨E, n1, c1, rfl, hE, hc1, hn1, hb1⟩
  have HB1 := hide (below_more HB.out (Nat.le_refl _) hb1)
  clear hb1 XE hE hc1 hn1
  go_wp2_with fail
  refine bodyPost_ret (v := .tuple #[.slice none 0 0, .slice none 0 0, .int .i64 2]) (by simp only [results, Tryz.results31]; go_simp) rfl ⟨rfl, HB1.out⟩
set_option maxRecDepth 100000 in
set_option maxHeartbeats 4000000 in
theorem rlink_ok (h : LB) (r : Rec) (B A : Option Addr) (d n c : Nat) (hd : r.dig.length = n) (w : World) (hR : Rd w A n r.dig) (hV : validP r = true) (hH : Rd w B 32 h) (hmd : 32 ≤ d) :
    Calls Tryz.prog 31 #[.slice B 32 d, Rec.v r A n c] w (RetLinkYes h r w) := by
  obtain ⟨i0, hi, hz0, hz1, hz2⟩ := info_parts infoU8
  obtain ⟨q, op, p, p2, g, al⟩ := r
  have hb := (Below.refl w.heap.size w).alloc (Nat.le_refl _) (.cells (Rec.cs ⟨q, op, p, p2, g, al⟩ A n c) 28)
  have XE := hide (renc_ok ⟨q, op, p, p2, g, al⟩ A n c hd (w.alloc (.cells (Rec.cs ⟨q, op, p, p2, g, al⟩ A n c) 28)) (rb hR hb) hV)
  have HB := hide hb
  have HH := hide (rb hH hb)
  obtain ⟨x, hx⟩ : ∃ x, encP ⟨q, op, p, p2, g, al⟩ = x := ⟨_, rfl⟩
  have HEND : Hid (∀ (N cc D dd : Nat) (A1 B1 : Option Addr) (w' : World), N = 2 + x.length + 32 → OwB w.heap.size w' A1 N cc (be 2 x.length ++ x ++ digP h x) → OwB w.heap.size w' B1 32 dd (digP h x) → Below w.heap.size w w' → RetLinkYes h ⟨q, op, p, p2, g, al⟩ w (.returned (.tuple #[.slice A1 N cc, .slice B1 32 dd, .int .i64 0])) w') := hide (fun N cc D dd A1 B1 w' e1 e2 e3 e4 => ⟨A1, N, cc, B1, dd, rfl, by rw [hx]; exact e1, by unfold entP; rw [hx]; exact e2, by rw [hx]; exact e3, e4⟩)
  rw [hx] at XE
  clear hb hV hd hR hH hx
  unfold Rec.v Rec.cs at *
  dsimp only at *
  generalize RetLinkYes h _ w = POST at HEND
  go_enter Tryz.func31, Tryz.ntmps31
  go_wp2_with fail
  with_reducible refine XE.out.mono ?_
  rintro e w1 ⟨E, n1, c1, rfl, hE, hc1, hn1, hb1⟩
  have hl := hE.len
  have HL := hide hl
  have XC := hide (rchain_any B E 32 d n1 c1 h x w1 (rb HH.out hb1) (by omega) hE (by omega))
  have HE := hide hE
  have HB1 := hide (below_more HB.out (Nat.le_refl _) hb1)
  clear hb1 XE hE hl
  go_wp2_with fail
  with_reducible refine XC.out.mono ?_
  rintro e w2 ⟨D, dd, rfl, hD, hb2⟩
  have HE2 := hide (rb HE.out hb2)
  have HB2 := hide (below_more HB1.out (Nat.le_refl _) hb2)
  have HD2 : Hid (OwB w1.heap.size w2 D 32 dd (digP h x)) := hide hD
  have XP := hide (rput2 x.length w2 (by rw [HL.out]; omega))
  rw [HL.out] at XP
  have w64 : IntKind.u64.wrap (n1 : Int) = (n1 : Int) := by simp [IntKind.wrap, IntKind.bits, IntKind.signed]; omega
  clear hb2 hD XC HE
  go_wp2_with fail
  with_reducible refine XP.out.mono ?_
  rintro e w3 ⟨A3, c3, rfl, hO3, hb3⟩
  have HO3 := hide hO3
  have HE3 := hide (rb HE2.out hb3)
  have HB3 := hide hb3
  have hs3 := hb3.size
  clear hO3 hb3 XP HE2
  go_wp2_with (at_builtin; (refine wpList_append_any _ rfl (.tmp 29) (.tmp 30) 22 rfl w2.heap.size 5 i0 _ 1 1 Tryz.underlying22 hi hz0 hz1 hz2 rfl (by omega) (.slice A3 2 c3) 2 (bv (be 2 n1)) rfl (by exact HO3.out) w3.heap.size E n1 c1 (bv x) rfl HE3.out (bv_one _) ?a1 ?a2 ?a3 ?_))
  case a1 => unfold maxLen; omega
  case a2 => omega
  case a3 => exact hs3
  intro v4 w4 ho4 hg4 hat4
  obtain ⟨A4, c4, rfl⟩ := own_slice ho4
  rw [← bv_append] at ho4
  have HO4 := hide ho4
  have HB4 := hide (Below.grown (h := HB3.out) (hg := hg4) hs3 (fun g hg => (World.ownsRow.lt HO3.out g hg).1))
  have hs4 := HB4.out.size
  have HD4 := hide (HD2.out.below HB4.out)
  clear ho4 hg4 hat4 HO3 HE3 HB3
  go_wp2_with (at_builtin; (refine wpList_append_any _ rfl (.tmp 32) (.tmp 33) 22 rfl w2.heap.size 5 i0 _ 1 1 Tryz.underlying22 hi hz0 hz1 hz2 rfl (by omega) (.slice A4 (2 + n1) c4) (2 + n1) _ rfl HO4.out w4.heap.size D 32 dd (bv (digP h x)) rfl HD4.out.rd (bv_one _) ?b1 ?b2 ?b3 ?_))
  case b1 => unfold maxLen; omega
  case b2 => omega
  case b3 => exact hs4
  intro v5 w5 ho5 hg5 hat5
  obtain ⟨A5, c5, rfl⟩ := own_slice ho5
  rw [← bv_append] at ho5
  have HB5 := hide (Below.grown (h := HB4.out) (hg := hg5) hs4 (fun g hg => (World.ownsRow.lt HO4.out g hg).1))
  have hs1 := HB1.out.size
  have hs2 := HB2.out.size
  have HX := hide (HEND.out (2 + n1 + 32) c5 0 dd A5 D w5 (by rw [HL.out]) (by rw [HL.out]; exact own_more ho5 (by omega)) (own_more (HD2.out.below HB5.out) hs1) (below_more HB2.out (Nat.le_refl _) HB5.out))
  clear ho5 hg5 hat5 HO4 HD4 HD2 HEND HB4
  go_wp2_with fail
  refine bodyPost_ret (v := .tuple #[.slice A5 (2 + n1 + 32) c5, .slice D 32 dd, .int .i64 0]) (by simp only [results, Tryz.results31]; go_simp) rfl HX.out
end Go.Proofs.YtbbobffedgcbhaaGreatDoor
