/- The law's heads. -/
import Derived.Test.YtkiphaagdckkjaaDoorChN
namespace Go.Proofs.YtkiphaagdckkjaaDoor
open Go.RowKit
set_option linter.unusedVariables false
def rA : Rec := ⟨0, 12, [47, 97], [], [], false⟩
def rB : Rec := ⟨1, 13, [47, 98], [], [], false⟩
def rC : Rec := ⟨0, 12, [], [], [], false⟩
theorem encA : (encP rA).length = 12 := by kernel_rfl
theorem encB : (encP rB).length = 12 := by kernel_rfl
theorem okAB : okP 0 [rA, rB] := ⟨by kernel_rfl, rfl, by kernel_rfl, rfl, trivial⟩
theorem heads_facts : ∃ EB EC D0 D1 : LB, entP zero32 rA = EB ∧ digP zero32 (encP rA) = D0 ∧ entP D0 rB = EC ∧ digP D0 (encP rB) = D1 ∧ scanB ((EB ++ EC).take 91) = ([rA], D0, 46) ∧ headP (EB ++ EC) 1 = (46, true) ∧ verP (EB ++ EC) = true ∧ verP ((EB ++ EC).take 91) = false := by
  have h1 := scanB_cut [rA, rB] okAB 91
  have h2 := scanB_all [rA, rB] okAB
  have c1 : cutsP [rA, rB] 91 = 1 := by kernel_rfl
  have c2 : lenP [rA] = 46 := by kernel_rfl
  have c3 : lenP [rA, rB] = 92 := by kernel_rfl
  have hl := all_length [rA, rB] zero32
  rw [c3] at hl h2
  rw [c1, List.take_succ_cons, List.take_zero, c2] at h1
  have e : allP zero32 [rA, rB] = entP zero32 rA ++ entP (digP zero32 (encP rA)) rB := by rw [allP, allP, allP, List.append_nil]
  have e2 : lastP zero32 [rA] = digP zero32 (encP rA) := by rw [lastP, lastP]
  rw [e] at h1 h2 hl
  rw [e2] at h1
  refine ⟨_, _, _, _, rfl, rfl, rfl, rfl, h1, ?_, ?_, ?_⟩
  · unfold headP
    rw [h2]
    rw [if_neg (by omega), if_pos (by dsimp only; simp), show (1 : Int).toNat = 1 from rfl]
    dsimp only
    rw [List.take_succ_cons, List.take_zero, c2]
    rfl
  · unfold verP
    rw [h2, hl]
    rfl
  · unfold verP
    rw [h1, List.length_take, hl]
    rfl
theorem linkA {X Y : LB} (h1 : entP zero32 rA = X) (h2 : digP zero32 (encP rA) = Y) (B : Option Addr) (d : Nat) (w : World) (hS : Std w) (hT : Tabs w) (hH : Rd w B 32 zero32) (hd : 32 ≤ d) :
    Calls Tryd.prog 9 #[.slice B 32 d, .agg #[.int .i64 0, .int .i64 12, .string ⟨#[47, 97]⟩, .string ⟨#[]⟩, .slice none 0 0, .bool false]] w fun e w' => ∃ A c B' d', e = .returned (.tuple #[.slice A 46 c, .slice B' 32 d', .int .i64 0]) ∧ OwB w.heap.size w' A 46 c X ∧ OwB w.heap.size w' B' 32 d' Y ∧ Below w.heap.size w w' := by
  refine (link_ok zero32 rA B none d 0 0 rfl w hS hT Reads.none_ (by kernel_rfl) hH hd).mono ?_
  rintro e w' ⟨A, n, c, B', d', rfl, hn, i1, i2, i3⟩
  rw [encA] at hn
  subst hn
  exact ⟨A, c, B', d', rfl, by rw [← h1]; exact i1, by rw [← h2]; exact i2, i3⟩
theorem linkB {D X Y : LB} (h1 : entP D rB = X) (h2 : digP D (encP rB) = Y) (B : Option Addr) (d : Nat) (w : World) (hS : Std w) (hT : Tabs w) (hH : Rd w B 32 D) (hd : 32 ≤ d) :
    Calls Tryd.prog 9 #[.slice B 32 d, .agg #[.int .i64 1, .int .i64 13, .string ⟨#[47, 98]⟩, .string ⟨#[]⟩, .slice none 0 0, .bool false]] w fun e w' => ∃ A c B' d', e = .returned (.tuple #[.slice A 46 c, .slice B' 32 d', .int .i64 0]) ∧ OwB w.heap.size w' A 46 c X ∧ OwB w.heap.size w' B' 32 d' Y ∧ Below w.heap.size w w' := by
  refine (link_ok D rB B none d 0 0 rfl w hS hT Reads.none_ (by kernel_rfl) hH hd).mono ?_
  rintro e w' ⟨A, n, c, B', d', rfl, hn, i1, i2, i3⟩
  rw [encB] at hn
  subst hn
  exact ⟨A, c, B', d', rfl, by rw [← h1]; exact i1, by rw [← h2]; exact i2, i3⟩
theorem linkC (w : World) (hS : Std w) (hT : Tabs w) :
    Calls Tryd.prog 9 #[.slice none 0 0, .agg #[.int .i64 0, .int .i64 12, .string ⟨#[]⟩, .string ⟨#[]⟩, .slice none 0 0, .bool false]] w fun e w' => e = .returned (.tuple #[.slice none 0 0, .slice none 0 0, .int .i64 2]) ∧ Below w.heap.size w w' :=
  link_off [] rC none none 0 0 0 0 rfl w hS hT Reads.none_ (by kernel_rfl) (by decide)
set_option maxRecDepth 100000 in
set_option maxHeartbeats 8000000 in
theorem heads_any (w : World) (hS : Std w) (hT : Tabs w) :
    Calls Tryd.prog 8 #[] w fun e w' => e = .returned (.bool true) ∧ Below w.heap.size w w' := by
  obtain ⟨i0, hi, hz0, hz1, hz2⟩ := info_parts infoU8
  obtain ⟨EB, EC, D0, D1, f1, f2, f3, f4, f5, f6, f7, f8⟩ := heads_facts
  have F1 := hide f1
  have F2 := hide f2
  have F3 := hide f3
  have F4 := hide f4
  have F5 := hide f5
  have F6 := hide f6
  have F7 := hide f7
  have F8 := hide f8
  have HS := hide hS
  have HT := hide hT
  clear f1 f2 f3 f4 f5 f6 f7 f8 hS hT
  go_enter Tryd.func8, Tryd.ntmps8
  go_wp2_with fail
  refine (root_any w).mono ?_
  rintro e0 w1 ⟨rfl, hZ, hb1⟩
  have XA := hide (linkA F1.out F2.out (some ⟨w.heap.size, 0, none⟩) 32 w1 (HS.out.below hb1) (HT.out.below hb1) hZ.rd (Nat.le_refl _))
  have HB1 := hide hb1
  clear hZ hb1
  go_wp2_with fail
  refine XA.out.mono ?_
  rintro e1 w2 ⟨A1, c1, B1, d1, rfl, hO1, hD1, hb2⟩
  have HB2 := hide (below_more HB1.out (Nat.le_refl _) hb2)
  have HO1 := hide hO1
  have HD1 := hide hD1
  have XB := hide (linkB F3.out F4.out B1 d1 w2 (HS.out.below HB2.out) (HT.out.below HB2.out) hD1.rd hD1.le)
  clear hO1 hD1 hb2 XA
  go_wp2_with fail
  refine XB.out.mono ?_
  rintro e2 w3 ⟨A2, c2, B2, d2, rfl, hO2, hD2, hb3⟩
  have HB3 := hide (below_more HB2.out (Nat.le_refl _) hb3)
  have HO1b := hide (HO1.out.below hb3)
  have HD1b := hide (HD1.out.below hb3)
  have HO2 := hide hO2
  have XC := hide (linkC w3 (HS.out.below HB3.out) (HT.out.below HB3.out))
  clear hO2 hD2 hb3 XB HO1 HD1
  go_wp2_with fail
  refine XC.out.mono ?_
  rintro e3 w4 ⟨rfl, hb4⟩
  have HB4 := hide (below_more HB3.out (Nat.le_refl _) hb4)
  have hO1c := (HO1b.out.below hb4).rd
  have hO2c := (HO2.out.below hb4).rd
  have HD1c := hide (HD1b.out.below hb4).rd
  have hbe := bl_alloc w4 (.cells #[] 5)
  have hE := hide (own_empty w4)
  have hra := hide (Reads.alloc (o := .cells #[] 5) hO1c (Nat.le_refl _))
  have hrb := hide (Reads.alloc (o := .cells #[] 5) hO2c (Nat.le_refl _))
  clear hb4 XC HO1b HD1b HO2 hO1c hO2c hbe
  go_wp2_with (at_builtin; (refine wpList_append_any _ rfl (.tmp 47) (.tmp 48) 22 rfl w4.heap.size 5 i0 _ 1 1 Tryd.underlying22 hi hz0 hz1 hz2 rfl (by omega) (.slice (some ⟨w4.heap.size, 0, none⟩) 0 0) 0 [] rfl hE.out w4.heap.size A1 46 c1 (bv EB) rfl hra.out (bv_one _) (by unfold maxLen; omega) (by omega) (by simp) ?_))
  intro v5 w5 ho5 hg5 hat5
  have hbb5 : Below w4.heap.size w4 w5 := (bl_alloc w4 (.cells #[] 5)).grown hg5 (by simp) (fun g hg => by simp [Value.ownBlock] at hg; omega)
  have hbc5 : Below w4.heap.size (w4.alloc (.cells #[] 5)) w5 := Below.grown (h := Below.refl _ _) (hg := hg5) (by simp) (fun g hg => by simp [Value.ownBlock] at hg; omega)
  obtain ⟨A5, c5, rfl⟩ := own_slice ho5
  have HB5 := hide hbb5
  have HO5 := hide ho5
  have HRB : Hid (Reads w5 w4.heap.size 1 A2 46 (bv EC)) := hide (hrb.out.below hbc5)
  have hsz5 := hbb5.size
  clear ho5 hg5 hat5 hbb5 hbc5
  go_wp2_with (at_builtin; (refine wpList_append_any _ rfl (.tmp 49) (.tmp 50) 22 rfl w4.heap.size 5 i0 _ 1 1 Tryd.underlying22 hi hz0 hz1 hz2 rfl (by omega) (.slice A5 46 c5) 46 (bv EB) rfl HO5.out w4.heap.size A2 46 c2 (bv EC) rfl HRB.out (bv_one _) (by unfold maxLen; omega) (by omega) hsz5 ?_))
  intro v6 w6 ho6 hg6 hat6
  have hbb6 : Below w4.heap.size w4 w6 := HB5.out.grown hg6 hsz5 (fun g hg => (HO5.out.lt g hg).1)
  rw [← bv_append] at ho6
  obtain ⟨A6, c6, rfl⟩ := own_slice ho6
  have HB6 := hide (below_more HB4.out (Nat.le_refl _) hbb6)
  have ho6 : w6.ownsRow w4.heap.size 5 1 (.slice A6 92 c6) 92 (bv (EB ++ EC)) := ho6
  have hcap : 92 ≤ c6 := own_caps ho6
  have HR6 : Hid (Rd w6 A6 92 (EB ++ EC)) := hide (Reads.of_own ho6)
  have HD6 : Hid (Rd w6 B1 32 D0) := hide ((HD1c.out.below hbb6).more hbb6.size)
  have hsl := fun W => sl_to A6 92 c6 91 .i64 91 rfl (by omega) W
  have XS : Hid (Calls Tryd.prog 14 #[.slice A6 91 c6] w6 fun e w' => ∃ O co D dn, e = .returned (.tuple #[.slice O 1 co, .slice D 32 dn, .int .i64 46]) ∧ OwB w6.heap.size w' D 32 dn D0 ∧ Below w6.heap.size w6 w') := hide (by
    refine (scan_any A6 91 c6 _ w6 (rd_to HR6.out (by omega)) (by omega) (by omega) (HS.out.below HB6.out) (HT.out.below HB6.out)).mono ?_
    rintro e w' ⟨O, co, D, dn, l, rfl, i1, i2, i3, i4⟩
    rw [F5.out] at i2 i3 ⊢
    have hl : l.length = 1 := by have := congrArg List.length i2; simpa using this
    rw [hl]
    exact ⟨O, co, D, dn, rfl, i3, i4⟩)
  clear ho6 hg6 hat6 hbb6 HRB HD1c hE hra hrb HO5 HB5 hsz5
  go_wp2_with fail
  refine XS.out.mono ?_
  rintro e7 w7 ⟨O7, k7, D7, d7, rfl, i3, i4⟩
  have HB7 := hide (below_more HB6.out (Nat.le_refl _) i4)
  have HR7 := hide (rb HR6.out i4)
  have HD7 := hide (rb HD6.out i4)
  have HO7 := hide i3
  have XH := hide (head_any A6 92 c6 (EB ++ EC) 1 w7 HR7.out hcap (by omega) (HS.out.below HB7.out) (HT.out.below HB7.out))
  rw [F6.out] at XH
  dsimp only at XH
  clear i3 i4 XS HR6 HD6
  go_wp2_with fail
  refine XH.out.mono ?_
  rintro e8 w8 ⟨rfl, i4⟩
  have HB8 := hide (below_more HB7.out (Nat.le_refl _) i4)
  have HR8 := hide (rb HR7.out i4)
  have HD8 := hide (rb HD7.out i4)
  have HO8 := hide (rb HO7.out.rd i4)
  clear i4 XH HR7 HD7 HO7
  go_wp2_with fail
  refine (root_any w8).mono ?_
  rintro e9 w9 ⟨rfl, _, i4⟩
  have HB9 := hide (below_more HB8.out (Nat.le_refl _) i4)
  have HR9 := hide (rb HR8.out i4)
  have XQ := hide (same_any D7 B1 32 32 d7 d1 D0 D0 w9 _ _ (rb HO8.out i4) (rb HD8.out i4))
  rw [show (D0 == D0) = true from beq_self_eq_true D0] at XQ
  clear i4 HR8 HD8 HO8
  go_wp2_with fail
  refine XQ.out.mono ?_
  rintro e10 w10 ⟨rfl, rfl⟩
  have XV := hide (verify_any A6 92 c6 (EB ++ EC) w9 HR9.out hcap (by omega) (HS.out.below HB9.out) (HT.out.below HB9.out))
  rw [F7.out] at XV
  clear XQ
  go_wp2_with fail
  refine XV.out.mono ?_
  rintro e11 w11 ⟨rfl, i4⟩
  have HB11 := hide (below_more HB9.out (Nat.le_refl _) i4)
  have HR11 := hide (rb HR9.out i4)
  have XW := hide (verify_any A6 91 c6 ((EB ++ EC).take 91) w11 (rd_to HR11.out (by omega)) (by omega) (by omega) (HS.out.below HB11.out) (HT.out.below HB11.out))
  rw [F8.out] at XW
  clear i4 XV HR9
  go_wp2_with fail
  refine XW.out.mono ?_
  rintro e12 w12 ⟨rfl, i4⟩
  have HB12 := hide (below_more HB11.out (Nat.le_refl _) i4)
  clear i4 XW HR11
  go_wp2_with fail
  go_ret
  exact ⟨rfl, HB12.out⟩
end Go.Proofs.YtkiphaagdckkjaaDoor
