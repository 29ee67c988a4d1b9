/- Contracts of lex.skip, lex.Skip. -/
import Derived.Test.YtpfcfcbljkdkhaaDoorLexF
namespace Go.Proofs.YtpfcfcbljkdkhaaDoor
open Go.RowKit
set_option linter.unusedVariables false
theorem infoU8 : (Tryd.prog.info? 5).map (fun i => (i.zero, i.size, i.bytes)) = some (some (.int .u8 0), 1, 1) := by kernel_rfl
theorem sizeU8 : (Tryd.prog.info? 5).map (·.size) = some 1 := by kernel_rfl
def Bo (B : Nat) (w : World) (A : Option Addr) (n c : Nat) (l : LB) : Prop := w.ownsRow B 5 1 (.slice A n c) n (bv l)
theorem Bo.len {B : Nat} {w : World} {A : Option Addr} {n c : Nat} {l : LB} (h : Bo B w A n c l) : l.length = n := by have := h.1; rw [bv_length] at this; omega
theorem Bo.rd {B : Nat} {w : World} {A : Option Addr} {n c : Nat} {l : LB} (h : Bo B w A n c l) : Rd w A n l := Reads.of_own h
theorem one_u8 (W : World) (x : UInt8) : Reads (W.alloc (.cells #[.int .u8 (x.toNat : Int)] 5)) (W.heap.size + 1) 1 (some ⟨W.heap.size, 0, none⟩) 1 (bv [x]) := by
  refine ⟨rfl, fun _ => ⟨_, rfl, by simp, ?_⟩⟩
  intro j u hu
  match j with
  | 0 =>
    simp only [bv, List.map_cons, List.map_nil, List.getElem?_cons_zero, Option.some.injEq] at hu
    subst hu
    rw [add_zero_]
    exact (Blk.new W 5 #[.int .u8 (x.toNat : Int)]).cell 0
  | j + 1 => simp [bv] at hu
theorem bo_drop {B : Nat} {w : World} {A : Option Addr} {q c : Nat} {l : LB} (h : Bo B w A (q + 1) c l) : Bo B w A q c l.dropLast ∧ q ≤ c := by
  have hl := h.len
  obtain ⟨h1, h2⟩ := h
  rcases h2 with ⟨hv, _⟩ | ⟨g, cap, cur, hv, hb, hh, hnc, hmx, hsz, htk⟩
  · cases hv
  · injection hv with e1 e2 e3
    subst e1; subst e3
    refine ⟨⟨by rw [bv_length, List.length_dropLast, hl]; omega, .inr ⟨g, c, cur, rfl, hb, hh, by omega, hmx, hsz, ?_⟩⟩, by omega⟩
    have e : bv l.dropLast = (bv l).take q := by
      unfold bv; rw [List.dropLast_eq_take, hl, List.map_take]; rfl
    rw [e, ← htk, List.take_take]
    congr 1
    omega
theorem bo_next {B : Nat} {w wr w2 : World} {A : Option Addr} {n c : Nat} {l : LB} {x : UInt8} {v1 : Value} {o : Obj} (h : Bo B wr A n c l) (h1 : w2.ownsRow B 5 1 v1 (n + 1) (bv l ++ bv [x])) (hg : (wr.alloc o).grownBy w2 (Value.slice A n c).ownBlock) (hw : Below w.heap.size w wr) (hCB : w.heap.size ≤ B) :
    ∃ A' c', v1 = .slice A' (n + 1) c' ∧ Bo B w2 A' (n + 1) c' (l ++ [x]) ∧ Below w.heap.size w w2 := by
  obtain ⟨A', c', rfl⟩ := own_slice h1
  exact ⟨A', c', rfl, by unfold Bo; rw [bv_append]; exact h1, Below.grown (h := hw.alloc hw.size o) (hg := hg) (by have := hw.size; simp; omega) (fun g hg => by have := (World.ownsRow.lt h g hg).1; omega)⟩
theorem belowN {B : Nat} {a b : World} (n : Nat) (h : Below B a b) : Below B a (b.drewN n) := ⟨h.os, h.tape, h.output, h.size, h.block⟩
set_option maxRecDepth 100000 in
set_option maxHeartbeats 8000000 in
theorem skip_any (p : LB) (i0 : Nat) (w : World) (hi0 : i0 ≤ 100000) (hl : p.length ≤ 100000) :
    Calls Tryd.prog 25 #[.string ⟨p.toArray⟩, .int .i64 (i0 : Int)] w fun e w' => e = .returned (.tuple #[.int .i64 ((skipP p i0).1 : Int), .bool (skipP p i0).2]) ∧ Below w.heap.size w w' := by
  obtain ⟨i8, hi8, hz0, hz1, hz2⟩ := info_parts infoU8
  have HI8 := hide hi8
  have hR0 : skipP p i0 = skipL p (p.length + 1) i0 [] := rfl
  obtain ⟨R, hR⟩ : ∃ R, skipP p i0 = R := ⟨_, rfl⟩
  rw [hR] at hR0 ⊢
  have HR0 := hide hR0
  clear hR hR0
  go_enter Tryd.func25, Tryd.ntmps25
  go_wp2_with fail
  go_loopw [1, 6] (fun u1 u6 wx => ∃ (j f : Nat) (cl : LB) (A : Option Addr) (n c : Nat), u1 = .int .i64 j ∧ u6 = .slice A n c ∧ (j = i0 ∨ j ≤ p.length) ∧ p.length + 1 ≤ f + j ∧ cl.length ≤ j ∧ Hid (Bo w.heap.size wx A n c cl) ∧ Hid (Below w.heap.size w wx) ∧ Hid (R = skipL p f j cl)) (fun u1 _ _ => p.length + 1 - (intOf u1).toNat)
  case atStart => exact ⟨i0, p.length + 1, [], none, 0, 0, rfl, rfl, .inl rfl, by omega, Nat.zero_le _, hide (World.ownsRow_nil _ _ _ _), hide (Below.refl _ _), HR0⟩
  case round =>
    clear HR0
    obtain ⟨j, f, cl, A, n, c, rfl, rfl, hj, hf, hcl, HO, HB, HR⟩ := hrel
    have hj5 : j ≤ 100000 := by omega
    by_cases hlt : j < p.length
    · obtain ⟨f, rfl⟩ : ∃ f', f = f' + 1 := ⟨f - 1, by omega⟩
      have hk1 : ¬ (p.length : Int) ≤ (j : Int) := by omega
      have hn := HO.out.len
      have hnb : n ≤ 100000 := by omega
      have XS := hide (fun W (h : Rd W A n cl) => step_any p j cl A n c W hlt hl (by omega) h)
      obtain ⟨hs1, hs2, hs3⟩ := stepL_facts p j cl hlt
      have hR2 := HR.out
      unfold skipL at hR2
      rw [if_neg (by omega)] at hR2
      have hcz : closeL p j cl (stepL p j cl).2.1 = if (stepL p j cl).2.1 ≠ 0 then cl ++ [(stepL p j cl).2.1] else if cl ≠ [] ∧ p.getD j 0 = cl.getLastD 0 then cl.dropLast else cl := rfl
      obtain ⟨r1, hr1⟩ : ∃ r1, (stepL p j cl).1 = r1 := ⟨_, rfl⟩
      obtain ⟨r2, hr2⟩ : ∃ r2, (stepL p j cl).2.1 = r2 := ⟨_, rfl⟩
      obtain ⟨r3, hr3⟩ : ∃ r3, (stepL p j cl).2.2 = r3 := ⟨_, rfl⟩
      rw [hr1, hr2, hr3] at hR2 XS
      rw [hr1, hr3] at hs3
      rw [hr1] at hs1 hs2
      rw [hr2] at hcz
      have HR2 := hide hR2
      have HCZ := hide hcz
      clear hr1 hr2 hr3 HR hR2 hcz
      generalize closeL p j cl r2 = cz at *
      have hrd : Rd wr A n cl := HO.out.rd
      have HRD := hide hrd
      clear hrd
      cases r3 with
      | false =>
        have HE : Hid (R = (r1, false)) := hide (by rw [HR2.out, if_pos rfl])
        clear HR2 HCZ
        go_wp2_with fail
        refine (XS.out _ HRD.out).mono ?_
        rintro e w1 ⟨rfl, hb⟩
        have HB1 := hide (below_more HB.out (Nat.le_refl _) hb)
        clear hb
        go_wp2_with fail
        go_ret2
        exact ⟨by rw [HE.out]; rfl, HB1.out⟩
      | true =>
        have hs3 := hs3 rfl
        replace HR2 := hide (HR2.out.trans (if_neg (by decide)))
        have tz := u8_beq r2 0
        change ((r2.toNat : Int) == 0) = _ at tz
        by_cases h0 : r2 = 0
        · replace HCZ := hide (HCZ.out.trans (if_neg (fun h => h h0)))
          have tn : ((r2.toNat : Int) != 0) = false := by rw [bne, tz, beq_iff_eq.2 h0]; rfl
          clear tz h0
          rcases Nat.eq_zero_or_pos n with hn0 | hn0
          · have hcn : cl = [] := List.eq_nil_of_length_eq_zero (by omega)
            have HE : Hid (R = (r1, true)) := hide (by rw [HR2.out, if_pos (by rw [HCZ.out, if_neg (fun h => h.1 hcn), hcn])])
            clear HR2 HCZ hn
            subst hn0
            go_wp2_with fail
            refine (XS.out _ HRD.out).mono ?_
            rintro e w1 ⟨rfl, hb⟩
            have HB1 := hide (below_more HB.out (Nat.le_refl _) hb)
            clear hb
            go_wp2_with fail
            go_quiet (fail)
            go_wp2_with fail
            go_ret2
            exact ⟨by rw [HE.out]; rfl, belowN _ HB1.out⟩
          · have hcn : cl ≠ [] := fun e => by rw [e] at hn; simp at hn; omega
            obtain ⟨ad, hAe, hadb, hcell⟩ := last_cell HRD.out hn0
            obtain ⟨g, hge⟩ : ∃ g, ad = ⟨g, 0, none⟩ := by
              obtain ⟨g, cap, hv, _⟩ := HO.out.form hn0
              injection hv with hv
              rw [hAe] at hv
              exact ⟨g, by injection hv⟩
            subst hge hAe
            rw [at_add, Nat.zero_add] at hcell
            have hix := ix_l p j (p.getD j 0) (getD_some hlt)
            have tq := u8_beq (p.getD j 0) (cl.getLastD 0)
            have HDR := hide (bo_drop (q := n - 1) (by rw [show n - 1 + 1 = n by omega]; exact HO.out))
            have hDl : cl.dropLast.length = n - 1 := by rw [List.length_dropLast]; omega
            generalize p.getD j 0 = x at *
            generalize cl.getLastD 0 = y at *
            have hnn : (0 : Int) < (n : Int) := by omega
            have hn1 : IntKind.i64.wrap ((n : Int) - 1) = (n : Int) - 1 := by simp [IntKind.wrap, IntKind.bits, IntKind.signed]; omega
            have hn2 : (0 : Int) ≤ (n : Int) - 1 := by omega
            have hn3 : (n : Int) - 1 < (n : Int) := by omega
            have hn4 : ((n : Int) - 1).toNat = n - 1 := by omega
            have hnd : decide ((0 : Int) < (n : Int)) = true := decide_eq_true hnn
            have hn5 : (n : Int) - 1 ≤ (c : Int) := by have := HDR.out.2; omega
            have hsz : g < wr.heap.size := hadb
            have HCELL := hide hcell
            clear hcell
            have hslc := run_slice_to (P := Tryd.prog) 48 5 Tryd.underlying48 sizeU8 (some ⟨g, 0, none⟩) n c .i64 ((n : Int) - 1) hn2 hn5
            rw [hn4] at hslc
            by_cases hxy : x = y
            · rw [beq_iff_eq.2 hxy] at tq
              have HC2 : Hid (cz = cl.dropLast) := hide (by rw [HCZ.out, if_pos ⟨hcn, hxy⟩])
              by_cases hD : cl.dropLast = []
              · have hn01 : (((n - 1 : Nat) : Int) == 0) = true := beq_iff_eq.2 (by rw [hD] at hDl; simp at hDl; omega)
                have HE : Hid (R = (r1, true)) := hide (by rw [HR2.out, if_pos (by rw [HC2.out, hD])])
                clear HR2 HCZ HC2 hn hxy hD hDl hcn
                go_wp2_with fail
                refine (XS.out _ HRD.out).mono ?_
                rintro e w1 ⟨rfl, hb⟩
                have hcell1 : w1.cell? ⟨g, n - 1, none⟩ = _ := (hb.cell (p := ⟨g, n - 1, none⟩) hadb).trans HCELL.out
                have hg1 : g < w1.heap.size := by have := hb.size; omega
                have HB1 := hide (below_more HB.out (Nat.le_refl _) hb)
                clear hb
                go_wp2_with fail
                go_quiet (fail)
                go_wp2_with fail
                go_ret2
                exact ⟨by rw [HE.out]; rfl, belowN _ HB1.out⟩
              · have hn01 : (((n - 1 : Nat) : Int) == 0) = false := beq_eq_false_iff_ne.2 (by
                  have : cl.dropLast.length ≠ 0 := fun e => hD (List.eq_nil_of_length_eq_zero e)
                  omega)
                have hdle : cl.dropLast.length ≤ j := by rw [List.length_dropLast]; omega
                have HE : Hid (R = skipL p f r1 cl.dropLast) := hide (by rw [HR2.out, HC2.out, if_neg hD])
                clear HR2 HCZ HC2 hn hxy hD hcn
                go_wp2_with fail
                refine (XS.out _ HRD.out).mono ?_
                rintro e w1 ⟨rfl, hb⟩
                have hcell1 : w1.cell? ⟨g, n - 1, none⟩ = _ := (hb.cell (p := ⟨g, n - 1, none⟩) hadb).trans HCELL.out
                have hg1 : g < w1.heap.size := by have := hb.size; omega
                have HO1 : Hid (Bo w.heap.size w1 (some ⟨g, 0, none⟩) (n - 1) c cl.dropLast) := hide (own_below HDR.out.1 hb)
                have HB1 := hide (below_more HB.out (Nat.le_refl _) hb)
                clear hb
                go_wp2_with fail
                go_quiet (fail)
                go_wp2_with fail
                go_roundw
                case rel => exact ⟨r1, f, cl.dropLast, some ⟨g, 0, none⟩, n - 1, c, rfl, rfl, .inr hs1, by omega, by omega, HO1, hide (belowN _ HB1.out), HE⟩
                case measure => simp [intOf]; omega
            · rw [beq_eq_false_iff_ne.2 hxy] at tq
              have hn0e : ((n : Int) == 0) = false := beq_eq_false_iff_ne.2 (by omega)
              have HE : Hid (R = skipL p f r1 cl) := hide (by
                have : cz = cl := by rw [HCZ.out, if_neg (fun h => hxy h.2)]
                rw [HR2.out, this, if_neg hcn])
              clear HR2 HCZ hn hxy hDl hcn
              go_wp2_with fail
              refine (XS.out _ HRD.out).mono ?_
              rintro e w1 ⟨rfl, hb⟩
              have hcell1 : w1.cell? ⟨g, n - 1, none⟩ = _ := (hb.cell (p := ⟨g, n - 1, none⟩) hadb).trans HCELL.out
              have hg1 : g < w1.heap.size := by have := hb.size; omega
              have HO1 : Hid (Bo w.heap.size w1 (some ⟨g, 0, none⟩) n c cl) := hide (own_below HO.out hb)
              have HB1 := hide (below_more HB.out (Nat.le_refl _) hb)
              clear hb
              go_wp2_with fail
              go_quiet (fail)
              go_wp2_with fail
              go_roundw
              case rel => exact ⟨r1, f, cl, some ⟨g, 0, none⟩, n, c, rfl, rfl, .inr hs1, by omega, by omega, HO1, hide (belowN _ HB1.out), HE⟩
              case measure => simp [intOf]; omega
        · replace HCZ := hide (HCZ.out.trans (if_pos h0))
          have tn : ((r2.toNat : Int) != 0) = true := by rw [bne, tz, beq_eq_false_iff_ne.2 h0]; rfl
          have HE : Hid (R = skipL p f r1 (cl ++ [r2])) := hide (by rw [HR2.out, HCZ.out, if_neg (by simp)])
          have hnz : (((n : Int) + 1) == 0) = false := beq_eq_false_iff_ne.2 (by omega)
          have hnz2 : (((n + 1 : Nat) : Int) == 0) = false := beq_eq_false_iff_ne.2 (by omega)
          clear HR2 HCZ hn tz h0
          go_wp2_with fail
          refine (XS.out _ HRD.out).mono ?_
          rintro e w1 ⟨rfl, hb⟩
          have hO1 : Bo w.heap.size w1 A n c cl := own_below HO.out hb
          have hB1 := below_more HB.out (Nat.le_refl _) hb
          have hwz : w.heap.size ≤ w1.heap.size := hB1.size
          have hown1 := World.ownsRow.alloc hO1 (.cells #[.int .u8 (r2.toNat : Int)] 5)
          have hr1 := one_u8 w1 r2
          have HO1 := hide hO1
          have HB1 := hide hB1
          have HOWN := hide hown1
          have HRR := hide hr1
          clear hb hO1 hB1 hown1 hr1
          go_wp2_with (at_builtin; (refine wpList_append_any _ rfl (.tmp 30) (.tmp 32) 48 rfl w.heap.size 5 i8 _ 1 1 Tryd.underlying48 HI8.out hz0 hz1 hz2 rfl (by omega) (.slice A n c) n (bv cl) rfl (by exact HOWN.out) (w1.heap.size + 1) (some ⟨w1.heap.size, 0, none⟩) 1 1 (bv [r2]) rfl (by exact HRR.out) (bv_one _) ?c1 ?c2 ?c3 ?_))
          case c1 => unfold maxLen; omega
          case c2 => omega
          case c3 => simp; omega
          intro v1 w2 hown2 hg2 hat2
          obtain ⟨A2, c2, rfl, O2, W2⟩ := bo_next HO1.out hown2 hg2 HB1.out (Nat.le_refl _)
          clear hown2 hg2 hat2
          have HO2 := hide O2
          have HW2 := hide W2
          clear O2 W2
          go_wp2_with fail
          go_roundw
          case rel => exact ⟨r1, f, cl ++ [r2], A2, n + 1, c2, rfl, rfl, .inr hs1, by omega, by simp; omega, HO2, HW2, HE⟩
          case measure => simp [intOf]; omega
    · have hk1 : (p.length : Int) ≤ (j : Int) := by omega
      have HE : Hid (R = (p.length, false)) := hide (by
        rw [HR.out]
        cases f with
        | zero => rfl
        | succ f => rw [skipL, if_pos (by omega)])
      clear HR
      go_wp2_with fail
      go_ret2
      exact ⟨by rw [HE.out]; rfl, HB.out⟩
set_option maxRecDepth 100000 in
set_option maxHeartbeats 2000000 in
theorem skipE_nat (p : LB) (i : Nat) (w : World) (hi : i < p.length) (hl : p.length ≤ 100000) :
    Calls Tryd.prog 9 #[.string ⟨p.toArray⟩, .int .i64 (i : Int)] w fun e w' => e = .returned (.tuple #[.int .i64 ((if (skipP p i).2 = true then (skipP p i).1 else 0 : Nat) : Int), .bool (skipP p i).2]) ∧ Below w.heap.size w w' := by
  have X := hide (fun W => skip_any p i W (by omega) hl)
  obtain ⟨r1, hr1⟩ : ∃ r1, (skipP p i).1 = r1 := ⟨_, rfl⟩
  obtain ⟨r2, hr2⟩ : ∃ r2, (skipP p i).2 = r2 := ⟨_, rfl⟩
  rw [hr1, hr2] at X ⊢
  clear hr1 hr2
  have k1 : ¬ (i : Int) < 0 := by omega
  have k2 : ¬ (p.length : Int) ≤ (i : Int) := by omega
  cases r2 with
  | true =>
    go_enter Tryd.func9, Tryd.ntmps9
    go_wp2_with fail
    refine (X.out _).mono ?_
    rintro e w1 ⟨rfl, hb⟩
    have HB := hide hb
    clear hb
    go_wp2_with fail
    go_ret2
    exact ⟨rfl, HB.out⟩
  | false =>
    go_enter Tryd.func9, Tryd.ntmps9
    go_wp2_with fail
    refine (X.out _).mono ?_
    rintro e w1 ⟨rfl, hb⟩
    have HB := hide hb
    clear hb
    go_wp2_with fail
    go_ret2
    exact ⟨rfl, HB.out⟩
end Go.Proofs.YtpfcfcbljkdkhaaDoor
