/- The contract of the reference's docs. -/
import Derived.Test.YtpfcfcbljkdkhaaDoorRefK
namespace Go.Proofs.YtpfcfcbljkdkhaaDoor
open Go.RowKit
set_option linter.unusedVariables false
theorem int_at (g1 m k q : Nat) (i : Int) (hi : i = (q : Int)) (hq : q < m) (W : World) : (Instr.indexAt 38 (.slice (some ⟨g1, 0, none⟩) m k) (.int .i64 i)).run Tryd.prog W = .ok (.pointer (some ⟨g1, q, none⟩)) W := by
  subst hi
  have hE : Tryd.prog.elem 38 = 3 := by simp [Program.elem, Tryd.underlying38]
  rw [run_indexAt_slice W 38 ⟨g1, 0, none⟩ m k .i64 (q : Int) (slice_ht Tryd.underlying38), if_pos ⟨by omega, by omega⟩]
  rw [hE, run_sizeOf_one _ sizeInt W]
  simp only [Result.andThen, Int.toNat_natCast, at_add, Nat.zero_add, Nat.mul_one]
/-- A token's document is stored in a row of tokens, beside a row of numbers. -/
theorem to_doc {B B' : Nat} {w : World} {g1 n c : Nat} {A' : Option Addr} {n' c' : Nat} {ts : List T} {wt : List Nat} (h : To B w (some ⟨g1, 0, none⟩) n c ts) (hi : Io B' w A' n' c' wt) {q : Nat} (hq : q < ts.length) (d : LB) (b : Bool) :
    To B ((w.setCell ⟨g1, q * 5 + 3, none⟩ (.string ⟨d.toArray⟩)).setCell ⟨g1, q * 5 + 4, none⟩ (.bool b)) (some ⟨g1, 0, none⟩) n c (ts.set q { (ts.getD q tokD) with doc := d, quoted := b })
    ∧ Io B' (w.setCell ⟨g1, q * 5 + 3, none⟩ (.string ⟨d.toArray⟩)) A' n' c' wt
    ∧ Io B' ((w.setCell ⟨g1, q * 5 + 3, none⟩ (.string ⟨d.toArray⟩)).setCell ⟨g1, q * 5 + 4, none⟩ (.bool b)) A' n' c' wt := by
  have s1 := World.ownsRow.stored h (q * 5 + 3) (.string ⟨d.toArray⟩)
  have s2 := World.ownsRow.stored s1.1 (q * 5 + 4) (.bool b)
  have i1 : (w.setCell ⟨g1, q * 5 + 3, none⟩ (.string ⟨d.toArray⟩)).ownsRow B' 3 1 (.slice A' n' c') n' (ivs wt) :=
    World.ownsRow.kept hi s1.2 (by
      rcases own_ne hi h (by decide) with e | e
      · exact .inl e
      · exact .inr e)
  have i2 : ((w.setCell ⟨g1, q * 5 + 3, none⟩ (.string ⟨d.toArray⟩)).setCell ⟨g1, q * 5 + 4, none⟩ (.bool b)).ownsRow B' 3 1 (.slice A' n' c') n' (ivs wt) :=
    World.ownsRow.kept i1 s2.2 (by
      rcases own_ne i1 s1.1 (by decide) with e | e
      · exact .inl e
      · exact .inr e)
  refine ⟨?_, i1, i2⟩
  have hg : ts.getD q tokD = ts[q] := by simp [List.getD_eq_getElem?_getD, hq]
  have := tvs_set ts q { (ts.getD q tokD) with doc := d, quoted := b } hq (by rw [hg]) (by rw [hg]) (by rw [hg])
  unfold To
  rw [← this]
  exact s2.1
/-- What docs hands back. -/
def DocsRet (B : Nat) (A : Option Addr) (n c : Nat) (p : LB) (R : Option (Nat × List T)) (e : Ending) (w' : World) : Prop := match R with
  | none => e = .returned (.tuple #[.int .i64 0, .bool false])
  | some (j, us) => e = .returned (.tuple #[.int .i64 (j : Int), .bool true]) ∧ To B w' A n c us ∧ j ≤ p.length
set_option maxRecDepth 1000000 in
set_option maxHeartbeats 16000000 in
theorem refdocs_any (B B' : Nat) (p : LB) (hl : p.length ≤ 100000) (i0 : Nat) (h0 : i0 ≤ p.length) (A A' : Option Addr) (n c n' c' : Nat) (ts : List T) (wt : List Nat) (w : World) (hT : To B w A n c ts) (hI : Io B' w A' n' c' wt) (hBw : B ≤ w.heap.size) (hwb : ∀ k ∈ wt, k < ts.length) (hlx : ∀ t ∈ ts, t.text.length ≤ 100000) (hn : n ≤ 100000) (hn' : n' ≤ 100000) :
    Calls Tryd.prog 23 #[.string ⟨p.toArray⟩, .int .i64 (i0 : Int), .slice A n c, .slice A' n' c'] w fun e w' => Below B w w' ∧ DocsRet B A n c p (docsL p wt i0 ts) e w' := by
  obtain ⟨R, hR⟩ : ∃ R, docsL p wt i0 ts = R := ⟨_, rfl⟩
  rw [hR]
  have HR0 : Hid (R = docsL p (wt.drop 0) i0 ts) := hide hR.symm
  have HT0 := hide hT
  have HI0 := hide hI
  have HWT := hide hI.len
  have HWB : Hid (∀ q ∈ wt, q < ts.length) := hide hwb
  have HTX : Hid (∀ q, (ts.getD q tokD).text.length ≤ 100000) := hide fun q => by
    rw [List.getD_eq_getElem?_getD]
    cases hq : ts[q]? with
    | none => simp [tokD]
    | some t => exact hlx t (List.mem_of_getElem? hq)
  clear hR hT hI hwb hlx
  go_enter Tryd.func23, Tryd.ntmps23
  go_wp2_with fail
  go_loopw [1, 10] (fun u1 u10 wx => ∃ (j i : Nat) (us : List T), u1 = .int .i64 j ∧ u10 = .int .i64 i ∧ i ≤ n' ∧ j ≤ p.length ∧ us.length = ts.length ∧ Hid (To B wx A n c us) ∧ Hid (Io B' wx A' n' c' wt) ∧ Hid (Below B w wx) ∧ Hid (R = docsL p (wt.drop i) j us) ∧ Hid (∀ q, (us.getD q tokD).text.length ≤ 100000)) (fun _ u10 _ => n' - (intOf u10).toNat)
  case atStart => exact ⟨i0, 0, ts, rfl, rfl, Nat.zero_le _, h0, rfl, HT0, HI0, hide (Below.refl _ _), HR0, HTX⟩
  case round =>
    clear HT0 HI0 HR0 HTX
    obtain ⟨j, i, us, rfl, rfl, hi, hj, hun, HT, HI, HB, HR, HTX⟩ := hrel
    have hBr : B ≤ wr.heap.size := by have := HB.out.size; omega
    by_cases hlt : i < n'
    · have hil : i < wt.length := by have := HWT.out; omega
      obtain ⟨q, hq⟩ : ∃ q, wt[i] = q := ⟨_, rfl⟩
      have hql : q < us.length := by rw [hun, ← hq]; exact HWB.out _ (List.getElem_mem _)
      have hRR : R = docsL p (q :: wt.drop (i + 1)) j us := by
        rw [HR.out, List.drop_eq_getElem_cons hil, hq]
      have hdl : docsL p (q :: wt.drop (i + 1)) j us = (match docL p (bareP (us.getD q tokD).text).1 (p.length + 1) j with
        | none => none
        | some (e, nx) => docsL p (wt.drop (i + 1)) nx (us.set q { (us.getD q tokD) with doc := (p.drop j).take (e - j), quoted := (bareP (us.getD q tokD).text).2 })) := rfl
      rw [hdl] at hRR
      have hqm : q < n := by have := HT.out.len; omega
      obtain ⟨gw, hgw, hgwl⟩ := Io.addr HI.out (by omega : 0 < n')
      obtain ⟨gt, hgt, hBgt, hgtl⟩ := To.addr (s := ⟨0, us, [], 0⟩) HT.out (by omega : 0 < n)
      subst hgw hgt
      have cw := Io.cell HI.out hil
      rw [hq] at cw
      have cx := To.cell HT.out hql 1 (by omega)
      have hgd : us.getD q tokD = us[q] := by simp [List.getD_eq_getElem?_getD, hql]
      rw [← hgd] at cx
      simp only [tokV, sv, List.getElem?_cons_zero, List.getElem?_cons_succ] at cx
      have hx5 := HTX.out q
      obtain ⟨tx, htx⟩ : ∃ tx, (us.getD q tokD).text = tx := ⟨_, rfl⟩
      rw [htx] at cx hRR hx5
      have XB := hide (fun W => refbare_any tx W hx5)
      have XD := hide (fun W => refdoc_any p (bareP tx).1 hl j hj W)
      obtain ⟨dl, hdl1⟩ : ∃ dl, (bareP tx).1 = dl := ⟨_, rfl⟩
      obtain ⟨qb, hqb⟩ : ∃ qb, (bareP tx).2 = qb := ⟨_, rfl⟩
      rw [hdl1, hqb] at XB hRR
      rw [hdl1] at XD
      obtain ⟨V, hV⟩ : ∃ V, docL p dl (p.length + 1) j = V := ⟨_, rfl⟩
      rw [hV] at hRR XD
      have hdf := docL_facts p dl (p.length + 1) j hj
      rw [hV] at hdf
      have HRR := hide hRR
      have HDF := hide hdf
      have HTXq := hide htx
      have hia : ∀ W, (Instr.indexAt 23 (.slice (some ⟨gt, 0, none⟩) n c) (.int .i64 (q : Int))).run Tryd.prog W = .ok (.pointer (some ⟨gt, q * 5, none⟩)) W := fun W => tok_at gt n c q (q : Int) rfl hqm W
      have hib : ∀ W, (Instr.indexAt 38 (.slice (some ⟨gw, 0, none⟩) n' c') (.int .i64 (i : Int))).run Tryd.prog W = .ok (.pointer (some ⟨gw, i, none⟩)) W := fun W => int_at gw n' c' i (i : Int) rfl hlt W
      have hk1 : (i : Int) < (n' : Int) := by omega
      clear hRR hdl hdl1 hqb htx hgd HR hV hdf
      go_wp2_with fail
      refine (XB.out _).mono ?_
      rintro e w1 ⟨rfl, hb1⟩
      have HT1 : Hid (To B w1 (some ⟨gt, 0, none⟩) n c us) := hide (HT.out.below hb1)
      have HI1 : Hid (Io B' w1 (some ⟨gw, 0, none⟩) n' c' wt) := hide (own_below HI.out hb1)
      have HB1 : Hid (Below B w w1) := hide (below_more HB.out hBw hb1)
      clear hb1 HT HI HB XB cw cx
      have cw := Io.cell HI1.out hil
      rw [hq] at cw
      go_wp2_with fail
      refine (XD.out _).mono ?_
      rintro e w2 ⟨rfl, rfl⟩
      clear XD
      cases V with
      | none =>
        have HX : Hid (R = none) := hide HRR.out
        clear HRR HDF HTXq hq
        unfold docV
        go_wp2_with fail
        go_ret2
        exact ⟨HB1.out, by rw [HX.out]; exact rfl⟩
      | some V =>
        obtain ⟨en, nx⟩ := V
        have hnx := (HDF.out en nx rfl).2.2.2
        have hRR := HRR.out
        dsimp only at hRR
        unfold docV
        dsimp only
        obtain ⟨D, hD⟩ : ∃ D, (p.drop j).take (en - j) = D := ⟨_, rfl⟩
        rw [hD] at hRR ⊢
        have hto := to_doc HT1.out HI1.out hql D qb
        have hio := hto.2.1
        have hne : gw ≠ gt := fun e => by
          have := own_ne HI1.out HT1.out (by decide)
          rcases this with h | h
          · rw [Value.ownBlock] at h; cases h
          · exact h (by rw [e]; rfl)
        have f3 := To.frozen HT1.out (q * 5 + 3)
        have f4 := To.frozen HT1.out (q * 5 + 4)
        have c3d := To.cell HT1.out hql 3 (by omega)
        have c4d := To.cell HT1.out hql 4 (by omega)
        simp only [tokV, sv, List.getElem?_cons_zero, List.getElem?_cons_succ] at c3d c4d
        have HTO := hide hto
        have HR3 := hide hRR
        have HTX2 : Hid (∀ r, ((us.set q { (us.getD q tokD) with doc := D, quoted := qb }).getD r tokD).text.length ≤ 100000) := hide fun r => by
          rw [List.getD_eq_getElem?_getD, List.getElem?_set]
          by_cases hr : q = r
          · rw [if_pos hr, if_pos hql]; exact HTX.out q
          · rw [if_neg hr, ← List.getD_eq_getElem?_getD]; exact HTX.out r
        have hul : (us.set q { (us.getD q tokD) with doc := D, quoted := qb }).length = ts.length := by rw [List.length_set]; exact hun
        rw [← HTXq.out] at hx5
        have HUL := hide hul
        have HR4 : Hid (R = docsL p (wt.drop (i + 1)) nx (us.set q { (us.getD q tokD) with doc := D, quoted := qb })) := hide HR3.out
        clear hto hio hD hRR HRR HDF HR3 hul hq
        go_wp2_with fail
        go_roundw
        case rel => exact ⟨nx, i + 1, _, rfl, by go_num, by omega, hnx, HUL.out, hide HTO.out.1, hide HTO.out.2.2, hide ((HB1.out.setCell (p := ⟨gt, q * 5 + 3, none⟩) hBgt _).setCell (p := ⟨gt, q * 5 + 4, none⟩) hBgt _), HR4, HTX2⟩
        case measure => simp [intOf]; omega
    · have hk1 : ¬ (i : Int) < (n' : Int) := by omega
      have HX : Hid (R = some (j, us)) := hide (by rw [HR.out, List.drop_eq_nil_of_le (by have := HWT.out; omega)]; rfl)
      clear HR
      go_wp2_with fail
      go_ret2
      exact ⟨HB.out, by rw [HX.out]; exact ⟨rfl, HT.out, hj⟩⟩
end Go.Proofs.YtpfcfcbljkdkhaaDoor
