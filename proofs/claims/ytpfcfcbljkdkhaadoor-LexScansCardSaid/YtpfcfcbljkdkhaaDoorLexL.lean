/- The contract of (*scanner).documents. -/
import Derived.Test.YtpfcfcbljkdkhaaDoorLexJ
import Derived.Test.YtpfcfcbljkdkhaaDoorLexK0
namespace Go.Proofs.YtpfcfcbljkdkhaaDoor
open Go.RowKit
set_option linter.unusedVariables false
theorem name_w {Q : Exit → Act → World → Prop} {e : Exit} {a : Act} {w : World} (C : World → Prop) (hc : C w) (h : ∀ W, C W → Q e a W) : Q e a w := h w hc
theorem quietAN {P : Program} {f : FuncId} {args : Array Value} {w : World} {a n : Nat} {v : Value}
    (h : Calls P f args (w.drewN (a + n)) fun e w' => e = .returned v ∧ ∃ m, w' = (w.drewN (a + n)).drewN m) : Calls P f args (w.drewN (a + n)) fun e w'' => e = .returned v ∧ ∃ m, w'' = w.drewN (a + m) :=
  h.mono fun _ _ ⟨he, m, hm⟩ => ⟨he, n + m, by rw [hm]; simp [World.drewN, Nat.add_assoc]⟩
theorem quietN {P : Program} {f : FuncId} {args : Array Value} {w : World} {n : Nat} {v : Value}
    (h : Calls P f args (w.drewN n) fun e w' => e = .returned v ∧ ∃ m, w' = (w.drewN n).drewN m) : Calls P f args (w.drewN n) fun e w'' => e = .returned v ∧ ∃ m, w'' = w.drewN m :=
  h.mono fun _ _ ⟨he, m, hm⟩ => ⟨he, n + m, by rw [hm]; simp [World.drewN, Nat.add_assoc]⟩
set_option maxRecDepth 100000 in
set_option maxHeartbeats 16000000 in
theorem docs_any (B g : Nat) (p : LB) (s : S) (w : World) (hl : p.length ≤ 100000) (hok : SOk p s) (h : ScAt B w g p s) (hBw : B ≤ w.heap.size) (hlx : ∀ t ∈ s.toks, t.text.length ≤ 100000) :
    Calls Tryd.prog 32 #[.pointer (some ⟨g, 0, none⟩)] w fun e w' => e = .returned (.bool (docsS p s).2) ∧ ((docsS p s).2 = true → ScAt B w' g p (docsS p s).1) ∧ (∃ s', s'.fault = (docsS p s).1.fault ∧ ScAt B w' g p s') ∧ Below B w w' := by
  obtain ⟨A, m, k, A', m', k', hS⟩ := h
  have hBg := hS.2.2.2
  obtain ⟨⟨c0, c1, c2, c3, c4⟩, f0, f1, f2, f3, f4⟩ := hS.cells
  have hgl := hS.lt
  have hD : docsS p s = (match docsL p s.wait s.at_ s.toks with
    | none => ({ s with fault := p.length }, false)
    | some (i, ts) => (⟨i, ts, [], s.fault⟩, true)) := rfl
  obtain ⟨R, hR⟩ : ∃ R, docsL p s.wait s.at_ s.toks = R := ⟨_, rfl⟩
  obtain ⟨OUT, hOUT⟩ : ∃ O, docsS p s = O := ⟨_, rfl⟩
  rw [hR] at hD
  rw [hOUT] at hD ⊢
  have HD := hide hD
  have HR0 : Hid (R = docsL p (s.wait.drop 0) s.at_ s.toks) := hide hR.symm
  have HS0 : Hid (Sc B w g p { s with at_ := s.at_, toks := s.toks } A m k A' m' k') := hide hS
  have HWT : Hid (s.wait.length = m') := hide hS.2.2.1.len
  have HWB : Hid (∀ q ∈ s.wait, q < s.toks.length) := hide hok.2.2.2.2
  have HTX : Hid (∀ q, (s.toks.getD q tokD).text.length ≤ 100000) := hide fun q => by
    rw [List.getD_eq_getElem?_getD]
    cases hq : s.toks[q]? with
    | none => simp [tokD]
    | some t => exact hlx t (List.mem_of_getElem? hq)
  have hat := hok.1
  have htl := hok.2.1
  have hwl := hok.2.2.2.1
  have hm' : m' ≤ 100000 := by have := HWT.out; omega
  clear hR hD hOUT hok hS hlx
  go_enter Tryd.func32, Tryd.ntmps32
  go_wp2_with fail
  go_loopw [16] (fun u16 wx => ∃ (i j : Nat) (ts : List T), u16 = .int .i64 i ∧ i ≤ m' ∧ j ≤ p.length ∧ ts.length = s.toks.length ∧ Hid (Sc B wx g p { s with at_ := j, toks := ts } A m k A' m' k') ∧ Hid (Below B w wx) ∧ Hid (R = docsL p (s.wait.drop i) j ts) ∧ Hid (∀ q, (ts.getD q tokD).text.length ≤ 100000)) (fun u16 _ => m' - (intOf u16).toNat)
  case atStart => exact ⟨0, s.at_, s.toks, rfl, Nat.zero_le _, hat, rfl, HS0, hide (Below.refl _ _), HR0, HTX⟩
  case round =>
    clear HR0 HS0 HTX c0 c1 c2 c3 c4 f0 f1 f2 f3 f4 hgl
    obtain ⟨i, j, ts, rfl, hi, hj, htn, HS, HB, HR, HTX⟩ := hrel
    obtain ⟨⟨c0, c1, c2, c3, c4⟩, f0, f1, f2, f3, f4⟩ := HS.out.cells
    dsimp only at c1 c4
    have hgl := HS.out.lt
    by_cases hlt : i < m'
    · have hil : i < s.wait.length := by have := HWT.out; omega
      obtain ⟨q, hq⟩ : ∃ q, s.wait[i] = q := ⟨_, rfl⟩
      have hql : q < ts.length := by rw [htn, ← hq]; exact HWB.out _ (List.getElem_mem _)
      have hRR : R = docsL p (q :: s.wait.drop (i + 1)) j ts := by
        rw [HR.out, List.drop_eq_getElem_cons hil, hq]
      have hdl : docsL p (q :: s.wait.drop (i + 1)) j ts = (match docL p (bareP (ts.getD q tokD).text).1 (p.length + 1) j with
        | none => none
        | some (e, nx) => docsL p (s.wait.drop (i + 1)) nx (ts.set q { (ts.getD q tokD) with doc := (p.drop j).take (e - j), quoted := (bareP (ts.getD q tokD).text).2 })) := rfl
      rw [hdl] at hRR
      obtain ⟨gw, hgw, hgwl⟩ := Io.addr HS.out.2.2.1 (by omega : 0 < m')
      obtain ⟨gt, hgt, hBgt, hgtl⟩ := To.addr (s := { s with toks := ts }) HS.out.2.1 (by have := HS.out.2.1.len; dsimp only at this; omega : 0 < m)
      subst hgw hgt
      have cw := Io.cell HS.out.2.2.1 hil
      rw [hq] at cw
      have cx := To.cell HS.out.2.1 hql 1 (by omega)
      have c3d := To.cell HS.out.2.1 hql 3 (by omega)
      have c4d := To.cell HS.out.2.1 hql 4 (by omega)
      have hgd : ts.getD q tokD = ts[q] := by simp [List.getD_eq_getElem?_getD, hql]
      rw [← hgd] at cx c3d c4d
      simp only [tokV, sv, List.getElem?_cons_zero, List.getElem?_cons_succ] at cx c3d c4d
      have hx5 := HTX.out q
      have hmt : m ≤ 100000 := by have := HS.out.2.1.len; dsimp only at this; omega
      have hqm : q < m := by have := HS.out.2.1.len; dsimp only at this; omega
      obtain ⟨tx, htx⟩ : ∃ tx, (ts.getD q tokD).text = tx := ⟨_, rfl⟩
      rw [htx] at cx hRR hx5
      have XB := hide (fun W => bare_any tx W hx5)
      obtain ⟨dl, hdl1⟩ : ∃ dl, (bareP tx).1 = dl := ⟨_, rfl⟩
      obtain ⟨qb, hqb⟩ : ∃ qb, (bareP tx).2 = qb := ⟨_, rfl⟩
      rw [hdl1, hqb] at XB hRR
      have HRR := hide hRR
      have hia : ∀ W, (Instr.indexAt 23 (.slice (some ⟨gt, 0, none⟩) m k) (.int .i64 (q : Int))).run Tryd.prog W = .ok (.pointer (some ⟨gt, q * 5, none⟩)) W := fun W => tok_at gt m k q (q : Int) rfl hqm W
      have hk1 : (i : Int) < (m' : Int) := by omega
      have HCX := hide cx
      have HC3 := hide c3d
      have HC4 := hide c4d
      clear hq hRR hdl hdl1 hqb htx hgd HR c3d c4d
      go_wp2_with fail
      refine (XB.out _).mono ?_
      rintro e w1 ⟨rfl, hb1⟩
      have HS1 := hide (HS.out.below (w' := w1) hb1)
      have HB1 : Hid (Below B w w1) := hide (below_more HB.out (by have := HB.out.size; omega) hb1)
      obtain ⟨⟨d0, d1, d2, d3, d4⟩, e0, e1, e2, e3, e4⟩ := HS1.out.cells
      dsimp only at d1 d4
      have hgl1 := HS1.out.lt
      clear hb1 c0 c1 c2 c3 c4 f0 f1 f2 f3 f4 HS HB HCX HC3 HC4 XB
      go_wp2_with fail
      have HDQ : Hid (docL p dl (p.length + 1) j = docL p dl (p.length + 1) j) := hide rfl
      go_loopw [] (fun wx => ∃ (jj f : Nat), j ≤ jj ∧ jj ≤ p.length ∧ p.length + 1 ≤ f + jj ∧ Hid (Sc B wx g p { s with at_ := jj, toks := ts } (some ⟨gt, 0, none⟩) m k (some ⟨gw, 0, none⟩) m' k') ∧ Hid (Below B w wx) ∧ Hid (docL p dl (p.length + 1) j = docL p dl f jj)) (fun wx => p.length - (intOf ((wx.cell? ⟨g, 1, none⟩).getD undef)).toNat)
      case atStart => exact ⟨j, p.length + 1, Nat.le_refl _, hj, by omega, HS1, HB1, HDQ⟩
      case round =>
        clear HS1 HB1 HDQ d0 d1 d2 d3 d4 e0 e1 e2 e3 e4 hgl1
        obtain ⟨jj, f, hjj, hjp, hf, HS1, HB1, HDQ⟩ := hrel
        obtain ⟨⟨d0, d1, d2, d3, d4⟩, e0, e1, e2, e3, e4⟩ := HS1.out.cells
        dsimp only at d1 d4
        have hgl1 := HS1.out.lt
        have HC1 := hide d1
        by_cases hjl : jj < p.length
        · obtain ⟨f, rfl⟩ : ∃ f', f = f' + 1 := ⟨f - 1, by omega⟩
          have hk2 : ¬ (p.length : Int) ≤ (jj : Int) := by omega
          have hk3 : (jj : Int) ≤ (p.length : Int) := by omega
          have hdq := HDQ.out
          conv at hdq => rhs; unfold docL
          rw [if_neg (by omega)] at hdq
          have hll := lineP_len (p.drop jj)
          rw [List.length_drop] at hll
          have hsl := sl_from p jj (by omega)
          have XL := hide (fun W => line_q (p.drop jj) W (by rw [List.length_drop]; omega))
          have hs2 := sl_two p j jj (j : Int) (jj : Int) rfl rfl hjj hjp
          obtain ⟨Q, hQ⟩ : ∃ Q, p.drop jj = Q := ⟨_, rfl⟩
          rw [hQ] at hdq hll hsl XL
          obtain ⟨on, hon⟩ : ∃ on, lineP Q = on := ⟨_, rfl⟩
          rw [hon] at hdq hll XL
          obtain ⟨nx, hnx⟩ : ∃ nx, min (jj + on.length + 1) p.length = nx := ⟨_, rfl⟩
          rw [hnx] at hdq
          have hnx1 : jj < nx := by omega
          have hnx2 : nx ≤ p.length := by omega
          have HNX := hide hnx
          have HDQ2 := hide hdq
          have hwa : IntKind.i64.wrap ((jj : Int) + (on.length : Int)) = (jj : Int) + (on.length : Int) := by simp [IntKind.wrap, IntKind.bits, IntKind.signed]; omega
          have hwb : IntKind.i64.wrap ((jj : Int) + (on.length : Int) + 1) = (jj : Int) + (on.length : Int) + 1 := by simp [IntKind.wrap, IntKind.bits, IntKind.signed]; omega
          have HLL := hide hll
          clear hQ hon hdq hnx HDQ hll
          go_wp2_with fail
          go_quiet (fail)
          go_wp2_with fail
          go_quiet ((go_at_call 31; first | exact quietAN (XL.out _) | exact quietN (XL.out _)))
          go_wp2_with fail
          have hmin : min ((jj : Int) + (on.length : Int) + 1) (p.length : Int) = (nx : Int) := by have := HNX.out; omega
          clear HNX
          refine wp_region_M (fun V => V.cell? ⟨g, 0, none⟩ = some (.string ⟨p.toArray⟩) ∧ V.cell? ⟨g, 1, none⟩ = some (.int .i64 (jj : Int))) 17 rfl ⟨by exact d0, by exact d1⟩ (fun hHeld => ?_)
          refine wpAnyM_take (i := 0) (v := ?_) rfl rfl (by kernel_rfl) (fun _ _ _ h => h) (Or.inl ⟨by rfl, ?_⟩) (by assumption) ?_
          rotate_left
          · (intro V hV; (try dsimp only at hV); go_simp; with_reducible rfl)
          try simp only [Act.put, List.setIfInBounds_toArray, List.set_cons_zero, List.set_cons_succ]
          refine wpAnyM_take (i := 1) (v := ?_) rfl rfl (by kernel_rfl) (fun _ _ _ h => h) (Or.inl ⟨by rfl, ?_⟩) (by assumption) ?_
          rotate_left
          · (intro V hV; (try dsimp only at hV); go_simp; with_reducible rfl)
          try simp only [Act.put, List.setIfInBounds_toArray, List.set_cons_zero, List.set_cons_succ]
          refine wpAnyM_take (i := 2) (v := ?_) rfl rfl (by kernel_rfl) (fun _ _ _ h => h) (Or.inl ⟨by rfl, ?_⟩) (by assumption) ?_
          rotate_left
          · (intro V hV; (try dsimp only at hV); go_simp; with_reducible rfl)
          try simp only [Act.put, List.setIfInBounds_toArray, List.set_cons_zero, List.set_cons_succ]
          refine wpAnyM_take (i := 3) (v := ?_) rfl rfl (by kernel_rfl) (fun _ _ _ h => h) (Or.inl ⟨by rfl, ?_⟩) (by assumption) ?_
          rotate_left
          · (intro V hV; (try dsimp only at hV); go_simp; with_reducible rfl)
          try simp only [Act.put, List.setIfInBounds_toArray, List.set_cons_zero, List.set_cons_succ]
          refine wpAnyM_take (i := 4) (v := ?_) rfl rfl (by kernel_rfl) (fun _ _ _ h => h) (Or.inl ⟨by rfl, ?_⟩) (by assumption) ?_
          rotate_left
          · (intro V hV; (try dsimp only at hV); go_simp; with_reducible rfl)
          try simp only [Act.put, List.setIfInBounds_toArray, List.set_cons_zero, List.set_cons_succ]
          refine wpAnyM_take (i := 5) (v := ?_) rfl rfl (by kernel_rfl) (fun _ _ _ h => h) (Or.inl ⟨by rfl, ?_⟩) (by assumption) ?_
          rotate_left
          · (intro V hV; (try dsimp only at hV); go_simp; with_reducible rfl)
          try simp only [Act.put, List.setIfInBounds_toArray, List.set_cons_zero, List.set_cons_succ]
          refine wpAnyM_take (i := 6) (v := ?_) rfl rfl (by kernel_rfl) (fun _ _ _ h => h) (Or.inl ⟨by rfl, ?_⟩) (by assumption) ?_
          rotate_left
          · (intro V hV; (try dsimp only at hV); go_simp; with_reducible rfl)
          try simp only [Act.put, List.setIfInBounds_toArray, List.set_cons_zero, List.set_cons_succ]
          refine wpAnyM_take (i := 7) (v := ?_) rfl rfl (by kernel_rfl) (fun _ _ _ h => h) (Or.inl ⟨by rfl, ?_⟩) (by assumption) ?_
          rotate_left
          · (intro V hV; (try dsimp only at hV); go_simp; with_reducible rfl)
          try simp only [Act.put, List.setIfInBounds_toArray, List.set_cons_zero, List.set_cons_succ]
          refine wpAnyM_take (i := 8) (v := ?_) rfl rfl (by kernel_rfl) (fun _ _ _ h => h) (Or.inl ⟨by rfl, ?_⟩) (by assumption) ?_
          rotate_left
          · (intro V hV; (try dsimp only at hV); go_simp; with_reducible rfl)
          try simp only [Act.put, List.setIfInBounds_toArray, List.set_cons_zero, List.set_cons_succ]
          refine wpAnyM_take (i := 9) (v := ?_) rfl rfl (by kernel_rfl) (fun _ _ _ h => h) (Or.inl ⟨by rfl, ?_⟩) (by assumption) ?_
          rotate_left
          · (intro V hV; (try dsimp only at hV); go_simp; with_reducible rfl)
          try simp only [Act.put, List.setIfInBounds_toArray, List.set_cons_zero, List.set_cons_succ]
          refine wpAnyM_take (i := 10) (v := ?_) rfl rfl (by kernel_rfl) (fun _ _ _ h => h) (Or.inl ⟨by rfl, ?_⟩) (by assumption) ?_
          rotate_left
          · (intro V hV; (try dsimp only at hV); go_simp; with_reducible rfl)
          try simp only [Act.put, List.setIfInBounds_toArray, List.set_cons_zero, List.set_cons_succ]
          refine wpAnyM_take (i := 11) (v := ?_) rfl rfl (by kernel_rfl) (fun _ _ _ h => h) (Or.inl ⟨by rfl, ?_⟩) (by assumption) ?_
          rotate_left
          · (intro V hV; (try dsimp only at hV); go_simp; with_reducible rfl)
          try simp only [Act.put, List.setIfInBounds_toArray, List.set_cons_zero, List.set_cons_succ]
          refine wpAnyM_take (i := 12) (v := ?_) rfl rfl (by kernel_rfl) (fun _ _ _ h => h) (Or.inl ⟨by rfl, ?_⟩) (by assumption) ?_
          rotate_left
          · (intro V hV; (try dsimp only at hV); go_simp; with_reducible rfl)
          try simp only [Act.put, List.setIfInBounds_toArray, List.set_cons_zero, List.set_cons_succ]
          refine wpAnyM_take (i := 13) (v := ?_) rfl rfl (by kernel_rfl) (fun _ _ _ h => h) (Or.inl ⟨by rfl, ?_⟩) (by assumption) ?_
          rotate_left
          · (intro V hV; (try dsimp only at hV); go_simp; with_reducible rfl)
          try simp only [Act.put, List.setIfInBounds_toArray, List.set_cons_zero, List.set_cons_succ]
          refine wpAnyM_step (i := 14) (by kernel_rfl) rfl rfl (fun K hK => ?_)
          go_simp
          refine hK.out _ _ (fun _ => ⟨by exact d0, by exact d1⟩) ?_
          clear hK K
          simp only [List.setIfInBounds_toArray]
          refine wpAnyM_take (i := 15) (v := ?_) rfl rfl (by kernel_rfl) (fun _ _ _ h => h) (Or.inl ⟨by rfl, ?_⟩) (by assumption) ?_
          rotate_left
          · (intro V hV; (try dsimp only at hV); go_simp; with_reducible rfl)
          try simp only [Act.put, List.setIfInBounds_toArray, List.set_cons_zero, List.set_cons_succ]
          refine wpAnyM_take (i := 16) (v := ?_) rfl rfl (by kernel_rfl) (fun _ _ _ h => h) (Or.inl ⟨by rfl, ?_⟩) (by assumption) ?_
          rotate_left
          · (intro V hV; (try dsimp only at hV); go_simp; with_reducible rfl)
          try simp only [Act.put, List.setIfInBounds_toArray, List.set_cons_zero, List.set_cons_succ]
          refine wpAnyM_step (i := 17) (by kernel_rfl) rfl rfl (fun K hK => ?_)
          go_simp
          refine hK.out _ _ (fun h => absurd rfl h) ?_
          refine wpAnyM_done (by kernel_rfl) ?_ _
          clear hK K hHeld
          refine name_w (fun W => Hid (Sc B W g p { s with at_ := nx, toks := ts } (some ⟨gt, 0, none⟩) m k (some ⟨gw, 0, none⟩) m' k') ∧ Hid (Below B w W)) ⟨(HS1.out.drewN _).at_ nx, (belowN _ HB1.out).setCell (p := ⟨g, 1, none⟩) hBg _⟩ ?_
          rintro W5 ⟨HS5, HB5⟩
          clear d0 d1 d2 d3 d4 e0 e1 e2 e3 e4 hgl1
          by_cases hxe : on = dl
          · have hxb : (on == dl) = true := beq_iff_eq.2 hxe
            have HRF : Hid (R = docsL p (s.wait.drop (i + 1)) nx (ts.set q { (ts.getD q tokD) with doc := (p.drop j).take (jj - j), quoted := qb })) := hide (by rw [HRR.out, HDQ2.out, if_pos hxe])
            obtain ⟨⟨d0, d1, d2, d3, d4⟩, e0, e1, e2, e3, e4⟩ := HS5.out.cells
            have hgl5 := HS5.out.lt
            have r3 := To.cell HS5.out.2.1 hql 3 (by omega)
            have r4 := To.cell HS5.out.2.1 hql 4 (by omega)
            simp only [tokV, sv, List.getElem?_cons_zero, List.getElem?_cons_succ] at r3 r4
            have z3 := To.frozen HS5.out.2.1 (q * 5 + 3)
            have z4 := To.frozen HS5.out.2.1 (q * 5 + 4)
            have hgtl5 : gt < W5.heap.size := by
              obtain ⟨g2, e, _, hlt⟩ := To.addr (s := { s with toks := ts }) HS5.out.2.1 (by omega : 0 < m)
              injection e with e; injection e with e; rw [e]; exact hlt
            have HR3 := hide r3
            have hsd := Sc.doc (s := { s with at_ := nx, toks := ts }) HS5.out hql ((p.drop j).take (jj - j)) qb
            have HSD := hide hsd
            have HBD : Hid (Below B w ((W5.setCell ⟨gt, q * 5 + 3, none⟩ (.string ⟨((p.drop j).take (jj - j)).toArray⟩)).setCell ⟨gt, q * 5 + 4, none⟩ (.bool qb))) := hide ((HB5.out.setCell (p := ⟨gt, q * 5 + 3, none⟩) hBgt _).setCell (p := ⟨gt, q * 5 + 4, none⟩) hBgt _)
            have HTX2 : Hid (∀ x, ((ts.set q { (ts.getD q tokD) with doc := (p.drop j).take (jj - j), quoted := qb }).getD x tokD).text.length ≤ 100000) := hide fun x => by
              by_cases hxq : q = x
              · subst hxq
                rw [List.getD_eq_getElem?_getD, List.getElem?_set_self hql]
                exact HTX.out q
              · have := HTX.out x
                rw [List.getD_eq_getElem?_getD] at this ⊢
                rw [List.getElem?_set_ne hxq]
                exact this
            clear HDQ2 HRR hsd hxe
            go_wp2_with fail
            go_roundw
            case rel => exact ⟨i + 1, nx, ts.set q { (ts.getD q tokD) with doc := (p.drop j).take (jj - j), quoted := qb }, by go_num, by omega, by omega, by rw [List.length_set]; exact htn, HSD, HBD, HRF, HTX2⟩
            case measure => simp [intOf]; omega
          · have hxb : (on == dl) = false := beq_eq_false_iff_ne.2 hxe
            have HDQ3 : Hid (docL p dl (p.length + 1) j = docL p dl f nx) := hide (by rw [HDQ2.out, if_neg hxe])
            clear HDQ2 hxe
            go_wp2_with fail
            go_roundw
            case rel => exact ⟨nx, f, by omega, by omega, by omega, HS5, HB5, HDQ3⟩
            case measure => exact meas_lt (i := nx) HS5.out.cells.1.2.1 HC1.out (by omega) hjl
        · have hk2 : (p.length : Int) ≤ (jj : Int) := by omega
          have hdn : docL p dl (p.length + 1) j = none := by
            rw [HDQ.out]
            cases f with
            | zero => rfl
            | succ f => rw [docL, if_pos (by omega)]
          have HO2 : Hid (OUT = ({ s with fault := p.length }, false)) := hide (by rw [HD.out, HRR.out, hdn])
          clear HDQ hdn HD HRR
          go_wp2_with fail
          go_quiet (fail)
          go_wp2_with fail
          go_ret
          exact ⟨by rw [HO2.out]; rfl, (by rw [HO2.out]; intro h; cases h), ⟨_, by rw [HO2.out], _, _, _, _, _, _, (HS1.out.drewN _).fault_ p.length⟩, (belowN _ HB1.out).setCell (p := ⟨g, 4, none⟩) hBg _⟩
    · obtain rfl : i = m' := by omega
      have hk1 : ¬ (i : Int) < (i : Int) := by omega
      have hRR : R = some (j, ts) := by rw [HR.out, List.drop_of_length_le (by have := HWT.out; omega)]; rfl
      have HO2 : Hid (OUT = (⟨j, ts, [], s.fault⟩, true)) := hide (by rw [HD.out, hRR])
      clear HR HD hRR
      go_wp2_with fail
      go_ret
      exact ⟨by rw [HO2.out]; rfl, fun _ => ⟨A, m, k, none, 0, 0, by rw [HO2.out]; exact HS.out.nowait⟩, ⟨_, by rw [HO2.out], _, _, _, _, _, _, HS.out.nowait⟩, HB.out.setCell (p := ⟨g, 3, none⟩) hBg _⟩
end Go.Proofs.YtpfcfcbljkdkhaaDoor
