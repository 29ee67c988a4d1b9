/- patterns, setting. -/
import Derived.Test.YthbackkcamgidaaGreatDoorRuJ
namespace Go.Proofs.YthbackkcamgidaaGreatDoor
open Go Go.RowKit
set_option linter.unusedVariables false
theorem addU_len {P Q : PL} {e : EU} (h : addU P e = some Q) : Q.env.length ≤ 64 := by
  unfold addU at h
  obtain ⟨_, h⟩ := if_some h
  obtain ⟨h1, h⟩ := if_some h
  injection h with h
  subst h
  simp; omega
theorem patU_len {k : Int} : ∀ {ws : List LB} {P Q : PL}, P.env.length ≤ 64 → patU k ws P = some Q → Q.env.length ≤ 64
  | [], P, Q, hP, h => by unfold patU at h; injection h with h; subst h; exact hP
  | w :: ws, P, Q, hP, h => by
    unfold patU at h
    cases ha : addU P ⟨k, w, []⟩ with
    | none => rw [ha] at h; cases h
    | some P1 => rw [ha] at h; exact patU_len (addU_len ha) h
set_option maxRecDepth 100000 in
set_option maxHeartbeats 8000000 in
theorem patterns_any (p B : Nat) (s : RS) (P : PL) (num : Int) (fi : Bool) (k : Int) (ws : List LB) (A : Option Addr) (n c : Nat) (w : World) (h : RdI p B s P num fi w) (hT : TyS w A n c ws) (hn : n ≤ 1000000000) (hw : ∀ x ∈ ws, x.length ≤ 90000) (hE : P.env.length ≤ 64) :
    Calls Tryz.prog 99 #[.pointer (some ⟨p, 0, none⟩), .int .i64 k, .slice A n c] w (LnEnd p B num fi (patU k ws P) w) := by
  have hl := hT.len
  have HT := hide hT
  have HW := hide hw
  have HI := hide h
  obtain ⟨R, hR⟩ : ∃ R, patU k ws P = R := ⟨_, rfl⟩
  rw [hR]
  have HR := hide hR
  clear hR hT hw h
  go_enter Tryz.func99, Tryz.ntmps99
  go_wp2_with fail
  go_loopw [7, 10] (fun _ u10 wx => ∃ (i : Nat) (s' : RS) (P' : PL), i ≤ n ∧ u10 = .int .i64 i ∧ Hid (R = patU k (ws.drop i) P') ∧ Hid (RdI p B s' P' num fi wx) ∧ P'.env.length ≤ 64 ∧ Hid (Fr p w wx)) (fun _ u10 _ => n - (intOf u10).toNat)
  case atStart => exact ⟨0, s, P, Nat.zero_le _, rfl, hide (by rw [← HR.out]; rfl), HI, hE, hide (Fr.refl _ _)⟩
  case round =>
    clear hE
    obtain ⟨i, s', P', hi, rfl, HX, HJ, hE, HF⟩ := hrel
    have HT2 := hide (HT.out.fr HF.out)
    by_cases hlt : i < n
    · obtain ⟨g1, o1, rfl, hg, hc1⟩ := cells_of HT2.out.rd (by omega) (by rw [svs_length]; omega)
      have hcell : wr.cell? ⟨g1, o1 + i, none⟩ = some (.string ⟨(ws[i]'(by omega)).toArray⟩) := hc1 i _ (svs_get ws i (by omega))
      have hxl := HW.out _ (List.getElem_mem (by omega : i < ws.length))
      have HD : Hid (R = (addU P' ⟨k, ws[i]'(by omega), []⟩).bind (patU k (ws.drop (i + 1)))) := hide (by
        rw [HX.out, List.drop_eq_getElem_cons (by omega), patU])
      have hi1 : (i : Int) < (n : Int) := by omega
      have hi0 : (0 : Int) ≤ (i : Int) := by omega
      have kw : IntKind.i64.wrap ((i : Int) + 1) = (i : Int) + 1 := by simp [IntKind.wrap, IntKind.bits, IntKind.signed]; omega
      generalize ws[i]'(by omega) = x at *
      have XA : Hid (Calls Tryz.prog 101 #[.pointer (some ⟨p, 0, none⟩), .agg #[.int .i64 k, .string ⟨x.toArray⟩, .string ⟨#[]⟩]] wr (LnEnd p B num fi (addU P' ⟨k, x, []⟩) wr)) := hide (add_any p B s' P' num fi ⟨k, x, []⟩ wr HJ.out (by show x.length ≤ _; omega) (by show 0 ≤ _; omega) hE)
      clear hc1 HX
      cases ha : addU P' ⟨k, x, []⟩ with
      | none =>
        rw [ha] at XA HD
        have HRN : Hid (R = none) := hide HD.out
        clear ha HD
        go_wp2_with fail
        refine XA.out.mono ?_
        rintro e w1 ⟨hf, he⟩
        change e = .panicked (badV num) at he
        subst he
        exact ⟨rfl, LnEnd.no HRN.out (HF.out.trans hf) rfl⟩
      | some Q =>
        have hQ := addU_len ha
        rw [ha] at XA HD
        have HRN : Hid (R = patU k (ws.drop (i + 1)) Q) := hide HD.out
        clear ha HD
        go_wp2_with fail
        refine XA.out.mono ?_
        rintro e w1 ⟨hf, rfl, s2, hI2⟩
        have HF2 := hide (HF.out.trans hf)
        have HJ2 := hide hI2
        clear hf hI2
        go_wp2_with fail
        go_roundw
        case rel => exact ⟨i + 1, s2, Q, by omega, by go_num, HRN, HJ2, hQ, HF2⟩
        case measure => simp [intOf]; omega
    · obtain rfl : i = n := by omega
      have HR2 : Hid (R = some P') := hide (by rw [HX.out, List.drop_of_length_le (by omega), patU])
      clear HX
      go_wp2_with fail
      go_end0
      exact LnEnd.ok HR2.out HF.out rfl HJ.out
theorem ssl_from (A : Option Addr) (n c : Nat) (k : Nat) (hk : k ≤ n) (W : World) :
    (Instr.slice 38 (.slice A n c) (some (.int .i64 (k : Int))) none none).run Tryz.prog W = .ok (.slice (if c = k then A else A.map (·.add k)) (n - k) (c - k)) W := by
  have := run_slice_from (P := Tryz.prog) 38 9 Tryz.underlying38 sizeStr A n c .i64 (k : Int) (by omega) (by omega) W
  rwa [Int.toNat_natCast] at this
theorem TyS.drop {w : World} {A : Option Addr} {n c k : Nat} {ks : List LB} (h : TyS w A n c ks) (hk : k ≤ n) : TyS w (if c = k then A else A.map (·.add k)) (n - k) (c - k) (ks.drop k) := by
  have h1 := reads_dropG h.rd hk h.le
  rw [show (svs ks).drop k = svs (ks.drop k) by simp [svs, List.map_drop]] at h1
  refine ⟨h1, by have := h.le; omega, fun ad e => ?_⟩
  split at e
  · exact h.ty ad e
  · obtain ⟨a0, h2, h3⟩ := Option.map_eq_some_iff.1 e
    subst h3
    rw [block_of_add]
    exact h.ty a0 h2
theorem TyS.cell {w : World} {A : Option Addr} {n c : Nat} {ks : List LB} (h : TyS w A n c ks) {i : Nat} {x : LB} (hi : ks[i]? = some x) : ∃ g o, A = some ⟨g, o, none⟩ ∧ ∀ j y, ks[j]? = some y → w.cell? ⟨g, o + j, none⟩ = some (.string ⟨y.toArray⟩) := by
  obtain ⟨hk, _⟩ := List.getElem?_eq_some_iff.1 hi
  have hl := h.len
  obtain ⟨g1, o1, rfl, hg, hc1⟩ := cells_of h.rd (by omega) (by rw [svs_length]; omega)
  refine ⟨g1, o1, rfl, fun j y hj => ?_⟩
  obtain ⟨hjl, e⟩ := List.getElem?_eq_some_iff.1 hj
  have := hc1 j _ (svs_get ks j hjl)
  rwa [e] at this
/-- A line of settings, its first word left out. -/
def setL (P : PL) : List LB → Option PL
  | k :: v :: more => setU P k (v :: more)
  | _ => none
set_option maxRecDepth 100000 in
set_option maxHeartbeats 8000000 in
theorem setting_any (p B : Nat) (s : RS) (P : PL) (num : Int) (fi : Bool) (w0 : LB) (ws : List LB) (A : Option Addr) (n c : Nat) (w : World) (h : RdI p B s P num fi w) (hT : TyS w A n c (w0 :: ws)) (hn : n ≤ 1000000000) (hw : ∀ x ∈ ws, x.length ≤ 90000) (hE : P.env.length ≤ 64) :
    Calls Tryz.prog 75 #[.pointer (some ⟨p, 0, none⟩), .slice A n c] w (LnEnd p B num fi (setL P ws) w) := by
  have hl := hT.len
  have HI := hide h
  obtain ⟨R, hR⟩ : ∃ R, setL P ws = R := ⟨_, rfl⟩
  rw [hR]
  have HR := hide hR
  clear hR
  have c3 := h.blk.cell 3
  clear h
  have XNo := hide (need_no p num w c3)
  have XOk := hide (need_ok p w)
  clear c3
  match ws, hT, hl, hw, HR with
  | [], hT, hl, hw, HR =>
    have hdec : decide ((3 : Int) ≤ (n : Int)) = false := decide_eq_false (by simp at hl; omega)
    have h3 : ¬ (3 : Int) ≤ (n : Int) := by simp at hl; omega
    have HRN : Hid (R = none) := hide HR.out.symm
    clear HR hl hT
    go_enter Tryz.func75, Tryz.ntmps75
    go_wp2_with fail
    refine XNo.out.mono ?_
    rintro e w1 ⟨rfl, rfl⟩
    exact ⟨rfl, LnEnd.no HRN.out (Fr.refl _ _) rfl⟩
  | [k], hT, hl, hw, HR =>
    have hdec : decide ((3 : Int) ≤ (n : Int)) = false := decide_eq_false (by simp at hl; omega)
    have h3 : ¬ (3 : Int) ≤ (n : Int) := by simp at hl; omega
    have HRN : Hid (R = none) := hide HR.out.symm
    clear HR hl hT
    go_enter Tryz.func75, Tryz.ntmps75
    go_wp2_with fail
    refine XNo.out.mono ?_
    rintro e w1 ⟨rfl, rfl⟩
    exact ⟨rfl, LnEnd.no HRN.out (Fr.refl _ _) rfl⟩
  | k :: v :: more, hT, hl, hw, HR =>
    have h3 : (3 : Int) ≤ (n : Int) := by simp at hl; omega
    have hn3 : 3 ≤ n := by omega
    obtain ⟨g1, o1, rfl, hcl⟩ := hT.cell (i := 0) (x := w0) rfl
    have hk1 := hcl 1 k rfl
    have hv2 := hcl 2 v rfl
    have hvl := hw v (by simp)
    have HTD := hide (hT.drop (k := 2) (by omega))
    have hsl := fun W => ssl_from (some ⟨g1, o1, none⟩) n c 2 (by omega) W
    have HML : Hid (more.length + 3 = n) := hide (by simpa using hl)
    have HWD : Hid (∀ x ∈ v :: more, x.length ≤ 90000) := hide (fun x hx => hw x (List.mem_cons_of_mem _ hx))
    have HRS : Hid (R = setU P k (v :: more)) := hide HR.out.symm
    have hi1 : (1 : Int) < (n : Int) := by omega
    have hi2 : (2 : Int) < (n : Int) := by omega
    have hi3 : (2 : Int) ≤ (n : Int) := by omega
    change Hid (TyS w (if c = 2 then some ⟨g1, o1, none⟩ else (some ⟨g1, o1, none⟩ : Option Addr).map (·.add 2)) (n - 2) (c - 2) (v :: more)) at HTD
    obtain ⟨A2, hA2⟩ : ∃ A2, (if c = 2 then (some ⟨g1, o1, none⟩ : Option Addr) else (some ⟨g1, o1, none⟩ : Option Addr).map (·.add 2)) = A2 := ⟨_, rfl⟩
    rw [hA2] at HTD hsl
    have hsl2 : ∀ W, (Instr.slice 38 (.slice (some ⟨g1, o1, none⟩) n c) (some (.int .i64 2)) none none).run Tryz.prog W = .ok (.slice A2 (n - 2) (c - 2)) W := hsl
    clear HR hl hw hT hcl hA2 hsl
    by_cases q1 : k = wKeep
    · have XP := hide (patterns_any p B s P num fi 1 (v :: more) A2 (n - 2) (c - 2) w HI.out HTD.out (by omega) HWD.out hE)
      have HRN : Hid (R = patU 1 (v :: more) P) := hide (by rw [HRS.out]; unfold setU; rw [if_pos q1])
      clear HRS
      subst q1
      generalize patU 1 (v :: more) P = R2 at *
      unfold wKeep at *
      go_enter Tryz.func75, Tryz.ntmps75
      go_wp2_with fail
      refine XOk.out.mono ?_
      rintro e w1 ⟨rfl, rfl⟩
      go_wp2_with fail
      refine XP.out.mono ?_
      rintro e w1 ⟨hf, he⟩
      cases R2 with
      | none =>
        change e = .panicked (badV num) at he
        subst he
        exact ⟨rfl, LnEnd.no HRN.out hf rfl⟩
      | some Q =>
        obtain ⟨rfl, s2, hI2⟩ := he
        have HI2 := hide hI2
        have HF := hide hf
        clear hI2 hf
        go_wp2_with fail
        go_end0
        exact LnEnd.ok HRN.out HF.out rfl HI2.out
    have t1 : (k == [107, 101, 101, 112]) = false := beq_eq_false_iff_ne.2 q1
    by_cases q2 : k = wDrop
    · have XP := hide (patterns_any p B s P num fi 2 (v :: more) A2 (n - 2) (c - 2) w HI.out HTD.out (by omega) HWD.out hE)
      have HRN : Hid (R = patU 2 (v :: more) P) := hide (by rw [HRS.out]; unfold setU; rw [if_neg q1, if_pos q2])
      clear HRS t1 q1
      subst q2
      generalize patU 2 (v :: more) P = R2 at *
      unfold wDrop at *
      go_enter Tryz.func75, Tryz.ntmps75
      go_wp2_with fail
      refine XOk.out.mono ?_
      rintro e w1 ⟨rfl, rfl⟩
      go_wp2_with fail
      refine XP.out.mono ?_
      rintro e w1 ⟨hf, he⟩
      cases R2 with
      | none =>
        change e = .panicked (badV num) at he
        subst he
        exact ⟨rfl, LnEnd.no HRN.out hf rfl⟩
      | some Q =>
        obtain ⟨rfl, s2, hI2⟩ := he
        have HI2 := hide hI2
        have HF := hide hf
        clear hI2 hf
        go_wp2_with fail
        go_end0
        exact LnEnd.ok HRN.out HF.out rfl HI2.out
    have t2 : (k == [100, 114, 111, 112]) = false := beq_eq_false_iff_ne.2 q2
    by_cases q3 : k = wSet
    · have XC := hide (fun W => cut_any v (by omega) W)
      have HRN0 : Hid (R = if posE v < v.length then (if (v :: more).length = 1 then addU P ⟨3, v.take (posE v), v.drop (posE v + 1)⟩ else none) else none) := hide (by
        rw [HRS.out]; unfold setU; rw [if_neg q1, if_neg q2, if_pos q3]; rfl)
      have hle := posE_le v
      clear HRS t1 q1 t2 q2
      subst q3
      unfold wSet at *
      by_cases hp : posE v < v.length
      · have HC : Hid (cutV v = .tuple #[.string ⟨(v.take (posE v)).toArray⟩, .string ⟨(v.drop (posE v + 1)).toArray⟩, .bool true]) := hide (by unfold cutV; rw [if_pos hp])
        rw [HC.out] at XC
        have htl : (v.take (posE v)).length ≤ 400000 := by rw [List.length_take]; omega
        have hdl : (v.drop (posE v + 1)).length ≤ 400000 := by rw [List.length_drop]; omega
        have HRN1 : Hid (R = if (v :: more).length = 1 then addU P ⟨3, v.take (posE v), v.drop (posE v + 1)⟩ else none) := hide (by rw [HRN0.out, if_pos hp])
        clear HRN0 HC hp hle
        generalize v.take (posE v) = nm at *
        generalize v.drop (posE v + 1) = vl at *
        by_cases h33 : n = 3
        · have HRN : Hid (R = addU P ⟨3, nm, vl⟩) := hide (by rw [HRN1.out, if_pos (show (v :: more).length = 1 by have := HML.out; show more.length + 1 = 1; omega)])
          have hq3 : ((n : Int) == 3) = true := by rw [beq_iff_eq]; omega
          have XF : Hid (∀ w' (hb : Below w.heap.size w w'), Calls Tryz.prog 101 #[.pointer (some ⟨p, 0, none⟩), .agg #[.int .i64 3, .string ⟨nm.toArray⟩, .string ⟨vl.toArray⟩]] w' (LnEnd p B num fi (addU P ⟨3, nm, vl⟩) w')) := hide (fun w' hb => add_any p B s P num fi ⟨3, nm, vl⟩ w' (HI.out.below hb) htl hdl hE)
          have XO2 := hide (fun W => need_ok p W)
          clear HRN1 h33
          generalize addU P ⟨3, nm, vl⟩ = R2 at *
          go_enter Tryz.func75, Tryz.ntmps75
          go_wp2_with fail
          refine XOk.out.mono ?_
          rintro e w1 ⟨rfl, rfl⟩
          go_wp2_with fail
          refine (XC.out _).mono ?_
          rintro e w1 ⟨rfl, hb⟩
          have HB := hide hb
          have XF2 := hide (XF.out w1 hb)
          clear hb XF
          go_wp2_with fail
          refine (XO2.out _).mono ?_
          rintro e w2 ⟨rfl, rfl⟩
          go_wp2_with fail
          refine XF2.out.mono ?_
          rintro e w2 ⟨hf, he⟩
          cases R2 with
          | none =>
            change e = .panicked (badV num) at he
            subst he
            exact ⟨rfl, LnEnd.no HRN.out ((Fr.of HB.out).trans hf) rfl⟩
          | some Q =>
            obtain ⟨rfl, s2, hI2⟩ := he
            have HI2 := hide hI2
            have HF := hide ((Fr.of (p := p) HB.out).trans hf)
            clear hI2 hf
            go_wp2_with fail
            go_end0
            exact LnEnd.ok HRN.out HF.out rfl HI2.out
        · have HRN : Hid (R = none) := hide (by rw [HRN1.out, if_neg (show ¬ (v :: more).length = 1 by have := HML.out; show ¬ more.length + 1 = 1; omega)])
          have hq3 : ((n : Int) == 3) = false := beq_eq_false_iff_ne.2 (by omega)
          have XN2 : Hid (∀ w' (hb : Below w.heap.size w w'), Calls Tryz.prog 72 #[.pointer (some ⟨p, 0, none⟩), .bool false] w' fun e w2 => e = .panicked (badV num) ∧ w' = w2) := hide (fun w' hb => need_no p num w' ((HI.out.below hb).blk.cell 3))
          clear HRN1 h33
          go_enter Tryz.func75, Tryz.ntmps75
          go_wp2_with fail
          refine XOk.out.mono ?_
          rintro e w1 ⟨rfl, rfl⟩
          go_wp2_with fail
          refine (XC.out _).mono ?_
          rintro e w1 ⟨rfl, hb⟩
          have HB := hide hb
          have XF2 := hide (XN2.out w1 hb)
          clear hb XN2
          go_wp2_with fail
          refine XF2.out.mono ?_
          rintro e w2 ⟨rfl, rfl⟩
          exact ⟨rfl, LnEnd.no HRN.out (Fr.of HB.out) rfl⟩
      · have HC : Hid (cutV v = .tuple #[.string ⟨v.toArray⟩, .string ⟨#[]⟩, .bool false]) := hide (by unfold cutV; rw [if_neg hp])
        rw [HC.out] at XC
        have HRN : Hid (R = none) := hide (by rw [HRN0.out, if_neg hp])
        have XN2 : Hid (∀ w' (hb : Below w.heap.size w w'), Calls Tryz.prog 72 #[.pointer (some ⟨p, 0, none⟩), .bool false] w' fun e w2 => e = .panicked (badV num) ∧ w' = w2) := hide (fun w' hb => need_no p num w' ((HI.out.below hb).blk.cell 3))
        clear HRN0 HC hp hle
        go_enter Tryz.func75, Tryz.ntmps75
        go_wp2_with fail
        refine XOk.out.mono ?_
        rintro e w1 ⟨rfl, rfl⟩
        go_wp2_with fail
        refine (XC.out _).mono ?_
        rintro e w1 ⟨rfl, hb⟩
        have HB := hide hb
        have XF2 := hide (XN2.out w1 hb)
        clear hb XN2
        go_wp2_with fail
        refine XF2.out.mono ?_
        rintro e w2 ⟨rfl, rfl⟩
        exact ⟨rfl, LnEnd.no HRN.out (Fr.of HB.out) rfl⟩
    · have t3 : (k == [115, 101, 116]) = false := beq_eq_false_iff_ne.2 q3
      have HRN : Hid (R = none) := hide (by rw [HRS.out]; unfold setU; rw [if_neg q1, if_neg q2, if_neg q3])
      clear HRS q1 q2 q3
      go_enter Tryz.func75, Tryz.ntmps75
      go_wp2_with fail
      refine XOk.out.mono ?_
      rintro e w1 ⟨rfl, rfl⟩
      go_wp2_with fail
      refine XNo.out.mono ?_
      rintro e w1 ⟨rfl, rfl⟩
      exact ⟨rfl, LnEnd.no HRN.out (Fr.refl _ _) rfl⟩
end Go.Proofs.YthbackkcamgidaaGreatDoor
