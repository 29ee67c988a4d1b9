/- node.checkNames at any names. node.checkNode at any node. -/
import Derived.Test.YtlcoapignfmgcaaGreatDoorNdN
import Derived.Test.YtlcoapignfmgcaaGreatDoorGb
namespace Go.Proofs.YtlcoapignfmgcaaGreatDoor
open Go.RowKit
set_option linter.unusedVariables false
theorem bl_drewN {B : Nat} {w w' : World} {n : Nat} (h : Below B w w') : Below B w (w'.drewN n) := ⟨h.1, h.2, h.3, h.4, h.5⟩
theorem bytesLess_eq : ∀ (x y : List UInt8), Op.bytesLess x y = decide (x < y)
  | [], [] => by simp [Op.bytesLess]
  | _ :: _, [] => by simp [Op.bytesLess]
  | [], _ :: _ => by simp [Op.bytesLess]
  | a :: x, b :: y => by
    rw [Op.bytesLess, bytesLess_eq x y]
    simp only [List.cons_lt_cons_iff]
    by_cases h1 : a < b <;> by_cases h2 : a = b <;> by_cases h3 : x < y <;> simp [h1, h2, h3]
theorem nameC_yes {s : Bs} (h : nameB s = true) : nameC s = 0 := by
  unfold nameB at h
  simp only [Bool.and_eq_true, Bool.not_eq_true', Bool.or_eq_false_iff, decide_eq_true_eq, List.isEmpty_eq_false_iff, beq_eq_false_iff_ne] at h
  obtain ⟨⟨⟨⟨⟨h1, h2⟩, h3⟩, h4⟩, h5⟩, h6⟩ := h
  unfold nameC hasL
  rw [if_neg (by simp only [h1, h2, h3, h4, h5, false_or]; simp), if_neg (by omega)]
theorem nameC_no {s : Bs} (h : nameB s = false) : nameC s = 32 ∨ nameC s = 31 := by
  unfold nameC
  by_cases h1 : s = [] ∨ s = [46] ∨ s = [46, 46] ∨ hasL s 47 = true ∨ hasL s 0 = true
  · rw [if_pos h1]; exact .inl rfl
  · rw [if_neg h1]
    by_cases h2 : 32 < s.length
    · rw [if_pos h2]; exact .inr rfl
    · exfalso
      unfold hasL at h1
      simp only [not_or] at h1
      obtain ⟨a1, a2, a3, a4, a5⟩ := h1
      have : nameB s = true := by
        unfold nameB
        simp only [Bool.and_eq_true, Bool.not_eq_true', Bool.or_eq_false_iff, decide_eq_true_eq, List.isEmpty_eq_false_iff, beq_eq_false_iff_ne]
        exact ⟨⟨⟨⟨⟨a1, a2⟩, a3⟩, by simpa using a4⟩, by simpa using a5⟩, by omega⟩
      rw [h] at this; cases this
theorem namesFrom_cons (c : Int) (p : Option Bs) (x : NM) (t : List NM) : namesFrom c p (x :: t) = (nameB x.name && (decide (0 ≤ x.node) && decide (x.node < c)) && (match p with | none => true | some p => decide (p < x.name)) && namesFrom c (some x.name) t) := by
  cases p <;> rfl
def prevN (l : List NM) : Nat → Option Bs
  | 0 => none
  | i + 1 => (l[i]?).map NM.name
theorem names_step {c : Int} {l : List NM} {i : Nat} {y : NM} (h : l[i]? = some y) : namesFrom c (prevN l i) (l.drop i) = (nameB y.name && (decide (0 ≤ y.node) && decide (y.node < c)) && (match prevN l i with | none => true | some p => decide (p < y.name)) && namesFrom c (prevN l (i + 1)) (l.drop (i + 1))) := by
  obtain ⟨hi, he⟩ := List.getElem?_eq_some_iff.1 h
  rw [List.drop_eq_getElem_cons hi, he]
  rw [namesFrom_cons, show prevN l (i + 1) = some y.name by simp [prevN, h]]
set_option maxRecDepth 100000 in
set_option maxHeartbeats 8000000 in
theorem names_any (M : Option Addr) (mn mc : Nat) (l : List NM) (c : Int) (w : World) (hR : Reads w w.heap.size 2 M mn (ncs l)) (hn : mn ≤ 1000000) (hs : ∀ y ∈ l, y.name.length ≤ 1000000) :
    Calls Tryz.prog 81 #[.slice M mn mc, .int .i64 c] w fun e w' => e = .returned (.bool (namesFrom c none l)) ∧ Below w.heap.size w w' := by
  have hl : l.length = mn := by have := hR.1; rw [ncs_length] at this; omega
  have HR := hide hR
  have HL := hide hl
  have HS := hide hs
  clear hR hl hs
  obtain ⟨R, hRv⟩ : ∃ R, namesFrom c none l = R := ⟨_, rfl⟩
  rw [hRv]
  have HV := hide hRv
  clear hRv
  go_enter Tryz.func81, Tryz.ntmps81
  go_wp2_with fail
  go_loopw [9] (fun u wx => ∃ i : Nat, i ≤ mn ∧ u = .int .i64 (i : Int) ∧ Hid (namesFrom c (prevN l i) (l.drop i) = R) ∧ Hid (Below w.heap.size w wx)) (fun i _ => mn - (intOf i).toNat)
  case atStart => exact ⟨0, Nat.zero_le _, rfl, hide (by simpa [prevN] using HV.out), hide (Below.refl _ _)⟩
  case round =>
    obtain ⟨i, hi, rfl, HI, HB⟩ := hrel
    by_cases hin : i < mn
    · have hlt : (i : Int) < (mn : Int) := by omega
      obtain ⟨g, o, y, rfl, hg, hy, hc⟩ := nm_cells HR.out hin
      have HC0 := hide (fun (V : World) (hV : Below w.heap.size w V) => NmCells.below hc hg hV)
      obtain ⟨n0, n1⟩ := HC0.out _ HB.out
      have HST := hide (names_step (c := c) hy)
      have HY := hide hy
      have hyl := HS.out y (List.mem_of_getElem? hy)
      have i1 := fun W => nm_at g o mn mc i (i : Int) rfl hin W
      have HBX : Hid (Blk (wr.alloc (.cells #[Value.string ⟨y.name.toArray⟩, .int .i64 y.node] 59)) wr.heap.size 59 #[Value.string ⟨y.name.toArray⟩, .int .i64 y.node]) := hide (Blk.new wr _ _)
      have HB2 := hide (HB.out.alloc HB.out.size (.cells #[Value.string ⟨y.name.toArray⟩, .int .i64 y.node] 59))
      have XN := hide (fun W => name_c y.name W (by omega))
      have hpv : Hid (∀ j, i = j + 1 → ∃ p, l[j]? = some p ∧ prevN l i = some p.name ∧ ∀ V, Below w.heap.size w V → V.cell? ⟨g, o + j * 2, none⟩ = some (.string ⟨p.name.toArray⟩)) := hide (fun j hj => by
        subst hj
        obtain ⟨g', o', p, e, hg', hp, hc'⟩ := nm_cells HR.out (show j < mn by omega)
        injection e with e; injection e with e1 e2 e3; subst e1; subst e2
        exact ⟨p, hp, by simp [prevN, hp], fun V hV => (NmCells.below hc' hg' hV).1⟩)
      clear hc hy
      go_wp2_with fail
      obtain ⟨WC, hWC⟩ : ∃ W, wr.alloc (.cells #[Value.string ⟨y.name.toArray⟩, .int .i64 y.node] 59) = W := ⟨_, rfl⟩
      rw [hWC] at HBX HB2 ⊢
      clear hWC n0 n1
      refine (XN.out WC).mono ?_
      rintro e w3 ⟨rfl, hb⟩
      have HBX3 := hide (HBX.out.below hb HBX.out.lt)
      have HB3 := hide (HB2.out.trans (hb.mono HB2.out.size))
      clear hb HBX HB2 XN HB
      have b0 := HBX3.out.cell 0
      have b1 := HBX3.out.cell 1
      simp only [List.getElem?_toArray, List.getElem?_cons_zero, List.getElem?_cons_succ] at b0 b1
      cases hnm : nameB y.name with
      | false =>
        have HE : Hid (R = false) := hide (by rw [← HI.out, HST.out, hnm]; rfl)
        have hRe := HE.out
        subst hRe
        rcases nameC_no hnm with hz | hz
        · rw [hz]
          clear hnm hz
          go_wp2_with fail
          go_ret
          exact ⟨rfl, HB3.out⟩
        · rw [hz]
          clear hnm hz
          go_wp2_with fail
          go_ret
          exact ⟨rfl, HB3.out⟩
      | true =>
        rw [nameC_yes hnm]
        have HNM := hide hnm
        clear hnm
        by_cases h0 : y.node < 0
        · have HE : Hid (R = false) := hide (by rw [← HI.out, HST.out]; simp [show ¬ (0 ≤ y.node) by omega])
          have hRe := HE.out
          subst hRe
          go_wp2_with fail
          go_ret
          exact ⟨rfl, HB3.out⟩
        · by_cases hc : c ≤ y.node
          · have HE : Hid (R = false) := hide (by rw [← HI.out, HST.out]; simp [show ¬ (y.node < c) by omega])
            have hRe := HE.out
            subst hRe
            go_wp2_with fail
            go_ret
            exact ⟨rfl, HB3.out⟩
          · have HG : Hid (R = ((match prevN l i with | none => true | some p => decide (p < y.name)) && namesFrom c (prevN l (i + 1)) (l.drop (i + 1)))) := hide (by
              rw [← HI.out, HST.out, HNM.out]
              simp [show (0 ≤ y.node) by omega, show y.node < c by omega])
            clear HST HNM
            rcases Nat.eq_zero_or_pos i with hz | hz
            · subst hz
              have h00 : ¬ ((0 : Int) < 0) := by omega
              have HG2 : Hid (namesFrom c (prevN l (0 + 1)) (l.drop (0 + 1)) = R) := hide (by rw [HG.out]; simp [prevN])
              clear HG hpv
              go_wp2_with fail
              go_quiet (fail)
              go_wp2_with fail
              go_roundw
              case rel => exact ⟨1, by omega, by go_num, HG2, hide (bl_drewN HB3.out)⟩
              case measure => simp [intOf]; omega
            · obtain ⟨j, rfl⟩ : ∃ j, i = j + 1 := ⟨i - 1, by omega⟩
              obtain ⟨p, hp, hpe, hpc⟩ := hpv.out j rfl
              have p0 := hpc _ HB3.out
              have i2 := fun W => nm_at g o mn mc j (((j + 1 : Nat) : Int) - 1) (by omega) (by omega) W
              have v2 : IntKind.i64.wrap (((j + 1 : Nat) : Int) - 1) = ((j + 1 : Nat) : Int) - 1 := by simp [IntKind.wrap, IntKind.bits, IntKind.signed]; omega
              have hpos : (0 : Int) < ((j + 1 : Nat) : Int) := by omega
              rw [hpe] at HG
              simp only at HG
              have HBL := hide (bytesLess_eq p.name y.name)
              clear hp hpe hpc hpv
              cases hbl : Op.bytesLess p.name y.name with
              | false =>
                have HE : Hid (R = false) := hide (by rw [HG.out, ← HBL.out, hbl]; rfl)
                have hRe := HE.out
                subst hRe
                go_wp2_with fail
                go_quiet (fail)
                go_wp2_with fail
                go_ret
                exact ⟨rfl, bl_drewN HB3.out⟩
              | true =>
                have HG2 : Hid (namesFrom c (prevN l (j + 1 + 1)) (l.drop (j + 1 + 1)) = R) := hide (by rw [HG.out, ← HBL.out, hbl]; rfl)
                clear HG
                go_wp2_with fail
                go_quiet (fail)
                go_wp2_with fail
                go_roundw
                case rel => exact ⟨j + 2, by omega, by go_num, HG2, hide (bl_drewN HB3.out)⟩
                case measure => simp [intOf]; omega
    · have hlt : ¬ ((i : Int) < (mn : Int)) := by omega
      have HE : Hid (R = true) := hide (by rw [← HI.out, List.drop_eq_nil_of_le (by have := HL.out; omega)]; rfl)
      have hRe := HE.out
      subst hRe
      go_wp2_with fail
      go_ret
      exact ⟨rfl, HB.out⟩
end Go.Proofs.YtlcoapignfmgcaaGreatDoor
namespace Go.Proofs.YtlcoapignfmgcaaGreatDoor
open Go.RowKit
set_option linter.unusedVariables false
theorem index_has (l : Bs) (c : UInt8) : 0 ≤ Lib.indexByte l c ↔ l.contains c = true := by
  rw [show l.contains c = hasL l c from rfl]
  unfold hasL
  rw [List.contains_iff_mem]
  induction l with
  | nil => simp [Lib.indexByte]
  | cons x t ih =>
    by_cases h : x = c
    · subst h; simp [Lib.indexByte]
    · have hb : (x == c) = false := beq_eq_false_iff_ne.2 h
      have h1 : c ∈ x :: t ↔ c ∈ t := by simp [Ne.symm h]
      rw [h1, ← ih]
      simp only [Lib.indexByte, hb]
      by_cases hm : Lib.indexByte t c = -1
      · rw [hm]; simp
      · have : (Lib.indexByte t c == -1) = false := beq_eq_false_iff_ne.2 hm
        have hge : -1 ≤ Lib.indexByte t c := Lib.indexByte_ge t c
        simp [this]; omega
set_option maxRecDepth 100000 in
set_option maxHeartbeats 8000000 in
theorem node_any (x : DV) (c : Int) (w : World) (hok : DVok w w.heap.size x) (hx : FewN x) :
    Calls Tryz.prog 67 #[.agg x.cs.toArray, .int .i64 c] w fun e w' => e = .returned (.bool (nodeB x.r c)) ∧ Below w.heap.size w w' := by
  obtain ⟨f1, f2, f3, f4⟩ := hx
  have hdl := hok.dl
  have hnl := hok.nl
  have hn := hok.n
  clear hok
  obtain ⟨⟨kind, mode, links, data, names, tt⟩, D, dn, dc, M, mn, mc⟩ := x
  unfold DV.cs
  dsimp only at f1 f2 f3 f4 hdl hnl hn ⊢
  have HD : Hid (data.isEmpty = decide (dn = 0)) := hide (by rw [← hdl]; cases data <;> simp)
  have HN : Hid (names.isEmpty = decide (mn = 0)) := hide (by rw [← hnl]; cases names <;> simp)
  have HDL := hide hdl
  have hdn : dn ≤ 5000 := by omega
  have hmn : mn ≤ 200 := by omega
  obtain ⟨R, hRv⟩ : ∃ R, nodeB ⟨kind, mode, links, data, names, tt⟩ c = R := ⟨_, rfl⟩
  rw [hRv]
  have HV := hide hRv
  have HXN := hide (fun W (hW : Below w.heap.size w W) => names_any M mn mc names c W ((hn.below hW).more hW.size) (by omega) (fun y hy => by have := f4 y hy; omega))
  have HBX : Hid (Blk (w.alloc (.cells #[Value.int .i64 kind, .int .i64 mode, .int .i64 links, .slice D dn dc, .slice M mn mc, .string ⟨tt.toArray⟩] 28)) w.heap.size 28 #[Value.int .i64 kind, .int .i64 mode, .int .i64 links, .slice D dn dc, .slice M mn mc, .string ⟨tt.toArray⟩]) := hide (Blk.new w _ _)
  have HB : Hid (Below w.heap.size w (w.alloc (.cells #[Value.int .i64 kind, .int .i64 mode, .int .i64 links, .slice D dn dc, .slice M mn mc, .string ⟨tt.toArray⟩] 28))) := hide (on_alloc _ _)
  clear hRv hdl hnl hn f1 f3 f4
  go_enter Tryz.func67, Tryz.ntmps67
  obtain ⟨e0, e1, e2, e3, e4, e5⟩ := six HBX.out
  by_cases m0 : mode < 0
  · have m1 : ¬ (0 ≤ mode) := by omega
    have hRe : R = false := by rw [← HV.out]; simp [nodeB, HD.out, HN.out, HDL.out, m1]
    subst hRe
    go_wp2_with fail
    go_ret
    exact ⟨rfl, HB.out⟩
  by_cases m7 : 7 < mode
  · have m1 : ¬ (mode ≤ 7) := by omega
    have hRe : R = false := by rw [← HV.out]; simp [nodeB, HD.out, HN.out, HDL.out, m1]
    subst hRe
    go_wp2_with fail
    go_ret
    exact ⟨rfl, HB.out⟩
  have g0 : 0 ≤ mode := by omega
  have g7 : mode ≤ 7 := by omega
  have XI := hide (fun W => Any.strings_IndexByte Tryz.lays137 ⟨tt.toArray⟩ 0 W)
  by_cases k1 : kind = 1
  · subst k1
    by_cases c1 : dn ≤ 4096
    · have c1b : (dn : Int) ≤ 4096 := by omega
      by_cases c2 : mn = 0
      · have c2b : (mn : Int) = 0 := by omega
        by_cases c3 : tt = []
        · subst c3
          subst c2
          have hRe : R = true := by rw [← HV.out]; simp [nodeB, HN.out, HDL.out, c1, g0, g7]
          subst hRe
          go_wp2_with fail
          go_ret
          exact ⟨rfl, HB.out⟩
        · have c3b : tt.isEmpty = false := by cases tt <;> simp_all
          subst c2
          have hRe : R = false := by rw [← HV.out]; simp [nodeB, HN.out, HDL.out, c1, c3b, g0, g7]
          subst hRe
          go_wp2_with fail
          go_ret
          exact ⟨rfl, HB.out⟩
      · have c2b : ((mn : Int) == 0) = false := beq_eq_false_iff_ne.2 (by omega)
        have hRe : R = false := by rw [← HV.out]; simp [nodeB, HN.out, HDL.out, c1, c2, g0, g7]
        subst hRe
        go_wp2_with fail
        go_ret
        exact ⟨rfl, HB.out⟩
    · have c1b : ¬ ((dn : Int) ≤ 4096) := by omega
      have hRe : R = false := by rw [← HV.out]; simp [nodeB, HN.out, HDL.out, c1, g0, g7]
      subst hRe
      go_wp2_with fail
      go_ret
      exact ⟨rfl, HB.out⟩
  have k1b : (kind == 1) = false := beq_eq_false_iff_ne.2 k1
  by_cases k2 : kind = 2
  · subst k2
    go_wp2_with fail
    refine (HXN.out _ HB.out).mono ?_
    rintro e w3 ⟨rfl, hb⟩
    have HBX3 := hide (HBX.out.below hb HBX.out.lt)
    have HB3 := hide (HB.out.trans (hb.mono HB.out.size))
    clear hb HBX HB e0 e1 e2 e3 e4 e5
    obtain ⟨e0, e1, e2, e3, e4, e5⟩ := six HBX3.out
    cases hq : namesFrom c none names with
    | false =>
      have hRe : R = false := by rw [← HV.out]; simp [nodeB, HD.out, hq, g0, g7]
      subst hRe
      go_wp2_with fail
      go_ret
      exact ⟨rfl, HB3.out⟩
    | true =>
      by_cases c2 : dn = 0
      · subst c2
        by_cases c3 : tt = []
        · subst c3
          have hRe : R = true := by rw [← HV.out]; simp [nodeB, HD.out, hq, g0, g7]
          subst hRe
          go_wp2_with fail
          go_ret
          exact ⟨rfl, HB3.out⟩
        · have c3b : tt.isEmpty = false := by cases tt <;> simp_all
          have hRe : R = false := by rw [← HV.out]; simp [nodeB, HD.out, hq, c3b, g0, g7]
          subst hRe
          go_wp2_with fail
          go_ret
          exact ⟨rfl, HB3.out⟩
      · have c2b : ((dn : Int) == 0) = false := beq_eq_false_iff_ne.2 (by omega)
        have hRe : R = false := by rw [← HV.out]; simp [nodeB, HD.out, hq, c2, g0, g7]
        subst hRe
        go_wp2_with fail
        go_ret
        exact ⟨rfl, HB3.out⟩
  have k2b : (kind == 2) = false := beq_eq_false_iff_ne.2 k2
  by_cases k3 : kind = 3
  · subst k3
    by_cases c1 : 1 ≤ tt.length
    · have c1b : (1 : Int) ≤ (tt.length : Int) := by omega
      by_cases c2 : tt.length ≤ 256
      · have c2b : (tt.length : Int) ≤ 256 := by omega
        go_wp2_with fail
        refine (XI.out _).mono ?_
        rintro e w3 ⟨rfl, rfl⟩
        have hih := index_has tt 0
        cases hq : tt.contains 0 with
        | true =>
          rw [hq] at hih
          have hq2 : (0 : UInt8) ∈ tt := by simpa using hq
          have hz : ¬ (Lib.indexByte tt 0 < 0) := by have := hih.2 rfl; omega
          clear hih
          have hRe : R = false := by rw [← HV.out]; simp [nodeB, HD.out, HN.out, hq2, c1, c2, g0, g7]
          subst hRe
          go_wp2_with fail
          go_ret
          exact ⟨rfl, HB.out⟩
        | false =>
          rw [hq] at hih
          have hq2 : ¬ (0 : UInt8) ∈ tt := by simpa using hq
          have hz : Lib.indexByte tt 0 < 0 := by
            rcases Int.lt_or_le (Lib.indexByte tt 0) 0 with h | h
            · exact h
            · have := hih.1 h; cases this
          clear hih
          by_cases c3 : dn = 0
          · subst c3
            by_cases c4 : mn = 0
            · subst c4
              have hRe : R = true := by rw [← HV.out]; simp [nodeB, HD.out, HN.out, hq2, c1, c2, g0, g7]
              subst hRe
              go_wp2_with fail
              go_ret
              exact ⟨rfl, HB.out⟩
            · have c4b : ((mn : Int) == 0) = false := beq_eq_false_iff_ne.2 (by omega)
              have hRe : R = false := by rw [← HV.out]; simp [nodeB, HD.out, HN.out, hq2, c1, c2, c4, g0, g7]
              subst hRe
              go_wp2_with fail
              go_ret
              exact ⟨rfl, HB.out⟩
          · have c3b : ((dn : Int) == 0) = false := beq_eq_false_iff_ne.2 (by omega)
            have hRe : R = false := by rw [← HV.out]; simp [nodeB, HD.out, HN.out, hq2, c1, c2, c3, g0, g7]
            subst hRe
            go_wp2_with fail
            go_ret
            exact ⟨rfl, HB.out⟩
      · have c2b : ¬ ((tt.length : Int) ≤ 256) := by omega
        have hRe : R = false := by rw [← HV.out]; simp [nodeB, HD.out, HN.out, c1, c2, g0, g7]
        subst hRe
        go_wp2_with fail
        go_ret
        exact ⟨rfl, HB.out⟩
    · have c1b : ¬ ((1 : Int) ≤ (tt.length : Int)) := by omega
      have hRe : R = false := by rw [← HV.out]; simp [nodeB, HD.out, HN.out, c1, g0, g7]
      subst hRe
      go_wp2_with fail
      go_ret
      exact ⟨rfl, HB.out⟩
  have k3b : (kind == 3) = false := beq_eq_false_iff_ne.2 k3
  have hRe : R = false := by rw [← HV.out]; simp [nodeB, k1, k2, k3]
  subst hRe
  go_wp2_with fail
  go_ret
  exact ⟨rfl, HB.out⟩
end Go.Proofs.YtlcoapignfmgcaaGreatDoor
