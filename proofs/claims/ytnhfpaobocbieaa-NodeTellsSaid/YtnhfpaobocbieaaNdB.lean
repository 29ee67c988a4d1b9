/- node.checkNames at any names. -/
import Derived.Test.YtnhfpaobocbieaaNdN
import Derived.Test.YtnhfpaobocbieaaNdF
namespace Go.Proofs.Ytnhfpaobocbieaa
open Go.RowKit
set_option linter.unusedVariables false
theorem bl_drewN {B : Nat} {w w' : World} {n : Nat} (h : Below B w w') : Below B w (w'.drewN n) := ⟨h.1, h.2, h.3, h.4, h.5⟩
theorem bytesLess_eq : ∀ (x y : List UInt8), Op.bytesLess x y = decide (x < y)
  | [], [] => by simp [Op.bytesLess]
  | _ :: _, [] => by simp [Op.bytesLess]
  | [], _ :: _ => by simp [Op.bytesLess]
  | a :: x, b :: y => by
    rw [Op.bytesLess, bytesLess_eq x y]
    simp only [List.cons_lt_cons_iff]
    by_cases h1 : a < b <;> by_cases h2 : a = b <;> by_cases h3 : x < y <;> simp [h1, h2, h3]
theorem nameC_yes {s : Bs} (h : nameB s = true) : nameC s = 0 := by
  unfold nameB at h
  simp only [Bool.and_eq_true, Bool.not_eq_true', Bool.or_eq_false_iff, decide_eq_true_eq, List.isEmpty_eq_false_iff, beq_eq_false_iff_ne] at h
  obtain ⟨⟨⟨⟨⟨h1, h2⟩, h3⟩, h4⟩, h5⟩, h6⟩ := h
  unfold nameC hasL
  rw [if_neg (by simp only [h1, h2, h3, h4, h5, false_or]; simp), if_neg (by omega)]
theorem nameC_no {s : Bs} (h : nameB s = false) : nameC s = 32 ∨ nameC s = 31 := by
  unfold nameC
  by_cases h1 : s = [] ∨ s = [46] ∨ s = [46, 46] ∨ hasL s 47 = true ∨ hasL s 0 = true
  · rw [if_pos h1]; exact .inl rfl
  · rw [if_neg h1]
    by_cases h2 : 32 < s.length
    · rw [if_pos h2]; exact .inr rfl
    · exfalso
      unfold hasL at h1
      simp only [not_or] at h1
      obtain ⟨a1, a2, a3, a4, a5⟩ := h1
      have : nameB s = true := by
        unfold nameB
        simp only [Bool.and_eq_true, Bool.not_eq_true', Bool.or_eq_false_iff, decide_eq_true_eq, List.isEmpty_eq_false_iff, beq_eq_false_iff_ne]
        exact ⟨⟨⟨⟨⟨a1, a2⟩, a3⟩, by simpa using a4⟩, by simpa using a5⟩, by omega⟩
      rw [h] at this; cases this
theorem namesFrom_cons (c : Int) (p : Option Bs) (x : NM) (t : List NM) : namesFrom c p (x :: t) = (nameB x.name && (decide (0 ≤ x.node) && decide (x.node < c)) && (match p with | none => true | some p => decide (p < x.name)) && namesFrom c (some x.name) t) := by
  cases p <;> rfl
def prevN (l : List NM) : Nat → Option Bs
  | 0 => none
  | i + 1 => (l[i]?).map NM.name
theorem names_step {c : Int} {l : List NM} {i : Nat} {y : NM} (h : l[i]? = some y) : namesFrom c (prevN l i) (l.drop i) = (nameB y.name && (decide (0 ≤ y.node) && decide (y.node < c)) && (match prevN l i with | none => true | some p => decide (p < y.name)) && namesFrom c (prevN l (i + 1)) (l.drop (i + 1))) := by
  obtain ⟨hi, he⟩ := List.getElem?_eq_some_iff.1 h
  rw [List.drop_eq_getElem_cons hi, he]
  rw [namesFrom_cons, show prevN l (i + 1) = some y.name by simp [prevN, h]]
set_option maxRecDepth 100000 in
set_option maxHeartbeats 8000000 in
theorem names_any (M : Option Addr) (mn mc : Nat) (l : List NM) (c : Int) (w : World) (hR : Reads w w.heap.size 2 M mn (ncs l)) (hn : mn ≤ 1000000) (hs : ∀ y ∈ l, y.name.length ≤ 1000000) :
    Calls Try.prog 52 #[.slice M mn mc, .int .i64 c] w fun e w' => e = .returned (.bool (namesFrom c none l)) ∧ Below w.heap.size w w' := by
  have hl : l.length = mn := by have := hR.1; rw [ncs_length] at this; omega
  have HR := hide hR
  have HL := hide hl
  have HS := hide hs
  clear hR hl hs
  obtain ⟨R, hRv⟩ : ∃ R, namesFrom c none l = R := ⟨_, rfl⟩
  rw [hRv]
  have HV := hide hRv
  clear hRv
  go_enter Try.func52, Try.ntmps52
  go_wp2_with fail
  go_loopw [9] (fun u wx => ∃ i : Nat, i ≤ mn ∧ u = .int .i64 (i : Int) ∧ Hid (namesFrom c (prevN l i) (l.drop i) = R) ∧ Hid (Below w.heap.size w wx)) (fun i _ => mn - (intOf i).toNat)
  case atStart => exact ⟨0, Nat.zero_le _, rfl, hide (by simpa [prevN] using HV.out), hide (Below.refl _ _)⟩
  case round =>
    obtain ⟨i, hi, rfl, HI, HB⟩ := hrel
    by_cases hin : i < mn
    · have hlt : (i : Int) < (mn : Int) := by omega
      obtain ⟨g, o, y, rfl, hg, hy, hc⟩ := nm_cells HR.out hin
      have HC0 := hide (fun (V : World) (hV : Below w.heap.size w V) => NmCells.below hc hg hV)
      obtain ⟨n0, n1⟩ := HC0.out _ HB.out
      have HST := hide (names_step (c := c) hy)
      have HY := hide hy
      have hyl := HS.out y (List.mem_of_getElem? hy)
      have i1 := fun W => nm_at g o mn mc i (i : Int) rfl hin W
      have HBX : Hid (Blk (wr.alloc (.cells #[Value.string ⟨y.name.toArray⟩, .int .i64 y.node] 54)) wr.heap.size 54 #[Value.string ⟨y.name.toArray⟩, .int .i64 y.node]) := hide (Blk.new wr _ _)
      have HB2 := hide (HB.out.alloc HB.out.size (.cells #[Value.string ⟨y.name.toArray⟩, .int .i64 y.node] 54))
      have XN := hide (fun W => name_c y.name W (by omega))
      have hpv : Hid (∀ j, i = j + 1 → ∃ p, l[j]? = some p ∧ prevN l i = some p.name ∧ ∀ V, Below w.heap.size w V → V.cell? ⟨g, o + j * 2, none⟩ = some (.string ⟨p.name.toArray⟩)) := hide (fun j hj => by
        subst hj
        obtain ⟨g', o', p, e, hg', hp, hc'⟩ := nm_cells HR.out (show j < mn by omega)
        injection e with e; injection e with e1 e2 e3; subst e1; subst e2
        exact ⟨p, hp, by simp [prevN, hp], fun V hV => (NmCells.below hc' hg' hV).1⟩)
      clear hc hy
      go_wp2_with fail
      obtain ⟨WC, hWC⟩ : ∃ W, wr.alloc (.cells #[Value.string ⟨y.name.toArray⟩, .int .i64 y.node] 54) = W := ⟨_, rfl⟩
      rw [hWC] at HBX HB2 ⊢
      clear hWC n0 n1
      refine (XN.out WC).mono ?_
      rintro e w3 ⟨rfl, hb⟩
      have HBX3 := hide (HBX.out.below hb HBX.out.lt)
      have HB3 := hide (HB2.out.trans (hb.mono HB2.out.size))
      clear hb HBX HB2 XN HB
      have b0 := HBX3.out.cell 0
      have b1 := HBX3.out.cell 1
      simp only [List.getElem?_toArray, List.getElem?_cons_zero, List.getElem?_cons_succ] at b0 b1
      cases hnm : nameB y.name with
      | false =>
        have HE : Hid (R = false) := hide (by rw [← HI.out, HST.out, hnm]; rfl)
        have hRe := HE.out
        subst hRe
        rcases nameC_no hnm with hz | hz
        · rw [hz]
          clear hnm hz
          go_wp2_with fail
          go_ret
          exact ⟨rfl, HB3.out⟩
        · rw [hz]
          clear hnm hz
          go_wp2_with fail
          go_ret
          exact ⟨rfl, HB3.out⟩
      | true =>
        rw [nameC_yes hnm]
        have HNM := hide hnm
        clear hnm
        by_cases h0 : y.node < 0
        · have HE : Hid (R = false) := hide (by rw [← HI.out, HST.out]; simp [show ¬ (0 ≤ y.node) by omega])
          have hRe := HE.out
          subst hRe
          go_wp2_with fail
          go_ret
          exact ⟨rfl, HB3.out⟩
        · by_cases hc : c ≤ y.node
          · have HE : Hid (R = false) := hide (by rw [← HI.out, HST.out]; simp [show ¬ (y.node < c) by omega])
            have hRe := HE.out
            subst hRe
            go_wp2_with fail
            go_ret
            exact ⟨rfl, HB3.out⟩
          · have HG : Hid (R = ((match prevN l i with | none => true | some p => decide (p < y.name)) && namesFrom c (prevN l (i + 1)) (l.drop (i + 1)))) := hide (by
              rw [← HI.out, HST.out, HNM.out]
              simp [show (0 ≤ y.node) by omega, show y.node < c by omega])
            clear HST HNM
            rcases Nat.eq_zero_or_pos i with hz | hz
            · subst hz
              have h00 : ¬ ((0 : Int) < 0) := by omega
              have HG2 : Hid (namesFrom c (prevN l (0 + 1)) (l.drop (0 + 1)) = R) := hide (by rw [HG.out]; simp [prevN])
              clear HG hpv
              go_wp2_with fail
              go_quiet (fail)
              go_wp2_with fail
              go_roundw
              case rel => exact ⟨1, by omega, by go_num, HG2, hide (bl_drewN HB3.out)⟩
              case measure => simp [intOf]; omega
            · obtain ⟨j, rfl⟩ : ∃ j, i = j + 1 := ⟨i - 1, by omega⟩
              obtain ⟨p, hp, hpe, hpc⟩ := hpv.out j rfl
              have p0 := hpc _ HB3.out
              have i2 := fun W => nm_at g o mn mc j (((j + 1 : Nat) : Int) - 1) (by omega) (by omega) W
              have v2 : IntKind.i64.wrap (((j + 1 : Nat) : Int) - 1) = ((j + 1 : Nat) : Int) - 1 := by simp [IntKind.wrap, IntKind.bits, IntKind.signed]; omega
              have hpos : (0 : Int) < ((j + 1 : Nat) : Int) := by omega
              rw [hpe] at HG
              simp only at HG
              have HBL := hide (bytesLess_eq p.name y.name)
              clear hp hpe hpc hpv
              cases hbl : Op.bytesLess p.name y.name with
              | false =>
                have HE : Hid (R = false) := hide (by rw [HG.out, ← HBL.out, hbl]; rfl)
                have hRe := HE.out
                subst hRe
                go_wp2_with fail
                go_quiet (fail)
                go_wp2_with fail
                go_ret
                exact ⟨rfl, bl_drewN HB3.out⟩
              | true =>
                have HG2 : Hid (namesFrom c (prevN l (j + 1 + 1)) (l.drop (j + 1 + 1)) = R) := hide (by rw [HG.out, ← HBL.out, hbl]; rfl)
                clear HG
                go_wp2_with fail
                go_quiet (fail)
                go_wp2_with fail
                go_roundw
                case rel => exact ⟨j + 2, by omega, by go_num, HG2, hide (bl_drewN HB3.out)⟩
                case measure => simp [intOf]; omega
    · have hlt : ¬ ((i : Int) < (mn : Int)) := by omega
      have HE : Hid (R = true) := hide (by rw [← HI.out, List.drop_eq_nil_of_le (by have := HL.out; omega)]; rfl)
      have hRe := HE.out
      subst hRe
      go_wp2_with fail
      go_ret
      exact ⟨rfl, HB.out⟩
end Go.Proofs.Ytnhfpaobocbieaa
