/- The law's few. -/
import Derived.Test.YtbbobffedgcbhaaDoorAuK
namespace Go.Proofs.YtbbobffedgcbhaaDoor
open Go.RowKit
set_option linter.unusedVariables false
def fewP (l : List Rec) : Bool := decide (l.length ≤ 20) && l.all validP
theorem rtake_snoc {L : List Rec} {i : Nat} {r : Rec} (h : L[i]? = some r) : L.take (i + 1) = L.take i ++ [r] := by
  obtain ⟨hl, e⟩ := List.getElem?_eq_some_iff.1 h
  rw [List.take_succ_eq_append_getElem hl, e]
theorem all_at {L : List Rec} (h : L.all validP = true) {i : Nat} {r : Rec} (hr : L[i]? = some r) : validP r = true := List.all_eq_true.1 h r (List.mem_of_getElem? hr)
set_option maxRecDepth 100000 in
set_option maxHeartbeats 4000000 in
theorem few_any (A : Option Addr) (n c : Nat) (l : List RV) (w : World) (h1 : RowR w A n l) (hn : n ≤ maxLen) :
    Calls Tryd.prog 5 #[.slice A n c] w fun e w' => e = .returned (.bool (fewP (l.map RV.r))) ∧ Below w.heap.size w w' := by
  have hl := h1.len
  have H1 := hide h1
  have HL := hide hl
  have HLL : Hid ((l.map RV.r).length = n) := hide (by rw [List.length_map, hl])
  clear h1 hl
  obtain ⟨b, hb0⟩ : ∃ b, fewP (l.map RV.r) = b := ⟨_, rfl⟩
  have HBB := hide hb0
  rw [hb0]
  clear hb0
  go_enter Tryd.func5, Tryd.ntmps5
  go_wp2_with fail
  go_loopw [3] (fun u3 wx => ∃ i : Nat, i ≤ n ∧ u3 = .int .i64 (i : Int) ∧ Hid (((l.map RV.r).take i).all validP = true) ∧ Below w.heap.size w wx) (fun i _ => n - (intOf i).toNat)
  case atStart => exact ⟨0, Nat.zero_le _, rfl, hide rfl, Below.refl _ _⟩
  case round =>
    obtain ⟨i, hi, rfl, HV, hb⟩ := hrel
    have HB := hide hb
    by_cases hlt : i < n
    · have hlt1 : (i : Int) < (n : Int) := by omega
      by_cases h20 : n ≤ 20
      · have h201 : (n : Int) ≤ 20 := by omega
        have hx : l[i]? = some (l[i]'(by rw [HL.out]; exact hlt)) := List.getElem?_eq_getElem _
        obtain ⟨x, hxe⟩ : ∃ x, l[i]'(by rw [HL.out]; exact hlt) = x := ⟨_, rfl⟩
        rw [hxe] at hx
        clear hxe
        have kx := hide ((H1.out.2 x (List.mem_of_getElem? hx)).below hb)
        have HXX : Hid ((l.map RV.r)[i]? = some x.r) := hide (by rw [List.getElem?_map, hx]; rfl)
        obtain ⟨g, o, rfl, hg, a0, a1, a2, a3, a4, a5⟩ := rec_cells (H1.out.below hb).1 hx
        have XC := hide (rcheck_any x.r x.A x.n x.c kx.out.len wr)
        obtain ⟨rx, A1, n1, c1⟩ := x
        obtain ⟨q1, o1, p1, g1, d1, b1⟩ := rx
        unfold Rec.v at XC
        dsimp only at *
        have i1 := fun W => rec_at g o n c i (i : Int) rfl hlt W
        have v1 : IntKind.i64.wrap ((i : Int) + 1) = (i : Int) + 1 := by simp [IntKind.wrap, IntKind.bits, IntKind.signed]; omega
        clear hx kx hb
        cases hv : validP ⟨q1, o1, p1, g1, d1, b1⟩ with
        | true =>
          rw [hv] at XC
          have HN : Hid (((l.map RV.r).take (i + 1)).all validP = true) := hide (by rw [rtake_snoc HXX.out, List.all_append, HV.out]; simp [hv])
          clear hv
          go_wp2_with fail
          refine XC.out.mono ?_
          rintro e1 w1 ⟨rfl, hb1⟩
          have HB1 := hide (HB.out.trans (hb1.mono HB.out.size))
          clear hb1 XC a0 a1 a2 a3 a4 a5 i1
          go_wp2_with fail
          clear v1
          go_roundw
          case rel => exact ⟨i + 1, by omega, by go_num, HN, HB1.out⟩
          case measure => simp [intOf]; omega
        | false =>
          rw [hv] at XC
          have HF : Hid (b = false) := hide (by
            rw [← HBB.out]
            unfold fewP
            rw [Bool.and_eq_false_iff]
            right
            rw [List.all_eq_false]
            exact ⟨_, List.mem_of_getElem? HXX.out, by rw [hv]; decide⟩)
          clear hv
          go_wp2_with fail
          refine XC.out.mono ?_
          rintro e1 w1 ⟨rfl, hb1⟩
          have HB1 := hide (HB.out.trans (hb1.mono HB.out.size))
          clear hb1 XC a0 a1 a2 a3 a4 a5 i1
          go_wp2_with fail
          go_ret
          exact ⟨by rw [HF.out]; rfl, HB1.out⟩
      · have h201 : ¬ (n : Int) ≤ 20 := by omega
        have hd : decide ((n : Int) ≤ 20) = false := decide_eq_false h201
        have HF : Hid (b = false) := hide (by
          rw [← HBB.out]
          unfold fewP
          rw [HLL.out, Bool.and_eq_false_iff]
          left
          exact decide_eq_false h20)
        go_wp2_with fail
        go_ret
        exact ⟨by rw [HF.out]; first | rfl | simp [hd], HB.out⟩
    · obtain rfl : i = n := by omega
      have hlt1 : ¬ (i : Int) < (i : Int) := by omega
      have HF : Hid (decide ((i : Int) ≤ 20) = b) := hide (by
        rw [← HBB.out]
        unfold fewP
        have h := HV.out
        rw [List.take_of_length_le (by rw [HLL.out]; exact Nat.le_refl _)] at h
        rw [HLL.out, h, Bool.and_true]
        by_cases h20 : i ≤ 20
        · rw [decide_eq_true h20, decide_eq_true (by omega)]
        · rw [decide_eq_false h20, decide_eq_false (by omega)])
      go_wp2_with fail
      go_ret
      exact ⟨by rw [HF.out]; rfl, HB.out⟩
end Go.Proofs.YtbbobffedgcbhaaDoor
