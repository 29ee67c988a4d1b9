/- node.checkDir. -/
import Derived.Test.YtnhfpaobocbieaaNdCk
namespace Go.Proofs.Ytnhfpaobocbieaa
open Go.RowKit
set_option linter.unusedVariables false
/-- Has a mode a bit (1 or 4)? -/
def hasBit (m b : Int) : Bool := if b = 1 then decide (m % 2 = 1) else decide (4 ≤ m)
def dirP (l : List ND) (d b : Int) : Int := if checkB l = false ∨ d < 0 ∨ (l.length : Int) ≤ d then 2 else if (ndAt l d).kind ≠ 2 then 22 else if hasBit (ndAt l d).mode b = false then 24 else 0
theorem mode_of {l : List ND} (h : checkB l = true) {n : ND} (hn : n ∈ l) : 0 ≤ n.mode ∧ n.mode ≤ 7 := by
  unfold checkB at h
  simp only [Bool.and_eq_true] at h
  have := List.all_eq_true.1 h.1.1.2 n hn
  unfold nodeB at this
  simp only [Bool.and_eq_true, decide_eq_true_eq] at this
  exact this.1
theorem bit_and {m b : Int} (h0 : 0 ≤ m) (h7 : m ≤ 7) (hb : b = 1 ∨ b = 4) : (bits BinOp.and IntKind.i64 m b == 0) = !(hasBit m b) := by
  have hm : m = 0 ∨ m = 1 ∨ m = 2 ∨ m = 3 ∨ m = 4 ∨ m = 5 ∨ m = 6 ∨ m = 7 := by omega
  rcases hb with rfl | rfl <;> rcases hm with rfl | rfl | rfl | rfl | rfl | rfl | rfl | rfl <;> decide
set_option maxRecDepth 100000 in
set_option maxHeartbeats 8000000 in
theorem dir_any (L : Option Addr) (n c : Nat) (l : List DV) (d b : Int) (w : World) (hF : FsR w w.heap.size L n l) (hB : FewB l) (hb : b = 1 ∨ b = 4) :
    Calls Try.prog 27 #[.agg #[.slice L n c], .int .i64 d, .int .i64 b] w fun e w' => e = .returned (.int .i64 (dirP (nds l) d b)) ∧ Below w.heap.size w w' := by
  have hl := hF.len
  have hln : (nds l).length = n := by rw [nds_length, hl]
  have HX : Hid (Blk (w.alloc (.cells #[.slice L n c] 24)) w.heap.size 24 #[.slice L n c]) := hide (Blk.new w _ _)
  have HB : Hid (Below w.heap.size w (w.alloc (.cells #[.slice L n c] 24))) := hide (on_alloc _ _)
  have XC := hide (check_any L n c l (w.alloc (.cells #[.slice L n c] 24)) ((hF.below HB.out).more HB.out.size) hB)
  have HF := hide hF
  have HLN := hide hln
  obtain ⟨R, hR⟩ : ∃ R, dirP (nds l) d b = R := ⟨_, rfl⟩
  rw [hR]
  have HR := hide hR
  have HBB := hide hb
  clear hF hB hl hln hR hb
  have k0 := one_ HX.out
  go_enter Try.func27, Try.ntmps27
  go_wp2_with fail
  refine XC.out.mono ?_
  rintro e w3 ⟨rfl, hb3⟩
  have HX3 := hide (HX.out.below hb3 HX.out.lt)
  have HB3 := hide (HB.out.trans (hb3.mono HB.out.size))
  clear hb3 XC k0 HX HB
  have k0 := one_ HX3.out
  cases hck : checkB (nds l) with
  | false =>
    have hRe : R = 2 := by rw [← HR.out]; unfold dirP; rw [if_pos (.inl hck)]
    subst hRe
    clear hck
    go_wp2_with fail
    go_ret
    exact ⟨rfl, HB3.out⟩
  | true =>
    have HCK := hide hck
    clear hck
    by_cases c1 : d < 0
    · have hRe : R = 2 := by rw [← HR.out]; unfold dirP; rw [if_pos (.inr (.inl c1))]
      subst hRe
      go_wp2_with fail
      go_ret
      exact ⟨rfl, HB3.out⟩
    · by_cases c2 : (n : Int) ≤ d
      · have hRe : R = 2 := by rw [← HR.out]; unfold dirP; rw [if_pos (.inr (.inr (by rw [HLN.out]; exact c2)))]
        subst hRe
        go_wp2_with fail
        go_ret
        exact ⟨rfl, HB3.out⟩
      · obtain ⟨m, hm⟩ : ∃ m : Nat, d = (m : Int) := ⟨d.toNat, by omega⟩
        subst hm
        have hmn : m < n := by omega
        obtain ⟨g, o, x, rfl, hg, hx, hok, hc⟩ := HF.out.at_ hmn
        obtain ⟨d0, d1, d2, d3, d4, d5⟩ := NdCells.below hc hg HB3.out
        have i1 := fun W => nd_at g o n c m (m : Int) rfl hmn W
        have hmod := mode_of HCK.out (n := x.r) (by unfold nds; exact List.mem_map.2 ⟨x, List.mem_of_getElem? hx, rfl⟩)
        have HBA := hide (bit_and hmod.1 hmod.2 HBB.out)
        have HR2 : Hid (R = (if x.r.kind ≠ 2 then 22 else if hasBit x.r.mode b = false then 24 else 0)) := hide (by
          rw [← HR.out]; unfold dirP
          rw [if_neg (by rw [HCK.out, HLN.out]; simp; omega), nds_at hx])
        clear hx hok hc hmod
        by_cases c3 : x.r.kind = 2
        · have c3b : (x.r.kind != 2) = false := by rw [c3]; rfl
          cases hbt : hasBit x.r.mode b with
          | false =>
            have hRe : R = 24 := by rw [HR2.out, if_neg (by simp [c3]), if_pos hbt]
            have hba := HBA.out
            rw [hbt] at hba
            simp only [Bool.not_false] at hba
            subst hRe
            clear hbt c3
            go_wp2_with fail
            go_ret
            exact ⟨rfl, HB3.out⟩
          | true =>
            have hRe : R = 0 := by rw [HR2.out, if_neg (by simp [c3]), if_neg (by simp [hbt])]
            have hba := HBA.out
            rw [hbt] at hba
            simp only [Bool.not_true] at hba
            subst hRe
            clear hbt c3
            go_wp2_with fail
            go_ret
            exact ⟨rfl, HB3.out⟩
        · have c3b : (x.r.kind != 2) = true := bne_iff_ne.2 c3
          have hRe : R = 22 := by rw [HR2.out, if_pos c3]
          subst hRe
          clear c3
          go_wp2_with fail
          go_ret
          exact ⟨rfl, HB3.out⟩
end Go.Proofs.Ytnhfpaobocbieaa
