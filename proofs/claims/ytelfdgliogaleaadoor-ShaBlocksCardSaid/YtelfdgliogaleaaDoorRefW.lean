/- The reference's contract: Words. -/
import Derived.Test.YtelfdgliogaleaaDoorRefA
import Derived.Outline
namespace Go.Proofs.YtelfdgliogaleaaDoor
open Go.RowKit
set_option linter.unusedVariables false
theorem take_eq_step {α : Type} {xs ys : List α} {k : Nat} {x y : α} (hx : xs[k]? = some x) (hy : ys[k]? = some y) (h : xs.take k = ys.take k) (e : x = y) : xs.take (k + 1) = ys.take (k + 1) := by
  obtain ⟨h1, e1⟩ := List.getElem?_eq_some_iff.1 hx
  obtain ⟨h2, e2⟩ := List.getElem?_eq_some_iff.1 hy
  rw [List.take_succ_eq_append_getElem h1, List.take_succ_eq_append_getElem h2, h, e1, e2, e]
set_option maxHeartbeats 2000000 in
theorem words_any (A B : Option Addr) (n m c d X Y : Nat) (xs ys : List Nat) (w : World) (ha : Reads w X 1 A n (wv xs)) (hb : Reads w Y 1 B m (wv ys)) (hn : n ≤ maxLen) :
    Calls Tryd.prog 15 #[.slice A n c, .slice B m d] w fun e w' => e = .returned (.bool (xs == ys)) ∧ ∃ k, w' = w.drewN k := by
  have hxl : xs.length = n := by have := ha.1; simpa using this
  have hyl : ys.length = m := by have := hb.1; simpa using this
  unfold maxLen at hn
  by_cases hnm : n = m
  · subst hnm
    have hz : ((n : Int) != (n : Int)) = false := by simp
    have HA := hide ha
    have HB := hide hb
    have HX := hide hxl
    have HY := hide hyl
    clear ha hb hxl hyl
    go_enter Tryd.func15, Tryd.ntmps15
    go_wp2_with fail
    go_loopw [5] (fun u5 wx => ∃ k : Nat, k ≤ n ∧ u5 = .int .i64 k ∧ xs.take k = ys.take k ∧ ∃ q, wx = w.drewN q) (fun i _ => n - (intOf i).toNat)
    case atStart => exact ⟨0, Nat.zero_le _, rfl, rfl, 0, rfl⟩
    case round =>
      obtain ⟨k, hk, rfl, he, q, hq⟩ := hrel
      have HE := hide he
      have HQ := hide hq
      clear he hq
      by_cases hkn : k < n
      · obtain ⟨x, hx⟩ : ∃ x, xs[k]? = some x := ⟨_, List.getElem?_eq_getElem (by rw [HX.out]; exact hkn)⟩
        obtain ⟨y, hy⟩ : ∃ y, ys[k]? = some y := ⟨_, List.getElem?_eq_getElem (by rw [HY.out]; exact hkn)⟩
        obtain ⟨ad, u, rfl, _, hu, hc⟩ := HA.out.at_ hkn
        obtain ⟨bd, v, rfl, _, hv, hc2⟩ := HB.out.at_ hkn
        rw [List.getElem?_map, hx] at hu
        rw [List.getElem?_map, hy] at hv
        injection hu with hu
        injection hv with hv
        subst hu
        subst hv
        have cx : wr.cell? (ad.add k) = some (.int .u32 (x : Int)) := by rw [HQ.out]; exact hc
        have cy : wr.cell? (bd.add k) = some (.int .u32 (y : Int)) := by rw [HQ.out]; exact hc2
        have d0 : (0 : Int) ≤ (k : Int) := by omega
        have d1 : (k : Int) < (n : Int) := by omega
        have HXK := hide hx
        have HYK := hide hy
        clear hx hy hc hc2
        by_cases hxy : x = y
        · have hne : ((x : Int) != (y : Int)) = false := by rw [hxy]; simp
          have HXY := hide hxy
          clear hxy
          go_upto_region 6 with (fail)
          go_quiet (fail)
          go_wp2_with fail
          clear cx cy hne
          go_roundw
          case rel =>
            refine ⟨k + 1, by omega, by go_num, take_eq_step HXK.out HYK.out HE.out HXY.out, ?_⟩
            rw [HQ.out]; exact ⟨_, by first | rfl | exact World.drewN_drewN _ _ _⟩
          case measure => simp [intOf]; omega
        · have hne : ((x : Int) != (y : Int)) = true := by rw [bne_iff_ne]; omega
          have hres : (xs == ys) = false := by
            rw [beq_eq_false_iff_ne]
            intro e
            have h1 := HXK.out
            rw [e, HYK.out] at h1
            injection h1 with h1
            exact hxy h1.symm
          have HRES := hide hres
          clear hxy hres
          go_upto_region 6 with (fail)
          go_quiet (fail)
          go_wp2_with fail
          go_ret
          refine ⟨by rw [HRES.out] <;> rfl, ?_⟩
          rw [HQ.out]; exact ⟨_, by first | rfl | exact World.drewN_drewN _ _ _⟩
      · obtain rfl : k = n := by omega
        have hres : (xs == ys) = true := by
          rw [beq_iff_eq]
          have h := HE.out
          rw [List.take_of_length_le (Nat.le_of_eq HX.out), List.take_of_length_le (Nat.le_of_eq HY.out)] at h
          exact h
        have HRES := hide hres
        clear hres
        go_wp2_with fail
        go_ret
        exact ⟨by rw [HRES.out] <;> rfl, q, HQ.out⟩
  · have hz : ((n : Int) != (m : Int)) = true := by rw [bne_iff_ne]; omega
    have hres : (xs == ys) = false := by
      rw [beq_eq_false_iff_ne]
      intro e
      rw [e, hyl] at hxl
      exact hnm hxl.symm
    have HRES := hide hres
    clear hres ha hb hxl hyl
    go_enter Tryd.func15, Tryd.ntmps15
    go_wp2_with fail
    go_ret
    exact ⟨by rw [HRES.out] <;> rfl, 0, rfl⟩
end Go.Proofs.YtelfdgliogaleaaDoor
