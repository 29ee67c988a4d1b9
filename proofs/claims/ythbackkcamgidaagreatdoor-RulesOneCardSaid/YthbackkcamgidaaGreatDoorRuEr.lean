/- Rules compared. -/
import Derived.Test.YthbackkcamgidaaGreatDoorRuEq
namespace Go.Proofs.YthbackkcamgidaaGreatDoor
open Go Go.RowKit
set_option linter.unusedVariables false
def eqR (a b : RU) : Bool := a.al == b.al && (a.path == b.path && (a.wi == b.wi && (a.mo == b.mo && (a.ops == b.ops && a.args == b.args))))
theorem eqR_iff (a b : RU) : eqR a b = true ↔ a = b := by
  obtain ⟨a1, a2, a3, a4, a5, a6⟩ := a
  obtain ⟨b1, b2, b3, b4, b5, b6⟩ := b
  simp [eqR]
  intro _
  constructor
  · rintro ⟨h2, h3, h4, h5, h6⟩; exact ⟨h5, h2, h3, h6, h4⟩
  · rintro ⟨h5, h2, h3, h6, h4⟩; exact ⟨h2, h3, h4, h5, h6⟩
def eqRs : List RU → List RU → Bool
  | [], [] => true
  | a :: l, b :: m => eqR a b && eqRs l m
  | _, _ => false
theorem eqRs_iff : ∀ a b : List RU, eqRs a b = true ↔ a = b
  | [], [] => by simp [eqRs]
  | [], _ :: _ => by simp [eqRs]
  | _ :: _, [] => by simp [eqRs]
  | x :: l, y :: m => by rw [eqRs, Bool.and_eq_true, eqR_iff, eqRs_iff l m, List.cons.injEq]
theorem eqRs_len {a b : List RU} (h : a.length ≠ b.length) : eqRs a b = false := by
  cases hh : eqRs a b with
  | false => rfl
  | true => exact absurd (congrArg List.length ((eqRs_iff a b).1 hh)) h
set_option maxRecDepth 100000 in
set_option maxHeartbeats 16000000 in
theorem eqOne_any (x y : RV) (w : World) (hx1 : Reads w w.heap.size 1 x.O x.on (ivs x.r.ops)) (hx2 : Reads w w.heap.size 1 x.A x.an (svs x.r.args)) (hy1 : Reads w w.heap.size 1 y.O y.on (ivs y.r.ops)) (hy2 : Reads w w.heap.size 1 y.A y.an (svs y.r.args))
    (hb : x.on ≤ 1000 ∧ x.an ≤ 1000 ∧ y.on ≤ 1000 ∧ y.an ≤ 1000) :
    Calls Tryz.prog 59 #[x.v, y.v] w fun e w' => e = .returned (.bool (eqR x.r y.r)) ∧ Below w.heap.size w w' := by
  obtain ⟨⟨al, ops, path, wi, args, mo⟩, O, on, oc, A, an, ac⟩ := x
  obtain ⟨⟨al', ops', path', wi', args', mo'⟩, O', on', oc', A', an', ac'⟩ := y
  unfold RV.v
  dsimp only at hx1 hx2 hy1 hy2 hb ⊢
  obtain ⟨hb1, hb2, hb3, hb4⟩ := hb
  obtain ⟨z, hz⟩ : ∃ z, w.heap.size = z := ⟨_, rfl⟩
  rw [hz] at hx1 hx2 hy1 hy2
  have hk1 := (Blk.new w 40 #[.bool al, .slice O on oc, .string ⟨path.toArray⟩, .bool wi, .slice A an ac, .bool mo]).alloc (.cells #[.bool al', .slice O' on' oc', .string ⟨path'.toArray⟩, .bool wi', .slice A' an' ac', .bool mo'] 40)
  have hk2 := Blk.new (w.alloc (.cells #[.bool al, .slice O on oc, .string ⟨path.toArray⟩, .bool wi, .slice A an ac, .bool mo] 40)) 40 #[.bool al', .slice O' on' oc', .string ⟨path'.toArray⟩, .bool wi', .slice A' an' ac', .bool mo']
  have hbe := ((Below.refl z w).alloc (by omega) (.cells #[.bool al, .slice O on oc, .string ⟨path.toArray⟩, .bool wi, .slice A an ac, .bool mo] 40)).alloc (by simp; omega) (.cells #[.bool al', .slice O' on' oc', .string ⟨path'.toArray⟩, .bool wi', .slice A' an' ac', .bool mo'] 40)
  rw [World.size_alloc] at hk2
  rw [hz] at hk1 hk2
  have hs0 : ((w.alloc (.cells #[.bool al, .slice O on oc, .string ⟨path.toArray⟩, .bool wi, .slice A an ac, .bool mo] 40)).alloc (.cells #[.bool al', .slice O' on' oc', .string ⟨path'.toArray⟩, .bool wi', .slice A' an' ac', .bool mo'] 40)).heap.size = z + 2 := by simp [hz]
  obtain ⟨b1, e1⟩ : ∃ b, (al == al') = b := ⟨_, rfl⟩
  obtain ⟨b2, e2⟩ : ∃ b, (path == path') = b := ⟨_, rfl⟩
  obtain ⟨b3, e3⟩ : ∃ b, (wi == wi') = b := ⟨_, rfl⟩
  obtain ⟨b4, e4⟩ : ∃ b, (mo == mo') = b := ⟨_, rfl⟩
  obtain ⟨b5, e5⟩ : ∃ b, (ops == ops') = b := ⟨_, rfl⟩
  obtain ⟨b6, e6⟩ : ∃ b, (args == args') = b := ⟨_, rfl⟩
  have HR : Hid (eqR ⟨al, ops, path, wi, args, mo⟩ ⟨al', ops', path', wi', args', mo'⟩ = (b1 && (b2 && (b3 && (b4 && (b5 && b6)))))) := hide (by unfold eqR; rw [e1, e2, e3, e4, e5, e6])
  go_enter Tryz.func59, Tryz.ntmps59
  refine wp_seq ?_
  go_upto_region 1 with (fail)
  obtain ⟨W0, hW0⟩ : ∃ W, (w.alloc (.cells #[.bool al, .slice O on oc, .string ⟨path.toArray⟩, .bool wi, .slice A an ac, .bool mo] 40)).alloc (.cells #[.bool al', .slice O' on' oc', .string ⟨path'.toArray⟩, .bool wi', .slice A' an' ac', .bool mo'] 40) = W := ⟨_, rfl⟩
  rw [hW0] at hk1 hk2 hbe hs0 ⊢
  clear hW0
  have X1 := hide (fun W (hB : Below z W0 W) => eqI_any ops ops' O O' on oc on' oc' W ((hx1.below (hbe.trans hB)).more (by have := hbe.size; have := hB.size; omega)) ((hy1.below (hbe.trans hB)).more (by have := hbe.size; have := hB.size; omega)) (by omega) (by omega))
  have X2 := hide (fun W (hB : Below z W0 W) => eqS_any args args' A A' an ac an' ac' W ((hx2.below (hbe.trans hB)).more (by have := hbe.size; have := hB.size; omega)) ((hy2.below (hbe.trans hB)).more (by have := hbe.size; have := hB.size; omega)) (by omega) (by omega))
  rw [e5] at X1
  rw [e6] at X2
  have HB := hide hbe
  have HK1 := hide hk1
  have HK2 := hide hk2
  clear hbe hx1 hx2 hy1 hy2 e5 e6
  have c0 := hk1.cell 0
  have c2 := hk1.cell 2
  have c3 := hk1.cell 3
  have c5 := hk1.cell 5
  have c1 := hk1.cell 1
  have c4 := hk1.cell 4
  have d0 := hk2.cell 0
  have d2 := hk2.cell 2
  have d3 := hk2.cell 3
  have d5 := hk2.cell 5
  have d1 := hk2.cell 1
  have d4 := hk2.cell 4
  clear hk1 hk2
  cases b1 with
  | false =>
    go_wp2_with fail
    go_ret
    exact ⟨by rw [HR.out]; rfl, by rw [hz]; exact HB.out⟩
  | true =>
    cases b2 with
    | false =>
      go_wp2_with fail
      go_ret
      exact ⟨by rw [HR.out]; rfl, by rw [hz]; exact HB.out⟩
    | true =>
      cases b3 with
      | false =>
        go_wp2_with fail
        go_ret
        exact ⟨by rw [HR.out]; rfl, by rw [hz]; exact HB.out⟩
      | true =>
        cases b4 with
        | false =>
          go_wp2_with fail
          go_ret
          exact ⟨by rw [HR.out]; rfl, by rw [hz]; exact HB.out⟩
        | true =>
          go_wp2_with fail
          refine (X1.out W0 (Below.refl _ _)).mono ?_
          rintro e w1 ⟨rfl, q, rfl⟩
          have hq := below_drewN (Below.refl z W0) q
          have hk3 := HK1.out.drewN q
          have hk4 := HK2.out.drewN q
          have X3 := hide (X2.out _ hq)
          have HB3 := hide (HB.out.trans hq)
          have HK3 := hide hk3
          have HK4 := hide hk4
          clear hq X1 X2 c0 c1 c2 c3 c4 c5 d0 d1 d2 d3 d4 d5 HK1 HK2 HB hk3 hk4
          generalize W0.drewN q = W1 at *
          have c4 := HK3.out.cell 4
          have d4 := HK4.out.cell 4
          cases b5 with
          | false =>
            go_wp2_with fail
            go_ret
            exact ⟨by rw [HR.out]; rfl, by rw [hz]; exact HB3.out⟩
          | true =>
            go_wp2_with fail
            refine X3.out.mono ?_
            rintro e w2 ⟨rfl, q2, rfl⟩
            have HB4 := hide (below_drewN HB3.out q2)
            clear c4 d4
            go_wp2_with fail
            go_ret
            exact ⟨by rw [HR.out]; rfl, by rw [hz]; exact HB4.out⟩
end Go.Proofs.YthbackkcamgidaaGreatDoor
