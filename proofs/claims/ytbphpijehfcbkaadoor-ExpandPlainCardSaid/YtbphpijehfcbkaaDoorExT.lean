/- expand.Parts at the text of the law's heads. -/
import Derived.Test.YtbphpijehfcbkaaDoorExI
import Derived.Sort.QuietIn
import Derived.Sort.CutIn
import Derived.Maps.AppendAt
namespace Go.Proofs.YtbphpijehfcbkaaDoor
open Go Go.RowKit
set_option linter.unusedVariables false
theorem split_seq27 (w : World) : Calls Tryd.prog 27 #[.string ⟨#[47, 97, 47, 47, 98, 42]⟩, .string ⟨#[47]⟩, .int .i64 0] w fun e w' => e = .returned (.func (.func 39) #[] #[.pointer (some ⟨w.heap.size + 1, 0, none⟩), .pointer (some ⟨w.heap.size, 0, none⟩), .pointer (some ⟨w.heap.size + 2, 0, none⟩)]) ∧
    w' = ((w.alloc (.cells #[.string ⟨#[47, 97, 47, 47, 98, 42]⟩] 9)).alloc (.cells #[.string ⟨#[47]⟩] 9)).alloc (.cells #[.int .i64 0] 3) := by
  go_enter Tryd.func27, Tryd.ntmps27
  go_wp2_with fail
  go_ret
  exact ⟨rfl, rfl⟩
theorem split_seq18 (w : World) : Calls Tryd.prog 18 #[.string ⟨#[47, 97, 47, 47, 98, 42]⟩, .string ⟨#[47]⟩] w fun e w' => e = .returned (.func (.func 39) #[] #[.pointer (some ⟨w.heap.size + 1, 0, none⟩), .pointer (some ⟨w.heap.size, 0, none⟩), .pointer (some ⟨w.heap.size + 2, 0, none⟩)]) ∧
    w' = ((w.alloc (.cells #[.string ⟨#[47, 97, 47, 47, 98, 42]⟩] 9)).alloc (.cells #[.string ⟨#[47]⟩] 9)).alloc (.cells #[.int .i64 0] 3) := by
  have X := hide (split_seq27 w)
  go_enter Tryd.func18, Tryd.ntmps18
  go_wp2_with fail
  refine X.out.mono ?_
  rintro e w1 ⟨rfl, hw⟩
  have HW := hide hw
  clear hw
  go_wp2_with fail
  go_ret
  exact ⟨rfl, HW.out⟩
def ne (l : List LB) : List LB := l.filter fun x => x != []
theorem ne_hit (l : List LB) {x : LB} (h : x ≠ []) : ne (l ++ [x]) = ne l ++ [x] := by simp [ne, h]
theorem ne_miss (l : List LB) : ne (l ++ [[]]) = ne l := by simp [ne]
theorem ne_le (l : List LB) : (ne l).length ≤ l.length := List.length_filter_le _ _
/-- What holds between two rounds: the box of out, and its row. -/
def PI (z : Nat) (w : World) (pre : List LB) (W : World) : Prop := (∃ v, Boxed W z 27 v ∧ W.ownsRow (z + 4) 9 1 v (ne pre).length (svs (ne pre))) ∧ Below z w W ∧ z + 4 ≤ W.heap.size
set_option maxRecDepth 100000 in
set_option maxHeartbeats 8000000 in
theorem parts_c (w : World) : Calls Tryd.prog 8 #[.string ⟨#[47, 97, 47, 47, 98, 42]⟩] w fun e w' => ∃ A c, e = .returned (.tuple #[.slice A 2 c, .bool true]) ∧ Ow w.heap.size w' A 2 c [[97], [98, 42]] ∧ Below w.heap.size w w' := by
  obtain ⟨i0, hi, hz0, hz1, hz2⟩ := info_parts infoStr
  refine (callsIn_wide (n := 6)).1 ?_
  have XS : ∀ V, CallsIn Fence.wide 5 Tryd.prog 18 #[.string ⟨#[47, 97, 47, 47, 98, 42]⟩, .string ⟨#[47]⟩] V _ := fun V => callsIn_wide.2 (split_seq18 V)
  refine callsIn_of_wp_marks Tryd.func8 rfl trivial ?_ rfl
  simp only [Tryd.ntmps8, List.size_toArray, List.length_cons, List.length_nil, Nat.reduceAdd, Nat.reduceSub, Array.replicate_succ, Array.replicate_zero, List.push_toArray, List.append_toArray, List.nil_append, List.cons_append]
  gi_wp2
  refine ⟨trivial, (XS _).mono ?_⟩
  rintro e w1 ⟨rfl, rfl⟩
  gi_wp2
  obtain ⟨z, hz⟩ : ∃ z, w.heap.size = z := ⟨_, rfl⟩
  obtain ⟨W0, hW0⟩ : ∃ W, (((w.alloc (.cells #[.slice none 0 0] 27)).alloc (.cells #[.string ⟨#[47, 97, 47, 47, 98, 42]⟩] 9)).alloc (.cells #[.string ⟨#[47]⟩] 9)).alloc (.cells #[.int .i64 0] 3) = W := ⟨_, rfl⟩
  have hsz : W0.heap.size = z + 4 := by rw [← hW0, ← hz]; simp
  have bO : Boxed W0 z 27 (.slice none 0 0) := by
    have := (((Boxed.new w 27 (.slice none 0 0)).alloc (.cells #[.string ⟨#[47, 97, 47, 47, 98, 42]⟩] 9)).alloc (.cells #[.string ⟨#[47]⟩] 9)).alloc (.cells #[.int .i64 0] 3)
    rwa [hW0, hz] at this
  have bS : Boxed W0 (z + 1) 9 (.string ⟨(restOf 0).toArray⟩) := by
    have := ((Boxed.new (w.alloc (.cells #[.slice none 0 0] 27)) 9 (.string ⟨#[47, 97, 47, 47, 98, 42]⟩)).alloc (.cells #[.string ⟨#[47]⟩] 9)).alloc (.cells #[.int .i64 0] 3)
    rw [hW0, World.size_alloc, hz] at this
    exact this
  have bP : Boxed W0 (z + 2) 9 (.string ⟨#[47]⟩) := by
    have := (Boxed.new ((w.alloc (.cells #[.slice none 0 0] 27)).alloc (.cells #[.string ⟨#[47, 97, 47, 47, 98, 42]⟩] 9)) 9 (.string ⟨#[47]⟩)).alloc (.cells #[.int .i64 0] 3)
    rw [hW0, World.size_alloc, World.size_alloc, hz] at this
    exact this
  have bI : Boxed W0 (z + 3) 3 (.int .i64 0) := by
    have := Boxed.new (((w.alloc (.cells #[.slice none 0 0] 27)).alloc (.cells #[.string ⟨#[47, 97, 47, 47, 98, 42]⟩] 9)).alloc (.cells #[.string ⟨#[47]⟩] 9)) 3 (.int .i64 0)
    rw [hW0, World.size_alloc, World.size_alloc, World.size_alloc, hz] at this
    exact this
  have hB0 : Below z w W0 := by
    rw [← hW0, ← hz]
    exact ((((Below.refl _ w).alloc (Nat.le_refl _) _).alloc (by simp) _).alloc (by simp; omega) _).alloc (by simp; omega) _
  rw [hW0]
  try rw [hz]
  try simp only [World.size_alloc, hz]
  refine range_own rfl (by decide) (gf := 39) (lb := #[.pointer (some ⟨z + 2, 0, none⟩), .pointer (some ⟨z + 1, 0, none⟩), .pointer (some ⟨z + 3, 0, none⟩)]) rfl trivial (enters_of Tryd.func39 (by kernel_rfl) rfl) (fun x : LB => .string ⟨x.toArray⟩) rfl
    (fun k => k = z + 1 ∨ k = z + 2 ∨ k = z + 3) (fun k hk => by omega)
    (PI z w)
    ?hI ?hIa xs4 ⟨⟨_, bO, World.ownsRow_nil _ _ _ _⟩, hB0, by omega⟩
    (fun x => { tmps := #[.string ⟨#[47, 97, 47, 47, 98, 42]⟩, undef, .slice none 0 0, .bool false, .pointer (some ⟨z, 0, none⟩), .string ⟨x.toArray⟩, .string ⟨#[47, 97, 47, 47, 98, 42]⟩, .func (.func 39) #[] #[.pointer (some ⟨z + 2, 0, none⟩), .pointer (some ⟨z + 1, 0, none⟩), .pointer (some ⟨z + 3, 0, none⟩)], .string ⟨x.toArray⟩, undef, undef, undef, undef, undef, undef, undef, undef, undef], defers := [] }) ?assign ?body ?iter ?done
  case hI =>
    rintro s W l o o' ⟨⟨v, hv, hrow⟩, hB, hl⟩ hle ho h1 h2
    refine ⟨⟨v, (World.putObj_heap_other (by omega)).trans hv, ownsRow_putObj hrow _ ho h1⟩, hB.trans (belowK_b (w := W0) (by omega) W l _ _ hle ho h1 h2), by simp; omega⟩
  case hIa =>
    rintro s W o ⟨⟨v, hv, hrow⟩, hB, hl⟩
    exact ⟨⟨v, hv.alloc o, hrow.alloc o⟩, hB.alloc (by omega) o, by simp; omega⟩
  case assign =>
    intro l x W K hK
    gi_wp2_with (rw [Oper.semAt_eq _ _ _ (fun c h => by cases h)]; go_simp)
    exact hK
  case body =>
    rintro l pre x W ⟨⟨v, hv, hrow⟩, hB, hl⟩ hlt
    have hlt4 : pre.length < 4 := hlt
    have hc := hv.cell
    have hpl := ne_le pre
    by_cases hx : x = []
    · subst hx
      gi_wp2_with (rw [Oper.semAt_eq _ _ _ (fun c h => by cases h)]; go_simp)
      exact ⟨KeepsFrom.refl _ _, KeepsK.refl _ _, ⟨⟨v, hv, by rw [ne_miss]; exact hrow⟩, hB, hl⟩⟩
    · have v1 : (x != []) = true := by rw [bne_iff_ne]; exact hx
      have v2 : (x == []) = false := beq_eq_false_iff_ne.2 hx
      have v3 : x.isEmpty = false := by cases x with
        | nil => exact absurd rfl hx
        | cons _ _ => rfl
      gi_wp2_with (first
        | (gi_at_builtin; refine wpListIn_append_own _ rfl _ _ 27 rfl (z + 4) 9 i0 (.string ⟨#[]⟩) 1 16 Tryd.underlying27 hi hz0 hz1 hz2 rfl (by decide) _ _ _ rfl (hrow.alloc _) ⟨W.heap.size, 0, none⟩ 1 1 [.string ⟨x.toArray⟩] rfl rfl (cell_one_new _ _ _) (by simp [Value.oneCell']) (by unfold maxLen; omega) (by omega) (by simp; omega) ?_; intro v' w1 hown' hgrow _; obtain ⟨g', cap', rfl⟩ := ownsRow_succ hown'; obtain ⟨hv1, hv2, hr2, hk2, hb2⟩ := hv.appended (by decide) (own_more hrow (by omega : z ≤ z + 4)) (by omega) (Nat.le_refl _) (own_more hown' (by omega : z ≤ z + 4)) hgrow; have hc1 := hv1.cell; have hf1 := hv1.frozen)
        | (rw [Oper.semAt_eq _ _ _ (fun c h => by cases h)]; go_simp))
      have hkk : ∀ k, k = z + 1 ∨ k = z + 2 ∨ k = z + 3 → (w1.setCell ⟨z, 0, none⟩ (.slice (some ⟨g', 0, none⟩) ((ne pre).length + 1) cap')).heap[k]? = W.heap[k]? := fun k hk => by
        refine (Below.heap_setCell w1 ⟨z, 0, none⟩ _ k (by show k ≠ z; omega)).trans ((hgrow.block k (by simp; omega) (fun e => ?_)).trans (Below.heap_alloc W _ k (by omega)))
        have := (World.ownsRow.lt hrow k e.symm).1
        omega
      refine ⟨hk2.from _, ⟨hb2.size, hkk⟩, ⟨_, hv2, ?_⟩, hB.trans hb2, by have := hb2.size; omega⟩
      rw [ne_hit pre hx, svs_append, List.length_append]
      exact ownsRow_setCell_below hown' (a := ⟨z, 0, none⟩) (by show z < z + 4; omega) _
  case iter =>
    intro l J W hJI hJk h0 hK hY
    refine split_iter 5 (z + 1) l W0 _ J W (by omega) ?_ hJI hJk h0 ((hK.2 _ (.inl rfl)).trans bS) ((hK.2 _ (.inr (.inl rfl))).trans bP) ((hK.2 _ (.inr (.inr rfl))).trans bI) hY (by decide)
    rintro s W v ⟨⟨u, hv, hrow⟩, hB, hl⟩
    exact ⟨⟨u, box_other hv (by omega), ownsRow_setCell_below hrow (by show z + 1 < z + 4; omega) _⟩, hB.setCell (p := ⟨z + 1, 0, none⟩) (by show z ≤ z + 1; omega) _, by simpa using hl⟩
  case done =>
    rintro D W hD ⟨⟨v, hv, hrow⟩, hB, hl⟩ hK
    have hc := hv.cell
    obtain ⟨A, c, rfl⟩ := own_slice hrow
    have hp : ∀ V, CallsIn Fence.wide 5 Tryd.prog 19 #[.string ⟨#[47, 97, 47, 47, 98, 42]⟩, .string ⟨#[47]⟩] V fun e w' => e = .returned (.bool true) ∧ w' = V := fun V => callsIn_wide.2 ((pre_l [47, 97, 47, 47, 98, 42] [47] V).mono (fun e w' h => ⟨h.1, h.2.symm⟩))
    have hf19 : Fence.wide.fn 19 := trivial
    gi_wp2
    gi_quiet ((gi_at_call 19; refine CallsIn.quiet_of_same (hp _)))
    gi_wp2
    have hK2 : (W.drewN nq).heap[D]? = some (.deferred (some [])) := hK
    have hlen : (ne xs4).length = 2 := by decide
    have hsv : ne xs4 = [[97], [98, 42]] := by decide
    have hrow2 : (W.drewN nq).ownsRow (z + 4) 9 1 (.slice A (ne xs4).length c) (ne xs4).length (svs (ne xs4)) := hrow
    have hO := own_more (ownsRow_putObj hrow2 (.deferred none) hK2 rfl) (by omega : z ≤ z + 4)
    have hB2 : Below z w ((W.drewN nq).putObj D (.deferred none)) := (below_drewN hB nq).trans (belowK_b (w := W0) (by omega) (W.drewN nq) D _ _ hD hK2 rfl rfl)
    rw [hlen, hsv] at hO
    refine ⟨by simp, .inl ⟨_, _, rfl, run_takeDeferred hK2, ?_⟩⟩
    refine ⟨.tuple #[.slice A 2 c, .bool true], by simp only [results, Tryd.results8]; go_simp, A, c, rfl, ?_, ?_⟩
    · rw [hz]; exact hO
    · rw [hz]; exact hB2
end Go.Proofs.YtbphpijehfcbkaaDoor
