/- slices.Equal of settings' rules; rules compared. -/
import Derived.Test.YthbackkcamgidaaGreatDoorRuWb
import Derived.Deep.QuietTactic
import Derived.BigQuiet
import Derived.Laws.StructEq
namespace Go.Proofs.YthbackkcamgidaaGreatDoor
open Go Go.RowKit
set_option linter.unusedVariables false
def eqE (a b : EU) : Bool := a.k == b.k && (a.pat == b.pat && a.val == b.val)
theorem eqE_iff (a b : EU) : eqE a b = true ↔ a = b := by
  obtain ⟨k, p, v⟩ := a
  obtain ⟨k', p', v'⟩ := b
  simp [eqE]
def eqEs : List EU → List EU → Bool
  | [], [] => true
  | a :: l, b :: m => eqE a b && eqEs l m
  | _, _ => false
theorem eqEs_iff : ∀ a b : List EU, eqEs a b = true ↔ a = b
  | [], [] => by simp [eqEs]
  | [], _ :: _ => by simp [eqEs]
  | _ :: _, [] => by simp [eqEs]
  | x :: l, y :: m => by rw [eqEs, Bool.and_eq_true, eqE_iff, eqEs_iff l m, List.cons.injEq]
theorem eqEs_len {a b : List EU} (h : a.length ≠ b.length) : eqEs a b = false := by
  cases hh : eqEs a b with
  | false => rfl
  | true => exact absurd (congrArg List.length ((eqEs_iff a b).1 hh)) h
theorem neq_en (a b : EU) (W : World) : (binOp .neq 42 (.agg #[.int .i64 a.k, .string ⟨a.pat.toArray⟩, .string ⟨a.val.toArray⟩]) (.agg #[.int .i64 b.k, .string ⟨b.pat.toArray⟩, .string ⟨b.val.toArray⟩])).run Tryz.prog W = .ok (.bool (!eqE a b)) W := by
  rw [run_neq_struct, run_equalIn_agg _ _ _ _ _ (by kernel_rfl) (by kernel_rfl)]
  have hn : ∀ (x y : LB), ((⟨x.toArray⟩ : ByteArray).toList == (⟨y.toArray⟩ : ByteArray).toList) = (x == y) := fun x y => by rw [ByteArray.toList_eq, ByteArray.toList_eq]
  have hu := Tryz.underlying42
  have hi := Tryz.underlying3
  have hs := Tryz.underlying9
  simp [Program.fieldsOf, hu, Op.eqFields, part, go_sem, hi, hs]
  unfold eqE
  by_cases h1 : a.k = b.k <;> by_cases h2 : a.pat = b.pat <;> by_cases h3 : a.val = b.val <;> simp [h1, h2, h3]
set_option maxRecDepth 100000 in
set_option maxHeartbeats 8000000 in
theorem eqEn_any (l1 l2 : List EU) (A B : Option Addr) (n c m d : Nat) (w : World) (h1 : Reads w w.heap.size 3 A n (ecs l1)) (h2 : Reads w w.heap.size 3 B m (ecs l2)) (hn : n ≤ 1000000) (hm : m ≤ 1000000) :
    Calls Tryz.prog 57 #[.slice A n c, .slice B m d] w fun e w' => e = .returned (.bool (eqEs l1 l2)) ∧ Below w.heap.size w w' := by
  have hl1 : l1.length = n := by have := h1.1; rw [ecs_length] at this; omega
  have hl2 : l2.length = m := by have := h2.1; rw [ecs_length] at this; omega
  by_cases hnm : n = m
  · subst hnm
    have H1 := hide h1
    have H2 := hide h2
    have hgt : Tryz.prog.eqGuardType Tryz.prog.depth 42 = false := by kernel_rfl
    have hnn : ((n : Int) == (n : Int)) = true := by simp
    clear h1 h2
    go_enter Tryz.func57, Tryz.ntmps57
    go_wp2_with fail
    go_loopw [13] (fun u13 wx => ∃ i : Nat, i ≤ n ∧ u13 = .int .i64 i ∧ Hid (Below w.heap.size w wx) ∧ Hid (eqEs l1 l2 = eqEs (l1.drop i) (l2.drop i))) (fun u13 _ => n - (intOf u13).toNat)
    case atStart => exact ⟨0, Nat.zero_le _, rfl, hide (Below.refl _ _), hide rfl⟩
    case round =>
      obtain ⟨i, hin, rfl, HB, HE⟩ := hrel
      by_cases hlt : i < n
      · obtain ⟨x, hx⟩ : ∃ x, l1[i]? = some x := ⟨_, List.getElem?_eq_getElem (by omega)⟩
        obtain ⟨y, hy⟩ : ∃ y, l2[i]? = some y := ⟨_, List.getElem?_eq_getElem (by omega)⟩
        obtain ⟨g, o, rfl, hg, hc⟩ := en_cells (H1.out.below HB.out) hx
        obtain ⟨g', o', rfl, hg', hc'⟩ := en_cells (H2.out.below HB.out) hy
        have r0 : wr.cell? ⟨g, o + i * 3, none⟩ = some (.int .i64 x.k) := hc 0 _ rfl
        have r1 : wr.cell? ⟨g, o + i * 3 + 1, none⟩ = some (.string ⟨x.pat.toArray⟩) := hc 1 _ rfl
        have r2 : wr.cell? ⟨g, o + i * 3 + 2, none⟩ = some (.string ⟨x.val.toArray⟩) := hc 2 _ rfl
        have s0 : wr.cell? ⟨g', o' + i * 3, none⟩ = some (.int .i64 y.k) := hc' 0 _ rfl
        have s1 : wr.cell? ⟨g', o' + i * 3 + 1, none⟩ = some (.string ⟨y.pat.toArray⟩) := hc' 1 _ rfl
        have s2 : wr.cell? ⟨g', o' + i * 3 + 2, none⟩ = some (.string ⟨y.val.toArray⟩) := hc' 2 _ rfl
        have hia := fun W => en_at g o n c i (i : Int) rfl hlt W
        have hib := fun W => en_at g' o' n d i (i : Int) rfl hlt W
        have hlt' : (i : Int) < (n : Int) := by omega
        have kw : IntKind.i64.wrap ((i : Int) + 1) = (i : Int) + 1 := by simp [IntKind.wrap, IntKind.bits, IntKind.signed]; omega
        have hq := neq_en x y
        have HS : Hid (eqEs (l1.drop i) (l2.drop i) = (eqE x y && eqEs (l1.drop (i + 1)) (l2.drop (i + 1)))) := hide (by
          rw [List.drop_eq_getElem_cons (by omega : i < l1.length), List.drop_eq_getElem_cons (by omega : i < l2.length), eqEs]
          rw [(List.getElem?_eq_some_iff.1 hx).2, (List.getElem?_eq_some_iff.1 hy).2])
        clear hc hc' hx hy
        cases hb : eqE x y with
        | true =>
          have HE2 : Hid (eqEs l1 l2 = eqEs (l1.drop (i + 1)) (l2.drop (i + 1))) := hide (by rw [HE.out, HS.out, hb, Bool.true_and])
          have hb' : (!eqE x y) = false := by rw [hb]; rfl
          rw [hb'] at hq
          go_wp2_with fail
          go_quiet (fail)
          have HB2 := hide (below_drewN HB.out nq)
          clear r0 r1 r2 s0 s1 s2 hq hia hib
          generalize wr.drewN nq = wq at *
          go_wp2_with fail
          go_roundw
          case rel => exact ⟨i + 1, by omega, by go_num, HB2, HE2⟩
          case measure => simp [intOf]; omega
        | false =>
          have HE2 : Hid (eqEs l1 l2 = false) := hide (by rw [HE.out, HS.out, hb, Bool.false_and])
          have hb' : (!eqE x y) = true := by rw [hb]; rfl
          rw [hb'] at hq
          go_wp2_with fail
          go_quiet (fail)
          have HB2 := hide (below_drewN HB.out nq)
          clear r0 r1 r2 s0 s1 s2 hq hia hib
          generalize wr.drewN nq = wq at *
          go_wp2_with fail
          go_ret
          exact ⟨by rw [HE2.out]; rfl, HB2.out⟩
      · obtain rfl : i = n := by omega
        have hlt' : ¬ (i : Int) < (i : Int) := by omega
        have HE2 : Hid (eqEs l1 l2 = true) := hide (by
          rw [HE.out, List.drop_of_length_le (by omega), List.drop_of_length_le (by omega)]; rfl)
        go_wp2_with fail
        go_ret
        exact ⟨by rw [HE2.out]; rfl, HB.out⟩
  · have HE2 : Hid (eqEs l1 l2 = false) := hide (eqEs_len (by omega))
    have hnn : ((n : Int) == (m : Int)) = false := beq_eq_false_iff_ne.2 (by omega)
    clear h1 h2
    go_enter Tryz.func57, Tryz.ntmps57
    go_wp2_with fail
    go_ret
    exact ⟨by rw [HE2.out]; rfl, Below.refl _ _⟩
end Go.Proofs.YthbackkcamgidaaGreatDoor
