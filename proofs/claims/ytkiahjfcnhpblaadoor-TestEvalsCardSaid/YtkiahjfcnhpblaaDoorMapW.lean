/- test.comparisons: the map of six functions, and looking into it. -/
import Derived.Test.YtkiahjfcnhpblaaDoorRParseW
import Derived.Test.YtkiahjfcnhpblaaDoorStrs
import Derived.Maps.OwnSet
import Derived.Outline
namespace Go.Proofs.YtkiahjfcnhpblaaDoor
open Go.RowKit
open Go.Maps
set_option linter.unusedVariables false
/-- How a function's value reads: as its number. -/
def fnElem (v : Value) : Option (DataW Unit × List MemPlace) := match v with
  | .func (.func f) a c => if a.size = 0 ∧ c.size = 0 then some (.lit (.int .i64 f), []) else some (.nil, [])
  | _ => some (.nil, [])
theorem keyS : Keyed Tryd.prog 9 := string_keyed Tryd.underlying9
theorem key_of (l : Bs) (h : l.length ≤ maxLen) : keyOf Tryd.prog 9 (.string ⟨l.toArray⟩) = some (.string l) := by
  have := WideMaps.keyOf_string_mk (P := Tryd.prog) (s := ⟨l.toArray⟩) Tryd.underlying9 h
  simpa using this
/-- The names of the comparisons, and their functions' numbers. -/
def cmpD : DataW Unit := (((((((DataW.map []).put (.string [45, 101, 113]) (.lit (.int .i64 30))).put (.string [45, 110, 101]) (.lit (.int .i64 31))).put (.string [45, 108, 116]) (.lit (.int .i64 32))).put (.string [45, 108, 101]) (.lit (.int .i64 33))).put (.string [45, 103, 116]) (.lit (.int .i64 34))).put (.string [45, 103, 101]) (.lit (.int .i64 35)))
set_option maxRecDepth 10000 in
theorem comparisons_any (w : World) :
    Calls Tryd.prog 22 #[] w fun e w' => e = .returned (.map (some w.heap.size)) ∧ w'.ownsMap Tryd.prog 9 fnElem w.heap.size 6 cmpD ∧ Below w.heap.size w w' := by
  have hmm := @run_makeMap Tryd.prog
  have h0 := World.ownsMap_made w Tryd.prog 9 fnElem
  obtain ⟨w1, r1, o1, g1⟩ := h0.update keyS Tryd.underlying46 (by decide) (key_of [45, 101, 113] (by decide)) (val := .func (.func 30) #[] #[]) rfl
  obtain ⟨w2, r2, o2, g2⟩ := o1.update keyS Tryd.underlying46 (by decide) (key_of [45, 110, 101] (by decide)) (val := .func (.func 31) #[] #[]) rfl
  obtain ⟨w3, r3, o3, g3⟩ := o2.update keyS Tryd.underlying46 (by decide) (key_of [45, 108, 116] (by decide)) (val := .func (.func 32) #[] #[]) rfl
  obtain ⟨w4, r4, o4, g4⟩ := o3.update keyS Tryd.underlying46 (by decide) (key_of [45, 108, 101] (by decide)) (val := .func (.func 33) #[] #[]) rfl
  obtain ⟨w5, r5, o5, g5⟩ := o4.update keyS Tryd.underlying46 (by decide) (key_of [45, 103, 116] (by decide)) (val := .func (.func 34) #[] #[]) rfl
  obtain ⟨w6, r6, o6, g6⟩ := o5.update keyS Tryd.underlying46 (by decide) (key_of [45, 103, 101] (by decide)) (val := .func (.func 35) #[] #[]) rfl
  have hB : Below w.heap.size w w6 := by
    have b0 := (Below.refl w.heap.size w).alloc (Nat.le_refl _) (.map #[] 0)
    have b1 := b0.grown g1 b0.size (fun g hg => by cases hg; exact Nat.le_refl _)
    have b2 := b1.grown g2 b1.size (fun g hg => by cases hg; exact Nat.le_refl _)
    have b3 := b2.grown g3 b2.size (fun g hg => by cases hg; exact Nat.le_refl _)
    have b4 := b3.grown g4 b3.size (fun g hg => by cases hg; exact Nat.le_refl _)
    have b5 := b4.grown g5 b4.size (fun g hg => by cases hg; exact Nat.le_refl _)
    exact b5.grown g6 b5.size (fun g hg => by cases hg; exact Nat.le_refl _)
  have HO := hide o6
  have HB := hide hB
  clear h0 o1 o2 o3 o4 o5 o6 g1 g2 g3 g4 g5 g6 hB
  change (Instr.mapUpdate 46 (.map (some w.heap.size)) (.string ⟨#[45, 101, 113]⟩) _).run Tryd.prog _ = _ at r1
  change (Instr.mapUpdate 46 (.map (some w.heap.size)) (.string ⟨#[45, 110, 101]⟩) _).run Tryd.prog _ = _ at r2
  change (Instr.mapUpdate 46 (.map (some w.heap.size)) (.string ⟨#[45, 108, 116]⟩) _).run Tryd.prog _ = _ at r3
  change (Instr.mapUpdate 46 (.map (some w.heap.size)) (.string ⟨#[45, 108, 101]⟩) _).run Tryd.prog _ = _ at r4
  change (Instr.mapUpdate 46 (.map (some w.heap.size)) (.string ⟨#[45, 103, 116]⟩) _).run Tryd.prog _ = _ at r5
  change (Instr.mapUpdate 46 (.map (some w.heap.size)) (.string ⟨#[45, 103, 101]⟩) _).run Tryd.prog _ = _ at r6
  go_enter Tryd.func22, Tryd.ntmps22
  go_wp2_with fail
  go_ret
  exact ⟨rfl, HO.out, HB.out⟩
/-- The comparison that a text names. -/
def cmpF (l : Bs) : Option Nat := if l = [45, 101, 113] then some 30 else if l = [45, 110, 101] then some 31 else if l = [45, 108, 116] then some 32 else if l = [45, 108, 101] then some 33 else if l = [45, 103, 116] then some 34 else if l = [45, 103, 101] then some 35 else none
theorem cmpD_eq : cmpD = .map [(.string [45, 101, 113], .lit (.int .i64 30)), (.string [45, 103, 101], .lit (.int .i64 35)), (.string [45, 103, 116], .lit (.int .i64 34)), (.string [45, 108, 101], .lit (.int .i64 33)), (.string [45, 108, 116], .lit (.int .i64 32)), (.string [45, 110, 101], .lit (.int .i64 31))] := by
  rfl
theorem cmp_look (l : Bs) : (cmpF l = none ∧ cmpD.atKey (.string l) .nil = .nil ∧ Maps.has cmpD (.string l) = false) ∨ (∃ f, cmpF l = some f ∧ cmpD.atKey (.string l) .nil = .lit (.int .i64 f) ∧ Maps.has cmpD (.string l) = true) := by
  rw [cmpD_eq]
  by_cases h1 : l = [45, 101, 113]
  · subst h1; exact .inr ⟨30, rfl, rfl, rfl⟩
  by_cases h2 : l = [45, 110, 101]
  · subst h2; exact .inr ⟨31, rfl, rfl, rfl⟩
  by_cases h3 : l = [45, 108, 116]
  · subst h3; exact .inr ⟨32, rfl, rfl, rfl⟩
  by_cases h4 : l = [45, 108, 101]
  · subst h4; exact .inr ⟨33, rfl, rfl, rfl⟩
  by_cases h5 : l = [45, 103, 116]
  · subst h5; exact .inr ⟨34, rfl, rfl, rfl⟩
  by_cases h6 : l = [45, 103, 101]
  · subst h6; exact .inr ⟨35, rfl, rfl, rfl⟩
  refine .inl ⟨by unfold cmpF; simp [h1, h2, h3, h4, h5, h6], ?_, ?_⟩
  · simp [DataW.atKey, Lit.sameKey, Ne.symm h1, Ne.symm h2, Ne.symm h3, Ne.symm h4, Ne.symm h5, Ne.symm h6]
  · simp [Maps.has, Lit.sameKey, Ne.symm h1, Ne.symm h2, Ne.symm h3, Ne.symm h4, Ne.symm h5, Ne.symm h6]
end Go.Proofs.YtkiahjfcnhpblaaDoor
