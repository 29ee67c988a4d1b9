/- node.checkLinks: the map of counts. -/
import Derived.Test.YtnhfpaobocbieaaNdZ
import Derived.Maps.OwnSet
namespace Go.Proofs.Ytnhfpaobocbieaa
open Go.RowKit
open Go.Maps
set_option linter.unusedVariables false
theorem keyI : Keyed Try.prog 3 := int_keyed Try.underlying3
/-- A map that counts the names by their nodes. -/
def CM (w : World) (b N : Nat) (ns : List NM) : Prop := ∃ D : DataW Unit, w.ownsMap Try.prog 3 (plainElem Try.prog 3) b N D ∧ ∀ k : Int, (Lit.int .i64 k).wf = true → D.atKey (.int .i64 k) (.lit (.int .i64 0)) = .lit (.int .i64 ((ns.countP fun x => x.node == k : Nat) : Int))
theorem wf_small {k : Int} (h0 : 0 ≤ k) (h1 : k ≤ 1000000) : (Lit.int .i64 k).wf = true := by
  have e1 : IntKind.i64.min = -9223372036854775808 := rfl
  have e2 : IntKind.i64.max = 9223372036854775807 := rfl
  simp only [Lit.wf, e1, e2, Bool.and_eq_true, decide_eq_true_eq]
  omega
theorem CM.made (w : World) : CM (w.alloc (.map #[] 0)) w.heap.size 0 [] := ⟨.map [], World.ownsMap_made _ _ _ _, fun k _ => rfl⟩
theorem CM.kept {w w' : World} {b N : Nat} {ns : List NM} (h : CM w b N ns) (hb : w'.heap[b]? = w.heap[b]?) : CM w' b N ns := by
  obtain ⟨D, ⟨es, clock, h1, h2⟩, h3⟩ := h
  exact ⟨D, ⟨es, clock, hb.trans h1, h2⟩, h3⟩
theorem CM.lt {w : World} {b N : Nat} {ns : List NM} (h : CM w b N ns) : b < w.heap.size := by
  obtain ⟨D, h1, _⟩ := h
  exact h1.lt
set_option maxRecDepth 100000 in
theorem CM.look {w : World} {b N : Nat} {ns : List NM} (h : CM w b N ns) {k : Int} (hk : (Lit.int .i64 k).wf = true) : (Instr.lookup 86 (.map (some b)) (.int .i64 k) false).run Try.prog w = .ok (.int .i64 ((ns.countP fun x => x.node == k : Nat) : Int)) w := by
  obtain ⟨D, h1, h2⟩ := h
  obtain ⟨c, e1, e2, _⟩ := h1.lookup_int keyI Try.underlying86 Try.underlying3 (Try.zeroValue3 w) (keyOf_int_mk Try.underlying3 hk)
  rw [h2 k hk] at e2
  rw [e1, ← (Lit.int.inj (DataW.lit.inj e2)).2]
set_option maxRecDepth 100000 in
theorem CM.upd {w : World} {b N : Nat} {ns : List NM} (h : CM w b N ns) (hN : N < maxLen) {y : NM} (hk : (Lit.int .i64 y.node).wf = true) (hl : ns.length ≤ 100000) :
    ∃ w', (Instr.mapUpdate 86 (.map (some b)) (.int .i64 y.node) (.int .i64 ((ns.countP fun x => x.node == y.node : Nat) + 1 : Int))).run Try.prog w = .ok () w' ∧ CM w' b (N + 1) (ns ++ [y]) ∧ w.grownBy w' (some b) := by
  obtain ⟨D, h1, h2⟩ := h
  have hc := List.countP_le_length (p := fun x : NM => x.node == y.node) (l := ns)
  obtain ⟨w', e1, e2, e3⟩ := h1.update keyI Try.underlying86 hN (keyOf_int_mk Try.underlying3 hk) (plainElem_int Try.underlying3 (a := ((ns.countP fun x => x.node == y.node : Nat) + 1 : Int)) (wf_small (by omega) (by omega)))
  refine ⟨w', e1, ⟨_, e2, fun k hkk => ?_⟩, e3⟩
  rw [List.countP_append, List.countP_cons, List.countP_nil]
  by_cases hx : y.node = k
  · subst hx
    rw [atKey_put_same h1.isMap (show WideAt.IsKeyLit (.int .i64 y.node) from trivial), if_pos (by simp)]
    simp
  · rw [atKey_put_other (fun e => hx (Lit.int.inj e).2.symm), h2 k hkk, if_neg (by simpa using hx)]
    simp
end Go.Proofs.Ytnhfpaobocbieaa
