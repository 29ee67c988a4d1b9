/- The parser in memory; contracts of tok, need, value. -/
import Derived.Test.YtglgldmofibedaaGreatDoorArF
import Derived.Test.YtglgldmofibedaaGreatDoorPgN
import Derived.Deep.QuietTactic
namespace Go.Proofs.YtglgldmofibedaaGreatDoor
open Go.RowKit
set_option linter.unusedVariables false
theorem Blk.four_ {w : World} {g : Nat} {t : TypeId} {x y z u : Value} (h : Blk w g t #[x, y, z, u]) :
    (w.cell? ⟨g, 0, none⟩ = some x ∧ w.cell? ⟨g, 1, none⟩ = some y ∧ w.cell? ⟨g, 2, none⟩ = some z ∧ w.cell? ⟨g, 3, none⟩ = some u) ∧ w.frozen? ⟨g, 0, none⟩ = false ∧ w.frozen? ⟨g, 1, none⟩ = false ∧ w.frozen? ⟨g, 2, none⟩ = false ∧ w.frozen? ⟨g, 3, none⟩ = false :=
  ⟨⟨h.cell 0, h.cell 1, h.cell 2, h.cell 3⟩, h.frozen 0, h.frozen 1, h.frozen 2, h.frozen 3⟩
/-- What is as it was: every block but the parser's. -/
def Kb (p : Nat) (w w' : World) : Prop := Below p w w' ∧ ∀ b, p < b → b < w.heap.size → w'.heap[b]? = w.heap[b]?
theorem Kb.refl (p : Nat) (w : World) : Kb p w w := ⟨Below.refl _ _, fun _ _ _ => rfl⟩
theorem Kb.trans {p : Nat} {a b c : World} (h : Kb p a b) (k : Kb p b c) : Kb p a c :=
  ⟨h.1.trans k.1, fun x hx hl => (k.2 x hx (by have := h.1.size; omega)).trans (h.2 x hx hl)⟩
theorem Kb.of {p : Nat} {w w' : World} (h : Below w.heap.size w w') (hp : p ≤ w.heap.size) : Kb p w w' := ⟨h.mono hp, fun b _ hl => h.block b hl⟩
theorem Kb.drewN {p : Nat} {a w : World} (h : Kb p a w) (m : Nat) : Kb p a (w.drewN m) := ⟨⟨h.1.os, h.1.tape, h.1.output, h.1.size, h.1.block⟩, h.2⟩
theorem Kb.set {p : Nat} {a w : World} (h : Kb p a w) (hp : p < w.heap.size) (i : Nat) (u : Value) : Kb p a (w.setCell ⟨p, i, none⟩ u) := by
  refine ⟨h.1.setCell (p := ⟨p, i, none⟩) (Nat.le_refl _) u, fun b hb hl => ?_⟩
  rw [Below.heap_setCell w ⟨p, i, none⟩ u b (by show b ≠ p; omega)]
  exact h.2 b hb hl
/-- The levels' rows. -/
def StdL (w : World) : Prop := ∀ j (hj : j < 10), ∃ A n c, w.cell? ⟨2, j, none⟩ = some (.slice A n c) ∧ Reads w w.heap.size 1 A n (svs (lvls[j]'hj))
theorem StdL.below {w w' : World} (h : StdL w) (hb : Below w.heap.size w w') : StdL w' := fun j hj => by
  obtain ⟨A, n, c, h1, h2⟩ := h j hj
  exact ⟨A, n, c, (hb.cell (World.block_lt_of_cell? w _ h1)).trans h1, (h2.below hb).more hb.size⟩
/-- What stays as it is while an expression is read. -/
structure Cx (W0 : World) (p : Nat) (A : Option Addr) (n c : Nat) (T : List Tok) (Va : Option Addr) (vn vc : Nat) (V : List Tok) : Prop where
  hp : W0.heap.size ≤ p
  toks : Reads W0 W0.heap.size 1 A n (svs T)
  vars : Reads W0 W0.heap.size 1 Va vn (svs V)
  std : Std W0
  lev : StdL W0
  tl : T.length ≤ 1000
  ts : ∀ t ∈ T, t.length ≤ 1000
  vl : V.length ≤ 1000
  vs : ∀ v ∈ V, v.length ≤ 1000
/-- The parser as it is. -/
structure Pa (W0 : World) (p : Nat) (A : Option Addr) (n c : Nat) (Va : Option Addr) (vn vc : Nat) (w : World) (a : Nat) (z : Bool) : Prop where
  bel : Below p W0 w
  blk : Blk w p 44 #[.slice A n c, .int .i64 (a : Int), .slice Va vn vc, .bool z]
section
variable {W0 : World} {p : Nat} {A : Option Addr} {n c : Nat} {T : List Tok} {Va : Option Addr} {vn vc : Nat} {V : List Tok}
theorem Cx.at_ (C : Cx W0 p A n c T Va vn vc V) {w : World} (h : Below p W0 w) : Below W0.heap.size W0 w := h.mono C.hp
theorem Pa.keep {w w' : World} {a : Nat} {z : Bool} (h : Pa W0 p A n c Va vn vc w a z) (hb : Below w.heap.size w w') : Pa W0 p A n c Va vn vc w' a z :=
  ⟨h.bel.trans (hb.mono (Nat.le_of_lt h.blk.lt)), h.blk.below hb h.blk.lt⟩
theorem Pa.drewN {w : World} {a : Nat} {z : Bool} (h : Pa W0 p A n c Va vn vc w a z) (m : Nat) : Pa W0 p A n c Va vn vc (w.drewN m) a z :=
  ⟨⟨h.bel.os, h.bel.tape, h.bel.output, h.bel.size, h.bel.block⟩, h.blk⟩
theorem Pa.step {w : World} {a : Nat} {z : Bool} (h : Pa W0 p A n c Va vn vc w a z) {i : Int} (b : Nat) (hi : i = (b : Int)) : Pa W0 p A n c Va vn vc (w.setCell ⟨p, 1, none⟩ (.int .i64 i)) b z :=
  ⟨h.bel.setCell (p := ⟨p, 1, none⟩) (Nat.le_refl _) _, by subst hi; exact h.blk.set_ 1 _⟩
theorem Pa.flag {w : World} {a : Nat} {z : Bool} (h : Pa W0 p A n c Va vn vc w a z) (y : Bool) : Pa W0 p A n c Va vn vc (w.setCell ⟨p, 3, none⟩ (.bool y)) a y :=
  ⟨h.bel.setCell (p := ⟨p, 3, none⟩) (Nat.le_refl _) _, h.blk.set_ 3 _⟩
theorem hd_drop (T : List Tok) (a : Nat) (h : a < T.length) : hd (T.drop a) = T[a] := by
  rw [List.drop_eq_getElem_cons h]; rfl
theorem hd_none (T : List Tok) (a : Nat) (h : T.length ≤ a) : hd (T.drop a) = [] := by
  rw [List.drop_of_length_le h]; rfl
set_option maxRecDepth 100000 in
set_option maxHeartbeats 2000000 in
theorem ptok_any (C : Cx W0 p A n c T Va vn vc V) (w : World) (a : Nat) (z : Bool) (h : Pa W0 p A n c Va vn vc w a z) (ha : a ≤ T.length) :
    Calls Tryz.prog 44 #[.pointer (some ⟨p, 0, none⟩)] w fun e w' => e = .returned (.string ⟨(hd (T.drop a)).toArray⟩) ∧ ∃ m, w' = w.drewN m := by
  have hT := (C.toks.below (C.at_ h.bel))
  have hn := rd_len hT
  have tl := C.tl
  obtain ⟨⟨c0, c1, c2, c3⟩, _⟩ := h.blk.four_
  by_cases hlt : a < T.length
  · obtain ⟨g, o, rfl, hg, hc⟩ := rd_cells hT (by omega)
    have hck := hc a hlt
    have hia := fun W => str_at g o n c a (a : Int) rfl (by omega) W
    have HE := hide (hd_drop T a hlt)
    have hlt' : (a : Int) < (n : Int) := by omega
    clear hc hT h C
    generalize T[a] = x at *
    generalize hd (T.drop a) = y at *
    go_enter Tryz.func44, Tryz.ntmps44
    go_wp2_with fail
    go_quiet (fail)
    go_wp2_with fail
    go_quiet (fail)
    go_wp2_with fail
    go_ret
    exact ⟨by rw [HE.out]; rfl, _, by simp [World.drewN, Nat.add_assoc]; rfl⟩
  · have HE := hide (hd_none T a (by omega))
    have hlt' : ¬ (a : Int) < (n : Int) := by omega
    clear hT h C
    generalize hd (T.drop a) = y at *
    go_enter Tryz.func44, Tryz.ntmps44
    go_wp2_with fail
    go_quiet (fail)
    go_wp2_with fail
    go_ret
    exact ⟨by rw [HE.out]; rfl, _, rfl⟩
end
end Go.Proofs.YtglgldmofibedaaGreatDoor
