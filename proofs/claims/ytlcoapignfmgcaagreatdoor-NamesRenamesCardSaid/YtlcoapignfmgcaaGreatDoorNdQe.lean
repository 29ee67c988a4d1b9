/- Four rows of the document's walk in memory. -/
import Derived.Test.YtlcoapignfmgcaaGreatDoorGs
namespace Go.Proofs.YtlcoapignfmgcaaGreatDoor
open Go
open Go.RowKit
set_option linter.unusedVariables false
theorem own_grown {w w' : World} {B : Nat} {t : TypeId} {size n : Nat} {v : Value} {xs : List Value} {row : Option Nat} (h : w.ownsRow B t size v n xs) (hg : w.grownBy w' row) (hne : ∀ g, v.ownBlock = some g → some g ≠ row) : w'.ownsRow B t size v n xs := by
  refine ⟨h.1, ?_⟩
  rcases h.2 with h0 | ⟨g, cap, cur, e, hb, hh, r⟩
  · exact .inl h0
  · exact .inr ⟨g, cap, cur, e, hb, (hg.block g (Blk.lt hh) (hne g (by rw [e]; rfl))).trans hh, r⟩
theorem own_apart {w : World} {B C : Nat} {t u : TypeId} {s s' n m : Nat} {v v' : Value} {xs ys : List Value} (h : w.ownsRow B t s v n xs) (k : w.ownsRow C u s' v' m ys) (hne : t ≠ u) {g : Nat} (e1 : v.ownBlock = some g) : some g ≠ v'.ownBlock := by
  intro e2
  rcases h.2 with ⟨h0, _⟩ | ⟨g1, cap1, cur1, a1, _, hh1, _⟩
  · rw [h0] at e1; cases e1
  · rcases k.2 with ⟨h0, _⟩ | ⟨g2, cap2, cur2, a2, _, hh2, _⟩
    · rw [h0] at e2; cases e2
    · rw [a1] at e1
      rw [a2] at e2
      simp only [Value.ownBlock, Option.some.injEq] at e1 e2
      subst e1; subst e2
      exact absurd rfl (Blk.ne_ hh1 hh2 hne)

theorem iv_one (zs : List Int) : ∀ u ∈ iv zs, u.oneCell' = true := by
  intro u hu
  unfold iv at hu
  obtain ⟨b, _, rfl⟩ := List.mem_map.1 hu
  rfl
theorem iv_append (a b : List Int) : iv (a ++ b) = iv a ++ iv b := by simp [iv]
/-- The box of a walk and its four rows. -/
structure WR (B gw : Nat) (F d1 d2 d3 d4 v1 v2 v3 v4 : Value) (m1 m2 m3 m4 : Nat) (x1 : List Int) (x2 x3 : List Bs) (x4 : List Int) (V : World) : Prop where
  box : Blk V gw 113 #[F, d1, d2, d3, d4]
  r1 : V.ownsRow B 3 1 v1 m1 (iv x1)
  r2 : V.ownsRow B 9 1 v2 m2 (svs x2)
  r3 : V.ownsRow B 9 1 v3 m3 (svs x3)
  r4 : V.ownsRow B 3 1 v4 m4 (iv x4)
  n14 : ∀ b, v1.ownBlock = some b → v4.ownBlock ≠ some b
  n23 : ∀ b, v2.ownBlock = some b → v3.ownBlock ≠ some b
  sz : B ≤ V.heap.size
section
variable {B gw : Nat} {F d1 d2 d3 d4 v1 v2 v3 v4 : Value} {m1 m2 m3 m4 : Nat} {x1 : List Int} {x2 x3 : List Bs} {x4 : List Int} {V V' : World}
theorem WR.below (h : WR B gw F d1 d2 d3 d4 v1 v2 v3 v4 m1 m2 m3 m4 x1 x2 x3 x4 V) (hb : Below V.heap.size V V') : WR B gw F d1 d2 d3 d4 v1 v2 v3 v4 m1 m2 m3 m4 x1 x2 x3 x4 V' :=
  ⟨h.box.below hb h.box.lt, own_below h.r1 hb, own_below h.r2 hb, own_below h.r3 hb, own_below h.r4 hb, h.n14, h.n23, Nat.le_trans h.sz hb.size⟩
theorem WR.app1 (h : WR B gw F d1 d2 d3 d4 v1 v2 v3 v4 m1 m2 m3 m4 x1 x2 x3 x4 V) {v : Value} {m : Nat} {x : List Int} (ho : V'.ownsRow B 3 1 v m (iv x)) (hg : V.grownBy V' v1.ownBlock) (ha : v.ownBlock = v1.ownBlock ∨ v.ownBlock = some V.heap.size) :
    WR B gw F d1 d2 d3 d4 v v2 v3 v4 m m2 m3 m4 x x2 x3 x4 V' := by
  refine ⟨h.box.grown hg (own_blk_ne h.r1 h.box (by decide)).symm, ho, own_grown h.r2 hg (fun g e => own_apart h.r2 h.r1 (by decide) e), own_grown h.r3 hg (fun g e => own_apart h.r3 h.r1 (by decide) e), own_grown h.r4 hg (fun g e e2 => h.n14 g e2.symm e), fun b hb h4 => ?_, h.n23, Nat.le_trans h.sz hg.size⟩
  rcases ha with e | e
  · exact h.n14 b (by rw [← e]; exact hb) h4
  · rw [hb] at e
    injection e with e
    have := (World.ownsRow.lt h.r4 b h4).2
    omega
theorem WR.app4 (h : WR B gw F d1 d2 d3 d4 v1 v2 v3 v4 m1 m2 m3 m4 x1 x2 x3 x4 V) {v : Value} {m : Nat} {x : List Int} (ho : V'.ownsRow B 3 1 v m (iv x)) (hg : V.grownBy V' v4.ownBlock) (ha : v.ownBlock = v4.ownBlock ∨ v.ownBlock = some V.heap.size) :
    WR B gw F d1 d2 d3 d4 v1 v2 v3 v m1 m2 m3 m x1 x2 x3 x V' := by
  refine ⟨h.box.grown hg (own_blk_ne h.r4 h.box (by decide)).symm, own_grown h.r1 hg (fun g e e2 => h.n14 g e e2.symm), own_grown h.r2 hg (fun g e => own_apart h.r2 h.r4 (by decide) e), own_grown h.r3 hg (fun g e => own_apart h.r3 h.r4 (by decide) e), ho, fun b hb h4 => ?_, h.n23, Nat.le_trans h.sz hg.size⟩
  rcases ha with e | e
  · exact h.n14 b hb (by rw [← e]; exact h4)
  · rw [h4] at e
    injection e with e
    have := (World.ownsRow.lt h.r1 b hb).2
    omega
theorem WR.app2 (h : WR B gw F d1 d2 d3 d4 v1 v2 v3 v4 m1 m2 m3 m4 x1 x2 x3 x4 V) {v : Value} {m : Nat} {x : List Bs} (ho : V'.ownsRow B 9 1 v m (svs x)) (hg : V.grownBy V' v2.ownBlock) (ha : v.ownBlock = v2.ownBlock ∨ v.ownBlock = some V.heap.size) :
    WR B gw F d1 d2 d3 d4 v1 v v3 v4 m1 m m3 m4 x1 x x3 x4 V' := by
  refine ⟨h.box.grown hg (own_blk_ne h.r2 h.box (by decide)).symm, own_grown h.r1 hg (fun g e => own_apart h.r1 h.r2 (by decide) e), ho, own_grown h.r3 hg (fun g e e2 => h.n23 g e2.symm e), own_grown h.r4 hg (fun g e => own_apart h.r4 h.r2 (by decide) e), h.n14, fun b hb h3 => ?_, Nat.le_trans h.sz hg.size⟩
  rcases ha with e | e
  · exact h.n23 b (by rw [← e]; exact hb) h3
  · rw [hb] at e
    injection e with e
    have := (World.ownsRow.lt h.r3 b h3).2
    omega
theorem WR.app3 (h : WR B gw F d1 d2 d3 d4 v1 v2 v3 v4 m1 m2 m3 m4 x1 x2 x3 x4 V) {v : Value} {m : Nat} {x : List Bs} (ho : V'.ownsRow B 9 1 v m (svs x)) (hg : V.grownBy V' v3.ownBlock) (ha : v.ownBlock = v3.ownBlock ∨ v.ownBlock = some V.heap.size) :
    WR B gw F d1 d2 d3 d4 v1 v2 v v4 m1 m2 m m4 x1 x2 x x4 V' := by
  refine ⟨h.box.grown hg (own_blk_ne h.r3 h.box (by decide)).symm, own_grown h.r1 hg (fun g e => own_apart h.r1 h.r3 (by decide) e), own_grown h.r2 hg (fun g e e2 => h.n23 g e e2.symm), ho, own_grown h.r4 hg (fun g e => own_apart h.r4 h.r3 (by decide) e), h.n14, fun b hb h3 => ?_, Nat.le_trans h.sz hg.size⟩
  rcases ha with e | e
  · exact h.n23 b hb (by rw [← e]; exact h3)
  · rw [h3] at e
    injection e with e
    have := (World.ownsRow.lt h.r2 b hb).2
    omega
theorem WR.sto (h : WR B gw F d1 d2 d3 d4 v1 v2 v3 v4 m1 m2 m3 m4 x1 x2 x3 x4 V) (k : Nat) (u : Value) {e1 e2 e3 e4 : Value} (hc : (#[F, d1, d2, d3, d4] : Array Value).setIfInBounds k u = #[F, e1, e2, e3, e4]) :
    WR B gw F e1 e2 e3 e4 v1 v2 v3 v4 m1 m2 m3 m4 x1 x2 x3 x4 (V.setCell ⟨gw, k, none⟩ u) :=
  ⟨by rw [← hc]; exact h.box.set_ k u, own_set_blk h.r1 (p := ⟨gw, k, none⟩) h.box (by decide) u, own_set_blk h.r2 (p := ⟨gw, k, none⟩) h.box (by decide) u, own_set_blk h.r3 (p := ⟨gw, k, none⟩) h.box (by decide) u, own_set_blk h.r4 (p := ⟨gw, k, none⟩) h.box (by decide) u, h.n14, h.n23, by simpa using h.sz⟩
theorem WR.grow {B0 : Nat} {W : World} {row : Value} {t : TypeId} {n : Nat} {xs : List Value} (ho : V.ownsRow B t 1 row n xs) (hW : Below B0 W V) (hg : V.grownBy V' row.ownBlock) (h0 : B0 ≤ B) (hs : B ≤ V.heap.size) : Below B0 W V' :=
  hW.grown hg (by omega) (fun g hg => by have := (World.ownsRow.lt ho g hg).1; omega)
end
/-- The same, where the box holds the rows. -/
def WS (B gw : Nat) (F : Value) (m1 m2 m3 m4 : Nat) (x1 : List Int) (x2 x3 : List Bs) (x4 : List Int) (V : World) : Prop :=
  ∃ A1 c1 A2 c2 A3 c3 A4 c4, WR B gw F (.slice A1 m1 c1) (.slice A2 m2 c2) (.slice A3 m3 c3) (.slice A4 m4 c4) (.slice A1 m1 c1) (.slice A2 m2 c2) (.slice A3 m3 c3) (.slice A4 m4 c4) m1 m2 m3 m4 x1 x2 x3 x4 V
theorem WS.below {B gw : Nat} {F : Value} {m1 m2 m3 m4 : Nat} {x1 : List Int} {x2 x3 : List Bs} {x4 : List Int} {V V' : World} (h : WS B gw F m1 m2 m3 m4 x1 x2 x3 x4 V) (hb : Below V.heap.size V V') : WS B gw F m1 m2 m3 m4 x1 x2 x3 x4 V' := by
  obtain ⟨A1, c1, A2, c2, A3, c3, A4, c4, h⟩ := h
  exact ⟨A1, c1, A2, c2, A3, c3, A4, c4, h.below hb⟩
end Go.Proofs.YtlcoapignfmgcaaGreatDoor
