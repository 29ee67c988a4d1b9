/- What the splitter's appends leave. -/
import Derived.Test.YtnongbbhpkmdjaaFldA
namespace Go.Proofs.Ytnongbbhpkmdjaa
open Go.RowKit
set_option linter.unusedVariables false
theorem one_pc (W : World) (p : LB × Bool) : Reads (W.alloc (.cells #[.string ⟨p.1.toArray⟩, .bool p.2, .bool false, .bool false] 35)) (W.heap.size + 1) 4 (some ⟨W.heap.size, 0, none⟩) 1 (pvs (up [p])) := by
  refine ⟨rfl, fun _ => ⟨_, rfl, by simp, ?_⟩⟩
  intro j u hu
  have hb := Blk.new W 35 #[.string ⟨p.1.toArray⟩, .bool p.2, .bool false, .bool false]
  rw [at_add, Nat.zero_add, hb.cell j]
  simp only [pvs, pv, sv, up, up1, List.map_cons, List.map_nil, List.append_nil] at hu
  rw [← hu]
  simp
theorem one_int (W : World) (k : Nat) : Reads (W.alloc (.cells #[.int .i64 (k : Int)] 3)) (W.heap.size + 1) 1 (some ⟨W.heap.size, 0, none⟩) 1 (ivs [k]) := by
  refine ⟨rfl, fun _ => ⟨_, rfl, by simp, ?_⟩⟩
  intro j u hu
  match j with
  | 0 =>
    simp only [ivs, List.map_cons, List.map_nil, List.getElem?_cons_zero, Option.some.injEq] at hu
    subst hu
    rw [add_zero_]
    exact (Blk.new W 3 #[.int .i64 (k : Int)]).cell 0
  | j + 1 => simp [ivs] at hu
theorem one_fd (W : World) (v : Value) : Reads (W.alloc (.cells #[v] 22)) (W.heap.size + 1) 1 (some ⟨W.heap.size, 0, none⟩) 1 [v] := by
  refine ⟨rfl, fun _ => ⟨_, rfl, by simp, ?_⟩⟩
  intro j u hu
  match j with
  | 0 =>
    simp only [List.getElem?_cons_zero, Option.some.injEq] at hu
    subst hu
    rw [add_zero_]
    exact (Blk.new W 22 #[v]).cell 0
  | j + 1 => simp at hu
theorem FdAt.lt {w : World} {a : Addr} {n c : Nat} {f : Fd} (h : FdAt w (.slice (some a) n c) f) (h0 : 0 < n) : a.block < w.heap.size := by
  obtain ⟨A', n', c', e, hn, hc, h⟩ := h
  injection e with e1 e2 e3
  subst e2
  obtain ⟨g, cs, e4, hb, ht⟩ := h h0
  rw [e4] at e1
  injection e1 with e1
  rw [e1]; exact hb.lt
theorem FdRow.lt {w : World} {vs : List Value} {fs : List Fd} (h : FdRow w vs fs) {u : Value} (hu : u ∈ vs) {a : Addr} {n c : Nat} (e : u = .slice (some a) n c) (h0 : 0 < n) : a.block < w.heap.size := by
  obtain ⟨j, hj, rfl⟩ := List.getElem_of_mem hu
  have := h.2 j _ (fs[j]'(by rw [← h.1]; exact hj)) (List.getElem?_eq_getElem hj) (List.getElem?_eq_getElem _)
  rw [e] at this
  exact this.lt h0
theorem Fo.grown_other {B : Nat} {w w' : World} {A : Option Addr} {n c : Nat} {fs : List Fd} {x : Option Nat} (h : Fo B w A n c fs x) {base e size m : Nat} {v : Value} {xs : List Value} (ho : w.ownsRow base e size v m xs) (h1 : 22 ≠ e) (h2 : e ≠ 35) (hg : w.grownBy w' v.ownBlock) : Fo B w' A n c fs x := by
  obtain ⟨vs, a, b, d⟩ := h
  exact ⟨vs, World.ownsRow.kept a hg (own_ne a ho h1), b.keep (K35.grown_other ho h2 hg) (NotInF.none_ b), d⟩
theorem Fo.alloc {B : Nat} {w : World} {A : Option Addr} {n c : Nat} {fs : List Fd} {x : Option Nat} (h : Fo B w A n c fs x) (o : Obj) : Fo B (w.alloc o) A n c fs x := by
  obtain ⟨vs, a, b, d⟩ := h
  exact ⟨vs, World.ownsRow.alloc a o, b.keep ⟨by simp, fun k cs hk _ => hk.alloc o⟩ (NotInF.none_ b), d⟩
section
variable {B : Nat} {w W W2 : World} {g : Nat} {ifs : LB} {s : CS} {h : Hd} {X : Option (Nat × Array Value)}
theorem SS.alloc (H : SS B W g ifs X s h) (o : Obj) : SS B (W.alloc o) g ifs X s h := H.below ((Below.refl _ _).alloc (Nat.le_refl _) o)
theorem SS.km_grown (H : SS B W g ifs X s h) {base e size n : Nat} {v : Value} {xs : List Value} (ho : W.ownsRow base e size v n xs) (hg : W.grownBy W2 v.ownBlock) : KMap W2 h.m h.mn ifs :=
  H.km.kept (hg.block _ H.km.lt (H.km.ne_own ho))
theorem SS.blk_grown (H : SS B W g ifs X s h) {base e size n : Nat} {v : Value} {xs : List Value} (ho : W.ownsRow base e size v n xs) (hne : e ≠ 43) (hg : W.grownBy W2 v.ownBlock) : Blk W2 g 43 (h.cells s) :=
  Blk.grown (h := H.blk) (hb := hg) (Ne.symm (own_blk_ne ho H.blk hne))
/-- A place where a field begins is put behind. -/
theorem SS.growG (H : SS B W g ifs X s h) {v1 : Value} {k : Nat} (h1 : W2.ownsRow B 3 1 v1 (h.ng + 1) (ivs s.begins ++ ivs [k])) (hg : W.grownBy W2 (Value.slice h.G h.ng h.cg).ownBlock) :
    ∃ A c, v1 = .slice A (h.ng + 1) c ∧ Blk W2 g 43 (h.cells s) ∧ SS B (W2.setCell ⟨g, 2, none⟩ v1) g ifs X { s with begins := s.begins ++ [k] } { h with G := A, ng := h.ng + 1, cg := c } := by
  obtain ⟨A, c, rfl⟩ := own_slice h1
  have hb := H.blk_grown H.go (by decide) hg
  refine ⟨A, c, rfl, hb, ?_⟩
  have e1 := H.fo.grown_other H.go (by decide) (by decide) hg
  have e2 : W2.ownsRow B 35 4 (.slice h.P h.np h.cp) h.np (pvs (up s.pieces)) := World.ownsRow.kept H.po hg (own_ne H.po H.go (by decide))
  have e3 : W2.ownsRow B 5 1 (.slice h.T h.nt h.ct) h.nt (bv s.text) := World.ownsRow.kept H.to hg (own_ne H.to H.go (by decide))
  have e4 := H.km_grown H.go hg
  rw [← ivs_append] at h1
  exact ⟨hb.set_ 2 _, e4.kept (Below.heap_setCell W2 ⟨g, 2, none⟩ _ _ (e4.ne hb)), e1.set_ (p := ⟨g, 2, none⟩) hb (by decide) (by decide) _, own_set_blk h1 (p := ⟨g, 2, none⟩) hb (by decide) _, own_set_blk e2 (p := ⟨g, 2, none⟩) hb (by decide) _, own_set_blk e3 (p := ⟨g, 2, none⟩) hb (by decide) _, H.hg, H.hm, (H.ob.keep (K35.grown_other H.go (by decide) hg)).keep (K35.set_ (p := ⟨g, 2, none⟩) hb (by decide) _)⟩
/-- Text is put behind the open piece's. -/
theorem SS.growT (H : SS B W g ifs X s h) {v1 : Value} {k : Nat} {t : LB} (h1 : W2.ownsRow B 5 1 v1 k (bv s.text ++ bv t)) (hg : W.grownBy W2 (Value.slice h.T h.nt h.ct).ownBlock) :
    ∃ A c, v1 = .slice A k c ∧ Blk W2 g 43 (h.cells s) ∧ SS B (W2.setCell ⟨g, 4, none⟩ v1) g ifs X { s with text := s.text ++ t } { h with T := A, nt := k, ct := c } := by
  obtain ⟨A, c, rfl⟩ := own_slice h1
  have hb := H.blk_grown H.to (by decide) hg
  refine ⟨A, c, rfl, hb, ?_⟩
  have e1 := H.fo.grown_other H.to (by decide) (by decide) hg
  have e2 : W2.ownsRow B 35 4 (.slice h.P h.np h.cp) h.np (pvs (up s.pieces)) := World.ownsRow.kept H.po hg (own_ne H.po H.to (by decide))
  have e3 : W2.ownsRow B 3 1 (.slice h.G h.ng h.cg) h.ng (ivs s.begins) := World.ownsRow.kept H.go hg (own_ne H.go H.to (by decide))
  have e4 := H.km_grown H.to hg
  rw [← bv_append] at h1
  exact ⟨hb.set_ 4 _, e4.kept (Below.heap_setCell W2 ⟨g, 4, none⟩ _ _ (e4.ne hb)), e1.set_ (p := ⟨g, 4, none⟩) hb (by decide) (by decide) _, own_set_blk e3 (p := ⟨g, 4, none⟩) hb (by decide) _, own_set_blk e2 (p := ⟨g, 4, none⟩) hb (by decide) _, own_set_blk h1 (p := ⟨g, 4, none⟩) hb (by decide) _, H.hg, H.hm, (H.ob.keep (K35.grown_other H.to (by decide) hg)).keep (K35.set_ (p := ⟨g, 4, none⟩) hb (by decide) _)⟩
/-- A piece is put behind. -/
theorem SS.growP (H : SS B W g ifs X s h) {v1 : Value} {p : LB × Bool} (h1 : W2.ownsRow B 35 4 v1 (h.np + 1) (pvs (up s.pieces) ++ pvs (up [p]))) (hg : W.grownBy W2 (Value.slice h.P h.np h.cp).ownBlock) (hat : v1.ownBlock = (Value.slice h.P h.np h.cp).ownBlock ∨ v1.ownBlock = some W.heap.size) :
    ∃ A c, v1 = .slice A (h.np + 1) c ∧ Blk W2 g 43 (h.cells s) ∧ SS B (W2.setCell ⟨g, 3, none⟩ v1) g ifs X { s with pieces := s.pieces ++ [p] } { h with P := A, np := h.np + 1, cp := c } := by
  obtain ⟨A, c, rfl⟩ := own_slice h1
  have hb := H.blk_grown H.po (by decide) hg
  refine ⟨A, c, rfl, hb, ?_⟩
  have e1 : Fo B W2 h.F h.nf h.cf s.fields (Value.slice A (h.np + 1) c).ownBlock := by
    obtain ⟨vs, a, b, d⟩ := H.fo
    refine ⟨vs, World.ownsRow.kept a hg (own_ne a H.po (by decide)), b.keep (K35.grown hg) d, ?_⟩
    rcases hat with e | e
    · rw [e]; exact d
    · rw [e]
      intro u hu x n c e2 h0 he
      have := b.lt hu e2 h0
      injection he with he
      omega
  have e2 : W2.ownsRow B 3 1 (.slice h.G h.ng h.cg) h.ng (ivs s.begins) := World.ownsRow.kept H.go hg (own_ne H.go H.po (by decide))
  have e3 : W2.ownsRow B 5 1 (.slice h.T h.nt h.ct) h.nt (bv s.text) := World.ownsRow.kept H.to hg (own_ne H.to H.po (by decide))
  have e4 := H.km_grown H.po hg
  have e5 : Ob W2 (.slice A (h.np + 1) c) X := by
    intro x cs e
    obtain ⟨o1, o2⟩ := H.ob x cs e
    refine ⟨o1.grown hg o2, ?_⟩
    rcases hat with e6 | e6
    · rw [e6]; exact o2
    · rw [e6]
      have := o1.lt
      intro he
      injection he with he
      omega
  rw [← pvs_append, ← up_append] at h1
  exact ⟨hb.set_ 3 _, e4.kept (Below.heap_setCell W2 ⟨g, 3, none⟩ _ _ (e4.ne hb)), e1.set_ (p := ⟨g, 3, none⟩) hb (by decide) (by decide) _, own_set_blk e2 (p := ⟨g, 3, none⟩) hb (by decide) _, own_set_blk h1 (p := ⟨g, 3, none⟩) hb (by decide) _, own_set_blk e3 (p := ⟨g, 3, none⟩) hb (by decide) _, H.hg, H.hm, e5.keep (K35.set_ (p := ⟨g, 3, none⟩) hb (by decide) _)⟩
theorem Po.fd (H : Po B W h.P h.np h.cp s.pieces) : FdAt W (.slice h.P h.np h.np) s.pieces := by
  refine ⟨h.P, h.np, h.np, rfl, H.len.symm, Nat.le_refl _, fun h0 => ?_⟩
  obtain ⟨g, cap, cur, e, hb, hh, hnc, hmx, hsz, htk⟩ := H.2.resolve_left (fun ⟨e, _⟩ => by injection e with e1 e2 e3; omega)
  injection e with e1 e2 e3
  exact ⟨g, cur, e1, hh, htk⟩
/-- The open field is put behind; the pieces are let go. -/
theorem SS.growF (H : SS B W g ifs X s h) {v1 : Value} (h1 : ∀ vs, W.ownsRow B 22 1 (.slice h.F h.nf h.cf) h.nf vs → W2.ownsRow B 22 1 v1 (h.nf + 1) (vs ++ [.slice h.P h.np h.np])) (hg : W.grownBy W2 (Value.slice h.F h.nf h.cf).ownBlock) :
    ∃ A c, v1 = .slice A (h.nf + 1) c ∧ Blk W2 g 43 (h.cells s) ∧ SS B (((W2.setCell ⟨g, 1, none⟩ v1).setCell ⟨g, 3, none⟩ (.slice none 0 0)).setCell ⟨g, 5, none⟩ (.bool false)) g ifs X { s with fields := s.fields ++ [s.pieces], pieces := [], op := false } { h with F := A, nf := h.nf + 1, cf := c, P := none, np := 0, cp := 0 } := by
  obtain ⟨vs, a, b, d⟩ := H.fo
  have h1 := h1 vs a
  obtain ⟨A, c, rfl⟩ := own_slice h1
  have hb := H.blk_grown a (by decide) hg
  refine ⟨A, c, rfl, hb, ?_⟩
  have hk := K35.grown_other a (by decide) hg
  have hfd := (Po.fd H.po).keep hk (fun a n c e h0 => by simp)
  have e1 : Fo B W2 A (h.nf + 1) c (s.fields ++ [s.pieces]) none := ⟨vs ++ [.slice h.P h.np h.np], h1, (b.keep hk (NotInF.none_ b)).snoc hfd, fun u hu a n c e h0 => by simp⟩
  have e2 : W2.ownsRow B 3 1 (.slice h.G h.ng h.cg) h.ng (ivs s.begins) := World.ownsRow.kept H.go hg (own_ne H.go a (by decide))
  have e3 : W2.ownsRow B 5 1 (.slice h.T h.nt h.ct) h.nt (bv s.text) := World.ownsRow.kept H.to hg (own_ne H.to a (by decide))
  have e4 := H.km_grown a hg
  have b1 := hb.set_ 1 (.slice A (h.nf + 1) c)
  have b2 := b1.set_ 3 (.slice none 0 0)
  have b3 := b2.set_ 5 (.bool false)
  have m1 := e4.kept (Below.heap_setCell W2 ⟨g, 1, none⟩ (.slice A (h.nf + 1) c) _ (e4.ne hb))
  have m2 := m1.kept (Below.heap_setCell _ ⟨g, 3, none⟩ (.slice none 0 0) _ (m1.ne b1))
  have m3 := m2.kept (Below.heap_setCell _ ⟨g, 5, none⟩ (.bool false) _ (m2.ne b2))
  exact ⟨b3, m3, ((e1.set_ (p := ⟨g, 1, none⟩) hb (by decide) (by decide) _).set_ (p := ⟨g, 3, none⟩) b1 (by decide) (by decide) _).set_ (p := ⟨g, 5, none⟩) b2 (by decide) (by decide) _,
    own_set_blk (own_set_blk (own_set_blk e2 (p := ⟨g, 1, none⟩) hb (by decide) _) (p := ⟨g, 3, none⟩) b1 (by decide) _) (p := ⟨g, 5, none⟩) b2 (by decide) _,
    World.ownsRow_nil _ _ _ _,
    own_set_blk (own_set_blk (own_set_blk e3 (p := ⟨g, 1, none⟩) hb (by decide) _) (p := ⟨g, 3, none⟩) b1 (by decide) _) (p := ⟨g, 5, none⟩) b2 (by decide) _, H.hg, H.hm,
    ((((H.ob.keep hk).nil).keep (K35.set_ (p := ⟨g, 1, none⟩) hb (by decide) _)).keep (K35.set_ (p := ⟨g, 3, none⟩) b1 (by decide) _)).keep (K35.set_ (p := ⟨g, 5, none⟩) b2 (by decide) _)⟩
theorem below_grow {B e size n : Nat} {w W W2 : World} {v : Value} {xs : List Value} {o : Obj} (hb : Below B w W) (hB : B ≤ W.heap.size) (ho : W.ownsRow B e size v n xs) (hg : (W.alloc o).grownBy W2 v.ownBlock) : Below B w W2 :=
  Below.grown (h := hb.alloc hB o) (hg := hg) (by simp; omega) (fun q hq => (World.ownsRow.lt ho q hq).1)
theorem below_grow0 {B e size n : Nat} {w W W2 : World} {v : Value} {xs : List Value} (hb : Below B w W) (hB : B ≤ W.heap.size) (ho : W.ownsRow B e size v n xs) (hg : W.grownBy W2 v.ownBlock) : Below B w W2 :=
  Below.grown (h := hb) (hg := hg) hB (fun q hq => (World.ownsRow.lt ho q hq).1)
theorem SS.lt (H : SS B W g ifs X s h) : g < W.heap.size := H.blk.lt
end
end Go.Proofs.Ytnongbbhpkmdjaa
