/- Nodes in memory. -/
import Derived.Test.YtnhfpaobocbieaaMore
import Derived.Test.YtnhfpaobocbieaaNdM
namespace Go.Proofs.Ytnhfpaobocbieaa
open Go.RowKit
set_option linter.unusedVariables false
/-- Names' cells. -/
def ncs : List NM → List Value
  | [] => []
  | x :: l => [.string ⟨x.name.toArray⟩, .int .i64 x.node] ++ ncs l
theorem ncs_length (l : List NM) : (ncs l).length = l.length * 2 := by
  induction l with
  | nil => rfl
  | cons x l ih => rw [ncs, List.length_append, ih, List.length_cons]; simp; omega
theorem ncs_append (a b : List NM) : ncs (a ++ b) = ncs a ++ ncs b := by
  induction a with
  | nil => rfl
  | cons x l ih => simp [ncs, ih]
theorem ncs_at : ∀ (l : List NM) (k j : Nat) (h : k < l.length), j < 2 → (ncs l)[k * 2 + j]? = ([Value.string ⟨l[k].name.toArray⟩, .int .i64 l[k].node] : List Value)[j]?
  | x :: l, 0, j, h, hj => by
    simp only [ncs, Nat.zero_mul, Nat.zero_add]
    rw [List.getElem?_append_left (by simp; omega)]
    rfl
  | x :: l, k + 1, j, h, hj => by
    simp only [ncs]
    rw [List.getElem?_append_right (by simp; omega)]
    have := ncs_at l k j (by simpa using h) hj
    rw [show (k + 1) * 2 + j - ([Value.string ⟨x.name.toArray⟩, .int .i64 x.node] : List Value).length = k * 2 + j by simp; omega, this]
    rfl
/-- A node as it lies in memory. -/
structure DV where
  r : ND
  D : Option Addr
  dn : Nat
  dc : Nat
  M : Option Addr
  mn : Nat
  mc : Nat
def DV.cs (x : DV) : List Value := [.int .i64 x.r.kind, .int .i64 x.r.mode, .int .i64 x.r.links, .slice x.D x.dn x.dc, .slice x.M x.mn x.mc, .string ⟨x.r.to.toArray⟩]
def dcs : List DV → List Value
  | [] => []
  | x :: l => x.cs ++ dcs l
theorem DV.cs_length (x : DV) : x.cs.length = 6 := rfl
theorem dcs_length (l : List DV) : (dcs l).length = l.length * 6 := by
  induction l with
  | nil => rfl
  | cons x l ih => rw [dcs, List.length_append, ih, DV.cs_length, List.length_cons]; omega
theorem dcs_append (a b : List DV) : dcs (a ++ b) = dcs a ++ dcs b := by
  induction a with
  | nil => rfl
  | cons x l ih => simp [dcs, ih]
theorem dcs_at : ∀ (l : List DV) (k j : Nat) (h : k < l.length), j < 6 → (dcs l)[k * 6 + j]? = (l[k].cs)[j]?
  | x :: l, 0, j, h, hj => by
    simp only [dcs, Nat.zero_mul, Nat.zero_add]
    rw [List.getElem?_append_left (by rw [DV.cs_length]; omega)]
    rfl
  | x :: l, k + 1, j, h, hj => by
    simp only [dcs]
    rw [List.getElem?_append_right (by rw [DV.cs_length]; omega)]
    have := dcs_at l k j (by simpa using h) hj
    rw [DV.cs_length, show (k + 1) * 6 + j - 6 = k * 6 + j by omega, this]
    rfl
/-- What a node points to can be read. -/
structure DVok (w : World) (B : Nat) (x : DV) : Prop where
  d : Reads w B 1 x.D x.dn (bv x.r.data)
  n : Reads w B 2 x.M x.mn (ncs x.r.names)
theorem DVok.below {w w' : World} {B : Nat} {x : DV} (h : DVok w B x) (hb : Below B w w') : DVok w' B x := ⟨h.d.below hb, h.n.below hb⟩
theorem DVok.more {w : World} {B C : Nat} {x : DV} (h : DVok w B x) (hb : B ≤ C) : DVok w C x := ⟨h.d.more hb, h.n.more hb⟩
theorem DVok.dl {w : World} {B : Nat} {x : DV} (h : DVok w B x) : x.r.data.length = x.dn := by have := h.d.1; simpa [bv] using this
theorem DVok.nl {w : World} {B : Nat} {x : DV} (h : DVok w B x) : x.r.names.length = x.mn := by have := h.n.1; rw [ncs_length] at this; omega
/-- A file system that can be read. -/
structure FsR (w : World) (B : Nat) (L : Option Addr) (n : Nat) (l : List DV) : Prop where
  rd : Reads w B 6 L n (dcs l)
  ok : ∀ x ∈ l, DVok w B x
theorem FsR.len {w : World} {B : Nat} {L : Option Addr} {n : Nat} {l : List DV} (h : FsR w B L n l) : l.length = n := by have := h.rd.1; rw [dcs_length] at this; omega
theorem FsR.below {w w' : World} {B : Nat} {L : Option Addr} {n : Nat} {l : List DV} (h : FsR w B L n l) (hb : Below B w w') : FsR w' B L n l := ⟨h.rd.below hb, fun x hx => (h.ok x hx).below hb⟩
theorem FsR.more {w : World} {B C : Nat} {L : Option Addr} {n : Nat} {l : List DV} (h : FsR w B L n l) (hb : B ≤ C) : FsR w C L n l := ⟨h.rd.more hb, fun x hx => (h.ok x hx).more hb⟩
theorem cells_of {w : World} {B size n : Nat} {A : Option Addr} {xs : List Value} (h : Reads w B size A n xs) (h0 : 0 < n) (hx : 0 < xs.length) : ∃ g o, A = some ⟨g, o, none⟩ ∧ g < B ∧ ∀ j u, xs[j]? = some u → w.cell? ⟨g, o + j, none⟩ = some u := by
  obtain ⟨ad, rfl, hb, hc⟩ := h.2 h0
  have h00 := hc 0 xs[0] (List.getElem?_eq_getElem hx)
  rw [add_zero_] at h00
  have hs : ad = ⟨ad.block, ad.off, none⟩ := by
    obtain ⟨b, o, s⟩ := ad
    cases s with
    | none => rfl
    | some x =>
      unfold World.cell? at h00
      split at h00 <;> simp at h00
  refine ⟨ad.block, ad.off, by rw [← hs], hb, fun j u hj => ?_⟩
  have := hc j u hj
  rw [hs, at_add] at this
  exact this

/-- The six cells of a node. -/
def NdCells (V : World) (g o k : Nat) (x : DV) : Prop := V.cell? ⟨g, o + k * 6, none⟩ = some (.int .i64 x.r.kind) ∧ V.cell? ⟨g, o + k * 6 + 1, none⟩ = some (.int .i64 x.r.mode) ∧ V.cell? ⟨g, o + k * 6 + 2, none⟩ = some (.int .i64 x.r.links) ∧
      V.cell? ⟨g, o + k * 6 + 3, none⟩ = some (.slice x.D x.dn x.dc) ∧ V.cell? ⟨g, o + k * 6 + 4, none⟩ = some (.slice x.M x.mn x.mc) ∧ V.cell? ⟨g, o + k * 6 + 5, none⟩ = some (.string ⟨x.r.to.toArray⟩)
theorem FsR.at_ {w : World} {B : Nat} {L : Option Addr} {n : Nat} {l : List DV} (h : FsR w B L n l) {k : Nat} (hk : k < n) :
    ∃ (g o : Nat) (x : DV), L = some ⟨g, o, none⟩ ∧ g < B ∧ l[k]? = some x ∧ DVok w B x ∧ NdCells w g o k x := by
  have hl := h.len
  have hkl : k < l.length := by omega
  obtain ⟨g, o, rfl, hg, hc⟩ := cells_of h.rd (by omega) (by rw [dcs_length]; omega)
  refine ⟨g, o, l[k], rfl, hg, List.getElem?_eq_getElem hkl, h.ok _ (List.getElem_mem _), ?_, ?_, ?_, ?_, ?_, ?_⟩
  · exact hc (k * 6 + 0) _ (dcs_at l k 0 hkl (by omega))
  · exact hc (k * 6 + 1) _ (dcs_at l k 1 hkl (by omega))
  · exact hc (k * 6 + 2) _ (dcs_at l k 2 hkl (by omega))
  · exact hc (k * 6 + 3) _ (dcs_at l k 3 hkl (by omega))
  · exact hc (k * 6 + 4) _ (dcs_at l k 4 hkl (by omega))
  · exact hc (k * 6 + 5) _ (dcs_at l k 5 hkl (by omega))
theorem NdCells.below {w w' : World} {B g o k : Nat} {x : DV} (h : NdCells w g o k x) (hg : g < B) (hb : Below B w w') : NdCells w' g o k x :=
  ⟨(hb.cell (p := ⟨g, o + k * 6, none⟩) hg).trans h.1, (hb.cell (p := ⟨g, o + k * 6 + 1, none⟩) hg).trans h.2.1, (hb.cell (p := ⟨g, o + k * 6 + 2, none⟩) hg).trans h.2.2.1, (hb.cell (p := ⟨g, o + k * 6 + 3, none⟩) hg).trans h.2.2.2.1, (hb.cell (p := ⟨g, o + k * 6 + 4, none⟩) hg).trans h.2.2.2.2.1, (hb.cell (p := ⟨g, o + k * 6 + 5, none⟩) hg).trans h.2.2.2.2.2⟩
/-- The two cells of a name. -/
def NmCells (V : World) (g o k : Nat) (y : NM) : Prop := V.cell? ⟨g, o + k * 2, none⟩ = some (.string ⟨y.name.toArray⟩) ∧ V.cell? ⟨g, o + k * 2 + 1, none⟩ = some (.int .i64 y.node)
theorem nm_cells {w : World} {B n : Nat} {M : Option Addr} {l : List NM} (h : Reads w B 2 M n (ncs l)) {k : Nat} (hk : k < n) :
    ∃ (g o : Nat) (y : NM), M = some ⟨g, o, none⟩ ∧ g < B ∧ l[k]? = some y ∧ NmCells w g o k y := by
  have hl : l.length = n := by have := h.1; rw [ncs_length] at this; omega
  have hkl : k < l.length := by omega
  obtain ⟨g, o, rfl, hg, hc⟩ := cells_of h (by omega) (by rw [ncs_length]; omega)
  refine ⟨g, o, l[k], rfl, hg, List.getElem?_eq_getElem hkl, ?_, ?_⟩
  · exact hc (k * 2 + 0) _ (ncs_at l k 0 hkl (by omega))
  · exact hc (k * 2 + 1) _ (ncs_at l k 1 hkl (by omega))
theorem NmCells.below {w w' : World} {B g o k : Nat} {y : NM} (h : NmCells w g o k y) (hg : g < B) (hb : Below B w w') : NmCells w' g o k y :=
  ⟨(hb.cell (p := ⟨g, o + k * 2, none⟩) hg).trans h.1, (hb.cell (p := ⟨g, o + k * 2 + 1, none⟩) hg).trans h.2⟩
theorem run_sizeOf_n {P : Program} {e : TypeId} {n : Nat} (hs : (P.info? e).map (·.size) = some n) (W : World) : (sizeOf e).run P W = .ok n W := by
  obtain ⟨i, hi, h1⟩ := Option.map_eq_some_iff.1 hs
  simp [sizeOf, typeInfo, hi, h1]
theorem sizeNode : (Try.prog.info? 49).map (·.size) = some 6 := by kernel_rfl
theorem sizeName : (Try.prog.info? 54).map (·.size) = some 2 := by kernel_rfl
theorem nd_at (g1 o m k q : Nat) (i : Int) (hi : i = (q : Int)) (hq : q < m) (W : World) : (Instr.indexAt 22 (.slice (some ⟨g1, o, none⟩) m k) (.int .i64 i)).run Try.prog W = .ok (.pointer (some ⟨g1, o + q * 6, none⟩)) W := by
  subst hi
  have hE : Try.prog.elem 22 = 49 := by simp [Program.elem, Try.underlying22]
  rw [run_indexAt_slice W 22 ⟨g1, o, none⟩ m k .i64 (q : Int) (slice_ht Try.underlying22), if_pos ⟨by omega, by omega⟩]
  rw [hE, run_sizeOf_n sizeNode W]
  simp only [Result.andThen, Int.toNat_natCast, at_add]
theorem nm_at (g1 o m k q : Nat) (i : Int) (hi : i = (q : Int)) (hq : q < m) (W : World) : (Instr.indexAt 47 (.slice (some ⟨g1, o, none⟩) m k) (.int .i64 i)).run Try.prog W = .ok (.pointer (some ⟨g1, o + q * 2, none⟩)) W := by
  subst hi
  have hE : Try.prog.elem 47 = 54 := by simp [Program.elem, Try.underlying47]
  rw [run_indexAt_slice W 47 ⟨g1, o, none⟩ m k .i64 (q : Int) (slice_ht Try.underlying47), if_pos ⟨by omega, by omega⟩]
  rw [hE, run_sizeOf_n sizeName W]
  simp only [Result.andThen, Int.toNat_natCast, at_add]
/-- The nodes, without where they lie. -/
def nds (l : List DV) : List ND := l.map DV.r
theorem nds_length (l : List DV) : (nds l).length = l.length := by simp [nds]
theorem nds_at {l : List DV} {k : Nat} {x : DV} (h : l[k]? = some x) : ndAt (nds l) (k : Int) = x.r := by
  unfold ndAt nds
  rw [Int.toNat_natCast, List.getD_eq_getElem?_getD, List.getElem?_map, h]
  rfl
end Go.Proofs.Ytnhfpaobocbieaa
