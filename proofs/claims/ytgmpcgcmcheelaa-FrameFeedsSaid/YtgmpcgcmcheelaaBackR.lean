/- Rows of bodies that grow while their bodies lie elsewhere. -/
import Derived.Test.YtgmpcgcmcheelaaReadB
import Derived.Test.YtgmpcgcmcheelaaLawK
namespace Go.Proofs.Ytgmpcgcmcheelaa
open Go.RowKit
set_option linter.unusedVariables false

/-- Every body that holds a byte lies in a block from B on. -/
def FreshV (B : Nat) (vs : List Value) : Prop := ∀ u ∈ vs, ∀ x n c, u = .slice (some x) n c → B ≤ x.block
/-- No body that holds a byte lies in block b. -/
def NotIn (b : Option Nat) (vs : List Value) : Prop := ∀ u ∈ vs, ∀ x n c, u = .slice (some x) n c → 0 < n → some x.block ≠ b
theorem Reads.grownAt {w w' : World} {A : Option Addr} {n : Nat} {xs : List Value} (h : Reads w w.heap.size 1 A n xs) {row : Option Nat} (hg : w.grownBy w' row) (hne : ∀ x, A = some x → 0 < n → some x.block ≠ row) : Reads w' w'.heap.size 1 A n xs := by
  refine ⟨h.1, fun h0 => ?_⟩
  obtain ⟨ad, e, hb, hc⟩ := h.2 h0
  refine ⟨ad, e, Nat.lt_of_lt_of_le hb hg.size, fun j u hj => ?_⟩
  have e2 : w'.cell? (ad.add j) = w.cell? (ad.add j) := World.cell?_of_block (by rw [block_of_add]; exact hg.block _ hb (hne ad e h0))
  rw [e2]; exact hc j u hj
theorem RowsV.grown {w w' : World} {vs : List Value} {bs : List Bs} (h : RowsV w w.heap.size vs bs) {row : Option Nat} (hg : w.grownBy w' row) (hn : NotIn row vs) : RowsV w' w'.heap.size vs bs := by
  refine ⟨h.1, fun j v b hv hb => ?_⟩
  obtain ⟨A, n, c, rfl, hr⟩ := h.2 j v b hv hb
  exact ⟨A, n, c, rfl, hr.grownAt hg fun x hx h0 => hn _ (List.mem_of_getElem? hv) x n c (by rw [hx]) h0⟩
theorem RowsV.lt {w : World} {B : Nat} {vs : List Value} {bs : List Bs} (h : RowsV w B vs bs) {u : Value} (hu : u ∈ vs) {x : Addr} {n c : Nat} (e : u = .slice (some x) n c) (h0 : 0 < n) : x.block < B := by
  obtain ⟨j, hj, rfl⟩ := List.getElem_of_mem hu
  obtain ⟨A, n', c', e2, hr⟩ := h.2 j _ (bs[j]'(by rw [← h.1]; exact hj)) (List.getElem?_eq_getElem hj) (List.getElem?_eq_getElem _)
  rw [e] at e2
  injection e2 with e3 e4 e5
  subst e4
  obtain ⟨ad, e6, hb, _⟩ := hr.2 h0
  rw [← e3] at e6
  injection e6 with e6
  rw [e6]; exact hb
/-- Bodies that were read: a row of its own, the bodies in fresh blocks. -/
def RowsX (B : Nat) (w : World) (A : Option Addr) (n c : Nat) (bs : List Bs) : Prop := ∃ vs, w.ownsRow B 22 1 (.slice A n c) n vs ∧ RowsV w w.heap.size vs bs ∧ FreshV B vs
/-- Bodies that are kept: a row of its own, no body in it. -/
def OutS (B : Nat) (w : World) (A : Option Addr) (n c : Nat) (bs : List Bs) : Prop := ∃ vs, w.ownsRow B 22 1 (.slice A n c) n vs ∧ RowsV w w.heap.size vs bs ∧ NotIn (Value.slice A n c).ownBlock vs
theorem RowsV.set2_ {w : World} {g : Nat} {X : Option Addr} {n c : Nat} {d : Bool} (hq : Blk w g 24 #[.slice X n c, .bool d]) {vs : List Value} {bs : List Bs} (h2 : RowsV w w.heap.size vs bs) (a b : Value) : RowsV (set2 w g a b) (set2 w g a b).heap.size vs bs := by
  refine ⟨h2.1, fun j v b' hv hb => ?_⟩
  obtain ⟨A, n', c', e, hr⟩ := h2.2 j v b' hv hb
  exact ⟨A, n', c', e, rd_far hq hr a b⟩
theorem own_set2 {w : World} {g : Nat} {X : Option Addr} {n c : Nat} {d : Bool} (hq : Blk w g 24 #[.slice X n c, .bool d]) {B : Nat} {v : Value} {m : Nat} {vs : List Value} (h1 : w.ownsRow B 22 1 v m vs) (a b : Value) : (set2 w g a b).ownsRow B 22 1 v m vs :=
  own_set_blk (own_set_blk h1 (p := ⟨g, 0, none⟩) hq (by decide) a) (p := ⟨g, 1, none⟩) (hq.set_ 0 a) (by decide) b
theorem RowsX.set2_ {w : World} {g : Nat} {X : Option Addr} {n c : Nat} {d : Bool} (hq : Blk w g 24 #[.slice X n c, .bool d]) {B : Nat} {A : Option Addr} {m k : Nat} {bs : List Bs} (h : RowsX B w A m k bs) (a b : Value) : RowsX B (set2 w g a b) A m k bs := by
  obtain ⟨vs, h1, h2, h3⟩ := h
  exact ⟨vs, own_set2 hq h1 a b, h2.set2_ hq a b, h3⟩
theorem OutS.set2_ {w : World} {g : Nat} {X : Option Addr} {n c : Nat} {d : Bool} (hq : Blk w g 24 #[.slice X n c, .bool d]) {B : Nat} {A : Option Addr} {m k : Nat} {bs : List Bs} (h : OutS B w A m k bs) (a b : Value) : OutS B (set2 w g a b) A m k bs := by
  obtain ⟨vs, h1, h2, h3⟩ := h
  exact ⟨vs, own_set2 hq h1 a b, h2.set2_ hq a b, h3⟩
theorem RowsX.below {B : Nat} {w w' : World} {A : Option Addr} {n c : Nat} {bs : List Bs} (h : RowsX B w A n c bs) (hb : Below w.heap.size w w') : RowsX B w' A n c bs := by
  obtain ⟨vs, h1, h2, h3⟩ := h
  exact ⟨vs, own_below h1 hb, (h2.keep fun p hp => hb.cell hp).more hb.size, h3⟩
theorem OutS.below {B : Nat} {w w' : World} {A : Option Addr} {n c : Nat} {bs : List Bs} (h : OutS B w A n c bs) (hb : Below w.heap.size w w') : OutS B w' A n c bs := by
  obtain ⟨vs, h1, h2, h3⟩ := h
  exact ⟨vs, own_below h1 hb, (h2.keep fun p hp => hb.cell hp).more hb.size, h3⟩
theorem OutS.nil (B : Nat) (w : World) : OutS B w none 0 0 [] := ⟨[], World.ownsRow_nil _ _ _ _, RowsV.nil _ _, fun u h => by cases h⟩
theorem OutS.rowsP {B : Nat} {w : World} {A : Option Addr} {n c : Nat} {bs : List Bs} (h : OutS B w A n c bs) : RowsP w A n bs := by
  obtain ⟨vs, h1, h2, _⟩ := h
  exact ⟨vs, Reads.of_own h1, h2⟩
theorem OutS.rowsP' {B : Nat} {w : World} {A : Option Addr} {n c : Nat} {bs : List Bs} (h : RowsX B w A n c bs) : RowsP w A n bs := by
  obtain ⟨vs, h1, h2, _⟩ := h
  exact ⟨vs, Reads.of_own h1, h2⟩
/-- What was read is put behind what was kept. -/
theorem out_grow {wr wy w2 : World} {B0 : Nat} {O O2 : Option Addr} {q co co2 m' : Nat} {vs vs' : List Value} {outs outs' : List Bs}
    (hs : wr.heap.size ≤ wy.heap.size) (hO : ∀ g, (Value.slice O q co).ownBlock = some g → g < wr.heap.size)
    (hv : RowsV wy wy.heap.size vs outs) (hn : NotIn (Value.slice O q co).ownBlock vs) (hv' : RowsV wy wy.heap.size vs' outs') (hf : FreshV wr.heap.size vs')
    (hown : w2.ownsRow B0 22 1 (.slice O2 (q + m') co2) (q + m') (vs ++ vs')) (hg : wy.grownBy w2 (Value.slice O q co).ownBlock)
    (hat : (Value.slice O2 (q + m') co2).ownBlock = (Value.slice O q co).ownBlock ∨ (Value.slice O2 (q + m') co2).ownBlock = some wy.heap.size) : OutS B0 w2 O2 (q + m') co2 (outs ++ outs') := by
  have hn' : NotIn (Value.slice O q co).ownBlock vs' := by
    intro u hu x n c e h0 he
    have h1 := hO x.block he.symm
    have h2 := hf u hu x n c e
    omega
  refine ⟨vs ++ vs', hown, RowsV.app (hv.grown hg hn) (hv'.grown hg hn'), ?_⟩
  intro u hu x n c e h0
  rcases hat with h | h <;> rw [h]
  · rcases List.mem_append.1 hu with h1 | h1
    · exact hn u h1 x n c e h0
    · exact hn' u h1 x n c e h0
  · have : x.block < wy.heap.size := by
      rcases List.mem_append.1 hu with h1 | h1
      · exact hv.lt h1 e h0
      · exact hv'.lt h1 e h0
    intro h3
    injection h3 with h3
    omega
end Go.Proofs.Ytgmpcgcmcheelaa
