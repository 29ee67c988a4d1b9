/- The walk of the tree, whatever is done at each step. -/
import Derived.Test.YtnhfpaobocbieaaNdC
namespace Go.Proofs.Ytnhfpaobocbieaa
open Go.RowKit
set_option linter.unusedVariables false
/-- All but the blocks of O is as it was; what is not of O is not of O' afterwards. -/
structure Kp (O O' : Nat → Prop) (V V' : World) : Prop where
  os : V'.os = V.os
  tape : V'.tape = V.tape
  output : V'.output = V.output
  size : V.heap.size ≤ V'.heap.size
  blk : ∀ k, k < V.heap.size → ¬ O k → V'.heap[k]? = V.heap[k]? ∧ ¬ O' k
theorem Kp.trans {O O' O'' : Nat → Prop} {a b c : World} (h : Kp O O' a b) (k : Kp O' O'' b c) : Kp O O'' a c :=
  ⟨k.os.trans h.os, k.tape.trans h.tape, k.output.trans h.output, Nat.le_trans h.size k.size, fun i hi hn =>
    have h1 := h.blk i hi hn
    have h2 := k.blk i (Nat.lt_of_lt_of_le hi h.size) h1.2
    ⟨h2.1.trans h1.1, h2.2⟩⟩
theorem Kp.of {O : Nat → Prop} {a b : World} (h : Below a.heap.size a b) : Kp O O a b := ⟨h.os, h.tape, h.output, h.size, fun k hk hn => ⟨h.block k hk, hn⟩⟩
theorem Kp.below {B : Nat} {O O' : Nat → Prop} {V V' : World} (k : Kp O O' V V') (h0 : ∀ i, i < B → ¬ O i) (hB : B ≤ V.heap.size) : Below B V V' :=
  ⟨k.os, k.tape, k.output, k.size, fun i hi => (k.blk i (by omega) (h0 i hi)).1⟩
theorem Blk.kp {O O' : Nat → Prop} {V V' : World} {g : Nat} {t : TypeId} {cs : Array Value} (h : Blk V g t cs) (hn : ¬ O g) (k : Kp O O' V V') : Blk V' g t cs := ((k.blk g h.lt hn).1).trans h
/-- The steps above, in memory; the names that led here. -/
inductive StC (V : World) (O : Nat → Prop) : Option Addr → List (List UInt8) → Prop
  | nil : StC V O none []
  | cons {g : Nat} {up : Option Addr} {us : List (List UInt8)} {d : Int} {nm : List UInt8} {nd : Int} (h : Blk V g 64 #[.pointer up, .int .i64 d, .string ⟨nm.toArray⟩, .int .i64 nd]) (hn : ¬ O g) (t : StC V O up us) : StC V O (some ⟨g, 0, none⟩) (us ++ [nm])
theorem StC.kp {O O' : Nat → Prop} {V V' : World} (k : Kp O O' V V') {a : Option Addr} {us : List (List UInt8)} (h : StC V O a us) : StC V' O' a us := by
  induction h with
  | nil => exact .nil
  | cons hb hn _ ih => exact .cons (hb.kp hn k) (k.blk _ hb.lt hn).2 ih
/-- What the walk stands on. -/
structure WkI (B0 pf pv pi vf : Nat) (vb : Array Value) (L : Option Addr) (n c : Nat) (l : List DV) (O : Nat → Prop) (V : World) : Prop where
  fs : FsR V B0 L n l
  f : Blk V pf 24 #[.slice L n c]
  v : Blk V pv 65 #[.func (.func vf) #[] vb]
  i : Blk V pi 81 #[.func (.func 49) #[] #[.pointer (some ⟨pf, 0, none⟩), .pointer (some ⟨pv, 0, none⟩), .pointer (some ⟨pi, 0, none⟩)]]
  of : ¬ O pf
  ov : ¬ O pv
  oi : ¬ O pi
  o0 : ∀ k, k < B0 → ¬ O k
  b0 : B0 ≤ V.heap.size
theorem WkI.kp {B0 pf pv pi vf : Nat} {vb : Array Value} {L : Option Addr} {n c : Nat} {l : List DV} {O O' : Nat → Prop} {V V' : World} (h : WkI B0 pf pv pi vf vb L n c l O V) (k : Kp O O' V V') : WkI B0 pf pv pi vf vb L n c l O' V' :=
  ⟨h.fs.below (k.below h.o0 h.b0), h.f.kp h.of k, h.v.kp h.ov k, h.i.kp h.oi k, (k.blk _ h.f.lt h.of).2, (k.blk _ h.v.lt h.ov).2, (k.blk _ h.i.lt h.oi).2, fun i hi => (k.blk i (Nat.lt_of_lt_of_le hi h.b0) (h.o0 i hi)).2, Nat.le_trans h.b0 k.size⟩
/-- The steps up to the first one that stops the walk. -/
def seen (go : ST → Bool) : List ST → List ST
  | [] => []
  | x :: t => x :: (if go x = true then seen go t else [])
theorem seen_all {go : ST → Bool} : ∀ {a : List ST} (b : List ST), a.all go = true → seen go (a ++ b) = a ++ seen go b
  | [], b, _ => rfl
  | x :: a, b, h => by
    simp only [List.all_cons, Bool.and_eq_true] at h
    rw [List.cons_append, seen, if_pos h.1, seen_all b h.2, List.cons_append]
theorem seen_stop {go : ST → Bool} : ∀ {a : List ST} (b : List ST), a.all go = false → seen go (a ++ b) = seen go a
  | [], b, h => by cases h
  | x :: a, b, h => by
    rw [List.cons_append, seen, seen]
    by_cases hx : go x = true
    · rw [if_pos hx, if_pos hx, seen_stop b (by simpa [hx] using h)]
    · rw [if_neg hx, if_neg hx]
/-- What one name gives to the walk. -/
def wkN (l : List ND) (k : Nat) (us : List (List UInt8)) (d : Int) (y : NM) : List ST := ⟨d, y.name, y.node, us⟩ :: (if isDir l y.node = true then wk l k (us ++ [y.name]) y.node else [])
theorem wk_succ (l : List ND) (k : Nat) (us : List (List UInt8)) (d : Int) : wk l (k + 1) us d = (ndAt l d).names.flatMap (wkN l k us d) := rfl
/-- How a visit must go. -/
def Visit (P : ST → Prop) (N n vf : Nat) (vb : Array Value) (go : ST → Bool) (J : List ST → (Nat → Prop) → World → Prop) : Prop :=
  ∀ (s : List ST) (O : Nat → Prop) (V : World) (g : Nat) (up : Option Addr) (x : ST), J s O V → s.all go = true → s.length < N → P x → 0 ≤ x.node → x.node < (n : Int) → Blk V g 64 #[.pointer up, .int .i64 x.dir, .string ⟨x.name.toArray⟩, .int .i64 x.node] → ¬ O g → StC V O up x.up →
    Calls Try.prog vf (#[.pointer (some ⟨g, 0, none⟩)] ++ vb) V fun e V' => e = .returned (.bool (go x)) ∧ ∃ O', J (s ++ [x]) O' V' ∧ Kp O O' V V'
def IntoEnd (go : ST → Bool) (J : List ST → (Nat → Prop) → World → Prop) (s : List ST) (O : Nat → Prop) (V : World) (ws : List ST) (e : Ending) (V' : World) : Prop :=
  e = .returned (.bool (ws.all go)) ∧ ∃ O', J (s ++ seen go ws) O' V' ∧ Kp O O' V V'
theorem IntoEnd.no {go : ST → Bool} {J : List ST → (Nat → Prop) → World → Prop} {s : List ST} {O O' : Nat → Prop} {V V' : World} {ws a b : List ST} {e : Ending} (h : ws = a ++ b) (ha : a.all go = false) (he : e = .returned (.bool false)) (hJ : J (s ++ seen go a) O' V') (hk : Kp O O' V V') : IntoEnd go J s O V ws e V' := by
  subst h
  exact ⟨by rw [he, List.all_append, ha]; rfl, O', by rw [seen_stop b ha]; exact hJ, hk⟩
end Go.Proofs.Ytnhfpaobocbieaa
