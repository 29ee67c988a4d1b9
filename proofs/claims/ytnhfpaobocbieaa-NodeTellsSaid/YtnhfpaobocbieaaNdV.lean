/- The visit of node.Where. -/
import Derived.Test.YtnhfpaobocbieaaNdPa
namespace Go.Proofs.Ytnhfpaobocbieaa
open Go.RowKit
set_option linter.unusedVariables false
/-- The path of a step. -/
def pathP (x : ST) : List UInt8 := 47 :: Lib.join (x.up ++ [x.name]) [47]
def SmallS (x : ST) : Prop := (x.up ++ [x.name]).length ≤ 1000000 ∧ (Lib.join (x.up ++ [x.name]) [47]).length ≤ 1000000
def goN (m : Int) (x : ST) : Bool := !(x.node == m)
def fndN (m : Int) (s : List ST) : Option ST := s.find? fun x => x.node == m
theorem fnd_none {m : Int} {s : List ST} (h : s.all (goN m) = true) : fndN m s = none := by
  unfold fndN
  rw [List.find?_eq_none]
  intro x hx
  have := List.all_eq_true.1 h x hx
  unfold goN at this
  simpa using this
theorem fnd_snoc {m : Int} {s : List ST} (h : s.all (goN m) = true) (x : ST) : fndN m (s ++ [x]) = if x.node = m then some x else none := by
  have h1 := fnd_none h
  unfold fndN at h1 ⊢
  rw [List.find?_append, h1, List.find?_cons, List.find?_nil]
  by_cases hx : x.node = m
  · rw [if_pos hx]; simp [hx]
  · rw [if_neg hx, show (x.node == m) = false from beq_eq_false_iff_ne.2 hx]
    rfl
def wText (o : Option ST) : List UInt8 := match o with | some x => pathP x | none => []
/-- What the visit of Where keeps. -/
structure JW (rn rw_ rf : Nat) (m : Int) (s : List ST) (O : Nat → Prop) (V : World) : Prop where
  o : ∀ k, O k ↔ k = rw_ ∨ k = rf
  n : Blk V rn 3 #[.int .i64 m]
  w : Blk V rw_ 9 #[.string ⟨(wText (fndN m s)).toArray⟩]
  f : Blk V rf 4 #[.bool (fndN m s).isSome]
  n1 : rn ≠ rw_
  n2 : rn ≠ rf
  n3 : rw_ ≠ rf
theorem JW.below {rn rw_ rf : Nat} {m : Int} {s : List ST} {O : Nat → Prop} {V V' : World} (h : JW rn rw_ rf m s O V) (hb : Below V.heap.size V V') : JW rn rw_ rf m s O V' :=
  ⟨h.o, h.n.below hb h.n.lt, h.w.below hb h.w.lt, h.f.below hb h.f.lt, h.n1, h.n2, h.n3⟩
theorem JW.lt {rn rw_ rf : Nat} {m : Int} {s : List ST} {O : Nat → Prop} {V : World} (h : JW rn rw_ rf m s O V) : ∀ k, O k → k < V.heap.size := fun k hk => by
  rcases (h.o k).1 hk with rfl | rfl
  · exact h.w.lt
  · exact h.f.lt
set_option maxRecDepth 100000 in
set_option maxHeartbeats 8000000 in
theorem visitW (rn rw_ rf : Nat) (m : Int) (n N : Nat) : Visit SmallS N n 35 #[.pointer (some ⟨rn, 0, none⟩), .pointer (some ⟨rw_, 0, none⟩), .pointer (some ⟨rf, 0, none⟩)] (goN m) (JW rn rw_ rf m) := by
  intro s O V g up x hJ hs _ hP _ _ hG hn hC
  have hS : StC V O (some ⟨g, 0, none⟩) (x.up ++ [x.name]) := .cons hG hn hC
  have XP := hide (fun V' (hV : Below V.heap.size V V') => path_any O (some ⟨g, 0, none⟩) (x.up ++ [x.name]) V' (StC.kp (Kp.of hV) hS) hP.1 hP.2)
  have HN := hide (fnd_none hs)
  have HF := hide (fnd_snoc hs x)
  have HJ := hide hJ
  have a0 := one_ hJ.n
  have a1 := one_ hJ.f
  rw [HN.out] at a1
  have kg := hG.cell 3
  have gl := hG.lt
  simp only [List.getElem?_toArray, List.getElem?_cons_zero, List.getElem?_cons_succ] at kg
  simp only [Option.isSome_none] at a1
  change Calls Try.prog _ #[.pointer (some ⟨g, 0, none⟩), .pointer (some ⟨rn, 0, none⟩), .pointer (some ⟨rw_, 0, none⟩), .pointer (some ⟨rf, 0, none⟩)] V _
  clear hJ hs hP hG hn hC hS
  obtain ⟨xd, xn, xo, xu⟩ := x
  dsimp only at *
  by_cases hx : xo = m
  · subst hx
    have HG : Hid (goN xo ⟨xd, xn, xo, xu⟩ = false) := hide (by simp [goN])
    rw [HG.out]
    rw [if_pos rfl] at HF
    go_enter Try.func35, Try.ntmps35
    go_wp2_with fail
    go_quiet (fail)
    go_wp2_with fail
    refine (XP.out _ (bl_drewN (Below.refl _ _))).mono ?_
    rintro e w3 ⟨rfl, hb⟩
    have hb3 : Below V.heap.size V w3 := ⟨hb.os, hb.tape, hb.output, hb.size, hb.block⟩
    clear hb XP
    have J := HJ.out
    obtain ⟨P, hP⟩ : ∃ P, (47 :: Lib.join (xu ++ [xn]) [47] : List UInt8) = P := ⟨_, rfl⟩
    rw [hP]
    have bw := J.w.below hb3 J.w.lt
    have bf := J.f.below hb3 J.f.lt
    have bn := J.n.below hb3 J.n.lt
    obtain ⟨w4, hw4⟩ : ∃ W, w3.setCell ⟨rw_, 0, none⟩ (.string ⟨P.toArray⟩) = W := ⟨_, rfl⟩
    have bw4 : Blk w4 rw_ 9 #[.string ⟨P.toArray⟩] := by rw [← hw4]; exact bw.set_ 0 _
    have bf4 := bf.far (p := ⟨rw_, 0, none⟩) (fun h => J.n3 h.symm) (.string ⟨P.toArray⟩)
    have bn4 := bn.far (p := ⟨rw_, 0, none⟩) J.n1 (.string ⟨P.toArray⟩)
    rw [hw4] at bf4 bn4
    obtain ⟨w5, hw5⟩ : ∃ W, w4.setCell ⟨rf, 0, none⟩ (.bool true) = W := ⟨_, rfl⟩
    have bf5 : Blk w5 rf 4 #[.bool true] := by rw [← hw5]; exact bf4.set_ 0 _
    have bw5 := bw4.far (p := ⟨rf, 0, none⟩) J.n3 (.bool true)
    have bn5 := bn4.far (p := ⟨rf, 0, none⟩) J.n2 (.bool true)
    rw [hw5] at bw5 bn5
    have HEND : Hid (JW rn rw_ rf xo (s ++ [(⟨xd, xn, xo, xu⟩ : ST)]) O w5 ∧ Kp O O V w5) := hide (by
      refine ⟨⟨J.o, bn5, by rw [HF.out]; show Blk w5 rw_ _ #[.string ⟨(47 :: Lib.join (xu ++ [xn]) [47]).toArray⟩]; rw [hP]; exact bw5, by rw [HF.out]; exact bf5, J.n1, J.n2, J.n3⟩, ?_⟩
      refine (Kp.of hb3).trans ⟨by rw [← hw5, ← hw4]; rfl, by rw [← hw5, ← hw4]; rfl, by rw [← hw5, ← hw4]; rfl, by rw [← hw5, ← hw4]; simp, fun k hk hn => ⟨?_, hn⟩⟩
      rw [← hw5, ← hw4, Below.heap_setCell _ _ _ _ (fun h => hn ((J.o k).2 (.inr h))), Below.heap_setCell _ _ _ _ (fun h => hn ((J.o k).2 (.inl h)))])
    have s0 := one_ bw
    have s1 := bw.frozen 0
    have s2 := bw.lt
    have s3 := one_ bf4
    have s4 := bf4.frozen 0
    have s5 := bf4.lt
    have s6 := one_ bf5
    clear J bw bf bn bw4 bf4 bn4 bf5 bw5 bn5 hb3 hP a0 a1 kg
    go_wp2_with fail
    go_ret
    exact ⟨rfl, O, HEND.out.1, HEND.out.2⟩
  · have hx2 : (xo == m) = false := beq_eq_false_iff_ne.2 hx
    have HG : Hid (goN m ⟨xd, xn, xo, xu⟩ = true) := hide (by simp [goN, hx])
    rw [HG.out]
    rw [if_neg hx] at HF
    clear hx
    go_enter Try.func35, Try.ntmps35
    go_wp2_with fail
    go_quiet (fail)
    go_wp2_with fail
    go_ret
    have J := HJ.out
    refine ⟨rfl, O, ⟨J.o, J.n.drewN _, ?_, ?_, J.n1, J.n2, J.n3⟩, ⟨rfl, rfl, rfl, Nat.le_refl _, fun k _ hk => ⟨rfl, hk⟩⟩⟩
    · rw [HF.out]
      have := J.w.drewN
      rw [HN.out] at this
      exact this _
    · rw [HF.out]
      have := J.f.drewN
      rw [HN.out] at this
      exact this _
end Go.Proofs.Ytnhfpaobocbieaa
