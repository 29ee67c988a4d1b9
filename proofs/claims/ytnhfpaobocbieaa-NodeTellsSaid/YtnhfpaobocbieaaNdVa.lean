/- The visit of node.Parent. -/
import Derived.Test.YtnhfpaobocbieaaNdWh
import Derived.Test.YtnhfpaobocbieaaMemK
namespace Go.Proofs.Ytnhfpaobocbieaa
open Go.RowKit
set_option linter.unusedVariables false
def pDir (o : Option ST) : Int := match o with | some x => x.dir | none => 0
def pName (o : Option ST) : List UInt8 := match o with | some x => x.name | none => []
/-- What the visit of Parent keeps. -/
structure JP (rn rd rm rf : Nat) (m : Int) (s : List ST) (O : Nat → Prop) (V : World) : Prop where
  o : ∀ k, O k ↔ k = rd ∨ k = rm ∨ k = rf
  n : Blk V rn 3 #[.int .i64 m]
  d : Blk V rd 3 #[.int .i64 (pDir (fndN m s))]
  w : Blk V rm 9 #[.string ⟨(pName (fndN m s)).toArray⟩]
  f : Blk V rf 4 #[.bool (fndN m s).isSome]
  n0 : rn ≠ rd
  n1 : rn ≠ rm
  n2 : rn ≠ rf
  n3 : rd ≠ rm
  n4 : rd ≠ rf
  n5 : rm ≠ rf
theorem JP.below {rn rd rm rf : Nat} {m : Int} {s : List ST} {O : Nat → Prop} {V V' : World} (h : JP rn rd rm rf m s O V) (hb : Below V.heap.size V V') : JP rn rd rm rf m s O V' :=
  ⟨h.o, h.n.below hb h.n.lt, h.d.below hb h.d.lt, h.w.below hb h.w.lt, h.f.below hb h.f.lt, h.n0, h.n1, h.n2, h.n3, h.n4, h.n5⟩
theorem JP.lt {rn rd rm rf : Nat} {m : Int} {s : List ST} {O : Nat → Prop} {V : World} (h : JP rn rd rm rf m s O V) : ∀ k, O k → k < V.heap.size := fun k hk => by
  rcases (h.o k).1 hk with rfl | rfl | rfl
  · exact h.d.lt
  · exact h.w.lt
  · exact h.f.lt
set_option maxRecDepth 100000 in
set_option maxHeartbeats 8000000 in
theorem visitP (rn rd rm rf : Nat) (m : Int) (n N : Nat) : Visit (fun _ => True) N n 33 #[.pointer (some ⟨rn, 0, none⟩), .pointer (some ⟨rd, 0, none⟩), .pointer (some ⟨rm, 0, none⟩), .pointer (some ⟨rf, 0, none⟩)] (goN m) (JP rn rd rm rf m) := by
  intro s O V g up x hJ hs _ hP _ _ hG hn hC
  have HN := hide (fnd_none hs)
  have HF := hide (fnd_snoc hs x)
  have HJ := hide hJ
  have a0 := one_ hJ.n
  have a1 := one_ hJ.f
  rw [HN.out] at a1
  have kg := hG.cell 3
  have kg1 := hG.cell 1
  have kg2 := hG.cell 2
  have gl := hG.lt
  simp only [List.getElem?_toArray, List.getElem?_cons_zero, List.getElem?_cons_succ] at kg kg1 kg2
  simp only [Option.isSome_none] at a1
  change Calls Try.prog _ #[.pointer (some ⟨g, 0, none⟩), .pointer (some ⟨rn, 0, none⟩), .pointer (some ⟨rd, 0, none⟩), .pointer (some ⟨rm, 0, none⟩), .pointer (some ⟨rf, 0, none⟩)] V _
  have HGB := hide hG
  have HGN := hide hn
  clear hJ hs hP hG hn hC
  obtain ⟨xd, xn, xo, xu⟩ := x
  dsimp only at *
  by_cases hx : xo = m
  · subst hx
    have HG : Hid (goN xo ⟨xd, xn, xo, xu⟩ = false) := hide (by simp [goN])
    rw [HG.out]
    rw [if_pos rfl] at HF
    go_enter Try.func33, Try.ntmps33
    go_wp2_with fail
    go_quiet (fail)
    go_wp2_with fail
    have J := HJ.out
    have dw := fun {g : Nat} {t : TypeId} {cs : Array Value} (h : Blk V g t cs) => (show Blk (V.drewN nq).drew g t cs from (h.drewN nq).drewN 1)
    have bn := dw J.n
    have bd := dw J.d
    have bw := dw J.w
    have bf := dw J.f
    have gB := dw (show Blk V g 64 #[.pointer up, .int .i64 xd, .string ⟨xn.toArray⟩, .int .i64 xo] from HGB.out)
    have BD : Below V.heap.size V (V.drewN nq).drew := bl_drewN (n := 1) (bl_drewN (n := nq) (Below.refl _ _))
    obtain ⟨w3, hw3⟩ : ∃ W, (V.drewN nq).drew = W := ⟨_, rfl⟩
    clear dw
    rw [hw3] at bn bd bw bf gB BD
    have gn := HGN.out
    have ng : g ≠ rd ∧ g ≠ rm ∧ g ≠ rf := ⟨fun h => gn ((J.o g).2 (.inl h)), fun h => gn ((J.o g).2 (.inr (.inl h))), fun h => gn ((J.o g).2 (.inr (.inr h)))⟩
    obtain ⟨w4, hw4⟩ : ∃ W, w3.setCell ⟨rd, 0, none⟩ (.int .i64 xd) = W := ⟨_, rfl⟩
    have bd4 : Blk w4 rd 3 #[.int .i64 xd] := by rw [← hw4]; exact bd.set_ 0 _
    have bn4 := bn.far (p := ⟨rd, 0, none⟩) J.n0 (.int .i64 xd)
    have bw4 := bw.far (p := ⟨rd, 0, none⟩) (fun h => J.n3 h.symm) (.int .i64 xd)
    have bf4 := bf.far (p := ⟨rd, 0, none⟩) (fun h => J.n4 h.symm) (.int .i64 xd)
    have gB4 := gB.far (p := ⟨rd, 0, none⟩) ng.1 (.int .i64 xd)
    rw [hw4] at bn4 bw4 bf4 gB4
    obtain ⟨w5, hw5⟩ : ∃ W, w4.setCell ⟨rm, 0, none⟩ (.string ⟨xn.toArray⟩) = W := ⟨_, rfl⟩
    have bw5 : Blk w5 rm 9 #[.string ⟨xn.toArray⟩] := by rw [← hw5]; exact bw4.set_ 0 _
    have bn5 := bn4.far (p := ⟨rm, 0, none⟩) J.n1 (.string ⟨xn.toArray⟩)
    have bd5 := bd4.far (p := ⟨rm, 0, none⟩) J.n3 (.string ⟨xn.toArray⟩)
    have bf5 := bf4.far (p := ⟨rm, 0, none⟩) (fun h => J.n5 h.symm) (.string ⟨xn.toArray⟩)
    rw [hw5] at bn5 bd5 bf5
    obtain ⟨w6, hw6⟩ : ∃ W, w5.setCell ⟨rf, 0, none⟩ (.bool true) = W := ⟨_, rfl⟩
    have bf6 : Blk w6 rf 4 #[.bool true] := by rw [← hw6]; exact bf5.set_ 0 _
    have bn6 := bn5.far (p := ⟨rf, 0, none⟩) J.n2 (.bool true)
    have bd6 := bd5.far (p := ⟨rf, 0, none⟩) J.n4 (.bool true)
    have bw6 := bw5.far (p := ⟨rf, 0, none⟩) J.n5 (.bool true)
    rw [hw6] at bn6 bd6 bw6
    have HEND : Hid (JP rn rd rm rf xo (s ++ [(⟨xd, xn, xo, xu⟩ : ST)]) O w6 ∧ Kp O O V w6) := hide (by
      refine ⟨⟨J.o, bn6, by rw [HF.out]; exact bd6, by rw [HF.out]; exact bw6, by rw [HF.out]; exact bf6, J.n0, J.n1, J.n2, J.n3, J.n4, J.n5⟩, ?_⟩
      refine (Kp.of BD).trans ⟨by rw [← hw6, ← hw5, ← hw4]; rfl, by rw [← hw6, ← hw5, ← hw4]; rfl, by rw [← hw6, ← hw5, ← hw4]; rfl, by rw [← hw6, ← hw5, ← hw4]; simp, fun k hk hn => ⟨?_, hn⟩⟩
      rw [← hw6, ← hw5, ← hw4, Below.heap_setCell _ _ _ _ (fun h => hn ((J.o k).2 (.inr (.inr h)))), Below.heap_setCell _ _ _ _ (fun h => hn ((J.o k).2 (.inr (.inl h)))), Below.heap_setCell _ _ _ _ (fun h => hn ((J.o k).2 (.inl h)))])
    have t0 := one_ bd
    have t1 := bd.frozen 0
    have t2 := bd.lt
    have t3 := one_ bw4
    have t4 := bw4.frozen 0
    have t5 := bw4.lt
    have t6 := one_ bf5
    have t7 := bf5.frozen 0
    have t8 := bf5.lt
    have t9 := one_ bf6
    have gc1 := gB.cell 1
    have gc2 := gB.cell 2
    have gd1 := gB4.cell 1
    have gd2 := gB4.cell 2
    simp only [List.getElem?_toArray, List.getElem?_cons_zero, List.getElem?_cons_succ] at gc1 gc2 gd1 gd2
    clear J bn bd bw bf gB BD bd4 bn4 bw4 bf4 gB4 bw5 bn5 bd5 bf5 bf6 bn6 bd6 bw6 gn ng a0 a1 kg kg1 kg2 gl
    refine wp_region_K (fun V' => V'.cell? ⟨g, 1, none⟩ = some (.int .i64 xd) ∧ V'.cell? ⟨g, 2, none⟩ = some (.string ⟨xn.toArray⟩)) [10, 11] rfl (by rw [hw3]; exact ⟨gc1, gc2⟩) (fun hHeld => ?_)
    rw [hw3] at hHeld ⊢
    clear hw3
    refine wpAnyK_take (i := 0) (v := ?_) rfl rfl (by kernel_rfl) (fun _ _ _ h => h) (Or.inl ⟨by rfl, ?_⟩) (by assumption) ?_
    rotate_left
    · (intro V hV; (try dsimp only at hV); go_simp; with_reducible rfl)
    try simp only [Act.put, List.setIfInBounds_toArray, List.set_cons_zero, List.set_cons_succ]
    refine wpAnyK_take (i := 1) (v := ?_) rfl rfl (by kernel_rfl) (fun _ _ _ h => h) (Or.inl ⟨by rfl, ?_⟩) (by assumption) ?_
    rotate_left
    · (intro V hV; (try dsimp only at hV); go_simp; with_reducible rfl)
    try simp only [Act.put, List.setIfInBounds_toArray, List.set_cons_zero, List.set_cons_succ]
    refine wpAnyK_take (i := 2) (v := ?_) rfl rfl (by kernel_rfl) (fun _ _ _ h => h) (Or.inl ⟨by rfl, ?_⟩) (by assumption) ?_
    rotate_left
    · (intro V hV; (try dsimp only at hV); go_simp; with_reducible rfl)
    try simp only [Act.put, List.setIfInBounds_toArray, List.set_cons_zero, List.set_cons_succ]
    refine wpAnyK_take (i := 3) (v := ?_) rfl rfl (by kernel_rfl) (fun _ _ _ h => h) (Or.inl ⟨by rfl, ?_⟩) (by assumption) ?_
    rotate_left
    · (intro V hV; (try dsimp only at hV); go_simp; with_reducible rfl)
    try simp only [Act.put, List.setIfInBounds_toArray, List.set_cons_zero, List.set_cons_succ]
    refine wpAnyK_take (i := 4) (v := ?_) rfl rfl (by kernel_rfl) (fun _ _ _ h => h) (Or.inl ⟨by rfl, ?_⟩) (by assumption) ?_
    rotate_left
    · (intro V hV; (try dsimp only at hV); go_simp; with_reducible rfl)
    try simp only [Act.put, List.setIfInBounds_toArray, List.set_cons_zero, List.set_cons_succ]
    refine wpAnyK_take (i := 5) (v := ?_) rfl rfl (by kernel_rfl) (fun _ _ _ h => h) (Or.inl ⟨by rfl, ?_⟩) (by assumption) ?_
    rotate_left
    · (intro V hV; (try dsimp only at hV); go_simp; with_reducible rfl)
    try simp only [Act.put, List.setIfInBounds_toArray, List.set_cons_zero, List.set_cons_succ]
    refine wpAnyK_take (i := 6) (v := ?_) rfl rfl (by kernel_rfl) (fun _ _ _ h => h) (Or.inl ⟨by rfl, ?_⟩) (by assumption) ?_
    rotate_left
    · (intro V hV; (try dsimp only at hV); go_simp; with_reducible rfl)
    try simp only [Act.put, List.setIfInBounds_toArray, List.set_cons_zero, List.set_cons_succ]
    refine wpAnyK_take (i := 7) (v := ?_) rfl rfl (by kernel_rfl) (fun _ _ _ h => h) (Or.inl ⟨by rfl, ?_⟩) (by assumption) ?_
    rotate_left
    · (intro V hV; (try dsimp only at hV); go_simp; with_reducible rfl)
    try simp only [Act.put, List.setIfInBounds_toArray, List.set_cons_zero, List.set_cons_succ]
    refine wpAnyK_take (i := 8) (v := ?_) rfl rfl (by kernel_rfl) (fun _ _ _ h => h) (Or.inl ⟨by rfl, ?_⟩) (by assumption) ?_
    rotate_left
    · (intro V hV; (try dsimp only at hV); go_simp; with_reducible rfl)
    try simp only [Act.put, List.setIfInBounds_toArray, List.set_cons_zero, List.set_cons_succ]
    refine wpAnyK_step (i := 9) (by kernel_rfl) rfl rfl (fun K hK => ?_)
    go_simp
    refine hK.out _ _ (fun _ _ => ⟨gd1, gd2⟩) ?_
    clear hK K hHeld gc1 gc2
    simp only [List.setIfInBounds_toArray]
    refine wpAnyK_step (i := 10) (by kernel_rfl) rfl rfl (fun K hK => ?_)
    go_simp
    refine hK.out _ _ (fun h hn => absurd (by simp) hn) ?_
    clear hK K
    simp only [List.setIfInBounds_toArray]
    refine wpAnyK_step (i := 11) (by kernel_rfl) rfl rfl (fun K hK => ?_)
    go_simp
    refine hK.out _ _ (fun h hn => absurd (by simp) hn) ?_
    clear hK K
    simp only [List.setIfInBounds_toArray]
    refine wpAnyK_done (by kernel_rfl) ?_ _
    (try simp only [Exit.then])
    go_wp2_with fail
    go_ret
    exact ⟨rfl, O, HEND.out.1, HEND.out.2⟩
  · have hx2 : (xo == m) = false := beq_eq_false_iff_ne.2 hx
    have HG : Hid (goN m ⟨xd, xn, xo, xu⟩ = true) := hide (by simp [goN, hx])
    rw [HG.out]
    rw [if_neg hx] at HF
    clear hx
    go_enter Try.func33, Try.ntmps33
    go_wp2_with fail
    go_quiet (fail)
    go_wp2_with fail
    go_ret
    have J := HJ.out
    refine ⟨rfl, O, ⟨J.o, J.n.drewN _, ?_, ?_, ?_, J.n0, J.n1, J.n2, J.n3, J.n4, J.n5⟩, ⟨rfl, rfl, rfl, Nat.le_refl _, fun k _ hk => ⟨rfl, hk⟩⟩⟩
    · rw [HF.out]
      have := J.d.drewN
      rw [HN.out] at this
      exact this _
    · rw [HF.out]
      have := J.w.drewN
      rw [HN.out] at this
      exact this _
    · rw [HF.out]
      have := J.f.drewN
      rw [HN.out] at this
      exact this _
end Go.Proofs.Ytnhfpaobocbieaa
