/- Contracts of the deferred closure, of run and of Eval. -/
import Derived.Test.YtglgldmofibedaaGreatDoorArK
import Derived.Test.YtglgldmofibedaaGreatDoorArL
import Derived.Defers
import Derived.Recover
namespace Go.Proofs.YtglgldmofibedaaGreatDoor
open Go.RowKit
set_option linter.unusedVariables false
/-- What errors.As asks for. -/
def StdE (w : World) : Prop := w.cell? ⟨1, 0, none⟩ = some (.iface 88 (.agg #[.pointer (some ⟨11, 49, none⟩)]))
theorem StdE.below {w w' : World} (h : StdE w) (hb : Below w.heap.size w w') : StdE w' := (hb.cell (World.block_lt_of_cell? w ⟨1, 0, none⟩ h)).trans h
theorem as_box (g : Nat) (x o : Int) (w : World) (hE : StdE w) (hb : Blk w g 52 #[.int .i64 o]) :
    Calls Tryz.prog 25 #[.iface 52 (.agg #[.int .i64 x]), .iface 54 (.pointer (some ⟨g, 0, none⟩))] w fun e w' => e = .returned (.bool true) ∧ Blk w' g 52 #[.int .i64 x] ∧ Below g w w' := by
  refine (as_hit x ⟨g, 0, none⟩ (.int .i64 o) w hE (hb.cell 0) (hb.frozen 0) (World.block_lt_of_cell? w ⟨1, 0, none⟩ hE)).mono ?_
  rintro e w' ⟨rfl, rfl⟩
  refine ⟨rfl, ?_, ?_⟩
  · exact (((((hb.alloc _).alloc _).alloc _).alloc _).set_ 0 _)
  · have hg := hb.lt
    refine Below.setCell (p := ⟨g, 0, none⟩) ?_ (Nat.le_refl _) _
    exact ((((Below.refl g w).alloc (by omega) _).alloc (by simp; omega) _).alloc (by simp; omega) _).alloc (by simp; omega) _
set_option maxRecDepth 100000 in
set_option maxHeartbeats 4000000 in
theorem catch_panicking (g1 g2 : Nat) (a0 b0 : Int) (x : Int) (w : World) (hE : StdE w) (h1 : Blk w g1 3 #[.int .i64 a0]) (h2 : Blk w g2 23 #[.int .i64 b0]) (hne : g1 ≠ g2) (B : Nat) (hB1 : B ≤ g1) (hB2 : B ≤ g2) :
    CallsD Tryz.prog 24 #[.pointer (some ⟨g1, 0, none⟩), .pointer (some ⟨g2, 0, none⟩)] (.panicking ({ v := .iface 52 (.agg #[.int .i64 x]), recovered := false } :: [])) w fun e u' w' =>
      e = .returned (.tuple #[]) ∧ u' = .panicking ({ v := .iface 52 (.agg #[.int .i64 x]), recovered := true } :: []) ∧ Blk w' g1 3 #[.int .i64 0] ∧ Blk w' g2 23 #[.int .i64 x] ∧ Below B w w' := by
  have hta : ∀ w, (Instr.typeAssert (.iface 52 (.agg #[.int .i64 x])) 20 49 true).run Tryz.prog w = .ok (.tuple #[.iface 52 (.agg #[.int .i64 x]), .bool true]) w := fun w => Go.run_typeAssert_hasB Tryz.underlying49 (by kernel_rfl) _ _ w
  have g1l := h1.lt
  have g2l := h2.lt
  have HE := hide hE
  have hEl := World.block_lt_of_cell? w ⟨1, 0, none⟩ hE
  have H1 := hide h1
  have H2 := hide h2
  clear hE h1 h2
  refine callsD_of_wpS Tryz.func24 rfl fun c₀ cs hu => ?_
  apply wpS_seq
  apply wpS_region
  simp [wpOpsS, go_sem, recoverD, hu, Tryz.ntmps24, Exit.thenS, hta]
  refine wpS_of_wp ?_
  rw [show (Array.replicate 15 (undef : Value)) = #[undef, undef, undef, undef, undef, undef, undef, undef, undef, undef, undef, undef, undef, undef, undef] from rfl]
  simp only [List.setIfInBounds_toArray, List.set_cons_succ, List.set_cons_zero, List.append_toArray, List.cons_append, List.nil_append]
  clear hta
  go_wp2_with fail
  refine (as_box w.heap.size x 50 _ (HE.out.below ((Below.refl w.heap.size w).alloc (Nat.le_refl _) _)) (Blk.new w _ _)).mono ?_
  rintro e w1 ⟨rfl, hb1, hbel⟩
  have hbel2 : Below w.heap.size w w1 := ((Below.refl w.heap.size w).alloc (Nat.le_refl _) _).trans hbel
  have hA := H1.out.below hbel2 g1l
  have hB := H2.out.below hbel2 g2l
  have HB := hide hB
  have HA := hide hA
  have HBL := hide hbel2
  have c0 := hb1.cell 0
  have cA := hA.cell 0
  have fA := hA.frozen 0
  have cB := hB.cell 0
  have fB := hB.frozen 0
  have hl1 := hb1.lt
  clear hb1 hbel hbel2 hA hB
  go_wp2_with fail
  refine ⟨rfl, _, rfl, _, results_none rfl _ _ _, rfl, rfl, (HA.out.set_ 0 _).far (by show g1 ≠ g2; exact hne) _, (HB.out.far (by show g2 ≠ g1; omega) _).set_ 0 _, ?_⟩
  exact ((HBL.out.mono (by omega)).setCell (p := ⟨g1, 0, none⟩) hB1 _).setCell (p := ⟨g2, 0, none⟩) hB2 _
set_option maxRecDepth 100000 in
set_option maxHeartbeats 4000000 in
theorem catch_idle (g1 g2 : Nat) (w : World) :
    CallsD Tryz.prog 24 #[.pointer (some ⟨g1, 0, none⟩), .pointer (some ⟨g2, 0, none⟩)] .returning w fun e u' w' => e = .returned (.tuple #[]) ∧ u' = .returning ∧ w' = w := by
  have hta : ∀ w, (Instr.typeAssert .nilIface 20 49 true).run Tryz.prog w = .ok (.tuple #[.nilIface, .bool false]) w := fun w => by kernel_rfl
  refine callsD_of_wpS Tryz.func24 rfl fun c₀ cs hu => ?_
  apply wpS_seq
  apply wpS_region
  simp [wpOpsS, go_sem, recoverD, hu, Tryz.ntmps24, Exit.thenS, hta]
  refine wpS_of_wp ?_
  rw [show (Array.replicate 15 (undef : Value)) = #[undef, undef, undef, undef, undef, undef, undef, undef, undef, undef, undef, undef, undef, undef, undef] from rfl]
  simp only [List.setIfInBounds_toArray, List.set_cons_succ, List.set_cons_zero, List.append_toArray, List.cons_append, List.nil_append]
  clear hta
  go_wp2_with fail
  refine ⟨rfl, .returning, ?_, _, results_none rfl _ _ _, rfl, rfl, rfl⟩
  cases c₀
  simp_all
end Go.Proofs.YtglgldmofibedaaGreatDoor
