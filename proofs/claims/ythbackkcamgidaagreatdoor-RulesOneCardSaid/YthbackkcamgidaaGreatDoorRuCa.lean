/- The deferred closure of parse. -/
import Derived.Test.YthbackkcamgidaaGreatDoorRuAs
import Derived.Test.YthbackkcamgidaaGreatDoorRuLi
import Derived.Defers
import Derived.Recover
namespace Go.Proofs.YthbackkcamgidaaGreatDoor
open Go Go.RowKit
set_option linter.unusedVariables false
/-- What errors.As asks for. -/
def StdE (w : World) : Prop := w.cell? ⟨1, 0, none⟩ = some (.iface 122 (.agg #[.pointer (some ⟨5, 60, none⟩)]))
theorem StdE.below {w w' : World} (h : StdE w) (hb : Below w.heap.size w w') : StdE w' := (hb.cell (World.block_lt_of_cell? w ⟨1, 0, none⟩ h)).trans h
theorem as_box (g : Nat) (x o : Int) (w : World) (hE : StdE w) (hb : Blk w g 63 #[.int .i64 o]) :
    Calls Tryz.prog 42 #[.iface 63 (.agg #[.int .i64 x]), .iface 65 (.pointer (some ⟨g, 0, none⟩))] w fun e w' => e = .returned (.bool true) ∧ Blk w' g 63 #[.int .i64 x] ∧ Below g w w' := by
  refine (as_hit x ⟨g, 0, none⟩ (.int .i64 o) w hE (hb.cell 0) (hb.frozen 0) (World.block_lt_of_cell? w ⟨1, 0, none⟩ hE)).mono ?_
  rintro e w' ⟨rfl, rfl⟩
  refine ⟨rfl, ?_, ?_⟩
  · exact (((((hb.alloc _).alloc _).alloc _).alloc _).set_ 0 _)
  · have hg := hb.lt
    refine Below.setCell (p := ⟨g, 0, none⟩) ?_ (Nat.le_refl _) _
    exact ((((Below.refl g w).alloc (by omega) _).alloc (by simp; omega) _).alloc (by simp; omega) _).alloc (by simp; omega) _
set_option maxRecDepth 100000 in
set_option maxHeartbeats 4000000 in
theorem catch_panicking (g1 g2 : Nat) (a0 a1 a2 b0 : Value) (x : Int) (w : World) (hE : StdE w) (h1 : Blk w g1 26 #[a0, a1, a2]) (h2 : Blk w g2 3 #[b0]) (hne : g1 ≠ g2) (B : Nat) (hB1 : B ≤ g1) (hB2 : B ≤ g2) :
    CallsD Tryz.prog 41 #[.pointer (some ⟨g1, 0, none⟩), .pointer (some ⟨g2, 0, none⟩)] (.panicking ({ v := .iface 63 (.agg #[.int .i64 x]), recovered := false } :: [])) w fun e u' w' =>
      e = .returned (.tuple #[]) ∧ u' = .panicking ({ v := .iface 63 (.agg #[.int .i64 x]), recovered := true } :: []) ∧ Blk w' g1 26 #[.string ⟨#[]⟩, .slice none 0 0, .slice none 0 0] ∧ Blk w' g2 3 #[.int .i64 x] ∧ Below B w w' := by
  have hta : ∀ w, (Instr.typeAssert (.iface 63 (.agg #[.int .i64 x])) 20 60 true).run Tryz.prog w = .ok (.tuple #[.iface 63 (.agg #[.int .i64 x]), .bool true]) w := fun w => Go.run_typeAssert_hasB Tryz.underlying60 (by kernel_rfl) _ _ w
  have g1l := h1.lt
  have g2l := h2.lt
  have HE := hide hE
  have hEl := World.block_lt_of_cell? w ⟨1, 0, none⟩ hE
  have H1 := hide h1
  have H2 := hide h2
  clear hE h1 h2
  refine callsD_of_wpS Tryz.func41 rfl fun c₀ cs hu => ?_
  apply wpS_seq
  apply wpS_region
  simp [wpOpsS, go_sem, recoverD, hu, Tryz.ntmps41, Exit.thenS, hta]
  refine wpS_of_wp ?_
  rw [show (Array.replicate 16 (undef : Value)) = #[undef, undef, undef, undef, undef, undef, undef, undef, undef, undef, undef, undef, undef, undef, undef, undef] from rfl]
  simp only [List.setIfInBounds_toArray, List.set_cons_succ, List.set_cons_zero, List.append_toArray, List.cons_append, List.nil_append]
  clear hta
  go_wp2_with fail
  refine (as_box w.heap.size x 1 _ (HE.out.below ((Below.refl w.heap.size w).alloc (Nat.le_refl _) _)) (Blk.new w _ _)).mono ?_
  rintro e w1 ⟨rfl, hb1, hbel⟩
  have hbel2 : Below w.heap.size w w1 := ((Below.refl w.heap.size w).alloc (Nat.le_refl _) _).trans hbel
  have hA := H1.out.below hbel2 g1l
  have hB := H2.out.below hbel2 g2l
  have HB := hide hB
  have HA := hide hA
  have HBL := hide hbel2
  have c0 := hb1.cell 0
  have cA := hA.cell 0
  have fA := hA.frozen 0
  have cA1 := hA.cell 1
  have fA1 := hA.frozen 1
  have cA2 := hA.cell 2
  have fA2 := hA.frozen 2
  have cB := hB.cell 0
  have fB := hB.frozen 0
  have hl1 := hb1.lt
  clear hb1 hbel hbel2 hA hB
  go_wp2_with fail
  refine ⟨rfl, _, rfl, _, results_none rfl _ _ _, rfl, rfl, ?_, ?_, ?_⟩
  · exact (((HA.out.set_ 0 _).set_ 1 _).set_ 2 _).far (by show g1 ≠ g2; exact hne) _
  · exact (((HB.out.far (by show g2 ≠ g1; omega) _).far (by show g2 ≠ g1; omega) _).far (by show g2 ≠ g1; omega) _).set_ 0 _
  exact ((((HBL.out.mono (by omega)).setCell (p := ⟨g1, 0, none⟩) hB1 _).setCell (p := ⟨g1, 1, none⟩) hB1 _).setCell (p := ⟨g1, 2, none⟩) hB1 _).setCell (p := ⟨g2, 0, none⟩) hB2 _
set_option maxRecDepth 100000 in
set_option maxHeartbeats 4000000 in
theorem catch_idle (g1 g2 : Nat) (w : World) :
    CallsD Tryz.prog 41 #[.pointer (some ⟨g1, 0, none⟩), .pointer (some ⟨g2, 0, none⟩)] .returning w fun e u' w' => e = .returned (.tuple #[]) ∧ u' = .returning ∧ w' = w := by
  have hta : ∀ w, (Instr.typeAssert .nilIface 20 60 true).run Tryz.prog w = .ok (.tuple #[.nilIface, .bool false]) w := fun w => by kernel_rfl
  refine callsD_of_wpS Tryz.func41 rfl fun c₀ cs hu => ?_
  apply wpS_seq
  apply wpS_region
  simp [wpOpsS, go_sem, recoverD, hu, Tryz.ntmps41, Exit.thenS, hta]
  refine wpS_of_wp ?_
  rw [show (Array.replicate 16 (undef : Value)) = #[undef, undef, undef, undef, undef, undef, undef, undef, undef, undef, undef, undef, undef, undef, undef, undef] from rfl]
  simp only [List.setIfInBounds_toArray, List.set_cons_succ, List.set_cons_zero, List.append_toArray, List.cons_append, List.nil_append]
  clear hta
  go_wp2_with fail
  refine ⟨rfl, .returning, ?_, _, results_none rfl _ _ _, rfl, rfl, rfl⟩
  cases c₀
  simp_all
end Go.Proofs.YthbackkcamgidaaGreatDoor
