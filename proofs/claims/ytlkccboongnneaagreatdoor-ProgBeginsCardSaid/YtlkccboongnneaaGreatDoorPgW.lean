/- A child in a box: its start. -/
import Derived.Test.YtlkccboongnneaaGreatDoorPgV
namespace Go.Proofs.YtlkccboongnneaaGreatDoor
open Go.RowKit
set_option linter.unusedVariables false
set_option maxRecDepth 100000 in
set_option maxHeartbeats 4000000 in
theorem start_known (B g f : Nat) (p p' : PR) (s : PS) (w : World) (h : RunAt B g p s w) (hB : B ≤ w.heap.size) (hF : Hid (prgF p.prog = some f)) (hl : p.prog.length ≤ maxLen) (hE : ∀ args w, (callFunc f args).run Tryz.prog w = .ok (.enter f args) w)
    (X : Hid (∀ w2, RunAt B g p s w2 → Below B w w2 → B ≤ w2.heap.size → Calls Tryz.prog f #[.pointer (some ⟨g, 0, none⟩)] w2 fun e w' => e = .returned (.tuple #[]) ∧ (∃ s', RunAt B g p' s' w') ∧ Below B w2 w')) :
    Calls Tryz.prog 28 #[.pointer (some ⟨g, 0, none⟩)] w fun e w' => e = .returned (.tuple #[]) ∧ (∃ s', RunAt B g p' s' w') ∧ Below B w w' := by
  have H := hide h
  have c1 := h.blk.cell 1
  simp only [List.getElem?_toArray, List.getElem?_cons_succ, List.getElem?_cons_zero] at c1
  clear h
  go_enter Tryz.func28, Tryz.ntmps28
  go_wp2_with fail
  refine wp_region_K (fun V => V.cell? ⟨g, 1, none⟩ = some (.string ⟨p.prog.toArray⟩)) [] rfl c1 (fun hHeld => ?_)
  refine wpAnyK_take (i := 1) (v := ?_) rfl rfl (by kernel_rfl) (fun _ _ _ h => h) (Or.inl ⟨by rfl, ?_⟩) (by assumption) ?_
  rotate_left
  · (intro V hV; (try dsimp only at hV); go_simp; with_reducible rfl)
  try simp only [Act.put, List.setIfInBounds_toArray, List.set_cons_zero, List.set_cons_succ]
  refine wpAnyK_take (i := 2) (v := ?_) rfl rfl (by kernel_rfl) (fun _ _ _ h => h) (Or.inl ⟨by rfl, ?_⟩) (by assumption) ?_
  rotate_left
  · (intro V hV; (try dsimp only at hV); go_simp; with_reducible rfl)
  try simp only [Act.put, List.setIfInBounds_toArray, List.set_cons_zero, List.set_cons_succ]
  refine wpAnyK_take (i := 3) (v := ?_) rfl rfl (by kernel_rfl) (fun _ _ _ h => h) (Or.inl ⟨by rfl, ?_⟩) (by assumption) ?_
  rotate_left
  · (intro V hV; (try dsimp only at hV); go_simp; with_reducible rfl)
  try simp only [Act.put, List.setIfInBounds_toArray, List.set_cons_zero, List.set_cons_succ]
  refine wpAnyK_take (i := 4) (v := ?_) rfl rfl (by kernel_rfl) (fun _ _ _ h => h) (Or.inl ⟨by rfl, ?_⟩) (by assumption) ?_
  rotate_left
  · (intro V hV; (try dsimp only at hV); go_simp; with_reducible rfl)
  try simp only [Act.put, List.setIfInBounds_toArray, List.set_cons_zero, List.set_cons_succ]
  refine wpAnyK_take (i := 5) (v := ?_) rfl rfl (by kernel_rfl) (fun _ _ _ h => h) (Or.inl ⟨by rfl, ?_⟩) (by assumption) ?_
  rotate_left
  · (intro V hV; (try dsimp only at hV); go_simp; with_reducible rfl)
  try simp only [Act.put, List.setIfInBounds_toArray, List.set_cons_zero, List.set_cons_succ]
  refine wpAnyK_step (i := 0) (by kernel_rfl) rfl rfl (fun K hK => ?_)
  go_simp
  refine (starts_any w.drew).mono ?_
  rintro e w2 ⟨rfl, ho, hb⟩
  have H2 := hide ((H.out.below ((Below.refl w.heap.size w).drew)).below hb)
  have HB2 : Hid (Below B w w2) := hide ((Below.refl B w).drew.trans (hb.mono hB))
  have hB2 : B ≤ w2.heap.size := Nat.le_trans hB hb.size
  have d1 := H2.out.blk.cell 1
  simp only [List.getElem?_toArray, List.getElem?_cons_succ, List.getElem?_cons_zero] at d1
  refine hK.out _ _ (fun _ _ => d1) ?_
  simp only [List.setIfInBounds_toArray]
  obtain ⟨f', hF', hrun⟩ : ∃ f', prgF p.prog = some f' ∧ (Instr.lookup 63 (.map (some w.heap.size)) (.string ⟨p.prog.toArray⟩) true).run Tryz.prog w2 = .ok (.tuple #[.func (.func f') #[] #[], .bool true]) w2 := by
    rcases look_any p.prog hl w.heap.size w2 ho with ⟨h1, _⟩ | h1
    · rw [hF.out] at h1; cases h1
    · exact h1
  obtain rfl : f = f' := by rw [hF.out] at hF'; injection hF'
  clear hK K hb ho hHeld d1 c1 hF'
  refine wpAnyK_step (i := 6) (by kernel_rfl) rfl rfl (fun K hK => ?_)
  go_simp
  refine hK.out _ _ (fun h _ => h) ?_
  clear hK K
  simp only [List.setIfInBounds_toArray]
  refine wpAnyK_takeF (i := 7) (v := ?_) rfl rfl (by kernel_rfl) (fun _ _ _ h => h) (Or.inl ⟨by rfl, ?_⟩) ?_
  rotate_left
  · (intro V hV; go_simp; with_reducible rfl)
  try simp only [Act.put, List.setIfInBounds_toArray, List.set_cons_zero, List.set_cons_succ]
  refine wpAnyK_takeF (i := 8) (v := ?_) rfl rfl (by kernel_rfl) (fun _ _ _ h => h) (Or.inl ⟨by rfl, ?_⟩) ?_
  rotate_left
  · (intro V hV; go_simp; with_reducible rfl)
  try simp only [Act.put, List.setIfInBounds_toArray, List.set_cons_zero, List.set_cons_succ]
  refine wpAnyK_takeF (i := 9) (v := ?_) rfl rfl (by kernel_rfl) (fun _ _ _ h => h) (Or.inl ⟨by rfl, ?_⟩) ?_
  rotate_left
  · (intro V hV; go_simp; with_reducible rfl)
  try simp only [Act.put, List.setIfInBounds_toArray, List.set_cons_zero, List.set_cons_succ]
  refine wpAnyK_step (i := 10) (by kernel_rfl) rfl rfl (fun K hK => ?_)
  go_simp
  refine hK.out _ _ (fun h _ => h) ?_
  clear hK K
  simp only [List.setIfInBounds_toArray]
  refine wpAnyK_step (i := 11) (by kernel_rfl) rfl rfl (fun K hK => ?_)
  go_simp
  refine hK.out _ _ (fun h _ => h) ?_
  clear hK K
  simp only [List.setIfInBounds_toArray]
  refine wpAnyK_done (by kernel_rfl) ?_ _
  (try simp only [Exit.then])
  go_at_K
  have X2 := hide (X.out w2 H2.out HB2.out hB2)
  clear X hrun
  go_wp2_with fail
  refine X2.out.mono ?_
  rintro e w3 ⟨rfl, h3, hb3⟩
  have H3 := hide h3
  have HB3 := hide (HB2.out.trans hb3)
  clear h3 hb3 X2
  go_wp2_with fail
  go_end0
  exact ⟨rfl, H3.out, HB3.out⟩
set_option maxRecDepth 100000 in
set_option maxHeartbeats 4000000 in
theorem start_none (B g : Nat) (p : PR) (s : PS) (w : World) (h : RunAt B g p s w) (hB : B ≤ w.heap.size) (hF : Hid (prgF p.prog = none)) (hl : p.prog.length ≤ maxLen) :
    Calls Tryz.prog 28 #[.pointer (some ⟨g, 0, none⟩)] w fun e w' => e = .returned (.tuple #[]) ∧ (∃ s', RunAt B g { p with phase := 4, status := 127 } s' w') ∧ Below B w w' := by
  have H := hide h
  have c1 := h.blk.cell 1
  simp only [List.getElem?_toArray, List.getElem?_cons_succ, List.getElem?_cons_zero] at c1
  clear h
  go_enter Tryz.func28, Tryz.ntmps28
  go_wp2_with fail
  refine wp_region_K (fun V => V.cell? ⟨g, 1, none⟩ = some (.string ⟨p.prog.toArray⟩)) [] rfl c1 (fun hHeld => ?_)
  refine wpAnyK_take (i := 1) (v := ?_) rfl rfl (by kernel_rfl) (fun _ _ _ h => h) (Or.inl ⟨by rfl, ?_⟩) (by assumption) ?_
  rotate_left
  · (intro V hV; (try dsimp only at hV); go_simp; with_reducible rfl)
  try simp only [Act.put, List.setIfInBounds_toArray, List.set_cons_zero, List.set_cons_succ]
  refine wpAnyK_take (i := 2) (v := ?_) rfl rfl (by kernel_rfl) (fun _ _ _ h => h) (Or.inl ⟨by rfl, ?_⟩) (by assumption) ?_
  rotate_left
  · (intro V hV; (try dsimp only at hV); go_simp; with_reducible rfl)
  try simp only [Act.put, List.setIfInBounds_toArray, List.set_cons_zero, List.set_cons_succ]
  refine wpAnyK_take (i := 3) (v := ?_) rfl rfl (by kernel_rfl) (fun _ _ _ h => h) (Or.inl ⟨by rfl, ?_⟩) (by assumption) ?_
  rotate_left
  · (intro V hV; (try dsimp only at hV); go_simp; with_reducible rfl)
  try simp only [Act.put, List.setIfInBounds_toArray, List.set_cons_zero, List.set_cons_succ]
  refine wpAnyK_take (i := 4) (v := ?_) rfl rfl (by kernel_rfl) (fun _ _ _ h => h) (Or.inl ⟨by rfl, ?_⟩) (by assumption) ?_
  rotate_left
  · (intro V hV; (try dsimp only at hV); go_simp; with_reducible rfl)
  try simp only [Act.put, List.setIfInBounds_toArray, List.set_cons_zero, List.set_cons_succ]
  refine wpAnyK_take (i := 5) (v := ?_) rfl rfl (by kernel_rfl) (fun _ _ _ h => h) (Or.inl ⟨by rfl, ?_⟩) (by assumption) ?_
  rotate_left
  · (intro V hV; (try dsimp only at hV); go_simp; with_reducible rfl)
  try simp only [Act.put, List.setIfInBounds_toArray, List.set_cons_zero, List.set_cons_succ]
  refine wpAnyK_step (i := 0) (by kernel_rfl) rfl rfl (fun K hK => ?_)
  go_simp
  refine (starts_any w.drew).mono ?_
  rintro e w2 ⟨rfl, ho, hb⟩
  have H2 := hide ((H.out.below ((Below.refl w.heap.size w).drew)).below hb)
  have HB2 : Hid (Below B w w2) := hide ((Below.refl B w).drew.trans (hb.mono hB))
  have hB2 : B ≤ w2.heap.size := Nat.le_trans hB hb.size
  have d1 := H2.out.blk.cell 1
  simp only [List.getElem?_toArray, List.getElem?_cons_succ, List.getElem?_cons_zero] at d1
  refine hK.out _ _ (fun _ _ => d1) ?_
  simp only [List.setIfInBounds_toArray]
  obtain ⟨v, hrun⟩ : ∃ v, (Instr.lookup 63 (.map (some w.heap.size)) (.string ⟨p.prog.toArray⟩) true).run Tryz.prog w2 = .ok (.tuple #[v, .bool false]) w2 := by
    rcases look_any p.prog hl w.heap.size w2 ho with ⟨_, h1⟩ | ⟨f, h1, _⟩
    · exact h1
    · rw [hF.out] at h1; cases h1
  clear hK K hb ho hHeld d1 c1
  refine wpAnyK_step (i := 6) (by kernel_rfl) rfl rfl (fun K hK => ?_)
  go_simp
  refine hK.out _ _ (fun h _ => h) ?_
  clear hK K
  simp only [List.setIfInBounds_toArray]
  refine wpAnyK_takeF (i := 7) (v := ?_) rfl rfl (by kernel_rfl) (fun _ _ _ h => h) (Or.inl ⟨by rfl, ?_⟩) ?_
  rotate_left
  · (intro V hV; go_simp; with_reducible rfl)
  try simp only [Act.put, List.setIfInBounds_toArray, List.set_cons_zero, List.set_cons_succ]
  refine wpAnyK_takeF (i := 8) (v := ?_) rfl rfl (by kernel_rfl) (fun _ _ _ h => h) (Or.inl ⟨by rfl, ?_⟩) ?_
  rotate_left
  · (intro V hV; go_simp; with_reducible rfl)
  try simp only [Act.put, List.setIfInBounds_toArray, List.set_cons_zero, List.set_cons_succ]
  refine wpAnyK_takeF (i := 9) (v := ?_) rfl rfl (by kernel_rfl) (fun _ _ _ h => h) (Or.inl ⟨by rfl, ?_⟩) ?_
  rotate_left
  · (intro V hV; go_simp; with_reducible rfl)
  try simp only [Act.put, List.setIfInBounds_toArray, List.set_cons_zero, List.set_cons_succ]
  refine wpAnyK_step (i := 10) (by kernel_rfl) rfl rfl (fun K hK => ?_)
  go_simp
  refine hK.out _ _ (fun h _ => h) ?_
  clear hK K
  simp only [List.setIfInBounds_toArray]
  refine wpAnyK_step (i := 11) (by kernel_rfl) rfl rfl (fun K hK => ?_)
  go_simp
  refine hK.out _ _ (fun h _ => h) ?_
  clear hK K
  simp only [List.setIfInBounds_toArray]
  refine wpAnyK_done (by kernel_rfl) ?_ _
  (try simp only [Exit.then])
  go_at_K
  have X2 := hide (end_any B g p s 127 w2 H2.out)
  clear hrun
  go_wp2_with fail
  refine X2.out.mono ?_
  rintro e w3 ⟨rfl, h3, hb3⟩
  have H3 := hide h3
  have HB3 := hide (HB2.out.trans hb3)
  clear h3 hb3 X2
  go_wp2_with fail
  (try simp only [Exit.inBlock, Exit.then])
  refine bodyPost_ret (results_none rfl _ _ _) rfl ?_
  exact ⟨rfl, ⟨_, H3.out⟩, HB3.out⟩
/-- The programs whose start is told here. -/
def toldB (l : Bs) : Prop := prgF l = none ∨ l = nEcho ∨ l = nCat ∨ l = nWc ∨ l = nHead ∨ l = nTr
theorem startP_none {p : PR} (h : prgF p.prog = none) : startP p = { p with phase := 4, status := 127 } := by
  unfold prgF at h
  unfold startP
  have e1 : p.prog ≠ nEcho := by intro e; rw [e] at h; simp [nEcho] at h
  have e2 : p.prog ≠ nCat := by intro e; rw [e] at h; simp [nCat] at h
  have e3 : p.prog ≠ nWc := by intro e; rw [e] at h; simp [nWc] at h
  have e4 : p.prog ≠ nHead := by intro e; rw [e] at h; simp [nHead] at h
  have e5 : p.prog ≠ nTr := by intro e; rw [e] at h; simp [nTr] at h
  rw [if_neg e1, if_neg (fun e => e.elim e2 e3), if_neg e4, if_neg e5]
theorem start_any (B g : Nat) (p : PR) (s : PS) (w : World) (h : RunAt B g p s w) (hB : B ≤ w.heap.size) (hf : FitP p) (hS : StB B w) (hj : (Lib.join p.args.tail [32]).length ≤ 400000) (ht : toldB p.prog) :
    Calls Tryz.prog 28 #[.pointer (some ⟨g, 0, none⟩)] w fun e w' => e = .returned (.tuple #[]) ∧ (∃ s', RunAt B g (startP p) s' w') ∧ Below B w w' := by
  have hl : p.prog.length ≤ maxLen := by have := hf.pr; unfold maxLen; omega
  rcases ht with hp | hp | hp | hp | hp | hp
  · rw [startP_none hp]
    exact start_none B g p s w h hB hp hl
  · rw [show startP p = { p with buf := Lib.join p.args.tail [32] ++ [10], phase := 3 } from by unfold startP; rw [if_pos hp]]
    refine start_known B g 38 p _ s w h hB (by rw [hp]; exact hide rfl) hl (enters_of Tryz.func38 (by kernel_rfl) rfl) (hide fun w2 h2 hb2 hB2 => ?_)
    exact startEcho_any B g p s w2 h2 hB2 hj
  · rw [show startP p = { p with phase := 1 } from by unfold startP; rw [if_neg (by rw [hp]; decide), if_pos (.inl hp)]]
    refine start_known B g 39 p _ s w h hB (by rw [hp]; exact hide rfl) hl (enters_of Tryz.func39 (by kernel_rfl) rfl) (hide fun w2 h2 hb2 hB2 => ?_)
    exact (reading_any B g p s w2 h2).mono fun e w' ⟨h1, h2, h3⟩ => ⟨h1, ⟨s, h2⟩, h3⟩
  · rw [show startP p = { p with phase := 1 } from by unfold startP; rw [if_neg (by rw [hp]; decide), if_pos (.inr hp)]]
    refine start_known B g 39 p _ s w h hB (by rw [hp]; exact hide rfl) hl (enters_of Tryz.func39 (by kernel_rfl) rfl) (hide fun w2 h2 hb2 hB2 => ?_)
    exact (reading_any B g p s w2 h2).mono fun e w' ⟨h1, h2, h3⟩ => ⟨h1, ⟨s, h2⟩, h3⟩
  · rw [show startP p = startHeadP p from by unfold startP startHeadP; rw [if_neg (by rw [hp]; decide), if_neg (by rw [hp]; decide), if_pos hp]]
    refine start_known B g 40 p _ s w h hB (by rw [hp]; exact hide rfl) hl (enters_of Tryz.func40 (by kernel_rfl) rfl) (hide fun w2 h2 hb2 hB2 => ?_)
    exact (startHead_any B g p s w2 h2 hf (hS.keep hb2) hB2).mono fun e w' ⟨h1, h2, h3⟩ => ⟨h1, ⟨s, h2⟩, h3⟩
  · rw [show startP p = startTrP p from by unfold startP startTrP; rw [if_neg (by rw [hp]; decide), if_neg (by rw [hp]; decide), if_neg (by rw [hp]; decide), if_pos hp]]
    refine start_known B g 41 p _ s w h hB (by rw [hp]; exact hide rfl) hl (enters_of Tryz.func41 (by kernel_rfl) rfl) (hide fun w2 h2 hb2 hB2 => ?_)
    exact (startTr_any B g p s w2 h2 hf hB2).mono fun e w' ⟨h1, h2, h3⟩ => ⟨h1, ⟨s, h2⟩, h3⟩
end Go.Proofs.YtlkccboongnneaaGreatDoor
