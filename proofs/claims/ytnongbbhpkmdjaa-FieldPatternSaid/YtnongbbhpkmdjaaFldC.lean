/- The contracts of enter, flush and close. -/
import Derived.Test.YtnongbbhpkmdjaaFldB
namespace Go.Proofs.Ytnongbbhpkmdjaa
open Go.RowKit
set_option linter.unusedVariables false
variable {X : Option (Nat × Array Value)}
theorem CS.enter_yes (s : CS) (h : s.op = true) : s.enter = s := by unfold CS.enter; rw [if_pos h]
theorem CS.enter_no (s : CS) (h : s.op = false) : s.enter = { s with op := true, begins := s.begins ++ [s.counted] } := by unfold CS.enter; rw [if_neg (by rw [h]; decide)]
theorem own_same {w : World} {base e size n : Nat} {v : Value} {xs ys : List Value} (h : w.ownsRow base e size v n xs) (h' : w.ownsRow base e size v n ys) : ys = xs := by
  rcases h.2 with ⟨rfl, rfl⟩ | ⟨g, cap, cur, rfl, _, hh, _, _, _, ht⟩
  · have h1 := h.1
    have h2 := h'.1
    simp at h1 h2
    rw [h1, h2]
  · rcases h'.2 with ⟨e1, _⟩ | ⟨g', cap', cur', e1, _, hh', _, _, _, ht'⟩
    · cases e1
    · injection e1 with e1 e2 e3
      injection e1 with e1
      injection e1 with e1
      subst e1
      rw [hh] at hh'
      injection hh' with hh'
      injection hh' with hh'
      rw [← ht, ← ht', hh']
theorem CS.close_yes (s : CS) (h : s.op = true) : s.close = { s.flush with fields := s.flush.fields ++ [s.flush.pieces], pieces := [], op := false } := by unfold CS.close; rw [if_pos h]; rfl
set_option maxRecDepth 100000 in
set_option maxHeartbeats 8000000 in
theorem enter_any (B g : Nat) (ifs : LB) (s : CS) (w : World) (hK : s.Le 1000000) (hB : B ≤ w.heap.size) (H : SAt B w g ifs X s) :
    Calls Try.prog 42 #[.pointer (some ⟨g, 0, none⟩)] w fun e w' => e = .returned (.tuple #[]) ∧ SAt B w' g ifs X s.enter ∧ Below B w w' := by
  obtain ⟨h, H⟩ := H
  have hgl := H.lt
  have hBg := H.hg
  cases ho : s.op with
  | true =>
    obtain ⟨⟨c0, c1, c2, c3, c4, c5, c6, c7⟩, f0, f1, f2, f3, f4, f5, f6, f7⟩ := H.blk.eight
    rw [ho] at c5
    have HE : Hid (s.enter = s) := hide (CS.enter_yes s ho)
    have HS := hide H
    clear H ho
    go_enter Try.func42, Try.ntmps42
    go_wp2_with fail
    go_end0
    refine ⟨rfl, ⟨h, ?_⟩, Below.refl _ _⟩
    rw [HE.out]; exact HS.out
  | false =>
    obtain ⟨⟨c0, c1, c2, c3, c4, c5, c6, c7⟩, f0, f1, f2, f3, f4, f5, f6, f7⟩ := H.blk.eight
    rw [ho] at c5
    have HE : Hid (s.enter = { s with op := true, begins := s.begins ++ [s.counted] }) := hide (CS.enter_no s ho)
    have HS1 := hide (H.setOp true)
    have HB1 : Hid (Below B w (w.setCell ⟨g, 5, none⟩ (.bool true))) := hide ((Below.refl B w).setCell (p := ⟨g, 5, none⟩) hBg _)
    obtain ⟨i0, hi, hz0, hz1, hz2⟩ := info_parts infoInt
    have hng : h.ng ≤ 1000000 := by have := H.go.len; have := hK.2.1; omega
    have hc8 : s.counted ≤ 1000000 := hK.2.2.2.2
    clear H ho
    go_enter Try.func42, Try.ntmps42
    go_wp2_with fail
    obtain ⟨W1, hW1⟩ : ∃ W, w.setCell ⟨g, 5, none⟩ (.bool true) = W := ⟨_, rfl⟩
    have hBW : B ≤ W1.heap.size := by rw [← hW1]; simpa using hB
    rw [hW1] at HS1 HB1 ⊢
    clear hW1 c0 c1 c2 c3 c4 c5 c6 c7 f0 f1 f2 f3 f4 f5 f6 f7 hgl
    have hgl := HS1.out.lt
    obtain ⟨⟨c0, c1, c2, c3, c4, c5, c6, c7⟩, f0, f1, f2, f3, f4, f5, f6, f7⟩ := HS1.out.blk.eight
    dsimp only at c7
    have HO := hide (World.ownsRow.alloc HS1.out.go (.cells #[.int .i64 (s.counted : Int)] 3))
    have HR := hide (one_int W1 s.counted)
    refine wp_region_M (fun V => V.cell? ⟨g, 2, none⟩ = some (.slice h.G h.ng h.cg) ∧ V.cell? ⟨g, 7, none⟩ = some (.int .i64 (s.counted : Int))) 13 rfl ⟨c2, c7⟩ (fun hHeld => ?_)
    refine wpAnyM_take (i := 0) (v := ?_) rfl rfl (by kernel_rfl) (fun _ _ _ h => h) (Or.inl ⟨by rfl, ?_⟩) (by assumption) ?_
    rotate_left
    · (intro V hV; (try dsimp only at hV); go_simp; with_reducible rfl)
    try simp only [Act.put, List.setIfInBounds_toArray, List.set_cons_zero, List.set_cons_succ]
    refine wpAnyM_take (i := 1) (v := ?_) rfl rfl (by kernel_rfl) (fun _ _ _ h => h) (Or.inl ⟨by rfl, ?_⟩) (by assumption) ?_
    rotate_left
    · (intro V hV; (try dsimp only at hV); go_simp; with_reducible rfl)
    try simp only [Act.put, List.setIfInBounds_toArray, List.set_cons_zero, List.set_cons_succ]
    refine wpAnyM_take (i := 2) (v := ?_) rfl rfl (by kernel_rfl) (fun _ _ _ h => h) (Or.inl ⟨by rfl, ?_⟩) (by assumption) ?_
    rotate_left
    · (intro V hV; (try dsimp only at hV); go_simp; with_reducible rfl)
    try simp only [Act.put, List.setIfInBounds_toArray, List.set_cons_zero, List.set_cons_succ]
    refine wpAnyM_take (i := 3) (v := ?_) rfl rfl (by kernel_rfl) (fun _ _ _ h => h) (Or.inl ⟨by rfl, ?_⟩) (by assumption) ?_
    rotate_left
    · (intro V hV; (try dsimp only at hV); go_simp; with_reducible rfl)
    try simp only [Act.put, List.setIfInBounds_toArray, List.set_cons_zero, List.set_cons_succ]
    refine wpAnyM_take (i := 4) (v := ?_) rfl rfl (by kernel_rfl) (fun _ _ _ h => h) (Or.inl ⟨by rfl, ?_⟩) (by assumption) ?_
    rotate_left
    · (intro V hV; (try dsimp only at hV); go_simp; with_reducible rfl)
    try simp only [Act.put, List.setIfInBounds_toArray, List.set_cons_zero, List.set_cons_succ]
    refine wpAnyM_take (i := 5) (v := ?_) rfl rfl (by kernel_rfl) (fun _ _ _ h => h) (Or.inl ⟨by rfl, ?_⟩) (by assumption) ?_
    rotate_left
    · (intro V hV; (try dsimp only at hV); go_simp; with_reducible rfl)
    try simp only [Act.put, List.setIfInBounds_toArray, List.set_cons_zero, List.set_cons_succ]
    refine wpAnyM_take (i := 6) (v := ?_) rfl rfl (by kernel_rfl) (fun _ _ _ h => h) (Or.inl ⟨by rfl, ?_⟩) (by assumption) ?_
    rotate_left
    · (intro V hV; (try dsimp only at hV); go_simp; with_reducible rfl)
    try simp only [Act.put, List.setIfInBounds_toArray, List.set_cons_zero, List.set_cons_succ]
    refine wpAnyM_take (i := 7) (v := ?_) rfl rfl (by kernel_rfl) (fun _ _ _ h => h) (Or.inl ⟨by rfl, ?_⟩) (by assumption) ?_
    rotate_left
    · (intro V hV; (try dsimp only at hV); go_simp; with_reducible rfl)
    try simp only [Act.put, List.setIfInBounds_toArray, List.set_cons_zero, List.set_cons_succ]
    refine wpAnyM_take (i := 8) (v := ?_) rfl rfl (by kernel_rfl) (fun _ _ _ h => h) (Or.inl ⟨by rfl, ?_⟩) (by assumption) ?_
    rotate_left
    · (intro V hV; (try dsimp only at hV); go_simp; with_reducible rfl)
    try simp only [Act.put, List.setIfInBounds_toArray, List.set_cons_zero, List.set_cons_succ]
    refine wpAnyM_step (i := 9) (by kernel_rfl) rfl rfl (fun K hK => ?_)
    go_simp
    refine hK.out _ _ (fun _ => ⟨?_, ?_⟩) ?_
    · exact (World.cell?_alloc_lt _ _ _ (by exact hgl)).trans c2
    · exact (World.cell?_alloc_lt _ _ _ (by exact hgl)).trans c7
    clear hK K hHeld
    simp only [List.setIfInBounds_toArray]
    refine wpAnyM_step (i := 10) (by kernel_rfl) rfl rfl (fun K hK => ?_)
    refine step_append_any _ rfl (.tmp 14) (.tmp 19) 40 rfl B 3 i0 _ 1 8 Try.underlying40 hi hz0 hz1 hz2 rfl (by omega) (.slice h.G h.ng h.cg) h.ng (ivs s.begins) rfl (by exact HO.out) (W1.heap.size + 1) (some ⟨W1.heap.size, 0, none⟩) 1 1 (ivs [s.counted]) rfl (by exact HR.out) (ivs_one _) (by unfold maxLen; omega) (by omega) (by simp; omega) ?_
    intro v1 W2 hown2 hg2 hat2
    have HG2 : Hid ((W1.alloc (.cells #[.int .i64 (s.counted : Int)] 3)).grownBy W2 (Value.slice h.G h.ng h.cg).ownBlock) := hide ⟨hg2.os, hg2.tape, hg2.output, hg2.size, hg2.block⟩
    obtain ⟨A2, x2, rfl, hbk, hfin⟩ := (HS1.out.alloc (.cells #[.int .i64 (s.counted : Int)] 3)).growG hown2 HG2.out
    have HF := hide hfin
    have hgl2 := hbk.lt
    obtain ⟨⟨d0, d1, d2, d3, d4, d5, d6, d7⟩, e0, e1, e2, e3, e4, e5, e6, e7⟩ := hbk.eight
    dsimp only at d7
    refine hK.out _ _ (fun _ => ⟨d2, d7⟩) ?_
    have HB2 : Hid (Below B w W2) := hide (below_grow HB1.out hBW HS1.out.go HG2.out)
    have HH : (fun V : World => V.cell? ⟨g, 2, none⟩ = some (.slice h.G h.ng h.cg) ∧ V.cell? ⟨g, 7, none⟩ = some (.int .i64 (s.counted : Int))) W2 := ⟨d2, d7⟩
    clear hK K hown2 hg2 hat2 hfin hbk c0 c1 c2 c3 c4 c5 c6 c7 f0 f1 f2 f3 f4 f5 f6 f7 HG2 HO HR
    simp only [List.setIfInBounds_toArray]
    refine wpAnyM_take (i := 11) (v := ?_) rfl rfl (by kernel_rfl) (fun _ _ _ h => h) (Or.inl ⟨by rfl, ?_⟩) (by assumption) ?_
    rotate_left
    · (intro V hV; (try dsimp only at hV); go_simp; with_reducible rfl)
    try simp only [Act.put, List.setIfInBounds_toArray, List.set_cons_zero, List.set_cons_succ]
    refine wpAnyM_take (i := 12) (v := ?_) rfl rfl (by kernel_rfl) (fun _ _ _ h => h) (Or.inl ⟨by rfl, ?_⟩) (by assumption) ?_
    rotate_left
    · (intro V hV; (try dsimp only at hV); go_simp; with_reducible rfl)
    try simp only [Act.put, List.setIfInBounds_toArray, List.set_cons_zero, List.set_cons_succ]
    refine wpAnyM_step (i := 13) (by kernel_rfl) rfl rfl (fun K hK => ?_)
    go_simp
    refine hK.out _ _ (fun h => absurd rfl h) ?_
    refine wpAnyM_done (by kernel_rfl) ?_ _
    clear hK K HH
    go_wp2
    go_end0
    refine ⟨rfl, ?_, HB2.out.setCell (p := ⟨g, 2, none⟩) hBg _⟩
    rw [HE.out]
    exact ⟨_, HF.out⟩
theorem CS.flush_none (s : CS) (h : s.text = []) : s.flush = { s with text := [] } := by unfold CS.flush; rw [if_pos h]
theorem CS.flush_some (s : CS) (h : s.text ≠ []) : s.flush = { s with pieces := s.pieces ++ [(s.text, false)], text := [] } := by unfold CS.flush; rw [if_neg h]
set_option maxRecDepth 100000 in
set_option maxHeartbeats 8000000 in
theorem flush_any (B g : Nat) (ifs : LB) (s : CS) (w : World) (hK : s.Le 1000000) (hB : B ≤ w.heap.size) (H : SAt B w g ifs X s) :
    Calls Try.prog 43 #[.pointer (some ⟨g, 0, none⟩)] w fun e w' => e = .returned (.tuple #[]) ∧ SAt B w' g ifs X s.flush ∧ Below B w w' := by
  obtain ⟨h, H⟩ := H
  have hgl := H.lt
  have hBg := H.hg
  have hnt := H.to.len
  obtain ⟨⟨c0, c1, c2, c3, c4, c5, c6, c7⟩, f0, f1, f2, f3, f4, f5, f6, f7⟩ := H.blk.eight
  by_cases ho : s.text = []
  · have hn0 : h.nt = 0 := by rw [← hnt, ho]; rfl
    rw [hn0] at c4
    have HE : Hid (s.flush = { s with text := [] }) := hide (CS.flush_none s ho)
    have HS := hide H.noText
    clear H ho hn0 hnt
    go_enter Try.func43, Try.ntmps43
    go_wp2_with fail
    go_end0
    refine ⟨rfl, ?_, (Below.refl B w).setCell (p := ⟨g, 4, none⟩) hBg _⟩
    rw [HE.out]; exact ⟨_, HS.out⟩
  · have hn0 : 0 < h.nt := by rw [← hnt]; exact List.length_pos_iff.2 ho
    have HE : Hid (s.flush = { s with pieces := s.pieces ++ [(s.text, false)], text := [] }) := hide (CS.flush_some s ho)
    have HS1 := hide H
    obtain ⟨i0, hi, hz0, hz1, hz2⟩ := info_parts infoPc
    have hng : h.np ≤ 1000000 := by have := H.po.len; have := hK.2.2.1; omega
    have hcv := fun W (hh : Reads W W.heap.size 1 h.T h.nt (bv s.text)) => run_string_of (P := Try.prog) W W.heap.size 41 9 5 h.T h.nt h.ct s.text Try.underlying41 Try.underlying5 Try.underlying9 hh
    have hrt : Reads w w.heap.size 1 h.T h.nt (bv s.text) := Reads.of_own H.to
    have hcw := hcv w hrt
    have hn1 : (0 : Int) < (h.nt : Int) := by omega
    have HRT := hide hrt
    have HCV := hide hcv
    clear H ho hnt hcv hrt
    have HO := hide (World.ownsRow.alloc HS1.out.po (.cells #[.string ⟨s.text.toArray⟩, .bool false, .bool false, .bool false] 35))
    have HR := hide (one_pc w (s.text, false))
    go_enter Try.func43, Try.ntmps43
    go_wp2_with fail
    refine wp_region_M (fun V => V.cell? ⟨g, 3, none⟩ = some (.slice h.P h.np h.cp) ∧ V.cell? ⟨g, 4, none⟩ = some (.slice h.T h.nt h.ct) ∧ (convert 41 9 (.slice h.T h.nt h.ct)).run Try.prog V = .ok (.string ⟨s.text.toArray⟩) V) 15 rfl ⟨c3, c4, HCV.out _ HRT.out.drew⟩ (fun hHeld => ?_)
    refine wpAnyM_take (i := 0) (v := ?_) rfl rfl (by kernel_rfl) (fun _ _ _ h => h) (Or.inl ⟨by rfl, ?_⟩) (by assumption) ?_
    rotate_left
    · (intro V hV; (try dsimp only at hV); go_simp; with_reducible rfl)
    try simp only [Act.put, List.setIfInBounds_toArray, List.set_cons_zero, List.set_cons_succ]
    refine wpAnyM_take (i := 1) (v := ?_) rfl rfl (by kernel_rfl) (fun _ _ _ h => h) (Or.inl ⟨by rfl, ?_⟩) (by assumption) ?_
    rotate_left
    · (intro V hV; (try dsimp only at hV); go_simp; with_reducible rfl)
    try simp only [Act.put, List.setIfInBounds_toArray, List.set_cons_zero, List.set_cons_succ]
    refine wpAnyM_take (i := 2) (v := ?_) rfl rfl (by kernel_rfl) (fun _ _ _ h => h) (Or.inl ⟨by rfl, ?_⟩) (by assumption) ?_
    rotate_left
    · (intro V hV; (try dsimp only at hV); go_simp; with_reducible rfl)
    try simp only [Act.put, List.setIfInBounds_toArray, List.set_cons_zero, List.set_cons_succ]
    refine wpAnyM_take (i := 3) (v := ?_) rfl rfl (by kernel_rfl) (fun _ _ _ h => h) (Or.inl ⟨by rfl, ?_⟩) (by assumption) ?_
    rotate_left
    · (intro V hV; (try dsimp only at hV); go_simp; with_reducible rfl)
    try simp only [Act.put, List.setIfInBounds_toArray, List.set_cons_zero, List.set_cons_succ]
    refine wpAnyM_take (i := 4) (v := ?_) rfl rfl (by kernel_rfl) (fun _ _ _ h => h) (Or.inl ⟨by rfl, ?_⟩) (by assumption) ?_
    rotate_left
    · (intro V hV; (try dsimp only at hV); go_simp; with_reducible rfl)
    try simp only [Act.put, List.setIfInBounds_toArray, List.set_cons_zero, List.set_cons_succ]
    refine wpAnyM_take (i := 5) (v := ?_) rfl rfl (by kernel_rfl) (fun _ _ _ h => h) (Or.inl ⟨by rfl, ?_⟩) (by assumption) ?_
    rotate_left
    · (intro V hV; (try dsimp only at hV); go_simp; with_reducible rfl)
    try simp only [Act.put, List.setIfInBounds_toArray, List.set_cons_zero, List.set_cons_succ]
    refine wpAnyM_take (i := 6) (v := ?_) rfl rfl (by kernel_rfl) (fun _ _ _ h => h) (Or.inl ⟨by rfl, ?_⟩) (by assumption) ?_
    rotate_left
    · (intro V hV; (try dsimp only at hV); go_simp; with_reducible rfl)
    try simp only [Act.put, List.setIfInBounds_toArray, List.set_cons_zero, List.set_cons_succ]
    refine wpAnyM_take (i := 7) (v := ?_) rfl rfl (by kernel_rfl) (fun _ _ _ h => h) (Or.inl ⟨by rfl, ?_⟩) (by assumption) ?_
    rotate_left
    · (intro V hV; (try dsimp only at hV); go_simp; with_reducible rfl)
    try simp only [Act.put, List.setIfInBounds_toArray, List.set_cons_zero, List.set_cons_succ]
    refine wpAnyM_take (i := 8) (v := ?_) rfl rfl (by kernel_rfl) (fun _ _ _ h => h) (Or.inl ⟨by rfl, ?_⟩) (by assumption) ?_
    rotate_left
    · (intro V hV; (try dsimp only at hV); go_simp; with_reducible rfl)
    try simp only [Act.put, List.setIfInBounds_toArray, List.set_cons_zero, List.set_cons_succ]
    refine wpAnyM_take (i := 9) (v := ?_) rfl rfl (by kernel_rfl) (fun _ _ _ h => h) (Or.inl ⟨by rfl, ?_⟩) (by assumption) ?_
    rotate_left
    · (intro V hV; (try dsimp only at hV); go_simp; with_reducible rfl)
    try simp only [Act.put, List.setIfInBounds_toArray, List.set_cons_zero, List.set_cons_succ]
    refine wpAnyM_take (i := 10) (v := ?_) rfl rfl (by kernel_rfl) (fun _ _ _ h => h) (Or.inl ⟨by rfl, ?_⟩) (by assumption) ?_
    rotate_left
    · (intro V hV; (try dsimp only at hV); go_simp; with_reducible rfl)
    try simp only [Act.put, List.setIfInBounds_toArray, List.set_cons_zero, List.set_cons_succ]
    refine wpAnyM_step (i := 11) (by kernel_rfl) rfl rfl (fun K hK => ?_)
    go_simp
    refine hK.out _ _ (fun _ => ⟨?_, ?_, ?_⟩) ?_
    · exact (World.cell?_alloc_lt _ _ _ (by exact hgl)).trans c3
    · exact (World.cell?_alloc_lt _ _ _ (by exact hgl)).trans c4
    · exact HCV.out _ ((HRT.out.alloc (Nat.le_refl _) _).more (by simp))
    clear hK K hHeld
    simp only [List.setIfInBounds_toArray]
    refine wpAnyM_step (i := 12) (by kernel_rfl) rfl rfl (fun K hK => ?_)
    refine step_append_any _ rfl (.tmp 12) (.tmp 19) 22 rfl B 35 i0 _ 4 24 Try.underlying22 hi hz0 hz1 hz2 rfl (by omega) (.slice h.P h.np h.cp) h.np (pvs (up s.pieces)) rfl (by exact HO.out) (w.heap.size + 1) (some ⟨w.heap.size, 0, none⟩) 1 1 (pvs (up [(s.text, false)])) rfl (by exact HR.out) (pvs_one _) (by unfold maxLen; omega) (by omega) (by simp; omega) ?_
    intro v1 W2 hown2 hg2 hat2
    have HG2 : Hid ((w.alloc (.cells #[.string ⟨s.text.toArray⟩, .bool false, .bool false, .bool false] 35)).grownBy W2 (Value.slice h.P h.np h.cp).ownBlock) := hide ⟨hg2.os, hg2.tape, hg2.output, hg2.size, hg2.block⟩
    obtain ⟨A2, x2, rfl, hbk, hfin⟩ := (HS1.out.alloc (.cells #[.string ⟨s.text.toArray⟩, .bool false, .bool false, .bool false] 35)).growP (p := (s.text, false)) hown2 HG2.out (by exact hat2)
    have HF := hide hfin
    have hgl2 := hbk.lt
    obtain ⟨⟨d0, d1, d2, d3, d4, d5, d6, d7⟩, e0, e1, e2, e3, e4, e5, e6, e7⟩ := hbk.eight
    have hto2 : W2.ownsRow B 5 1 (.slice h.T h.nt h.ct) h.nt (bv s.text) := World.ownsRow.kept (World.ownsRow.alloc HS1.out.to _) HG2.out (own_ne HS1.out.to HS1.out.po (by decide))
    have HT2 := hide hto2
    refine hK.out _ _ (fun _ => ⟨d3, d4, HCV.out _ (Reads.of_own HT2.out)⟩) ?_
    have HB2 : Hid (Below B w W2) := hide (below_grow (Below.refl B w) hB HS1.out.po HG2.out)
    have HH : (fun V : World => V.cell? ⟨g, 3, none⟩ = some (.slice h.P h.np h.cp) ∧ V.cell? ⟨g, 4, none⟩ = some (.slice h.T h.nt h.ct) ∧ (convert 41 9 (.slice h.T h.nt h.ct)).run Try.prog V = .ok (.string ⟨s.text.toArray⟩) V) W2 := ⟨d3, d4, HCV.out _ (Reads.of_own HT2.out)⟩
    clear hK K hown2 hg2 hat2 hfin hbk hto2 c0 c1 c2 c3 c4 c5 c6 c7 f0 f1 f2 f3 f4 f5 f6 f7 HG2 HO HR hcw
    simp only [List.setIfInBounds_toArray]
    refine wpAnyM_take (i := 13) (v := ?_) rfl rfl (by kernel_rfl) (fun _ _ _ h => h) (Or.inl ⟨by rfl, ?_⟩) (by assumption) ?_
    rotate_left
    · (intro V hV; (try dsimp only at hV); go_simp; with_reducible rfl)
    try simp only [Act.put, List.setIfInBounds_toArray, List.set_cons_zero, List.set_cons_succ]
    refine wpAnyM_take (i := 14) (v := ?_) rfl rfl (by kernel_rfl) (fun _ _ _ h => h) (Or.inl ⟨by rfl, ?_⟩) (by assumption) ?_
    rotate_left
    · (intro V hV; (try dsimp only at hV); go_simp; with_reducible rfl)
    try simp only [Act.put, List.setIfInBounds_toArray, List.set_cons_zero, List.set_cons_succ]
    refine wpAnyM_step (i := 15) (by kernel_rfl) rfl rfl (fun K hK => ?_)
    go_simp
    refine hK.out _ _ (fun h => absurd rfl h) ?_
    refine wpAnyM_done (by kernel_rfl) ?_ _
    clear hK K HH
    obtain ⟨W3, hW3⟩ : ∃ W3, W2.setCell ⟨g, 3, none⟩ (.slice A2 (h.np + 1) x2) = W3 := ⟨_, rfl⟩
    have HB3 : Hid (Below B w W3) := hide (by rw [← hW3]; exact HB2.out.setCell (p := ⟨g, 3, none⟩) hBg _)
    rw [hW3] at HF ⊢
    clear hW3 d0 d1 d2 d3 d4 d5 d6 d7 e0 e1 e2 e3 e4 e5 e6 e7 HB2
    obtain ⟨⟨d0, d1, d2, d3, d4, d5, d6, d7⟩, e0, e1, e2, e3, e4, e5, e6, e7⟩ := HF.out.blk.eight
    have hgl3 := HF.out.lt
    have HF4 := hide HF.out.noText
    go_wp2
    go_end0
    refine ⟨rfl, ?_, HB3.out.setCell (p := ⟨g, 4, none⟩) hBg _⟩
    rw [HE.out]
    exact ⟨_, HF4.out⟩
theorem run_slice_hh (A : Option Addr) (n cap : Nat) (h : n ≤ cap) (W : World) : (Instr.slice 22 (.slice A n cap) none (some (.int .i64 (n : Int))) (some (.int .i64 (n : Int)))).run Try.prog W = .ok (.slice A n n) W := by
  have hE : Try.prog.elem 22 = 35 := by simp [Program.elem, Try.underlying22]
  obtain ⟨i, hi, h1⟩ := Option.map_eq_some_iff.1 sizePc
  rw [run_slice_hm W 22 A n cap (slice_ht Try.underlying22) .i64 .i64 (n : Int) (n : Int) (by omega) (by omega) (by omega), hE]
  simp [sizeOf, typeInfo, hi, h1, Result.andThen, sliced, map_zero_]
theorem Po.cap {B : Nat} {w : World} {A : Option Addr} {n c : Nat} {f : Fd} (h : Po B w A n c f) : n ≤ c := by
  rcases h.2 with ⟨hv, h0⟩ | ⟨g, cap, cur, hv, _, _, h1, h2, _⟩
  · injection hv with e1 e2 e3; subst e3; omega
  · injection hv with e1 e2 e3; subst e3; exact h1
set_option maxRecDepth 100000 in
set_option maxHeartbeats 8000000 in
theorem close_any (B g : Nat) (ifs : LB) (s : CS) (w : World) (hK : s.Le 1000000) (hB : B ≤ w.heap.size) (H : SAt B w g ifs X s) :
    Calls Try.prog 28 #[.pointer (some ⟨g, 0, none⟩)] w fun e w' => e = .returned (.tuple #[]) ∧ SAt B w' g ifs X s.close ∧ Below B w w' := by
  have HF0 := hide (flush_any B g ifs s w hK hB H)
  have HK1 := hide (Le.flush hK)
  obtain ⟨h, H⟩ := H
  have hgl := H.lt
  have hBg := H.hg
  obtain ⟨⟨c0, c1, c2, c3, c4, c5, c6, c7⟩, f0, f1, f2, f3, f4, f5, f6, f7⟩ := H.blk.eight
  cases ho : s.op with
  | false =>
    rw [ho] at c5
    have HE : Hid (s.close = s) := hide (CS.close_no s ho)
    have HS := hide H
    clear H ho
    go_enter Try.func28, Try.ntmps28
    go_wp2_with fail
    refine bodyPost_ret (results_none rfl _ _ _) rfl ?_
    refine ⟨rfl, ⟨h, ?_⟩, Below.refl _ _⟩
    rw [HE.out]; exact HS.out
  | true =>
    rw [ho] at c5
    have HE : Hid (s.close = { s.flush with fields := s.flush.fields ++ [s.flush.pieces], pieces := [], op := false }) := hide (CS.close_yes s ho)
    obtain ⟨i0, hi, hz0, hz1, hz2⟩ := info_parts infoFd
    clear H ho
    obtain ⟨s1, hs1⟩ : ∃ s1, s.flush = s1 := ⟨_, rfl⟩
    rw [hs1] at HF0 HK1 HE
    clear hs1
    go_enter Try.func28, Try.ntmps28
    go_wp2_with fail
    refine HF0.out.mono ?_
    rintro e w1 ⟨rfl, ⟨h1, hS⟩, hb1⟩
    have HS1 := hide hS
    have HB1 := hide hb1
    have hBW : B ≤ w1.heap.size := by have := hb1.size; omega
    clear hS hb1 c0 c1 c2 c3 c4 c5 c6 c7 f0 f1 f2 f3 f4 f5 f6 f7 hgl HF0
    have hgl := HS1.out.lt
    obtain ⟨⟨c0, c1, c2, c3, c4, c5, c6, c7⟩, f0, f1, f2, f3, f4, f5, f6, f7⟩ := HS1.out.blk.eight
    have hng : h1.nf ≤ 1000001 := by have := HS1.out.fo.len; have := HK1.out.1; omega
    have hnp : h1.np ≤ 1000001 := by have := HS1.out.po.len; have := HK1.out.2.2.1; omega
    have hs3 := run_slice_hh h1.P h1.np h1.cp HS1.out.po.cap
    have HS3 := hide hs3
    have HR := hide (one_fd w1 (.slice h1.P h1.np h1.np))
    obtain ⟨vs, hvo, hvr, hvn⟩ := HS1.out.fo
    have HVO := hide hvo
    have HO := hide (World.ownsRow.alloc hvo (.cells #[.slice h1.P h1.np h1.np] 22))
    clear hvo hvr hvn
    go_wp2_with fail
    refine wp_region_M (fun V => V.cell? ⟨g, 1, none⟩ = some (.slice h1.F h1.nf h1.cf) ∧ V.cell? ⟨g, 3, none⟩ = some (.slice h1.P h1.np h1.cp)) 16 rfl ⟨c1, c3⟩ (fun hHeld => ?_)
    refine wpAnyM_take (i := 0) (v := ?_) rfl rfl (by kernel_rfl) (fun _ _ _ h => h) (Or.inl ⟨by rfl, ?_⟩) (by assumption) ?_
    rotate_left
    · (intro V hV; (try dsimp only at hV); go_simp; with_reducible rfl)
    try simp only [Act.put, List.setIfInBounds_toArray, List.set_cons_zero, List.set_cons_succ]
    refine wpAnyM_take (i := 1) (v := ?_) rfl rfl (by kernel_rfl) (fun _ _ _ h => h) (Or.inl ⟨by rfl, ?_⟩) (by assumption) ?_
    rotate_left
    · (intro V hV; (try dsimp only at hV); go_simp; with_reducible rfl)
    try simp only [Act.put, List.setIfInBounds_toArray, List.set_cons_zero, List.set_cons_succ]
    refine wpAnyM_take (i := 2) (v := ?_) rfl rfl (by kernel_rfl) (fun _ _ _ h => h) (Or.inl ⟨by rfl, ?_⟩) (by assumption) ?_
    rotate_left
    · (intro V hV; (try dsimp only at hV); go_simp; with_reducible rfl)
    try simp only [Act.put, List.setIfInBounds_toArray, List.set_cons_zero, List.set_cons_succ]
    refine wpAnyM_take (i := 3) (v := ?_) rfl rfl (by kernel_rfl) (fun _ _ _ h => h) (Or.inl ⟨by rfl, ?_⟩) (by assumption) ?_
    rotate_left
    · (intro V hV; (try dsimp only at hV); go_simp; with_reducible rfl)
    try simp only [Act.put, List.setIfInBounds_toArray, List.set_cons_zero, List.set_cons_succ]
    refine wpAnyM_take (i := 4) (v := ?_) rfl rfl (by kernel_rfl) (fun _ _ _ h => h) (Or.inl ⟨by rfl, ?_⟩) (by assumption) ?_
    rotate_left
    · (intro V hV; (try dsimp only at hV); go_simp; with_reducible rfl)
    try simp only [Act.put, List.setIfInBounds_toArray, List.set_cons_zero, List.set_cons_succ]
    refine wpAnyM_take (i := 5) (v := ?_) rfl rfl (by kernel_rfl) (fun _ _ _ h => h) (Or.inl ⟨by rfl, ?_⟩) (by assumption) ?_
    rotate_left
    · (intro V hV; (try dsimp only at hV); go_simp; with_reducible rfl)
    try simp only [Act.put, List.setIfInBounds_toArray, List.set_cons_zero, List.set_cons_succ]
    refine wpAnyM_take (i := 6) (v := ?_) rfl rfl (by kernel_rfl) (fun _ _ _ h => h) (Or.inl ⟨by rfl, ?_⟩) (by assumption) ?_
    rotate_left
    · (intro V hV; (try dsimp only at hV); go_simp; with_reducible rfl)
    try simp only [Act.put, List.setIfInBounds_toArray, List.set_cons_zero, List.set_cons_succ]
    refine wpAnyM_take (i := 7) (v := ?_) rfl rfl (by kernel_rfl) (fun _ _ _ h => h) (Or.inl ⟨by rfl, ?_⟩) (by assumption) ?_
    rotate_left
    · (intro V hV; (try dsimp only at hV); go_simp; with_reducible rfl)
    try simp only [Act.put, List.setIfInBounds_toArray, List.set_cons_zero, List.set_cons_succ]
    refine wpAnyM_take (i := 8) (v := ?_) rfl rfl (by kernel_rfl) (fun _ _ _ h => h) (Or.inl ⟨by rfl, ?_⟩) (by assumption) ?_
    rotate_left
    · (intro V hV; (try dsimp only at hV); go_simp; with_reducible rfl)
    try simp only [Act.put, List.setIfInBounds_toArray, List.set_cons_zero, List.set_cons_succ]
    refine wpAnyM_take (i := 9) (v := ?_) rfl rfl (by kernel_rfl) (fun _ _ _ h => h) (Or.inl ⟨by rfl, ?_⟩) (by assumption) ?_
    rotate_left
    · (intro V hV; (try dsimp only at hV); go_simp; with_reducible rfl)
    try simp only [Act.put, List.setIfInBounds_toArray, List.set_cons_zero, List.set_cons_succ]
    refine wpAnyM_take (i := 10) (v := ?_) rfl rfl (by kernel_rfl) (fun _ _ _ h => h) (Or.inl ⟨by rfl, ?_⟩) (by assumption) ?_
    rotate_left
    · (intro V hV; (try dsimp only at hV); go_simp; with_reducible rfl)
    try simp only [Act.put, List.setIfInBounds_toArray, List.set_cons_zero, List.set_cons_succ]
    refine wpAnyM_take (i := 11) (v := ?_) rfl rfl (by kernel_rfl) (fun _ _ _ h => h) (Or.inl ⟨by rfl, ?_⟩) (by assumption) ?_
    rotate_left
    · (intro V hV; (try dsimp only at hV); go_simp; with_reducible rfl)
    try simp only [Act.put, List.setIfInBounds_toArray, List.set_cons_zero, List.set_cons_succ]
    refine wpAnyM_step (i := 12) (by kernel_rfl) rfl rfl (fun K hK => ?_)
    go_simp
    refine hK.out _ _ (fun _ => ⟨?_, ?_⟩) ?_
    · exact (World.cell?_alloc_lt _ _ _ (by exact hgl)).trans c1
    · exact (World.cell?_alloc_lt _ _ _ (by exact hgl)).trans c3
    clear hK K hHeld
    simp only [List.setIfInBounds_toArray]
    refine wpAnyM_step (i := 13) (by kernel_rfl) rfl rfl (fun K hK => ?_)
    refine step_append_any _ rfl (.tmp 19) (.tmp 27) 25 rfl B 22 i0 _ 1 24 Try.underlying25 hi hz0 hz1 hz2 rfl (by omega) (.slice h1.F h1.nf h1.cf) h1.nf vs rfl (by exact HO.out) (w1.heap.size + 1) (some ⟨w1.heap.size, 0, none⟩) 1 1 [.slice h1.P h1.np h1.np] rfl (by exact HR.out) (by intro u hu; rw [List.mem_singleton.1 hu]; rfl) (by unfold maxLen; omega) (by omega) (by simp; omega) ?_
    intro v1 W2 hown2 hg2 hat2
    have HG2 : Hid ((w1.alloc (.cells #[.slice h1.P h1.np h1.np] 22)).grownBy W2 (Value.slice h1.F h1.nf h1.cf).ownBlock) := hide ⟨hg2.os, hg2.tape, hg2.output, hg2.size, hg2.block⟩
    obtain ⟨A2, x2, rfl, hbk, hfin⟩ := (HS1.out.alloc (.cells #[.slice h1.P h1.np h1.np] 22)).growF (v1 := v1) (by
      intro vs' hv'
      have e : vs' = vs := own_same (World.ownsRow.alloc HVO.out _) hv'
      rw [e]; exact hown2) HG2.out
    have HF := hide hfin
    have hgl2 := hbk.lt
    obtain ⟨⟨d0, d1, d2, d3, d4, d5, d6, d7⟩, e0, e1, e2, e3, e4, e5, e6, e7⟩ := hbk.eight
    refine hK.out _ _ (fun _ => ⟨d1, d3⟩) ?_
    have HB2 : Hid (Below B w W2) := hide (below_grow HB1.out hBW HVO.out HG2.out)
    have HH : (fun V : World => V.cell? ⟨g, 1, none⟩ = some (.slice h1.F h1.nf h1.cf) ∧ V.cell? ⟨g, 3, none⟩ = some (.slice h1.P h1.np h1.cp)) W2 := ⟨d1, d3⟩
    clear hK K hown2 hg2 hat2 hfin hbk c0 c1 c2 c3 c4 c5 c6 c7 f0 f1 f2 f3 f4 f5 f6 f7 HG2 HO HR hs3
    simp only [List.setIfInBounds_toArray]
    refine wpAnyM_take (i := 14) (v := ?_) rfl rfl (by kernel_rfl) (fun _ _ _ h => h) (Or.inl ⟨by rfl, ?_⟩) (by assumption) ?_
    rotate_left
    · (intro V hV; (try dsimp only at hV); go_simp; with_reducible rfl)
    try simp only [Act.put, List.setIfInBounds_toArray, List.set_cons_zero, List.set_cons_succ]
    refine wpAnyM_take (i := 15) (v := ?_) rfl rfl (by kernel_rfl) (fun _ _ _ h => h) (Or.inl ⟨by rfl, ?_⟩) (by assumption) ?_
    rotate_left
    · (intro V hV; (try dsimp only at hV); go_simp; with_reducible rfl)
    try simp only [Act.put, List.setIfInBounds_toArray, List.set_cons_zero, List.set_cons_succ]
    refine wpAnyM_step (i := 16) (by kernel_rfl) rfl rfl (fun K hK => ?_)
    go_simp
    refine hK.out _ _ (fun h => absurd rfl h) ?_
    refine wpAnyM_done (by kernel_rfl) ?_ _
    clear hK K HH
    go_wp2
    go_end0
    refine ⟨rfl, ?_, ((HB2.out.setCell (p := ⟨g, 1, none⟩) hBg _).setCell (p := ⟨g, 3, none⟩) hBg _).setCell (p := ⟨g, 5, none⟩) hBg _⟩
    rw [HE.out]
    exact ⟨_, HF.out⟩
end Go.Proofs.Ytnongbbhpkmdjaa
