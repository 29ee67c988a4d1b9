/- The contracts of the document's end and add. -/
import Derived.Test.YtnongbbhpkmdjaaFldQ
import Derived.Test.YtnongbbhpkmdjaaFldP
import Derived.Deep.DeepCutAuto
namespace Go.Proofs.Ytnongbbhpkmdjaa
open Go.RowKit
set_option linter.unusedVariables false
variable {X : Option (Nat × Array Value)}
set_option maxRecDepth 100000 in
set_option maxHeartbeats 8000000 in
theorem end_any (B g : Nat) (f : FS) (w : World) (hK : f.Le 1000000) (hB : B ≤ w.heap.size) (H : FAt B w g X f) :
    Calls Try.prog 29 #[.pointer (some ⟨g, 0, none⟩)] w fun e w' => e = .returned (.tuple #[]) ∧ FAt B w' g X f.stop ∧ Below B w w' := by
  obtain ⟨h, H⟩ := H
  have hgl := H.lt
  have hBg := H.hg
  obtain ⟨⟨c0, c1, c2, c3⟩, f0, f1, f2, f3⟩ := H.blk.four
  obtain ⟨i0, hi, hz0, hz1, hz2⟩ := info_parts infoFd
  have hng : h.no ≤ 1000000 := by have := H.fo.len; have := hK.1; omega
  have HS1 := hide H
  have HR := hide (one_fd w (.slice h.N h.nn h.cn))
  obtain ⟨vs, hvo, hvr, hvn⟩ := H.fo
  have HVO := hide hvo
  have HO := hide (World.ownsRow.alloc hvo (.cells #[.slice h.N h.nn h.cn] 22))
  clear hvo hvr hvn H
  go_enter Try.func29, Try.ntmps29
  go_wp2_with fail
  refine wp_region_M (fun V => V.cell? ⟨g, 0, none⟩ = some (.slice h.O h.no h.co) ∧ V.cell? ⟨g, 1, none⟩ = some (.slice h.N h.nn h.cn)) 13 rfl ⟨c0, c1⟩ (fun hHeld => ?_)
  refine wpAnyM_take (i := 0) (v := ?_) rfl rfl (by kernel_rfl) (fun _ _ _ h => h) (Or.inl ⟨by rfl, ?_⟩) (by assumption) ?_
  rotate_left
  · (intro V hV; (try dsimp only at hV); go_simp; with_reducible rfl)
  try simp only [Act.put, List.setIfInBounds_toArray, List.set_cons_zero, List.set_cons_succ]
  refine wpAnyM_take (i := 1) (v := ?_) rfl rfl (by kernel_rfl) (fun _ _ _ h => h) (Or.inl ⟨by rfl, ?_⟩) (by assumption) ?_
  rotate_left
  · (intro V hV; (try dsimp only at hV); go_simp; with_reducible rfl)
  try simp only [Act.put, List.setIfInBounds_toArray, List.set_cons_zero, List.set_cons_succ]
  refine wpAnyM_take (i := 2) (v := ?_) rfl rfl (by kernel_rfl) (fun _ _ _ h => h) (Or.inl ⟨by rfl, ?_⟩) (by assumption) ?_
  rotate_left
  · (intro V hV; (try dsimp only at hV); go_simp; with_reducible rfl)
  try simp only [Act.put, List.setIfInBounds_toArray, List.set_cons_zero, List.set_cons_succ]
  refine wpAnyM_take (i := 3) (v := ?_) rfl rfl (by kernel_rfl) (fun _ _ _ h => h) (Or.inl ⟨by rfl, ?_⟩) (by assumption) ?_
  rotate_left
  · (intro V hV; (try dsimp only at hV); go_simp; with_reducible rfl)
  try simp only [Act.put, List.setIfInBounds_toArray, List.set_cons_zero, List.set_cons_succ]
  refine wpAnyM_take (i := 4) (v := ?_) rfl rfl (by kernel_rfl) (fun _ _ _ h => h) (Or.inl ⟨by rfl, ?_⟩) (by assumption) ?_
  rotate_left
  · (intro V hV; (try dsimp only at hV); go_simp; with_reducible rfl)
  try simp only [Act.put, List.setIfInBounds_toArray, List.set_cons_zero, List.set_cons_succ]
  refine wpAnyM_take (i := 5) (v := ?_) rfl rfl (by kernel_rfl) (fun _ _ _ h => h) (Or.inl ⟨by rfl, ?_⟩) (by assumption) ?_
  rotate_left
  · (intro V hV; (try dsimp only at hV); go_simp; with_reducible rfl)
  try simp only [Act.put, List.setIfInBounds_toArray, List.set_cons_zero, List.set_cons_succ]
  refine wpAnyM_take (i := 6) (v := ?_) rfl rfl (by kernel_rfl) (fun _ _ _ h => h) (Or.inl ⟨by rfl, ?_⟩) (by assumption) ?_
  rotate_left
  · (intro V hV; (try dsimp only at hV); go_simp; with_reducible rfl)
  try simp only [Act.put, List.setIfInBounds_toArray, List.set_cons_zero, List.set_cons_succ]
  refine wpAnyM_take (i := 7) (v := ?_) rfl rfl (by kernel_rfl) (fun _ _ _ h => h) (Or.inl ⟨by rfl, ?_⟩) (by assumption) ?_
  rotate_left
  · (intro V hV; (try dsimp only at hV); go_simp; with_reducible rfl)
  try simp only [Act.put, List.setIfInBounds_toArray, List.set_cons_zero, List.set_cons_succ]
  refine wpAnyM_take (i := 8) (v := ?_) rfl rfl (by kernel_rfl) (fun _ _ _ h => h) (Or.inl ⟨by rfl, ?_⟩) (by assumption) ?_
  rotate_left
  · (intro V hV; (try dsimp only at hV); go_simp; with_reducible rfl)
  try simp only [Act.put, List.setIfInBounds_toArray, List.set_cons_zero, List.set_cons_succ]
  refine wpAnyM_step (i := 9) (by kernel_rfl) rfl rfl (fun K hK => ?_)
  go_simp
  refine hK.out _ _ (fun _ => ⟨?_, ?_⟩) ?_
  · exact (World.cell?_alloc_lt _ _ _ (by exact hgl)).trans c0
  · exact (World.cell?_alloc_lt _ _ _ (by exact hgl)).trans c1
  clear hK K hHeld
  simp only [List.setIfInBounds_toArray]
  refine wpAnyM_step (i := 10) (by kernel_rfl) rfl rfl (fun K hK => ?_)
  refine step_append_any _ rfl (.tmp 6) (.tmp 11) 25 rfl B 22 i0 _ 1 24 Try.underlying25 hi hz0 hz1 hz2 rfl (by omega) (.slice h.O h.no h.co) h.no vs rfl (by exact HO.out) (w.heap.size + 1) (some ⟨w.heap.size, 0, none⟩) 1 1 [.slice h.N h.nn h.cn] rfl (by exact HR.out) (by intro u hu; rw [List.mem_singleton.1 hu]; rfl) (by unfold maxLen; omega) (by omega) (by simp; omega) ?_
  intro v1 W2 hown2 hg2 hat2
  have HG2 : Hid ((w.alloc (.cells #[.slice h.N h.nn h.cn] 22)).grownBy W2 (Value.slice h.O h.no h.co).ownBlock) := hide ⟨hg2.os, hg2.tape, hg2.output, hg2.size, hg2.block⟩
  obtain ⟨A2, x2, rfl, hbk, hfin⟩ := (HS1.out.alloc (.cells #[.slice h.N h.nn h.cn] 22)).growO (v1 := v1) (by
    intro vs' hv'
    have e : vs' = vs := own_same (World.ownsRow.alloc HVO.out _) hv'
    rw [e]; exact hown2) HG2.out
  have HF := hide hfin
  have hgl2 := hbk.lt
  obtain ⟨⟨d0, d1, d2, d3⟩, e0, e1, e2, e3⟩ := hbk.four
  refine hK.out _ _ (fun _ => ⟨d0, d1⟩) ?_
  have HB2 : Hid (Below B w W2) := hide (below_grow (Below.refl B w) hB HVO.out HG2.out)
  have HH : (fun V : World => V.cell? ⟨g, 0, none⟩ = some (.slice h.O h.no h.co) ∧ V.cell? ⟨g, 1, none⟩ = some (.slice h.N h.nn h.cn)) W2 := ⟨d0, d1⟩
  clear hK K hown2 hg2 hat2 hfin hbk c0 c1 c2 c3 f0 f1 f2 f3 HG2 HO HR
  simp only [List.setIfInBounds_toArray]
  refine wpAnyM_take (i := 11) (v := ?_) rfl rfl (by kernel_rfl) (fun _ _ _ h => h) (Or.inl ⟨by rfl, ?_⟩) (by assumption) ?_
  rotate_left
  · (intro V hV; (try dsimp only at hV); go_simp; with_reducible rfl)
  try simp only [Act.put, List.setIfInBounds_toArray, List.set_cons_zero, List.set_cons_succ]
  refine wpAnyM_take (i := 12) (v := ?_) rfl rfl (by kernel_rfl) (fun _ _ _ h => h) (Or.inl ⟨by rfl, ?_⟩) (by assumption) ?_
  rotate_left
  · (intro V hV; (try dsimp only at hV); go_simp; with_reducible rfl)
  try simp only [Act.put, List.setIfInBounds_toArray, List.set_cons_zero, List.set_cons_succ]
  refine wpAnyM_step (i := 13) (by kernel_rfl) rfl rfl (fun K hK => ?_)
  go_simp
  refine hK.out _ _ (fun h => absurd rfl h) ?_
  refine wpAnyM_done (by kernel_rfl) ?_ _
  clear hK K HH
  go_wp2
  go_end0
  exact ⟨rfl, ⟨_, HF.out⟩, ((HB2.out.setCell (p := ⟨g, 0, none⟩) hBg _).setCell (p := ⟨g, 1, none⟩) hBg _).setCell (p := ⟨g, 2, none⟩) hBg _⟩
/-- Where the text is not joined: another piece. -/
theorem last_cells {B : Nat} {w : World} {A : Option Addr} {n c : Nat} {l : Fd} {x : LB × Bool} (h : Po B w A n c l) (hx : l.getLast? = some x) : ∃ gN, A = some ⟨gN, 0, none⟩ ∧ 0 < n ∧ B ≤ gN ∧ gN < w.heap.size ∧ w.cell? ⟨gN, (n - 1) * 4, none⟩ = some (.string ⟨x.1.toArray⟩) ∧ w.cell? ⟨gN, (n - 1) * 4 + 1, none⟩ = some (.bool x.2) ∧ w.frozen? ⟨gN, (n - 1) * 4, none⟩ = false := by
  have hn : 0 < n := by
    have := h.len
    rcases Nat.eq_zero_or_pos n with h0 | h0
    · rw [h0] at this
      rw [List.eq_nil_of_length_eq_zero this] at hx; cases hx
    · exact h0
  obtain ⟨gN, cap, hv, _, _⟩ := World.ownsRow.form h hn
  injection hv with hv e2 e3
  subst hv
  have hlt := World.ownsRow.lt h gN rfl
  have hr : Reads w w.heap.size 4 (some ⟨gN, 0, none⟩) n (pvs (up l)) := Reads.of_own h
  have hl : (up l)[n - 1]? = some (up1 x) := by
    unfold up
    rw [List.getElem?_map]
    rw [List.getLast?_eq_getElem?, h.len] at hx
    rw [hx]; rfl
  obtain ⟨g, o, e, _, q0, q1, _, _⟩ := pc_cells hr hl
  injection e with e
  injection e with e4 e5
  subst e4 e5
  rw [Nat.zero_add] at q0 q1
  exact ⟨gN, rfl, hn, hlt.1, hlt.2, q0, q1, World.ownsRow.frozenAt h _⟩
set_option maxRecDepth 100000 in
set_option maxHeartbeats 8000000 in
theorem add_new_any (B g : Nat) (f : FS) (t : LB) (q : Bool) (w : World) (hK : f.Le 900000) (hB : B ≤ w.heap.size) (H : FAt B w g X f) (hx : ∀ x, f.now.getLast? = some x → ¬ (x.2 = q ∧ q = false)) :
    Calls Try.prog 30 #[.pointer (some ⟨g, 0, none⟩), .string ⟨t.toArray⟩, .bool q] w fun e w' => e = .returned (.tuple #[]) ∧ FAt B w' g X (f.add t q) ∧ Below B w w' := by
  have HE := hide (add_new (t := t) hx)
  obtain ⟨h, H⟩ := H
  have hBg := H.hg
  have HS1 := hide (H.setOp true)
  have HB1 : Hid (Below B w (w.setCell ⟨g, 2, none⟩ (.bool true))) := hide ((Below.refl B w).setCell (p := ⟨g, 2, none⟩) hBg _)
  obtain ⟨⟨c0, c1, c2, c3⟩, f0, f1, f2, f3⟩ := H.blk.four
  have hgl := H.lt
  obtain ⟨i0, hi, hz0, hz1, hz2⟩ := info_parts infoPc
  have hnn : h.nn ≤ 900000 := by have := H.po.len; have := hK.2.1; omega
  have hnl := H.po.len
  have hlast : h.nn = 0 ∨ ∃ x, f.now.getLast? = some x := by
    cases hl : f.now.getLast? with
    | none => left; rw [← hnl, List.getLast?_eq_none_iff.1 hl]; rfl
    | some x => right; exact ⟨x, rfl⟩
  have HNL := hide hnl
  clear H hnl
  rcases hlast with hn0 | ⟨x, hl⟩
  · have kn : ¬ (0 : Int) < (h.nn : Int) := by omega
    have kn2 : ¬ 0 < h.nn := by omega
    clear hn0 hx
    go_enter Try.func30, Try.ntmps30
    go_upto_region 1 with (fail)
    obtain ⟨W1, hW1⟩ : ∃ W, w.setCell ⟨g, 2, none⟩ (.bool true) = W := ⟨_, rfl⟩
    have hBW : B ≤ W1.heap.size := by rw [← hW1]; simpa using hB
    rw [hW1] at HS1 HB1
    clear c0 c1 c2 c3 f0 f1 f2 f3 hgl
    have hgl := HS1.out.lt
    obtain ⟨⟨c0, c1, c2, c3⟩, f0, f1, f2, f3⟩ := HS1.out.blk.four
    rw [hW1]
    clear hW1
    have HO := hide (World.ownsRow.alloc HS1.out.po (.cells #[.string ⟨t.toArray⟩, .bool q, .bool false, .bool false] 35))
    have HR := hide (one_pc W1 (t, q))
    go_wp2_with (at_builtin; (refine wpList_append_any _ rfl (.tmp 57) (.tmp 61) 22 rfl B 35 i0 _ 4 24 Try.underlying22 hi hz0 hz1 hz2 rfl (by omega) (.slice h.N h.nn h.cn) h.nn (pvs (up f.now)) rfl (by exact HO.out) (W1.heap.size + 1) (some ⟨W1.heap.size, 0, none⟩) 1 1 (pvs (up [(t, q)])) rfl (by exact HR.out) (pvs_one _) ?c11 ?c21 ?c31 ?_))
    case c11 => unfold maxLen; omega
    case c21 => omega
    case c31 => first | omega | (simp; omega)
    intro v1 W2 hown2 hg2 hat2
    obtain ⟨A2, x2, rfl, hbk, hfin⟩ := (HS1.out.alloc (.cells #[.string ⟨t.toArray⟩, .bool q, .bool false, .bool false] 35)).growN (p := (t, q)) hown2 hg2 (by simpa using hat2)
    have HF := hide hfin
    have hgl2 := hbk.lt
    obtain ⟨⟨d0, d1, d2, d3⟩, e0, e1, e2, e3⟩ := hbk.four
    have HB2 := hide (below_grow HB1.out hBW HS1.out.po hg2)
    clear hown2 hg2 hat2 hfin hbk c0 c1 c2 c3 f0 f1 f2 f3 HO HR hgl
    go_wp2
    go_end0
    refine ⟨rfl, ?_, HB2.out.setCell (p := ⟨g, 1, none⟩) hBg _⟩
    rw [HE.out]
    exact ⟨_, HF.out⟩
  · obtain ⟨x1, x2⟩ := x
    have hxx := hx _ hl
    dsimp only at hxx
    go_enter Try.func30, Try.ntmps30
    go_upto_region 1 with (fail)
    obtain ⟨W1, hW1⟩ : ∃ W, w.setCell ⟨g, 2, none⟩ (.bool true) = W := ⟨_, rfl⟩
    have hBW : B ≤ W1.heap.size := by rw [← hW1]; simpa using hB
    rw [hW1] at HS1 HB1
    clear c0 c1 c2 c3 f0 f1 f2 f3 hgl
    have hgl := HS1.out.lt
    obtain ⟨⟨c0, c1, c2, c3⟩, f0, f1, f2, f3⟩ := HS1.out.blk.four
    rw [hW1]
    clear hW1
    obtain ⟨gN, hN, hn1, hBN, hgN, q0, q1, qf⟩ := last_cells HS1.out.po hl
    have hia : ∀ W, (Instr.indexAt 22 (.slice h.N h.nn h.cn) (.int .i64 ((h.nn : Int) - 1))).run Try.prog W = .ok (.pointer (some ⟨gN, (h.nn - 1) * 4, none⟩)) W := fun W => by
      rw [hN]
      have := pc_at gN 0 h.nn h.cn (h.nn - 1) ((h.nn : Int) - 1) (by omega) (by omega) W
      rwa [Nat.zero_add] at this
    have kn : (0 : Int) < (h.nn : Int) := by omega
    have kw : IntKind.i64.wrap ((h.nn : Int) - 1) = (h.nn : Int) - 1 := by simp [IntKind.wrap, IntKind.bits, IntKind.signed]; omega
    clear hx hl hN
    dsimp only at q1
    cases x2 <;> cases q
    · exact absurd ⟨rfl, rfl⟩ hxx
    · clear hxx
      have HO := hide (World.ownsRow.alloc HS1.out.po (.cells #[.string ⟨t.toArray⟩, .bool true, .bool false, .bool false] 35))
      have HR := hide (one_pc W1 (t, true))
      go_wp2_with (at_builtin; (refine wpList_append_any _ rfl (.tmp 57) (.tmp 61) 22 rfl B 35 i0 _ 4 24 Try.underlying22 hi hz0 hz1 hz2 rfl (by omega) (.slice h.N h.nn h.cn) h.nn (pvs (up f.now)) rfl (by exact HO.out) (W1.heap.size + 1) (some ⟨W1.heap.size, 0, none⟩) 1 1 (pvs (up [(t, true)])) rfl (by exact HR.out) (pvs_one _) ?c12 ?c22 ?c32 ?_))
      case c12 => unfold maxLen; omega
      case c22 => omega
      case c32 => first | omega | (simp; omega)
      intro v1 W2 hown2 hg2 hat2
      obtain ⟨A2, x2, rfl, hbk, hfin⟩ := (HS1.out.alloc (.cells #[.string ⟨t.toArray⟩, .bool true, .bool false, .bool false] 35)).growN (p := (t, true)) hown2 hg2 (by simpa using hat2)
      have HF := hide hfin
      have hgl2 := hbk.lt
      obtain ⟨⟨d0, d1, d2, d3⟩, e0, e1, e2, e3⟩ := hbk.four
      have HB2 := hide (below_grow HB1.out hBW HS1.out.po hg2)
      clear hown2 hg2 hat2 hfin hbk c0 c1 c2 c3 f0 f1 f2 f3 HO HR hgl
      go_wp2
      go_end0
      refine ⟨rfl, ?_, HB2.out.setCell (p := ⟨g, 1, none⟩) hBg _⟩
      rw [HE.out]
      exact ⟨_, HF.out⟩
    · clear hxx
      have HO := hide (World.ownsRow.alloc HS1.out.po (.cells #[.string ⟨t.toArray⟩, .bool false, .bool false, .bool false] 35))
      have HR := hide (one_pc W1 (t, false))
      go_wp2_with (at_builtin; (refine wpList_append_any _ rfl (.tmp 57) (.tmp 61) 22 rfl B 35 i0 _ 4 24 Try.underlying22 hi hz0 hz1 hz2 rfl (by omega) (.slice h.N h.nn h.cn) h.nn (pvs (up f.now)) rfl (by exact HO.out) (W1.heap.size + 1) (some ⟨W1.heap.size, 0, none⟩) 1 1 (pvs (up [(t, false)])) rfl (by exact HR.out) (pvs_one _) ?c13 ?c23 ?c33 ?_))
      case c13 => unfold maxLen; omega
      case c23 => omega
      case c33 => first | omega | (simp; omega)
      intro v1 W2 hown2 hg2 hat2
      obtain ⟨A2, x2, rfl, hbk, hfin⟩ := (HS1.out.alloc (.cells #[.string ⟨t.toArray⟩, .bool false, .bool false, .bool false] 35)).growN (p := (t, false)) hown2 hg2 (by simpa using hat2)
      have HF := hide hfin
      have hgl2 := hbk.lt
      obtain ⟨⟨d0, d1, d2, d3⟩, e0, e1, e2, e3⟩ := hbk.four
      have HB2 := hide (below_grow HB1.out hBW HS1.out.po hg2)
      clear hown2 hg2 hat2 hfin hbk c0 c1 c2 c3 f0 f1 f2 f3 HO HR hgl
      go_wp2
      go_end0
      refine ⟨rfl, ?_, HB2.out.setCell (p := ⟨g, 1, none⟩) hBg _⟩
      rw [HE.out]
      exact ⟨_, HF.out⟩
    · clear hxx
      have HO := hide (World.ownsRow.alloc HS1.out.po (.cells #[.string ⟨t.toArray⟩, .bool true, .bool false, .bool false] 35))
      have HR := hide (one_pc W1 (t, true))
      go_wp2_with (at_builtin; (refine wpList_append_any _ rfl (.tmp 57) (.tmp 61) 22 rfl B 35 i0 _ 4 24 Try.underlying22 hi hz0 hz1 hz2 rfl (by omega) (.slice h.N h.nn h.cn) h.nn (pvs (up f.now)) rfl (by exact HO.out) (W1.heap.size + 1) (some ⟨W1.heap.size, 0, none⟩) 1 1 (pvs (up [(t, true)])) rfl (by exact HR.out) (pvs_one _) ?c14 ?c24 ?c34 ?_))
      case c14 => unfold maxLen; omega
      case c24 => omega
      case c34 => first | omega | (simp; omega)
      intro v1 W2 hown2 hg2 hat2
      obtain ⟨A2, x2, rfl, hbk, hfin⟩ := (HS1.out.alloc (.cells #[.string ⟨t.toArray⟩, .bool true, .bool false, .bool false] 35)).growN (p := (t, true)) hown2 hg2 (by simpa using hat2)
      have HF := hide hfin
      have hgl2 := hbk.lt
      obtain ⟨⟨d0, d1, d2, d3⟩, e0, e1, e2, e3⟩ := hbk.four
      have HB2 := hide (below_grow HB1.out hBW HS1.out.po hg2)
      clear hown2 hg2 hat2 hfin hbk c0 c1 c2 c3 f0 f1 f2 f3 HO HR hgl
      go_wp2
      go_end0
      refine ⟨rfl, ?_, HB2.out.setCell (p := ⟨g, 1, none⟩) hBg _⟩
      rw [HE.out]
      exact ⟨_, HF.out⟩
set_option maxRecDepth 100000 in
set_option maxHeartbeats 8000000 in
theorem add_join_any (B g : Nat) (f : FS) (t : LB) (x : LB × Bool) (w : World) (hK : f.Le 900000) (ht : t.length ≤ 50000) (hB : B ≤ w.heap.size) (H : FAt B w g X f) (hl : f.now.getLast? = some x) (hx : x.2 = false) :
    Calls Try.prog 30 #[.pointer (some ⟨g, 0, none⟩), .string ⟨t.toArray⟩, .bool false] w fun e w' => e = .returned (.tuple #[]) ∧ FAt B w' g X (f.add t false) ∧ Below B w w' := by
  obtain ⟨x1, x2⟩ := x
  dsimp only at hx
  subst hx
  have HE := hide (add_join (t := t) hl rfl)
  obtain ⟨h, H⟩ := H
  have hBg := H.hg
  have HS1 := hide (H.setOp true)
  have HB1 : Hid (Below B w (w.setCell ⟨g, 2, none⟩ (.bool true))) := hide ((Below.refl B w).setCell (p := ⟨g, 2, none⟩) hBg _)
  obtain ⟨⟨c0, c1, c2, c3⟩, f0, f1, f2, f3⟩ := H.blk.four
  have hgl := H.lt
  have hnn : h.nn ≤ 900000 := by have := H.po.len; have := hK.2.1; omega
  have hx1 : x1.length ≤ 900000 := hK.2.2 _ (List.mem_of_getLast? hl)
  have hnl := H.po.len
  have hsplit : f.now = f.now.dropLast ++ [(x1, false)] := by
    have hne : f.now ≠ [] := by rintro e; rw [e] at hl; cases hl
    rw [List.getLast?_eq_some_getLast hne] at hl
    injection hl with hl
    rw [← hl]; exact (List.dropLast_concat_getLast hne).symm
  have hdl : f.now.dropLast.length = h.nn - 1 := by rw [List.length_dropLast, hnl]
  have HDL := hide hdl
  have HSP := hide hsplit
  clear H hnl hdl hsplit
  go_enter Try.func30, Try.ntmps30
  go_upto_region 1 with (fail)
  obtain ⟨W1, hW1⟩ : ∃ W, w.setCell ⟨g, 2, none⟩ (.bool true) = W := ⟨_, rfl⟩
  have hBW : B ≤ W1.heap.size := by rw [← hW1]; simpa using hB
  rw [hW1] at HS1 HB1
  clear c0 c1 c2 c3 f0 f1 f2 f3 hgl
  have hgl := HS1.out.lt
  obtain ⟨⟨c0, c1, c2, c3⟩, f0, f1, f2, f3⟩ := HS1.out.blk.four
  rw [hW1]
  clear hW1
  obtain ⟨gN, hN, hn1, hBN, hgN, q0, q1, qf⟩ := last_cells HS1.out.po hl
  have hia : ∀ W, (Instr.indexAt 22 (.slice h.N h.nn h.cn) (.int .i64 ((h.nn : Int) - 1))).run Try.prog W = .ok (.pointer (some ⟨gN, (h.nn - 1) * 4, none⟩)) W := fun W => by
    rw [hN]
    have := pc_at gN 0 h.nn h.cn (h.nn - 1) ((h.nn : Int) - 1) (by omega) (by omega) W
    rwa [Nat.zero_add] at this
  have kn : (0 : Int) < (h.nn : Int) := by omega
  have kw : IntKind.i64.wrap ((h.nn : Int) - 1) = (h.nn : Int) - 1 := by simp [IntKind.wrap, IntKind.bits, IntKind.signed]; omega
  have HNE := hide hN
  have hcat := catQ x1 t
  have b1 : ¬ (9223372036854775807 : Nat) < x1.length + t.length := by omega
  have hfin : FT B (W1.setCell ⟨gN, (h.nn - 1) * 4, none⟩ (.string ⟨(x1 ++ t).toArray⟩)) g X { f with op := true, now := f.now.dropLast ++ [(x1 ++ t, false)] } h := by
    have := HS1.out.setLast (a := f.now.dropLast) (x := x1) (t := x1 ++ t) (gN := gN) HSP.out hN
    rw [HDL.out] at this
    exact this
  have HF := hide hfin
  have HBF : Hid (Below B w (W1.setCell ⟨gN, (h.nn - 1) * 4, none⟩ (.string ⟨(x1 ++ t).toArray⟩))) := hide (HB1.out.setCell (p := ⟨gN, (h.nn - 1) * 4, none⟩) hBN _)
  clear hl hN hfin
  dsimp only at q0 q1
  go_wp2_with fail
  refine wp_region_M (fun V => V.cell? ⟨g, 1, none⟩ = some (.slice h.N h.nn h.cn) ∧ V.cell? ⟨gN, (h.nn - 1) * 4, none⟩ = some (.string ⟨x1.toArray⟩)) 19 rfl ⟨c1, q0⟩ (fun hHeld => ?_)
  refine wpAnyM_take (i := 0) (v := ?_) rfl rfl (by kernel_rfl) (fun _ _ _ h => h) (Or.inl ⟨by rfl, ?_⟩) (by assumption) ?_
  rotate_left
  · (intro V hV; (try dsimp only at hV); go_simp; with_reducible rfl)
  try simp only [Act.put, List.setIfInBounds_toArray, List.set_cons_zero, List.set_cons_succ]
  refine wpAnyM_take (i := 1) (v := ?_) rfl rfl (by kernel_rfl) (fun _ _ _ h => h) (Or.inl ⟨by rfl, ?_⟩) (by assumption) ?_
  rotate_left
  · (intro V hV; (try dsimp only at hV); go_simp; with_reducible rfl)
  try simp only [Act.put, List.setIfInBounds_toArray, List.set_cons_zero, List.set_cons_succ]
  refine wpAnyM_take (i := 2) (v := ?_) rfl rfl (by kernel_rfl) (fun _ _ _ h => h) (Or.inl ⟨by rfl, ?_⟩) (by assumption) ?_
  rotate_left
  · (intro V hV; (try dsimp only at hV); go_simp; with_reducible rfl)
  try simp only [Act.put, List.setIfInBounds_toArray, List.set_cons_zero, List.set_cons_succ]
  refine wpAnyM_take (i := 3) (v := ?_) rfl rfl (by kernel_rfl) (fun _ _ _ h => h) (Or.inl ⟨by rfl, ?_⟩) (by assumption) ?_
  rotate_left
  · (intro V hV; (try dsimp only at hV); go_simp; with_reducible rfl)
  try simp only [Act.put, List.setIfInBounds_toArray, List.set_cons_zero, List.set_cons_succ]
  refine wpAnyM_take (i := 4) (v := ?_) rfl rfl (by kernel_rfl) (fun _ _ _ h => h) (Or.inl ⟨by rfl, ?_⟩) (by assumption) ?_
  rotate_left
  · (intro V hV; (try dsimp only at hV); go_simp; with_reducible rfl)
  try simp only [Act.put, List.setIfInBounds_toArray, List.set_cons_zero, List.set_cons_succ]
  refine wpAnyM_take (i := 5) (v := ?_) rfl rfl (by kernel_rfl) (fun _ _ _ h => h) (Or.inl ⟨by rfl, ?_⟩) (by assumption) ?_
  rotate_left
  · (intro V hV; (try dsimp only at hV); go_simp; with_reducible rfl)
  try simp only [Act.put, List.setIfInBounds_toArray, List.set_cons_zero, List.set_cons_succ]
  refine wpAnyM_take (i := 6) (v := ?_) rfl rfl (by kernel_rfl) (fun _ _ _ h => h) (Or.inl ⟨by rfl, ?_⟩) (by assumption) ?_
  rotate_left
  · (intro V hV; (try dsimp only at hV); go_simp; with_reducible rfl)
  try simp only [Act.put, List.setIfInBounds_toArray, List.set_cons_zero, List.set_cons_succ]
  refine wpAnyM_take (i := 7) (v := ?_) rfl rfl (by kernel_rfl) (fun _ _ _ h => h) (Or.inl ⟨by rfl, ?_⟩) (by assumption) ?_
  rotate_left
  · (intro V hV; (try dsimp only at hV); go_simp; with_reducible rfl)
  try simp only [Act.put, List.setIfInBounds_toArray, List.set_cons_zero, List.set_cons_succ]
  refine wpAnyM_take (i := 8) (v := ?_) rfl rfl (by kernel_rfl) (fun _ _ _ h => h) (Or.inl ⟨by rfl, ?_⟩) (by assumption) ?_
  rotate_left
  · (intro V hV; (try dsimp only at hV); go_simp; with_reducible rfl)
  try simp only [Act.put, List.setIfInBounds_toArray, List.set_cons_zero, List.set_cons_succ]
  refine wpAnyM_take (i := 9) (v := ?_) rfl rfl (by kernel_rfl) (fun _ _ _ h => h) (Or.inl ⟨by rfl, ?_⟩) (by assumption) ?_
  rotate_left
  · (intro V hV; (try dsimp only at hV); go_simp; with_reducible rfl)
  try simp only [Act.put, List.setIfInBounds_toArray, List.set_cons_zero, List.set_cons_succ]
  refine wpAnyM_take (i := 10) (v := ?_) rfl rfl (by kernel_rfl) (fun _ _ _ h => h) (Or.inl ⟨by rfl, ?_⟩) (by assumption) ?_
  rotate_left
  · (intro V hV; (try dsimp only at hV); go_simp; with_reducible rfl)
  try simp only [Act.put, List.setIfInBounds_toArray, List.set_cons_zero, List.set_cons_succ]
  refine wpAnyM_take (i := 11) (v := ?_) rfl rfl (by kernel_rfl) (fun _ _ _ h => h) (Or.inl ⟨by rfl, ?_⟩) (by assumption) ?_
  rotate_left
  · (intro V hV; (try dsimp only at hV); go_simp; with_reducible rfl)
  try simp only [Act.put, List.setIfInBounds_toArray, List.set_cons_zero, List.set_cons_succ]
  refine wpAnyM_take (i := 12) (v := ?_) rfl rfl (by kernel_rfl) (fun _ _ _ h => h) (Or.inl ⟨by rfl, ?_⟩) (by assumption) ?_
  rotate_left
  · (intro V hV; (try dsimp only at hV); go_simp; with_reducible rfl)
  try simp only [Act.put, List.setIfInBounds_toArray, List.set_cons_zero, List.set_cons_succ]
  refine wpAnyM_take (i := 13) (v := ?_) rfl rfl (by kernel_rfl) (fun _ _ _ h => h) (Or.inl ⟨by rfl, ?_⟩) (by assumption) ?_
  rotate_left
  · (intro V hV; (try dsimp only at hV); go_simp; with_reducible rfl)
  try simp only [Act.put, List.setIfInBounds_toArray, List.set_cons_zero, List.set_cons_succ]
  refine wpAnyM_take (i := 14) (v := ?_) rfl rfl (by kernel_rfl) (fun _ _ _ h => h) (Or.inl ⟨by rfl, ?_⟩) (by assumption) ?_
  rotate_left
  · (intro V hV; (try dsimp only at hV); go_simp; with_reducible rfl)
  try simp only [Act.put, List.setIfInBounds_toArray, List.set_cons_zero, List.set_cons_succ]
  refine wpAnyM_take (i := 15) (v := ?_) rfl rfl (by kernel_rfl) (fun _ _ _ h => h) (Or.inl ⟨by rfl, ?_⟩) (by assumption) ?_
  rotate_left
  · (intro V hV; (try dsimp only at hV); go_simp; with_reducible rfl)
  try simp only [Act.put, List.setIfInBounds_toArray, List.set_cons_zero, List.set_cons_succ]
  refine wpAnyM_take (i := 16) (v := ?_) rfl rfl (by kernel_rfl) (fun _ _ _ h => h) (Or.inl ⟨by rfl, ?_⟩) (by assumption) ?_
  rotate_left
  · (intro V hV; (try dsimp only at hV); go_simp; with_reducible rfl)
  try simp only [Act.put, List.setIfInBounds_toArray, List.set_cons_zero, List.set_cons_succ]
  refine wpAnyM_take (i := 17) (v := ?_) rfl rfl (by kernel_rfl) (fun _ _ _ h => h) (Or.inl ⟨by rfl, ?_⟩) (by assumption) ?_
  rotate_left
  · (intro V hV; (try dsimp only at hV); go_simp; with_reducible rfl)
  try simp only [Act.put, List.setIfInBounds_toArray, List.set_cons_zero, List.set_cons_succ]
  refine wpAnyM_take (i := 18) (v := ?_) rfl rfl (by kernel_rfl) (fun _ _ _ h => h) (Or.inl ⟨by rfl, ?_⟩) (by assumption) ?_
  rotate_left
  · (intro V hV; (try dsimp only at hV); go_simp; with_reducible rfl)
  try simp only [Act.put, List.setIfInBounds_toArray, List.set_cons_zero, List.set_cons_succ]
  refine wpAnyM_step (i := 19) (by kernel_rfl) rfl rfl (fun K hK => ?_)
  go_simp
  refine hK.out _ _ (fun h => absurd rfl h) ?_
  refine wpAnyM_done (by kernel_rfl) ?_ _
  clear hK K hHeld
  go_wp2
  refine bodyPost_ret (results_none rfl _ _ _) rfl ?_
  refine ⟨rfl, ?_, ⟨HBF.out.os, HBF.out.tape, HBF.out.output, HBF.out.size, HBF.out.block⟩⟩
  rw [HE.out]
  exact ⟨h, HF.out.below ⟨rfl, rfl, rfl, Nat.le_refl _, fun _ _ => rfl⟩⟩
theorem add_any (B g : Nat) (f : FS) (t : LB) (q : Bool) (w : World) (hK : f.Le 900000) (ht : t.length ≤ 50000) (hB : B ≤ w.heap.size) (H : FAt B w g X f) :
    Calls Try.prog 30 #[.pointer (some ⟨g, 0, none⟩), .string ⟨t.toArray⟩, .bool q] w fun e w' => e = .returned (.tuple #[]) ∧ FAt B w' g X (f.add t q) ∧ Below B w w' := by
  by_cases h : ∃ x, f.now.getLast? = some x ∧ x.2 = q ∧ q = false
  · obtain ⟨x, h1, h2, rfl⟩ := h
    exact add_join_any B g f t x w hK ht hB H h1 h2
  · exact add_new_any B g f t q w hK hB H (fun x hx hc => h ⟨x, hx, hc⟩)
end Go.Proofs.Ytnongbbhpkmdjaa
