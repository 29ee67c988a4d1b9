/- proto.Encode: what is written. -/
import Derived.Test.YtedacfjkbfgikaaPrG
namespace Go.Proofs.Ytedacfjkbfgikaa
open Go.RowKit
set_option linter.unusedVariables false
theorem req_look2 (op : Int) (w : World) (h1 : -9223372036854775808 ≤ op) (h2 : op ≤ 9223372036854775807) :
    Calls Try.prog 26 #[] w fun e w' => e = .returned (.map (some w.heap.size)) ∧ Below w.heap.size w w' ∧ ((Instr.lookup 57 (.map (some w.heap.size)) (.int .i64 op) false).run Try.prog w' = .ok (.int .i64 (reqU op).1) w') ∧ (∀ o, (Instr.lookup 57 (.map (some w.heap.size)) (.int .i64 op) false).run Try.prog (w'.alloc o) = .ok (.int .i64 (reqU op).1) (w'.alloc o)) :=
  (req_any w).mono fun e w' ⟨he, ho, hb⟩ => ⟨he, hb, look_of1 ho (req_get op) (wf64 h1 h2), fun o => look_of1 (ho.alloc o) (req_get op) (wf64 h1 h2)⟩
theorem op_range {op : Int} (h : (reqU op).2 = true) : 1 ≤ op ∧ op ≤ 16 := by
  unfold reqU reqL at h
  simp only [useD] at h
  by_cases h1 : 1 ≤ op ∧ op ≤ 16
  · exact h1
  · exfalso
    repeat rw [if_neg (by omega)] at h
    cases h
theorem op_byte {op : Int} (h : (reqU op).2 = true) : IntKind.u8.wrap op = ((opB op).toNat : Int) := by
  obtain ⟨h1, h2⟩ := op_range h
  simp [opB, IntKind.wrap, IntKind.bits, IntKind.signed]
  omega
theorem ok_parts {r : RQ} (h : r.ok = true) : (reqU r.op).2 = true ∧ bits .andNot .i64 r.used (reqU r.op).1 = 0 ∧ (wideP r.h = true ∧ wideP r.n = true ∧ wideP r.fl = true) ∧ (∀ x ∈ r.fds, wideP x = true) ∧ (r.op = 7 → r.fds.length = 3) ∧ r.d.length ≤ 2048 ∧ r.args.length ≤ 16 ∧ r.env.length ≤ 32 ∧ ∀ x ∈ [r.p, r.p2] ++ r.args ++ r.env, x.length ≤ 256 := by
  unfold RQ.ok at h
  simp only [Bool.and_eq_true, beq_iff_eq, List.all_eq_true, Bool.not_eq_true', Bool.or_eq_false_iff, decide_eq_false_iff_not, Bool.and_eq_false_iff] at h
  obtain ⟨⟨⟨⟨⟨⟨h1, h2⟩, h3⟩, h4⟩, h5⟩, h6⟩, h7⟩ := h
  refine ⟨h1, h2, ⟨h3.1.1, h3.1.2, h3.2⟩, h4, fun e => ?_, by omega, by omega, by omega, fun x hx => ?_⟩
  · rcases h5 with h5 | h5
    · simp [e] at h5
    · simpa using h5
  · unfold anyL at h7
    rw [List.any_eq_false] at h7
    have := h7 x hx
    simp at this
    omega
theorem usedB_eq (r : RQ) : r.used = usedB (r.h != 0) (!r.p.isEmpty) (!r.p2.isEmpty) (decide (0 < r.args.length)) (decide (0 < r.env.length)) (decide (0 < r.fds.length)) (r.fl != 0) (r.n != 0) (decide (0 < r.d.length)) := rfl
theorem useD_mem (op : Int) : ∀ (l : List (Int × Int)) (a : Int × Bool), (useD op l a).2 = true → useD op l a = a ∨ ∃ e ∈ l, useD op l a = (e.2, true)
  | [], a, h => .inl rfl
  | (k, v) :: l, a, h => by
    rw [useD] at h ⊢
    by_cases hk : op = k
    · rw [if_pos hk] at h ⊢
      rcases useD_mem op l _ h with h1 | ⟨e, he, h1⟩
      · exact .inr ⟨(k, v), List.mem_cons_self .., h1⟩
      · exact .inr ⟨e, List.mem_cons_of_mem _ he, h1⟩
    · rw [if_neg hk] at h ⊢
      rcases useD_mem op l _ h with h1 | ⟨e, he, h1⟩
      · exact .inl h1
      · exact .inr ⟨e, List.mem_cons_of_mem _ he, h1⟩
theorem req_mem {op : Int} (h : (reqU op).2 = true) : ∃ e ∈ reqL, (reqU op).1 = e.2 := by
  rcases useD_mem op reqL (0, false) h with h1 | ⟨e, he, h1⟩
  · unfold reqU at h; rw [h1] at h; cases h
  · exact ⟨e, he, by unfold reqU; rw [h1]⟩
theorem ok_zer {r : RQ} (h : r.ok = true) : r.zer (reqU r.op).1 := by
  obtain ⟨h1, h2, -⟩ := ok_parts h
  obtain ⟨e, he, hu⟩ := req_mem h1
  have h0 := List.all_eq_true.1 okB_all e he
  rw [usedB_eq] at h2
  rw [hu] at h2 ⊢
  have h3 := allB_at (allB_at (allB_at (allB_at (allB_at (allB_at (allB_at (allB_at (allB_at h0 (r.h != 0)) (!r.p.isEmpty)) (!r.p2.isEmpty)) (decide (0 < r.args.length))) (decide (0 < r.env.length))) (decide (0 < r.fds.length))) (r.fl != 0)) (r.n != 0)) (decide (0 < r.d.length))
  unfold okB at h3
  rw [h2] at h3
  simp only [beq_self_eq_true, Bool.not_true, Bool.false_or, Bool.and_eq_true, Bool.or_eq_true, Bool.not_eq_true', beq_eq_false_iff_ne, bne_eq_false_iff_eq, Bool.not_eq_false', decide_eq_false_iff_not] at h3
  obtain ⟨⟨⟨⟨⟨⟨⟨⟨k1, k2⟩, k3⟩, k4⟩, k5⟩, k6⟩, k7⟩, k8⟩, k9⟩ := h3
  have L : ∀ {α : Type} (l : List α), ¬ 0 < l.length → l = [] := fun l hl => List.eq_nil_of_length_eq_zero (by omega)
  have G : ∀ {a : Prop} {x : Int}, (x ≠ 0 ∨ a) → x = 0 → a := fun h hx => h.resolve_left (fun k => k hx)
  refine ⟨fun hb => ?_, fun hb => ?_, fun hb => ?_, fun hb => ?_, fun hb => ?_, fun hb => ?_, fun hb => ?_, fun hb => ?_, fun hb => ?_⟩
  · exact G k1 hb
  · simpa using G k2 hb
  · simpa using G k3 hb
  · exact L _ (G k4 hb)
  · exact L _ (G k5 hb)
  · exact L _ (G k6 hb)
  · exact G k7 hb
  · exact G k8 hb
  · exact L _ (G k9 hb)
theorem wide_i64 {n : Int} (h : wideP n = true) : i64ok n := by
  unfold wideP at h
  rw [Bool.and_eq_true, decide_eq_true_eq, decide_eq_true_eq] at h
  unfold i64ok; omega
theorem not_seven : ((reqL.all fun e => e.1 == 7 || bits .and .i64 e.2 128 == 0)) = true := by kernel_rfl
theorem useD_key (op : Int) : ∀ (l : List (Int × Int)) (a : Int × Bool), useD op l a = a ∨ ∃ e ∈ l, e.1 = op ∧ useD op l a = (e.2, true)
  | [], a => .inl rfl
  | (k, v) :: l, a => by
    rw [useD]
    by_cases hk : op = k
    · rw [if_pos hk]
      rcases useD_key op l (v, true) with h1 | ⟨e, he, h0, h1⟩
      · exact .inr ⟨(k, v), List.mem_cons_self .., hk.symm, h1⟩
      · exact .inr ⟨e, List.mem_cons_of_mem _ he, h0, h1⟩
    · rw [if_neg hk]
      rcases useD_key op l a with h1 | ⟨e, he, h0, h1⟩
      · exact .inl h1
      · exact .inr ⟨e, List.mem_cons_of_mem _ he, h0, h1⟩
theorem ok_fds {r : RQ} (h : r.ok = true) : r.fds.length ≤ 3 := by
  obtain ⟨h1, h2, h3, h4, h5, -⟩ := ok_parts h
  by_cases h7 : r.op = 7
  · rw [h5 h7]; exact Nat.le_refl 3
  · have hz := (ok_zer h).2.2.2.2.2.1
    rcases useD_key r.op reqL (0, false) with e1 | ⟨e, he, hk, e1⟩
    · unfold reqU at h1; rw [e1] at h1; cases h1
    · have := List.all_eq_true.1 not_seven e he
      rw [Bool.or_eq_true] at this
      rcases this with h | h
      · simp at h; omega
      · have : r.fds = [] := hz (by unfold reqU; rw [e1]; simpa using h)
        rw [this]; simp
theorem ok_small {r : RQ} (h : r.ok = true) : r.small := by
  obtain ⟨h1, h2, ⟨h3a, h3b, h3c⟩, h4, h5, h6, h7, h8, h9⟩ := ok_parts h
  obtain ⟨ho1, ho2⟩ := op_range h1
  refine ⟨by unfold i64ok; omega, wide_i64 h3a, wide_i64 h3b, wide_i64 h3c, h9 _ (by simp), h9 _ (by simp), h6, ⟨h7, fun x hx => h9 x (by simp [hx])⟩, ⟨h8, fun x hx => h9 x (by simp [hx])⟩, ok_fds h, fun x hx => wide_i64 (h4 x hx)⟩
theorem ok_fit {r : RQ} (h : r.ok = true) : r.fit := by
  have hs := ok_small h
  obtain ⟨h1, h2, ⟨h3a, h3b, h3c⟩, h4, h5, h6, h7, h8, h9⟩ := ok_parts h
  obtain ⟨s0, s1, s2, s3, s4, s5, s6, s7, s8, s9⟩ := hs
  exact ⟨h3a, h3b, h3c, by omega, by omega, by omega, ⟨by omega, fun x hx => by have := s7.2 x hx; omega⟩, ⟨by omega, fun x hx => by have := s8.2 x hx; omega⟩, ⟨by omega, h4⟩⟩
end Go.Proofs.Ytedacfjkbfgikaa
