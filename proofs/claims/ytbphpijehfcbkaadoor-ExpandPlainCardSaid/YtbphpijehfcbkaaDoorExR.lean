/- A range over a function whose iterator keeps its state in boxes of its own, and whose rounds all go on. -/
import Derived.RangeFuncBox
import Derived.RangeFuncLeaves
import Derived.WalkKit
import Derived.OwnWalkIn
import Derived.TacticsInMore
import Derived.LoopNIn
import Derived.LoopIn
namespace Go.Proofs.YtbphpijehfcbkaaDoor
open Go Go.RowKit
set_option linter.unusedVariables false
/-- The iterator's own blocks lie as they lay. -/
def KeepsK (K : Nat → Prop) (W W' : World) : Prop := W.heap.size ≤ W'.heap.size ∧ ∀ k, K k → W'.heap[k]? = W.heap[k]?
theorem KeepsK.refl (K : Nat → Prop) (W : World) : KeepsK K W W := ⟨Nat.le_refl _, fun _ _ => rfl⟩
theorem KeepsK.trans {K : Nat → Prop} {A B C : World} (h : KeepsK K A B) (k : KeepsK K B C) : KeepsK K A C := ⟨Nat.le_trans h.1 k.1, fun i hi => (k.2 i hi).trans (h.2 i hi)⟩
theorem KeepsK.put {K : Nat → Prop} {W : World} {l : Nat} (o : Obj) (h : ∀ k, K k → k ≠ l) : KeepsK K W (W.putObj l o) := ⟨by simp, fun k hk => World.putObj_heap_other (h k hk)⟩
section
variable {F : Fence} {n : Nat} {P : Program}
theorem range_own {α : Type} {g : Operand} {ps : Array Tmp} {assign body : Code} {Q : Exit → Act → World → Prop} {a : Act} {w : World}
    (hro : F.round = none) (h1 : 1 ≤ n) {gf : Nat} {lb : Array Value} (hg : a.eval g = .func (.func gf) #[] lb) (hFg : F.fn gf) (eg : ∀ args w, (callFunc gf args).run P w = .ok (.enter gf args) w)
    (enc : α → Value) (hps : ps.size = 1) (K : Nat → Prop) (hK : ∀ k, K k → k < w.heap.size) (I : List α → World → Prop)
    (hI : ∀ s W l o o', I s W → w.heap.size ≤ l → W.heap[l]? = some o' → o'.isCells = false → o'.isWalk = false → I s (W.putObj l o)) (hIa : ∀ s W o, I s W → I s (W.alloc o)) (xs : List α) (h0 : I [] w) (a₁ : α → Act)
    (hassign : ∀ (l : Nat) (x : α) (W : World) (K' : Act → World → Prop), K' (a₁ x) W →
      assign.wpIn (F.inRound l) (n - 1 - 1) P (Exit.then K' (fun _ _ _ => False)) { tmps := (ps.zip #[enc x]).foldl (fun t (p, v) => t.setIfInBounds p v) a.tmps, defers := [] } W)
    (hbody : ∀ (l : Nat) (pre : List α) (x : α) (W : World), I pre W → pre.length < xs.length → body.wpIn (F.inRound l) (n - 1 - 1) P (fun e _ W' => e = .normal ∧ KeepsFrom w.heap.size W W' ∧ KeepsK K W W' ∧ I (pre ++ [x]) W') (a₁ x) W)
    (hiter : ∀ (l : Nat) (J : List α → World → Prop) (W : World), (∀ s W, J s W → I s W) → (∀ s W W', J s W → KeepsFrom w.heap.size W W' → I s W' → J s W') → J [] W → KeepsK K w W →
      (∀ pre x W1, J pre W1 → pre.length < xs.length → YieldAt F (n - 1 - 1) P l #[enc x] W1 fun e W' => e = .returned (.bool true) ∧ J (pre ++ [x]) W' ∧ KeepsK K W1 W') →
      CallsIn F (n - 1) P gf (#[.func (.yield l) #[] #[]] ++ lb) W fun e W' => (∃ v, e = .returned v) ∧ J xs W')
    (hdone : ∀ (D : Nat) (W : World), w.heap.size ≤ D → I xs W → W.heap[D]? = some (.deferred (some [])) → Q .normal { a with defers := { target := .collected D, args := #[] } :: a.defers } W) :
    (Code.rangeFunc g ps assign body).wpIn F n P Q a w := by
  refine wpIn_rangeFunc ?_
  intro fn hfn
  rw [hro]
  obtain ⟨d, hd⟩ : ∃ d, w.heap.size = d := ⟨_, rfl⟩
  obtain ⟨rec, hrec⟩ : ∃ rec : LoopState → Option Code → Loop, rec = fun st pe => { state := st, pending := pe, fn, tmps := a.tmps, params := ps, assign, body, defers := d } := ⟨_, rfl⟩
  let W1 : World := (w.alloc (.deferred (some []))).alloc (.loop (rec .ready none))
  have hL1 : W1.heap[d + 1]? = some (.loop (rec .ready none)) := by
    have := World.alloc_heap_new (w.alloc (.deferred (some []))) (.loop (rec .ready none))
    rwa [World.size_alloc, hd] at this
  have hD1 : W1.heap[d]? = some (.deferred (some [])) := by
    have h2 := World.alloc_heap_new w (.deferred (some []))
    rw [hd] at h2
    exact (Below.heap_alloc _ _ _ (by simp; omega)).trans h2
  have hK1 : KeepsK K w W1 := by
    refine ⟨by show _ ≤ ((w.alloc _).alloc _).heap.size; simp; omega, fun k hk => ?_⟩
    have := hK k hk
    exact (Below.heap_alloc _ _ _ (by simp; omega)).trans (Below.heap_alloc _ _ _ (by omega))
  refine ⟨d + 1, [{ target := .collected d, args := #[] }], W1, { target := .fn (.func gf) lb, args := #[.func (.yield (d + 1)) #[] #[]] }, W1, gf, #[.func (.yield (d + 1)) #[] #[]] ++ lb, W1, ?_, ?_, ?_, ?_, fun _ => h1, ?_⟩
  · have := run_enterLoop_outer (P := P) fn a.tmps ps assign body (w := w)
    rw [hd] at this
    rw [this]
    show _ = _
    simp only [W1, hrec]
  · simp only [resolve, hg]
    simp [go_sem]
  · intro f' hf'
    simp [Target.leads] at hf'
    subst hf'; exact hFg
  · simp [invoke, go_sem, eg]
  · refine (hiter (d + 1) (fun pre W => I pre W ∧ W.heap[d + 1]? = some (.loop (rec .ready none)) ∧ W.heap[d]? = some (.deferred (some []))) W1 (fun s W h => h.1)
      (fun s W W' h hk hi => ⟨hi, hk.same _ _ (by omega) h.2.1 rfl, hk.same _ _ (by omega) h.2.2 rfl⟩) ⟨hIa _ _ _ (hIa _ _ _ h0), hL1, hD1⟩ hK1 ?_).mono ?_
    · rintro pre x W ⟨hi, hl, hk⟩ hlen
      have hlt : d + 1 < W.heap.size := (Array.getElem?_eq_some_iff.1 hl).1
      have hy := run_yield (P := P) (args := #[enc x]) hl (by rw [hrec]; simp [hps])
      rw [hrec] at hy
      refine ⟨fn, _, assign, body, hy, roundIn_of_wpIn hfn (hassign _ x W _ ⟨_, run_beginRound hl (by rw [hrec]), ?_⟩)⟩
      have hne : ∀ k, K k → k ≠ d + 1 := fun k hk => by have := hK k hk; omega
      have hl2 : (W.putObj (d + 1) (.loop { rec .ready none with state := .busy })).heap[d + 1]? = some (.loop { rec .ready none with state := .busy }) := World.putObj_heap_same hlt
      have hk2 : (W.putObj (d + 1) (.loop { rec .ready none with state := .busy })).heap[d]? = some (.deferred (some [])) := (World.putObj_heap_other (by omega)).trans hk
      refine wpIn_mono (hbody _ pre x _ (hI _ _ _ _ _ hi (by omega) hl rfl rfl) hlen) ?_
      rintro e a3 W3 ⟨rfl, hkf, hkk, hi3⟩
      have hl3 := hkf.same _ _ (by omega) hl2 rfl
      have hd3 := hkf.same _ _ (by omega) hk2 rfl
      have hend := run_endRound (P := P) none hl3
      rw [hrec] at hend hl3
      refine ⟨_, _, hend, rfl, ⟨hI _ _ _ _ _ hi3 (by omega) hl3 rfl rfl, ?_, (World.putObj_heap_other (by omega)).trans hd3⟩, (KeepsK.put _ hne).trans (hkk.trans (KeepsK.put _ hne))⟩
      rw [hrec]
      exact World.putObj_heap_same (Array.getElem?_eq_some_iff.1 hl3).1
    · rintro e W2 ⟨⟨v, rfl⟩, hi, hl, hk⟩
      refine ⟨none, _, by have := run_endLoop (P := P) hl (by rw [hrec]; simp); rw [hrec] at this; exact this, hdone d _ (by omega) (hI _ _ _ _ _ hi (by omega) hl rfl rfl) ((World.putObj_heap_other (by omega)).trans hk)⟩
end
end Go.Proofs.YtbphpijehfcbkaaDoor
