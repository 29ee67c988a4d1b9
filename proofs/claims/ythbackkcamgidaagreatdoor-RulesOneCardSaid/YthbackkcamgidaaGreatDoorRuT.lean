/- Operations that are walked in a plain frame, walked in a round's. -/
import Derived.Test.YthbackkcamgidaaGreatDoorRuR
import Derived.Test.YthbackkcamgidaaGreatDoorMemK
import Derived.OrdersIn
import Derived.RangeFuncCalls
namespace Go.Proofs.YthbackkcamgidaaGreatDoor
open Go Go.RowKit
set_option linter.unusedVariables false
section
variable {P : Program} {ops : Array Oper} {Q : Exit → Act → World → Prop} {l0 : Nat}
def noDefer (o : Oper) : Bool := match o.op with
  | .defer _ => false
  | _ => true
theorem operIn_of {o : Oper} (hnd : noDefer o = true) {a : Act} {w : World} {K : Act → World → Prop} (h : o.wp P a w K Q) : o.wpIn (Fence.wide.inRound l0) 0 P a w K Q := by
  unfold Oper.wp at h
  unfold Oper.wpIn
  refine ⟨fun _ _ => trivial, ?_⟩
  rw [Oper.semAt_eq _ _ _ (fun c hc => by unfold noDefer at hnd; rw [hc] at hnd; cases hnd)]
  generalize (execOp a.eval o).run P w = r at *
  cases r with
  | ok x w' =>
    cases x <;> simp only [Oper.uponIn, Oper.upon] at h ⊢ <;> try (first | exact h | exact h.elim)
    · exact ⟨(fun hh => by cases hh), CallsIn.inRound l0 (callsIn_wide.2 h)⟩
    · exact ⟨(fun hh => by cases hh), fun c cs _ => let ⟨v, w', r, s⟩ := h c cs; ⟨v, w', r, stepsIn_wide.2 s⟩⟩
  | halt x w' => cases x <;> simp only [Oper.uponIn, Oper.upon] at h ⊢ <;> exact h
theorem opIn_of (hL : ¬ LetsOut Q) (hnd : ∀ (i : Nat) o, ops[i]? = some o → noDefer o = true) {i : Nat} {a : Act} {w : World} {K K' : Act → World → Prop} (hk : ∀ a w, K a w → K' a w) (h : wpOp P ops Q i K a w) : wpOpIn (Fence.wide.inRound l0) 0 P ops Q i K' a w := by
  refine wpOpIn_mono hk ?_
  unfold wpOp at h
  unfold wpOpIn
  cases ho : ops[i]? with
  | none => rw [ho] at h; exact h
  | some o =>
    rw [ho] at h
    dsimp only at h ⊢
    by_cases hw : Region.wanted o (yielded ops a.tmps) = true
    · rw [if_pos hw] at h ⊢
      rcases h with h | h
      · exact operIn_of (hnd i o ho) h
      · exact absurd h.2 hL
    · rw [if_neg hw] at h ⊢
      exact ⟨fun _ _ => trivial, h⟩
theorem anyIn_of (hL : ¬ LetsOut Q) (hnd : ∀ (i : Nat) o, ops[i]? = some o → noDefer o = true) {md : Region.Mode} : ∀ (fuel : Nat) (listed : Array Bool) (a : Act) (w : World), wpAny P md ops Q fuel listed a w → wpAnyIn (Fence.wide.inRound l0) 0 P md ops Q fuel listed a w
  | 0, _, _, _, h => h
  | fuel + 1, listed, a, w, h => ⟨h.1, fun i hi => opIn_of hL hnd (fun a w => anyIn_of hL hnd fuel _ a w) (h.2 i hi)⟩
theorem wpIn_region_K {l : List Oper} (S : World → Prop) (L : List Nat) {id : Nat} {a : Act} {w : World} (hm : P.follows .mixedOrders = true) (hL : ¬ LetsOut Q) (hnd : l.all noDefer = true) (hS : S w.drew)
    (h : S w.drew → wpAnyK P .any l.toArray Q S L l.length (List.replicate l.length false).toArray a w.drew) : (Code.region id l.toArray true).wpIn (Fence.wide.inRound l0) 0 P Q a w := by
  have h := h hS
  refine wpIn_region_any hm (anyIn_of hL (fun i o ho => List.all_eq_true.1 hnd o (List.mem_of_getElem? (by simpa using ho))) _ _ _ _ (wpAny_of_K (S := S) (L := L) _ _ _ _ ?_))
  have e1 : l.toArray.size = l.length := by simp
  have e2 : Array.replicate l.toArray.size false = (List.replicate l.length false).toArray := by simp
  rw [e1] at e2 ⊢
  rw [e2]
  exact h
/-- .. before more code. -/
theorem wpIn_region_KN {l : List Oper} (S : World → Prop) (L : List Nat) {id : Nat} {a : Act} {w : World} {K : Act → World → Prop} (hm : P.follows .mixedOrders = true) (hnd : l.all noDefer = true) (hS : S w.drew)
    (h : S w.drew → wpAnyK P .any l.toArray (fun e a w => e = .normal ∧ K a w) S L l.length (List.replicate l.length false).toArray a w.drew) : (Code.region id l.toArray true).wpIn (Fence.wide.inRound l0) 0 P (Exit.then K Q) a w := by
  refine wpIn_mono (wpIn_region_K S L hm (by rintro ⟨_, _, h, _⟩; cases h) hnd hS h) ?_
  rintro e a w ⟨rfl, h⟩
  exact h
end
end Go.Proofs.YthbackkcamgidaaGreatDoor
