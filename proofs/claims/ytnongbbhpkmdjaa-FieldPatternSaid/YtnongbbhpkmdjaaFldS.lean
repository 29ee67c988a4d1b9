/- Splitting words into fields: the plain text, the program's way and the document's way. No program in it. -/
import Derived.Lib.Strings
namespace Go.Proofs.Ytnongbbhpkmdjaa
set_option linter.unusedVariables false
abbrev LB := List UInt8
/-- A piece of a word. -/
structure Pc where
  text : LB
  quoted : Bool
  soft : Bool
  gap : Bool
def kindP (ifs : LB) (c : UInt8) : Nat := if c ∈ ifs then (if c = 32 ∨ c = 9 ∨ c = 10 then 1 else 2) else 0
abbrev Fd := List (LB × Bool)
/-- The program's state. -/
structure CS where
  fields : List Fd
  begins : List Nat
  pieces : Fd
  text : LB
  op : Bool
  closed : Bool
  counted : Nat
def CS.flush (s : CS) : CS := { s with pieces := if s.text = [] then s.pieces else s.pieces ++ [(s.text, false)], text := [] }
def CS.enter (s : CS) : CS := if s.op then s else { s with op := true, begins := s.begins ++ [s.counted] }
def CS.close (s : CS) : CS := if s.op then { s with fields := s.fields ++ [s.flush.pieces], pieces := [], text := [], op := false } else s
def CS.plain (s : CS) (t : LB) : CS := if t = [] then s else { s.enter with text := s.text ++ t, counted := s.counted + t.length }
def CS.quote (s : CS) (t : LB) : CS := { s.enter.flush with pieces := s.enter.flush.pieces ++ [(t, true)], counted := s.counted + t.length }
def CS.gap (s : CS) (first : Bool) : CS := { (if !s.op && !first then s.enter else s).close with closed := false }
def CS.byte (s : CS) (ifs : LB) (c : UInt8) : CS := match kindP ifs c with
  | 1 => { { s with closed := s.closed || s.op }.close with counted := s.counted + 1 }
  | 2 => { (if !s.op && !s.closed then s.enter else s).close with closed := false, counted := s.counted + 1 }
  | _ => s.plain [c]
def CS.piece (s : CS) (ifs : LB) (first : Bool) (p : Pc) : CS :=
  let s := if p.gap then s.gap first else s
  if p.quoted then s.quote p.text else if p.soft then p.text.foldl (fun s c => s.byte ifs c) s else s.plain p.text
def splitC (ifs : LB) : List Pc → Bool → CS → CS
  | [], _, s => s.close
  | p :: r, first, s => splitC ifs r false (s.piece ifs first p)
/-- The document's state. -/
structure FS where
  out : List Fd
  now : Fd
  op : Bool
  white : Bool
def FS.stop (f : FS) : FS := { f with out := f.out ++ [f.now], now := [], op := false }
def FS.add (f : FS) (t : LB) (q : Bool) : FS := { f with op := true, now := match f.now.getLast? with
  | some x => if x.2 = q ∧ q = false then f.now.dropLast ++ [(x.1 ++ t, false)] else f.now ++ [(t, q)]
  | none => [(t, q)] }
def FS.byte (f : FS) (ifs : LB) (c : UInt8) : FS := match kindP ifs c with
  | 1 => if f.op then { f.stop with white := true } else f
  | 2 => { (if f.op then f.stop else if !f.white then f.stop else f) with white := false }
  | _ => f.add [c] false
def FS.piece (f : FS) (ifs : LB) (first : Bool) (p : Pc) : FS :=
  let f := if p.gap && (f.op || !first) then { f.stop with white := false } else f
  if p.quoted then f.add p.text true else if p.soft then p.text.foldl (fun f c => f.byte ifs c) f else if p.text = [] then f else f.add p.text false
def splitF (ifs : LB) : List Pc → Bool → FS → FS
  | [], _, f => if f.op then f.stop else f
  | p :: r, first, f => splitF ifs r false (f.piece ifs first p)
/-- Both are at the same place. -/
def Sim (s : CS) (f : FS) : Prop := f.out = s.fields ∧ f.now = s.flush.pieces ∧ f.op = s.op ∧ f.white = s.closed ∧ (∀ x, s.pieces.getLast? = some x → x.2 = true) ∧ (s.op = false → s.pieces = [] ∧ s.text = [])
theorem Sim.plain {s : CS} {f : FS} (h : Sim s f) (t : LB) (ht : t ≠ []) : Sim (s.plain t) (f.add t false) := by
  obtain ⟨h1, h2, h3, h4, h5, h6⟩ := h
  have e1 : s.enter.pieces = s.pieces := by unfold CS.enter; split <;> rfl
  have e2 : s.enter.fields = s.fields := by unfold CS.enter; split <;> rfl
  have e3 : s.enter.op = true := by unfold CS.enter; split <;> simp_all
  have e4 : s.enter.closed = s.closed := by unfold CS.enter; split <;> rfl
  unfold CS.plain
  rw [if_neg ht]
  refine ⟨by simp only [FS.add]; rw [h1, e2], ?_, by simp only [FS.add]; rw [e3], by simp only [FS.add]; rw [h4, e4], by dsimp only; rw [e1]; exact h5, fun h => by dsimp only at h; rw [e3] at h; cases h⟩
  have hne : s.text ++ t ≠ [] := by simp [ht]
  simp only [FS.add, CS.flush, e1, if_neg hne]
  rw [h2]
  unfold CS.flush
  dsimp only
  by_cases hs : s.text = []
  · rw [if_pos hs, hs, List.nil_append]
    cases hl : s.pieces.getLast? with
    | none => rw [List.getLast?_eq_none_iff.1 hl]; rfl
    | some x => dsimp only; rw [if_neg (by rw [h5 x hl]; simp)]
  · rw [if_neg hs, List.getLast?_append]
    simp
theorem Sim.quote {s : CS} {f : FS} (h : Sim s f) (t : LB) : Sim (s.quote t) (f.add t true) := by
  obtain ⟨h1, h2, h3, h4, h5, h6⟩ := h
  have e1 : s.enter.flush.pieces = s.flush.pieces := by unfold CS.enter CS.flush; split <;> rfl
  have e2 : s.enter.flush.fields = s.fields := by unfold CS.enter CS.flush; split <;> rfl
  have e3 : s.enter.flush.op = true := by unfold CS.enter CS.flush; split <;> simp_all
  have e4 : s.enter.flush.closed = s.closed := by unfold CS.enter CS.flush; split <;> rfl
  have e5 : s.enter.flush.text = [] := rfl
  unfold CS.quote
  refine ⟨by simp only [FS.add]; rw [h1, e2], ?_, by simp only [FS.add]; rw [e3], by simp only [FS.add]; rw [h4, e4], fun x hx => ?_, fun h => by dsimp only at h; rw [e3] at h; cases h⟩
  · simp only [FS.add, h2]
    have e6 : ({ s.enter.flush with pieces := s.enter.flush.pieces ++ [(t, true)], counted := s.counted + t.length } : CS).flush.pieces = s.flush.pieces ++ [(t, true)] := by
      rw [← e1]; rfl
    rw [e6]
    cases hl : s.flush.pieces.getLast? with
    | none => rw [List.getLast?_eq_none_iff.1 hl]; rfl
    | some x => simp
  · dsimp only at hx
    rw [List.getLast?_append] at hx
    simp at hx
    rw [← hx]
theorem Sim.close {s : CS} {f : FS} (h : Sim s f) (ho : s.op = true) : Sim s.close f.stop := by
  obtain ⟨h1, h2, h3, h4, h5, h6⟩ := h
  unfold CS.close
  rw [if_pos ho]
  exact ⟨by simp only [FS.stop]; rw [h1, h2], rfl, rfl, h4, (fun x hx => by cases hx), fun _ => ⟨rfl, rfl⟩⟩
theorem Sim.enter {s : CS} {f : FS} (h : Sim s f) (ho : s.op = false) : Sim s.enter.close f.stop := by
  obtain ⟨h1, h2, h3, h4, h5, h6⟩ := h
  obtain ⟨p1, p2⟩ := h6 ho
  unfold CS.enter
  rw [if_neg (by rw [ho]; decide)]
  unfold CS.close
  rw [if_pos rfl]
  exact ⟨by simp only [FS.stop]; rw [h1, h2]; rfl, rfl, rfl, h4, (fun x hx => by cases hx), fun _ => ⟨rfl, rfl⟩⟩
theorem Sim.mark {s : CS} {f : FS} (h : Sim s f) (b : Bool) (n : Nat) : Sim { s with closed := b, counted := n } { f with white := b } := ⟨h.1, h.2.1, h.2.2.1, rfl, h.2.2.2.2.1, h.2.2.2.2.2⟩
theorem Sim.count {s : CS} {f : FS} (h : Sim s f) (n : Nat) : Sim { s with counted := n } f := h
theorem CS.close_no (s : CS) (h : s.op = false) : s.close = s := by unfold CS.close; rw [if_neg (by rw [h]; decide)]
theorem Sim.byte {s : CS} {f : FS} (h : Sim s f) (ifs : LB) (c : UInt8) : Sim (s.byte ifs c) (f.byte ifs c) := by
  have ho : f.op = s.op := h.2.2.1
  have hw : f.white = s.closed := h.2.2.2.1
  unfold CS.byte FS.byte
  split
  · by_cases hs : s.op = true
    · have e : ({ s with closed := s.closed || s.op } : CS) = { s with closed := true } := by rw [hs, Bool.or_true]
      rw [e, if_pos (ho.trans hs)]
      exact ((h.mark true s.counted).close hs).count _
    · have hs' : s.op = false := by simpa using hs
      have e : ({ s with closed := s.closed || s.op } : CS) = s := by rw [hs', Bool.or_false, ← hs']
      rw [e, CS.close_no s hs', if_neg (by rw [ho]; exact hs)]
      exact h.count _
  · cases hs : s.op with
    | true =>
      rw [ho, hs, if_pos rfl]
      simp only [Bool.not_true, Bool.false_and, Bool.false_eq_true, if_false]
      exact (h.close hs).mark false _
    | false =>
      rw [ho, hs, hw]
      cases hc : s.closed with
      | true =>
        simp only [Bool.not_true, Bool.and_false, Bool.false_eq_true, if_false]
        rw [CS.close_no _ hs]
        exact h.mark false _
      | false =>
        simp only [Bool.not_false, Bool.and_true, if_true, Bool.false_eq_true, if_false]
        exact (h.enter hs).mark false _
  · exact h.plain [c] (by simp)
theorem Sim.bytes {ifs : LB} : ∀ (t : LB) {s : CS} {f : FS}, Sim s f → Sim (t.foldl (fun s c => s.byte ifs c) s) (t.foldl (fun f c => f.byte ifs c) f)
  | [], _, _, h => h
  | c :: r, _, _, h => Sim.bytes r (h.byte ifs c)
theorem Sim.gap {s : CS} {f : FS} (h : Sim s f) (first : Bool) (hf : first = true → s.closed = false) : Sim (s.gap first) (if f.op || !first then { f.stop with white := false } else f) := by
  have ho : f.op = s.op := h.2.2.1
  have hw : f.white = s.closed := h.2.2.2.1
  unfold CS.gap
  cases hs : s.op with
  | true =>
    rw [ho, hs]
    simp only [Bool.not_true, Bool.false_and, Bool.false_eq_true, if_false, Bool.true_or, if_true]
    exact (h.close hs).mark false _
  | false =>
    rw [ho, hs]
    cases first with
    | false =>
      simp only [Bool.not_false, Bool.and_true, if_true, Bool.or_true]
      exact (h.enter hs).mark false _
    | true =>
      simp only [Bool.not_true, Bool.and_false, Bool.false_eq_true, if_false, Bool.or_false]
      rw [CS.close_no _ hs]
      have := h.mark false s.counted
      have hz := hf rfl
      have he : ({ f with white := false } : FS) = f := by rw [← hw] at hz; cases f; simp_all
      rw [he] at this
      exact this
theorem Sim.piece {s : CS} {f : FS} (h : Sim s f) (ifs : LB) (first : Bool) (hf : first = true → s.closed = false) (p : Pc) : Sim (s.piece ifs first p) (f.piece ifs first p) := by
  unfold CS.piece FS.piece
  dsimp only
  have hg : Sim (if p.gap then s.gap first else s) (if p.gap && (f.op || !first) then { f.stop with white := false } else f) := by
    cases p.gap with
    | true => simpa using h.gap first hf
    | false => simpa using h
  generalize (if p.gap then s.gap first else s) = s1 at *
  generalize (if p.gap && (f.op || !first) then { f.stop with white := false } else f) = f1 at *
  by_cases hq : p.quoted
  · rw [if_pos hq, if_pos hq]; exact hg.quote _
  · rw [if_neg hq, if_neg hq]
    by_cases hs : p.soft
    · rw [if_pos hs, if_pos hs]; exact Sim.bytes _ hg
    · rw [if_neg hs, if_neg hs]
      by_cases ht : p.text = []
      · rw [if_pos ht, ht]; exact hg
      · rw [if_neg ht]; exact hg.plain _ ht
theorem split_same (ifs : LB) : ∀ (l : List Pc) (first : Bool) (s : CS) (f : FS), Sim s f → (first = true → s.closed = false) → (splitF ifs l first f).out = (splitC ifs l first s).fields
  | [], _, s, f, h, _ => by
    unfold splitF splitC
    have ho : f.op = s.op := h.2.2.1
    cases hs : s.op with
    | true => rw [ho, hs, if_pos rfl]; exact (h.close hs).1
    | false => rw [ho, hs, if_neg (by decide), CS.close_no _ hs]; exact h.1
  | p :: r, first, s, f, h, hf => split_same ifs r false _ _ (h.piece ifs first hf p) (fun h => by cases h)
end Go.Proofs.Ytnongbbhpkmdjaa
