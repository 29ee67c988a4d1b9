/- The reference's Scan: its state, and what its steps come to. -/
import Derived.Test.YtpfcfcbljkdkhaaDoorRefD
import Derived.Test.YtpfcfcbljkdkhaaDoorLexN
import Derived.Test.YtpfcfcbljkdkhaaDoorLexO
namespace Go.Proofs.YtpfcfcbljkdkhaaDoor
open Go.RowKit
set_option linter.unusedVariables false
/-- The state of the reference's Scan: its two rows, the box of its fault. -/
def RS (b : Nat) (w wx : World) (A : Option Addr) (n c : Nat) (A' : Option Addr) (n' c' : Nat) (ts : List T) (wt : List Nat) : Prop :=
  To (b + 1) wx A n c ts ∧ Io (b + 1) wx A' n' c' wt ∧ Blk wx b 26 #[.int .i64 0, .int .i64 0] ∧ Below b w wx
section
variable {b : Nat} {w W W2 : World} {A A' : Option Addr} {n c n' c' : Nat} {ts : List T} {wt : List Nat}
theorem RS.lt (h : RS b w W A n c A' n' c' ts wt) : b < W.heap.size := h.2.2.1.lt
theorem RS.below (h : RS b w W A n c A' n' c' ts wt) (hb : Below W.heap.size W W2) : RS b w W2 A n c A' n' c' ts wt :=
  ⟨own_below h.1 hb, own_below h.2.1 hb, h.2.2.1.below hb h.lt, h.2.2.2.trans (hb.mono (Nat.le_of_lt h.lt))⟩
theorem RS.toks (h : RS b w W A n c A' n' c' ts wt) {o : Obj} {v1 : Value} {t : T} (h1 : W2.ownsRow (b + 1) 37 5 v1 (n + 1) (tvs ts ++ tvs [t])) (hg : (W.alloc o).grownBy W2 (Value.slice A n c).ownBlock) :
    ∃ A2 c2, v1 = .slice A2 (n + 1) c2 ∧ RS b w W2 A2 (n + 1) c2 A' n' c' (ts ++ [t]) wt := by
  obtain ⟨A2, c2, rfl⟩ := own_slice h1
  have hI : W2.ownsRow (b + 1) 3 1 (.slice A' n' c') n' (ivs wt) := World.ownsRow.kept (World.ownsRow.alloc h.2.1 o) hg (by
    rcases own_ne h.2.1 h.1 (by decide) with e | e
    · exact .inl e
    · exact .inr e)
  have hP := Blk.grown (h := h.2.2.1.alloc o) (hb := hg) (Ne.symm (own_blk_ne h.1 h.2.2.1 (by decide)))
  have hlt := h.lt
  refine ⟨A2, c2, rfl, ?_, hI, hP, Below.grown (h := h.2.2.2.alloc (Nat.le_of_lt hlt) o) (hg := hg) (by simp; omega) (fun q hq => by have := (World.ownsRow.lt h.1 q hq).1; omega)⟩
  unfold To
  rw [tvs_append]
  exact h1
theorem RS.waits (h : RS b w W A n c A' n' c' ts wt) {o : Obj} {v1 : Value} {k : Nat} (h1 : W2.ownsRow (b + 1) 3 1 v1 (n' + 1) (ivs wt ++ ivs [k])) (hg : (W.alloc o).grownBy W2 (Value.slice A' n' c').ownBlock) :
    ∃ A2 c2, v1 = .slice A2 (n' + 1) c2 ∧ RS b w W2 A n c A2 (n' + 1) c2 ts (wt ++ [k]) := by
  obtain ⟨A2, c2, rfl⟩ := own_slice h1
  have hT : W2.ownsRow (b + 1) 37 5 (.slice A n c) n (tvs ts) := World.ownsRow.kept (World.ownsRow.alloc h.1 o) hg (by
    rcases own_ne h.1 h.2.1 (by decide) with e | e
    · exact .inl e
    · exact .inr e)
  have hP := Blk.grown (h := h.2.2.1.alloc o) (hb := hg) (Ne.symm (own_blk_ne h.2.1 h.2.2.1 (by decide)))
  have hlt := h.lt
  refine ⟨A2, c2, rfl, hT, ?_, hP, Below.grown (h := h.2.2.2.alloc (Nat.le_of_lt hlt) o) (hg := hg) (by simp; omega) (fun q hq => by have := (World.ownsRow.lt h.2.1 q hq).1; omega)⟩
  unfold Io
  rw [ivs_append]
  exact h1
/-- The box of a token that was made after the rows is none of them. -/
theorem box_toks {wr : World} {g : Nat} {t : TypeId} {cs : Array Value} {B : Nat} (hP : Blk W g t cs) (h : To B wr A n c ts) (hgw : wr.heap.size ≤ g) {o : Obj} (hg : (W.alloc o).grownBy W2 (Value.slice A n c).ownBlock) : Blk W2 g t cs :=
  Blk.grown (h := hP.alloc o) (hb := hg) (fun e => by have := (World.ownsRow.lt h g e.symm).2; omega)
theorem box_waits {g : Nat} {cs : Array Value} {B : Nat} (hP : Blk W g 37 cs) (h : Io B W A' n' c' wt) {o : Obj} (hg : (W.alloc o).grownBy W2 (Value.slice A' n' c').ownBlock) : Blk W2 g 37 cs :=
  Blk.grown (h := hP.alloc o) (hb := hg) (Ne.symm (own_blk_ne h hP (by decide)))
end
/-- Where a token begins that is no operator, no line's end, no ampersand, a word has bytes. -/
theorem word_pos {p : LB} {a : Nat} (hi : a < p.length) (hnb : NBl p a) (h10 : p.getD a 0 ≠ 10) (hop : ¬ 0 < operP (p.drop a)) (h38 : p.getD a 0 ≠ 38) : isEnd (p.getD a 0) = false := by
  have g0 := drop_getD p a 0
  rw [Nat.add_zero] at g0
  have hOP : operP (p.drop a) = if pairP ((p.drop a).getD 0 0) ((p.drop a).getD 1 0) = true then 2 else if opOne ((p.drop a).getD 0 0) = true then 1 else 0 := rfl
  rw [g0] at hOP
  have h1 : opOne (p.getD a 0) = false := by
    cases ho : opOne (p.getD a 0) with
    | false => rfl
    | true =>
      rw [ho] at hOP
      exact absurd (by rw [hOP]; split <;> simp) hop
  obtain ⟨n1, _, _⟩ := hnb
  generalize p.getD a 0 = x at *
  unfold opOne at h1
  unfold isEnd
  simp only [Bool.or_eq_false_iff, beq_eq_false_iff_ne] at h1 ⊢
  obtain ⟨⟨⟨⟨⟨e1, e2⟩, e3⟩, e4⟩, e5⟩, e6⟩ := h1
  exact ⟨⟨⟨⟨⟨⟨⟨⟨⟨fun h => n1 (.inl h), fun h => n1 (.inr h)⟩, h10⟩, e4⟩, h38⟩, e1⟩, e2⟩, e3⟩, e5⟩, e6⟩
theorem word_gt {p : LB} {a : Nat} (hi : a < p.length) (he : isEnd (p.getD a 0) = false) (h2 : (wordL p (p.length + 1) a).2 = true) : a < (wordL p (p.length + 1) a).1 := by
  unfold wordL at h2 ⊢
  rw [if_neg (by omega), he, if_neg (by decide)] at h2 ⊢
  have hf := skipP_facts p a
  by_cases h3 : (skipP p a).2 = false
  · rw [if_pos h3] at h2; cases h2
  · rw [if_neg h3] at h2 ⊢
    have h4 := hf.2 (by simpa using h3)
    have := (wordL_facts p p.length (skipP p a).1 hf.1).2 h2
    omega
/-- An ampersand alone. -/
theorem amp_alone {p : LB} {a : Nat} (hi : a < p.length) (h : p.getD a 0 = 38) : numP (p.drop a) = 0 ∧ wordL p (p.length + 1) a = (a, true) := by
  constructor
  · have g0 := drop_getD p a 0
    rw [Nat.add_zero] at g0
    have hd : digs 4 (p.drop a) = 0 := digs_unique 4 0 _ (by omega) (fun q h => absurd h (by omega)) (fun _ => by rw [g0, h]; rfl)
    unfold numP
    rw [hd]
    split <;> rfl
  · unfold wordL
    rw [if_neg (by omega), if_pos (by rw [h]; rfl)]
/-- The state behind a token and what may stand between. -/
theorem next_ok {p : LB} {s : S} {s1 : S} (hok : SOk p s) (hsr : SR p s) (hi : s.at_ < p.length) (hb : tokenS p s = (s1, true)) :
    SOk p { s1 with at_ := blankP p s1.at_ } ∧ SR p { s1 with at_ := blankP p s1.at_ } ∧ (p.length ≤ blankP p s1.at_ ∨ NBl p (blankP p s1.at_)) ∧ s.at_ < blankP p s1.at_ ∧ blankP p s1.at_ ≤ p.length ∧ s1.at_ ≤ p.length := by
  have h2 : (tokenS p s).2 = true := by rw [hb]
  have h3 := (tokenS_ok hok hi).1 h2
  have h4 := tokenS_rise hok hsr hi h2
  rw [hb] at h3 h4
  dsimp only at h3 h4
  have h5 := blankP_facts p s1.at_ h3.1.1
  refine ⟨blank_ok h3.1, ⟨Rise.up _ _ h4.1 h5.1, h4.2⟩, blank_stop p (p.length + 1) s1.at_ (by omega), by omega, h5.2, h3.1.1⟩
def docD (p : LB) (s : S) : Option (Nat × List T) → S × Bool
  | none => ({ s with fault := p.length }, false)
  | some r => (⟨r.1, r.2, [], s.fault⟩, true)
theorem docs_eq (p : LB) (s : S) {D : Option (Nat × List T)} (h : docsL p s.wait s.at_ s.toks = D) : docsS p s = docD p s D := by
  unfold docsS
  rw [h]
  cases D with
  | none => rfl
  | some r => rfl
end Go.Proofs.YtpfcfcbljkdkhaaDoor
