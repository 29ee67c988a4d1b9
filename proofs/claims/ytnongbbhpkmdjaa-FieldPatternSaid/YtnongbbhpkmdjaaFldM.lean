/- The splitter's plain bounds: how much it holds, and that its text is what came in. No program in it. -/
import Derived.Test.YtnongbbhpkmdjaaFldL
namespace Go.Proofs.Ytnongbbhpkmdjaa
set_option linter.unusedVariables false
def CS.Le (s : CS) (K : Nat) : Prop := s.fields.length ≤ K ∧ s.begins.length ≤ K ∧ s.pieces.length ≤ K ∧ s.text.length ≤ K ∧ s.counted ≤ K
def CS.tot (s : CS) : LB := (s.fields.map txt).flatten ++ txt s.pieces ++ s.text
/-- What is shut holds nothing. -/
def CS.Shut (s : CS) : Prop := s.op = false → s.pieces = [] ∧ s.text = []
theorem CS.Le.up {s : CS} {K L : Nat} (h : s.Le K) (hl : K ≤ L) : s.Le L := by
  obtain ⟨a, b, c, d, e⟩ := h
  exact ⟨by omega, by omega, by omega, by omega, by omega⟩
theorem txt_app (a b : Fd) : txt (a ++ b) = txt a ++ txt b := by simp [txt]
section
variable {s : CS} {K : Nat}
theorem Le.enter (h : s.Le K) : s.enter.Le (K + 1) := by
  obtain ⟨a, b, c, d, e⟩ := h
  unfold CS.enter
  split
  · exact ⟨by omega, by omega, by omega, by omega, by omega⟩
  · exact ⟨by dsimp only; omega, by simp; omega, by dsimp only; omega, by dsimp only; omega, by dsimp only; omega⟩
theorem Le.flush (h : s.Le K) : s.flush.Le (K + 1) := by
  obtain ⟨a, b, c, d, e⟩ := h
  unfold CS.flush
  refine ⟨by dsimp only; omega, by dsimp only; omega, ?_, by simp, by dsimp only; omega⟩
  dsimp only
  split
  · omega
  · simp; omega
theorem Le.close (h : s.Le K) : s.close.Le (K + 1) := by
  obtain ⟨a, b, c, d, e⟩ := h
  unfold CS.close
  split
  · exact ⟨by simp; omega, by dsimp only; omega, by simp, by simp, by dsimp only; omega⟩
  · exact ⟨by omega, by omega, by omega, by omega, by omega⟩
theorem Le.plain (h : s.Le K) (t : LB) : (s.plain t).Le (K + 1 + t.length) := by
  unfold CS.plain
  split
  · exact h.up (by omega)
  · obtain ⟨a, b, c, d, e⟩ := Le.enter h
    obtain ⟨_, _, _, d', e'⟩ := h
    exact ⟨by dsimp only; omega, by dsimp only; omega, by dsimp only; omega, by simp; omega, by dsimp only; omega⟩
theorem Le.quote (h : s.Le K) (t : LB) : (s.quote t).Le (K + 3 + t.length) := by
  unfold CS.quote
  obtain ⟨a, b, c, d, e⟩ := Le.flush (Le.enter h)
  obtain ⟨_, _, _, d', e'⟩ := h
  exact ⟨by dsimp only; omega, by dsimp only; omega, by simp; omega, by simp only [CS.flush]; simp, by dsimp only; omega⟩
theorem Le.closed (h : s.Le K) (b : Bool) : CS.Le { s with closed := b } K := h
theorem Le.count (h : s.Le K) (n : Nat) (hn : n ≤ K) : CS.Le { s with counted := n } K := ⟨h.1, h.2.1, h.2.2.1, h.2.2.2.1, hn⟩
theorem Le.gap (h : s.Le K) (f : Bool) : (s.gap f).Le (K + 2) := by
  unfold CS.gap
  refine Le.closed ?_ false
  split
  · exact Le.close (Le.enter h)
  · exact (Le.close h).up (by omega)
theorem Le.byte (h : s.Le K) (ifs : LB) (c : UInt8) : (s.byte ifs c).Le (K + 2) := by
  have hc : s.counted ≤ K := h.2.2.2.2
  unfold CS.byte
  split
  · exact Le.count ((Le.close (Le.closed h _)).up (by omega)) _ (by omega)
  · refine Le.count (Le.closed ?_ false) _ (by omega)
    split
    · exact Le.close (Le.enter h)
    · exact (Le.close h).up (by omega)
  · exact Le.plain h [c]
end
theorem Le.soft (ifs : LB) : ∀ (t : LB) {s : CS} {K : Nat}, s.Le K → (softC ifs t s).Le (K + 2 * t.length)
  | [], s, K, h => h
  | c :: r, s, K, h => by
    have := Le.soft ifs r (Le.byte h ifs c)
    exact this.up (by simp; omega)
theorem Le.piece {s : CS} {K : Nat} (h : s.Le K) (ifs : LB) (f : Bool) (p : Pc) : (s.piece ifs f p).Le (K + 5 + 2 * p.text.length) := by
  unfold CS.piece
  have h1 : (if p.gap then s.gap f else s).Le (K + 2) := by
    split
    · exact Le.gap h f
    · exact h.up (by omega)
  dsimp only
  split
  · exact (Le.quote h1 _).up (by omega)
  · split
    · exact (Le.soft ifs p.text h1).up (by omega)
    · exact (Le.plain h1 _).up (by omega)
/- The text. -/
section
variable {s : CS}
theorem tot_enter (s : CS) : s.enter.tot = s.tot := by unfold CS.enter; split <;> rfl
theorem tot_flush (s : CS) : s.flush.tot = s.tot := by
  unfold CS.flush CS.tot
  dsimp only
  split
  · rename_i h; rw [h]
  · rw [txt_app]; simp [txt]
theorem tot_close (s : CS) : s.close.tot = s.tot := by
  unfold CS.close
  split
  · rw [← tot_flush s]; unfold CS.tot; simp [txt, CS.flush]
  · rfl
theorem tot_plain (s : CS) (t : LB) : (s.plain t).tot = s.tot ++ t := by
  unfold CS.plain
  split
  · rename_i h; rw [h, List.append_nil]
  · rw [← tot_enter s]
    have e : s.enter.text = s.text := by unfold CS.enter; split <;> rfl
    unfold CS.tot
    dsimp only
    rw [e]
    simp
theorem tot_quote (s : CS) (t : LB) : (s.quote t).tot = s.tot ++ t := by
  rw [← tot_enter s, ← tot_flush s.enter]
  unfold CS.quote CS.tot
  dsimp only
  rw [txt_app]
  simp [txt, CS.flush]
theorem tot_set (s : CS) (b : Bool) (n : Nat) : CS.tot { s with closed := b, counted := n } = s.tot := rfl
theorem tot_gap (s : CS) (f : Bool) : (s.gap f).tot = s.tot := by
  show ((if !s.op && !f then s.enter else s).close).tot = _
  rw [tot_close]
  split
  · exact tot_enter s
  · rfl
theorem tot_byte (s : CS) (ifs : LB) (c : UInt8) : (s.byte ifs c).tot = s.tot ++ (if c ∈ ifs then [] else [c]) := by
  have hk : c ∈ ifs ↔ kindP ifs c ≠ 0 := by
    unfold kindP
    constructor
    · intro h; rw [if_pos h]; split <;> simp
    · intro h; apply Classical.byContradiction; intro hn; rw [if_neg hn] at h; exact h rfl
  unfold CS.byte
  split
  · rename_i h
    rw [if_pos (hk.2 (by rw [h]; simp)), List.append_nil]
    exact tot_close _
  · rename_i h
    rw [if_pos (hk.2 (by rw [h]; simp)), List.append_nil]
    show ((if !s.op && !s.closed then s.enter else s).close).tot = _
    rw [tot_close]
    split
    · exact tot_enter s
    · rfl
  · rename_i h1 h2
    have h0 : kindP ifs c = 0 := by
      rcases kind_le ifs c with h | h | h
      · exact h
      · exact absurd h h1
      · exact absurd h h2
    rw [if_neg (fun h => hk.1 h h0)]
    exact tot_plain s [c]
end
theorem tot_soft (ifs : LB) : ∀ (t : LB) (s : CS), (softC ifs t s).tot = s.tot ++ t.filter (fun c => !ifs.contains c)
  | [], s => by simp [softC]
  | c :: r, s => by
    show (softC ifs r (s.byte ifs c)).tot = _
    rw [tot_soft ifs r, tot_byte, List.filter_cons]
    by_cases h : c ∈ ifs <;> simp [h]
/-- What of a piece is kept. -/
def keptP (ifs : LB) (p : Pc) : LB := if p.quoted || !p.soft then p.text else p.text.filter (fun c => !ifs.contains c)
theorem tot_piece (ifs : LB) (f : Bool) (s : CS) (p : Pc) : (s.piece ifs f p).tot = s.tot ++ keptP ifs p := by
  unfold CS.piece keptP
  dsimp only
  have h : (if p.gap then s.gap f else s).tot = s.tot := by split; exact tot_gap s f; rfl
  rw [← h]
  generalize (if p.gap then s.gap f else s) = s1
  cases p.quoted with
  | true => exact tot_quote s1 _
  | false => cases p.soft with
    | true => exact tot_soft ifs _ s1
    | false => exact tot_plain s1 _
theorem tot_split (ifs : LB) : ∀ (l : List Pc) (f : Bool) (s : CS), (splitC ifs l f s).tot = s.tot ++ (l.map (keptP ifs)).flatten
  | [], f, s => by simp [splitC, tot_close]
  | p :: r, f, s => by
    unfold splitC
    rw [tot_split ifs r, tot_piece]
    simp
section
variable {s : CS}
theorem Shut.enter (h : s.Shut) : s.enter.Shut := by
  unfold CS.enter CS.Shut
  split
  · exact h
  · intro h; cases h
theorem Shut.close (h : s.Shut) : s.close.Shut ∧ s.close.op = false := by
  unfold CS.close
  split
  · exact ⟨fun _ => ⟨rfl, rfl⟩, rfl⟩
  · rename_i ho; exact ⟨h, by simpa using ho⟩
theorem Shut.plain (h : s.Shut) (t : LB) : (s.plain t).Shut := by
  have e : s.enter.op = true := by unfold CS.enter; split; assumption; rfl
  unfold CS.plain
  split
  · exact h
  · intro ho; dsimp only at ho; rw [e] at ho; cases ho
theorem Shut.quote (h : s.Shut) (t : LB) : (s.quote t).Shut := by
  have e : s.enter.flush.op = true := by unfold CS.enter CS.flush; split; assumption; rfl
  intro ho
  unfold CS.quote at ho
  dsimp only at ho
  rw [e] at ho; cases ho
theorem Shut.gap (h : s.Shut) (f : Bool) : (s.gap f).Shut := by
  have h1 : (if !s.op && !f then s.enter else s).Shut := by split; exact (Shut.enter h); exact h
  exact (Shut.close h1).1
theorem Shut.byte (h : s.Shut) (ifs : LB) (c : UInt8) : (s.byte ifs c).Shut := by
  unfold CS.byte
  split
  · have h1 : CS.Shut { s with closed := s.closed || s.op } := h
    exact (Shut.close h1).1
  · have h1 : (if !s.op && !s.closed then s.enter else s).Shut := by split; exact (Shut.enter h); exact h
    exact (Shut.close h1).1
  · exact (Shut.plain h) [c]
end
theorem Shut.soft (ifs : LB) : ∀ (t : LB) {s : CS}, s.Shut → (softC ifs t s).Shut
  | [], s, h => h
  | c :: r, s, h => Shut.soft ifs r (Shut.byte h ifs c)
theorem Shut.piece {s : CS} (h : s.Shut) (ifs : LB) (f : Bool) (p : Pc) : (s.piece ifs f p).Shut := by
  unfold CS.piece
  have h1 : (if p.gap then s.gap f else s).Shut := by split; exact (Shut.gap h) f; exact h
  dsimp only
  split
  · exact Shut.quote h1 _
  · split
    · exact Shut.soft ifs _ h1
    · exact (Shut.plain h1) _
theorem Shut.split (ifs : LB) : ∀ (l : List Pc) (f : Bool) {s : CS}, s.Shut → (splitC ifs l f s).Shut ∧ (splitC ifs l f s).op = false
  | [], f, s, h => (Shut.close h)
  | p :: r, f, s, h => Shut.split ifs r false (Shut.piece h ifs f p)
theorem tot_shut {s : CS} (h : s.Shut) (ho : s.op = false) : s.tot = (s.fields.map txt).flatten := by
  obtain ⟨h1, h2⟩ := h ho
  unfold CS.tot
  rw [h1, h2]
  simp [txt]
def CS0 : CS := ⟨[], [], [], [], false, false, 0⟩
/-- The program's fields. -/
def splitP (ifs : LB) (l : List Pc) : List Fd := (splitC ifs l true CS0).fields
theorem split_kept (ifs : LB) (l : List Pc) : ((splitP ifs l).map txt).flatten = (l.map (keptP ifs)).flatten := by
  have h := Shut.split ifs l true (s := CS0) (fun _ => ⟨rfl, rfl⟩)
  unfold splitP
  rw [← tot_shut h.1 h.2, tot_split]
  rfl
/- Without separating bytes. -/
theorem kind_nil (c : UInt8) : kindP [] c = 0 := by simp [kindP]
theorem byte_nil (s : CS) (c : UInt8) : s.byte [] c = s.plain [c] := by unfold CS.byte; rw [kind_nil]; rfl
def NoF (s : CS) : Prop := s.fields = []
theorem nof_plain {s : CS} (h : s.fields = []) (t : LB) : (s.plain t).fields = [] ∧ (s.plain t).op = (s.op || decide (t ≠ [])) := by
  unfold CS.plain CS.enter
  by_cases ht : t = []
  · simp [ht, h]
  · cases ho : s.op <;> simp [ht, h, ho]
theorem nof_quote {s : CS} (h : s.fields = []) (t : LB) : (s.quote t).fields = [] ∧ (s.quote t).op = true := by
  unfold CS.quote CS.enter CS.flush
  cases ho : s.op <;> simp [h, ho]
theorem nof_soft : ∀ (t : LB) {s : CS}, s.fields = [] → (softC [] t s).fields = [] ∧ (softC [] t s).op = (s.op || decide (t ≠ []))
  | [], s, h => by simp [softC, h]
  | c :: r, s, h => by
    have h1 := nof_plain h [c]
    have h2 := nof_soft r (s := s.byte [] c) (by rw [byte_nil]; exact h1.1)
    show (softC [] r (s.byte [] c)).fields = [] ∧ (softC [] r (s.byte [] c)).op = _
    refine ⟨h2.1, ?_⟩
    rw [h2.2, byte_nil, h1.2]
    simp
def anyP (p : Pc) : Bool := p.quoted || decide (p.text ≠ [])
theorem nof_piece {s : CS} (h : s.fields = []) (f : Bool) (p : Pc) (hg : p.gap = false) : (s.piece [] f p).fields = [] ∧ (s.piece [] f p).op = (s.op || anyP p) := by
  unfold CS.piece anyP
  dsimp only
  rw [hg]
  simp only [Bool.false_eq_true, if_false]
  cases hq : p.quoted with
  | true =>
    rw [if_pos rfl]
    have := nof_quote h p.text
    exact ⟨this.1, by rw [this.2]; simp⟩
  | false =>
    rw [if_neg (by simp)]
    split
    · have := nof_soft p.text h
      refine ⟨this.1, ?_⟩
      rw [Bool.false_or]
      exact this.2
    · have := nof_plain h p.text; simpa using this
theorem nof_split : ∀ (l : List Pc) (f : Bool) (s : CS), s.fields = [] → (∀ p ∈ l, p.gap = false) → (splitC [] l f s).fields.length = if s.op || l.any anyP then 1 else 0
  | [], f, s, h, _ => by
    unfold splitC CS.close
    cases s.op <;> simp [h]
  | p :: r, f, s, h, hg => by
    have h1 := nof_piece h f p (hg p (by simp))
    unfold splitC
    rw [nof_split r false _ h1.1 (fun q hq => hg q (by simp [hq])), h1.2]
    simp [Bool.or_assoc]
/-- With an empty ifs there is one field, if there is anything, and it has all the text. -/
theorem split_one (l : List Pc) (hg : ∀ p ∈ l, p.gap = false) : (splitP [] l).length = if l.any anyP then 1 else 0 := by
  have := nof_split l true CS0 rfl hg
  unfold splitP
  rw [this]
  rfl
theorem kept_nil (p : Pc) : keptP [] p = p.text := by
  unfold keptP
  split
  · rfl
  · simp
theorem split_all (l : List Pc) : ((splitP [] l).map txt).flatten = (l.map (·.text)).flatten := by
  rw [split_kept]
  congr 1
  apply List.map_congr_left
  intro p _
  exact kept_nil p
theorem Le.split (ifs : LB) : ∀ (l : List Pc) (f : Bool) {s : CS} {K : Nat}, s.Le K → (splitC ifs l f s).Le (K + 1 + (l.map (fun p => 5 + 2 * p.text.length)).sum)
  | [], f, s, K, h => by
    unfold splitC
    exact (Le.close h).up (by simp)
  | p :: r, f, s, K, h => by
    unfold splitC
    exact (Le.split ifs r false (Le.piece h ifs f p)).up (by simp; omega)
theorem sum_mem : ∀ (l : List LB) (x : LB), x ∈ l → x.length ≤ l.flatten.length
  | y :: r, x, h => by
    rw [List.flatten_cons, List.length_append]
    rcases List.mem_cons.1 h with rfl | h
    · omega
    · have := sum_mem r x h; omega
theorem len_tot (s : CS) : ∀ f ∈ s.fields, (txt f).length ≤ s.tot.length := by
  intro f hf
  unfold CS.tot
  rw [List.length_append, List.length_append]
  have := sum_mem _ _ (List.mem_map.2 ⟨f, hf, rfl⟩ : txt f ∈ s.fields.map txt)
  omega
end Go.Proofs.Ytnongbbhpkmdjaa
