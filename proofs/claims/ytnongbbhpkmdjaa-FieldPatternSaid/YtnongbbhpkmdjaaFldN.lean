/- A line's words: the program's way and the document's come to the same. No program in it. -/
import Derived.Test.YtnongbbhpkmdjaaFldM
namespace Go.Proofs.Ytnongbbhpkmdjaa
set_option linter.unusedVariables false
/-- Without white bytes at the end. -/
def trimP (ifs : LB) (t : LB) : LB := (t.reverse.dropWhile fun c => kindP ifs c == 1).reverse
theorem trim_nil (ifs : LB) : trimP ifs [] = [] := rfl
theorem trim_white (ifs : LB) (t : LB) (c : UInt8) (h : kindP ifs c = 1) : trimP ifs (t ++ [c]) = trimP ifs t := by
  unfold trimP
  rw [List.reverse_append]
  simp [h]
theorem trim_stop (ifs : LB) (t : LB) (c : UInt8) (h : kindP ifs c ≠ 1) : trimP ifs (t ++ [c]) = t ++ [c] := by
  unfold trimP
  rw [List.reverse_append]
  simp [h]
theorem trim_len (ifs : LB) (t : LB) : (trimP ifs t).length ≤ t.length := by
  unfold trimP
  rw [List.length_reverse]
  exact Nat.le_trans (List.dropWhile_sublist _).length_le (by simp)
def endC (ifs p : LB) : CS := (softC ifs p CS0).close
/-- The program's words of a line. -/
def lineO (G : List Fd) (n : Nat) : List LB := (G.take n).map txt ++ List.replicate (n - G.length) []
def lineP (ifs p : LB) (n : Nat) : List LB :=
  if n ≤ (endC ifs p).begins.length then (lineO (endC ifs p).fields n).set (n - 1) (trimP ifs (p.drop ((endC ifs p).begins.getD (n - 1) 0))) else lineO (endC ifs p).fields n
/-- The document's words of a line. -/
def lineW (ifs p : LB) (n : Nat) : List LB :=
  if (wordsF ifs (n - 1) (sk1 ifs p)).2 = [] then (wordsF ifs (n - 1) (sk1 ifs p)).1 else (wordsF ifs (n - 1) (sk1 ifs p)).1 ++ [trimP ifs (wordsF ifs (n - 1) (sk1 ifs p)).2]
def lineF (ifs p : LB) (n : Nat) : List LB := lineW ifs p n ++ List.replicate (n - (lineW ifs p n).length) []
theorem lineO_len (G : List Fd) (n : Nat) : (lineO G n).length = n := by
  unfold lineO
  simp
  omega
theorem set_take {α : Type} (l : List α) (k : Nat) (x : α) (h : l.length = k + 1) : l.set k x = l.take k ++ [x] := by
  rw [List.set_eq_take_append_cons_drop, if_pos (by omega), List.drop_of_length_le (by omega)]
theorem line_same (ifs p : LB) (n : Nat) (hn : 1 ≤ n) : lineP ifs p n = lineF ifs p n := by
  obtain ⟨G, H, hE, hF⟩ := line_facts ifs p (n - 1)
  have e1 : (endC ifs p).fields = G := congrArg Prod.fst hE
  have e2 : (endC ifs p).begins = H := congrArg Prod.snd hE
  dsimp only at hF
  unfold lineP lineF lineW
  rw [e1, e2]
  by_cases hr : (wordsF ifs (n - 1) (sk1 ifs p)).2 = []
  · obtain ⟨h1, h2, h3⟩ := hF.1 hr
    rw [if_pos hr, if_neg (by omega), ← h1]
    unfold lineO
    rw [List.take_of_length_le (by omega), List.length_map]
  · obtain ⟨h1, h2, h3, h4⟩ := hF.2 hr
    rw [if_neg hr, if_pos (by omega), h4]
    generalize (wordsF ifs (n - 1) (sk1 ifs p)).1 = l at *
    have hl := lineO_len G n
    rw [set_take _ _ _ (by omega)]
    have hgl : n - 1 ≤ G.length := by
      have := congrArg List.length h1
      rw [List.length_take, List.length_map, h2] at this
      omega
    have ht : (lineO G n).take (n - 1) = l := by
      unfold lineO
      rw [List.take_append_of_le_length (by rw [List.length_map, List.length_take]; omega), ← List.map_take, List.take_take, Nat.min_eq_left (by omega), List.map_take, h1]
    rw [ht, List.length_append, h2]
    simp
    omega
theorem soft_split (ifs p : LB) (b : Bool) (s : CS) : s.piece ifs b ⟨p, false, true, false⟩ = softC ifs p s := rfl
theorem endC_tot (ifs p : LB) : ((endC ifs p).fields.map txt).flatten.length ≤ p.length := by
  have h := Shut.soft ifs p (s := CS0) (fun _ => ⟨rfl, rfl⟩)
  have h2 := Shut.close h
  have h3 : (endC ifs p).tot = ((endC ifs p).fields.map txt).flatten := tot_shut h2.1 h2.2
  rw [← h3]
  unfold endC
  rw [tot_close, tot_soft]
  simp only [CS0, CS.tot, txt, List.map_nil, List.flatten_nil, List.nil_append]
  exact List.length_filter_le _ _
theorem endC_le (ifs p : LB) : (endC ifs p).Le (2 * p.length + 1) := by
  have h0 : CS0.Le 0 := ⟨by simp [CS0], by simp [CS0], by simp [CS0], by simp [CS0], by simp [CS0]⟩
  exact (Le.close (Le.soft ifs p h0)).up (by omega)
/- Where fields begin lies within the text. -/
theorem begins_in (ifs p : LB) : ∀ b ∈ (endC ifs p).begins, b ≤ p.length := by
  have key : ∀ (t : LB) (s : CS), (∀ b ∈ s.begins, b ≤ s.counted) → (∀ b ∈ (softC ifs t s).begins, b ≤ (softC ifs t s).counted) ∧ (softC ifs t s).counted = s.counted + t.length := by
    intro t
    induction t with
    | nil => intro s h; exact ⟨h, rfl⟩
    | cons c r ih =>
      intro s h
      have he : ∀ s : CS, (∀ b ∈ s.begins, b ≤ s.counted) → (∀ b ∈ s.enter.begins, b ≤ s.counted) ∧ s.enter.counted = s.counted := by
        intro s h
        unfold CS.enter
        split
        · exact ⟨h, rfl⟩
        · refine ⟨fun b hb => ?_, rfl⟩
          rcases List.mem_append.1 hb with h1 | h1
          · exact h b h1
          · rw [List.mem_singleton.1 h1]; exact Nat.le_refl _
      have hcl : ∀ s : CS, s.close.begins = s.begins ∧ s.close.counted = s.counted := by
        intro s; unfold CS.close; split <;> exact ⟨rfl, rfl⟩
      have hb : (∀ b ∈ (s.byte ifs c).begins, b ≤ (s.byte ifs c).counted) ∧ (s.byte ifs c).counted = s.counted + 1 := by
        unfold CS.byte
        split
        · refine ⟨fun b hb => ?_, rfl⟩
          dsimp only at hb ⊢
          rw [(hcl _).1] at hb
          have := h b hb; omega
        · refine ⟨fun b hb => ?_, rfl⟩
          dsimp only at hb ⊢
          rw [(hcl _).1] at hb
          split at hb
          · have := (he s h).1 b hb; omega
          · have := h b hb; omega
        · unfold CS.plain
          rw [if_neg (by simp)]
          refine ⟨fun b hb => ?_, rfl⟩
          dsimp only at hb ⊢
          have := (he s h).1 b hb; simp; omega
      have := ih (s.byte ifs c) hb.1
      refine ⟨this.1, ?_⟩
      show (softC ifs r (s.byte ifs c)).counted = _
      rw [this.2, hb.2]
      simp; omega
  intro b hb
  have h1 := key p CS0 (fun b h => by simp [CS0] at h)
  have h2 : (endC ifs p).begins = (softC ifs p CS0).begins := by unfold endC CS.close; split <;> rfl
  rw [h2] at hb
  have := h1.1 b hb
  rw [h1.2] at this
  simpa [CS0] using this
/- How many pieces a field has. -/
def CS.Fl (s : CS) (K : Nat) : Prop := (∀ f ∈ s.fields, f.length ≤ K) ∧ s.pieces.length ≤ K
theorem Fl.up {s : CS} {K L : Nat} (h : s.Fl K) (hl : K ≤ L) : s.Fl L := ⟨fun f hf => Nat.le_trans (h.1 f hf) hl, Nat.le_trans h.2 hl⟩
theorem Fl.enter {s : CS} {K : Nat} (h : s.Fl K) : s.enter.Fl K := by unfold CS.enter; split <;> exact h
theorem Fl.flush {s : CS} {K : Nat} (h : s.Fl K) : s.flush.Fl (K + 1) := by
  refine ⟨fun f hf => Nat.le_succ_of_le (h.1 f hf), ?_⟩
  unfold CS.flush
  dsimp only
  have := h.2
  split
  · omega
  · simp; omega
theorem Fl.close {s : CS} {K : Nat} (h : s.Fl K) : s.close.Fl (K + 1) := by
  unfold CS.close
  split
  · refine ⟨fun f hf => ?_, by simp⟩
    rcases List.mem_append.1 hf with h1 | h1
    · exact Nat.le_succ_of_le (h.1 f h1)
    · rw [List.mem_singleton.1 h1]; exact (Fl.flush h).2
  · exact Fl.up h (by omega)
theorem Fl.plain {s : CS} {K : Nat} (h : s.Fl K) (t : LB) : (s.plain t).Fl K := by
  unfold CS.plain
  split
  · exact h
  · exact Fl.enter h
theorem Fl.quote {s : CS} {K : Nat} (h : s.Fl K) (t : LB) : (s.quote t).Fl (K + 2) := by
  have h1 := Fl.flush (Fl.enter h)
  unfold CS.quote
  refine ⟨fun f hf => Nat.le_succ_of_le (h1.1 f hf), ?_⟩
  have := h1.2
  simp; omega
theorem Fl.gap {s : CS} {K : Nat} (h : s.Fl K) (f : Bool) : (s.gap f).Fl (K + 1) := by
  have h1 : (if !s.op && !f then s.enter else s).Fl K := by split; exact Fl.enter h; exact h
  exact Fl.close h1
theorem Fl.byte {s : CS} {K : Nat} (h : s.Fl K) (ifs : LB) (c : UInt8) : (s.byte ifs c).Fl (K + 1) := by
  unfold CS.byte
  split
  · have h1 : CS.Fl { s with closed := s.closed || s.op } K := h
    exact Fl.close h1
  · have h1 : (if !s.op && !s.closed then s.enter else s).Fl K := by split; exact Fl.enter h; exact h
    exact Fl.close h1
  · exact Fl.up (Fl.plain h [c]) (by omega)
theorem Fl.soft (ifs : LB) : ∀ (t : LB) {s : CS} {K : Nat}, s.Fl K → (softC ifs t s).Fl (K + t.length)
  | [], s, K, h => h
  | c :: r, s, K, h => Fl.up (Fl.soft ifs r (Fl.byte h ifs c)) (by simp; omega)
theorem Fl.piece {s : CS} {K : Nat} (h : s.Fl K) (ifs : LB) (f : Bool) (p : Pc) : (s.piece ifs f p).Fl (K + 3 + p.text.length) := by
  unfold CS.piece
  have h1 : (if p.gap then s.gap f else s).Fl (K + 1) := by
    split
    · exact Fl.gap h f
    · exact Fl.up h (by omega)
  dsimp only
  split
  · exact Fl.up (Fl.quote h1 _) (by omega)
  · split
    · exact Fl.up (Fl.soft ifs p.text h1) (by omega)
    · exact Fl.up (Fl.plain h1 _) (by omega)
theorem Fl.split (ifs : LB) : ∀ (l : List Pc) (f : Bool) {s : CS} {K : Nat}, s.Fl K → (splitC ifs l f s).Fl (K + 1 + (l.map (fun p => 3 + p.text.length)).sum)
  | [], f, s, K, h => by
    unfold splitC
    exact Fl.up (Fl.close h) (by simp)
  | p :: r, f, s, K, h => by
    unfold splitC
    exact Fl.up (Fl.split ifs r false (Fl.piece h ifs f p)) (by simp; omega)
theorem endC_fl (ifs p : LB) : (endC ifs p).Fl (p.length + 1) := by
  have h0 : CS0.Fl 0 := ⟨fun f hf => by simp [CS0] at hf, by simp [CS0]⟩
  exact Fl.up (Fl.close (Fl.soft ifs p h0)) (by omega)
end Go.Proofs.Ytnongbbhpkmdjaa
