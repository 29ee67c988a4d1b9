/- The scanner's rows: a token's document is stored, a delimiter is appended, the last token is read. -/
import Derived.Test.YtpfcfcbljkdkhaaDoorLexI
import Derived.Test.YtpfcfcbljkdkhaaDoorLexH
namespace Go.Proofs.YtpfcfcbljkdkhaaDoor
open Go.RowKit
set_option linter.unusedVariables false
section
variable {B : Nat} {w w' : World} {g g1 : Nat} {p : LB} {s : S} {A A' : Option Addr} {n c n' c' : Nat}
theorem To.addr (h : To B w A n c s.toks) (hn : 0 < n) : ∃ g1, A = some ⟨g1, 0, none⟩ ∧ B ≤ g1 ∧ g1 < w.heap.size := by
  obtain ⟨g1, cap, hv, hb, hlt⟩ := h.form hn
  injection hv with hv
  exact ⟨g1, hv, hb, hlt⟩
theorem Io.addr {l : List Nat} (h : Io B w A n c l) (hn : 0 < n) : ∃ g1, A = some ⟨g1, 0, none⟩ ∧ g1 < w.heap.size := by
  obtain ⟨g1, cap, hv, hb, hlt⟩ := h.form hn
  injection hv with hv
  exact ⟨g1, hv, hlt⟩
theorem To.cell {ts : List T} (h : To B w (some ⟨g1, 0, none⟩) n c ts) {q : Nat} (hq : q < ts.length) (j : Nat) (hj : j < 5) : w.cell? ⟨g1, q * 5 + j, none⟩ = (tokV ts[q])[j]? := by
  have hl := h.len
  rw [World.ownsRow.cellAt h (q * 5 + j) (by omega), tvs_at ts q j hq hj]
theorem To.frozen {ts : List T} (h : To B w (some ⟨g1, 0, none⟩) n c ts) (j : Nat) : w.frozen? ⟨g1, j, none⟩ = false := World.ownsRow.frozenAt h j
theorem Io.cell {l : List Nat} (h : Io B w (some ⟨g1, 0, none⟩) n c l) {q : Nat} (hq : q < l.length) : w.cell? ⟨g1, q, none⟩ = some (.int .i64 ((l[q] : Nat) : Int)) := by
  have hl := h.len
  rw [World.ownsRow.cellAt h q (by omega)]
  simp [ivs, hq]
theorem Sc.doc (h : Sc B w g p s (some ⟨g1, 0, none⟩) n c A' n' c') {q : Nat} (hq : q < s.toks.length) (d : LB) (b : Bool) :
    Sc B ((w.setCell ⟨g1, q * 5 + 3, none⟩ (.string ⟨d.toArray⟩)).setCell ⟨g1, q * 5 + 4, none⟩ (.bool b)) g p { s with toks := s.toks.set q { (s.toks.getD q tokD) with doc := d, quoted := b } } (some ⟨g1, 0, none⟩) n c A' n' c' := by
  have hne : g ≠ g1 := fun e => by
    have := own_blk_ne h.2.1 h.1 (by decide)
    exact this (by rw [e]; rfl)
  have hio : ∀ {W : World} (k : Nat) (u : Value), W.ownsRow B 3 1 (.slice A' n' c') n' (ivs s.wait) → W.ownsRow B 37 5 (.slice (some ⟨g1, 0, none⟩) n c) n (tvs s.toks) → (W.setCell ⟨g1, k, none⟩ u).ownsRow B 3 1 (.slice A' n' c') n' (ivs s.wait) := fun {W} k u hi ht =>
    World.ownsRow.kept hi (World.ownsRow.stored ht k u).2 (by
      rcases own_ne hi ht (by decide) with e | e
      · exact .inl e
      · exact .inr e)
  have s1 := World.ownsRow.stored h.2.1 (q * 5 + 3) (.string ⟨d.toArray⟩)
  have s2 := World.ownsRow.stored s1.1 (q * 5 + 4) (.bool b)
  have i1 := hio (q * 5 + 3) (.string ⟨d.toArray⟩) h.2.2.1 h.2.1
  have i2 : ((w.setCell ⟨g1, q * 5 + 3, none⟩ (.string ⟨d.toArray⟩)).setCell ⟨g1, q * 5 + 4, none⟩ (.bool b)).ownsRow B 3 1 (.slice A' n' c') n' (ivs s.wait) :=
    World.ownsRow.kept i1 s2.2 (by
      rcases own_ne i1 s1.1 (by decide) with e | e
      · exact .inl e
      · exact .inr e)
  refine ⟨(h.1.far (p := ⟨g1, q * 5 + 3, none⟩) hne _).far (p := ⟨g1, q * 5 + 4, none⟩) hne _, ?_, i2, h.2.2.2⟩
  have hg : s.toks.getD q tokD = s.toks[q] := by simp [List.getD_eq_getElem?_getD, hq]
  have := tvs_set s.toks q { (s.toks.getD q tokD) with doc := d, quoted := b } hq (by rw [hg]) (by rw [hg]) (by rw [hg])
  unfold To
  rw [← this]
  exact s2.1
/-- A delimiter is appended to those that wait: the row has grown, and is stored. -/
theorem Sc.waits (h : Sc B w g p s A n c A' n' c') {o : Obj} {W2 : World} {A2 : Option Addr} {x2 : Nat} {k : Nat} (h1 : W2.ownsRow B 3 1 (.slice A2 (n' + 1) x2) (n' + 1) (ivs s.wait ++ ivs [k])) (hg : (w.alloc o).grownBy W2 (Value.slice A' n' c').ownBlock) :
    Sc B (W2.setCell ⟨g, 3, none⟩ (.slice A2 (n' + 1) x2)) g p { s with wait := s.wait ++ [k] } A n c A2 (n' + 1) x2 := by
  have hP2 := Blk.grown (h := h.1.alloc o) (hb := hg) (Ne.symm (own_blk_ne h.2.2.1 h.1 (by decide)))
  have hT : W2.ownsRow B 37 5 (.slice A n c) n (tvs s.toks) := World.ownsRow.kept (World.ownsRow.alloc h.2.1 o) hg (by
    rcases own_ne h.2.1 h.2.2.1 (by decide) with e | e
    · exact .inl e
    · exact .inr e)
  rw [← ivs_append] at h1
  exact ⟨hP2.set_ 3 _, own_set_blk hT (p := ⟨g, 3, none⟩) hP2 (by decide) _, own_set_blk h1 (p := ⟨g, 3, none⟩) hP2 (by decide) _, h.2.2.2⟩
theorem waits_below (h : Sc B w g p s A n c A' n' c') {w0 : World} {o : Obj} {W2 : World} (hg : (w.alloc o).grownBy W2 (Value.slice A' n' c').ownBlock) (hb : Below B w0 w) (hB : B ≤ w.heap.size) (u : Value) : Below B w0 (W2.setCell ⟨g, 3, none⟩ u) :=
  (Below.grown (h := hb.alloc hB o) (hg := hg) (by simp; omega) (fun q hq => (World.ownsRow.lt h.2.2.1 q hq).1)).setCell (p := ⟨g, 3, none⟩) h.2.2.2 _
end
theorem last_tok (ts : List T) (h : 0 < ts.length) : hereT ts = (ts[ts.length - 1].kind == 2 && ts[ts.length - 1].text == [60, 60]) := by
  unfold hereT
  rw [List.getLast?_eq_getElem?, List.getElem?_eq_getElem (by omega)]
theorem last_nil : hereT [] = false := rfl
end Go.Proofs.YtpfcfcbljkdkhaaDoor
