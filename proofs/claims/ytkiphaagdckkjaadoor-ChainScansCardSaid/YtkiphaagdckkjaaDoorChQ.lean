/- chain.read with each of its three functions. -/
import Derived.Test.YtkiphaagdckkjaaDoorChS
namespace Go.Proofs.YtkiphaagdckkjaaDoor
open Go.RowKit
set_option linter.unusedVariables false
def scanB (bs : LB) : List Rec × LB × Nat := scanP bs.length zero32 0 bs
/-- So far the records l were found; they end at e, the digest there is h. -/
def AtS (bs : LB) (l : List Rec) (e : Nat) (h : LB) : Prop := e ≤ bs.length ∧ h.length = 32 ∧ scanB bs = (l ++ (scanP (bs.length - e) h l.length (bs.drop e)).1, (scanP (bs.length - e) h l.length (bs.drop e)).2.1, e + (scanP (bs.length - e) h l.length (bs.drop e)).2.2)
theorem at_start (bs : LB) : AtS bs [] 0 zero32 := ⟨Nat.zero_le _, rfl, by unfold scanB; simp⟩
theorem at_step {bs : LB} {l : List Rec} {e : Nat} {h : LB} (H : AtS bs l e h) {r : Rec} {own : LB} {n : Nat} (hn : nextP h l.length (bs.drop e) = some (r, own, n)) : AtS bs (l ++ [r]) (e + n) own := by
  obtain ⟨h1, h2, h3⟩ := H
  obtain ⟨n1, n2, n3, n4, n5⟩ := next_len hn
  rw [List.length_drop] at n2
  refine ⟨by omega, n3, ?_⟩
  rw [h3]
  obtain ⟨f, hf⟩ : ∃ f, bs.length - e = f + 1 := ⟨bs.length - e - 1, by omega⟩
  rw [hf]
  have hs : scanP (f + 1) h l.length (bs.drop e) = (r :: (scanP f own (l.length + 1) ((bs.drop e).drop n)).1, (scanP f own (l.length + 1) ((bs.drop e).drop n)).2.1, n + (scanP f own (l.length + 1) ((bs.drop e).drop n)).2.2) := by
    simp only [scanP, hn]
  rw [hs, List.drop_drop, List.length_append, List.length_singleton]
  rw [scan_fuel f (bs.length - (e + n)) own (l.length + 1) (bs.drop (e + n)) (by rw [List.length_drop]; omega) (by rw [List.length_drop]; omega)]
  simp [Nat.add_assoc]
theorem at_end {bs : LB} {l : List Rec} {e : Nat} {h : LB} (H : AtS bs l e h) (hn : nextP h l.length (bs.drop e) = none) : scanB bs = (l, h, e) := by
  obtain ⟨h1, h2, h3⟩ := H
  rw [h3]
  have hs : scanP (bs.length - e) h l.length (bs.drop e) = ([], h, 0) := by
    cases hf : bs.length - e with
    | zero => rfl
    | succ f => simp only [scanP, hn]
  rw [hs]
  simp
theorem Std.low {w w' : World} (h : Std w) {B : Nat} (hB : 1 < B) (hb : Below B w w') : Std w' := by
  constructor
  · exact (hb.cell (by exact hB)).trans h.et
theorem Tabs.low {w w' : World} (h : Tabs w) {B : Nat} (hB : 2 < B) (hb : Below B w w') : Tabs w' := ⟨h.1.keep fun p hp => hb.cell (by omega), h.2.1.keep fun p hp => hb.cell (by omega), Nat.lt_of_lt_of_le h.2.2 hb.size⟩
theorem next_nocut {h : LB} {k : Nat} {b : LB} (H : cutP b = none) : nextP h k b = none := by unfold nextP; rw [H]
theorem next_nodig {h : LB} {k : Nat} {b body own : LB} (H : cutP b = some (body, own)) (hne : own ≠ digP h body) : nextP h k b = none := by
  unfold nextP; rw [H]; exact if_neg hne
theorem next_nodec {h : LB} {k : Nat} {b body own : LB} (H : cutP b = some (body, own)) (hd : decP body = none) : nextP h k b = none := by
  unfold nextP; rw [H]; dsimp only; rw [hd]; split <;> rfl
theorem next_noseq {h : LB} {k : Nat} {b body own : LB} {r : Rec} (H : cutP b = some (body, own)) (hd : decP body = some r) (hs : r.seq ≠ (k : Int)) : nextP h k b = none := by
  unfold nextP; rw [H]; dsimp only; rw [hd]; dsimp only
  rw [if_neg hs]
  split <;> rfl
theorem next_yes {h : LB} {k : Nat} {b body own : LB} {r : Rec} (H : cutP b = some (body, own)) (he : own = digP h body) (hd : decP body = some r) (hs : r.seq = (k : Int)) : nextP h k b = some (r, own, 2 + body.length + 32) := by
  unfold nextP; rw [H]; dsimp only; rw [hd]; dsimp only
  rw [if_pos he, if_pos hs]
end Go.Proofs.YtkiphaagdckkjaaDoor
