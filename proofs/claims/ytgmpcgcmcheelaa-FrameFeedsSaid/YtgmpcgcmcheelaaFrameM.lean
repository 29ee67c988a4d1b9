/- Frames: the plain mathematics. -/
import Derived.Test.YtgmpcgcmcheelaaNumP
namespace Go.Proofs.Ytgmpcgcmcheelaa
set_option linter.unusedVariables false
abbrev Bs := List UInt8
abbrev Cut := List Bs × Bs × Int

def bad (d : Bs) : Bool := decide (numB (d.take 2) < 1 ∨ 4096 < numB (d.take 2))
/-- What a reader cuts bytes into. -/
def readF : Nat → Bs → Cut
  | 0, _ => ([], [], 0)
  | f + 1, d =>
    if d = [] then ([], [], 0) else if d.length < 2 then ([], d, 3) else if bad d = true then ([], [], 5) else if d.length < 2 + numB (d.take 2) then ([], d, 3)
    else ((d.drop 2).take (numB (d.take 2)) :: (readF f (d.drop (2 + numB (d.take 2)))).1, (readF f (d.drop (2 + numB (d.take 2)))).2)
def readD (d : Bs) : Cut := readF (d.length + 1) d
theorem readF_fuel : ∀ (f : Nat) (d : Bs), d.length < f → ∀ f', d.length < f' → readF f d = readF f' d
  | 0, d, h, _, _ => absurd h (Nat.not_lt_zero _)
  | _ + 1, d, _, 0, h' => absurd h' (Nat.not_lt_zero _)
  | f + 1, d, h, f' + 1, h' => by
    unfold readF
    split
    · rfl
    · split
      · rfl
      · split
        · rfl
        · split
          · rfl
          · have hl : (d.drop (2 + numB (d.take 2))).length < d.length := by rw [List.length_drop]; omega
            rw [readF_fuel f _ (by omega) f' (by omega)]
theorem read_nil : readD [] = ([], [], 0) := rfl
theorem read_one {d : Bs} (h0 : d ≠ []) (h : d.length < 2) : readD d = ([], d, 3) := by
  unfold readD readF; rw [if_neg h0, if_pos h]
theorem read_bad {d : Bs} (h : 2 ≤ d.length) (hb : bad d = true) : readD d = ([], [], 5) := by
  unfold readD readF
  rw [if_neg (by rintro rfl; simp at h), if_neg (by omega), if_pos hb]
theorem read_short {d : Bs} (h : 2 ≤ d.length) (hb : bad d = false) (hs : d.length < 2 + numB (d.take 2)) : readD d = ([], d, 3) := by
  unfold readD readF
  rw [if_neg (by rintro rfl; simp at h), if_neg (by omega), if_neg (by rw [hb]; decide), if_pos hs]
theorem read_next {d : Bs} (h : 2 ≤ d.length) (hb : bad d = false) (hs : 2 + numB (d.take 2) ≤ d.length) : readD d = ((d.drop 2).take (numB (d.take 2)) :: (readD (d.drop (2 + numB (d.take 2)))).1, (readD (d.drop (2 + numB (d.take 2)))).2) := by
  have hl : (d.drop (2 + numB (d.take 2))).length < d.length := by rw [List.length_drop]; omega
  have e : readF d.length (d.drop (2 + numB (d.take 2))) = readD (d.drop (2 + numB (d.take 2))) := readF_fuel _ _ hl _ (by omega)
  rw [← e]
  show readF (d.length + 1) d = _
  rw [readF, if_neg (by rintro rfl; simp at h), if_neg (by omega), if_neg (by rw [hb]; decide), if_neg (by omega)]
theorem bad_no {d : Bs} (hb : bad d = false) : 1 ≤ numB (d.take 2) ∧ numB (d.take 2) ≤ 4096 := by
  have := of_decide_eq_false hb
  omega
end Go.Proofs.Ytgmpcgcmcheelaa
