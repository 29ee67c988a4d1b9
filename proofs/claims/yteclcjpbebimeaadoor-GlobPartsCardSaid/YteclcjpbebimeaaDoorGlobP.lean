/- strings.Split at one byte: what a text is cut into (after the path seat's text). -/
import Derived.Test.YteclcjpbebimeaaDoorGlobF
import Derived.Lib.Split
namespace Go.Proofs.YteclcjpbebimeaaDoor
open Go.RowKit
set_option linter.unusedVariables false
/-- A text cut at every c. -/
def splitC (c : UInt8) : Bs → List Bs
  | [] => [[]]
  | x :: r => if x = c then [] :: splitC c r else (x :: (splitC c r).headD []) :: (splitC c r).tail
theorem splitC_ne (c : UInt8) (s : Bs) : splitC c s ≠ [] := by
  cases s with
  | nil => simp [splitC]
  | cons x r => unfold splitC; split <;> simp
theorem splitC_form (c : UInt8) (s : Bs) : ∃ h t, splitC c s = h :: t := by
  cases e : splitC c s with
  | nil => exact absurd e (splitC_ne c s)
  | cons h t => exact ⟨h, t, rfl⟩
theorem split_eq (c : UInt8) : ∀ s : Bs, Lib.split s [c] = splitC c s
  | [] => rfl
  | x :: r => by
    have ih := split_eq c r
    unfold Lib.split at ih ⊢
    by_cases hx : x = c
    · subst hx
      have hi : Lib.index (x :: r) [x] = ((0 : Nat) : Int) := by unfold Lib.index; simp [List.isPrefixOf]
      rw [Lib.count_hit (by simp) hi]
      rw [show 1 + Lib.count (List.drop (0 + [x].length) (x :: r)) [x] = Lib.count r [x] + 1 by simp [Nat.add_comm]]
      unfold Lib.splitK
      rw [if_neg (by rw [hi]; decide), hi]
      simp only [splitC, if_true]
      simpa using ih
    · have h0 : Lib.index (x :: r) [c] = if Lib.index r [c] == -1 then -1 else Lib.index r [c] + 1 := by
        rw [Lib.index]; simp [List.isPrefixOf, Ne.symm hx]
      rcases Lib.index_spec r [c] with ⟨h1, _⟩ | ⟨i, h1, h2, h3, _⟩
      · have hm : Lib.index (x :: r) [c] = -1 := by rw [h0, h1]; rfl
        rw [Lib.count_miss hm]
        rw [Lib.count_miss h1] at ih
        simp only [Lib.splitK] at ih ⊢
        rw [splitC, if_neg hx, ← ih]
        rfl
      · have hm : Lib.index (x :: r) [c] = ((i + 1 : Nat) : Int) := by
          rw [h0, h1, if_neg (by simp)]; omega
        rw [Lib.count_hit (by simp) hm]
        rw [Lib.count_hit (by simp) h1] at ih
        have e1 : List.drop (i + 1 + [c].length) (x :: r) = List.drop (i + [c].length) r := by simp
        rw [e1]
        generalize hk : Lib.count (List.drop (i + [c].length) r) [c] = k at ih ⊢
        rw [show 1 + k = k + 1 by omega] at ih ⊢
        unfold Lib.splitK at ih ⊢
        rw [if_neg (by rw [h1]; simp), h1] at ih
        rw [if_neg (by rw [hm]; simp; omega), hm]
        rw [splitC, if_neg hx, ← ih]
        simp
theorem splitC_app (c : UInt8) (a b : Bs) : splitC c (a ++ c :: b) = splitC c a ++ splitC c b := by
  induction a with
  | nil => simp [splitC]
  | cons x r ih =>
    rw [List.cons_append, splitC, splitC, ih]
    obtain ⟨h, t, e⟩ := splitC_form c r
    rw [e]
    split <;> simp
theorem splitC_no (c : UInt8) (a : Bs) (h : c ∉ a) : splitC c a = [a] := by
  induction a with
  | nil => rfl
  | cons x r ih =>
    have h1 : x ≠ c := fun e => h (by simp [e])
    rw [splitC, if_neg h1, ih (fun e => h (by simp [e]))]
    rfl
theorem splitC_mem (c : UInt8) (s : Bs) : ∀ k ∈ splitC c s, c ∉ k := by
  induction s with
  | nil => simp [splitC]
  | cons x r ih =>
    obtain ⟨h, t, e⟩ := splitC_form c r
    rw [splitC]
    rw [e] at ih ⊢
    split
    · intro k hk
      rcases List.mem_cons.1 hk with rfl | hk
      · simp
      · exact ih k hk
    · rename_i hx
      intro k hk
      rcases List.mem_cons.1 hk with rfl | hk
      · have := ih h (by simp)
        simp only [List.headD_cons, List.mem_cons, not_or]
        exact ⟨Ne.symm hx, this⟩
      · exact ih k (List.mem_cons_of_mem _ hk)

/-- What the library's variable holds. -/
def Std (w : World) : Prop := ∃ m, w.cell? ⟨0, 0, none⟩ = some (.int .i64 m)
theorem Std.below {w w' : World} (h : Std w) (hb : Below w.heap.size w w') : Std w' := by
  obtain ⟨m, h⟩ := h
  have l0 := World.block_lt_of_cell? w _ h
  exact ⟨m, (hb.cell (by exact l0)).trans h⟩
theorem pieces (s : ByteArray) : (Lib.splitB ⟨#[47]⟩ 0 (Lib.countB s ⟨#[47]⟩) s).map Value.string = svs (splitC 47 s.data.toList) := by
  have h := Lib.splitB_data ⟨#[47]⟩ 0 (Lib.countB s ⟨#[47]⟩) s
  have h2 : Lib.splitK [47] 0 (Lib.countB s ⟨#[47]⟩) s.data.toList = splitC 47 s.data.toList := by
    rw [← split_eq]; rfl
  rw [show (⟨#[47]⟩ : ByteArray).data.toList = [47] from rfl, h2] at h
  rw [← h]
  simp [svs, sv]
theorem splitC_tail (c : UInt8) (x : UInt8) (r : Bs) (hx : ¬ x = c) : (splitC c (x :: r)).length = (splitC c r).length := by
  obtain ⟨h, t, e⟩ := splitC_form c r
  rw [splitC, if_neg hx, e]; rfl
theorem splitC_len (c : UInt8) : ∀ s : Bs, (splitC c s).length = Lib.count s [c] + 1
  | [] => rfl
  | x :: r => by
    have ih := splitC_len c r
    by_cases hx : x = c
    · subst hx
      have hi : Lib.index (x :: r) [x] = ((0 : Nat) : Int) := by unfold Lib.index; simp [List.isPrefixOf]
      rw [Lib.count_hit (by simp) hi, splitC, if_pos rfl, List.length_cons, ih]
      simp [Nat.add_comm]
    · have h0 : Lib.index (x :: r) [c] = if Lib.index r [c] == -1 then -1 else Lib.index r [c] + 1 := by
        rw [Lib.index]; simp [List.isPrefixOf, Ne.symm hx]
      rw [splitC_tail c x r hx, ih]
      rcases Lib.index_spec r [c] with ⟨h1, _⟩ | ⟨i, h1, h2, h3, _⟩
      · have hm : Lib.index (x :: r) [c] = -1 := by rw [h0, h1]; rfl
        rw [Lib.count_miss hm, Lib.count_miss h1]
      · have hm : Lib.index (x :: r) [c] = ((i + 1 : Nat) : Int) := by
          rw [h0, h1, if_neg (by simp)]; omega
        rw [Lib.count_hit (by simp) hm, Lib.count_hit (by simp) h1]
        simp
theorem split_c (s : ByteArray) (m : Int) (w : World) (hs : s.size ≤ 100000) (hm : w.cell? ⟨0, 0, none⟩ = some (.int .i64 m)) :
    Calls Tryd.prog 28 #[.string s, .string ⟨#[47]⟩] w fun e w' => e = .returned (.slice (some ⟨w.heap.size, 0, none⟩) (splitC 47 s.data.toList).length (splitC 47 s.data.toList).length) ∧ w.alloc (.cells (svs (splitC 47 s.data.toList)).toArray 9) = w' := by
  refine (Any.strings_Split Tryd.lays146 (by kernel_rfl) s ⟨#[47]⟩ m _ (by omega) hm (by decide)).mono ?_
  rintro e w1 ⟨rfl, hw1⟩
  rw [pieces] at hw1
  have hN : Lib.countB s ⟨#[47]⟩ + 1 = (splitC 47 s.data.toList).length := (splitC_len 47 s.data.toList).symm
  rw [hN]
  exact ⟨rfl, hw1.symm⟩

theorem splitC_le (c : UInt8) (s : Bs) : (splitC c s).length ≤ s.length + 1 := by
  induction s with
  | nil => simp [splitC]
  | cons x r ih =>
    obtain ⟨h, t, e⟩ := splitC_form c r
    rw [splitC]; rw [e] at ih ⊢
    split <;> (simp at ih ⊢; omega)

end Go.Proofs.YteclcjpbebimeaaDoor
