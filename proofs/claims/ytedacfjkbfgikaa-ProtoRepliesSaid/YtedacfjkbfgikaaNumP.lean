/- Plain facts on bytes and numbers; no program in it. -/
namespace Go.Proofs.Ytedacfjkbfgikaa

/-- The number that bytes encode, the most significant first. -/
def numB (l : List UInt8) : Nat := l.foldl (fun a c => a * 256 + c.toNat) 0
theorem numB_nil : numB [] = 0 := rfl
theorem numB_snoc (l : List UInt8) (c : UInt8) : numB (l ++ [c]) = numB l * 256 + c.toNat := by simp [numB]
theorem numB_lt_aux (l : List UInt8) : ∀ a : Nat, l.foldl (fun a c => a * 256 + c.toNat) a < (a + 1) * 256 ^ l.length := by
  induction l with
  | nil => intro a; simp
  | cons c r ih =>
    intro a
    simp only [List.foldl_cons, List.length_cons]
    refine Nat.lt_of_lt_of_le (ih _) ?_
    rw [Nat.pow_succ', ← Nat.mul_assoc]
    refine Nat.mul_le_mul_right _ ?_
    have := c.toNat_lt
    omega
theorem numB_lt (l : List UInt8) : numB l < 256 ^ l.length := by
  have := numB_lt_aux l 0
  simpa [numB] using this
theorem numB_lt8 (l : List UInt8) (h : l.length ≤ 8) : numB l < 18446744073709551616 := by
  have h1 := numB_lt l
  have h2 : 256 ^ l.length ≤ 256 ^ 8 := Nat.pow_le_pow_right (by omega) h
  omega
theorem numB_lt7 (l : List UInt8) (h : l.length ≤ 7) : numB l < 72057594037927936 := by
  have h1 := numB_lt l
  have h2 : 256 ^ l.length ≤ 256 ^ 7 := Nat.pow_le_pow_right (by omega) h
  omega
theorem take_snoc {α : Type} (l : List α) (k : Nat) (h : k < l.length) : l.take (k + 1) = l.take k ++ [l[k]] := by
  rw [List.take_succ_eq_append_getElem h]
theorem numB_take (l : List UInt8) (k : Nat) (h : k < l.length) : numB (l.take (k + 1)) = numB (l.take k) * 256 + (l.getD k 0).toNat := by
  rw [take_snoc l k h, numB_snoc]; simp [h]

/-- The k low bytes of n, the most significant first. -/
def be : Nat → Nat → List UInt8
  | 0, _ => []
  | k + 1, n => UInt8.ofNat (n / 256 ^ k) :: be k n
theorem be_length (k n : Nat) : (be k n).length = k := by induction k with
  | zero => rfl
  | succ k ih => simp [be, ih]
theorem be_num (k n : Nat) : numB (be k n) = n % 256 ^ k := by
  have aux : ∀ k a, (be k n).foldl (fun a c => a * 256 + c.toNat) a = a * 256 ^ k + n % 256 ^ k := by
    intro k
    induction k with
    | zero => intro a; simp [be, Nat.mod_one]
    | succ k ih =>
      intro a
      simp only [be, List.foldl_cons]
      rw [ih]
      have h1 : (UInt8.ofNat (n / 256 ^ k)).toNat = n / 256 ^ k % 256 := by simp
      rw [h1, Nat.pow_succ, Nat.mod_mul, Nat.add_mul]
      have : a * 256 * 256 ^ k = a * (256 ^ k * 256) := by rw [Nat.mul_assoc, Nat.mul_comm 256]
      rw [this, Nat.mul_comm (n / 256 ^ k % 256)]
      omega
  have := aux k 0
  simpa [numB] using this
theorem be_drop (m k n : Nat) : (be (m + k) n).drop m = be k n := by
  induction m with
  | zero => simp
  | succ m ih => rw [Nat.succ_add]; simp [be, ih]
theorem be_step (m j n : Nat) (h : j < m) : (List.replicate (m - j) (0 : UInt8) ++ be j n).set (m - 1 - j) (UInt8.ofNat (n / 256 ^ j)) = List.replicate (m - (j + 1)) 0 ++ be (j + 1) n := by
  obtain ⟨d, rfl⟩ : ∃ d, m = d + 1 + j := ⟨m - 1 - j, by omega⟩
  have e1 : d + 1 + j - j = d + 1 := by omega
  have e2 : d + 1 + j - 1 - j = d := by omega
  have e3 : d + 1 + j - (j + 1) = d := by omega
  rw [e1, e2, e3, List.replicate_succ', List.append_assoc, List.set_append_right _ _ (by simp)]
  simp [be]
end Go.Proofs.Ytedacfjkbfgikaa
