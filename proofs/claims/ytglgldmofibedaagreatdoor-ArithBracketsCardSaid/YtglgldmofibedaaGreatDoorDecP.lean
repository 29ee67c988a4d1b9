/- Plain facts on decimal numerals. -/
import Derived.Lib.AtoiAll
import Derived.Lib.ItoaNum
namespace Go.Proofs.YtglgldmofibedaaGreatDoor

/-- What digits spell behind a number. -/
def val (a : Nat) (l : List UInt8) : Nat := l.foldl (fun a c => a * 10 + (c.toNat - 48)) a
theorem val_nil (a : Nat) : val a [] = a := by simp [val]
theorem val_cons (a : Nat) (c : UInt8) (l : List UInt8) : val a (c :: l) = val (a * 10 + (c.toNat - 48)) l := by simp [val]
theorem val_snoc (a : Nat) (l : List UInt8) (c : UInt8) : val a (l ++ [c]) = val a l * 10 + (c.toNat - 48) := by simp [val]
theorem val_ge (l : List UInt8) : ∀ a, a ≤ val a l := by
  induction l with
  | nil => intro a; exact Nat.le_refl _
  | cons c r ih => intro a; rw [val_cons]; have := ih (a * 10 + (c.toNat - 48)); omega
def isDg (c : UInt8) : Prop := 48 ≤ c.toNat ∧ c.toNat ≤ 57
theorem dg_of (u : Nat) (h : u < 10) : isDg (UInt8.ofNat (48 + u)) ∧ (UInt8.ofNat (48 + u)).toNat = 48 + u := by
  have : (UInt8.ofNat (48 + u)).toNat = 48 + u := by simp; omega
  exact ⟨⟨by omega, by omega⟩, this⟩
theorem dec_small {u : Nat} (h : u < 10) : Lib.decDigits u = [UInt8.ofNat (48 + u)] := Lib.decDigits_one h
theorem dec_big {u : Nat} (h : ¬ u < 10) : Lib.decDigits u = Lib.decDigits (u / 10) ++ [UInt8.ofNat (48 + u % 10)] := by rw [Lib.decDigits, dif_neg h]
theorem dec_dg (u : Nat) : ∀ c ∈ Lib.decDigits u, isDg c := by
  induction u using Nat.strongRecOn with
  | _ u ih =>
    intro c hc
    by_cases h : u < 10
    · rw [dec_small h] at hc
      simp only [List.mem_singleton] at hc
      subst hc
      exact (dg_of u h).1
    · rw [dec_big h, List.mem_append, List.mem_singleton] at hc
      rcases hc with hc | rfl
      · exact ih (u / 10) (by omega) c hc
      · exact (dg_of _ (by omega)).1
theorem dec_val (u : Nat) : val 0 (Lib.decDigits u) = u := by
  induction u using Nat.strongRecOn with
  | _ u ih =>
    by_cases h : u < 10
    · rw [dec_small h, val_cons, val_nil, (dg_of u h).2]; omega
    · rw [dec_big h, val_snoc, ih (u / 10) (by omega), (dg_of _ (by omega)).2]; omega
theorem dec_ne (u : Nat) : Lib.decDigits u ≠ [] := by
  by_cases h : u < 10
  · rw [dec_small h]; simp
  · rw [dec_big h]; simp
theorem dec_len (u : Nat) : ∀ k, u < 10 ^ (k + 1) → (Lib.decDigits u).length ≤ k + 1 := by
  intro k
  induction k generalizing u with
  | zero => intro h; rw [dec_small (by simpa using h)]; simp
  | succ k ih =>
    intro h
    by_cases h10 : u < 10
    · rw [dec_small h10]; simp
    · rw [dec_big h10]
      have := ih (u / 10) (by rw [Nat.pow_succ] at h; omega)
      simp; omega
theorem parse_val (l : List UInt8) : ∀ a, (∀ c ∈ l, isDg c) → val a l < 18446744073709551616 → Lib.parseUint10 a l = .ok (val a l) := by
  induction l with
  | nil => intro a _ _; rfl
  | cons c r ih =>
    intro a hd hv
    have hc := hd c (by simp)
    rw [val_cons] at hv ⊢
    have hg := val_ge r (a * 10 + (c.toNat - 48))
    unfold Lib.parseUint10
    unfold isDg at hc
    rw [if_pos hc, if_neg (by omega), if_neg (by omega)]
    exact ih _ (fun x hx => hd x (by simp [hx])) hv
theorem mag_dec (u : Nat) (h : u < 18446744073709551616) : Lib.parseMag (Lib.decDigits u) = .ok u := by
  unfold Lib.parseMag
  rw [if_neg (dec_ne u), parse_val _ 0 (dec_dg u) (by rw [dec_val]; exact h), dec_val]
/-- An int. -/
def i64R (v : Int) : Prop := -9223372036854775808 ≤ v ∧ v ≤ 9223372036854775807
theorem atoi_itoa (v : Int) (h : i64R v) : Lib.atoiAll (Lib.itoa v) = .ok v := by
  unfold i64R at h
  unfold Lib.itoa
  split
  · have := mag_dec v.natAbs (by omega)
    unfold Lib.atoiAll
    dsimp only
    have e : UInt8.toNat 45 = 45 := by decide
    rw [if_pos (show UInt8.toNat 45 = 43 ∨ UInt8.toNat 45 = 45 from Or.inr e), this]
    dsimp only
    rw [if_neg (fun h => h.1 e), if_neg (by rintro ⟨_, h⟩; omega), if_pos e]
    congr 1
    omega
  · have hm := mag_dec v.toNat (by omega)
    have hn := dec_ne v.toNat
    have hd := dec_dg v.toNat
    generalize Lib.decDigits v.toNat = l at *
    rcases l with _ | ⟨c, r⟩
    · exact absurd rfl hn
    · have hc := hd c (by simp)
      unfold isDg at hc
      unfold Lib.atoiAll
      dsimp only
      rw [if_neg (by omega), hm]
      dsimp only
      rw [if_neg (by omega), if_neg (by omega), if_neg (by omega)]
      congr 1
      omega
theorem itoa_inj {a b : Int} (ha : i64R a) (hb : i64R b) (h : Lib.itoa a = Lib.itoa b) : a = b := by
  have h1 := atoi_itoa a ha
  have h2 := atoi_itoa b hb
  rw [h, h2] at h1
  injection h1 with h1
  exact h1.symm
theorem itoa_len (v : Int) (h : i64R v) : (Lib.itoa v).length ≤ 20 := by
  unfold i64R at h
  unfold Lib.itoa
  split
  · have := dec_len v.natAbs 18 (by omega)
    simp; omega
  · have := dec_len v.toNat 18 (by omega)
    omega
/-- Where the digits of v begin. -/
def atOf (l : List UInt8) : Nat := if l.head? = some 45 then 1 else 0
theorem itoa_shape (v : Int) : (v < 0 ∧ Lib.itoa v = 45 :: Lib.decDigits v.natAbs) ∨ (0 ≤ v ∧ Lib.itoa v = Lib.decDigits v.natAbs) := by
  unfold Lib.itoa
  split
  · exact .inl ⟨by assumption, rfl⟩
  · refine .inr ⟨by omega, ?_⟩
    congr 1
    omega
theorem val_take_le (l : List UInt8) (k : Nat) : val 0 (l.take k) ≤ val 0 l := by
  have : val 0 l = val (val 0 (l.take k)) (l.drop k) := by
    unfold val
    rw [← List.foldl_append, List.take_append_drop]
  rw [this]
  exact val_ge _ _
theorem val_take_lt (l : List UInt8) (k : Nat) (h : k < l.length) : val 0 (l.take k) * 10 ≤ val 0 l := by
  have h1 := val_take_le l (k + 1)
  rw [List.take_succ_eq_append_getElem h, val_snoc] at h1
  omega
theorem val_take_succ (l : List UInt8) (k : Nat) (h : k < l.length) : val 0 (l.take (k + 1)) = val 0 (l.take k) * 10 + (l[k].toNat - 48) := by
  rw [List.take_succ_eq_append_getElem h, val_snoc]
end Go.Proofs.YtglgldmofibedaaGreatDoor
