/- SHA-256 as plain numbers. -/
import Derived.Test.YtbbobffedgcbhaaGreatDoorGr
namespace Go.Proofs.YtbbobffedgcbhaaGreatDoor
set_option linter.unusedVariables false
/-- A word turned to the right. -/
def rotr (r x : Nat) : Nat := x / 2 ^ r ||| x * 2 ^ (32 - r) % 4294967296
theorem rotr_lt {r x : Nat} (h : x < 4294967296) : rotr r x < 4294967296 :=
  Nat.or_lt_two_pow (n := 32) (Nat.lt_of_le_of_lt (Nat.div_le_self _ _) h) (Nat.mod_lt _ (by decide))
theorem or_lt32 {a b : Nat} (ha : a < 4294967296) (hb : b < 4294967296) : a ||| b < 4294967296 := Nat.or_lt_two_pow (n := 32) ha hb
theorem xor_lt32 {a b : Nat} (ha : a < 4294967296) (hb : b < 4294967296) : a ^^^ b < 4294967296 := Nat.xor_lt_two_pow (n := 32) ha hb
theorem and_lt32 {a b : Nat} (ha : a < 4294967296) : a &&& b < 4294967296 := Nat.lt_of_le_of_lt Nat.and_le_left ha
/-- The word that lies at place t of a block. -/
def wordAt (b : List UInt8) (t : Nat) : Nat := (((b.getD (4 * t) 0).toNat * 16777216 ||| (b.getD (4 * t + 1) 0).toNat * 65536) ||| (b.getD (4 * t + 2) 0).toNat * 256) ||| (b.getD (4 * t + 3) 0).toNat
theorem word_lt (a b c d : Nat) (ha : a < 256) (hb : b < 256) (hc : c < 256) (hd : d < 256) : (((a * 16777216 ||| b * 65536) ||| c * 256) ||| d) < 4294967296 :=
  or_lt32 (or_lt32 (or_lt32 (by omega) (by omega)) (by omega)) (by omega)
theorem wordAt_lt (b : List UInt8) (t : Nat) : wordAt b t < 4294967296 := word_lt _ _ _ _ (UInt8.toNat_lt _) (UInt8.toNat_lt _) (UInt8.toNat_lt _) (UInt8.toNat_lt _)
def ss0 (x : Nat) : Nat := (rotr 17 x ^^^ rotr 19 x) ^^^ x / 1024
def ss1 (y : Nat) : Nat := (rotr 7 y ^^^ rotr 18 y) ^^^ y / 8
theorem ss0_lt {x : Nat} (h : x < 4294967296) : ss0 x < 4294967296 := xor_lt32 (xor_lt32 (rotr_lt h) (rotr_lt h)) (by omega)
theorem ss1_lt {x : Nat} (h : x < 4294967296) : ss1 x < 4294967296 := xor_lt32 (xor_lt32 (rotr_lt h) (rotr_lt h)) (by omega)
/-- The next word, out of those before it. -/
def nextW (ws : List Nat) (t : Nat) : Nat := (ws.getD (t - 7) 0 + ws.getD (t - 16) 0 + ss0 (ws.getD (t - 2) 0) + ss1 (ws.getD (t - 15) 0)) % 4294967296
/-- The first t words that a block is stretched to. -/
def schedL (b : List UInt8) : Nat → List Nat
  | 0 => []
  | t + 1 => schedL b t ++ [if t < 16 then wordAt b t else nextW (schedL b t) t]
theorem schedL_length (b : List UInt8) (t : Nat) : (schedL b t).length = t := by
  induction t with
  | zero => rfl
  | succ t ih => simp [schedL, ih]
theorem schedL_lt (b : List UInt8) (t : Nat) : ∀ x ∈ schedL b t, x < 4294967296 := by
  induction t with
  | zero => intro x h; simp [schedL] at h
  | succ t ih =>
    intro x h
    rw [schedL, List.mem_append] at h
    rcases h with h | h
    · exact ih x h
    · obtain rfl := List.mem_singleton.1 h
      split
      · exact wordAt_lt _ _
      · exact Nat.mod_lt _ (by decide)
/-- Eight words. -/
structure St where
  a : Nat
  b : Nat
  c : Nat
  d : Nat
  e : Nat
  f : Nat
  g : Nat
  h : Nat
deriving DecidableEq
def St.list (s : St) : List Nat := [s.a, s.b, s.c, s.d, s.e, s.f, s.g, s.h]
def St.ok (s : St) : Prop := ∀ x ∈ s.list, x < 4294967296
def bs1 (e : Nat) : Nat := (rotr 6 e ^^^ rotr 11 e) ^^^ rotr 25 e
def bs0 (a : Nat) : Nat := (rotr 2 a ^^^ rotr 13 a) ^^^ rotr 22 a
def chW (e f g : Nat) : Nat := (e &&& f) ^^^ ((4294967295 - e) &&& g)
def majW (a b c : Nat) : Nat := ((a &&& b) ^^^ (a &&& c)) ^^^ (b &&& c)
def t1W (e f g h k w : Nat) : Nat := (h + bs1 e + chW e f g + k + w) % 4294967296
def t2W (a b c : Nat) : Nat := (bs0 a + majW a b c) % 4294967296
theorem bs1_lt {x : Nat} (h : x < 4294967296) : bs1 x < 4294967296 := xor_lt32 (xor_lt32 (rotr_lt h) (rotr_lt h)) (rotr_lt h)
theorem bs0_lt {x : Nat} (h : x < 4294967296) : bs0 x < 4294967296 := xor_lt32 (xor_lt32 (rotr_lt h) (rotr_lt h)) (rotr_lt h)
theorem chW_lt {e f g : Nat} (he : e < 4294967296) : chW e f g < 4294967296 := xor_lt32 (and_lt32 he) (and_lt32 (by omega))
theorem majW_lt {a b c : Nat} (ha : a < 4294967296) (hb : b < 4294967296) : majW a b c < 4294967296 := xor_lt32 (xor_lt32 (and_lt32 ha) (and_lt32 ha)) (and_lt32 hb)
/-- One round. -/
def St.step (s : St) (k w : Nat) : St :=
  ⟨(t1W s.e s.f s.g s.h k w + t2W s.a s.b s.c) % 4294967296, s.a, s.b, s.c, (s.d + t1W s.e s.f s.g s.h k w) % 4294967296, s.e, s.f, s.g⟩
theorem St.ok8 (s : St) : s.ok ↔ (s.a < 4294967296 ∧ s.b < 4294967296 ∧ s.c < 4294967296 ∧ s.d < 4294967296 ∧ s.e < 4294967296 ∧ s.f < 4294967296 ∧ s.g < 4294967296 ∧ s.h < 4294967296) := by
  simp [St.ok, St.list]
theorem St.step_ok {s : St} (h : s.ok) (k w : Nat) : (s.step k w).ok := by
  rw [St.ok8] at h ⊢
  obtain ⟨h1, h2, h3, h4, h5, h6, h7, h8⟩ := h
  exact ⟨Nat.mod_lt _ (by decide), h1, h2, h3, Nat.mod_lt _ (by decide), h5, h6, h7⟩
def keysL : List Nat := [
  0x428a2f98, 0x71374491, 0xb5c0fbcf, 0xe9b5dba5, 0x3956c25b, 0x59f111f1, 0x923f82a4, 0xab1c5ed5,
  0xd807aa98, 0x12835b01, 0x243185be, 0x550c7dc3, 0x72be5d74, 0x80deb1fe, 0x9bdc06a7, 0xc19bf174,
  0xe49b69c1, 0xefbe4786, 0x0fc19dc6, 0x240ca1cc, 0x2de92c6f, 0x4a7484aa, 0x5cb0a9dc, 0x76f988da,
  0x983e5152, 0xa831c66d, 0xb00327c8, 0xbf597fc7, 0xc6e00bf3, 0xd5a79147, 0x06ca6351, 0x14292967,
  0x27b70a85, 0x2e1b2138, 0x4d2c6dfc, 0x53380d13, 0x650a7354, 0x766a0abb, 0x81c2c92e, 0x92722c85,
  0xa2bfe8a1, 0xa81a664b, 0xc24b8b70, 0xc76c51a3, 0xd192e819, 0xd6990624, 0xf40e3585, 0x106aa070,
  0x19a4c116, 0x1e376c08, 0x2748774c, 0x34b0bcb5, 0x391c0cb3, 0x4ed8aa4a, 0x5b9cca4f, 0x682e6ff3,
  0x748f82ee, 0x78a5636f, 0x84c87814, 0x8cc70208, 0x90befffa, 0xa4506ceb, 0xbef9a3f7, 0xc67178f2]
def firstL : List Nat := [0x6a09e667, 0xbb67ae85, 0x3c6ef372, 0xa54ff53a, 0x510e527f, 0x9b05688c, 0x1f83d9ab, 0x5be0cd19]
def firstS : St := ⟨0x6a09e667, 0xbb67ae85, 0x3c6ef372, 0xa54ff53a, 0x510e527f, 0x9b05688c, 0x1f83d9ab, 0x5be0cd19⟩
theorem keysL_len : keysL.length = 64 := by decide +kernel
theorem keysL_all : keysL.all (fun x => decide (x < 4294967296)) = true := by decide +kernel
theorem keysL_lt (t : Nat) : keysL.getD t 0 < 4294967296 := by
  rcases Nat.lt_or_ge t keysL.length with h | h
  · have := List.all_eq_true.1 keysL_all (keysL[t]) (List.getElem_mem h)
    rw [List.getD_eq_getElem?_getD, List.getElem?_eq_getElem h]
    simpa using this
  · rw [List.getD_eq_getElem?_getD, List.getElem?_eq_none h]; decide
/-- The first t rounds. -/
def rounds (s : St) (ws : List Nat) : Nat → St
  | 0 => s
  | t + 1 => (rounds s ws t).step (keysL.getD t 0) (ws.getD t 0)
theorem rounds_ok {s : St} (h : s.ok) (ws : List Nat) (t : Nat) : (rounds s ws t).ok := by
  induction t with
  | zero => exact h
  | succ t ih => exact St.step_ok ih _ _
def addW (x y : Nat) : Nat := (x + y) % 4294967296
def St.add (s v : St) : St := ⟨addW s.a v.a, addW s.b v.b, addW s.c v.c, addW s.d v.d, addW s.e v.e, addW s.f v.f, addW s.g v.g, addW s.h v.h⟩
theorem addW_lt (x y : Nat) : addW x y < 4294967296 := Nat.mod_lt _ (by decide)
/-- A state behind a block. -/
def comp (s : St) (b : List UInt8) : St := s.add (rounds s (schedL b 64) 64)
theorem comp_ok (s : St) (b : List UInt8) : (comp s b).ok := by
  rw [St.ok8]; exact ⟨addW_lt _ _, addW_lt _ _, addW_lt _ _, addW_lt _ _, addW_lt _ _, addW_lt _ _, addW_lt _ _, addW_lt _ _⟩
theorem firstS_ok : firstS.ok := by rw [St.ok8]; decide
/-- The first n blocks of bytes taken in one after the other. -/
def compN (s : St) (b : List UInt8) : Nat → St
  | 0 => s
  | n + 1 => comp (compN s b n) ((b.drop (64 * n)).take 64)
theorem compN_ok {s : St} (h : s.ok) (b : List UInt8) (n : Nat) : (compN s b n).ok := by
  cases n with
  | zero => exact h
  | succ n => exact comp_ok _ _
theorem compN_append (s : St) (b c : List UInt8) (n : Nat) (h : 64 * n ≤ b.length) : compN s (b ++ c) n = compN s b n := by
  induction n with
  | zero => rfl
  | succ n ih =>
    rw [compN, compN, ih (by omega)]
    congr 1
    rw [List.drop_append_of_le_length (by omega), List.take_append_of_le_length (by rw [List.length_drop]; omega)]
def zerosN (n : Nat) : List UInt8 := List.replicate n 0
/-- How many blocks a message makes. -/
def blocksN (n : Nat) : Nat := (n + 8) / 64 + 1
def padL (b : List UInt8) : List UInt8 := b ++ 0x80 :: zerosN (64 * blocksN b.length - 8 - (b.length + 1)) ++ be 8 (8 * b.length)
theorem padL_length (b : List UInt8) : (padL b).length = 64 * blocksN b.length := by
  simp only [padL, List.length_append, List.length_cons, zerosN, List.length_replicate, be_length, blocksN]
  omega
def stateBytes (s : St) : List UInt8 := s.list.flatMap fun x => be 4 x
def sumL (b : List UInt8) : List UInt8 := stateBytes (compN firstS (padL b) (blocksN b.length))
theorem sum_abc : sumL [97, 98, 99] = [0xba, 0x78, 0x16, 0xbf, 0x8f, 0x01, 0xcf, 0xea, 0x41, 0x41, 0x40, 0xde, 0x5d, 0xae, 0x22, 0x23, 0xb0, 0x03, 0x61, 0xa3, 0x96, 0x17, 0x7a, 0x9c, 0xb4, 0x10, 0xff, 0x61, 0xf2, 0x00, 0x15, 0xad] := by decide +kernel
/-- What is left behind the last whole block. -/
def restL (m : List UInt8) : List UInt8 := m.drop (64 * (m.length / 64))
theorem restL_length (m : List UInt8) : (restL m).length = m.length % 64 := by
  rw [restL, List.length_drop]; omega
def stateL (m : List UInt8) : St := compN firstS m (m.length / 64)
theorem stateL_ok (m : List UInt8) : (stateL m).ok := compN_ok firstS_ok _ _
/-- Taking in bytes that do not fill the block. -/
theorem take_in_some (m x : List UInt8) (h : (restL m).length + x.length < 64) : restL (m ++ x) = restL m ++ x ∧ stateL (m ++ x) = stateL m := by
  rw [restL_length] at h
  have hq : (m ++ x).length / 64 = m.length / 64 := by rw [List.length_append]; omega
  constructor
  · rw [restL, hq, restL, List.drop_append_of_le_length (by omega)]
  · rw [stateL, hq, compN_append _ _ _ _ (by omega), stateL]
/-- Taking in bytes that fill the block. -/
theorem take_in_full (m x : List UInt8) (h : (restL m).length + x.length = 64) : restL (m ++ x) = [] ∧ stateL (m ++ x) = comp (stateL m) (restL m ++ x) := by
  have h0 := h
  rw [restL_length] at h
  have hq : (m ++ x).length / 64 = m.length / 64 + 1 := by rw [List.length_append]; omega
  constructor
  · rw [restL, hq, List.drop_eq_nil_of_le]
    rw [List.length_append]; omega
  · rw [stateL, hq, compN, compN_append _ _ _ _ (by omega), ← stateL]
    congr 1
    rw [List.drop_append_of_le_length (by omega), ← restL, List.take_of_length_le]
    rw [List.length_append]; omega
theorem padL_rest (m : List UInt8) : (padL m).drop (64 * (m.length / 64)) = restL m ++ 0x80 :: zerosN (64 * blocksN m.length - 8 - (m.length + 1)) ++ be 8 (8 * m.length) := by
  rw [padL, List.append_assoc, List.append_assoc, List.drop_append_of_le_length (by omega), restL]
theorem padL_front (m : List UInt8) : compN firstS (padL m) (m.length / 64) = stateL m := by
  rw [padL, List.append_assoc, compN_append _ _ _ _ (by omega), stateL]
/-- The end, in one block. -/
theorem sum_one (m : List UInt8) (h : m.length % 64 ≤ 55) : sumL m = stateBytes (comp (stateL m) (restL m ++ 0x80 :: zerosN (55 - m.length % 64) ++ be 8 (8 * m.length))) := by
  have hb : blocksN m.length = m.length / 64 + 1 := by unfold blocksN; omega
  rw [sumL, hb, compN, padL_front, padL_rest, hb]
  congr 2
  have e : 64 * (m.length / 64 + 1) - 8 - (m.length + 1) = 55 - m.length % 64 := by omega
  rw [e, List.take_of_length_le]
  simp only [List.length_append, List.length_cons, zerosN, List.length_replicate, be_length, restL_length]
  omega
theorem zerosN_add (a b : Nat) : zerosN (a + b) = zerosN a ++ zerosN b := by simp [zerosN, List.replicate_append_replicate]
/-- The end, in two blocks. -/
theorem sum_two (m : List UInt8) (h : 55 < m.length % 64) : sumL m = stateBytes (comp (comp (stateL m) (restL m ++ 0x80 :: zerosN (63 - m.length % 64))) (zerosN 56 ++ be 8 (8 * m.length))) := by
  have hb : blocksN m.length = m.length / 64 + 2 := by unfold blocksN; omega
  have e : 64 * (m.length / 64 + 2) - 8 - (m.length + 1) = (63 - m.length % 64) + 56 := by omega
  have hl : (restL m ++ 0x80 :: zerosN (63 - m.length % 64)).length = 64 := by
    simp only [List.length_append, List.length_cons, zerosN, List.length_replicate, restL_length]; omega
  have hr := padL_rest m
  rw [hb, e, zerosN_add] at hr
  have hr2 : (padL m).drop (64 * (m.length / 64)) = (restL m ++ 0x80 :: zerosN (63 - m.length % 64)) ++ (zerosN 56 ++ be 8 (8 * m.length)) := by rw [hr]; simp [List.append_assoc]
  have e1 : ((padL m).drop (64 * (m.length / 64))).take 64 = restL m ++ 0x80 :: zerosN (63 - m.length % 64) := by
    rw [hr2, List.take_append_of_le_length (by omega), List.take_of_length_le (by omega)]
  have e2 : ((padL m).drop (64 * (m.length / 64 + 1))).take 64 = zerosN 56 ++ be 8 (8 * m.length) := by
    rw [show 64 * (m.length / 64 + 1) = 64 * (m.length / 64) + 64 by omega, ← List.drop_drop, hr2, List.drop_append_of_le_length (by omega), List.drop_of_length_le (by omega), List.nil_append, List.take_of_length_le]
    simp [zerosN, be_length]
  rw [sumL, hb, compN, compN, padL_front, e1, e2]
theorem stateBytes_length (s : St) : (stateBytes s).length = 32 := by simp [stateBytes, St.list, be_length]
theorem sumL_length (b : List UInt8) : (sumL b).length = 32 := stateBytes_length _
/-- A short message is one block. -/
theorem sum_short (m : List UInt8) (h : m.length ≤ 55) : sumL m = stateBytes (comp firstS (padL m)) := by
  have hb : blocksN m.length = 1 := by unfold blocksN; omega
  have hl := padL_length m
  rw [hb] at hl
  have e : ((padL m).drop (64 * 0)).take 64 = padL m := by
    rw [Nat.mul_zero, List.drop_zero, List.take_of_length_le (Nat.le_of_eq hl)]
  rw [sumL, hb, compN, compN, e]
theorem or_add (a b i : Nat) (h : b < 2 ^ i) : a * 2 ^ i ||| b = a * 2 ^ i + b := by
  have := Nat.shiftLeft_add_eq_or_of_lt h a
  rw [Nat.shiftLeft_eq] at this
  exact this.symm
theorem word_sum (a b c d : Nat) (hb : b < 256) (hc : c < 256) (hd : d < 256) : (((a * 16777216 ||| b * 65536) ||| c * 256) ||| d) = ((a * 256 + b) * 256 + c) * 256 + d := by
  rw [or_add a (b * 65536) 24 (by omega)]
  rw [show a * 2 ^ 24 + b * 65536 = (a * 256 + b) * 2 ^ 16 by omega, or_add _ (c * 256) 16 (by omega)]
  rw [show (a * 256 + b) * 2 ^ 16 + c * 256 = ((a * 256 + b) * 256 + c) * 2 ^ 8 by omega, or_add _ d 8 (by omega)]
end Go.Proofs.YtbbobffedgcbhaaGreatDoor
