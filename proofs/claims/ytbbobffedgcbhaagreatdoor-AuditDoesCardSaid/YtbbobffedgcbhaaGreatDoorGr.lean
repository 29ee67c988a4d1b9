/- Plain facts on bytes and numbers; no program in it. Records as plain data, their bytes. No program. My own plain words for memory: a slice that reads as a list, a block that is known whole (after the guide's extra-words). append onto a row of the call's own, whatever the source (the guide's extra-words, section 3). More plain words: rows that are kept, slices of a slice. The contract of num.Put. The contract of num.Get. The contract of slices.Clone at bytes. A region that draws its order, whose last operation stores into a cell that it loads: S need not hold behind that one operation. The contract of the reference's Put. The contract of the reference's Get. -/
import Derived.Test.YtbbobffedgcbhaaGreatDoorProg
import Derived.WalkKit
import Derived.WalkSpells
import Derived.WalkLawsBesides
import Derived.Lib.Hide
import Derived.Below
import Derived.Laws.OwnMore
import Derived.Deep.AppendLies
import Derived.Deep.Draws
import Derived.Maps.AppendAt
import Derived.RegionTactic
import Derived.OwnWalk
import Derived.Laws.Rows
import Derived.PlainAid
import Derived.Laws.BitsAllLaws
import Derived.Laws.BitsLemmas
import Derived.Deep.QuietTactic
import Derived.BigQuiet
import Derived.Laws.MakeOwn
import Derived.Laws.CopyOwn
import Derived.Laws.BytesString
import Derived.Laws.Cells
import Derived.StillTailTactics
import Derived.Deep.DeepMust
import Derived.Deep.RegionHeld3
namespace Go.Proofs.YtbbobffedgcbhaaGreatDoor

/-- The number that bytes encode, the most significant first. -/
def numB (l : List UInt8) : Nat := l.foldl (fun a c => a * 256 + c.toNat) 0
theorem numB_nil : numB [] = 0 := rfl
theorem numB_snoc (l : List UInt8) (c : UInt8) : numB (l ++ [c]) = numB l * 256 + c.toNat := by simp [numB]
theorem numB_lt_aux (l : List UInt8) : ∀ a : Nat, l.foldl (fun a c => a * 256 + c.toNat) a < (a + 1) * 256 ^ l.length := by
  induction l with
  | nil => intro a; simp
  | cons c r ih =>
    intro a
    simp only [List.foldl_cons, List.length_cons]
    refine Nat.lt_of_lt_of_le (ih _) ?_
    rw [Nat.pow_succ', ← Nat.mul_assoc]
    refine Nat.mul_le_mul_right _ ?_
    have := c.toNat_lt
    omega
theorem numB_lt (l : List UInt8) : numB l < 256 ^ l.length := by
  have := numB_lt_aux l 0
  simpa [numB] using this
theorem numB_lt8 (l : List UInt8) (h : l.length ≤ 8) : numB l < 18446744073709551616 := by
  have h1 := numB_lt l
  have h2 : 256 ^ l.length ≤ 256 ^ 8 := Nat.pow_le_pow_right (by omega) h
  omega
theorem numB_lt7 (l : List UInt8) (h : l.length ≤ 7) : numB l < 72057594037927936 := by
  have h1 := numB_lt l
  have h2 : 256 ^ l.length ≤ 256 ^ 7 := Nat.pow_le_pow_right (by omega) h
  omega
theorem take_snoc {α : Type} (l : List α) (k : Nat) (h : k < l.length) : l.take (k + 1) = l.take k ++ [l[k]] := by
  rw [List.take_succ_eq_append_getElem h]
theorem numB_take (l : List UInt8) (k : Nat) (h : k < l.length) : numB (l.take (k + 1)) = numB (l.take k) * 256 + (l.getD k 0).toNat := by
  rw [take_snoc l k h, numB_snoc]; simp [h]

/-- The k low bytes of n, the most significant first. -/
def be : Nat → Nat → List UInt8
  | 0, _ => []
  | k + 1, n => UInt8.ofNat (n / 256 ^ k) :: be k n
theorem be_length (k n : Nat) : (be k n).length = k := by induction k with
  | zero => rfl
  | succ k ih => simp [be, ih]
theorem be_num (k n : Nat) : numB (be k n) = n % 256 ^ k := by
  have aux : ∀ k a, (be k n).foldl (fun a c => a * 256 + c.toNat) a = a * 256 ^ k + n % 256 ^ k := by
    intro k
    induction k with
    | zero => intro a; simp [be, Nat.mod_one]
    | succ k ih =>
      intro a
      simp only [be, List.foldl_cons]
      rw [ih]
      have h1 : (UInt8.ofNat (n / 256 ^ k)).toNat = n / 256 ^ k % 256 := by simp
      rw [h1, Nat.pow_succ, Nat.mod_mul, Nat.add_mul]
      have : a * 256 * 256 ^ k = a * (256 ^ k * 256) := by rw [Nat.mul_assoc, Nat.mul_comm 256]
      rw [this, Nat.mul_comm (n / 256 ^ k % 256)]
      omega
  have := aux k 0
  simpa [numB] using this
theorem be_drop (m k n : Nat) : (be (m + k) n).drop m = be k n := by
  induction m with
  | zero => simp
  | succ m ih => rw [Nat.succ_add]; simp [be, ih]
theorem be_step (m j n : Nat) (h : j < m) : (List.replicate (m - j) (0 : UInt8) ++ be j n).set (m - 1 - j) (UInt8.ofNat (n / 256 ^ j)) = List.replicate (m - (j + 1)) 0 ++ be (j + 1) n := by
  obtain ⟨d, rfl⟩ : ∃ d, m = d + 1 + j := ⟨m - 1 - j, by omega⟩
  have e1 : d + 1 + j - j = d + 1 := by omega
  have e2 : d + 1 + j - 1 - j = d := by omega
  have e3 : d + 1 + j - (j + 1) = d := by omega
  rw [e1, e2, e3, List.replicate_succ', List.append_assoc, List.set_append_right _ _ (by simp)]
  simp [be]
end Go.Proofs.YtbbobffedgcbhaaGreatDoor
namespace Go.Proofs.YtbbobffedgcbhaaGreatDoor

set_option linter.unusedVariables false
abbrev LB := List UInt8
structure Rec where
  seq : Int
  op : Int
  path : LB
  path2 : LB
  dig : LB
  allow : Bool
def govP (op : Int) : Bool := op == 1 || op == 6 || op == 7 || op == 9 || op == 10 || op == 11 || op == 12 || op == 13 || op == 14
def seqOk (r : Rec) : Bool := decide (0 ≤ r.seq) && decide (r.seq ≤ 2147483647)
def p2Ok (r : Rec) : Bool := decide (r.path2.length ≤ 256) && (r.path2.isEmpty || r.op == 14)
def digOk (r : Rec) : Bool := if r.op = 7 then decide (r.dig.length = 32) else decide (r.dig.length = 0)
def validP (r : Rec) : Bool := seqOk r && (govP r.op && (decide (r.path.length ≤ 256) && (p2Ok r && digOk r)))
def txtP (s : LB) : LB := be 2 s.length ++ s
def encP (r : Rec) : LB := be 4 r.seq.toNat ++ [UInt8.ofNat r.op.toNat, if r.allow then 1 else 0] ++ txtP r.path ++ txtP r.path2 ++ r.dig
/-- The text at the beginning, and what is behind it. -/
def takeT (b : LB) : Option (LB × LB) := if b.length < 2 then none else if (b.drop 2).length < numB (b.take 2) then none else some ((b.drop 2).take (numB (b.take 2)), (b.drop 2).drop (numB (b.take 2)))
def recOf (b p p2 d : LB) : Rec := ⟨(numB (b.take 4) : Int), ((b.getD 4 0).toNat : Int), p, p2, d, b.getD 5 0 == 1⟩
def rawP (b : LB) : Option Rec := if b.length < 6 ∨ 1 < (b.getD 5 0).toNat then none else
  match takeT (b.drop 6) with
  | none => none
  | some (p, r) => match takeT r with
    | none => none
    | some (p2, d) => some (recOf b p p2 d)
def decP (b : LB) : Option Rec := match rawP b with
  | none => none
  | some r => if validP r = true then some r else none
theorem gov_le {op : Int} (h : govP op = true) : 1 ≤ op ∧ op ≤ 14 := by
  unfold govP at h
  simp only [Bool.or_eq_true, beq_iff_eq] at h
  omega
theorem valid_parts {r : Rec} (h : validP r = true) : (0 ≤ r.seq ∧ r.seq ≤ 2147483647) ∧ govP r.op = true ∧ r.path.length ≤ 256 ∧ r.path2.length ≤ 256 ∧ r.dig.length ≤ 32 := by
  unfold validP seqOk p2Ok digOk at h
  simp only [Bool.and_eq_true, decide_eq_true_eq] at h
  obtain ⟨⟨h1, h2⟩, h3, h4, ⟨h5, _⟩, h6⟩ := h
  refine ⟨⟨h1, h2⟩, h3, h4, h5, ?_⟩
  split at h6 <;> simp only [decide_eq_true_eq] at h6 <;> omega
theorem be2_num (n : Nat) (h : n ≤ 65535) : numB (be 2 n) = n := by
  rw [be_num]; exact Nat.mod_eq_of_lt (by omega)
theorem takeT_txt (s r : LB) (h : s.length ≤ 65535) : takeT (txtP s ++ r) = some (s, r) := by
  have hb : (be 2 s.length).length = 2 := be_length 2 _
  have h1 : (txtP s ++ r).take 2 = be 2 s.length := by
    unfold txtP
    rw [List.append_assoc, List.take_append_of_le_length (by omega), List.take_of_length_le (by omega)]
  have h2 : (txtP s ++ r).drop 2 = s ++ r := by
    unfold txtP
    rw [List.append_assoc, List.drop_append, List.drop_of_length_le (by omega), hb]; simp
  unfold takeT
  rw [h1, h2, be2_num _ h, if_neg (by unfold txtP; simp [hb]), if_neg (by simp), List.take_append_of_le_length (Nat.le_refl _), List.take_of_length_le (Nat.le_refl _), List.drop_append]
  simp
theorem numB_inj : ∀ (n : Nat) (a b : LB), a.length = n → b.length = n → numB a = numB b → a = b
  | 0, a, b, ha, hb, _ => by rw [List.eq_nil_of_length_eq_zero ha, List.eq_nil_of_length_eq_zero hb]
  | n + 1, a, b, ha, hb, h => by
    have ha0 : a ≠ [] := fun e => by subst e; simp at ha
    have hb0 : b ≠ [] := fun e => by subst e; simp at hb
    obtain ⟨a', x, rfl⟩ : ∃ a' x, a = a' ++ [x] := ⟨a.dropLast, a.getLast ha0, (List.dropLast_concat_getLast ha0).symm⟩
    obtain ⟨b', y, rfl⟩ : ∃ b' y, b = b' ++ [y] := ⟨b.dropLast, b.getLast hb0, (List.dropLast_concat_getLast hb0).symm⟩
    rw [numB_snoc, numB_snoc] at h
    have h1 := x.toNat_lt
    have h2 := y.toNat_lt
    have e : x = y := UInt8.toNat_inj.1 (by omega)
    subst e
    rw [numB_inj n a' b' (by simpa using ha) (by simpa using hb) (by omega)]
theorem num_be (b : LB) (k : Nat) (h : b.length = k) : be k (numB b) = b := by
  subst h
  refine numB_inj b.length _ _ (be_length _ _) rfl ?_
  rw [be_num]
  exact Nat.mod_eq_of_lt (numB_lt b)
theorem takeT_some {b p r : LB} (h : takeT b = some (p, r)) : b = txtP p ++ r ∧ p.length ≤ 65535 := by
  unfold takeT at h
  split at h
  · cases h
  · rename_i h1
    split at h
    · cases h
    · rename_i h2
      injection h with h
      injection h with e1 e2
      have hl : (b.take 2).length = 2 := by rw [List.length_take]; omega
      have hn := numB_lt (b.take 2)
      rw [hl] at hn
      have hp : p.length = numB (b.take 2) := by rw [← e1, List.length_take]; omega
      refine ⟨?_, by omega⟩
      unfold txtP
      rw [hp, num_be _ 2 hl, ← e1, ← e2, List.append_assoc, List.take_append_drop, List.take_append_drop]
theorem enc_shape (r : Rec) : encP r = be 4 r.seq.toNat ++ (UInt8.ofNat r.op.toNat :: (if r.allow then 1 else 0) :: (txtP r.path ++ (txtP r.path2 ++ r.dig))) := by
  unfold encP
  simp
theorem enc_dec {r : Rec} (h : validP r = true) : decP (encP r) = some r := by
  obtain ⟨⟨h1, h2⟩, h3, h4, h5, h6⟩ := valid_parts h
  have hg := gov_le h3
  have h44 : (be 4 r.seq.toNat).length = 4 := be_length 4 _
  have e1 : (encP r).take 4 = be 4 r.seq.toNat := by
    rw [enc_shape, List.take_append_of_le_length (by omega), List.take_of_length_le (by omega)]
  have e2 : (encP r).getD 4 0 = UInt8.ofNat r.op.toNat := by
    rw [enc_shape, List.getD_eq_getElem?_getD, List.getElem?_append_right (by omega), h44]; rfl
  have e3 : (encP r).getD 5 0 = if r.allow then 1 else 0 := by
    rw [enc_shape, List.getD_eq_getElem?_getD, List.getElem?_append_right (by omega), h44]; rfl
  have e4 : (encP r).drop 6 = txtP r.path ++ (txtP r.path2 ++ r.dig) := by
    rw [enc_shape, List.drop_append, List.drop_of_length_le (by omega), h44]; rfl
  have e5 : 6 ≤ (encP r).length := by rw [enc_shape]; simp [h44]; omega
  have hraw : rawP (encP r) = some r := by
    unfold rawP
    rw [e3, e4, if_neg (by cases r.allow <;> simp <;> omega), takeT_txt _ _ (by omega)]
    dsimp only
    rw [takeT_txt _ _ (by omega)]
    dsimp only
    unfold recOf
    rw [e1, e2, e3, be_num]
    have a1 : ((r.seq.toNat % 256 ^ 4 : Nat) : Int) = r.seq := by
      rw [Nat.mod_eq_of_lt (by omega)]; omega
    have a2 : (((UInt8.ofNat r.op.toNat).toNat : Nat) : Int) = r.op := by
      rw [UInt8.toNat_ofNat']
      omega
    rw [a1, a2]
    obtain ⟨s, o, q, q2, d, al⟩ := r
    cases al <;> rfl
  unfold decP
  rw [hraw]
  dsimp only
  rw [if_pos h]
theorem dec_enc {b : LB} {r : Rec} (h : decP b = some r) : validP r = true ∧ encP r = b := by
  unfold decP at h
  split at h
  · cases h
  · rename_i r' hr
    split at h
    · rename_i hv
      injection h with h
      subst h
      refine ⟨hv, ?_⟩
      unfold rawP at hr
      split at hr
      · cases hr
      · rename_i hc
        split at hr
        · cases hr
        · rename_i p r1 h1
          split at hr
          · cases hr
          · rename_i p2 d h2
            injection hr with hr
            subst hr
            obtain ⟨k1, _⟩ := takeT_some h1
            obtain ⟨k2, _⟩ := takeT_some h2
            have hl : 6 ≤ b.length := by omega
            have h5 : (b.getD 5 0).toNat ≤ 1 := by omega
            rw [enc_shape]
            unfold recOf
            dsimp only
            rw [Int.toNat_natCast, num_be _ 4 (by rw [List.length_take]; omega), Int.toNat_natCast, UInt8.ofNat_toNat, ← k2, ← k1]
            have hb5 : (if (b.getD 5 0 == 1) = true then (1 : UInt8) else 0) = b.getD 5 0 := by
              split
              · rename_i e; exact (by simpa using e : b.getD 5 0 = 1).symm
              · rename_i e
                have e2 : b.getD 5 0 ≠ 1 := by simpa using e
                have e3 : (b.getD 5 0).toNat ≠ 1 := fun k => e2 (UInt8.toNat_inj.1 k)
                exact (UInt8.toNat_inj.1 (by show (b.getD 5 0).toNat = 0; omega)).symm
            rw [hb5]
            have g4 : b.getD 4 0 = b[4] := by simp [List.getD_eq_getElem?_getD, show 4 < b.length by omega]
            have g5 : b.getD 5 0 = b[5] := by simp [List.getD_eq_getElem?_getD, show 5 < b.length by omega]
            rw [g4, g5, List.getElem_cons_drop, List.getElem_cons_drop, List.take_append_drop]
    · cases h
theorem enc_inj {r s : Rec} (hr : validP r = true) (hs : validP s = true) (h : encP r = encP s) : r = s := by
  have e1 := enc_dec hr
  rw [h, enc_dec hs] at e1
  injection e1 with e1
  exact e1.symm
end Go.Proofs.YtbbobffedgcbhaaGreatDoor
namespace Go.Proofs.YtbbobffedgcbhaaGreatDoor
open Go.RowKit

theorem block_of_add (a : Addr) (n : Nat) : (a.add n).block = a.block := by unfold Addr.add; split <;> rfl
theorem add_of_add (a : Addr) (i j : Nat) : (a.add i).add j = a.add (i + j) := by
  unfold Addr.add
  by_cases hi : i = 0 <;> by_cases hj : j = 0 <;> simp [hi, hj, Nat.add_assoc]
theorem at_add (g o i : Nat) : (⟨g, o, none⟩ : Addr).add i = ⟨g, o + i, none⟩ := by
  unfold Addr.add
  by_cases h : i = 0 <;> simp [h]

/-- Bytes as cells. -/
def bv (bs : List UInt8) : List Value := bs.map fun b => .int .u8 (b.toNat : Int)
theorem bv_length (bs : List UInt8) : (bv bs).length = bs.length := by simp [bv]
theorem bv_append (a b : List UInt8) : bv (a ++ b) = bv a ++ bv b := by simp [bv]
theorem bv_get (bs : List UInt8) (k : Nat) (h : k < bs.length) : (bv bs)[k]? = some (.int .u8 (bs[k].toNat : Int)) := by simp [bv, h]
theorem bv_one (bs : List UInt8) : ∀ u ∈ bv bs, u.oneCell' = true := by
  intro u hu
  simp only [bv, List.mem_map] at hu
  obtain ⟨b, _, rfl⟩ := hu
  rfl
theorem bv_inj {a b : List UInt8} (h : bv a = bv b) : a = b := by
  unfold bv at h
  refine (List.map_inj_right ?_).1 h
  intro x y hxy
  simp only [Value.int.injEq, true_and] at hxy
  exact UInt8.toNat_inj.1 (by omega)

/-- A slice value of n elements, A its address, reads as the cells xs, and lies below block B. -/
def Reads (w : World) (B size : Nat) (A : Option Addr) (n : Nat) (xs : List Value) : Prop :=
  xs.length = n * size ∧ (0 < n → ∃ ad, A = some ad ∧ ad.block < B ∧ ∀ j u, xs[j]? = some u → w.cell? (ad.add j) = some u)

section
variable {w w' : World} {B B' size n : Nat} {A : Option Addr} {xs : List Value}
theorem Reads.none_ : Reads w B size A 0 [] := ⟨by simp, fun h => absurd h (by omega)⟩
theorem Reads.at_ {k : Nat} (h : Reads w B 1 A n xs) (hk : k < n) : ∃ ad u, A = some ad ∧ ad.block < B ∧ xs[k]? = some u ∧ w.cell? (ad.add k) = some u := by
  obtain ⟨ad, e, hb, hc⟩ := h.2 (by omega)
  have hl : k < xs.length := by have := h.1; omega
  exact ⟨ad, xs[k], e, hb, List.getElem?_eq_getElem hl, hc k _ (List.getElem?_eq_getElem hl)⟩
theorem Reads.keep (h : Reads w B size A n xs) (hk : ∀ p : Addr, p.block < B → w'.cell? p = w.cell? p) : Reads w' B size A n xs :=
  ⟨h.1, fun hn => by
    obtain ⟨ad, e, hb, hc⟩ := h.2 hn
    exact ⟨ad, e, hb, fun j u hu => (hk _ (by rw [block_of_add]; exact hb)).trans (hc j u hu)⟩⟩
theorem Reads.more (h : Reads w B size A n xs) (hB : B ≤ B') : Reads w B' size A n xs :=
  ⟨h.1, fun hn => by
    obtain ⟨ad, e, hb, hc⟩ := h.2 hn
    exact ⟨ad, e, by omega, hc⟩⟩
theorem Reads.below (h : Reads w B size A n xs) (hb : Below B w w') : Reads w' B size A n xs := h.keep fun _ hp => hb.cell hp
theorem Reads.drew (h : Reads w B size A n xs) : Reads w.drew B size A n xs := h
theorem Reads.drewN (h : Reads w B size A n xs) (k : Nat) : Reads (w.drewN k) B size A n xs := h
theorem Reads.alloc (h : Reads w B size A n xs) (hB : B ≤ w.heap.size) (o : Obj) : Reads (w.alloc o) B size A n xs := h.keep fun p hp => World.cell?_alloc_lt w o p (by omega)
theorem Reads.setCell (h : Reads w B size A n xs) {p : Addr} (hB : B ≤ p.block) (u : Value) : Reads (w.setCell p u) B size A n xs :=
  h.keep fun q hq => World.cell?_setCell_other w p q u (fun e => by subst e; omega)
theorem Reads.grown (h : Reads w B size A n xs) {row : Option Nat} (hg : w.grownBy w' row) (hB : B ≤ w.heap.size) (hr : ∀ g, row = some g → B ≤ g) : Reads w' B size A n xs :=
  h.keep fun p hp => World.cell?_of_block (hg.block p.block (by omega) (fun e => by have := hr _ e.symm; omega))
theorem Reads.of_own {base : Nat} {e : TypeId} {c : Nat} (h : w.ownsRow base e size (.slice A n c) n xs) : Reads w w.heap.size size A n xs := by
  refine ⟨h.1, fun hn => ?_⟩
  obtain ⟨g, cap, hv, _, hlt⟩ := h.form hn
  have hA : A = some ⟨g, 0, none⟩ := by injection hv
  subst hA
  exact ⟨_, rfl, hlt, h.cells (g := g) rfl⟩
end

/-- A slice of bytes. -/
abbrev Rd (w : World) (A : Option Addr) (n : Nat) (bs : List UInt8) : Prop := Reads w w.heap.size 1 A n (bv bs)
theorem Rd.len {w : World} {A : Option Addr} {n : Nat} {bs : List UInt8} (h : Rd w A n bs) : bs.length = n := by have := h.1; simp [bv] at this; exact this
theorem Rd.get {w : World} {A : Option Addr} {n : Nat} {bs : List UInt8} (h : Rd w A n bs) {k : Nat} (hk : k < n) : ∃ ad, A = some ad ∧ ad.block < w.heap.size ∧ w.cell? (ad.add k) = some (.int .u8 ((bs.getD k 0).toNat : Int)) := by
  obtain ⟨ad, u, hA, hb, hu, hc⟩ := h.at_ hk
  have hl : k < bs.length := by have := h.len; omega
  rw [bv_get bs k hl] at hu
  injection hu with hu
  subst hu
  refine ⟨ad, hA, hb, ?_⟩
  rw [hc]
  simp [hl]

/-- Block g is just the cells cs of element type t, none frozen. -/
def Blk (w : World) (g : Nat) (t : TypeId) (cs : Array Value) : Prop := w.heap[g]? = some (.cells cs t (0, 0))

section
variable {w w' : World} {g : Nat} {t : TypeId} {cs : Array Value}
theorem Blk.lt (h : Blk w g t cs) : g < w.heap.size := by
  rcases Nat.lt_or_ge g w.heap.size with hlt | hge
  · exact hlt
  · unfold Blk at h; rw [Array.getElem?_eq_none hge] at h; cases h
theorem Blk.cell (h : Blk w g t cs) (i : Nat) : w.cell? ⟨g, i, none⟩ = cs[i]? := cell_of_row w g i cs t (0, 0) h
theorem Blk.frozen (h : Blk w g t cs) (i : Nat) : w.frozen? ⟨g, i, none⟩ = false := by
  unfold Blk at h
  simp [World.frozen?, h]
theorem Blk.new (w : World) (t : TypeId) (cs : Array Value) : Blk (w.alloc (.cells cs t)) w.heap.size t cs := heap_alloc_new w _
theorem Blk.drew (h : Blk w g t cs) : Blk w.drew g t cs := h
theorem Blk.drewN (h : Blk w g t cs) (n : Nat) : Blk (w.drewN n) g t cs := h
theorem Blk.alloc (h : Blk w g t cs) (o : Obj) : Blk (w.alloc o) g t cs := (Below.heap_alloc w o g h.lt).trans h
theorem Blk.set_ (h : Blk w g t cs) (i : Nat) (u : Value) : Blk (w.setCell ⟨g, i, none⟩ u) g t (cs.setIfInBounds i u) := by
  unfold Blk at h ⊢
  simp [World.setCell, Array.getElem?_modify, h]
theorem Blk.far (h : Blk w g t cs) {p : Addr} (hp : g ≠ p.block) (u : Value) : Blk (w.setCell p u) g t cs := (Below.heap_setCell w p u g hp).trans h
theorem Blk.below {B : Nat} (h : Blk w g t cs) (hb : Below B w w') (hg : g < B) : Blk w' g t cs := (hb.block g hg).trans h
theorem Blk.grown {row : Option Nat} (h : Blk w g t cs) (hb : w.grownBy w' row) (hg : some g ≠ row) : Blk w' g t cs := (hb.block g h.lt hg).trans h
theorem Blk.own {base e cap : Nat} (h : Blk w g e cs) (hb : base ≤ g) (hm : cap ≤ maxLen) (hs : cs.size = cap) : w.ownsRow base e 1 (.slice (some ⟨g, 0, none⟩) cap cap) cap cs.toList :=
  ⟨by simp [hs], .inr ⟨g, cap, cs, rfl, hb, h, Nat.le_refl _, hm, by simp [hs], by rw [Nat.mul_one, List.take_of_length_le (by simp [hs])]⟩⟩
end

theorem fold_push (bs : List UInt8) : ∀ s : ByteArray, (bs.map fun b => (b.toNat : Int)).foldl (fun r n => r.push (UInt8.ofNat n.toNat)) s = ⟨s.data ++ bs.toArray⟩ := by
  induction bs with
  | nil => intro s; simp
  | cons b r ih =>
    intro s
    simp only [List.map_cons, List.foldl_cons, ih]
    have : (UInt8.ofNat ((b.toNat : Int)).toNat) = b := by simp
    rw [this]
    congr 1
    simp [ByteArray.push]
/-- 'string(b)'. -/
theorem run_string_of {P : Program} (w : World) (B : Nat) (src dst e : TypeId) (A : Option Addr) (n c : Nat) (bs : List UInt8)
    (hs : P.underlying src = some (.slice e)) (he : P.underlying e = some (.int .u8)) (hd : P.underlying dst = some .string) (h : Reads w B 1 A n (bv bs)) :
    (convert src dst (.slice A n c)).run P w = .ok (.string ⟨bs.toArray⟩) w := by
  rw [run_convert_bytes_string w src dst e A n c hs he hd]
  have hl : bs.length = n := by have := h.1; simp [bv] at this; exact this
  rcases Nat.eq_zero_or_pos n with h0 | h0
  · subst h0
    obtain rfl := List.eq_nil_of_length_eq_zero hl
    rcases A with _ | a
    · rfl
    · rw [run_bytesToString w a 0 c [] (by simpa using run_loadCells_list (P := P) w a [] (by simp))]
      rfl
  · obtain ⟨a, rfl, _, hc⟩ := h.2 h0
    have hm : (bv bs) = (bs.map fun b => (b.toNat : Int)).map (Value.int .u8) := by simp [bv]
    have := run_loadCells_list (P := P) w a (bv bs) hc
    rw [bv_length, hl] at this
    rw [run_bytesToString w a n c (bs.map fun b => (b.toNat : Int)) (by rw [this, hm]), fold_push]
    simp

theorem run_make_rowN {P : Program} (t e : TypeId) (i : TypeInfo) (z : Value) (ht : P.underlying t = some (.slice e)) (hi : P.info? e = some i) (hz : i.zero = some z)
    (kl kc : IntKind) (n c : Nat) (hnc : n ≤ c) (hbytes : i.bytes * c ≤ 281474976710656) (h63 : c ≤ 9223372036854775807) (w : World) :
    (Instr.makeSlice t (.int kl (n : Int)) (.int kc (c : Int))).run P w = .ok (.slice (some ⟨w.heap.size, 0, none⟩) n c) (w.alloc (.cells (madeCells z.cells (c * i.size)) e)) := by
  have hb : (i.bytes : Int) * (c : Int) ≤ 281474976710656 := by
    have h : ((i.bytes * c : Nat) : Int) ≤ 281474976710656 := by omega
    rwa [Int.natCast_mul] at h
  have hr := run_make (P := P) w t e i z ht hi hz kl kc n c (by omega) (by omega) hb (by omega)
  simp only [Int.toNat_natCast] at hr
  exact hr
theorem run_sizeOf_one {P : Program} (e : TypeId) (hs : (P.info? e).map (·.size) = some 1) (W : World) : (sizeOf e).run P W = .ok 1 W := by
  obtain ⟨i, hi, h1⟩ := Option.map_eq_some_iff.1 hs
  simp [sizeOf, typeInfo, hi, h1]
theorem run_sliceAt_from {P : Program} (t e : TypeId) (N : Nat) (ht : P.underlying t = some (.array N e)) (hs : (P.info? e).map (·.size) = some 1) (g o : Nat) (k : IntKind) (l : Int) (h0 : 0 ≤ l) (h1 : l < N) (W : World) :
    (Instr.sliceAt t (.pointer (some ⟨g, o, none⟩)) (some (.int k l)) none none).run P W = .ok (.slice (some ⟨g, o + l.toNat, none⟩) (N - l.toNat) (N - l.toNat)) W := by
  have hN : P.arrayLen t = N := by simp [Program.arrayLen, ht]
  have hE : P.elem t = e := by simp [Program.elem, ht]
  rw [run_sliceAt_array_l W t ⟨g, o, none⟩ (by rw [hN, hE]; exact ht) k l h0 (by omega), hN, hE, run_sizeOf_one e hs]
  simp [Result.andThen, slicedAt, at_add]
  omega
theorem quiet_add_left {P : Program} {f : FuncId} {args : Array Value} {w : World} {a n : Nat} {v : Value}
    (h : Calls P f args (w.drewN (a + n)) fun e w' => e = .returned v ∧ w.drewN (a + n) = w') :
    Calls P f args (w.drewN (a + n)) fun e w'' => e = .returned v ∧ ∃ m, w'' = w.drewN (a + m) :=
  h.mono fun _ _ ⟨he, hm⟩ => ⟨he, n, hm.symm⟩
theorem quiet_left {P : Program} {f : FuncId} {args : Array Value} {w : World} {n : Nat} {v : Value}
    (h : Calls P f args (w.drewN n) fun e w' => e = .returned v ∧ w.drewN n = w') : Calls P f args (w.drewN n) fun e w'' => e = .returned v ∧ ∃ m, w'' = w.drewN m :=
  h.mono fun _ _ ⟨he, hm⟩ => ⟨he, n, hm.symm⟩
theorem ofInt_i64 (a : Nat) (ha : a < 9223372036854775808) : (BitVec.ofInt 64 (a : Int)).toNat = a := by
  rw [BitVec.ofInt_natCast, BitVec.toNat_ofNat]; exact Nat.mod_eq_of_lt (by omega)
theorem i64_and_nat (a b : Nat) (ha : a < 9223372036854775808) (hb : b < 9223372036854775808) : bits .and .i64 (a : Int) (b : Int) = ((a &&& b : Nat) : Int) := by
  have hx : a &&& b < 2 ^ 63 := Nat.and_lt_two_pow _ (by omega)
  show IntKind.i64.wrap ((BitVec.ofInt 64 (a : Int) &&& BitVec.ofInt 64 (b : Int)).toNat : Int) = _
  rw [BitVec.toNat_and, ofInt_i64 a ha, ofInt_i64 b hb, IntKind.wrap_i64]
  omega
theorem i64_or_nat (a b : Nat) (ha : a < 9223372036854775808) (hb : b < 9223372036854775808) : bits .or .i64 (a : Int) (b : Int) = ((a ||| b : Nat) : Int) := by
  have hx : a ||| b < 2 ^ 63 := Nat.or_lt_two_pow (by omega) (by omega)
  show IntKind.i64.wrap ((BitVec.ofInt 64 (a : Int) ||| BitVec.ofInt 64 (b : Int)).toNat : Int) = _
  rw [BitVec.toNat_or, ofInt_i64 a ha, ofInt_i64 b hb, IntKind.wrap_i64]
  omega
theorem bt_get (s : ByteArray) (i : Nat) (h : i < s.size) : s.data.toList.getD i 0 = s[i] := by
  have h' : i < s.data.toList.length := by simpa using h
  rw [List.getD_eq_getElem?_getD, List.getElem?_eq_getElem h']
  rfl
theorem ret_int {k : IntKind} {a b : Int} (h : a = b) : Ending.returned (.int k a) = .returned (.int k b) := by rw [h]
theorem ret_bool {a b : Bool} (h : a = b) : Ending.returned (.bool a) = .returned (.bool b) := by rw [h]
theorem ret_str {a b : ByteArray} (h : a = b) : Ending.returned (.string a) = .returned (.string b) := by rw [h]
theorem hide {p : Prop} (h : p) : Hid p := h
theorem unhide {p : Prop} (h : Hid p) : p := h
end Go.Proofs.YtbbobffedgcbhaaGreatDoor
namespace Go.Proofs.YtbbobffedgcbhaaGreatDoor
open Go.RowKit
/- A region whose last operations stand in one forced order behind reads: the world under a name, with what is known of it. -/
theorem region_tail {P : Program} {id : Nat} {Q : Exit → Act → World → Prop} {a : Act} {w : World} {l : List Oper} (n : Nat) (hm : P.follows .mixedOrders = true) (hB : Region.lexTailB .any l.toArray n = true)
    (F : World → Prop) (hF : F w.drew) (h : ∀ W, F W → wpStill P l.toArray W (fun a' => wpList P l.toArray Q (l.drop n) a' W) (l.take n) a) : (Code.region id l.toArray true).wp P Q a w :=
  wp_region_still_tail n hm hB (h w.drew hF)
theorem region_still {P : Program} {id : Nat} {Q : Exit → Act → World → Prop} {a : Act} {w : World} {l : List Oper} (hm : P.follows .mixedOrders = true) (hB : Region.lexB .any l.toArray = true)
    (F : World → Prop) (hF : F w.drew) (h : ∀ W, F W → wpStill P l.toArray W (fun a' => Q .normal a' W) l a) : (Code.region id l.toArray true).wp P Q a w :=
  wp_region_still_lit hm hB (h w.drew hF)
section
variable {P : Program} (w : World)

theorem run_append_of_nil (base : Nat) (t ty e : TypeId) (i : TypeInfo) (size : Nat) (ht : P.underlying t = some (.slice e)) (hi : P.info? e = some i)
    (v : Value) (n : Nat) (xs : List Value) (hown : w.ownsRow base e size v n xs) (c : Nat) : (Builtin.append_ #[t, t] ty #[v, .slice none 0 c]).run P w = .ok v w := by
  rcases hown.2 with ⟨rfl, rfl⟩ | ⟨g, cap, cur, rfl, _, _, hnc, _⟩
  · simp [Builtin.append_, run_underlying ht, sizeOf, typeInfo, hi, Builtin.lenOf, Builtin.firstCells]
  · simp [Builtin.append_, run_underlying ht, sizeOf, typeInfo, hi, Builtin.lenOf, Builtin.firstCells, hnc, storeCells]

theorem run_append_any (base : Nat) (t ty e : TypeId) (i : TypeInfo) (z : Value) (size bytes : Nat) (ht : P.underlying t = some (.slice e)) (hi : P.info? e = some i) (hz : i.zero = some z)
    (hsize : i.size = size) (hby : i.bytes = bytes) (hzs : z.cells.size = size) (hsz : 0 < size)
    (v : Value) (n : Nat) (xs : List Value) (hown : w.ownsRow base e size v n xs)
    (B : Nat) (A : Option Addr) (m c : Nat) (news : List Value) (hr : Reads w B size A m news) (h1 : ∀ u ∈ news, u.oneCell' = true)
    (h63 : n + m ≤ maxLen) (hbytes : (n + m) * bytes ≤ 140737488355328) (hbase : base ≤ w.heap.size) :
    ∃ v' w', (Builtin.append_ #[t, t] ty #[v, .slice A m c]).run P w = .ok v' w' ∧ w'.ownsRow base e size v' (n + m) (xs ++ news) ∧ w.grownBy w' v.ownBlock ∧
      (v'.ownBlock = v.ownBlock ∨ v'.ownBlock = some w.heap.size) := by
  rcases A with _ | ad
  · have hm : m = 0 := by
      rcases Nat.eq_zero_or_pos m with h0 | h0
      · exact h0
      · obtain ⟨ad, h, _⟩ := hr.2 h0
        cases h
    subst hm
    have hn : news = [] := List.eq_nil_of_length_eq_zero (by simpa using hr.1)
    subst hn
    exact ⟨v, w, run_append_of_nil w base t ty e i size ht hi v n xs hown c, by simpa using hown, World.grownBy.refl w _, .inl rfl⟩
  · have hcells : ∀ j u, news[j]? = some u → w.cell? (ad.add j) = some u := by
      intro j u hu
      rcases Nat.eq_zero_or_pos m with h0 | h0
      · subst h0
        have hn : news = [] := List.eq_nil_of_length_eq_zero (by simpa using hr.1)
        subst hn
        simp at hu
      · obtain ⟨ad', h, _, hc⟩ := hr.2 h0
        injection h with h
        subst h
        exact hc j u hu
    obtain ⟨v', w', hrun, h2, h3, _, h5⟩ := run_append_own_at (P := P) w base t ty e i z size bytes ht hi hz hsize hby hzs hsz v n xs hown ad m c news hr.1 hcells h1 h63 hbytes hbase
    exact ⟨v', w', hrun, h2, h3, h5⟩

theorem wp_append_any {o : Oper} {a : Act} {K : Act → World → Prop} {Q : Exit → Act → World → Prop} (s x : Operand) (t : TypeId)
    (ho : o.op = .call { callee := .builtin .append, args := #[s, x], argTypes := #[t, t] })
    (base : Nat) (e : TypeId) (i : TypeInfo) (z : Value) (size bytes : Nat) (ht : P.underlying t = some (.slice e)) (hi : P.info? e = some i) (hz : i.zero = some z)
    (hsize : i.size = size) (hby : i.bytes = bytes) (hzs : z.cells.size = size) (hsz : 0 < size)
    (v : Value) (n : Nat) (xs : List Value) (hs : a.eval s = v) (hown : w.ownsRow base e size v n xs)
    (B : Nat) (A : Option Addr) (m c : Nat) (news : List Value) (hx : a.eval x = .slice A m c) (hr : Reads w B size A m news) (h1 : ∀ u ∈ news, u.oneCell' = true)
    (h63 : n + m ≤ maxLen) (hbytes : (n + m) * bytes ≤ 140737488355328) (hbase : base ≤ w.heap.size)
    (h : ∀ v' w', w'.ownsRow base e size v' (n + m) (xs ++ news) → w.grownBy w' v.ownBlock → (v'.ownBlock = v.ownBlock ∨ v'.ownBlock = some w.heap.size) → K (a.put o.dst v') w') : o.wp P a w K Q := by
  obtain ⟨v', w', hrun, h2, h3, h4⟩ := run_append_any (P := P) w base t o.type e i z size bytes ht hi hz hsize hby hzs hsz v n xs hown B A m c news hr h1 h63 hbytes hbase
  unfold Oper.wp execOp
  simp only [ho, resolve, invoke, builtin, Sem.run_bind, Sem.run_pure, Result.andThen_ok, List.map_toArray, List.map_cons, List.map_nil, hs, hx, hrun]
  exact h v' w' h2 h3 h4

theorem wpList_append_any {ops : Array Oper} {rest : List Oper} {o : Oper} {a : Act} {Q : Exit → Act → World → Prop} (hgd : o.guard = none) (s x : Operand) (t : TypeId)
    (ho : o.op = .call { callee := .builtin .append, args := #[s, x], argTypes := #[t, t] })
    (base : Nat) (e : TypeId) (i : TypeInfo) (z : Value) (size bytes : Nat) (ht : P.underlying t = some (.slice e)) (hi : P.info? e = some i) (hz : i.zero = some z)
    (hsize : i.size = size) (hby : i.bytes = bytes) (hzs : z.cells.size = size) (hsz : 0 < size)
    (v : Value) (n : Nat) (xs : List Value) (hs : a.eval s = v) (hown : w.ownsRow base e size v n xs)
    (B : Nat) (A : Option Addr) (m c : Nat) (news : List Value) (hx : a.eval x = .slice A m c) (hr : Reads w B size A m news) (h1 : ∀ u ∈ news, u.oneCell' = true)
    (h63 : n + m ≤ maxLen) (hbytes : (n + m) * bytes ≤ 140737488355328) (hbase : base ≤ w.heap.size)
    (h : ∀ v' w', w'.ownsRow base e size v' (n + m) (xs ++ news) → w.grownBy w' v.ownBlock → (v'.ownBlock = v.ownBlock ∨ v'.ownBlock = some w.heap.size) → wpList P ops Q rest (a.put o.dst v') w') : wpList P ops Q (o :: rest) a w :=
  wpList_plain hgd fun _ hK => wp_append_any w s x t ho base e i z size bytes ht hi hz hsize hby hzs hsz v n xs hs hown B A m c news hx hr h1 h63 hbytes hbase fun v' w' h2 h3 h4 => hK _ _ (h v' w' h2 h3 h4)

theorem step_append_any {ops : Array Oper} {o : Oper} {a : Act} {K : Act → World → Prop} {Q : Exit → Act → World → Prop} {E : Prop} (hgd : o.guard = none) (s x : Operand) (t : TypeId)
    (ho : o.op = .call { callee := .builtin .append, args := #[s, x], argTypes := #[t, t] })
    (base : Nat) (e : TypeId) (i : TypeInfo) (z : Value) (size bytes : Nat) (ht : P.underlying t = some (.slice e)) (hi : P.info? e = some i) (hz : i.zero = some z)
    (hsize : i.size = size) (hby : i.bytes = bytes) (hzs : z.cells.size = size) (hsz : 0 < size)
    (v : Value) (n : Nat) (xs : List Value) (hs : a.eval s = v) (hown : w.ownsRow base e size v n xs)
    (B : Nat) (A : Option Addr) (m c : Nat) (news : List Value) (hx : a.eval x = .slice A m c) (hr : Reads w B size A m news) (h1 : ∀ u ∈ news, u.oneCell' = true)
    (h63 : n + m ≤ maxLen) (hbytes : (n + m) * bytes ≤ 140737488355328) (hbase : base ≤ w.heap.size)
    (h : ∀ v' w', w'.ownsRow base e size v' (n + m) (xs ++ news) → w.grownBy w' v.ownBlock → (v'.ownBlock = v.ownBlock ∨ v'.ownBlock = some w.heap.size) → K (a.put o.dst v') w') :
    if Region.wanted o (yielded ops a.tmps) = true then Oper.wp P o a w K Q else E := by
  have hw : Region.wanted o (yielded ops a.tmps) = true := by simp [Region.wanted, hgd]
  rw [if_pos hw]
  exact wp_append_any w s x t ho base e i z size bytes ht hi hz hsize hby hzs hsz v n xs hs hown B A m c news hx hr h1 h63 hbytes hbase h
end
end Go.Proofs.YtbbobffedgcbhaaGreatDoor
namespace Go.Proofs.YtbbobffedgcbhaaGreatDoor
open Go.RowKit
set_option linter.unusedVariables false

theorem bcell {W w1 : World} (hb : Below W.heap.size W w1) : (∀ b o, b < W.heap.size → w1.cell? ⟨b, o, none⟩ = W.cell? ⟨b, o, none⟩) ∧ (∀ b o, b < W.heap.size → w1.frozen? ⟨b, o, none⟩ = W.frozen? ⟨b, o, none⟩) :=
  ⟨fun b o h => hb.cell (p := ⟨b, o, none⟩) h, fun b o h => hb.frozen (p := ⟨b, o, none⟩) h⟩
theorem own_slice {w : World} {base : Nat} {t : TypeId} {size n : Nat} {v : Value} {xs : List Value} (h : w.ownsRow base t size v n xs) : ∃ A c, v = .slice A n c := by
  rcases h.2 with ⟨rfl, rfl⟩ | ⟨g, cap, cur, rfl, _⟩
  · exact ⟨none, 0, rfl⟩
  · exact ⟨_, _, rfl⟩
theorem below_more {B : Nat} {a b c : World} (h : Below B a b) (hB : B ≤ a.heap.size) (k : Below b.heap.size b c) : Below B a c := h.trans (k.mono (Nat.le_trans hB h.size))
theorem Blk.three {w : World} {g : Nat} {t : TypeId} {x y z : Value} (h : Blk w g t #[x, y, z]) :
    w.cell? ⟨g, 0, none⟩ = some x ∧ w.cell? ⟨g, 1, none⟩ = some y ∧ w.cell? ⟨g, 2, none⟩ = some z ∧ w.frozen? ⟨g, 0, none⟩ = false ∧ w.frozen? ⟨g, 1, none⟩ = false ∧ w.frozen? ⟨g, 2, none⟩ = false :=
  ⟨h.cell 0, h.cell 1, h.cell 2, h.frozen 0, h.frozen 1, h.frozen 2⟩
theorem Blk.two {w : World} {g : Nat} {t : TypeId} {x y : Value} (h : Blk w g t #[x, y]) :
    w.cell? ⟨g, 0, none⟩ = some x ∧ w.cell? ⟨g, 1, none⟩ = some y ∧ w.frozen? ⟨g, 0, none⟩ = false ∧ w.frozen? ⟨g, 1, none⟩ = false :=
  ⟨h.cell 0, h.cell 1, h.frozen 0, h.frozen 1⟩
theorem Blk.five {w : World} {g : Nat} {t : TypeId} {x y z u v : Value} (h : Blk w g t #[x, y, z, u, v]) :
    (w.cell? ⟨g, 0, none⟩ = some x ∧ w.cell? ⟨g, 1, none⟩ = some y ∧ w.cell? ⟨g, 2, none⟩ = some z ∧ w.cell? ⟨g, 3, none⟩ = some u ∧ w.cell? ⟨g, 4, none⟩ = some v) ∧
    w.frozen? ⟨g, 0, none⟩ = false ∧ w.frozen? ⟨g, 1, none⟩ = false ∧ w.frozen? ⟨g, 2, none⟩ = false ∧ w.frozen? ⟨g, 3, none⟩ = false ∧ w.frozen? ⟨g, 4, none⟩ = false :=
  ⟨⟨h.cell 0, h.cell 1, h.cell 2, h.cell 3, h.cell 4⟩, h.frozen 0, h.frozen 1, h.frozen 2, h.frozen 3, h.frozen 4⟩
theorem own_more {w : World} {base base' : Nat} {t : TypeId} {size n : Nat} {v : Value} {xs : List Value} (h : w.ownsRow base t size v n xs) (hb : base' ≤ base) : w.ownsRow base' t size v n xs := by
  refine ⟨h.1, ?_⟩
  rcases h.2 with h0 | ⟨g, cap, cur, e, hg, r⟩
  · exact .inl h0
  · exact .inr ⟨g, cap, cur, e, Nat.le_trans hb hg, r⟩
theorem own_keep {w w' : World} {base : Nat} {t : TypeId} {size n : Nat} {v : Value} {xs : List Value} (h : w.ownsRow base t size v n xs) (hk : ∀ k, base ≤ k → k < w.heap.size → w'.heap[k]? = w.heap[k]?) : w'.ownsRow base t size v n xs := by
  refine ⟨h.1, ?_⟩
  rcases h.2 with h0 | ⟨g, cap, cur, e, hg, hh, r⟩
  · exact .inl h0
  · exact .inr ⟨g, cap, cur, e, hg, (hk g hg (Blk.lt hh)).trans hh, r⟩
theorem own_far {w : World} {base : Nat} {t : TypeId} {size n : Nat} {v : Value} {xs : List Value} (h : w.ownsRow base t size v n xs) {p : Addr} (hp : p.block < base) (u : Value) : (w.setCell p u).ownsRow base t size v n xs :=
  own_keep h fun k hk _ => Below.heap_setCell w p u k (by omega)
theorem own_below {w w' : World} {base : Nat} {t : TypeId} {size n : Nat} {v : Value} {xs : List Value} (h : w.ownsRow base t size v n xs) (hb : Below w.heap.size w w') : w'.ownsRow base t size v n xs :=
  own_keep h fun k _ hk => hb.block k hk
theorem Blk.ne_ {w : World} {g : Nat} {t : TypeId} {cs : Array Value} {g' : Nat} {t' : TypeId} {cs' : Array Value} (h : Blk w g t cs) (h' : Blk w g' t' cs') (hne : t ≠ t') : g ≠ g' := by
  rintro rfl
  unfold Blk at h h'
  rw [h] at h'
  injection h' with h'
  injection h' with _ ht
  exact hne ht
theorem own_blk_ne {w : World} {g : Nat} {t : TypeId} {cs : Array Value} {base : Nat} {e : TypeId} {size n : Nat} {v : Value} {xs : List Value} (h : w.ownsRow base e size v n xs) (hg : Blk w g t cs) (hne : e ≠ t) : v.ownBlock ≠ some g := by
  rcases h.2 with ⟨rfl, _⟩ | ⟨g', cap, cur, rfl, _, hh, _⟩
  · simp [Value.ownBlock]
  · intro he
    have : g' = g := by simpa [Value.ownBlock] using he
    subst this
    exact Blk.ne_ (t := e) hh hg hne rfl
theorem own_set_blk {w : World} {base : Nat} {e : TypeId} {size n : Nat} {v : Value} {xs : List Value} (h : w.ownsRow base e size v n xs) {p : Addr} {t : TypeId} {cs : Array Value} (hg : Blk w p.block t cs) (hne : e ≠ t) (u : Value) : (w.setCell p u).ownsRow base e size v n xs := by
  have hb := own_blk_ne h hg hne
  refine ⟨h.1, ?_⟩
  rcases h.2 with h0 | ⟨g, cap, cur, e', hg', hh, r⟩
  · exact .inl h0
  · refine .inr ⟨g, cap, cur, e', hg', (Below.heap_setCell w p u g ?_).trans hh, r⟩
    rintro rfl
    exact hb (by rw [e']; rfl)
theorem add_zero_ (a : Addr) : a.add 0 = a := by unfold Addr.add; simp
theorem map_zero_ (A : Option Addr) : A.map (fun x => x.add 0) = A := by cases A <;> simp [add_zero_]
theorem slice_ht {P : Program} {t e : TypeId} (ht : P.underlying t = some (.slice e)) : P.underlying t = some (.slice (P.elem t)) := by
  have : P.elem t = e := by simp [Program.elem, ht]
  rw [this]; exact ht
theorem run_slice_to {P : Program} (t e : TypeId) (ht : P.underlying t = some (.slice e)) (hs : (P.info? e).map (·.size) = some 1) (A : Option Addr) (len cap : Nat) (k : IntKind) (h : Int) (h0 : 0 ≤ h) (h1 : h ≤ cap) (W : World) :
    (Instr.slice t (.slice A len cap) none (some (.int k h)) none).run P W = .ok (.slice A h.toNat cap) W := by
  have hE : P.elem t = e := by simp [Program.elem, ht]
  rw [run_slice_h W t A len cap (slice_ht ht) k h h0 h1, hE, run_sizeOf_one e hs]
  simp [Result.andThen, sliced, map_zero_]
theorem run_slice_from {P : Program} (t e : TypeId) (ht : P.underlying t = some (.slice e)) (hs : (P.info? e).map (·.size) = some 1) (A : Option Addr) (len cap : Nat) (k : IntKind) (l : Int) (h0 : 0 ≤ l) (h1 : l ≤ len) (W : World) :
    (Instr.slice t (.slice A len cap) (some (.int k l)) none none).run P W = .ok (.slice (if cap = l.toNat then A else A.map (·.add l.toNat)) (len - l.toNat) (cap - l.toNat)) W := by
  have hE : P.elem t = e := by simp [Program.elem, ht]
  rw [run_slice_l W t A len cap (slice_ht ht) k l h0 h1, hE, run_sizeOf_one e hs]
  simp [Result.andThen, sliced]
theorem Reads.take {w : World} {B n : Nat} {A : Option Addr} {xs : List Value} (h : Reads w B 1 A n xs) {q : Nat} (hq : q ≤ n) : Reads w B 1 A q (xs.take q) := by
  refine ⟨by rw [List.length_take, h.1]; omega, fun h0 => ?_⟩
  obtain ⟨ad, e, hb, hc⟩ := h.2 (by omega)
  refine ⟨ad, e, hb, fun j u hj => hc j u ?_⟩
  rw [List.getElem?_take] at hj
  split at hj
  · exact hj
  · cases hj
theorem bv_take (l : List UInt8) (k : Nat) : bv (l.take k) = (bv l).take k := by simp [bv, List.map_take]
theorem bv_drop (l : List UInt8) (k : Nat) : bv (l.drop k) = (bv l).drop k := by simp [bv, List.map_drop]
end Go.Proofs.YtbbobffedgcbhaaGreatDoor
namespace Go.Proofs.YtbbobffedgcbhaaGreatDoor
open Go.RowKit
set_option linter.unusedVariables false

theorem info5 : (Tryz.prog.info? 5).map (fun i => (i.zero, i.size, i.bytes)) = some (some (.int .u8 0), 1, 1) := by kernel_rfl
theorem made_bytes (n : Nat) : (madeCells (Value.int .u8 0).cells (n * 1)).toList = bv (List.replicate n 0) := by
  apply List.ext_getElem?
  intro j
  by_cases h : j < n
  · simp [madeCells, bv, h, Value.cells, Nat.mod_one]
  · simp [madeCells, bv, h]
theorem be_stepV (m j n : Nat) (h : j < m) : ((bv (List.replicate (m - j) 0 ++ be j n)).toArray.setIfInBounds (m - 1 - j) (.int .u8 ((n / 256 ^ j % 256 : Nat) : Int))) = (bv (List.replicate (m - (j + 1)) 0 ++ be (j + 1) n)).toArray := by
  rw [← be_step m j n h]
  simp [bv, List.map_set]

set_option maxHeartbeats 400000 in
theorem put_no (n : Int) (m : Int) (w : World) (h : m < 1 ∨ 8 < m) :
    Calls Tryz.prog 68 #[.int .u64 n, .int .i64 m] w fun e w' => e = .returned (.slice none 0 0) ∧ w = w' := by
  rcases h with h | h
  · go_enter Tryz.func68, Tryz.ntmps68
    go_wp2
    go_ret
    exact ⟨rfl, rfl⟩
  · have h' : ¬ m < 1 := by omega
    go_enter Tryz.func68, Tryz.ntmps68
    go_wp2
    go_ret
    exact ⟨rfl, rfl⟩
set_option maxHeartbeats 400000 in
set_option maxRecDepth 100000 in
theorem put_yes (n : Nat) (m : Nat) (w : World) (h1 : 1 ≤ m) (h2 : m ≤ 8) (hn : n < 18446744073709551616) :
    Calls Tryz.prog 68 #[.int .u64 n, .int .i64 m] w fun e w' => ∃ v, e = .returned v ∧ w'.ownsRow w.heap.size 5 1 v m (bv (be m n)) ∧ Below w.heap.size w w' := by
  obtain ⟨i0, hi, hz0, hz1, hz2⟩ := info_parts info5
  have hmk := fun W => run_make_rowN (P := Tryz.prog) 22 5 i0 _ Tryz.underlying22 hi hz0 .i64 .i64 m m (Nat.le_refl _) (by rw [hz2]; omega) (by omega) W
  have hblk := Blk.new w 127 (bv (List.replicate 8 0 ++ be 0 n)).toArray
  have hbel := (Below.refl w.heap.size w).alloc (Nat.le_refl _) (.cells (bv (List.replicate 8 0 ++ be 0 n)).toArray 127)
  go_enter Tryz.func68, Tryz.ntmps68
  go_wp2
  go_loopw [6, 14] (fun _ i wr => ∃ k : Nat, k ≤ 8 ∧ i = .int .i64 k ∧ Blk wr w.heap.size 127 (bv (List.replicate (8 - k) 0 ++ be k n)).toArray ∧ Below w.heap.size w wr ∧ w.heap.size < wr.heap.size) (fun _ i _ => 8 - (intOf i).toNat)
  case atStart => exact ⟨0, by omega, rfl, hblk, hbel, by simp⟩
  case round =>
    obtain ⟨k, hk, rfl, hb, hbw, hlt0⟩ := hrel
    by_cases hlt : k < 8
    · have hz := hb.frozen (8 - 1 - k)
      have hcl : 8 - 1 - k < (bv (List.replicate (8 - k) 0 ++ be k n)).toArray.size := by simp [bv, be_length]; omega
      have hc := hb.cell (8 - 1 - k)
      rw [Array.getElem?_eq_getElem hcl] at hc
      clear hmk hblk hbel
      go_wp2
      go_roundw
      case rel =>
        have e1 : (n : Int) / 2 ^ (8 * k) % 256 = ((n / 256 ^ k % 256 : Nat) : Int) := by
          rw [show (2 : Int) ^ (8 * k) = ((256 ^ k : Nat) : Int) from by rw [Int.pow_mul]; simp]
          simp
        refine ⟨k + 1, by omega, by go_num, ?_, hbw.setCell (Nat.le_refl _) _, by simpa [World.setCell] using hlt0⟩
        rw [e1]
        have := hb.set_ (7 - k) (.int .u8 ((n / 256 ^ k % 256 : Nat) : Int))
        have h7 : 7 - k = 8 - 1 - k := by omega
        rw [h7] at this ⊢
        rw [be_stepV 8 k n hlt] at this
        exact this
      case measure => simp [intOf]; omega
    · obtain rfl : k = 8 := by omega
      clear hblk hbel
      simp only [Nat.sub_self, List.replicate_zero, List.nil_append] at hb
      have hd := be_drop (8 - m) m n
      rw [show 8 - m + m = 8 from by omega] at hd
      have HD := hide hd
      clear hd
      have hlen : (bv (be 8 n)).length = 8 := by simp [bv, be_length]
      have HL := hide hlen
      clear hlen
      have hsl : ∀ W, (Instr.sliceAt 127 (.pointer (some ⟨w.heap.size, 0, none⟩)) (some (.int .i64 (8 - (m : Int)))) none none).run Tryz.prog W = .ok (.slice (some ⟨w.heap.size, 8 - m, none⟩) m m) W := fun W => by
        rw [run_sliceAt_from 127 5 8 Tryz.underlying127 (by rw [hi]; simp [hz1]) w.heap.size 0 .i64 (8 - m) (by omega) (by omega) W, show (8 - (m : Int)).toNat = 8 - m from by omega, show 8 - (8 - m) = m from by omega, Nat.zero_add]
      have hnew := Blk.new wr 5 (madeCells #[Value.int .u8 0] m)
      have hb2 := hb.alloc (.cells (madeCells #[Value.int .u8 0] m) 5)
      have hbw2 := hbw.alloc (by omega) (.cells (madeCells #[Value.int .u8 0] m) 5)
      have hB := hide (show Below w.heap.size w (wr.alloc (.cells (madeCells #[Value.int .u8 0] m) 5)) from hbw2)
      go_wp2_with (with_reducible refine wpList_copy_splice rfl (.tmp 28) (.tmp 31) 22 22 rfl 5 Tryz.underlying22 (by rw [hi]; simp [hz1]) (some ⟨wr.heap.size, 0, none⟩) (some ⟨w.heap.size, 8 - m, none⟩) m m m m rfl rfl wr.heap.size 0 (madeCells #[Value.int .u8 0] m).toList 5 ?hg (bv (be m n)) ?hn ?hp ?hf (bv_one _) w.heap.size w ?hb ?hB ?_)
      case hg => rw [Array.toArray_toList]; exact hnew
      case hn => simp [bv, be_length]
      case hp =>
        intro _ j v hj
        rw [hb.cell, ← hj, ← HD.out]
        simp [bv]
      case hf => simp [bv, be_length, size_madeCells]
      case hb => exact hB.out
      case hB => omega
      intro w' hc' hbel'
      clear hb2 hnew hb
      go_wp2
      go_ret
      refine ⟨_, rfl, ?_, hbel'⟩
      have hsp : splice (madeCells #[Value.int .u8 0] m).toList 0 (bv (be m n)) = bv (be m n) := by
        have : (madeCells #[Value.int .u8 0] m).toList.drop (0 + (bv (be m n)).length) = [] := List.drop_eq_nil_of_le (by rw [Array.length_toList, size_madeCells, bv_length, be_length]; omega)
        unfold splice
        rw [this]
        simp
      have := hc'.out
      rw [hsp] at this
      have := Blk.own (w := w') (g := wr.heap.size) (e := 5) (cs := (bv (be m n)).toArray) (base := w.heap.size) (cap := m) this (by omega) (by unfold maxLen; omega) (by simp [bv, be_length])
      simpa using this
end Go.Proofs.YtbbobffedgcbhaaGreatDoor
namespace Go.Proofs.YtbbobffedgcbhaaGreatDoor
open Go.RowKit
set_option linter.unusedVariables false

set_option maxHeartbeats 400000 in
theorem get_no (A : Option Addr) (n c : Nat) (w : World) (h : n < 1 ∨ 8 < n) :
    Calls Tryz.prog 76 #[.slice A n c] w fun e w' => e = .returned (.tuple #[.int .u64 0, .int .i64 2]) ∧ w = w' := by
  rcases h with h | h
  · go_enter Tryz.func76, Tryz.ntmps76
    go_wp2
    go_ret2
    exact ⟨rfl, rfl⟩
  · have h' : ¬ n < 1 := by omega
    go_enter Tryz.func76, Tryz.ntmps76
    go_wp2
    go_ret2
    exact ⟨rfl, rfl⟩

theorem or_shift (a b : Nat) (ha : a < 72057594037927936) (hb : b < 256) : bits .or .u64 ((a * 256 : Nat) : Int) (b : Int) = ((a * 256 + b : Nat) : Int) := by
  rw [u64_or_nat _ _ (by omega) (by omega), nat_join 8 (a * 256) b (by omega) (by omega)]

set_option maxHeartbeats 400000 in
theorem get_yes (A : Option Addr) (n c : Nat) (bs : List UInt8) (w : World) (hn : 1 ≤ n) (hn2 : n ≤ 8) (hr : Rd w A n bs) :
    Calls Tryz.prog 76 #[.slice A n c] w fun e w' => e = .returned (.tuple #[.int .u64 (numB bs), .int .i64 0]) ∧ w = w' := by
  have hl := hide hr.len
  obtain ⟨ad, hA, _, _⟩ := hr.get (k := 0) (by omega)
  subst hA
  go_enter Tryz.func76, Tryz.ntmps76
  go_wp2
  go_loop [4, 5, 16] (fun a _ i => ∃ k : Nat, k ≤ n ∧ i = .int .i64 k ∧ a = .int .u64 (numB (bs.take k))) (fun _ _ i => n - (intOf i).toNat)
  case atStart => exact ⟨0, Nat.zero_le _, rfl, rfl⟩
  case round =>
    obtain ⟨k, hk, rfl, rfl⟩ := hrel
    by_cases hlt : k < n
    · obtain ⟨ad', hA, _, hcell⟩ := hr.get hlt
      cases hA
      have h1 := numB_lt7 (bs.take k) (by simp; omega)
      have h2 := (bs.getD k 0).toNat_lt
      have H := hide (numB_take bs k (by have := hl.out; omega))
      generalize numB (bs.take k) = x at *
      generalize (bs.getD k 0).toNat = y at *
      have H2 := hide (or_shift x y h1 h2)
      go_wp2
      go_round
      case rel => 
        refine ⟨k + 1, by omega, by go_num, ?_⟩
        rw [H.out, ← H2.out]; simp
      case measure => simp [intOf]; omega
    · go_wp2
      go_ret2
      obtain rfl : k = n := by omega
      rw [List.take_of_length_le (by have := hl.out; omega)]
      exact ⟨rfl, rfl⟩
end Go.Proofs.YtbbobffedgcbhaaGreatDoor
namespace Go.Proofs.YtbbobffedgcbhaaGreatDoor
open Go.RowKit
set_option linter.unusedVariables false

theorem sizeU8 : (Tryz.prog.info? 5).map (·.size) = some 1 := by kernel_rfl
theorem infoU8 : (Tryz.prog.info? 5).map (fun i => (i.zero, i.size, i.bytes)) = some (some (.int .u8 0), 1, 1) := by kernel_rfl

set_option maxHeartbeats 400000 in
theorem sclone_any (ad : Addr) (n c : Nat) (bs : List UInt8) (w : World) (hr : Rd w (some ad) n bs) (hn : n ≤ 1000000) :
    Calls Tryz.prog 64 #[.slice (some ad) n c] w fun e w' => ∃ v, e = .returned v ∧ w'.ownsRow w.heap.size 5 1 v n (bv bs) ∧ Below w.heap.size w w' := by
  obtain ⟨i0, hi, hz0, hz1, hz2⟩ := info_parts infoU8
  have hnil := fun (W : World) => Lib.run_eql_slice_nil (P := Tryz.prog) W 22 5 (some ad) n c 0 0 Tryz.underlying22
  have hown0 : (w.alloc (.cells #[] 5)).ownsRow w.heap.size 5 1 (.slice (some ⟨w.heap.size, 0, none⟩) 0 0) 0 [] :=
    Blk.own (cap := 0) (Blk.new w 5 #[]) (Nat.le_refl _) (Nat.zero_le _) rfl
  have hb0 := (Below.refl w.heap.size w).alloc (Nat.le_refl _) (.cells #[] 5)
  have hr0 := hr.alloc (Nat.le_refl _) (.cells #[] 5)
  go_enter Tryz.func64, Tryz.ntmps64
  go_wp2_with (at_builtin; (refine wpList_append_any _ rfl (.tmp 5) (.tmp 6) 22 rfl w.heap.size 5 i0 _ 1 1 Tryz.underlying22 hi hz0 hz1 hz2 rfl (by omega) (.slice (some ⟨w.heap.size, 0, none⟩) 0 0) 0 [] rfl hown0 w.heap.size (some ad) n c (bv bs) rfl hr0 (bv_one bs) ?c1 ?c2 ?c3 ?_))
  case c1 => unfold maxLen; omega
  case c2 => omega
  case c3 => simp
  intro v1 w1 hown1 hg1 hat1
  go_wp2
  go_ret
  refine ⟨v1, rfl, by simpa using hown1, hb0.grown hg1 (by simp) (fun g hg => by simp [Value.ownBlock] at hg; omega)⟩
end Go.Proofs.YtbbobffedgcbhaaGreatDoor
namespace Go.Proofs.YtbbobffedgcbhaaGreatDoor
open Go
set_option linter.unusedVariables false
section
variable {P : Program} {ops : Array Oper} {Q : Exit → Act → World → Prop} {md : Region.Mode} {S : World → Prop} {L : Nat}
def wpAnyM (P : Program) (md : Region.Mode) (ops : Array Oper) (Q : Exit → Act → World → Prop) (S : World → Prop) (L : Nat) : Nat → Array Bool → Act → World → Prop
  | 0, listed, a, w => Region.ready md ops listed = [] ∧ Q .normal a w
  | fuel + 1, listed, a, w =>
    (Region.ready md ops listed = [] → Q .normal a w) ∧
    ∀ i ∈ Region.ready md ops listed, wpOp P ops Q i (fun a' w' => (i ≠ L → S w') ∧ wpAnyM P md ops Q S L fuel (listed.setIfInBounds i true) a' w') a w
theorem wpAny_of_M : ∀ (fuel : Nat) (listed : Array Bool) (a : Act) (w : World), wpAnyM P md ops Q S L fuel listed a w → wpAny P md ops Q fuel listed a w
  | 0, _, _, _, h => h
  | fuel + 1, _, _, _, h => ⟨h.1, fun i hi => wpOp_mono (fun a' w' h' => wpAny_of_M fuel _ a' w' h'.2) (h.2 i hi)⟩
/-- Does k wait for i? -/
def anc (md : Region.Mode) (ops : Array Oper) (i : Nat) : Nat → Nat → Bool
  | 0, _ => false
  | f + 1, k => match ops[k]? with
    | none => false
    | some o => o.after.any fun e => Region.binds md e && (e.on == i || anc md ops i f e.on)
/-- Whatever has come up has come up behind what it waits for. -/
def Closed (md : Region.Mode) (ops : Array Oper) (listed : Array Bool) : Prop := ∀ k o, ops[k]? = some o → listed.getD k false = true → ∀ e ∈ o.after, Region.binds md e = true → listed.getD e.on false = true
theorem anc_spec {listed : Array Bool} {i : Nat} (hc : Closed md ops listed) : ∀ (f k : Nat) o, ops[k]? = some o → (∀ e ∈ o.after, Region.binds md e = true → listed.getD e.on false = true) → anc md ops i f k = true → listed.getD i false = true
  | 0, k, o, hk, hd, h => by simp [anc] at h
  | f + 1, k, o, hk, hd, h => by
    simp only [anc, hk] at h
    rw [Array.any_eq_true'] at h
    obtain ⟨e, he, h⟩ := h
    simp only [Bool.and_eq_true, Bool.or_eq_true, beq_iff_eq] at h
    obtain ⟨hb, h⟩ := h
    have h1 := hd e he hb
    rcases h with h | h
    · rw [← h]; exact h1
    · have hs : ∃ o', ops[e.on]? = some o' := by
        cases hx : ops[e.on]? with
        | none =>
          cases f with
          | zero => simp [anc] at h
          | succ f => simp [anc, hx] at h
        | some o' => exact ⟨o', rfl⟩
      obtain ⟨o', ho'⟩ := hs
      exact anc_spec hc f e.on o' ho' (hc e.on o' ho' h1) h
theorem Closed.set {listed : Array Bool} {j : Nat} (hc : Closed md ops listed) (hj : j ∈ Region.ready md ops listed) : Closed md ops (listed.setIfInBounds j true) := by
  obtain ⟨h0, oj, hoj, hall⟩ := mem_ready.1 hj
  intro k o hk hl e he hb
  by_cases hkj : k = j
  · subst hkj
    rw [hoj] at hk; injection hk with hk; subst hk
    exact getD_set_true (hall e he hb)
  · rw [getD_set_ne false (Ne.symm hkj)] at hl
    exact getD_set_true (hc k o hk hl e he hb)
theorem not_both {listed : Array Bool} {i : Nat} (h : listed.getD i true = false) (h' : listed.getD i false = true) : False := by
  rcases Nat.lt_or_ge i listed.size with hl | hl
  · simp [hl] at h h'; rw [h] at h'; cases h'
  · simp [Array.getElem?_eq_none hl] at h
theorem wpAnyM_first {i : Nat} {oi : Oper} {v : Value} {f0 : Nat} (hi : ops[i]? = some oi) (hiL : i ≠ L) (hanc : anc md ops i f0 L = true) (hsel : ∀ (j : Nat) (o : Oper) cs b, ops[j]? = some o → o.op ≠ .select cs b)
    (hQ : ∀ c a w, Q (.panic c) (a.put oi.dst v) w → Q (.panic c) a w) :
    ∀ (fuel : Nat) (listed : Array Bool) (a : Act) (w : World), Closed md ops listed →
      (∀ j oj, ops[j]? = some oj → j ≠ i → listed.getD j true = false → (∀ e ∈ oj.after, Region.binds md e = true → e.on ≠ i) → oi.apart ops oj = true) →
      i ∈ Region.ready md ops listed → YieldsIf P ops S oi v a → S w →
      wpAnyM P md ops Q S L fuel (listed.setIfInBounds i true) (a.put oi.dst v) w → wpAnyM P md ops Q S L (fuel + 1) listed a w := by
  intro fuel
  induction fuel with
  | zero =>
    intro listed a w _ _ hr hy hS H
    refine ⟨fun h => (by rw [h] at hr; cases hr), fun j hj => ?_⟩
    by_cases hji : j = i
    · subst hji; exact hy.wpOp hi hS ⟨fun _ => hS, H⟩
    · have := ready_mono hj hji
      rw [H.1] at this
      cases this
  | succ fuel ih =>
    intro listed a w hcl hfree hr hy hS H
    refine ⟨fun h => (by rw [h] at hr; cases hr), fun j hj => ?_⟩
    by_cases hji : j = i
    · subst hji; exact hy.wpOp hi hS ⟨fun _ => hS, H⟩
    · have h1 := H.2 j (ready_mono hj hji)
      obtain ⟨hjun, oj, hoj, hall⟩ := mem_ready.1 hj
      have hjL : j ≠ L := by
        rintro rfl
        exact not_both (mem_ready.1 hr).1 (anc_spec hcl f0 j oj hoj hall hanc)
      have hnot : ∀ e ∈ oj.after, Region.binds md e = true → e.on ≠ i := fun e he hb heq => by
        have h1 := hall e he hb
        rw [heq] at h1
        exact not_both (mem_ready.1 hr).1 h1
      have h2 := wpOp_putIf hoj (hfree j oj hoj hji hjun hnot) (fun cs b => hsel i oi cs b hi) (fun cs b => hsel j oj cs b hoj) hQ hy h1
      have hfree' : ∀ k ok, ops[k]? = some ok → k ≠ i → (listed.setIfInBounds j true).getD k true = false →
          (∀ e ∈ ok.after, Region.binds md e = true → e.on ≠ i) → oi.apart ops ok = true := fun k ok hk hki hun hno => by
        refine hfree k ok hk hki ?_ hno
        by_cases hjk : j = k
        · subst hjk; exact hjun
        · rw [getD_set_ne true hjk] at hun; exact hun
      refine wpOp_mono (fun a' w' h3 => ⟨fun _ => h3.2.1 hjL, ih (listed.setIfInBounds j true) a' w' (hcl.set hj) hfree' (ready_mono hr (Ne.symm hji)) h3.1 (h3.2.1 hjL) ?_⟩) h2
      rw [Array.setIfInBounds_comm _ _ hji]
      exact h3.2.2
def closedB (md : Region.Mode) (ops : Array Oper) (listed : Array Bool) : Bool := (List.range ops.size).all fun k => !listed.getD k false || ((ops[k]?).map fun o => o.after.all fun e => !Region.binds md e || listed.getD e.on false).getD true
theorem closedB_spec {listed : Array Bool} (h : closedB md ops listed = true) : Closed md ops listed := by
  intro k o hk hl e he hb
  have hlt : k < ops.size := (Array.getElem?_eq_some_iff.1 hk).1
  have := List.all_eq_true.1 h k (List.mem_range.2 hlt)
  simp only [hl, hk, Bool.not_true, Bool.false_or, Option.map_some, Option.getD_some, Array.all_eq_true_iff_forall_mem] at this
  have := this e he
  simpa [hb] using this
theorem wpAnyM_take {l : List Oper} {i : Nat} {oi : Oper} {v : Value} {fuel : Nat} {listed : Array Bool} {a : Act} {w : World} (hi : l[i]? = some oi) (hi' : l.toArray[i]? = l[i]?)
    (hb : (i != L && anc md l.toArray i l.length L && Region.noSelect l.toArray && closedB md l.toArray listed && Region.free md l.toArray listed i && (Region.ready md l.toArray listed).contains i) = true)
    (hQ : ∀ c a w, Q (.panic c) (a.put oi.dst v) w → Q (.panic c) a w) (hy : YieldsIf P l.toArray S oi v a) (hS : S w)
    (h : wpAnyM P md l.toArray Q S L fuel (listed.setIfInBounds i true) (a.put oi.dst v) w) : wpAnyM P md l.toArray Q S L (fuel + 1) listed a w := by
  simp only [Bool.and_eq_true, bne_iff_ne] at hb
  obtain ⟨⟨⟨⟨⟨h1, h2⟩, h3⟩, h4⟩, h5⟩, h6⟩ := hb
  exact wpAnyM_first (hi'.trans hi) h1 h2 (Region.noSelect_spec h3) hQ fuel listed a w (closedB_spec h4) (Region.free_spec (hi'.trans hi) h5) (by simpa using h6) hy hS h
/-- One operation alone may come up. -/
theorem wpAnyM_step {l : List Oper} {i : Nat} {o : Oper} {fuel : Nat} {listed : Array Bool} {a : Act} {w : World} (hr : Region.ready md l.toArray listed = [i]) (ho : l[i]? = some o) (hi' : l.toArray[i]? = l[i]?)
    (h : ∀ K' : Act → World → Prop, Shut (∀ a w, (i ≠ L → S w) → wpAnyM P md l.toArray Q S L fuel (listed.setIfInBounds i true) a w → K' a w) → if Region.wanted o (yielded l.toArray a.tmps) = true then Oper.wp P o a w K' Q else K' (a.put o.dst undef) w) :
    wpAnyM P md l.toArray Q S L (fuel + 1) listed a w := by
  refine ⟨fun h0 => (by rw [hr] at h0; cases h0), fun j hj => ?_⟩
  rw [hr] at hj
  obtain rfl : j = i := by simpa using hj
  exact wpOp_step (hi'.trans ho) (fun K' hK => h K' (fun a w hS hW => hK a w ⟨hS, hW⟩))
theorem wpAnyM_done {listed : Array Bool} {a : Act} {w : World} (hr : Region.ready md ops listed = []) (h : Q .normal a w) : ∀ fuel, wpAnyM P md ops Q S L fuel listed a w
  | 0 => ⟨hr, h⟩
  | _ + 1 => ⟨fun _ => h, by rw [hr]; simp⟩
theorem wp_region_M {l : List Oper} (S : World → Prop) (L : Nat) {id : Nat} {a : Act} {w : World} (hm : P.follows .mixedOrders = true) (hS : S w.drew)
    (h : S w.drew → wpAnyM P .any l.toArray Q S L l.length (List.replicate l.length false).toArray a w.drew) : (Code.region id l.toArray true).wp P Q a w := by
  have h := h hS
  refine wp_region_any hm (wpAny_of_M (S := S) (L := L) _ _ _ _ ?_)
  have e1 : l.toArray.size = l.length := by simp
  have e2 : Array.replicate l.toArray.size false = (List.replicate l.length false).toArray := by simp
  rw [e1] at e2 ⊢
  rw [e2]
  exact h
end
end Go.Proofs.YtbbobffedgcbhaaGreatDoor
namespace Go.Proofs.YtbbobffedgcbhaaGreatDoor
open Go.RowKit
set_option linter.unusedVariables false

set_option maxRecDepth 100000 in
set_option maxHeartbeats 400000 in
theorem rput_no (n : Int) (m : Int) (w : World) (h : m < 1 ∨ 8 < m) :
    Calls Tryz.prog 55 #[.int .u64 n, .int .i64 m] w fun e w' => e = .returned (.slice none 0 0) ∧ w = w' := by
  rcases h with h | h
  · go_enter Tryz.func55, Tryz.ntmps55
    go_wp2
    go_ret
    exact ⟨rfl, rfl⟩
  · have h' : ¬ m < 1 := by omega
    go_enter Tryz.func55, Tryz.ntmps55
    go_wp2
    go_ret
    exact ⟨rfl, rfl⟩
set_option maxRecDepth 100000 in
set_option maxHeartbeats 400000 in
theorem rput_yes (n : Nat) (m : Nat) (w : World) (h1 : 1 ≤ m) (h2 : m ≤ 8) (hn : n < 18446744073709551616) :
    Calls Tryz.prog 55 #[.int .u64 n, .int .i64 m] w fun e w' => ∃ v, e = .returned v ∧ w'.ownsRow w.heap.size 5 1 v m (bv (be m n)) ∧ Below w.heap.size w w' := by
  obtain ⟨i0, hi, hz0, hz1, hz2⟩ := info_parts info5
  have hmk := fun W => run_make_rowN (P := Tryz.prog) 22 5 i0 _ Tryz.underlying22 hi hz0 .i64 .i64 m m (Nat.le_refl _) (by rw [hz2]; omega) (by omega) W
  have e0 : (madeCells (Value.int .u8 0).cells (m * i0.size)) = (bv (List.replicate (m - 0) 0 ++ be 0 n)).toArray := by
    rw [hz1]
    apply Array.ext'
    rw [made_bytes]
    simp [be]
  rw [e0] at hmk
  clear e0
  have hblk := Blk.new w 5 (bv (List.replicate (m - 0) 0 ++ be 0 n)).toArray
  have hbel := (Below.refl w.heap.size w).alloc (Nat.le_refl _) (.cells (bv (List.replicate (m - 0) 0 ++ be 0 n)).toArray 5)
  go_enter Tryz.func55, Tryz.ntmps55
  go_wp2
  go_loopw [0, 6] (fun x i wr => ∃ k : Nat, k ≤ m ∧ i = .int .i64 (m - k - 1) ∧ x = .int .u64 (n / 256 ^ k : Nat) ∧ Blk wr w.heap.size 5 (bv (List.replicate (m - k) 0 ++ be k n)).toArray ∧ Below w.heap.size w wr ∧ w.heap.size < wr.heap.size) (fun _ i _ => (intOf i + 1).toNat)
  case atStart => exact ⟨0, by omega, by simp, by simp, hblk, hbel, by simp⟩
  case round =>
    obtain ⟨k, hk, rfl, rfl, hb, hbw, hlt0⟩ := hrel
    clear hmk hblk hbel
    have hdiv : n / 256 ^ k < 18446744073709551616 := Nat.lt_of_le_of_lt (Nat.div_le_self _ _) hn
    by_cases hlt : k < m
    · have hz := hb.frozen (m - k - 1)
      have hcl : m - k - 1 < (bv (List.replicate (m - k) 0 ++ be k n)).toArray.size := by simp [bv, be_length]; omega
      have hc := hb.cell (m - k - 1)
      rw [Array.getElem?_eq_getElem hcl] at hc
      obtain ⟨q, hq⟩ : ∃ q, n / 256 ^ k = q := ⟨_, rfl⟩
      have HQ := hide hq
      rw [hq] at hdiv ⊢
      clear hq
      go_wp2
      go_roundw
      case rel =>
        refine ⟨k + 1, by omega, by go_num, ?_, ?_, hbw.setCell (Nat.le_refl _) _, by simpa [World.setCell] using hlt0⟩
        · rw [Nat.pow_succ, ← Nat.div_div_eq_div_mul, HQ.out]; go_num
        · have := hb.set_ (m - k - 1) (.int .u8 ((n / 256 ^ k % 256 : Nat) : Int))
          have h7 : m - k - 1 = m - 1 - k := by omega
          rw [h7] at this ⊢
          rw [be_stepV m k n hlt, HQ.out] at this
          exact this
      case measure => simp [intOf]; omega
    · obtain rfl : k = m := by omega
      go_wp2
      go_ret
      refine ⟨_, rfl, ?_, hbw⟩
      have := Blk.own (w := wr) (g := w.heap.size) (e := 5) (base := w.heap.size) (cap := k) hb (by omega) (by unfold maxLen; omega) (by simp [bv, be_length])
      simpa using this
end Go.Proofs.YtbbobffedgcbhaaGreatDoor
namespace Go.Proofs.YtbbobffedgcbhaaGreatDoor
open Go.RowKit
set_option linter.unusedVariables false

set_option maxRecDepth 100000 in
set_option maxHeartbeats 400000 in
theorem rget_no (A : Option Addr) (n c : Nat) (w : World) (h : n < 1 ∨ 8 < n) :
    Calls Tryz.prog 79 #[.slice A n c] w fun e w' => e = .returned (.tuple #[.int .u64 0, .int .i64 2]) ∧ w = w' := by
  rcases h with h | h
  · go_enter Tryz.func79, Tryz.ntmps79
    go_wp2
    go_ret2
    exact ⟨rfl, rfl⟩
  · have h' : ¬ n < 1 := by omega
    go_enter Tryz.func79, Tryz.ntmps79
    go_wp2
    go_ret2
    exact ⟨rfl, rfl⟩

set_option maxRecDepth 100000 in
set_option maxHeartbeats 400000 in
theorem rget_yes (A : Option Addr) (n c : Nat) (bs : List UInt8) (w : World) (hn : 1 ≤ n) (hn2 : n ≤ 8) (hr : Rd w A n bs) :
    Calls Tryz.prog 79 #[.slice A n c] w fun e w' => e = .returned (.tuple #[.int .u64 (numB bs), .int .i64 0]) ∧ w = w' := by
  have hl := hide hr.len
  obtain ⟨ad, hA, _, _⟩ := hr.get (k := 0) (by omega)
  subst hA
  go_enter Tryz.func79, Tryz.ntmps79
  go_wp2
  go_loop [4, 5] (fun a i => ∃ k : Nat, k ≤ n ∧ i = .int .i64 k ∧ a = .int .u64 (numB (bs.take k))) (fun _ i => n - (intOf i).toNat)
  case atStart => exact ⟨0, Nat.zero_le _, rfl, rfl⟩
  case round =>
    obtain ⟨k, hk, rfl, rfl⟩ := hrel
    by_cases hlt : k < n
    · obtain ⟨ad', hA, _, hcell⟩ := hr.get hlt
      cases hA
      have h1 := numB_lt7 (bs.take k) (by simp; omega)
      have h2 := (bs.getD k 0).toNat_lt
      have H := hide (numB_take bs k (by have := hl.out; omega))
      generalize numB (bs.take k) = x at *
      generalize (bs.getD k 0).toNat = y at *
      go_wp2
      go_round
      case rel => 
        refine ⟨k + 1, by omega, by go_num, ?_⟩
        rw [H.out]; go_num
      case measure => simp [intOf]; omega
    · go_wp2
      go_ret2
      obtain rfl : k = n := by omega
      rw [List.take_of_length_le (by have := hl.out; omega)]
      exact ⟨rfl, rfl⟩
end Go.Proofs.YtbbobffedgcbhaaGreatDoor
