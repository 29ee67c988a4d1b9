/- Records as plain data, their bytes. No program. -/
import Derived.Test.YtkiphaagdckkjaaDoorNumP
namespace Go.Proofs.YtkiphaagdckkjaaDoor

set_option linter.unusedVariables false
abbrev LB := List UInt8
structure Rec where
  seq : Int
  op : Int
  path : LB
  path2 : LB
  dig : LB
  allow : Bool
def govP (op : Int) : Bool := op == 1 || op == 6 || op == 7 || op == 9 || op == 10 || op == 11 || op == 12 || op == 13 || op == 14
def seqOk (r : Rec) : Bool := decide (0 ≤ r.seq) && decide (r.seq ≤ 2147483647)
def p2Ok (r : Rec) : Bool := decide (r.path2.length ≤ 256) && (r.path2.isEmpty || r.op == 14)
def digOk (r : Rec) : Bool := if r.op = 7 then decide (r.dig.length = 32) else decide (r.dig.length = 0)
def validP (r : Rec) : Bool := seqOk r && (govP r.op && (decide (r.path.length ≤ 256) && (p2Ok r && digOk r)))
def txtP (s : LB) : LB := be 2 s.length ++ s
def encP (r : Rec) : LB := be 4 r.seq.toNat ++ [UInt8.ofNat r.op.toNat, if r.allow then 1 else 0] ++ txtP r.path ++ txtP r.path2 ++ r.dig
/-- The text at the beginning, and what is behind it. -/
def takeT (b : LB) : Option (LB × LB) := if b.length < 2 then none else if (b.drop 2).length < numB (b.take 2) then none else some ((b.drop 2).take (numB (b.take 2)), (b.drop 2).drop (numB (b.take 2)))
def recOf (b p p2 d : LB) : Rec := ⟨(numB (b.take 4) : Int), ((b.getD 4 0).toNat : Int), p, p2, d, b.getD 5 0 == 1⟩
def rawP (b : LB) : Option Rec := if b.length < 6 ∨ 1 < (b.getD 5 0).toNat then none else
  match takeT (b.drop 6) with
  | none => none
  | some (p, r) => match takeT r with
    | none => none
    | some (p2, d) => some (recOf b p p2 d)
def decP (b : LB) : Option Rec := match rawP b with
  | none => none
  | some r => if validP r = true then some r else none
theorem gov_le {op : Int} (h : govP op = true) : 1 ≤ op ∧ op ≤ 14 := by
  unfold govP at h
  simp only [Bool.or_eq_true, beq_iff_eq] at h
  omega
theorem valid_parts {r : Rec} (h : validP r = true) : (0 ≤ r.seq ∧ r.seq ≤ 2147483647) ∧ govP r.op = true ∧ r.path.length ≤ 256 ∧ r.path2.length ≤ 256 ∧ r.dig.length ≤ 32 := by
  unfold validP seqOk p2Ok digOk at h
  simp only [Bool.and_eq_true, decide_eq_true_eq] at h
  obtain ⟨⟨h1, h2⟩, h3, h4, ⟨h5, _⟩, h6⟩ := h
  refine ⟨⟨h1, h2⟩, h3, h4, h5, ?_⟩
  split at h6 <;> simp only [decide_eq_true_eq] at h6 <;> omega
theorem be2_num (n : Nat) (h : n ≤ 65535) : numB (be 2 n) = n := by
  rw [be_num]; exact Nat.mod_eq_of_lt (by omega)
theorem takeT_txt (s r : LB) (h : s.length ≤ 65535) : takeT (txtP s ++ r) = some (s, r) := by
  have hb : (be 2 s.length).length = 2 := be_length 2 _
  have h1 : (txtP s ++ r).take 2 = be 2 s.length := by
    unfold txtP
    rw [List.append_assoc, List.take_append_of_le_length (by omega), List.take_of_length_le (by omega)]
  have h2 : (txtP s ++ r).drop 2 = s ++ r := by
    unfold txtP
    rw [List.append_assoc, List.drop_append, List.drop_of_length_le (by omega), hb]; simp
  unfold takeT
  rw [h1, h2, be2_num _ h, if_neg (by unfold txtP; simp [hb]), if_neg (by simp), List.take_append_of_le_length (Nat.le_refl _), List.take_of_length_le (Nat.le_refl _), List.drop_append]
  simp
theorem numB_inj : ∀ (n : Nat) (a b : LB), a.length = n → b.length = n → numB a = numB b → a = b
  | 0, a, b, ha, hb, _ => by rw [List.eq_nil_of_length_eq_zero ha, List.eq_nil_of_length_eq_zero hb]
  | n + 1, a, b, ha, hb, h => by
    have ha0 : a ≠ [] := fun e => by subst e; simp at ha
    have hb0 : b ≠ [] := fun e => by subst e; simp at hb
    obtain ⟨a', x, rfl⟩ : ∃ a' x, a = a' ++ [x] := ⟨a.dropLast, a.getLast ha0, (List.dropLast_concat_getLast ha0).symm⟩
    obtain ⟨b', y, rfl⟩ : ∃ b' y, b = b' ++ [y] := ⟨b.dropLast, b.getLast hb0, (List.dropLast_concat_getLast hb0).symm⟩
    rw [numB_snoc, numB_snoc] at h
    have h1 := x.toNat_lt
    have h2 := y.toNat_lt
    have e : x = y := UInt8.toNat_inj.1 (by omega)
    subst e
    rw [numB_inj n a' b' (by simpa using ha) (by simpa using hb) (by omega)]
theorem num_be (b : LB) (k : Nat) (h : b.length = k) : be k (numB b) = b := by
  subst h
  refine numB_inj b.length _ _ (be_length _ _) rfl ?_
  rw [be_num]
  exact Nat.mod_eq_of_lt (numB_lt b)
theorem takeT_some {b p r : LB} (h : takeT b = some (p, r)) : b = txtP p ++ r ∧ p.length ≤ 65535 := by
  unfold takeT at h
  split at h
  · cases h
  · rename_i h1
    split at h
    · cases h
    · rename_i h2
      injection h with h
      injection h with e1 e2
      have hl : (b.take 2).length = 2 := by rw [List.length_take]; omega
      have hn := numB_lt (b.take 2)
      rw [hl] at hn
      have hp : p.length = numB (b.take 2) := by rw [← e1, List.length_take]; omega
      refine ⟨?_, by omega⟩
      unfold txtP
      rw [hp, num_be _ 2 hl, ← e1, ← e2, List.append_assoc, List.take_append_drop, List.take_append_drop]
theorem enc_shape (r : Rec) : encP r = be 4 r.seq.toNat ++ (UInt8.ofNat r.op.toNat :: (if r.allow then 1 else 0) :: (txtP r.path ++ (txtP r.path2 ++ r.dig))) := by
  unfold encP
  simp
theorem enc_dec {r : Rec} (h : validP r = true) : decP (encP r) = some r := by
  obtain ⟨⟨h1, h2⟩, h3, h4, h5, h6⟩ := valid_parts h
  have hg := gov_le h3
  have h44 : (be 4 r.seq.toNat).length = 4 := be_length 4 _
  have e1 : (encP r).take 4 = be 4 r.seq.toNat := by
    rw [enc_shape, List.take_append_of_le_length (by omega), List.take_of_length_le (by omega)]
  have e2 : (encP r).getD 4 0 = UInt8.ofNat r.op.toNat := by
    rw [enc_shape, List.getD_eq_getElem?_getD, List.getElem?_append_right (by omega), h44]; rfl
  have e3 : (encP r).getD 5 0 = if r.allow then 1 else 0 := by
    rw [enc_shape, List.getD_eq_getElem?_getD, List.getElem?_append_right (by omega), h44]; rfl
  have e4 : (encP r).drop 6 = txtP r.path ++ (txtP r.path2 ++ r.dig) := by
    rw [enc_shape, List.drop_append, List.drop_of_length_le (by omega), h44]; rfl
  have e5 : 6 ≤ (encP r).length := by rw [enc_shape]; simp [h44]; omega
  have hraw : rawP (encP r) = some r := by
    unfold rawP
    rw [e3, e4, if_neg (by cases r.allow <;> simp <;> omega), takeT_txt _ _ (by omega)]
    dsimp only
    rw [takeT_txt _ _ (by omega)]
    dsimp only
    unfold recOf
    rw [e1, e2, e3, be_num]
    have a1 : ((r.seq.toNat % 256 ^ 4 : Nat) : Int) = r.seq := by
      rw [Nat.mod_eq_of_lt (by omega)]; omega
    have a2 : (((UInt8.ofNat r.op.toNat).toNat : Nat) : Int) = r.op := by
      rw [UInt8.toNat_ofNat']
      omega
    rw [a1, a2]
    obtain ⟨s, o, q, q2, d, al⟩ := r
    cases al <;> rfl
  unfold decP
  rw [hraw]
  dsimp only
  rw [if_pos h]
theorem dec_enc {b : LB} {r : Rec} (h : decP b = some r) : validP r = true ∧ encP r = b := by
  unfold decP at h
  split at h
  · cases h
  · rename_i r' hr
    split at h
    · rename_i hv
      injection h with h
      subst h
      refine ⟨hv, ?_⟩
      unfold rawP at hr
      split at hr
      · cases hr
      · rename_i hc
        split at hr
        · cases hr
        · rename_i p r1 h1
          split at hr
          · cases hr
          · rename_i p2 d h2
            injection hr with hr
            subst hr
            obtain ⟨k1, _⟩ := takeT_some h1
            obtain ⟨k2, _⟩ := takeT_some h2
            have hl : 6 ≤ b.length := by omega
            have h5 : (b.getD 5 0).toNat ≤ 1 := by omega
            rw [enc_shape]
            unfold recOf
            dsimp only
            rw [Int.toNat_natCast, num_be _ 4 (by rw [List.length_take]; omega), Int.toNat_natCast, UInt8.ofNat_toNat, ← k2, ← k1]
            have hb5 : (if (b.getD 5 0 == 1) = true then (1 : UInt8) else 0) = b.getD 5 0 := by
              split
              · rename_i e; exact (by simpa using e : b.getD 5 0 = 1).symm
              · rename_i e
                have e2 : b.getD 5 0 ≠ 1 := by simpa using e
                have e3 : (b.getD 5 0).toNat ≠ 1 := fun k => e2 (UInt8.toNat_inj.1 k)
                exact (UInt8.toNat_inj.1 (by show (b.getD 5 0).toNat = 0; omega)).symm
            rw [hb5]
            have g4 : b.getD 4 0 = b[4] := by simp [List.getD_eq_getElem?_getD, show 4 < b.length by omega]
            have g5 : b.getD 5 0 = b[5] := by simp [List.getD_eq_getElem?_getD, show 5 < b.length by omega]
            rw [g4, g5, List.getElem_cons_drop, List.getElem_cons_drop, List.take_append_drop]
    · cases h
theorem enc_inj {r s : Rec} (hr : validP r = true) (hs : validP s = true) (h : encP r = encP s) : r = s := by
  have e1 := enc_dec hr
  rw [h, enc_dec hs] at e1
  injection e1 with e1
  exact e1.symm
end Go.Proofs.YtkiphaagdckkjaaDoor
