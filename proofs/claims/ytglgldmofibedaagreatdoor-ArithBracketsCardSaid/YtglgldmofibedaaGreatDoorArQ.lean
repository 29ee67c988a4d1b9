/- Plain mathematics of arith: what is read again, deeper, or with a bracket behind it. -/
import Derived.Test.YtglgldmofibedaaGreatDoorArP
namespace Go.Proofs.YtglgldmofibedaaGreatDoor
set_option linter.unusedVariables false

/- ---- deeper: an expression with less room is the same, or too deep ---- -/
def LeE (f g : Ev) : Prop := ∀ r z, f r z = .bad 51 ∨ g r z = f r z
theorem LeE.refl (f : Ev) : LeE f f := fun _ _ => .inr rfl
theorem LeE.trans {f g h : Ev} (a : LeE f g) (b : LeE g h) : LeE f h := fun r z => by
  rcases a r z with x | x
  · exact .inl x
  · rcases b r z with y | y
    · exact .inl (by rw [← x, y])
    · exact .inr (by rw [y, x])
theorem loopB_le (l : List Tok) {f g : Ev} (h : LeE f g) : ∀ k n r z, loopB l f k n r z = .bad 51 ∨ loopB l g k n r z = loopB l f k n r z := by
  intro k
  induction k with
  | zero => intro n r z; exact .inr rfl
  | succ k ih =>
    intro n r z
    unfold loopB
    by_cases hm : memP (hd r) l = true
    · rw [if_pos hm, if_pos hm]
      rcases h r.tail z with e | e
      · rw [e]; exact .inl rfl
      · rw [e]
        cases f r.tail z with
        | bad e => exact .inr rfl
        | ok m r' z' => exact ih _ _ _
    · rw [if_neg hm, if_neg hm]; exact .inr rfl
theorem binB_le {f g : Ev} (h : LeE f g) : ∀ ls, LeE (binB ls f) (binB ls g)
  | [] => h
  | l :: ls => fun r z => by
    have ih := binB_le h ls
    unfold binB
    rcases ih r z with e | e
    · rw [e]; exact .inl rfl
    · rw [e]
      cases binB ls f r z with
      | bad e => exact .inr rfl
      | ok n r' z' => exact loopB_le l ih _ _ _ _
theorem unF_le (vars : List Tok) {e1 e2 u1 u2 : Ev} (he : LeE e1 e2) (hu : LeE u1 u2) : LeE (unF vars e1 u1) (unF vars e2 u2) := fun r z => by
  unfold unF
  by_cases h0 : hd r = []
  · rw [if_pos h0, if_pos h0]; exact .inr rfl
  rw [if_neg h0, if_neg h0]
  by_cases h1 : (unaryP (hd r) 0).2 = true
  · rw [if_pos h1, if_pos h1]
    rcases hu r.tail z with e | e
    · rw [e]; exact .inl rfl
    · rw [e]; exact .inr rfl
  rw [if_neg h1, if_neg h1]
  by_cases h2 : (hd r == [40]) = true
  · rw [if_pos h2, if_pos h2]
    rcases he r.tail z with e | e
    · rw [e]; exact .inl rfl
    · rw [e]; exact .inr rfl
  rw [if_neg h2, if_neg h2]
  exact .inr rfl
theorem exF_le {b1 b2 e1 e2 : Ev} (hb : LeE b1 b2) (he : LeE e1 e2) : LeE (exF b1 e1) (exF b2 e2) := fun r z => by
  unfold exF
  rcases hb r z with e | e
  · rw [e]; exact .inl rfl
  rw [e]
  cases b1 r z with
  | bad e => exact .inr rfl
  | ok n r1 z1 =>
    dsimp only
    by_cases h0 : (hd r1 == [63]) = true
    · rw [if_pos h0, if_pos h0]
      rcases he r1.tail z1 with e | e
      · rw [e]; exact .inl rfl
      rw [e]
      cases e1 r1.tail z1 with
      | bad e => exact .inr rfl
      | ok t r2 z2 =>
        dsimp only
        by_cases h1 : (hd r2 == [58]) = true
        · rw [if_pos h1, if_pos h1]
          rcases he r2.tail z2 with e | e
          · rw [e]; exact .inl rfl
          rw [e]; exact .inr rfl
        · rw [if_neg h1, if_neg h1]; exact .inr rfl
    · rw [if_neg h0, if_neg h0]; exact .inr rfl
theorem EU_le (vars : List Tok) : ∀ k, LeE (EU vars k).1 (EU vars (k + 1)).1 ∧ LeE (EU vars k).2 (EU vars (k + 1)).2
  | 0 => ⟨fun _ _ => .inl rfl, fun _ _ => .inl rfl⟩
  | k + 1 => by
    have ih := EU_le vars k
    have hu := unF_le vars ih.1 ih.2
    exact ⟨exF_le (binB_le hu lvls) ih.1, hu⟩
theorem EU_leN (vars : List Tok) (k : Nat) : ∀ m, LeE (EU vars k).1 (EU vars (k + m)).1
  | 0 => LeE.refl _
  | m + 1 => (EU_leN vars k m).trans (EU_le vars (k + m)).1

/- ---- behind: a bracket behind an expression stays ---- -/
def Ext (f : Ev) : Prop := ∀ r z n r' z', f r z = .ok n r' z' → f (r ++ [[41]]) z = .ok n (r' ++ [[41]]) z'
theorem hd_app {r : List Tok} (h : r ≠ []) (t : List Tok) : hd (r ++ t) = hd r := by
  cases r with
  | nil => exact absurd rfl h
  | cons a l => rfl
theorem tail_app {r : List Tok} (h : r ≠ []) (t : List Tok) : (r ++ t).tail = r.tail ++ t := by
  cases r with
  | nil => exact absurd rfl h
  | cons a l => rfl
theorem ne_of_hd {r : List Tok} (h : hd r ≠ []) : r ≠ [] := by rintro rfl; exact h rfl
/-- Which tokens are none of the operators of a level. -/
def NoBr (l : List Tok) : Prop := memP [] l = false ∧ memP [41] l = false
theorem noBr_all : ∀ l ∈ lvls, NoBr l := by unfold lvls NoBr; simp [memP]
theorem mem_app {l : List Tok} (h : NoBr l) (r : List Tok) : memP (hd (r ++ [[41]])) l = memP (hd r) l := by
  cases r with
  | nil => exact h.2.trans h.1.symm
  | cons a t => rfl
theorem loopB_ext {l : List Tok} (hl : NoBr l) {f : Ev} (h : Ext f) : ∀ k n r z m r' z', loopB l f k n r z = .ok m r' z' →
    loopB l f k n (r ++ [[41]]) z = .ok m (r' ++ [[41]]) z' := by
  intro k
  induction k with
  | zero => intro n r z m r' z' e; exact absurd e (by unfold loopB; simp)
  | succ k ih =>
    intro n r z m r' z' e
    unfold loopB at e ⊢
    rw [mem_app hl]
    by_cases hm : memP (hd r) l = true
    · rw [if_pos hm] at e ⊢
      have hr : r ≠ [] := by rintro rfl; rw [show hd [] = [] from rfl, hl.1] at hm; exact absurd hm (by simp)
      rw [tail_app hr, hd_app hr]
      cases hf : f r.tail z with
      | bad e' => rw [hf] at e; exact absurd e (by simp)
      | ok m' r1 z1 =>
        rw [hf] at e
        rw [h _ _ _ _ _ hf]
        exact ih _ _ _ _ _ _ e
    · rw [if_neg hm] at e ⊢
      injection e with e1 e2 e3
      rw [e1, e2, e3]
theorem binB_ext {f : Ev} (h : Ext f) : ∀ ls, (∀ l ∈ ls, NoBr l) → Ext (binB ls f)
  | [], _ => h
  | l :: ls, hl => by
    intro r z n r' z' e
    have ih := binB_ext h ls (fun x hx => hl x (by simp [hx]))
    unfold binB at e ⊢
    cases hb : binB ls f r z with
    | bad e' => rw [hb] at e; exact absurd e (by simp)
    | ok n1 r1 z1 =>
      rw [hb] at e
      rw [ih _ _ _ _ _ hb]
      exact loopB_ext (hl l (by simp)) ih _ _ _ _ _ _ _ e
theorem unF_ext (vars : List Tok) {ex un : Ev} (he : Ext ex) (hu : Ext un) : Ext (unF vars ex un) := by
  intro r z n r' z' e
  unfold unF at e ⊢
  by_cases h0 : hd r = []
  · rw [if_pos h0] at e; exact absurd e (by simp)
  have hr := ne_of_hd h0
  rw [hd_app hr, tail_app hr]
  rw [if_neg h0] at e ⊢
  by_cases h1 : (unaryP (hd r) 0).2 = true
  · rw [if_pos h1] at e ⊢
    cases hf : un r.tail z with
    | bad e' => rw [hf] at e; exact absurd e (by simp)
    | ok m r1 z1 =>
      rw [hf] at e
      rw [hu _ _ _ _ _ hf]
      injection e with e1 e2 e3
      rw [← e1, ← e2, ← e3]
  rw [if_neg h1] at e ⊢
  by_cases h2 : (hd r == [40]) = true
  · rw [if_pos h2] at e ⊢
    cases hf : ex r.tail z with
    | bad e' => rw [hf] at e; exact absurd e (by simp)
    | ok m r1 z1 =>
      rw [hf] at e
      rw [he _ _ _ _ _ hf]
      dsimp only at e ⊢
      by_cases h3 : (hd r1 == [41]) = true
      · have hr1 : r1 ≠ [] := by rintro rfl; exact absurd h3 (by decide)
        rw [hd_app hr1, tail_app hr1, if_pos h3]
        rw [if_pos h3] at e
        injection e with e1 e2 e3
        rw [e1, e2, e3]
      · rw [if_neg h3] at e; exact absurd e (by simp)
  rw [if_neg h2] at e ⊢
  by_cases h4 : isD ((hd r).headD 0) = true
  · rw [if_pos h4] at e ⊢
    injection e with e1 e2 e3
    rw [e1, e2, e3]
  rw [if_neg h4] at e ⊢
  by_cases h5 : isL ((hd r).headD 0) = true
  · rw [if_pos h5] at e ⊢
    injection e with e1 e2 e3
    rw [e1, e2, e3]
  rw [if_neg h5] at e
  exact absurd e (by simp)
theorem hd_ext {r : List Tok} (t : Tok) (h1 : ([] == t) = false) (h2 : (([41] : Tok) == t) = false) : (hd (r ++ [[41]]) == t) = (hd r == t) := by
  cases r with
  | nil => exact h2.trans h1.symm
  | cons a l => rfl
theorem exF_ext {bi ex : Ev} (hb : Ext bi) (he : Ext ex) : Ext (exF bi ex) := by
  intro r z n r' z' e
  unfold exF at e ⊢
  cases hf : bi r z with
  | bad e' => rw [hf] at e; exact absurd e (by simp)
  | ok n1 r1 z1 =>
    rw [hf] at e
    rw [hb _ _ _ _ _ hf]
    dsimp only at e ⊢
    rw [hd_ext _ (by decide) (by decide)]
    by_cases h0 : (hd r1 == [63]) = true
    · have hr1 : r1 ≠ [] := by rintro rfl; exact absurd h0 (by decide)
      rw [if_pos h0] at e ⊢
      rw [tail_app hr1]
      cases hf2 : ex r1.tail z1 with
      | bad e' => rw [hf2] at e; exact absurd e (by simp)
      | ok n2 r2 z2 =>
        rw [hf2] at e
        rw [he _ _ _ _ _ hf2]
        dsimp only at e ⊢
        rw [hd_ext _ (by decide) (by decide)]
        by_cases h1 : (hd r2 == [58]) = true
        · have hr2 : r2 ≠ [] := by rintro rfl; exact absurd h1 (by decide)
          rw [if_pos h1] at e ⊢
          rw [tail_app hr2]
          cases hf3 : ex r2.tail z2 with
          | bad e' => rw [hf3] at e; exact absurd e (by simp)
          | ok n3 r3 z3 =>
            rw [hf3] at e
            rw [he _ _ _ _ _ hf3]
            injection e with e1 e2 e3
            rw [← e1, ← e2, ← e3]
        · rw [if_neg h1] at e; exact absurd e (by simp)
    · rw [if_neg h0] at e ⊢
      injection e with e1 e2 e3
      rw [e1, e2, e3]
theorem EU_ext (vars : List Tok) : ∀ k, Ext (EU vars k).1 ∧ Ext (EU vars k).2
  | 0 => ⟨fun _ _ _ _ _ e => absurd e (by simp [EU]), fun _ _ _ _ _ e => absurd e (by simp [EU])⟩
  | k + 1 => by
    have ih := EU_ext vars k
    have hu := unF_ext vars ih.1 ih.2
    exact ⟨exF_ext (binB_ext hu lvls noBr_all) ih.1, hu⟩

/- ---- what is read is an int ---- -/
def RR (f : Ev) : Prop := ∀ r z n r' z', f r z = .ok n r' z' → i64R n
theorem bits_R (op : BinOp) (a b : Int) : i64R (bits op .i64 a b) := by
  have h := W_R ((match op with | .and => BitVec.ofInt IntKind.i64.bits a &&& BitVec.ofInt IntKind.i64.bits b | .or => BitVec.ofInt IntKind.i64.bits a ||| BitVec.ofInt IntKind.i64.bits b | .xor => BitVec.ofInt IntKind.i64.bits a ^^^ BitVec.ofInt IntKind.i64.bits b | _ => BitVec.ofInt IntKind.i64.bits a &&& ~~~BitVec.ofInt IntKind.i64.bits b).toNat : Int)
  unfold W at h
  rw [← IntWalk.i64_left] at h
  exact h
theorem i64R_lt {x : Int} (h : x.natAbs < 9223372036854775808) : i64R x := by unfold i64R; omega
theorem tdiv_abs (a b : Int) (h : i64R a) : (a.tmod b).natAbs ≤ a.natAbs := by
  rw [Int.natAbs_tmod]; exact Nat.mod_le _ _
theorem tmod_R {a b : Int} (ha : i64R a) : i64R (a.tmod b) := by
  have h := tdiv_abs a b ha
  by_cases h0 : 0 ≤ a
  · have := Int.tmod_nonneg b h0
    unfold i64R at *; omega
  · unfold i64R at *
    by_cases hm : a.tmod b ≤ 0
    · omega
    · have := Int.tmod_nonneg b (a := -a) (by omega)
      rw [Int.neg_tmod] at this
      omega
theorem shr_R {a : Int} (k : Nat) (ha : i64R a) : i64R (a / 2 ^ k) := by
  have hp : (0 : Int) < 2 ^ k := Int.pow_pos (by omega)
  unfold i64R at *
  constructor
  · rw [Int.le_ediv_iff_mul_le hp]
    have : (1 : Int) ≤ 2 ^ k := hp
    have h2 : (-9223372036854775808 : Int) * 2 ^ k ≤ -9223372036854775808 * 1 := Int.mul_le_mul_of_nonpos_left (by omega) this
    omega
  · by_cases h : 0 ≤ a
    · exact Int.le_trans (Int.ediv_le_self _ h) ha.2
    · have : a / 2 ^ k < 0 := Int.ediv_neg_of_neg_of_pos (by omega) hp
      omega
theorem cmp_R (op : Tok) (a b : Int) : i64R (cmpP op a b).1 := by
  unfold cmpP
  repeat' split
  all_goals first | with_reducible exact fl_R _ | (unfold i64R; simp)
theorem apply_R (op : Tok) {a b : Int} (ha : i64R a) (hb : i64R b) : i64R (applyP op a b).1 := by
  unfold applyP
  repeat' split
  all_goals first | with_reducible exact W_R _ | with_reducible exact bits_R _ _ _ | with_reducible exact tmod_R ha | with_reducible exact shr_R _ ha | with_reducible exact cmp_R _ _ _ | (unfold i64R; simp)
theorem unary_R (op : Tok) {a : Int} (ha : i64R a) : i64R (unaryP op a).1 := by
  unfold unaryP
  repeat' split
  all_goals first | with_reducible exact ha | with_reducible exact W_R _ | with_reducible exact bits_R _ _ _ | with_reducible exact fl_R _ | (unfold i64R; simp)
theorem num_R (t : Tok) : i64R (numP t) := by unfold numP; split <;> exact W_R _
theorem parseV_R (s : Tok) : i64R (parseV s) := by
  unfold parseV
  split
  · rename_i v hv
    split
    · exact Lib.atoiAll_bounds hv
    · unfold i64R; simp
  · unfold i64R; simp
theorem value_R (t : Tok) : ∀ vars, i64R (valueP t vars)
  | [] => by unfold valueP i64R; simp
  | v :: l => by unfold valueP; split; · exact parseV_R _
                 · exact value_R t l
theorem loopB_R (l : List Tok) {f : Ev} (h : RR f) : ∀ k n r z m r' z', i64R n → loopB l f k n r z = .ok m r' z' → i64R m := by
  intro k
  induction k with
  | zero => intro n r z m r' z' _ e; exact absurd e (by unfold loopB; simp)
  | succ k ih =>
    intro n r z m r' z' hn e
    unfold loopB at e
    split at e
    · cases hf : f r.tail z with
      | bad e' => rw [hf] at e; exact absurd e (by simp)
      | ok m' r1 z1 =>
        rw [hf] at e
        exact ih _ _ _ _ _ _ (apply_R _ hn (h _ _ _ _ _ hf)) e
    · injection e with e1 e2 e3
      rw [← e1]; exact hn
theorem binB_R {f : Ev} (h : RR f) : ∀ ls, RR (binB ls f)
  | [] => h
  | l :: ls => by
    intro r z n r' z' e
    have ih := binB_R h ls
    unfold binB at e
    cases hb : binB ls f r z with
    | bad e' => rw [hb] at e; exact absurd e (by simp)
    | ok n1 r1 z1 =>
      rw [hb] at e
      exact loopB_R l ih _ _ _ _ _ _ _ (ih _ _ _ _ _ hb) e
theorem unF_R (vars : List Tok) {ex un : Ev} (he : RR ex) (hu : RR un) : RR (unF vars ex un) := by
  intro r z n r' z' e
  unfold unF at e
  split at e
  · exact absurd e (by simp)
  split at e
  · cases hf : un r.tail z with
    | bad e' => rw [hf] at e; exact absurd e (by simp)
    | ok m r1 z1 =>
      rw [hf] at e
      injection e with e1 e2 e3
      rw [← e1]; exact unary_R _ (hu _ _ _ _ _ hf)
  split at e
  · cases hf : ex r.tail z with
    | bad e' => rw [hf] at e; exact absurd e (by simp)
    | ok m r1 z1 =>
      rw [hf] at e
      dsimp only at e
      split at e
      · injection e with e1 e2 e3
        rw [← e1]; exact he _ _ _ _ _ hf
      · exact absurd e (by simp)
  split at e
  · injection e with e1 e2 e3
    rw [← e1]; exact num_R _
  split at e
  · injection e with e1 e2 e3
    rw [← e1]; exact value_R _ _
  · exact absurd e (by simp)
theorem exF_R {bi ex : Ev} (hb : RR bi) (he : RR ex) : RR (exF bi ex) := by
  intro r z n r' z' e
  unfold exF at e
  cases hf : bi r z with
  | bad e' => rw [hf] at e; exact absurd e (by simp)
  | ok n1 r1 z1 =>
    rw [hf] at e
    dsimp only at e
    split at e
    · cases hf2 : ex r1.tail z1 with
      | bad e' => rw [hf2] at e; exact absurd e (by simp)
      | ok n2 r2 z2 =>
        rw [hf2] at e
        dsimp only at e
        split at e
        · cases hf3 : ex r2.tail z2 with
          | bad e' => rw [hf3] at e; exact absurd e (by simp)
          | ok n3 r3 z3 =>
            rw [hf3] at e
            injection e with e1 e2 e3
            rw [← e1]
            split
            · exact he _ _ _ _ _ hf3
            · exact he _ _ _ _ _ hf2
        · exact absurd e (by simp)
    · injection e with e1 e2 e3
      rw [← e1]; exact hb _ _ _ _ _ hf
theorem EU_R (vars : List Tok) : ∀ k, RR (EU vars k).1 ∧ RR (EU vars k).2
  | 0 => ⟨fun _ _ _ _ _ e => absurd e (by simp [EU]), fun _ _ _ _ _ e => absurd e (by simp [EU])⟩
  | k + 1 => by
    have ih := EU_R vars k
    have hu := unF_R vars ih.1 ih.2
    exact ⟨exF_R (binB_R hu lvls) ih.1, hu⟩

/- ---- an operand alone, with what is no operator behind it ---- -/
theorem loopB_stop {l : List Tok} {f : Ev} {k : Nat} {n : Int} {r : List Tok} {z : Bool} (h : memP (hd r) l = false) : loopB l f (k + 1) n r z = .ok n r z := by
  unfold loopB; rw [if_neg (by rw [h]; simp)]
theorem binB_stop {f : Ev} {r r' : List Tok} {z z' : Bool} {n : Int} (hf : f r z = .ok n r' z') : ∀ ls, (∀ l ∈ ls, memP (hd r') l = false) → binB ls f r z = .ok n r' z'
  | [], _ => hf
  | l :: ls, h => by
    unfold binB
    rw [binB_stop hf ls (fun x hx => h x (by simp [hx]))]
    exact loopB_stop (h l (by simp))
theorem ex_stop {vars : List Tok} {k : Nat} {r r' : List Tok} {z z' : Bool} {n : Int} (hf : (EU vars (k + 1)).2 r z = .ok n r' z') (hn : hd r' = [] ∨ hd r' = [41]) :
    (EU vars (k + 1)).1 r z = .ok n r' z' := by
  have hb : binB lvls (unF vars (EU vars k).1 (EU vars k).2) r z = .ok n r' z' := binB_stop hf lvls (fun l hl => by
    rcases hn with h | h <;> rw [h]
    · exact (noBr_all l hl).1
    · exact (noBr_all l hl).2)
  rw [show (EU vars (k + 1)).1 = exF (binB lvls (unF vars (EU vars k).1 (EU vars k).2)) (EU vars k).1 from rfl]
  unfold exF
  rw [hb]
  dsimp only
  rw [if_neg]
  rcases hn with h | h <;> rw [h] <;> decide
theorem un_br {vars : List Tok} {k : Nat} {r r' : List Tok} {z z' : Bool} {n : Int} (hf : (EU vars k).1 r z = .ok n ([41] :: r') z') :
    (EU vars (k + 1)).2 ([40] :: r) z = .ok n r' z' := by
  rw [show (EU vars (k + 1)).2 = unF vars (EU vars k).1 (EU vars k).2 from rfl]
  unfold unF
  rw [show hd ([40] :: r) = [40] from rfl, if_neg (by decide), if_neg (by decide), if_pos (by decide)]
  rw [show ([40] :: r : List Tok).tail = r from rfl, hf]
  rfl
theorem un_bad {vars : List Tok} {k : Nat} {r : List Tok} {z : Bool} {e : Int} (hf : (EU vars k).1 r z = .bad e) :
    (EU vars (k + 1)).2 ([40] :: r) z = .bad e := by
  rw [show (EU vars (k + 1)).2 = unF vars (EU vars k).1 (EU vars k).2 from rfl]
  unfold unF
  rw [show hd ([40] :: r) = [40] from rfl, if_neg (by decide), if_neg (by decide), if_pos (by decide)]
  rw [show ([40] :: r : List Tok).tail = r from rfl, hf]
theorem un_neg {vars : List Tok} {k : Nat} {r r' : List Tok} {z z' : Bool} {n : Int} (hf : (EU vars k).2 r z = .ok n r' z') :
    (EU vars (k + 1)).2 ([45] :: r) z = .ok (W (-n)) r' z' := by
  rw [show (EU vars (k + 1)).2 = unF vars (EU vars k).1 (EU vars k).2 from rfl]
  unfold unF
  rw [show hd ([45] :: r) = [45] from rfl, if_neg (by decide), if_pos (by decide)]
  rw [show ([45] :: r : List Tok).tail = r from rfl, hf]
  rfl
theorem un_negbad {vars : List Tok} {k : Nat} {r : List Tok} {z : Bool} {e : Int} (hf : (EU vars k).2 r z = .bad e) :
    (EU vars (k + 1)).2 ([45] :: r) z = .bad e := by
  rw [show (EU vars (k + 1)).2 = unF vars (EU vars k).1 (EU vars k).2 from rfl]
  unfold unF
  rw [show hd ([45] :: r) = [45] from rfl, if_neg (by decide), if_pos (by decide)]
  rw [show ([45] :: r : List Tok).tail = r from rfl, hf]
theorem binB_bad {f : Ev} {r : List Tok} {z : Bool} {e : Int} (hf : f r z = .bad e) : ∀ ls, binB ls f r z = .bad e
  | [] => hf
  | l :: ls => by unfold binB; rw [binB_bad hf ls]
theorem ex_bad {vars : List Tok} {k : Nat} {r : List Tok} {z : Bool} {e : Int} (hf : (EU vars (k + 1)).2 r z = .bad e) :
    (EU vars (k + 1)).1 r z = .bad e := by
  rw [show (EU vars (k + 1)).1 = exF (binB lvls (unF vars (EU vars k).1 (EU vars k).2)) (EU vars k).1 from rfl]
  unfold exF
  rw [show binB lvls (unF vars (EU vars k).1 (EU vars k).2) r z = .bad e from binB_bad hf lvls]
theorem neg_neg_W {n : Int} (h : i64R n) : W (-(W (-n))) = n := by
  rw [← W_id h, W_eq, W_eq, W_eq]; unfold i64R at h; split <;> split <;> split <;> omega

/-- An expression in brackets, and behind two signs. -/
theorem brackets_toks (vars : List Tok) (ts : List Tok) (n : Int) (z : Bool) (h : (EU vars 40).1 ts false = .ok n [] z) :
    ((EU vars 40).1 ([40] :: ts ++ [[41]]) false = .bad 51 ∨ (EU vars 40).1 ([40] :: ts ++ [[41]]) false = .ok n [] z) ∧
    ((EU vars 40).1 ([45] :: [45] :: [40] :: ts ++ [[41]]) false = .bad 51 ∨ (EU vars 40).1 ([45] :: [45] :: [40] :: ts ++ [[41]]) false = .ok n [] z) := by
  have hx := (EU_ext vars 40).1 _ _ _ _ _ h
  have hR := (EU_R vars 40).1 _ _ _ _ _ h
  constructor
  · rcases EU_leN vars 39 1 (ts ++ [[41]]) false with e | e
    · exact .inl (ex_bad (un_bad e))
    · rw [show (39 + 1) = 40 from rfl, hx] at e
      exact .inr (ex_stop (un_br e.symm) (.inl rfl))
  · rcases EU_leN vars 37 3 (ts ++ [[41]]) false with e | e
    · exact .inl (ex_bad (un_negbad (un_negbad (un_bad e))))
    · rw [show (37 + 3) = 40 from rfl, hx] at e
      have h3 := un_neg (un_neg (un_br (r' := []) e.symm))
      rw [neg_neg_W hR] at h3
      exact .inr (ex_stop h3 (.inl rfl))
end Go.Proofs.YtglgldmofibedaaGreatDoor
