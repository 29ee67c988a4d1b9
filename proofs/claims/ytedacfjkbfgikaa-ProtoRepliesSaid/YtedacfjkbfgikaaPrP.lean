/- Requests and replies as plain data, their bytes, and reading them. No program. -/
import Derived.Test.YtedacfjkbfgikaaNumP
namespace Go.Proofs.Ytedacfjkbfgikaa
set_option linter.unusedVariables false
abbrev LB := List UInt8
abbrev St := LB × Bool
def wideP (n : Int) : Bool := decide (-2147483648 ≤ n) && decide (n ≤ 2147483647)
def intP (n : Int) : LB := be 4 (n % 4294967296).toNat
def txtP (s : LB) : LB := be 2 s.length ++ s
def catP : List LB → LB
  | [] => []
  | x :: l => x ++ catP l
def lstP (l : List LB) : LB := be 1 l.length ++ catP (l.map txtP)
def numsP (l : List Int) : LB := be 1 l.length ++ catP (l.map intP)
def wrap32 (n : Int) : Int := n.bmod 4294967296
def takeS (n : Nat) (st : St) : LB × St := if st.2 = true ∨ st.1.length < n then ([], (st.1, true)) else (st.1.take n, (st.1.drop n, false))
def numS (n : Nat) (st : St) : Nat × St := (numB (takeS n st).1, (takeS n st).2)
def intS (st : St) : Int × St := (wrap32 (numS 4 st).1, (numS 4 st).2)
def txtS (st : St) : LB × St := takeS (numS 2 st).1 (numS 2 st).2
def itemsS {α : Type} (f : St → α × St) : Nat → List α → St → List α × St
  | 0, out, st => (out, st)
  | k + 1, out, st => if (f st).2.2 = true then ([], (f st).2) else itemsS f k (out ++ [(f st).1]) (f st).2
def listS {α : Type} (f : St → α × St) (st : St) : List α × St := itemsS f (numS 1 st).1 [] (numS 1 st).2
theorem takeS_app (x r : LB) : takeS x.length (x ++ r, false) = (x, (r, false)) := by
  unfold takeS
  rw [if_neg (by simp)]
  simp
theorem takeS_back {n : Nat} {st : St} {x r : LB} (h : takeS n st = (x, (r, false))) : st = (x ++ r, false) ∧ x.length = n := by
  obtain ⟨l, b⟩ := st
  unfold takeS at h
  dsimp only at h
  split at h
  · injection h with h1 h2
    injection h2 with h2 h3
    cases h3
  · rename_i hc
    injection h with h1 h2
    injection h2 with h2 h3
    rw [← h1, ← h2, List.take_append_drop, List.length_take]
    have hb : b = false := by cases b <;> simp_all
    rw [hb]
    exact ⟨rfl, by omega⟩
theorem takeS_short {n : Nat} {st : St} (h : st.2 = true) : (takeS n st).2.2 = true := by
  unfold takeS
  rw [if_pos (.inl h)]
theorem numS_app (k n : Nat) (r : LB) (h : n < 256 ^ k) : numS k (be k n ++ r, false) = (n, (r, false)) := by
  have e := takeS_app (be k n) r
  rw [be_length] at e
  unfold numS
  rw [e]
  dsimp only
  rw [be_num, Nat.mod_eq_of_lt h]
theorem num_be (b : LB) (k : Nat) (h : b.length = k) : be k (numB b) = b := by
  subst h
  have inj : ∀ (n : Nat) (a b : LB), a.length = n → b.length = n → numB a = numB b → a = b := by
    intro n
    induction n with
    | zero => intro a b ha hb _; rw [List.eq_nil_of_length_eq_zero ha, List.eq_nil_of_length_eq_zero hb]
    | succ n ih =>
      intro a b ha hb h
      have ha0 : a ≠ [] := fun e => by subst e; simp at ha
      have hb0 : b ≠ [] := fun e => by subst e; simp at hb
      obtain ⟨a', x, rfl⟩ : ∃ a' x, a = a' ++ [x] := ⟨a.dropLast, a.getLast ha0, (List.dropLast_concat_getLast ha0).symm⟩
      obtain ⟨b', y, rfl⟩ : ∃ b' y, b = b' ++ [y] := ⟨b.dropLast, b.getLast hb0, (List.dropLast_concat_getLast hb0).symm⟩
      rw [numB_snoc, numB_snoc] at h
      have h1 := x.toNat_lt
      have h2 := y.toNat_lt
      have e : x = y := UInt8.toNat_inj.1 (by omega)
      subst e
      rw [ih a' b' (by simpa using ha) (by simpa using hb) (by omega)]
  refine inj b.length _ _ (be_length _ _) rfl ?_
  rw [be_num]
  exact Nat.mod_eq_of_lt (numB_lt b)
theorem numS_back {k n : Nat} {st : St} {r : LB} (h : numS k st = (n, (r, false))) : st = (be k n ++ r, false) ∧ n < 256 ^ k := by
  unfold numS at h
  injection h with h1 h2
  have h3 : takeS k st = ((takeS k st).1, (r, false)) := by rw [← h2]
  obtain ⟨e1, e2⟩ := takeS_back h3
  have h4 := numB_lt (takeS k st).1
  rw [e2, h1] at h4
  have h5 := num_be (takeS k st).1 k e2
  rw [h1] at h5
  rw [h5]
  exact ⟨e1, h4⟩
theorem numS_short {k : Nat} {st : St} (h : st.2 = true) : (numS k st).2.2 = true := takeS_short h
theorem wrap_int {v : Int} (h : wideP v = true) : wrap32 ((v % 4294967296).toNat : Int) = v := by
  unfold wideP at h
  rw [Bool.and_eq_true, decide_eq_true_eq, decide_eq_true_eq] at h
  unfold wrap32
  rw [Int.toNat_of_nonneg (Int.emod_nonneg _ (by decide))]
  rw [Int.bmod_def]
  split <;> omega
theorem int_wrap {n : Nat} (h : n < 4294967296) : (wrap32 (n : Int) % 4294967296).toNat = n ∧ wideP (wrap32 (n : Int)) = true := by
  unfold wrap32 wideP
  rw [Int.bmod_def]
  rw [Bool.and_eq_true, decide_eq_true_eq, decide_eq_true_eq]
  split <;> omega
theorem intS_app {v : Int} (r : LB) (h : wideP v = true) : intS (intP v ++ r, false) = (v, (r, false)) := by
  unfold intS intP
  rw [numS_app 4 _ r (by have := Int.emod_lt_of_pos v (show (0 : Int) < 4294967296 by decide); have := Int.emod_nonneg v (show (4294967296 : Int) ≠ 0 by decide); omega)]
  dsimp only
  rw [wrap_int h]
theorem intS_back {st : St} {v : Int} {r : LB} (h : intS st = (v, (r, false))) : st = (intP v ++ r, false) ∧ wideP v = true := by
  unfold intS at h
  injection h with h1 h2
  have h3 : numS 4 st = ((numS 4 st).1, (r, false)) := by rw [← h2]
  obtain ⟨e1, e2⟩ := numS_back h3
  have h4 : (256 : Nat) ^ 4 = 4294967296 := by decide
  have e2' : (numS 4 st).1 < 4294967296 := by omega
  obtain ⟨e3, e4⟩ := int_wrap e2'
  rw [h1] at e3 e4
  refine ⟨?_, e4⟩
  unfold intP
  rw [e3]
  exact e1
theorem intS_short {st : St} (h : st.2 = true) : (intS st).2.2 = true := by
  have h1 := numS_short (k := 4) h
  unfold intS
  dsimp only
  rw [h1]
theorem txtS_app {s : LB} (r : LB) (h : s.length ≤ 65535) : txtS (txtP s ++ r, false) = (s, (r, false)) := by
  unfold txtS txtP
  rw [List.append_assoc, numS_app 2 _ _ (by omega)]
  exact takeS_app s r
theorem txtS_back {st : St} {s r : LB} (h : txtS st = (s, (r, false))) : st = (txtP s ++ r, false) ∧ s.length ≤ 65535 := by
  unfold txtS at h
  obtain ⟨e1, e2⟩ := takeS_back h
  have h3 : numS 2 st = ((numS 2 st).1, (s ++ r, false)) := by rw [← e1]
  obtain ⟨e3, e4⟩ := numS_back h3
  rw [← e2] at e3 e4
  refine ⟨?_, by omega⟩
  unfold txtP
  rw [List.append_assoc]
  exact e3
theorem txtS_short {st : St} (h : st.2 = true) : (txtS st).2.2 = true := by
  have h1 := numS_short (k := 2) h
  unfold txtS
  rw [takeS_short h1]
theorem itemsS_app {α : Type} (f : St → α × St) (e : α → LB) (ok : α → Prop) (hf : ∀ x r, ok x → f (e x ++ r, false) = (x, (r, false))) (r : LB) : ∀ (l : List α) (out : List α), (∀ x ∈ l, ok x) → itemsS f l.length out (catP (l.map e) ++ r, false) = (out ++ l, (r, false))
  | [], out, _ => by simp [itemsS, catP]
  | x :: l, out, h => by
    rw [List.map_cons, catP, List.append_assoc, List.length_cons, itemsS, hf x _ (h x (List.mem_cons_self ..)), if_neg (by simp), itemsS_app f e ok hf r l _ (fun y hy => h y (List.mem_cons_of_mem _ hy)), List.append_assoc]
    rfl
theorem itemsS_back {α : Type} (f : St → α × St) (e : α → LB) (ok : α → Prop) (hf : ∀ st x r, f st = (x, (r, false)) → st = (e x ++ r, false) ∧ ok x) : ∀ (k : Nat) (out : List α) (st : St) (res : List α) (r : LB), st.2 = false → itemsS f k out st = (res, (r, false)) → ∃ l, res = out ++ l ∧ l.length = k ∧ st = (catP (l.map e) ++ r, false) ∧ ∀ x ∈ l, ok x
  | 0, out, st, res, r, _, h => by
    unfold itemsS at h
    injection h with h1 h2
    exact ⟨[], by simp [h1], rfl, by rw [h2]; rfl, fun x hx => nomatch hx⟩
  | k + 1, out, st, res, r, hs, h => by
    unfold itemsS at h
    split at h
    · rename_i hc
      injection h with h1 h2
      rw [h2] at hc
      cases hc
    · rename_i hc
      rcases hfs : f st with ⟨x, rr, b⟩
      rw [hfs] at h hc
      dsimp only at h hc
      have hb : b = false := by cases b <;> simp_all
      subst hb
      obtain ⟨e1, e2⟩ := hf st x rr hfs
      obtain ⟨l, h1, h2, h3, h4⟩ := itemsS_back f e ok hf k (out ++ [x]) (rr, false) res r rfl h
      injection h3 with h3 _
      refine ⟨x :: l, by rw [h1, List.append_assoc]; rfl, by rw [List.length_cons, h2], by rw [e1, List.map_cons, catP, h3, List.append_assoc], fun y hy => ?_⟩
      rcases List.mem_cons.1 hy with rfl | hy
      · exact e2
      · exact h4 y hy
end Go.Proofs.Ytedacfjkbfgikaa
