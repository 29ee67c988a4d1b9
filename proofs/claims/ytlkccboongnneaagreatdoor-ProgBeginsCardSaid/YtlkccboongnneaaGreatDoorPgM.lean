/- The programs as plain functions: what they write in all. -/
import Derived.Test.YtlkccboongnneaaGreatDoorDecP
import Derived.Lib.Join
namespace Go.Proofs.YtlkccboongnneaaGreatDoor
set_option linter.unusedVariables false
/-- A child. -/
structure PR where
  pid : Int
  prog : List UInt8
  args : List (List UInt8)
  env : List (List UInt8)
  fds : List Int
  done : Bool
  status : Int
  phase : Int
  count : Int
  buf : List UInt8
def nEcho : List UInt8 := [101, 99, 104, 111]
def nCat : List UInt8 := [99, 97, 116]
def nWc : List UInt8 := [119, 99]
def nHead : List UInt8 := [104, 101, 97, 100]
def nTr : List UInt8 := [116, 114]
def nTrue : List UInt8 := [116, 114, 117, 101]
def nFalse : List UInt8 := [102, 97, 108, 115, 101]
def nEnv : List UInt8 := [101, 110, 118]
def nFail : List UInt8 := [102, 97, 105, 108]
def nYes : List UInt8 := [121, 101, 115]
open Classical in
/-- The number that a text is, or none. -/
noncomputable def numOf (s : List UInt8) : Option Int := if h : ∃ v, i64R v ∧ Lib.itoa v = s then some (Classical.choose h) else none
theorem numOf_some {s : List UInt8} {v : Int} (hv : i64R v) (h : Lib.itoa v = s) : numOf s = some v := by
  have hx : ∃ v, i64R v ∧ Lib.itoa v = s := ⟨v, hv, h⟩
  unfold numOf
  rw [dif_pos hx]
  have := Classical.choose_spec hx
  rw [itoa_inj this.1 hv (this.2.trans h.symm)]
theorem numOf_none {s : List UInt8} (h : ∀ v, i64R v → Lib.itoa v ≠ s) : numOf s = none := by
  unfold numOf
  rw [dif_neg]
  rintro ⟨v, h1, h2⟩
  exact h v h1 h2
/-- What head counts down from. -/
noncomputable def headC : List (List UInt8) → Int
  | [] => 10
  | x :: _ => match numOf x with
    | some n => if 0 ≤ n then n else 10
    | none => 10
/-- The two bytes of tr. -/
def trB : List (List UInt8) → Option (UInt8 × UInt8)
  | [[a], [b]] => some (a, b)
  | _ => none
/-- What starts a child (the programs that the laws of cat, head, wc, tr and echo run). -/
noncomputable def startP (p : PR) : PR :=
  if p.prog = nEcho then { p with buf := Lib.join p.args.tail [32] ++ [10], phase := 3 }
  else if p.prog = nCat ∨ p.prog = nWc then { p with phase := 1 }
  else if p.prog = nHead then (if headC p.args.tail = 0 then { p with count := 0, phase := 4, status := 0 } else { p with count := headC p.args.tail, phase := 1 })
  else if p.prog = nTr then (if (trB p.args.tail).isSome then { p with phase := 1 } else { p with phase := 4, status := 1 })
  else { p with phase := 4, status := 127 }
noncomputable def begun (p : PR) : PR := if p.phase = 0 then startP p else p
/-- An action. -/
structure AC where
  kind : Int
  fd : Int
  n : Int
  data : List UInt8
  status : Int
noncomputable def nextP (p : PR) : AC :=
  if (begun p).phase = 4 then ⟨3, 0, 0, [], (begun p).status⟩
  else if (begun p).phase = 2 ∨ (begun p).phase = 3 then ⟨2, 1, 0, (begun p).buf, 0⟩
  else ⟨1, 0, 16, [], 0⟩
def wroteP (p : PR) (n : Nat) : PR :=
  if p.buf.drop n ≠ [] then { p with buf := p.buf.drop n }
  else if p.phase = 3 then { p with buf := [], phase := 4 }
  else { p with buf := [], phase := 1 }
def linesIn (d : List UInt8) : Nat := d.count 10
def countP (p : PR) (d : List UInt8) : Int := min (max p.count 0) 1099511627776 + (if p.args.tail.head? = some [45, 108] then (linesIn d : Int) else (d.length : Int))
def swap (a b : UInt8) (d : List UInt8) : List UInt8 := d.map fun x => if x = a then b else x
def passP (p : PR) (d : List UInt8) : List UInt8 := if p.prog = nTr then (match trB p.args.tail with
  | some (a, b) => swap a b d
  | none => d) else d
def headN (p : PR) (d : List UInt8) : Nat := min (max p.count 0).toNat d.length
def readP (p : PR) (d : List UInt8) : PR :=
  if d = [] then (if p.prog = nWc then { p with buf := Lib.itoa p.count ++ [10], phase := 3 } else { p with phase := 4 })
  else if p.prog = nWc then { p with count := countP p d }
  else if p.prog = nHead then { p with count := max p.count 0 - headN p d, buf := d.take (headN p d), phase := if max p.count 0 - headN p d = 0 then 3 else 2 }
  else { p with buf := passP p d, phase := 2 }
/-- After an action that went well. -/
noncomputable def afterP (p : PR) (n : Nat) (d : List UInt8) : PR :=
  if p.phase = 4 then p
  else if (begun p).phase = 4 then begun p
  else if (begun p).phase = 2 ∨ (begun p).phase = 3 then wroteP (begun p) n
  else readP (begun p) d
/-- What a child writes in so many rounds, with pieces to read. -/
noncomputable def ranP (at_ : Nat) : Nat → PR → List UInt8 → List (List UInt8) → List UInt8 × Int × Bool
  | 0, p, out, ps => (out, -1, true)
  | f + 1, p, out, ps =>
    if (nextP p).kind = 3 then (out, (nextP p).status, true)
    else if (nextP p).kind = 2 then ranP at_ f (afterP p (min (nextP p).data.length at_) []) (out ++ (nextP p).data.take (min (nextP p).data.length at_)) ps
    else ranP at_ f (afterP p 0 (ps.headD [])) out ps.tail
/-- So many rounds at most. -/
def rounds_ : List (List UInt8) → Nat
  | [] => 0
  | b :: l => b.length + 1 + rounds_ l
def flat : List (List UInt8) → List UInt8
  | [] => []
  | b :: l => b ++ flat l
theorem passP_len (p : PR) (d : List UInt8) : (passP p d).length = d.length := by
  unfold passP
  split
  · split
    · simp [swap]
    · rfl
  · rfl
theorem passP_app (p : PR) (a b : List UInt8) : passP p (a ++ b) = passP p a ++ passP p b := by
  unfold passP
  split
  · split
    · simp [swap]
    · rfl
  · rfl
theorem passP_nil (p : PR) : passP p [] = [] := List.eq_nil_of_length_eq_zero (passP_len p [])
theorem passP_congr {p q : PR} (h1 : q.prog = p.prog) (h2 : q.args = p.args) (d : List UInt8) : passP q d = passP p d := by
  unfold passP; rw [h1, h2]
theorem take_drop_len (l : List UInt8) (k : Nat) : l.take k ++ l.drop k = l := List.take_append_drop k l

/-- The rounds of a write: by parts, to the last. -/
theorem ran_write (at_ : Nat) (hat : 1 ≤ at_) : ∀ (k : Nat) (f : Nat) (p : PR) (out : List UInt8) (ps : List (List UInt8)), p.buf.length = k → p.buf ≠ [] → (p.phase = 2 ∨ p.phase = 3) →
    ∃ j, 1 ≤ j ∧ j ≤ k ∧ ∀ f, ranP at_ (f + j) p out ps = ranP at_ f { p with buf := [], phase := if p.phase = 3 then 4 else 1 } (out ++ p.buf) ps := by
  intro k
  induction k using Nat.strongRecOn with
  | _ k ih =>
    intro f p out ps hk hne hph
    have h0 : ¬ p.phase = 0 := by omega
    have h4 : ¬ p.phase = 4 := by omega
    have hb : begun p = p := by unfold begun; rw [if_neg h0]
    have hn : nextP p = ⟨2, 1, 0, p.buf, 0⟩ := by unfold nextP; rw [hb, if_neg h4, if_pos hph]
    have ha : ∀ n d, afterP p n d = wroteP p n := by intro n d; unfold afterP; rw [hb, if_neg h4, if_neg h4, if_pos hph]
    have hl : 0 < p.buf.length := List.length_pos_iff.2 hne
    by_cases hd : p.buf.drop (min p.buf.length at_) ≠ []
    · have hw : wroteP p (min p.buf.length at_) = { p with buf := p.buf.drop (min p.buf.length at_) } := by unfold wroteP; rw [if_pos hd]
      have hdl : (p.buf.drop (min p.buf.length at_)).length = k - min k at_ := by rw [List.length_drop, hk]
      obtain ⟨j, hj1, hj2, hj⟩ := ih (k - min k at_) (by omega) f { p with buf := p.buf.drop (min p.buf.length at_) } (out ++ p.buf.take (min p.buf.length at_)) ps hdl hd hph
      refine ⟨j + 1, by omega, by omega, fun f => ?_⟩
      rw [show f + (j + 1) = (f + j) + 1 from rfl, ranP, hn]
      dsimp only
      rw [if_neg (by decide), if_pos rfl, ha, hw, hj f]
      dsimp only
      rw [List.append_assoc, take_drop_len]
    · have hd' : p.buf.drop (min p.buf.length at_) = [] := Classical.not_not.1 hd
      have hfull : p.buf.take (min p.buf.length at_) = p.buf := by
        have := take_drop_len p.buf (min p.buf.length at_)
        rw [hd', List.append_nil] at this
        exact this
      refine ⟨1, Nat.le_refl _, by omega, fun f => ?_⟩
      rw [ranP, hn]
      dsimp only
      rw [if_neg (by decide), if_pos rfl, ha, hfull]
      congr 1
      unfold wroteP
      rw [if_neg hd]
      split <;> rfl

/-- An ended child. -/
theorem ran_end (at_ f : Nat) (p : PR) (out : List UInt8) (ps : List (List UInt8)) (h : (begun p).phase = 4) : ranP at_ (f + 1) p out ps = (out, (begun p).status, true) := by
  rw [ranP]
  have hn : nextP p = ⟨3, 0, 0, [], (begun p).status⟩ := by unfold nextP; rw [if_pos h]
  rw [hn, if_pos rfl]
/-- One that reads. -/
theorem ran_read (at_ f : Nat) (p : PR) (out : List UInt8) (ps : List (List UInt8)) (h4 : p.phase ≠ 4) (h : (begun p).phase = 1) : ranP at_ (f + 1) p out ps = ranP at_ f (readP (begun p) (ps.headD [])) out ps.tail := by
  rw [ranP]
  have hn : nextP p = ⟨1, 0, 16, [], 0⟩ := by unfold nextP; rw [if_neg (by omega), if_neg (by omega)]
  have ha : afterP p 0 (ps.headD []) = readP (begun p) (ps.headD []) := by unfold afterP; rw [if_neg h4, if_neg (by omega), if_neg (by omega)]
  rw [hn]
  dsimp only
  rw [if_neg (by decide), if_neg (by decide), ha]
theorem begun_one {p : PR} (h : p.phase = 1) : begun p = p := by unfold begun; rw [if_neg (by omega)]
theorem begun_two {p : PR} (h : p.phase = 4) : begun p = p := by unfold begun; rw [if_neg (by omega)]

/-- cat and tr write what they read. -/
theorem ran_pass (at_ : Nat) (hat : 1 ≤ at_) : ∀ (ps : List (List UInt8)) (f : Nat) (p : PR) (out : List UInt8), p.phase = 1 → p.prog ≠ nWc → p.prog ≠ nHead → (∀ b ∈ ps, b ≠ []) → rounds_ ps + 2 ≤ f →
    ranP at_ f p out ps = (out ++ passP p (flat ps), p.status, true) := by
  intro ps
  induction ps with
  | nil =>
    intro f p out h1 hw hh _ hf
    obtain ⟨f, rfl⟩ : ∃ g, f = g + 2 := ⟨f - 2, by simp only [rounds_] at hf; omega⟩
    rw [ran_read at_ (f + 1) p out [] (by omega) (by rw [begun_one h1]; exact h1), begun_one h1]
    have hr : readP p (([] : List (List UInt8)).headD []) = { p with phase := 4 } := by unfold readP; simp [hw]
    rw [hr, ran_end at_ f _ _ _ (by rw [begun_two rfl]), begun_two rfl]
    simp [flat, passP_nil]
  | cons b l ih =>
    intro f p out h1 hw hh hne hf
    have hb : b ≠ [] := hne b (by simp)
    simp only [rounds_] at hf
    obtain ⟨f, rfl⟩ : ∃ g, f = g + 1 := ⟨f - 1, by omega⟩
    rw [ran_read at_ f p out (b :: l) (by omega) (by rw [begun_one h1]; exact h1), begun_one h1]
    have hr : readP p ((b :: l).headD []) = { p with buf := passP p b, phase := 2 } := by unfold readP; simp [hb, hw, hh]
    rw [hr]
    have hpl := passP_len p b
    obtain ⟨j, hj1, hj2, hj⟩ := ran_write at_ hat b.length 0 { p with buf := passP p b, phase := 2 } out l hpl (by intro h; dsimp only at h; rw [h] at hpl; exact hb (List.eq_nil_of_length_eq_zero hpl.symm)) (.inl rfl)
    obtain ⟨f, rfl⟩ : ∃ g, f = g + j := ⟨f - j, by omega⟩
    rw [List.tail_cons, hj f]
    dsimp only
    rw [if_neg (by decide)]
    have := ih f { p with buf := [], phase := 1 } (out ++ passP p b) rfl hw hh (fun x hx => hne x (by simp [hx])) (by omega)
    rw [this, passP_congr (p := p) (q := { p with buf := [], phase := 1 }) rfl rfl]
    simp [flat, passP_app]

/-- head writes the first of what it reads. -/
theorem ran_head (at_ : Nat) (hat : 1 ≤ at_) : ∀ (ps : List (List UInt8)) (f : Nat) (p : PR) (out : List UInt8) (c : Nat), p.phase = 1 → p.prog = nHead → p.count = c → 1 ≤ c → (∀ b ∈ ps, b ≠ []) → rounds_ ps + 2 ≤ f →
    ranP at_ f p out ps = (out ++ (flat ps).take c, p.status, true) := by
  intro ps
  induction ps with
  | nil =>
    intro f p out c h1 hh hc hc1 _ hf
    obtain ⟨f, rfl⟩ : ∃ g, f = g + 2 := ⟨f - 2, by simp only [rounds_] at hf; omega⟩
    rw [ran_read at_ (f + 1) p out [] (by omega) (by rw [begun_one h1]; exact h1), begun_one h1]
    have hr : readP p (([] : List (List UInt8)).headD []) = { p with phase := 4 } := by unfold readP; simp [hh, nHead, nWc]
    rw [hr, ran_end at_ f _ _ _ (by rw [begun_two rfl]), begun_two rfl]
    simp [flat]
  | cons b l ih =>
    intro f p out c h1 hh hc hc1 hne hf
    have hb : b ≠ [] := hne b (by simp)
    have hbl : 0 < b.length := List.length_pos_iff.2 hb
    simp only [rounds_] at hf
    obtain ⟨f, rfl⟩ : ∃ g, f = g + 1 := ⟨f - 1, by omega⟩
    rw [ran_read at_ f p out (b :: l) (by omega) (by rw [begun_one h1]; exact h1), begun_one h1]
    have hN : headN p b = min c b.length := by unfold headN; rw [hc]; congr 1; omega
    have hm : max p.count 0 = (c : Int) := by rw [hc]; omega
    have hr : readP p ((b :: l).headD []) = { p with count := (c : Int) - (min c b.length : Nat), buf := b.take (min c b.length), phase := if (c : Int) - (min c b.length : Nat) = 0 then 3 else 2 } := by
      unfold readP
      rw [List.headD_cons, if_neg hb, if_neg (by rw [hh]; decide), if_pos hh, hN, hm]
    rw [hr]
    have hbt : (b.take (min c b.length)).length = min c b.length := by rw [List.length_take]; omega
    have hflat : flat (b :: l) = b ++ flat l := rfl
    by_cases hz : c ≤ b.length
    · have e1 : min c b.length = c := by omega
      rw [e1, if_pos (by omega)]
      rw [e1] at hbt
      obtain ⟨j, hj1, hj2, hj⟩ := ran_write at_ hat c 0 { p with count := (c : Int) - (c : Nat), buf := b.take c, phase := 3 } out l hbt (by intro h; dsimp only at h; rw [h] at hbt; simp at hbt; omega) (.inr rfl)
      obtain ⟨f, rfl⟩ : ∃ g, f = (g + 1) + j := ⟨f - j - 1, by omega⟩
      rw [List.tail_cons, hj (f + 1)]
      dsimp only
      rw [if_pos rfl, ran_end at_ f _ _ _ (by rw [begun_two rfl]), begun_two rfl, hflat, List.take_append_of_le_length hz]
    · have e1 : min c b.length = b.length := by omega
      rw [e1, if_neg (by omega), List.take_of_length_le (Nat.le_refl _)]
      obtain ⟨j, hj1, hj2, hj⟩ := ran_write at_ hat b.length 0 { p with count := (c : Int) - (b.length : Nat), buf := b, phase := 2 } out l rfl hb (.inl rfl)
      obtain ⟨f, rfl⟩ : ∃ g, f = g + j := ⟨f - j, by omega⟩
      rw [List.tail_cons, hj f]
      dsimp only
      rw [if_neg (by decide)]
      have := ih f { p with count := (c : Int) - (b.length : Nat), buf := [], phase := 1 } (out ++ b) (c - b.length) rfl hh (by dsimp only; omega) (by omega) (fun x hx => hne x (by simp [hx])) (by omega)
      rw [this, hflat, List.take_append, List.take_of_length_le (l := b) (by omega)]
      simp

/-- What wc counts of a piece. -/
def wcN (p : PR) (d : List UInt8) : Nat := if p.args.tail.head? = some [45, 108] then linesIn d else d.length
theorem wcN_app (p : PR) (a b : List UInt8) : wcN p (a ++ b) = wcN p a + wcN p b := by unfold wcN linesIn; split <;> simp
theorem wcN_le (p : PR) (a : List UInt8) : wcN p a ≤ a.length := by
  unfold wcN linesIn
  split
  · exact List.count_le_length
  · exact Nat.le_refl _
theorem ran_wc (at_ : Nat) (hat : 1 ≤ at_) : ∀ (ps : List (List UInt8)) (f : Nat) (p : PR) (out : List UInt8) (c : Nat), p.phase = 1 → p.prog = nWc → p.count = c → c + (flat ps).length ≤ 1000000 → (∀ b ∈ ps, b ≠ []) → rounds_ ps + 30 ≤ f →
    ranP at_ f p out ps = (out ++ (Lib.itoa ((c + wcN p (flat ps) : Nat) : Int) ++ [10]), p.status, true) := by
  intro ps
  induction ps with
  | nil =>
    intro f p out c h1 hh hc hc1 _ hf
    obtain ⟨f, rfl⟩ : ∃ g, f = g + 1 := ⟨f - 1, by simp only [rounds_] at hf; omega⟩
    rw [ran_read at_ f p out [] (by omega) (by rw [begun_one h1]; exact h1), begun_one h1]
    have hr : readP p (([] : List (List UInt8)).headD []) = { p with buf := Lib.itoa (c : Int) ++ [10], phase := 3 } := by unfold readP; simp [hh, hc]
    rw [hr]
    have hl : (Lib.itoa (c : Int)).length ≤ 20 := itoa_len _ ⟨by omega, by simp only [flat] at hc1; omega⟩
    obtain ⟨j, hj1, hj2, hj⟩ := ran_write at_ hat _ 0 { p with buf := Lib.itoa (c : Int) ++ [10], phase := 3 } out [] rfl (by simp) (.inr rfl)
    have hl2 : (Lib.itoa (c : Int) ++ [10]).length ≤ 21 := by simp; omega
    dsimp only at hj2
    simp only [rounds_] at hf
    obtain ⟨f, rfl⟩ : ∃ g, f = (g + 1) + j := ⟨f - j - 1, by omega⟩
    rw [List.tail_nil, hj (f + 1)]
    dsimp only
    rw [if_pos rfl, ran_end at_ f _ _ _ (by rw [begun_two rfl]), begun_two rfl]
    simp [flat, wcN, linesIn]
  | cons b l ih =>
    intro f p out c h1 hh hc hc1 hne hf
    have hb : b ≠ [] := hne b (by simp)
    simp only [rounds_] at hf
    obtain ⟨f, rfl⟩ : ∃ g, f = g + 1 := ⟨f - 1, by omega⟩
    rw [ran_read at_ f p out (b :: l) (by omega) (by rw [begun_one h1]; exact h1), begun_one h1]
    have hC : countP p b = ((c + wcN p b : Nat) : Int) := by
      unfold countP wcN
      rw [hc, Int.max_eq_left (by omega), Int.min_eq_left (by simp only [flat, List.length_append] at hc1; omega)]
      split <;> simp
    have hr : readP p ((b :: l).headD []) = { p with count := ((c + wcN p b : Nat) : Int) } := by
      unfold readP
      rw [List.headD_cons, if_neg hb, if_pos hh, hC]
    have hwl := wcN_le p b
    simp only [flat, List.length_append] at hc1
    rw [hr, List.tail_cons, ih f { p with count := ((c + wcN p b : Nat) : Int) } out (c + wcN p b) h1 hh rfl (by omega) (fun x hx => hne x (by simp [hx])) (by omega)]
    have e : ∀ x, wcN { p with count := ((c + wcN p b : Nat) : Int) } x = wcN p x := fun x => rfl
    rw [e, flat, wcN_app, Nat.add_assoc]
end Go.Proofs.YtlkccboongnneaaGreatDoor
