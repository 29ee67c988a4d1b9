/- Plain mathematics of arith: written numbers and an operator between two of them. -/
import Derived.Test.YtglgldmofibedaaGreatDoorArR
namespace Go.Proofs.YtglgldmofibedaaGreatDoor
set_option linter.unusedVariables false

theorem isD_of {c : UInt8} (h : isDg c) : isD c = true := by unfold isDg at h; unfold isD; simp [h.1, h.2]
/-- A text that goes on behind a number. -/
def GT (t : Tok) : Prop := t = [] ∨ t.head? = some 32 ∨ t.head? = some 41
theorem run_digits (k : UInt8 → Bool) (hk : k 32 = false ∧ k 41 = false) : ∀ (ds t : Tok), (∀ c ∈ ds, k c = true) → GT t → runP k (ds ++ t) = ds.length
  | [], [], _, _ => rfl
  | [], d :: t, _, h => by
    rw [List.nil_append, runP, if_neg]; · rfl
    rcases h with h | h | h
    · exact absurd h (by simp)
    · simp at h; rw [h, hk.1]; simp
    · simp at h; rw [h, hk.2]; simp
  | c :: ds, t, h, ht => by rw [List.cons_append, runP, if_pos (h c (by simp)), run_digits k hk ds t (fun x hx => h x (by simp [hx])) ht]; rfl
theorem hex_digits (ds t : Tok) (h : ∀ c ∈ ds, isDg c) (h0 : ds ≠ []) (ht : GT t) : isHex (ds ++ t) = false := by
  match ds, h0 with
  | [a], _ =>
    match t, ht with
    | [], _ => rfl
    | [b], _ => rfl
    | b :: c :: r, ht =>
      rcases ht with h | h | h
      · exact absurd h (by simp)
      · simp at h; subst h; simp [isHex]
      · simp at h; subst h; simp [isHex]
  | a :: b :: l, _ =>
    have hb := h b (by simp)
    have : (b == 120) = false := by
      rw [beq_eq_false_iff_ne]
      rintro rfl
      unfold isDg at hb
      exact absurd hb (by decide)
    match l, t with
    | [], [] => rfl
    | [], c :: r => simp [isHex, this]
    | c :: r, _ => simp [isHex, this]
theorem tk_digits (ds t : Tok) (h : ∀ c ∈ ds, isDg c) (h0 : ds ≠ []) (ht : GT t) : tk (ds ++ t) = (tk t).map (ds :: ·) := by
  have hr := run_digits isD ⟨by decide, by decide⟩ ds t (fun c hc => isD_of (h c hc)) ht
  refine tk_op ds t ?_ h0 ?_
  · match ds, h0 with
    | c :: l, _ =>
      rw [List.cons_append, trimP, if_neg]
      have := h c (by simp)
      unfold isB
      simp only [Bool.or_eq_true, beq_iff_eq, not_or]
      unfold isDg at this
      refine ⟨⟨?_, ?_⟩, ?_⟩ <;> (rintro rfl; exact absurd this (by decide))
  · unfold tokP
    rw [hex_digits ds t h h0 ht, if_neg (by simp)]
    match ds, h0 with
    | c :: l, _ =>
      dsimp only [List.cons_append]
      rw [if_pos (isD_of (h c (by simp)))]
      exact hr
/-- The tokens of a written number. -/
def SA (a : Int) : List Tok := if a < 0 then [[45], Lib.decDigits a.natAbs] else [Lib.decDigits a.natAbs]
theorem tk_itoa (a : Int) (t : Tok) (ht : GT t) : tk (Lib.itoa a ++ t) = (tk t).map (SA a ++ ·) := by
  unfold SA
  rcases itoa_shape a with ⟨h, e⟩ | ⟨h, e⟩
  · rw [e, if_pos h, List.cons_append, tk_minus, tk_digits _ _ (dec_dg _) (dec_ne _) ht]
    cases tk t <;> rfl
  · rw [e, if_neg (by omega), tk_digits _ _ (dec_dg _) (dec_ne _) ht]
    cases tk t <;> rfl
theorem numD_val : ∀ (l : Tok) (a : Int) (b : Nat), (∀ c ∈ l, isDg c) → a = ((b % 18446744073709551616 : Nat) : Int) → numD 10 l a = ((val b l % 18446744073709551616 : Nat) : Int)
  | [], a, b, _, h => by unfold numD; rw [val_nil]; exact h
  | c :: l, a, b, h, e => by
    have hc := h c (by simp)
    have hv : hexV c = ((c.toNat - 48 : Nat) : Int) := by
      unfold isDg at hc
      unfold hexV; rw [if_pos (isD_of hc)]; omega
    rw [show numD 10 (c :: l) a = numD 10 l ((a * 10 + hexV c) % 18446744073709551616) from rfl, val_cons]
    refine numD_val l _ _ (fun x hx => h x (by simp [hx])) ?_
    rw [hv, e]; omega
theorem num_dec (u : Nat) (h : u < 18446744073709551616) : numP (Lib.decDigits u) = W u := by
  have hd := dec_dg u
  have hv := dec_val u
  have hs : startsP (Lib.decDigits u) [48, 120] = false := by
    match hl : Lib.decDigits u with
    | [] => rfl
    | [a] => simp [startsP]
    | a :: b :: l =>
      have hb := hd b (by rw [hl]; simp)
      have : (b == 120) = false := by
        rw [beq_eq_false_iff_ne]; rintro rfl; unfold isDg at hb; exact absurd hb (by decide)
      simp [startsP, this]
  unfold numP
  rw [hs, if_neg (by simp), numD_val _ 0 0 hd rfl, hv, Nat.mod_eq_of_lt h]
theorem un_digits {vars : List Tok} {k : Nat} {u : Nat} (hu : u < 18446744073709551616) (r : List Tok) (z : Bool) :
    (EU vars (k + 1)).2 (Lib.decDigits u :: r) z = .ok (W u) r z := by
  have hdd := dec_dg u
  have hn := dec_ne u
  have hnum := num_dec u hu
  rw [show (EU vars (k + 1)).2 = unF vars (EU vars k).1 (EU vars k).2 from rfl]
  generalize Lib.decDigits u = ds at *
  match ds, hn with
  | c :: l, _ =>
    have hc := hdd c (by simp)
    have hne : ∀ x : UInt8, ¬ isDg x → (c == x) = false := by
      intro x hx; rw [beq_eq_false_iff_ne]; rintro rfl; exact hx hc
    unfold unF
    rw [show hd ((c :: l) :: r) = c :: l from rfl, if_neg (by simp)]
    rw [if_neg (by
      unfold unaryP
      simp [hne 43 (by unfold isDg; decide), hne 45 (by unfold isDg; decide), hne 33 (by unfold isDg; decide), hne 126 (by unfold isDg; decide)])]
    rw [if_neg (by simp [hne 40 (by unfold isDg; decide)])]
    rw [if_pos (by simpa using isD_of hc), hnum]
    rfl
theorem un_SA {vars : List Tok} {k : Nat} {a : Int} (ha : i64R a) (r : List Tok) (z : Bool) :
    (EU vars (k + 2)).2 (SA a ++ r) z = .ok a r z := by
  unfold i64R at ha
  unfold SA
  split
  · have h := un_neg (vars := vars) (k := k + 1) (un_digits (vars := vars) (k := k) (u := a.natAbs) (by omega) r z)
    rw [show ([[45], Lib.decDigits a.natAbs] ++ r) = [45] :: (Lib.decDigits a.natAbs :: r) from rfl, h]
    congr 1
    rw [W_eq, W_eq]; split <;> split <;> omega
  · rw [show ([Lib.decDigits a.natAbs] ++ r) = Lib.decDigits a.natAbs :: r from rfl, un_digits (by omega)]
    congr 1
    rw [show ((a.natAbs : Nat) : Int) = a by omega]
    exact W_id ha
theorem un_SAb {vars : List Tok} {k : Nat} {a : Int} (ha : i64R a) (r : List Tok) (z : Bool) :
    (EU vars (k + 3)).2 ([40] :: SA a ++ [41] :: r) z = .ok a r z := by
  refine un_br ?_
  exact ex_stop (un_SA ha _ _) (.inr rfl)

/- ---- an operator between two operands ---- -/
/-- Where an operator's level is. -/
def SplitAt (o : Tok) (L1 : List (List Tok)) (l : List Tok) (L2 : List (List Tok)) : Bool := memP o l && (L2.all fun x => !memP o x)
theorem binB_pre {f : Ev} {r : List Tok} {z z' : Bool} {n : Int} (X : List (List Tok)) (h : binB X f r z = .ok n [] z') : ∀ L1, (∀ l ∈ L1, NoBr l) → binB (L1 ++ X) f r z = .ok n [] z'
  | [], _ => h
  | l :: L1, hl => by
    rw [List.cons_append]
    unfold binB
    rw [binB_pre X h L1 (fun x hx => hl x (by simp [hx]))]
    exact loopB_stop (hl l (by simp)).1
theorem binB_op {f : Ev} {r r2 : List Tok} {o : Tok} {z z1 z2 : Bool} {n m : Int} {L1 L2 : List (List Tok)} {l : List Tok}
    (hs : SplitAt o L1 l L2 = true) (hN : ∀ x ∈ L1 ++ l :: L2, NoBr x)
    (h1 : f r z = .ok n (o :: r2) z1) (h2 : f r2 z1 = .ok m [] z2) :
    binB (L1 ++ l :: L2) f r z = .ok (applyP o n m).1 [] (z2 || ((applyP o n m).2 == 32)) := by
  unfold SplitAt at hs
  simp only [Bool.and_eq_true, List.all_eq_true, Bool.not_eq_true'] at hs
  refine binB_pre _ ?_ L1 (fun x hx => hN x (by simp [hx]))
  have b1 : binB L2 f r z = .ok n (o :: r2) z1 := binB_stop h1 L2 (fun x hx => hs.2 x hx)
  have b2 : binB L2 f r2 z1 = .ok m [] z2 := binB_stop h2 L2 (fun x hx => (hN x (by simp [hx])).1)
  unfold binB
  rw [b1]
  show loopB l (binB L2 f) (1998 + 1 + 1) n (o :: r2) z1 = _
  rw [loopB, if_pos (show memP (hd (o :: r2)) l = true from hs.1), show (o :: r2 : List Tok).tail = r2 from rfl, b2]
  exact loopB_stop (hN l (by simp)).1
/-- The operators of the law, in its order. -/
def lawOps : List Tok := [[43], [45], [42], [47], [37], [60, 60], [62, 62], [60], [62], [60, 61], [62, 61], [61, 61], [33, 61], [38], [94], [124], [38, 38], [124, 124]]
/-- The levels above, at and below an operator. -/
def cutsOf (o : Tok) : List (List Tok) → Option (List (List Tok) × List Tok × List (List Tok))
  | [] => none
  | l :: ls => if memP o l then some ([], l, ls) else (cutsOf o ls).map fun x => (l :: x.1, x.2.1, x.2.2)
def cutOk (o : Tok) : Bool :=
  match cutsOf o lvls with
  | none => false
  | some x => SplitAt o x.1 x.2.1 x.2.2 && decide (x.1 ++ x.2.1 :: x.2.2 = lvls)
theorem cut_all : ∀ o ∈ lawOps, cutOk o = true := by decide
theorem ex_op {vars : List Tok} {k : Nat} {r r2 : List Tok} {o : Tok} {z z1 z2 : Bool} {n m : Int} (ho : o ∈ lawOps)
    (h1 : (EU vars (k + 1)).2 r z = .ok n (o :: r2) z1) (h2 : (EU vars (k + 1)).2 r2 z1 = .ok m [] z2) :
    (EU vars (k + 1)).1 r z = .ok (applyP o n m).1 [] (z2 || ((applyP o n m).2 == 32)) := by
  have hc := cut_all o ho
  unfold cutOk at hc
  split at hc
  · exact absurd hc (by simp)
  rename_i x _
  simp only [Bool.and_eq_true, decide_eq_true_eq] at hc
  have hb := binB_op (f := (EU vars (k + 1)).2) hc.1 (by rw [hc.2]; exact noBr_all) h1 h2
  rw [hc.2] at hb
  rw [show (EU vars (k + 1)).1 = exF (binB lvls (EU vars (k + 1)).2) (EU vars k).1 from rfl]
  unfold exF
  rw [hb]
  rfl
theorem op_tok : ∀ o ∈ lawOps, ∀ t, (t.head? = some 32 ∨ t.head? = some 40) → tk (o ++ t) = (tk t).map (o :: ·) := by
  intro o ho t ht
  match t, ht with
  | [], ht => simp at ht
  | d :: t, ht =>
    simp only [List.head?_cons, Option.some.injEq] at ht
    refine tk_op o _ ?_ ?_ ?_
    · simp only [lawOps, List.mem_cons, List.not_mem_nil, or_false] at ho
      rcases ho with rfl | rfl | rfl | rfl | rfl | rfl | rfl | rfl | rfl | rfl | rfl | rfl | rfl | rfl | rfl | rfl | rfl | rfl <;> simp [trimP, isB]
    · simp only [lawOps, List.mem_cons, List.not_mem_nil, or_false] at ho
      rcases ho with rfl | rfl | rfl | rfl | rfl | rfl | rfl | rfl | rfl | rfl | rfl | rfl | rfl | rfl | rfl | rfl | rfl | rfl <;> simp
    · simp only [lawOps, List.mem_cons, List.not_mem_nil, or_false] at ho
      rcases ht with rfl | rfl <;>
      rcases ho with rfl | rfl | rfl | rfl | rfl | rfl | rfl | rfl | rfl | rfl | rfl | rfl | rfl | rfl | rfl | rfl | rfl | rfl <;> cases t <;> simp [tokP, isHex, opsP, opLen, startsP, isD, isL]
theorem gt_of {t : Tok} {d : UInt8} (h : d = 32 ∨ d = 41) : GT (d :: t) := by
  rcases h with rfl | rfl
  · exact .inr (.inl rfl)
  · exact .inr (.inr rfl)

/-- A written number is itself. -/
theorem eval_one (a : Int) (ha : i64R a) (vars : List Tok) : evalP (Lib.itoa a) vars = (a, 0) := by
  have hl := itoa_len a ha
  have h1 : tk (Lib.itoa a) = some (SA a) := by
    have := tk_itoa a [] (.inl rfl)
    rw [List.append_nil, tk_nil] at this
    rw [this]; simp
  have h2 := ex_stop (vars := vars) (k := 39) (r := SA a) (z := false) (by
    have := un_SA (vars := vars) (k := 38) ha [] false
    rw [List.append_nil] at this
    exact this) (.inl rfl)
  unfold evalP
  rw [toksP_eq (by omega), h1]
  dsimp only
  rw [if_neg (by unfold SA; split <;> simp), h2]
  rfl
/-- An operator between two written numbers, with blanks. -/
theorem eval_two (a b : Int) (ha : i64R a) (hb : i64R b) (o : Tok) (ho : o ∈ lawOps) (vars : List Tok) :
    evalP (Lib.itoa a ++ [32] ++ o ++ [32] ++ Lib.itoa b) vars = endP (.ok (applyP o a b).1 [] ((applyP o a b).2 == 32)) := by
  have hla := itoa_len a ha
  have hlb := itoa_len b hb
  have hlo : o.length ≤ 2 := (show ∀ o ∈ lawOps, o.length ≤ 2 by decide) o ho
  have h1 : tk (Lib.itoa a ++ [32] ++ o ++ [32] ++ Lib.itoa b) = some (SA a ++ (o :: (SA b ++ []))) := by
    have h0 := tk_itoa b [] (.inl rfl)
    rw [List.append_nil, tk_nil] at h0
    rw [show (Lib.itoa a ++ [32] ++ o ++ [32] ++ Lib.itoa b : Tok) = Lib.itoa a ++ (32 :: (o ++ (32 :: Lib.itoa b))) by simp]
    rw [tk_itoa a _ (gt_of (.inl rfl)), tk_blank, op_tok o ho _ (.inl rfl), tk_blank, h0]
    rfl
  have h2 := ex_op (vars := vars) (k := 39) (z := false) ho (un_SA (vars := vars) (k := 38) ha (o :: (SA b ++ [])) false) (un_SA (vars := vars) (k := 38) hb [] false)
  unfold evalP
  rw [toksP_eq (by simp; omega), h1]
  dsimp only
  rw [if_neg (by simp), h2]
  rfl
/-- The same with brackets. -/
theorem eval_twob (a b : Int) (ha : i64R a) (hb : i64R b) (o : Tok) (ho : o ∈ lawOps) (vars : List Tok) :
    evalP ([40] ++ Lib.itoa a ++ [41] ++ o ++ [40] ++ Lib.itoa b ++ [41]) vars = endP (.ok (applyP o a b).1 [] ((applyP o a b).2 == 32)) := by
  have hla := itoa_len a ha
  have hlb := itoa_len b hb
  have hlo : o.length ≤ 2 := (show ∀ o ∈ lawOps, o.length ≤ 2 by decide) o ho
  have h1 : tk ([40] ++ Lib.itoa a ++ [41] ++ o ++ [40] ++ Lib.itoa b ++ [41]) = some ([40] :: SA a ++ [41] :: (o :: ([40] :: SA b ++ [41] :: []))) := by
    rw [show ([40] ++ Lib.itoa a ++ [41] ++ o ++ [40] ++ Lib.itoa b ++ [41] : Tok) = 40 :: (Lib.itoa a ++ (41 :: (o ++ (40 :: (Lib.itoa b ++ (41 :: [])))))) by simp]
    rw [tk_open, tk_itoa a _ (gt_of (.inr rfl)), tk_shut, op_tok o ho _ (.inr rfl), tk_open, tk_itoa b _ (gt_of (.inr rfl)), tk_shut, tk_nil]
    simp
  have h2 := ex_op (vars := vars) (k := 39) (z := false) ho (un_SAb (vars := vars) (k := 37) ha (o :: ([40] :: SA b ++ [41] :: [])) false) (un_SAb (vars := vars) (k := 37) hb [] false)
  unfold evalP
  rw [toksP_eq (by simp; omega), h1]
  dsimp only
  rw [if_neg (by simp), h2]
  rfl
/-- An operator's error is none or the one of a division by nothing. -/
theorem apply_e (a b : Int) : ∀ o ∈ lawOps, (applyP o a b).2 = 0 ∨ (applyP o a b).2 = 32 := by
  intro o ho
  simp only [lawOps, List.mem_cons, List.not_mem_nil, or_false] at ho
  rcases ho with rfl | rfl | rfl | rfl | rfl | rfl | rfl | rfl | rfl | rfl | rfl | rfl | rfl | rfl | rfl | rfl | rfl | rfl <;> simp [applyP, cmpP] <;> (split <;> simp)
end Go.Proofs.YtglgldmofibedaaGreatDoor
