/- Policies read and written, in plain words; what is written is read again. No program in it. -/
import Derived.Test.YthbackkcamgidaaGreatDoorRuM
namespace Go.Proofs.YthbackkcamgidaaGreatDoor
open Go.RowKit
set_option linter.unusedVariables false
structure RU where
  al : Bool
  ops : List Int
  path : LB
  wi : Bool
  args : List LB
  mo : Bool
structure EU where
  k : Int
  pat : LB
  val : LB
structure PL where
  root : LB
  rules : List RU
  env : List EU
def p0 : PL := ⟨[47], [], []⟩
def pz : PL := ⟨[], [], []⟩
/-- Why a text can't be a path. -/
def checkU (p : LB) : Int := if p = [] then 20 else if 256 < p.length then 31 else if (splitC 47 p).all (fun k => decide (k.length ≤ 32)) = false then 31 else if decide (0 ≤ Lib.indexByte p 0) = true then 32 else 0
def rootedU (p : LB) : Bool := rooted p && (clean p == p && decide (checkU p = 0))
def wRoot : LB := [114, 111, 111, 116]
def wAllow : LB := [97, 108, 108, 111, 119]
def wDeny : LB := [100, 101, 110, 121]
def wEnv : LB := [101, 110, 118]
def wKeep : LB := [107, 101, 101, 112]
def wDrop : LB := [100, 114, 111, 112]
def wSet : LB := [115, 101, 116]
def wArgs : LB := [97, 114, 103, 115]
def wDots : LB := [46, 46, 46]
/-- May an EnvRule be? -/
def formsU (n v : LB) : Bool := match parseP (n ++ 61 :: v) with
  | some q => q.1 == n
  | none => false
def rightE (e : EU) : Bool := if e.k = 1 ∨ e.k = 2 then decide (1 ≤ e.pat.length) && (decide (e.pat.length ≤ 256) && (e.val == [])) else if e.k = 3 then formsU e.pat e.val else false
def addU (p : PL) (e : EU) : Option PL := if rightE e = true then (if p.env.length < 64 then some { p with env := p.env ++ [e] } else none) else none
def patU (k : Int) : List LB → PL → Option PL
  | [], p => some p
  | w :: ws, p => (addU p ⟨k, w, []⟩).bind (patU k ws)
/-- What follows args. -/
def dotted (ws : List LB) : Bool := ws.getLast? == some wDots
def argsU (ws : List LB) : Option (List LB × Bool) :=
  if (if dotted ws = true then ws.dropLast else ws).length ≤ 16 then (if ((if dotted ws = true then ws.dropLast else ws).all fun w => decide (w.length ≤ 256)) = true then some ((if dotted ws = true then ws.dropLast else ws), dotted ws) else none) else none
def ruleU (p : PL) (al : Bool) (o path : LB) (more : List LB) : Option PL :=
  if p.rules.length < 64 then match opsU o with
    | none => none
    | some l => if rooted path = true then (if path.length ≤ 256 then match more with
        | [] => some { p with rules := p.rules ++ [⟨al, l, path, false, [], false⟩] }
        | a :: ws => if a = wArgs then (if l = [7] then match argsU ws with
            | none => none
            | some q => some { p with rules := p.rules ++ [⟨al, l, path, true, q.1, q.2⟩] } else none) else none else none) else none
  else none
def setU (p : PL) (k : LB) (ws : List LB) : Option PL :=
  if k = wKeep then patU 1 ws p else if k = wDrop then patU 2 ws p else if k = wSet then
    (if posE (ws.headD []) < (ws.headD []).length then (if ws.length = 1 then addU p ⟨3, (ws.headD []).take (posE (ws.headD [])), (ws.headD []).drop (posE (ws.headD []) + 1)⟩ else none) else none)
  else none
def lineU (p : PL) (first : Bool) : List LB → Option PL
  | [] => none
  | w :: ws =>
    if w = wRoot then (if first = true then (if ws.length = 1 then (if rootedU (ws.headD []) = true then some { p with root := ws.headD [] } else none) else none) else none)
    else if w = wAllow ∨ w = wDeny then (match ws with
      | o :: path :: more => ruleU p (w == wAllow) o path more
      | _ => none)
    else if w = wEnv then (match ws with
      | k :: v :: more => setU p k (v :: more)
      | _ => none)
    else none
def runU : Nat → PL → Bool → List (List LB) → PL × Nat
  | _, p, _, [] => (p, 0)
  | k, p, f, w :: r => if w = [] then runU (k + 1) p f r else match lineU p f w with
    | none => (pz, k + 1)
    | some q => runU (k + 1) q false r
def parse0 (s : LB) : PL × Nat := runU 0 p0 true (rowsU s)
def parseU (s : LB) : PL × Nat := if 8192 < s.length then (pz, 1) else parse0 s
/-- How a policy is written. -/
def ruleW (r : RU) : List LB := (if r.al = true then wAllow else wDeny) :: opsWordU r.ops :: r.path :: ((if r.wi = true then wArgs :: r.args else []) ++ (if r.mo = true then [wDots] else []))
def saidU (e : EU) : LB := if e.k = 1 ∨ e.k = 2 then e.pat else e.pat ++ 61 :: e.val
def envW (e : EU) : List LB := [wEnv, if e.k = 1 then wKeep else if e.k = 2 then wDrop else wSet, saidU e]
def linesW (p : PL) : List (List LB) := [wRoot, p.root] :: (p.rules.map ruleW ++ p.env.map envW)
def textW (ls : List (List LB)) : LB := ls.flatMap fun ws => Lib.join ws [32] ++ [10]
def writeU (p : PL) : LB := textW (linesW p)
/-- May a policy be? -/
def RightR (r : RU) : Prop := rooted r.path = true ∧ r.path.length ≤ 256 ∧ PW r.path ∧ OpsR r.ops ∧
  (r.wi = false → r.args = [] ∧ r.mo = false) ∧ (r.wi = true → r.ops = [7] ∧ r.args.length ≤ 16 ∧ (∀ a ∈ r.args, a.length ≤ 256 ∧ PW a) ∧ (r.mo = false → dotted r.args = false))
def RightE (e : EU) : Prop := rightE e = true ∧ PW (saidU e)
def RightP (p : PL) : Prop := rootedU p.root = true ∧ PW p.root ∧ p.rules.length ≤ 64 ∧ p.env.length ≤ 64 ∧ (∀ r ∈ p.rules, RightR r) ∧ ∀ e ∈ p.env, RightE e
theorem rooted_head {p : LB} (h : rooted p = true) : p.headD 0 = 47 := by
  cases p with
  | nil => cases h
  | cons x r => rw [rooted_cons] at h; simpa using h
theorem rightE_k {e : EU} (h : rightE e = true) : e.k = 1 ∨ e.k = 2 ∨ e.k = 3 := by
  unfold rightE at h
  split at h
  · rename_i h1; rcases h1 with h1 | h1
    · exact .inl h1
    · exact .inr (.inl h1)
  · split at h
    · rename_i h1; exact .inr (.inr h1)
    · cases h
/-- One rule of a line. -/
theorem add_right {p q : PL} {e : EU} (hp : RightP p) (he : PW (saidU e)) (h : addU p e = some q) : RightP q ∧ q = { p with env := p.env ++ [e] } := by
  unfold addU at h
  split at h
  · rename_i h1
    split at h
    · rename_i h2
      injection h with h
      subst h
      obtain ⟨g1, g2, g3, g4, g5, g6⟩ := hp
      refine ⟨⟨g1, g2, g3, by simp; omega, g5, fun x hx => ?_⟩, rfl⟩
      rcases List.mem_append.1 hx with hx | hx
      · exact g6 x hx
      · rw [List.mem_singleton] at hx; subst hx; exact ⟨h1, he⟩
    · cases h
  · cases h
theorem pat_right {k : Int} (hk : k = 1 ∨ k = 2) : ∀ (ws : List LB) (p q : PL), RightP p → (∀ w ∈ ws, PW w) → patU k ws p = some q → RightP q
  | [], p, q, hp, _, h => by unfold patU at h; injection h with h; subst h; exact hp
  | w :: ws, p, q, hp, hw, h => by
    unfold patU at h
    cases ha : addU p ⟨k, w, []⟩ with
    | none => rw [ha] at h; cases h
    | some p1 =>
      rw [ha] at h
      have h1 := (add_right hp (by unfold saidU; rw [if_pos hk]; exact hw w List.mem_cons_self) ha).1
      exact pat_right hk ws p1 q h1 (fun x hx => hw x (List.mem_cons_of_mem _ hx)) h
theorem cut_said (w : LB) (h : posE w < w.length) : w.take (posE w) ++ 61 :: w.drop (posE w + 1) = w := by
  obtain ⟨h2, h3⟩ := List.getElem?_eq_some_iff.1 (posE_at w h)
  rw [← h3, List.getElem_cons_drop, List.take_append_drop]
theorem if_some {α : Type} {c : Prop} [Decidable c] {x : Option α} {q : α} (h : (if c then x else none) = some q) : c ∧ x = some q := by
  by_cases hc : c
  · rw [if_pos hc] at h; exact ⟨hc, h⟩
  · rw [if_neg hc] at h; cases h
theorem argsU_some {ws : List LB} {q : List LB × Bool} (h : argsU ws = some q) : q.1.length ≤ 16 ∧ (∀ a ∈ q.1, a.length ≤ 256) ∧ (∀ a ∈ q.1, a ∈ ws) ∧ q.2 = dotted ws ∧ q.1 = (if dotted ws = true then ws.dropLast else ws) := by
  unfold argsU at h
  obtain ⟨h1, h⟩ := if_some h
  obtain ⟨h2, h⟩ := if_some h
  injection h with h
  subst h
  refine ⟨h1, fun a ha => by simpa using List.all_eq_true.1 h2 a ha, fun a ha => ?_, rfl, rfl⟩
  dsimp only at ha
  by_cases hd : dotted ws = true
  · rw [if_pos hd] at ha; exact List.dropLast_subset _ ha
  · rw [if_neg hd] at ha; exact ha
theorem rule_right {p q : PL} {al : Bool} {o path : LB} {more : List LB} (hp : RightP p) (hpath : PW path) (hm : ∀ w ∈ more, PW w) (h : ruleU p al o path more = some q) : RightP q := by
  have push : ∀ r : RU, RightR r → p.rules.length < 64 → RightP { p with rules := p.rules ++ [r] } := fun r hr hl => by
    obtain ⟨g1, g2, g3, g4, g5, g6⟩ := hp
    refine ⟨g1, g2, by simp; omega, g4, fun x hx => ?_, g6⟩
    rcases List.mem_append.1 hx with hx | hx
    · exact g5 x hx
    · rw [List.mem_singleton] at hx; subst hx; exact hr
  unfold ruleU at h
  obtain ⟨hl, h⟩ := if_some h
  cases ho : opsU o with
  | none => rw [ho] at h; cases h
  | some l =>
    rw [ho] at h
    dsimp only at h
    have hops := opsU_right ho
    obtain ⟨hr, h⟩ := if_some h
    obtain ⟨h256, h⟩ := if_some h
    cases more with
    | nil =>
      dsimp only at h
      injection h with h
      subst h
      exact push _ ⟨hr, h256, hpath, hops, fun _ => ⟨rfl, rfl⟩, fun h => by cases h⟩ hl
    | cons a ws =>
      dsimp only at h
      obtain ⟨_, h⟩ := if_some h
      obtain ⟨h7, h⟩ := if_some h
      cases hq : argsU ws with
      | none => rw [hq] at h; cases h
      | some x =>
        rw [hq] at h
        dsimp only at h
        injection h with h
        subst h
        obtain ⟨a1, a2, a3, a4, a5⟩ := argsU_some hq
        have hd : x.2 = false → dotted x.1 = false := fun hmo => by
          rw [a4] at hmo
          rw [a5, hmo]
          simpa using hmo
        exact push ⟨al, l, path, true, x.1, x.2⟩ ⟨hr, h256, hpath, hops, (fun h => nomatch h), fun _ => ⟨h7, a1, fun y hy => ⟨a2 y hy, hm y (List.mem_cons_of_mem _ (a3 y hy))⟩, hd⟩⟩ hl
theorem lineU_cons (p : PL) (f : Bool) (w : LB) (ws : List LB) : lineU p f (w :: ws) = if w = wRoot then (if f = true then (if ws.length = 1 then (if rootedU (ws.headD []) = true then some { p with root := ws.headD [] } else none) else none) else none)
    else if w = wAllow ∨ w = wDeny then (match ws with
      | o :: path :: more => ruleU p (w == wAllow) o path more
      | _ => none)
    else if w = wEnv then (match ws with
      | k :: v :: more => setU p k (v :: more)
      | _ => none)
    else none := rfl
theorem set_right {p q : PL} {k : LB} {ws : List LB} (hp : RightP p) (hv : ∀ w ∈ ws, PW w) (h : setU p k ws = some q) : RightP q := by
  unfold setU at h
  by_cases h1 : k = wKeep
  · rw [if_pos h1] at h; exact pat_right (.inl rfl) _ _ _ hp hv h
  rw [if_neg h1] at h
  by_cases h2 : k = wDrop
  · rw [if_pos h2] at h; exact pat_right (.inr rfl) _ _ _ hp hv h
  rw [if_neg h2] at h
  obtain ⟨_, h⟩ := if_some h
  obtain ⟨hc, h⟩ := if_some h
  obtain ⟨hl, h⟩ := if_some h
  refine (add_right hp ?_ h).1
  rw [show ∀ a b : LB, saidU ⟨3, a, b⟩ = a ++ 61 :: b from fun _ _ => rfl, cut_said _ hc]
  cases ws with
  | nil => cases hl
  | cons x r => exact hv _ List.mem_cons_self
theorem line_right {p q : PL} {f : Bool} {ws : List LB} (hp : RightP p) (hw : ∀ w ∈ ws, PW w) (h : lineU p f ws = some q) : RightP q := by
  cases ws with
  | nil => cases h
  | cons w ws =>
    rw [lineU_cons] at h
    by_cases h1 : w = wRoot
    · rw [if_pos h1] at h
      obtain ⟨_, h⟩ := if_some h
      obtain ⟨h1, h⟩ := if_some h
      obtain ⟨h2, h⟩ := if_some h
      injection h with h
      subst h
      obtain ⟨g1, g2, g3, g4, g5, g6⟩ := hp
      refine ⟨h2, hw _ (List.mem_cons_of_mem _ ?_), g3, g4, g5, g6⟩
      cases ws with
      | nil => cases h1
      | cons x r => exact List.mem_cons_self
    rw [if_neg h1] at h
    by_cases h2 : w = wAllow ∨ w = wDeny
    · rw [if_pos h2] at h
      match ws, hw, h with
      | [], hw, h => cases h
      | [_], hw, h => cases h
      | o :: path :: more, hw, h => exact rule_right hp (hw path (by simp)) (fun x hx => hw x (by simp [hx])) h
    rw [if_neg h2] at h
    obtain ⟨_, h⟩ := if_some h
    match ws, hw, h with
    | [], hw, h => cases h
    | [_], hw, h => cases h
    | k :: v :: more, hw, h => exact set_right hp (fun x hx => hw x (List.mem_cons_of_mem _ (List.mem_cons_of_mem _ hx))) h
theorem run_right : ∀ (rows : List (List LB)) (k : Nat) (p q : PL) (f : Bool), RightP p → (∀ r ∈ rows, ∀ w ∈ r, PW w) → runU k p f rows = (q, 0) → RightP q
  | [], k, p, q, f, hp, _, h => by unfold runU at h; injection h with h1 h2; subst h1; exact hp
  | w :: r, k, p, q, f, hp, hw, h => by
    unfold runU at h
    split at h
    · exact run_right r _ _ _ _ hp (fun x hx => hw x (List.mem_cons_of_mem _ hx)) h
    · cases hl : lineU p f w with
      | none => rw [hl] at h; injection h with h1 h2; cases h2
      | some p1 =>
        rw [hl] at h
        exact run_right r _ _ _ _ (line_right hp (hw w List.mem_cons_self) hl) (fun x hx => hw x (List.mem_cons_of_mem _ hx)) h
theorem p0_right : RightP p0 := ⟨by decide, ⟨by decide, by decide, by decide⟩, by decide, by decide, by simp [p0], by simp [p0]⟩
theorem rows_words {s : LB} : ∀ r ∈ rowsU s, ∀ w ∈ r, PW w := by
  intro r hr w hw
  obtain ⟨l, hl, rfl⟩ := List.mem_map.1 hr
  exact words_mem (splitC_mem 10 s l hl) hw
theorem parsed_right {s : LB} {q : PL} (h : parse0 s = (q, 0)) : RightP q := run_right _ _ _ _ _ p0_right rows_words h
/-- What is written is read again. -/
theorem rows_text : ∀ (ls : List (List LB)), (∀ l ∈ ls, ∀ w ∈ l, PW w) → rowsU (textW ls) = ls ++ [[]]
  | [], _ => rfl
  | l :: ls, h => by
    have e : textW (l :: ls) = Lib.join l [32] ++ 10 :: textW ls := by unfold textW; simp
    have h10 : (10 : UInt8) ∉ Lib.join l [32] := by
      have : ∀ ks : List LB, (∀ k ∈ ks, PW k) → (10 : UInt8) ∉ Lib.join ks [32] := by
        intro ks
        induction ks with
        | nil => intro _ hb; rw [Lib.join_nil] at hb; cases hb
        | cons x r ih =>
          intro hk
          have hx : (10 : UInt8) ∉ x := fun hb => ((hk x List.mem_cons_self).2.1 10 hb).2 rfl
          cases r with
          | nil => rw [Lib.join_one]; exact hx
          | cons y r =>
            rw [join_two_c]
            intro hb
            rcases List.mem_append.1 hb with hb | hb
            · exact hx hb
            · rcases List.mem_cons.1 hb with hb | hb
              · cases hb
              · exact ih (fun k hk' => hk k (List.mem_cons_of_mem _ hk')) hb
      exact this l (h l List.mem_cons_self)
    rw [e, rows_line, rows_one h10, words_join l (h l List.mem_cons_self), rows_text ls fun x hx => h x (List.mem_cons_of_mem _ hx)]
    rfl
theorem kw_word : PW wRoot ∧ PW wAllow ∧ PW wDeny ∧ PW wEnv ∧ PW wKeep ∧ PW wDrop ∧ PW wSet ∧ PW wArgs ∧ PW wDots := by
  refine ⟨?_, ?_, ?_, ?_, ?_, ?_, ?_, ?_, ?_⟩ <;> exact ⟨by decide, by decide, by decide⟩
theorem lines_words {p : PL} (h : RightP p) : ∀ l ∈ linesW p, ∀ w ∈ l, PW w := by
  obtain ⟨k1, k2, k3, k4, k5, k6, k7, k8, k9⟩ := kw_word
  intro l hl w hw
  rcases List.mem_cons.1 hl with rfl | hl
  · rcases List.mem_cons.1 hw with rfl | hw
    · exact k1
    · rw [List.mem_singleton] at hw; subst hw; exact h.2.1
  · rcases List.mem_append.1 hl with hl | hl
    · obtain ⟨r, hr, rfl⟩ := List.mem_map.1 hl
      obtain ⟨g1, g2, g3, g4, g5, g6⟩ := h.2.2.2.2.1 r hr
      unfold ruleW at hw
      rcases List.mem_cons.1 hw with rfl | hw
      · split <;> assumption
      rcases List.mem_cons.1 hw with rfl | hw
      · exact (opsWord_word g4).1
      rcases List.mem_cons.1 hw with rfl | hw
      · exact g3
      rcases List.mem_append.1 hw with hw | hw
      · split at hw
        · rename_i hwi
          rcases List.mem_cons.1 hw with rfl | hw
          · exact k8
          · exact ((g6 hwi).2.2.1 w hw).2
        · cases hw
      · split at hw
        · rw [List.mem_singleton] at hw; subst hw; exact k9
        · cases hw
    · obtain ⟨e, he, rfl⟩ := List.mem_map.1 hl
      unfold envW at hw
      rcases List.mem_cons.1 hw with rfl | hw
      · exact k4
      rcases List.mem_cons.1 hw with rfl | hw
      · split
        · exact k5
        · split
          · exact k6
          · exact k7
      · rw [List.mem_singleton] at hw; subst hw; exact (h.2.2.2.2.2 e he).2
theorem getLast_snoc {α : Type} (l : List α) (x : α) : (l ++ [x]).getLast? = some x := by simp
theorem line_rule {p : PL} {r : RU} (hr : RightR r) (hl : p.rules.length < 64) (f : Bool) : lineU p f (ruleW r) = some { p with rules := p.rules ++ [r] } := by
  obtain ⟨g1, g2, g3, g4, g5, g6⟩ := hr
  obtain ⟨al, ops, path, wi, args, mo⟩ := r
  dsimp only at *
  unfold ruleW
  rw [lineU_cons]
  have ho := (opsWord_word g4).2
  have hne : ¬ (if al = true then wAllow else wDeny) = wRoot := by cases al <;> decide
  have hor : (if al = true then wAllow else wDeny) = wAllow ∨ (if al = true then wAllow else wDeny) = wDeny := by cases al <;> simp
  have hal : ((if al = true then wAllow else wDeny) == wAllow) = al := by cases al <;> decide
  rw [if_neg hne, if_pos hor]
  dsimp only
  unfold ruleU
  rw [if_pos hl, ho, hal]
  dsimp only
  rw [if_pos g1, if_pos g2]
  cases wi with
  | false =>
    obtain ⟨rfl, rfl⟩ := g5 rfl
    rfl
  | true =>
    obtain ⟨rfl, h16, ha, hd⟩ := g6 rfl
    have hq : argsU (args ++ (if mo = true then [wDots] else [])) = some (args, mo) := by
      have hall : (args.all fun w => decide (w.length ≤ 256)) = true := List.all_eq_true.2 fun x hx => by simpa using (ha x hx).1
      cases mo with
      | true =>
        have hdd : dotted (args ++ [wDots]) = true := by unfold dotted; rw [getLast_snoc]; decide
        unfold argsU
        rw [if_pos (rfl : true = true), hdd, if_pos (rfl : true = true), List.dropLast_concat, if_pos h16, if_pos hall]
      | false =>
        have hdd := hd rfl
        unfold argsU
        rw [if_neg (by decide : ¬ false = true), List.append_nil, hdd, if_neg (by decide : ¬ false = true), if_pos h16, if_pos hall]
    rw [if_pos (rfl : true = true), List.cons_append]
    dsimp only
    rw [if_pos rfl, if_pos rfl, hq]
theorem env_k3 {e : EU} (h : rightE e = true) (hk : e.k = 3) : posE (e.pat ++ 61 :: e.val) = e.pat.length := by
  unfold rightE at h
  rw [if_neg (by omega), if_pos hk] at h
  unfold formsU at h
  cases hp : parseP (e.pat ++ 61 :: e.val) with
  | none => rw [hp] at h; cases h
  | some q =>
    rw [hp] at h
    have hq : q.1 = e.pat := by simpa using h
    have hn := (parse_name hp).1
    rw [hq] at hn
    exact posE_mid _ _ fun c hc => (name_chars hn c hc).1
theorem line_env {p : PL} {e : EU} (he : RightE e) (hl : p.env.length < 64) (f : Bool) : lineU p f (envW e) = some { p with env := p.env ++ [e] } := by
  obtain ⟨h1, h2⟩ := he
  have ha : addU p e = some { p with env := p.env ++ [e] } := by unfold addU; rw [if_pos h1, if_pos hl]
  unfold envW
  rw [lineU_cons, if_neg (by decide), if_neg (by decide), if_pos rfl]
  dsimp only
  unfold setU
  have one : ∀ k : Int, (k = 1 ∨ k = 2) → e.k = k → patU k [e.pat] p = addU p e := fun k hk hek => by
    have hv : e.val = [] := by
      unfold rightE at h1
      rw [if_pos (by rw [hek]; exact hk)] at h1
      simp only [Bool.and_eq_true, beq_iff_eq] at h1
      exact h1.2.2
    show (addU p ⟨k, e.pat, []⟩).bind (patU k []) = addU p e
    have : (⟨k, e.pat, []⟩ : EU) = e := by cases e; simp at hv hek ⊢; simp [hv, hek]
    rw [this, ha]; rfl
  rcases rightE_k h1 with hk | hk | hk
  · have hs : saidU e = e.pat := by unfold saidU; rw [if_pos (.inl hk)]
    rw [if_pos hk, hs, if_pos rfl, one 1 (.inl rfl) hk, ha]
  · have hs : saidU e = e.pat := by unfold saidU; rw [if_pos (.inr hk)]
    rw [if_neg (show ¬ e.k = 1 by omega), if_pos hk, hs, if_neg (show ¬ wDrop = wKeep by decide), if_pos rfl, one 2 (.inr rfl) hk, ha]
  · have hs : saidU e = e.pat ++ 61 :: e.val := by unfold saidU; rw [if_neg (by omega)]
    rw [if_neg (show ¬ e.k = 1 by omega), if_neg (show ¬ e.k = 2 by omega), if_neg (show ¬ wSet = wKeep by decide), if_neg (show ¬ wSet = wDrop by decide), if_pos rfl, hs]
    rw [List.headD_cons, env_k3 h1 hk, if_pos (by simp), if_pos (show [e.pat ++ 61 :: e.val].length = 1 from rfl)]
    have e1 : (e.pat ++ 61 :: e.val).take e.pat.length = e.pat := by simp
    have e2 : (e.pat ++ 61 :: e.val).drop (e.pat.length + 1) = e.val := by rw [List.drop_append]; simp
    rw [e1, e2, ← ha]
    congr 1
    cases e; simp at hk ⊢; exact hk.symm
theorem run_rules : ∀ (rs : List RU) (k : Nat) (p : PL) (rest : List (List LB)), (∀ r ∈ rs, RightR r) → p.rules.length + rs.length ≤ 64 → runU k p false (rs.map ruleW ++ rest) = runU (k + rs.length) { p with rules := p.rules ++ rs } false rest
  | [], k, p, rest, _, _ => by simp
  | r :: rs, k, p, rest, h, hl => by
    rw [List.map_cons, List.cons_append, runU, if_neg (by simp [ruleW]), line_rule (h r List.mem_cons_self) (by simp at hl; omega)]
    dsimp only
    rw [run_rules rs (k + 1) _ rest (fun x hx => h x (List.mem_cons_of_mem _ hx)) (by simp at hl ⊢; omega)]
    simp [Nat.add_comm, Nat.add_left_comm]
theorem run_envs : ∀ (es : List EU) (k : Nat) (p : PL) (rest : List (List LB)), (∀ e ∈ es, RightE e) → p.env.length + es.length ≤ 64 → runU k p false (es.map envW ++ rest) = runU (k + es.length) { p with env := p.env ++ es } false rest
  | [], k, p, rest, _, _ => by simp
  | r :: rs, k, p, rest, h, hl => by
    rw [List.map_cons, List.cons_append, runU, if_neg (by simp [envW]), line_env (h r List.mem_cons_self) (by simp at hl; omega)]
    dsimp only
    rw [run_envs rs (k + 1) _ rest (fun x hx => h x (List.mem_cons_of_mem _ hx)) (by simp at hl ⊢; omega)]
    simp [Nat.add_comm, Nat.add_left_comm]
theorem right_back {p : PL} (h : RightP p) : parse0 (writeU p) = (p, 0) := by
  unfold parse0 writeU
  rw [rows_text _ (lines_words h)]
  obtain ⟨g1, g2, g3, g4, g5, g6⟩ := h
  unfold linesW
  rw [List.cons_append, runU, if_neg (by simp)]
  have hl : lineU p0 true [wRoot, p.root] = some ⟨p.root, [], []⟩ := by
    rw [lineU_cons, if_pos rfl, if_pos rfl, if_pos (show [p.root].length = 1 from rfl), List.headD_cons, if_pos g1]
    rfl
  rw [hl]
  dsimp only
  rw [List.append_assoc, run_rules _ _ _ _ g5 (by simpa using g3), run_envs _ _ _ _ g6 (by simpa using g4)]
  simp only [List.nil_append]
  rw [runU, if_pos rfl, runU]
/-- A policy may be just if it is read as it is written. -/
theorem check_iff (p : PL) : (p.rules.length ≤ 64 ∧ p.env.length ≤ 64 ∧ parse0 (writeU p) = (p, 0)) ↔ RightP p :=
  ⟨fun h => parsed_right h.2.2, fun h => ⟨h.2.2.1, h.2.2.2.1, right_back h⟩⟩
/-- Lines' numbers. -/
theorem run_num : ∀ (rows : List (List LB)) (k : Nat) (p : PL) (f : Bool), (runU k p f rows).2 = 0 ∨ (k < (runU k p f rows).2 ∧ (runU k p f rows).2 ≤ k + rows.length ∧ (runU k p f rows).1 = pz)
  | [], k, p, f => .inl (by rw [runU])
  | w :: r, k, p, f => by
    rw [runU]
    split
    · rcases run_num r (k + 1) p f with h | ⟨h1, h2, h3⟩
      · exact .inl h
      · exact .inr ⟨by omega, by simp; omega, h3⟩
    · cases lineU p f w with
      | none => exact .inr ⟨by simp, by simp, rfl⟩
      | some q =>
        rcases run_num r (k + 1) q false with h | ⟨h1, h2, h3⟩
        · exact .inl h
        · exact .inr ⟨by dsimp only; omega, by simp; omega, h3⟩
theorem run_shift : ∀ (rows : List (List LB)) (k d : Nat) (p : PL) (f : Bool), runU (k + d) p f rows = ((runU k p f rows).1, if (runU k p f rows).2 = 0 then 0 else (runU k p f rows).2 + d)
  | [], k, d, p, f => by rw [runU, runU]; rfl
  | w :: r, k, d, p, f => by
    rw [runU, runU]
    split
    · rw [show k + d + 1 = (k + 1) + d by omega, run_shift r (k + 1) d]
    · cases lineU p f w with
      | none => dsimp only; rw [if_neg (by omega)]; simp; omega
      | some q => dsimp only; rw [show k + d + 1 = (k + 1) + d by omega, run_shift r (k + 1) d]
theorem run_tail : ∀ (rows : List (List LB)) (k : Nat) (p : PL) (f : Bool), runU k p f (rows ++ [[]]) = runU k p f rows
  | [], k, p, f => by simp [runU]
  | w :: r, k, p, f => by
    rw [List.cons_append, runU, runU]
    split
    · exact run_tail r _ _ _
    · cases lineU p f w with
      | none => rfl
      | some q => exact run_tail r _ _ _
/-- Remarks and empty lines. -/
theorem parse_remarks (s r : LB) (hr : (10 : UInt8) ∉ r) : parse0 (35 :: r ++ 10 :: (32 :: 9 :: 10 :: (s ++ 32 :: 35 :: r ++ 10 :: []))) = ((parse0 s).1, if (parse0 s).2 = 0 then 0 else (parse0 s).2 + 2) := by
  have e1 : rowsU (35 :: r ++ 10 :: (32 :: 9 :: 10 :: (s ++ 32 :: 35 :: r ++ 10 :: []))) = [] :: [] :: (rowsU s ++ [[]]) := by
    rw [rows_line, rows_one (by simp [hr]), words_hash, show (32 :: 9 :: 10 :: (s ++ 32 :: 35 :: r ++ 10 :: []) : LB) = [32, 9] ++ 10 :: (s ++ 32 :: 35 :: r ++ 10 :: []) from rfl, rows_line,
      rows_line, rows_remark s r hr]
    rfl
  unfold parse0
  rw [e1, runU, if_pos rfl, runU, if_pos rfl, run_tail, show 0 + 1 + 1 = 0 + 2 from rfl, run_shift]
end Go.Proofs.YthbackkcamgidaaGreatDoor
