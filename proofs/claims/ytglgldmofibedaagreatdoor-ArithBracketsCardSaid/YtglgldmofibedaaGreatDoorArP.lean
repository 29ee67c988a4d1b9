/- The plain text of arith: tokens, operators, the evaluator, on lists. -/
import Derived.Test.YtglgldmofibedaaGreatDoorDecP
import Derived.WalkKit
import Derived.Laws.Bits128
import Derived.Lib.AtoiAllCases
namespace Go.Proofs.YtglgldmofibedaaGreatDoor
set_option linter.unusedVariables false

abbrev Tok := List UInt8
/-- An int of 64 bits. -/
def W (x : Int) : Int := Go.RowKit.wrap64 x
theorem W_eq (x : Int) : W x = (if x % 18446744073709551616 ≥ 9223372036854775808 then x % 18446744073709551616 - 18446744073709551616 else x % 18446744073709551616) := by
  unfold W
  rw [← IntWalk.i64_left]
  simp [IntKind.wrap, IntKind.bits, IntKind.signed]
theorem W_R (x : Int) : i64R (W x) := by rw [W_eq]; unfold i64R; split <;> omega
theorem W_id {x : Int} (h : i64R x) : W x = x := by rw [W_eq]; unfold i64R at h; split <;> omega
theorem W_mod (x y : Int) (h : x % 18446744073709551616 = y % 18446744073709551616) : W x = W y := by rw [W_eq, W_eq, h]
theorem W_emod (x : Int) : W x % 18446744073709551616 = x % 18446744073709551616 := by rw [W_eq]; split <;> omega

def fl (b : Bool) : Int := if b then 1 else 0
theorem fl_R (b : Bool) : i64R (fl b) := by cases b <;> (unfold fl i64R; simp)
/-- What the comparing operators give. -/
def cmpP (op : Tok) (a b : Int) : Int × Int :=
  if (op == [60, 61]) then (fl (decide (a ≤ b)), 0)
  else if (op == [62, 61]) then (fl (decide (b ≤ a)), 0)
  else if (op == [60]) then (fl (decide (a < b)), 0)
  else if (op == [62]) then (fl (decide (b < a)), 0)
  else if (op == [61, 61]) then (fl (a == b), 0)
  else if (op == [33, 61]) then (fl (!(a == b)), 0)
  else if (op == [38, 38]) then (fl (!(a == 0) && !(b == 0)), 0)
  else if (op == [124, 124]) then (fl (!(a == 0) || !(b == 0)), 0)
  else (0, 50)
/-- What an operator gives, and the error. -/
def applyP (op : Tok) (a b : Int) : Int × Int :=
  if (op == [43]) then (W (a + b), 0)
  else if (op == [45]) then (W (a - b), 0)
  else if (op == [42]) then (W (a * b), 0)
  else if (op == [47]) then (if b = 0 then (0, 32) else (W (a.tdiv b), 0))
  else if (op == [37]) then (if b = 0 then (0, 32) else (a.tmod b, 0))
  else if (op == [60, 60]) then (W (a * 2 ^ (b % 64).toNat), 0)
  else if (op == [62, 62]) then (a / 2 ^ (b % 64).toNat, 0)
  else if (op == [38]) then (bits .and .i64 a b, 0)
  else if (op == [94]) then (bits .xor .i64 a b, 0)
  else if (op == [124]) then (bits .or .i64 a b, 0)
  else cmpP op a b
/-- The sign operators. -/
def unaryP (op : Tok) (a : Int) : Int × Bool :=
  if (op == [43]) then (a, true)
  else if (op == [45]) then (W (-a), true)
  else if (op == [33]) then (fl (a == 0), true)
  else if (op == [126]) then (bits .xor .i64 (-1) a, true)
  else (0, false)

def isD (c : UInt8) : Bool := decide (48 ≤ c.toNat) && decide (c.toNat ≤ 57)
def isL (c : UInt8) : Bool := (decide (97 ≤ c.toNat) && decide (c.toNat ≤ 122)) || (decide (65 ≤ c.toNat) && decide (c.toNat ≤ 90)) || (c == 95)
/-- A hexadecimal digit's value; -1: none. -/
def hexV (c : UInt8) : Int :=
  if isD c then (c.toNat : Int) - 48
  else if 97 ≤ c.toNat ∧ c.toNat ≤ 102 then (c.toNat : Int) - 97 + 10
  else if 65 ≤ c.toNat ∧ c.toNat ≤ 70 then (c.toNat : Int) - 65 + 10
  else -1
def isH (c : UInt8) : Bool := decide (0 ≤ hexV c)
def isLD (c : UInt8) : Bool := isD c || isL c
/-- How many bytes at the beginning are of a kind. -/
def runP (k : UInt8 → Bool) : Tok → Nat
  | [] => 0
  | c :: r => if k c then runP k r + 1 else 0
theorem runP_le (k : UInt8 → Bool) (l : Tok) : runP k l ≤ l.length := by
  induction l with
  | nil => exact Nat.le_refl _
  | cons c r ih => unfold runP; split <;> simp <;> omega
/-- All operators, the longer ones first. -/
def opsP : List Tok := [[60, 60], [62, 62], [60, 61], [62, 61], [61, 61], [33, 61], [38, 38], [124, 124], [43], [45], [42], [47], [37], [60], [62], [38], [94], [124], [33], [126], [63], [58], [40], [41]]
def startsP : Tok → Tok → Bool
  | _, [] => true
  | [], _ :: _ => false
  | c :: r, d :: s => c == d && startsP r s
def opLen (s : Tok) : List Tok → Nat
  | [] => 0
  | o :: l => if startsP s o then o.length else opLen s l
/-- Is a text one of "0x" and a hexadecimal digit? -/
def isHex (s : Tok) : Bool :=
  match s with
  | a :: b :: c :: _ => a == 48 && b == 120 && isH c
  | _ => false
/-- The size of the first token. -/
def tokP (s : Tok) : Nat :=
  if isHex s then 2 + runP isH (s.drop 2)
  else match s with
    | [] => 0
    | c :: r => if isD c then runP isD s else if isL c then runP isLD s else opLen s opsP
def isB (c : UInt8) : Bool := c == 32 || c == 9 || c == 10
def trimP : Tok → Tok
  | [] => []
  | c :: r => if isB c then trimP r else c :: r
theorem trimP_le (l : Tok) : (trimP l).length ≤ l.length := by
  induction l with
  | nil => exact Nat.le_refl _
  | cons c r ih => unfold trimP; split <;> simp <;> omega
/-- All tokens; with fuel. -/
def toksF : Nat → Tok → Option (List Tok)
  | 0, _ => none
  | k + 1, s =>
    if trimP s = [] then some []
    else if tokP (trimP s) = 0 then none
    else (toksF k ((trimP s).drop (tokP (trimP s)))).map ((trimP s).take (tokP (trimP s)) :: ·)
def toksP (s : Tok) : Option (List Tok) := if s.length > 1000 then none else toksF (s.length + 1) s

/-- What reading an expression gives. -/
inductive Rs where
  | ok (n : Int) (r : List Tok) (z : Bool)
  | bad (e : Int)
def hd (r : List Tok) : Tok := r.headD []
def lvls : List (List Tok) := [[[124, 124]], [[38, 38]], [[124]], [[94]], [[38]], [[61, 61], [33, 61]], [[60, 61], [62, 61], [60], [62]], [[60, 60], [62, 62]], [[43], [45]], [[42], [47], [37]]]
def memP (s : Tok) : List Tok → Bool
  | [] => false
  | o :: l => (s == o) || memP s l
abbrev Ev := List Tok → Bool → Rs
def loopB (l : List Tok) (sub : Ev) : Nat → Int → List Tok → Bool → Rs
  | 0, _, _, _ => .bad 50
  | k + 1, n, r, z =>
    if memP (hd r) l then
      match sub r.tail z with
      | .bad e => .bad e
      | .ok m r' z' => loopB l sub k (applyP (hd r) n m).1 r' (z' || ((applyP (hd r) n m).2 == 32))
    else .ok n r z
/-- Enough rounds. -/
def FU : Nat := 2000
def binB : List (List Tok) → Ev → Ev
  | [], un => un
  | l :: ls, un => fun r z =>
    match binB ls un r z with
    | .bad e => .bad e
    | .ok n r' z' => loopB l (binB ls un) FU n r' z'
/-- A number's value modulo 2^64. -/
def numD (base : Int) (l : Tok) (a : Int) : Int := l.foldl (fun a c => (a * base + hexV c) % 18446744073709551616) a
def numP (t : Tok) : Int := if startsP t [48, 120] then W (numD 16 (t.drop 2) 0) else W (numD 10 t 0)
/-- What num.Parse makes of a text. -/
def parseV (s : Tok) : Int :=
  match Lib.atoiAll s with
  | .ok v => if Lib.itoa v = s then v else 0
  | _ => 0
def valueP (name : Tok) : List Tok → Int
  | [] => 0
  | v :: l => if startsP v (name ++ [61]) then parseV (v.drop (name.length + 1)) else valueP name l
/-- An operand. ex, un: an expression, an operand that lies deeper. -/
def unF (vars : List Tok) (ex un : Ev) : Ev := fun r z =>
  if hd r = [] then .bad 50
  else if (unaryP (hd r) 0).2 then
    match un r.tail z with
    | .bad e => .bad e
    | .ok n r' z' => .ok (unaryP (hd r) n).1 r' z'
  else if (hd r == [40]) then
    match ex r.tail z with
    | .bad e => .bad e
    | .ok n r' z' => if (hd r' == [41]) then .ok n r'.tail z' else .bad 50
  else if isD ((hd r).headD 0) then .ok (numP (hd r)) r.tail z
  else if isL ((hd r).headD 0) then .ok (valueP (hd r) vars) r.tail z
  else .bad 50
/-- An expression. bi: the operands; ex: one that lies deeper. -/
def exF (bi ex : Ev) : Ev := fun r z =>
  match bi r z with
  | .bad e => .bad e
  | .ok n r1 z1 =>
    if (hd r1 == [63]) then
      match ex r1.tail z1 with
      | .bad e => .bad e
      | .ok t r2 z2 =>
        if (hd r2 == [58]) then
          match ex r2.tail z2 with
          | .bad e => .bad e
          | .ok o r3 z3 => .ok (if n = 0 then o else t) r3 z3
        else .bad 50
    else .ok n r1 z1
/-- An expression and an operand with k more depths. -/
def EU (vars : List Tok) : Nat → Ev × Ev
  | 0 => (fun _ _ => .bad 51, fun _ _ => .bad 51)
  | k + 1 => (exF (binB lvls (unF vars (EU vars k).1 (EU vars k).2)) (EU vars k).1, unF vars (EU vars k).1 (EU vars k).2)
def endP : Rs → Int × Int
  | .bad e => (0, e)
  | .ok n r z => if r = [] then (if z then (0, 32) else (n, 0)) else (0, 50)
def evalP (s : Tok) (vars : List Tok) : Int × Int :=
  match toksP s with
  | none => (0, 50)
  | some ts => if ts = [] then (0, 0) else endP ((EU vars 40).1 ts false)
end Go.Proofs.YtglgldmofibedaaGreatDoor
