/- Lexing as lists of bytes: the plain text. No program in it. -/
import Derived.Lib.Strings
namespace Go.Proofs.YtpfcfcbljkdkhaaDoor
set_option linter.unusedVariables false
abbrev LB := List UInt8
structure T where
  kind : Nat
  text : LB
  at_ : Nat
  doc : LB
  quoted : Bool
deriving DecidableEq
def lineP : LB → LB
  | [] => []
  | c :: r => if c = 10 then [] else c :: lineP r
theorem lineP_len (l : LB) : (lineP l).length ≤ l.length := by
  induction l with
  | nil => simp [lineP]
  | cons c r ih => unfold lineP; split <;> simp; omega
def qz (c : UInt8) : Bool := c == 39 || c == 0
def singleL (p : LB) (i : Nat) : Nat × UInt8 × Bool := match (p.drop i).findIdx? qz with
  | none => (p.length, 0, false)
  | some k => if p.getD (i + k) 0 = 0 then (i + k, 0, false) else (i + k + 1, 0, true)
def stepL (p : LB) (i : Nat) (cl : LB) : Nat × UInt8 × Bool :=
  let c := p.getD i 0
  let d := p.getD (i + 1) 0
  if c = 0 ∨ c = 96 then (i, 0, false)
  else if c = 92 then (if i + 1 < p.length ∧ d = 0 then (i + 1, 0, false) else (min (i + 2) p.length, 0, true))
  else if c = cl.getLastD 0 then (i + 1, 0, true)
  else if c = 36 ∧ d = 40 then (i + 2, 41, true)
  else if c = 36 ∧ d = 123 then (i + 2, 125, true)
  else if cl.getLastD 0 = 34 then (i + 1, 0, true)
  else if c = 34 then (i + 1, 34, true)
  else if c = 40 then (i + 1, 41, true)
  else if c = 39 then singleL p (i + 1)
  else (i + 1, 0, true)
def closeL (p : LB) (i : Nat) (cl : LB) (o : UInt8) : LB :=
  if o ≠ 0 then cl ++ [o] else if cl ≠ [] ∧ p.getD i 0 = cl.getLastD 0 then cl.dropLast else cl
def skipL (p : LB) : Nat → Nat → LB → Nat × Bool
  | 0, _, _ => (p.length, false)
  | f + 1, i, cl => if p.length ≤ i then (p.length, false) else
    if (stepL p i cl).2.2 = false then ((stepL p i cl).1, false) else
    if closeL p i cl (stepL p i cl).2.1 = [] then ((stepL p i cl).1, true) else skipL p f (stepL p i cl).1 (closeL p i cl (stepL p i cl).2.1)
def skipP (p : LB) (i : Nat) : Nat × Bool := skipL p (p.length + 1) i []
def bareP : LB → LB × Bool
  | [] => ([], false)
  | [c] => if c = 39 ∨ c = 34 then ([], true) else if c = 92 then ([], true) else ([c], false)
  | c :: d :: t => if c = 39 ∨ c = 34 then ((bareP (d :: t)).1, true) else if c = 92 then (d :: (bareP t).1, true) else (c :: (bareP (d :: t)).1, (bareP (d :: t)).2)
def blankL (p : LB) : Nat → Nat → Nat
  | 0, i => i
  | f + 1, i => if p.length ≤ i then i else
    if p.getD i 0 = 32 ∨ p.getD i 0 = 9 then blankL p f (i + 1)
    else if p.getD i 0 = 92 ∧ p.getD (i + 1) 0 = 10 then blankL p f (i + 2)
    else if p.getD i 0 = 35 then blankL p f (i + (lineP (p.drop i)).length)
    else i
def blankP (p : LB) (i : Nat) : Nat := blankL p (p.length + 1) i
def opOne (c : UInt8) : Bool := c == 59 || c == 40 || c == 41 || c == 124 || c == 60 || c == 62
def pairP (c d : UInt8) : Bool := (c == 38 && d == 38) || (c == 124 && d == 124) || (c == 59 && d == 59) || (c == 62 && d == 62) || (c == 60 && d == 60) || (c == 60 && d == 38) || (c == 62 && d == 38)
def operP (r : LB) : Nat := if pairP (r.getD 0 0) (r.getD 1 0) = true then 2 else if opOne (r.getD 0 0) = true then 1 else 0
def dig (c : UInt8) : Bool := 48 ≤ c.toNat && c.toNat ≤ 57
def digs : Nat → LB → Nat
  | 0, _ => 0
  | f + 1, [] => 0
  | f + 1, c :: r => if dig c = true then digs f r + 1 else 0
def numP (r : LB) : Nat :=
  if 3 < digs 4 r ∨ digs 4 r = r.length ∨ (r.getD (digs 4 r) 0 ≠ 60 ∧ r.getD (digs 4 r) 0 ≠ 62) then 0 else digs 4 r
def isEnd (c : UInt8) : Bool := c == 32 || c == 9 || c == 10 || c == 124 || c == 38 || c == 59 || c == 40 || c == 41 || c == 60 || c == 62
def wordL (p : LB) : Nat → Nat → Nat × Bool
  | 0, e => (e, true)
  | f + 1, e => if p.length ≤ e then (e, true) else if isEnd (p.getD e 0) = true then (e, true) else
    if (skipP p e).2 = false then ((skipP p e).1, false) else wordL p f (skipP p e).1
structure S where
  at_ : Nat
  toks : List T
  wait : List Nat
  fault : Nat
def addS (p : LB) (s : S) (k n : Nat) : S := { s with at_ := s.at_ + n, toks := s.toks ++ [⟨k, (p.drop s.at_).take n, s.at_, [], false⟩] }
def docL (p : LB) (del : LB) : Nat → Nat → Option (Nat × Nat)
  | 0, _ => none
  | f + 1, i => if p.length ≤ i then none else
    if lineP (p.drop i) = del then some (i, min (i + (lineP (p.drop i)).length + 1) p.length) else docL p del f (min (i + (lineP (p.drop i)).length + 1) p.length)
def tokD : T := ⟨0, [], 0, [], false⟩
/-- The documents of the delimiters: where the text goes on, and the tokens; none: one is missing. -/
def docsL (p : LB) : List Nat → Nat → List T → Option (Nat × List T)
  | [], i, ts => some (i, ts)
  | k :: r, i, ts => match docL p (bareP (ts.getD k tokD).text).1 (p.length + 1) i with
    | none => none
    | some (e, nx) => docsL p r nx (ts.set k { (ts.getD k tokD) with doc := (p.drop i).take (e - i), quoted := (bareP (ts.getD k tokD).text).2 })
def hereT (ts : List T) : Bool := match ts.getLast? with
  | none => false
  | some t => t.kind == 2 && t.text == [60, 60]
def wordS (p : LB) (s : S) : S × Bool :=
  let r := wordL p (p.length + 1) s.at_
  if r.2 = false then ({ s with fault := r.1 }, false)
  else if r.1 = s.at_ then ({ s with fault := s.at_ }, false)
  else (addS p { s with wait := if hereT s.toks = true then s.wait ++ [s.toks.length] else s.wait } 1 (r.1 - s.at_), true)
def docsS (p : LB) (s : S) : S × Bool := match docsL p s.wait s.at_ s.toks with
  | none => ({ s with fault := p.length }, false)
  | some (i, ts) => (⟨i, ts, [], s.fault⟩, true)
def tokenS (p : LB) (s : S) : S × Bool :=
  if p.getD s.at_ 0 = 10 then docsS p (addS p s 4 1)
  else if 0 < operP (p.drop s.at_) then (addS p s 2 (operP (p.drop s.at_)), true)
  else if 0 < numP (p.drop s.at_) then (addS p s 3 (numP (p.drop s.at_)), true)
  else wordS p s
def scanL (p : LB) : Nat → S → List T × Nat × Nat
  | 0, s => ([], 50, s.fault)
  | f + 1, s => if p.length ≤ s.at_ then (if s.wait = [] then ((addS p s 5 0).toks, 0, 0) else ([], 50, p.length)) else
    if (tokenS p s).2 = false then ([], 50, (tokenS p s).1.fault) else scanL p f { (tokenS p s).1 with at_ := blankP p (tokenS p s).1.at_ }
def scanP (p : LB) : List T × Nat × Nat := if 4096 < p.length then ([], 4, 4096) else scanL p (p.length + 1) ⟨blankP p 0, [], [], 0⟩
def nameP (p : LB) : Bool := p.length ≠ 0 && p.length ≤ 32 && (p.all fun c => (97 ≤ c.toNat && c.toNat ≤ 122) || (65 ≤ c.toNat && c.toNat ≤ 90) || c.toNat == 95 || (48 ≤ c.toNat && c.toNat ≤ 57)) && !(48 ≤ (p.getD 0 0).toNat && (p.getD 0 0).toNat ≤ 57)
def skipE (p : LB) (i : Int) : Nat × Bool := if i < 0 ∨ (p.length : Int) ≤ i then (0, false) else if (skipP p i.toNat).2 = true then (skipP p i.toNat) else (0, false)
end Go.Proofs.YtpfcfcbljkdkhaaDoor
