/- DiskDoes: the contracts under names, and what is carried over later calls. -/
import Derived.Test.YthoaocjeladbkaaRefC
import Derived.Test.YthoaocjeladbkaaLawK
namespace Go.Proofs.Ythoaocjeladbkaa
open Go.RowKit
set_option linter.unusedVariables false

theorem rappend_n (A : Option Addr) (c : Nat) (B : Option Addr) (k : Nat) (room : Int) (dead : Bool) (arm : Int) (s p b : List UInt8) (D : Option Addr) (l : Nat) (w : World) (hs : Rd w A s.length s) (hp : Rd w B p.length p) (hb : Rd w D b.length b) (h1 : s.length ≤ 10000) (h2 : p.length ≤ 10000) (h3 : b.length ≤ 10000) (ha : arm ≤ 9223372036854775807)
    (D' : Bool) (R' E' : Int) (P' : List UInt8) (e1 : apD s.length p.length room dead arm = D') (e2 : apA s.length p.length room dead arm = R') (e3 : apE s.length p.length room dead arm b.length = E') (e4 : apP s.length p.length p room dead arm b = P') :
    Calls Try.prog 10 #[dv A s.length c B p.length k room dead arm, .slice D b.length l] w (REnd w room D' R' E' s P') := by
  subst e1; subst e2; subst e3; subst e4
  exact rappend_any A c B k room dead arm s p b D l w hs hp hb h1 h2 h3 ha
theorem rsync_n (A : Option Addr) (c : Nat) (B : Option Addr) (k : Nat) (room : Int) (dead : Bool) (arm : Int) (s p : List UInt8) (w : World) (hs : Rd w A s.length s) (hp : Rd w B p.length p) (h1 : s.length ≤ 10000) (h2 : p.length ≤ 10000) (ha : arm ≤ 9223372036854775807)
    (D' : Bool) (R' E' : Int) (S' P' : List UInt8) (e1 : apD s.length p.length room dead arm = D') (e2 : apA s.length p.length room dead arm = R') (e3 : syE s.length p.length room dead arm = E') (e4 : syS s p E' = S') (e5 : syP p E' = P') :
    Calls Try.prog 12 #[dv A s.length c B p.length k room dead arm] w (REnd w room D' R' E' S' P') := by
  subst e1; subst e2; subst e3; subst e4; subst e5
  exact rsync_any A c B k room dead arm s p w hs hp h1 h2 ha
theorem rcut_n (A : Option Addr) (c : Nat) (B : Option Addr) (k : Nat) (room : Int) (dead : Bool) (arm q : Int) (s p : List UInt8) (w : World) (hs : Rd w A s.length s) (hp : Rd w B p.length p) (h1 : s.length ≤ 10000) (h2 : p.length ≤ 10000) (hc : s.length ≤ c)
    (E' : Int) (S' : List UInt8) (e1 : ctE s.length p.length room dead arm q = E') (e2 : ctS s E' q = S') :
    Calls Try.prog 14 #[dv A s.length c B p.length k room dead arm, .int .i64 q] w (REnd w room dead arm E' S' p) := by
  subst e1; subst e2
  exact rcut_any A c B k room dead arm q s p w hs hp h1 h2 hc
theorem newR_form (q : Int) : ∃ r a E, newR q = .tuple #[dv none 0 0 none 0 0 r false a, .int .i64 E] := by
  unfold newR
  split
  · exact ⟨_, _, _, rfl⟩
  · exact ⟨_, _, _, rfl⟩

/-- Two rows of bytes that stay what they are over all later calls. -/
def RdK (w : World) (A : Option Addr) (n : Nat) (S : List UInt8) (B : Option Addr) (m : Nat) (P : List UInt8) : Prop := ∀ V, Below w.heap.size w V → Rd V A n S ∧ Rd V B m P
theorem RdK.mk_ {w : World} {A : Option Addr} {n : Nat} {S : List UInt8} {B : Option Addr} {m : Nat} {P : List UInt8} (ha : Rd w A n S) (hb : Rd w B m P) : RdK w A n S B m P := fun V h => ⟨(Reads.below ha h).more h.size, (Reads.below hb h).more h.size⟩
theorem RdK.below {w w' : World} {A : Option Addr} {n : Nat} {S : List UInt8} {B : Option Addr} {m : Nat} {P : List UInt8} (h : RdK w A n S B m P) (k : Below w.heap.size w w') : RdK w' A n S B m P := fun V hV => h V (below_more k (Nat.le_refl _) hV)
theorem RdK.one {w : World} {A : Option Addr} {n : Nat} {S : List UInt8} {B : Option Addr} {m : Nat} {P : List UInt8} (h : RdK w A n S B m P) : Rd w A n S := (h w (Below.refl _ _)).1
theorem RdK.two {w : World} {A : Option Addr} {n : Nat} {S : List UInt8} {B : Option Addr} {m : Nat} {P : List UInt8} (h : RdK w A n S B m P) : Rd w B m P := (h w (Below.refl _ _)).2
def Tru (w : World) (e : Ending) (w' : World) : Prop := e = .returned (.bool true) ∧ Below w.heap.size w w'
theorem rsame_k {w : World} {A : Option Addr} {n : Nat} {S : List UInt8} {B : Option Addr} {m : Nat} {P : List UInt8} {A2 : Option Addr} {n2 : Nat} {B2 : Option Addr} {m2 : Nat} (h : RdK w A n S B m P) (h2 : RdK w A2 n2 S B2 m2 P) (c k c2 k2 : Nat) (room : Int) (dead : Bool) (arm : Int) :
    Calls Try.prog 17 #[dv A n c B m k room dead arm, dv A2 n2 c2 B2 m2 k2 room dead arm] w (Tru w) :=
  rsame_any A n c B m k room dead arm A2 n2 c2 B2 m2 k2 S P w h.one h.two h2.one h2.two
/-- A disk is returned, and stays what it is. -/
def KRet (w : World) (room : Int) (D : Bool) (R : Int) (S P : List UInt8) (e : Ending) (w' : World) : Prop :=
  ∃ A n c B m k, e = .returned (dv A n c B m k room D R) ∧ RdK w' A n S B m P ∧ Below w.heap.size w w'
theorem crash_k {w : World} {A : Option Addr} {s : List UInt8} {B : Option Addr} {p : List UInt8} (h : RdK w A s.length s B p.length p) (c k : Nat) (room : Int) (dead : Bool) (arm q : Int) (h1 : s.length ≤ 10000) (h2 : p.length ≤ 10000) (hk : p.length ≤ k)
    (D' : Bool) (R' : Int) (S' P' : List UInt8) (e1 : crD dead (okD s.length p.length room arm) = D') (e2 : crA arm (okD s.length p.length room arm) = R') (e3 : crS s p (okD s.length p.length room arm) q = S') (e4 : crP p (okD s.length p.length room arm) = P') :
    Calls Try.prog 18 #[dv A s.length c B p.length k room dead arm, .int .i64 q] w (KRet w room D' R' S' P') := by
  subst e1; subst e2; subst e3; subst e4
  refine (crash_any A c B k room dead arm q s p w h.one h.two h1 h2 hk).mono ?_
  rintro e w' ⟨A', n, c, B', m, k, rfl, hA, hB, hb⟩
  exact ⟨A', n, c, B', m, k, rfl, RdK.mk_ hA.rd hB.rd, hb⟩
theorem rcrash_k {w : World} {A : Option Addr} {s : List UInt8} {B : Option Addr} {p : List UInt8} (h : RdK w A s.length s B p.length p) (c k : Nat) (room : Int) (dead : Bool) (arm q : Int) (h1 : s.length ≤ 10000) (h2 : p.length ≤ 10000) (hk : p.length ≤ k)
    (D' : Bool) (R' : Int) (S' P' : List UInt8) (e1 : crD dead (okD s.length p.length room arm) = D') (e2 : crA arm (okD s.length p.length room arm) = R') (e3 : crS s p (okD s.length p.length room arm) q = S') (e4 : crP p (okD s.length p.length room arm) = P') :
    Calls Try.prog 19 #[dv A s.length c B p.length k room dead arm, .int .i64 q] w (KRet w room D' R' S' P') := by
  subst e1; subst e2; subst e3; subst e4
  refine (rcrash_any A c B k room dead arm q s p w h.one h.two h1 h2 hk).mono ?_
  rintro e w' ⟨A', n, c, B', m, k, rfl, hA, hB, hb⟩
  exact ⟨A', n, c, B', m, k, rfl, RdK.mk_ hA hB, hb⟩
theorem arm_k {w : World} {A : Option Addr} {s : List UInt8} {B : Option Addr} {p : List UInt8} (h : RdK w A s.length s B p.length p) (c k : Nat) (room : Int) (dead : Bool) (arm q : Int) (h1 : s.length ≤ 10000) (h2 : p.length ≤ 10000)
    (R' : Int) (e1 : arA s.length p.length room arm q = R') :
    Calls Try.prog 20 #[dv A s.length c B p.length k room dead arm, .int .i64 q] w (KRet w room dead R' s p) := by
  subst e1
  refine (arm_any A c B k room dead arm q s p w h.one h.two h1 h2).mono ?_
  rintro e w' ⟨A', n, c, B', m, k, rfl, hA, hB, hb⟩
  exact ⟨A', n, c, B', m, k, rfl, RdK.mk_ hA.rd hB.rd, hb⟩
theorem rarm_k {w : World} {A : Option Addr} {s : List UInt8} {B : Option Addr} {p : List UInt8} (c k : Nat) (room : Int) (dead : Bool) (arm q : Int) (h1 : s.length ≤ 10000) (h2 : p.length ≤ 10000)
    (R' : Int) (e1 : arA s.length p.length room arm q = R') :
    Calls Try.prog 21 #[dv A s.length c B p.length k room dead arm, .int .i64 q] w fun e w' => e = .returned (dv A s.length c B p.length k room dead R') ∧ Below w.heap.size w w' := by
  subst e1
  exact rarm_any A c B k s.length p.length room dead arm q w h1 h2
theorem check_k {w : World} {A : Option Addr} {s : List UInt8} {B : Option Addr} {p : List UInt8} (c k : Nat) (room : Int) (dead : Bool) (arm : Int) (h1 : s.length ≤ 10000) (h2 : p.length ≤ 10000) (ok : Bool) (e1 : okD s.length p.length room arm = ok) :
    Calls Try.prog 22 #[dv A s.length c B p.length k room dead arm] w fun e w' => e = .returned (.bool ok) ∧ Below w.heap.size w w' := by
  subst e1
  refine (check_any A s.length c B p.length k room dead arm w (by omega) (by omega)).mono ?_
  rintro e w' ⟨rfl, rfl⟩
  exact ⟨rfl, (Below.refl _ _).alloc (Nat.le_refl _) _⟩
theorem rcheck_k {w : World} {A : Option Addr} {s : List UInt8} {B : Option Addr} {p : List UInt8} (c k : Nat) (room : Int) (dead : Bool) (arm : Int) (h1 : s.length ≤ 10000) (h2 : p.length ≤ 10000) (ok : Bool) (e1 : okD s.length p.length room arm = ok) :
    Calls Try.prog 23 #[dv A s.length c B p.length k room dead arm] w fun e w' => e = .returned (.bool ok) ∧ Below w.heap.size w w' := by
  subst e1
  refine (rcheck_any A s.length c B p.length k room dead arm w (by omega) (by omega)).mono ?_
  rintro e w' ⟨rfl, rfl⟩
  exact ⟨rfl, (Below.refl _ _).alloc (Nat.le_refl _) _⟩
end Go.Proofs.Ythoaocjeladbkaa
