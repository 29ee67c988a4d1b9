/- What heads needs of each call, with numbers. -/
import Derived.Test.YthoaocjeladbkaaDiskU
namespace Go.Proofs.Ythoaocjeladbkaa
open Go.RowKit
set_option linter.unusedVariables false

/-- Five cells of a block are stored. -/
abbrev set5 (w : World) (g : Nat) (a b c d e : Value) : World := ((((w.setCell ⟨g, 0, none⟩ a).setCell ⟨g, 1, none⟩ b).setCell ⟨g, 2, none⟩ c).setCell ⟨g, 3, none⟩ d).setCell ⟨g, 4, none⟩ e
theorem Blk.set5 {w : World} {g : Nat} {t : TypeId} {x y z u v : Value} (h : Blk w g t #[x, y, z, u, v]) (a b c d e : Value) : Blk (set5 w g a b c d e) g t #[a, b, c, d, e] :=
  ((((h.set_ 0 a).set_ 1 b).set_ 2 c).set_ 3 d).set_ 4 e
theorem Blk.far5 {w : World} {g h : Nat} {t : TypeId} {cs : Array Value} (hb : Blk w h t cs) (hne : h ≠ g) (a b c d e : Value) : Blk (Go.Proofs.Ythoaocjeladbkaa.set5 w g a b c d e) h t cs :=
  ((((hb.far (p := ⟨g, 0, none⟩) hne a).far (p := ⟨g, 1, none⟩) hne b).far (p := ⟨g, 2, none⟩) hne c).far (p := ⟨g, 3, none⟩) hne d).far (p := ⟨g, 4, none⟩) hne e
theorem Rc.set5 {B : Nat} {w : World} {A : Option Addr} {n k : Nat} {bs : List UInt8} (h : Rc B w A n k bs) {g : Nat} {x y z u v : Value} (hg : Blk w g 24 #[x, y, z, u, v]) (a b c d e : Value) : Rc B (Go.Proofs.Ythoaocjeladbkaa.set5 w g a b c d e) A n k bs :=
  ((((h.set_ (p := ⟨g, 0, none⟩) hg (by decide) a).set_ (p := ⟨g, 1, none⟩) (hg.set_ 0 a) (by decide) b).set_ (p := ⟨g, 2, none⟩) ((hg.set_ 0 a).set_ 1 b) (by decide) c).set_ (p := ⟨g, 3, none⟩) (((hg.set_ 0 a).set_ 1 b).set_ 2 c) (by decide) d).set_ (p := ⟨g, 4, none⟩) ((((hg.set_ 0 a).set_ 1 b).set_ 2 c).set_ 3 d) (by decide) e
theorem Below.set5_ {B : Nat} {w0 w : World} (h : Below B w0 w) {g : Nat} (hB : B ≤ g) (a b c d e : Value) : Below B w0 (set5 w g a b c d e) :=
  ((((h.setCell hB a).setCell hB b).setCell hB c).setCell hB d).setCell hB e
theorem size_set5 (w : World) (g : Nat) (a b c d e : Value) : (set5 w g a b c d e).heap.size = w.heap.size := by simp [set5, World.setCell]

def NEnd (w : World) (room : Int) (D : Bool) (R E : Int) (n : Nat) (S : List UInt8) (m : Nat) (P : List UInt8) (e : Ending) (w' : World) : Prop :=
  ∃ A c B k, e = .returned (.tuple #[dv A n c B m k room D R, .int .i64 E]) ∧ Rc w.heap.size w' A n c S ∧ Rc w.heap.size w' B m k P ∧ Below w.heap.size w w'
theorem NEnd.of {w : World} {room : Int} {D : Bool} {R E : Int} {S P : List UInt8} {e : Ending} {w' : World} {D' : Bool} {R' E' : Int} {S' P' : List UInt8} {n m : Nat} (h : DEnd w room D R E S P e w') (h1 : D = D') (h2 : R = R') (h3 : E = E') (h4 : S = S') (h5 : P = P') (h6 : S'.length = n) (h7 : P'.length = m) : NEnd w room D' R' E' n S' m P' e w' := by
  subst h1; subst h2; subst h3; subst h4; subst h5
  obtain ⟨A, n', c, B, m', k, rfl, hA, hB, hb⟩ := h
  obtain rfl : n' = n := by rw [← h6, hA.rd.len]
  obtain rfl : m' = m := by rw [← h7, hB.rd.len]
  exact ⟨A, c, B, k, rfl, hA, hB, hb⟩
def NRet (w : World) (room : Int) (D : Bool) (R : Int) (n : Nat) (S : List UInt8) (m : Nat) (P : List UInt8) (e : Ending) (w' : World) : Prop :=
  ∃ A c B k, e = .returned (dv A n c B m k room D R) ∧ Rc w.heap.size w' A n c S ∧ Rc w.heap.size w' B m k P ∧ Below w.heap.size w w'
theorem NRet.of {w : World} {room : Int} {D : Bool} {R : Int} {S P : List UInt8} {e : Ending} {w' : World} {D' : Bool} {R' : Int} {S' P' : List UInt8} {n m : Nat} (h : DRet w room D R S P e w') (h1 : D = D') (h2 : R = R') (h4 : S = S') (h5 : P = P') (h6 : S'.length = n) (h7 : P'.length = m) : NRet w room D' R' n S' m P' e w' := by
  subst h1; subst h2; subst h4; subst h5
  obtain ⟨A, n', c, B, m', k, rfl, hA, hB, hb⟩ := h
  obtain rfl : n' = n := by rw [← h6, hA.rd.len]
  obtain rfl : m' = m := by rw [← h7, hB.rd.len]
  exact ⟨A, c, B, k, rfl, hA, hB, hb⟩

theorem append_n (A : Option Addr) (n c : Nat) (B : Option Addr) (m k : Nat) (room : Int) (dead : Bool) (arm : Int) (s p b : List UInt8) (D : Option Addr) (q l : Nat) (w : World) (hs : Rd w A n s) (hp : Rd w B m p) (hb : Rd w D q b) (h1 : n ≤ 10000) (h2 : m ≤ 10000) (h3 : q ≤ 10000) (ha : arm ≤ 9223372036854775807)
    (D' : Bool) (R' E' : Int) (P' : List UInt8) (m' : Nat) (e1 : apD n m room dead arm = D') (e2 : apA n m room dead arm = R') (e3 : apE n m room dead arm q = E') (e4 : apP n m p room dead arm b = P') (e5 : P'.length = m') :
    Calls Try.prog 9 #[dv A n c B m k room dead arm, .slice D q l] w (NEnd w room D' R' E' n s m' P') := by
  have l1 := hs.len; have l2 := hp.len; have l3 := hb.len
  subst l1; subst l2; subst l3
  refine (append_any A c B k room dead arm s p b D l w hs hp hb h1 h2 h3 ha).mono ?_
  intro e w' h
  exact NEnd.of h e1 e2 e3 rfl e4 rfl e5
theorem sync_n (A : Option Addr) (n c : Nat) (B : Option Addr) (m k : Nat) (room : Int) (dead : Bool) (arm : Int) (s p : List UInt8) (w : World) (hs : Rd w A n s) (hp : Rd w B m p) (h1 : n ≤ 10000) (h2 : m ≤ 10000) (ha : arm ≤ 9223372036854775807)
    (D' : Bool) (R' E' : Int) (S' P' : List UInt8) (n' m' : Nat) (e1 : apD n m room dead arm = D') (e2 : apA n m room dead arm = R') (e3 : syE n m room dead arm = E') (e4 : syS s p E' = S') (e5 : syP p E' = P') (e6 : S'.length = n') (e7 : P'.length = m') :
    Calls Try.prog 11 #[dv A n c B m k room dead arm] w (NEnd w room D' R' E' n' S' m' P') := by
  have l1 := hs.len; have l2 := hp.len
  subst l1; subst l2; subst e3
  refine (sync_any A c B k room dead arm s p w hs hp h1 h2 ha).mono ?_
  intro e w' h
  exact NEnd.of h e1 e2 rfl e4 e5 e6 e7
theorem arm_n (A : Option Addr) (n c : Nat) (B : Option Addr) (m k : Nat) (room : Int) (dead : Bool) (arm q : Int) (s p : List UInt8) (w : World) (hs : Rd w A n s) (hp : Rd w B m p) (h1 : n ≤ 10000) (h2 : m ≤ 10000)
    (R' : Int) (e1 : arA n m room arm q = R') :
    Calls Try.prog 20 #[dv A n c B m k room dead arm, .int .i64 q] w (NRet w room dead R' n s m p) := by
  have l1 := hs.len; have l2 := hp.len
  subst l1; subst l2
  refine (arm_any A c B k room dead arm q s p w hs hp h1 h2).mono ?_
  intro e w' h
  exact NRet.of h rfl e1 rfl rfl rfl rfl
theorem cut_n (A : Option Addr) (n c : Nat) (B : Option Addr) (m k : Nat) (room : Int) (dead : Bool) (arm q : Int) (s p : List UInt8) (w : World) (hs : Rd w A n s) (hp : Rd w B m p) (h1 : n ≤ 10000) (h2 : m ≤ 10000) (hc : n ≤ c)
    (E' : Int) (S' : List UInt8) (n' : Nat) (e1 : ctE n m room dead arm q = E') (e2 : ctS s E' q = S') (e3 : S'.length = n') :
    Calls Try.prog 13 #[dv A n c B m k room dead arm, .int .i64 q] w (NEnd w room dead arm E' n' S' m p) := by
  have l1 := hs.len; have l2 := hp.len
  subst l1; subst l2; subst e1
  refine (cut_any A c B k room dead arm q s p w hs hp h1 h2 hc).mono ?_
  intro e w' h
  exact NEnd.of h rfl rfl rfl e2 rfl e3 rfl
theorem crash_n (A : Option Addr) (n c : Nat) (B : Option Addr) (m k : Nat) (room : Int) (dead : Bool) (arm q : Int) (s p : List UInt8) (w : World) (hs : Rd w A n s) (hp : Rd w B m p) (h1 : n ≤ 10000) (h2 : m ≤ 10000) (hk : m ≤ k)
    (ok : Bool) (D' : Bool) (R' : Int) (S' P' : List UInt8) (n' m' : Nat) (e0 : okD n m room arm = ok) (e1 : crD dead ok = D') (e2 : crA arm ok = R') (e3 : crS s p ok q = S') (e4 : crP p ok = P') (e5 : S'.length = n') (e6 : P'.length = m') :
    Calls Try.prog 18 #[dv A n c B m k room dead arm, .int .i64 q] w (NRet w room D' R' n' S' m' P') := by
  have l1 := hs.len; have l2 := hp.len
  subst l1; subst l2; subst e0
  refine (crash_any A c B k room dead arm q s p w hs hp h1 h2 hk).mono ?_
  intro e w' h
  exact NRet.of h e1 e2 e3 e4 e5 e6
theorem rd_two (W : World) (x y : UInt8) : Rd (W.alloc (.cells #[.int .u8 (x.toNat : Int), .int .u8 (y.toNat : Int)] 5)) (some ⟨W.heap.size, 0, none⟩) 2 [x, y] :=
  Reads.of_own (Blk.own (base := 0) (cap := 2) (Blk.new W 5 #[.int .u8 (x.toNat : Int), .int .u8 (y.toNat : Int)]) (by omega) (by unfold maxLen; omega) rfl)
theorem new10 (w : World) : Calls Try.prog 15 #[.int .i64 10] w fun e w' => e = .returned (.tuple #[dv none 0 0 none 0 0 10 false (-1), .int .i64 0]) ∧ Below w.heap.size w w' := by
  refine (new_any 10 w).mono ?_
  rintro e w' ⟨rfl, k⟩
  exact ⟨by unfold newR; rw [if_pos (by decide)], k⟩
end Go.Proofs.Ythoaocjeladbkaa
