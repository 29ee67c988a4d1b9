/- What Append and Sync do to a disk that has power. -/
import Derived.Test.YthoaocjeladbkaaDiskC
import Derived.Test.YthoaocjeladbkaaDiskS
namespace Go.Proofs.Ythoaocjeladbkaa
open Go.RowKit
set_option linter.unusedVariables false

/-- A row of bytes that was made at or above B. -/
def Rc (B : Nat) (w : World) (A : Option Addr) (n c : Nat) (bs : List UInt8) : Prop := w.ownsRow B 5 1 (.slice A n c) n (bv bs)
theorem rc_of_own {B : Nat} {w : World} {base : Nat} {A : Option Addr} {n c : Nat} {bs : List UInt8} (h : w.ownsRow base 5 1 (.slice A n c) n (bv bs)) (hB : B ≤ base := by omega) : Rc B w A n c bs := own_more h hB
theorem Rc.rd {B : Nat} {w : World} {A : Option Addr} {n c : Nat} {bs : List UInt8} (h : Rc B w A n c bs) : Rd w A n bs := Reads.of_own h
theorem Rc.caps {B : Nat} {w : World} {A : Option Addr} {n c : Nat} {bs : List UInt8} (h : Rc B w A n c bs) : n ≤ c ∧ c ≤ maxLen := by
  rcases h.2 with ⟨hv, h0⟩ | ⟨g, cap, cur, hv, _, _, h1, h2, _⟩
  · injection hv with e1 e2 e3; subst e3; subst h0; exact ⟨Nat.le_refl _, Nat.zero_le _⟩
  · injection hv with e1 e2 e3; subst e3; exact ⟨h1, h2⟩
theorem Rc.below {B : Nat} {w w' : World} {A : Option Addr} {n c : Nat} {bs : List UInt8} (h : Rc B w A n c bs) (hb : Below w.heap.size w w') : Rc B w' A n c bs := own_below h hb
theorem Rc.far {B : Nat} {w : World} {A : Option Addr} {n c : Nat} {bs : List UInt8} (h : Rc B w A n c bs) {p : Addr} (hp : p.block < B) (u : Value) : Rc B (w.setCell p u) A n c bs := own_far h hp u
theorem Rc.set_ {B : Nat} {w : World} {A : Option Addr} {n c : Nat} {bs : List UInt8} (h : Rc B w A n c bs) {p : Addr} {t : TypeId} {cs : Array Value} (hg : Blk w p.block t cs) (hne : 5 ≠ t) (u : Value) : Rc B (w.setCell p u) A n c bs := own_set_blk h hg hne u
theorem Rc.alloc {B : Nat} {w : World} {A : Option Addr} {n c : Nat} {bs : List UInt8} (h : Rc B w A n c bs) (o : Obj) : Rc B (w.alloc o) A n c bs := World.ownsRow.alloc h o
theorem Rc.more {B C : Nat} {w : World} {A : Option Addr} {n c : Nat} {bs : List UInt8} (h : Rc B w A n c bs) (hB : C ≤ B) : Rc C w A n c bs := own_more h hB
theorem Rc.none_ (B : Nat) (w : World) : Rc B w none 0 0 [] := World.ownsRow_nil _ _ _ _

set_option maxHeartbeats 800000 in
theorem opA_any (A : Option Addr) (n c : Nat) (B : Option Addr) (m k : Nat) (room : Int) (dead : Bool) (arm : Int) (s p b : List UInt8) (g : Nat) (D : Option Addr) (q l : Nat) (w : World) (hs : Rd w A n s) (hp : Rd w B m p) (hb : Rd w D q b) (hg : Blk w g 22 #[.slice D q l])
    (h1 : n ≤ 1000000) (h2 : m ≤ 1000000) (h3 : q ≤ 1000000) :
    Calls Try.prog 25 #[dv A n c B m k room dead arm, .pointer (some ⟨g, 0, none⟩)] w fun e w' => Below w.heap.size w w' ∧
      ((room < (n : Int) + m + q ∧ e = .returned (.tuple #[dv A n c B m k room dead arm, .int .i64 35])) ∨
       ((n : Int) + m + q ≤ room ∧ ∃ J j, e = .returned (.tuple #[dv A n c J (m + q) j room dead arm, .int .i64 0]) ∧ Rc w.heap.size w' J (m + q) j (p ++ b))) := by
  have zg := hg.lt
  have g0 := hg.cell 0
  have g1 := hg.frozen 0
  simp only [List.getElem?_toArray, List.getElem?_cons_zero] at g0
  by_cases hlt : room < (n : Int) + m + q
  · go_enter Try.func25, Try.ntmps25
    go_wp2
    refine bodyPost_ret (v := .tuple #[dv A n c B m k room dead arm, .int .i64 35]) (by simp only [results, Try.results25]; go_simp) rfl ⟨?_, Or.inl ⟨hlt, rfl⟩⟩
    ((repeat (refine Below.alloc ?_ (by first | exact Nat.le_refl _ | (simp; done) | (simp; omega)) _)); exact Below.refl _ _)
  · have hle : (n : Int) + m + q ≤ room := by omega
    go_enter Try.func25, Try.ntmps25
    go_wp2_with fail
    refine (joined_any B m k D q l p b _ ?c1 ?c2 (by omega) (by omega)).mono ?_
    case c1 => exact ((hp.alloc (Nat.le_refl _) _).alloc (by simp) _).more (by simp; omega)
    case c2 => exact ((hb.alloc (Nat.le_refl _) _).alloc (by simp) _).more (by simp; omega)
    rintro e w1 ⟨J, j, rfl, ho, k1⟩
    have hP := Blk.below (h := (Blk.new w 24 #[Value.slice A n c, .slice B m k, .int .i64 room, .bool dead, .int .i64 arm]).alloc (.cells #[.slice none 0 0, .slice none 0 0, .int .i64 0, .bool false, .int .i64 0] 24)) (hb := k1) (by simp; omega)
    have hQ := Blk.below (h := (Blk.new (w.alloc (dC A n c B m k room dead arm)) 24 #[.slice none 0 0, .slice none 0 0, .int .i64 0, .bool false, .int .i64 0])) (hb := k1) (by simp)
    rw [World.size_alloc] at hQ
    have bel := hide (below_more (((Below.refl w.heap.size w).alloc (Nat.le_refl _) (dC A n c B m k room dead arm)).alloc (by simp) (.cells #[.slice none 0 0, .slice none 0 0, .int .i64 0, .bool false, .int .i64 0] 24)) (Nat.le_refl _) k1)
    have hO := hide ho
    have hz := k1.size
    simp at hz
    clear ho k1 g0 g1
    obtain ⟨⟨a0, a1, a2, a3, a4⟩, f0, f1, f2, f3, f4⟩ := hP.five
    obtain ⟨⟨x0, x1, x2, x3, x4⟩, y0, y1, y2, y3, y4⟩ := hQ.five
    have hy0 : w.heap.size < w1.heap.size := by omega
    have hy1 : w.heap.size + 1 < w1.heap.size := by omega
    go_wp2
    refine bodyPost_ret (v := .tuple #[dv A n c J (m + q) j room dead arm, .int .i64 0]) (by simp only [results, Try.results25]; go_simp) rfl ⟨?_, Or.inr ⟨hle, J, j, rfl, ?_⟩⟩
    · exact (((((bel.out.setCell (by simp) _).setCell (by simp) _).setCell (by simp) _).setCell (by simp) _).setCell (by simp) _).setCell (by simp) _
    · have o1 : Rc (w.heap.size + 2) w1 J (m + q) j (p ++ b) := rc_of_own hO.out (by simp)
      exact ((((((o1.far (by simp) _).far (by simp) _).far (by simp) _).far (by simp) _).far (by simp) _).far (by simp) _).more (by omega)

set_option maxHeartbeats 800000 in
theorem opS_any (A : Option Addr) (n c : Nat) (B : Option Addr) (m k : Nat) (room : Int) (dead : Bool) (arm : Int) (s p : List UInt8) (w : World) (hs : Rd w A n s) (hp : Rd w B m p)
    (h1 : n ≤ 1000000) (h2 : m ≤ 1000000) :
    Calls Try.prog 29 #[dv A n c B m k room dead arm] w fun e w' => Below w.heap.size w w' ∧
      ∃ J j, e = .returned (.tuple #[dv J (n + m) j none 0 0 room dead arm, .int .i64 0]) ∧ Rc w.heap.size w' J (n + m) j (s ++ p) := by
  go_enter Try.func29, Try.ntmps29
  go_wp2_with fail
  refine (joined_any A n c B m k s p _ ?c1 ?c2 (by omega) (by omega)).mono ?_
  case c1 => exact ((hs.alloc (Nat.le_refl _) _).alloc (by simp) _).more (by simp; omega)
  case c2 => exact ((hp.alloc (Nat.le_refl _) _).alloc (by simp) _).more (by simp; omega)
  rintro e w1 ⟨J, j, rfl, ho, k1⟩
  have hP := Blk.below (h := (Blk.new w 24 #[Value.slice A n c, .slice B m k, .int .i64 room, .bool dead, .int .i64 arm]).alloc (.cells #[.slice none 0 0, .slice none 0 0, .int .i64 0, .bool false, .int .i64 0] 24)) (hb := k1) (by simp; omega)
  have hQ := Blk.below (h := (Blk.new (w.alloc (dC A n c B m k room dead arm)) 24 #[.slice none 0 0, .slice none 0 0, .int .i64 0, .bool false, .int .i64 0])) (hb := k1) (by simp)
  rw [World.size_alloc] at hQ
  have bel := hide (below_more (((Below.refl w.heap.size w).alloc (Nat.le_refl _) (dC A n c B m k room dead arm)).alloc (by simp) (.cells #[.slice none 0 0, .slice none 0 0, .int .i64 0, .bool false, .int .i64 0] 24)) (Nat.le_refl _) k1)
  have hO := hide ho
  have hz := k1.size
  simp at hz
  clear ho k1
  obtain ⟨⟨a0, a1, a2, a3, a4⟩, f0, f1, f2, f3, f4⟩ := hP.five
  obtain ⟨⟨x0, x1, x2, x3, x4⟩, y0, y1, y2, y3, y4⟩ := hQ.five
  have hy0 : w.heap.size < w1.heap.size := by omega
  have hy1 : w.heap.size + 1 < w1.heap.size := by omega
  go_wp2
  refine bodyPost_ret (v := .tuple #[dv J (n + m) j none 0 0 room dead arm, .int .i64 0]) (by simp only [results, Try.results29]; go_simp) rfl ⟨?_, J, j, rfl, ?_⟩
  · exact ((((((bel.out.setCell (by simp) _).setCell (by simp) _).setCell (by simp) _).setCell (by simp) _).setCell (by simp) _).setCell (by simp) _).setCell (by simp) _
  · have o1 : Rc (w.heap.size + 2) w1 J (n + m) j (s ++ p) := rc_of_own hO.out (by simp)
    exact (((((((o1.far (by simp) _).far (by simp) _).far (by simp) _).far (by simp) _).far (by simp) _).far (by simp) _).far (by simp) _).more (by omega)
end Go.Proofs.Ythoaocjeladbkaa
