import Derived.Test.YtpbhkceinnganaaClone
import Derived.Test.YtpbhkceinnganaaSame
namespace Go.Proofs.Ytpbhkceinnganaa
open Go.RowKit
set_option linter.unusedVariables false

/-- A pipe that may be. -/
def okP (n : Nat) (r u : Int) : Bool := decide (n ≤ 64 ∧ 0 ≤ r ∧ r ≤ 1000 ∧ 0 ≤ u ∧ u ≤ 1000)
theorem okP_yes {n : Nat} {r u : Int} (h1 : n ≤ 64) (h2 : 0 ≤ r) (h3 : r ≤ 1000) (h4 : 0 ≤ u) (h5 : u ≤ 1000) : okP n r u = true := decide_eq_true ⟨h1, h2, h3, h4, h5⟩
theorem okP_no {n : Nat} {r u : Int} (h : 64 < n ∨ r < 0 ∨ 1000 < r ∨ u < 0 ∨ 1000 < u) : okP n r u = false := decide_eq_false (by rintro ⟨_, _, _, _, _⟩; omega)
/-- A row of bytes that was made at or above B. -/
def Rc (B : Nat) (w : World) (A : Option Addr) (n c : Nat) (bs : List UInt8) : Prop := w.ownsRow B 5 1 (.slice A n c) n (bv bs)
theorem rc_of_own {B : Nat} {w : World} {base : Nat} {A : Option Addr} {n c : Nat} {bs : List UInt8} (h : w.ownsRow base 5 1 (.slice A n c) n (bv bs)) (hB : B ≤ base := by omega) : Rc B w A n c bs := own_more h hB
theorem Rc.rd {B : Nat} {w : World} {A : Option Addr} {n c : Nat} {bs : List UInt8} (h : Rc B w A n c bs) : Rd w A n bs := Reads.of_own h
theorem Rc.caps {B : Nat} {w : World} {A : Option Addr} {n c : Nat} {bs : List UInt8} (h : Rc B w A n c bs) : n ≤ c ∧ c ≤ maxLen := by
  rcases h.2 with ⟨hv, h0⟩ | ⟨g, cap, cur, hv, _, _, h1, h2, _⟩
  · injection hv with e1 e2 e3; subst e3; subst h0; exact ⟨Nat.le_refl _, Nat.zero_le _⟩
  · injection hv with e1 e2 e3; subst e3; exact ⟨h1, h2⟩
theorem Rc.below {B : Nat} {w w' : World} {A : Option Addr} {n c : Nat} {bs : List UInt8} (h : Rc B w A n c bs) (hb : Below w.heap.size w w') : Rc B w' A n c bs := own_below h hb
theorem Rc.far {B : Nat} {w : World} {A : Option Addr} {n c : Nat} {bs : List UInt8} (h : Rc B w A n c bs) {p : Addr} (hp : p.block < B) (u : Value) : Rc B (w.setCell p u) A n c bs := own_far h hp u
theorem Rc.set_ {B : Nat} {w : World} {A : Option Addr} {n c : Nat} {bs : List UInt8} (h : Rc B w A n c bs) {p : Addr} {t : TypeId} {cs : Array Value} (hg : Blk w p.block t cs) (hne : 5 ≠ t) (u : Value) : Rc B (w.setCell p u) A n c bs := own_set_blk h hg hne u
theorem Rc.alloc {B : Nat} {w : World} {A : Option Addr} {n c : Nat} {bs : List UInt8} (h : Rc B w A n c bs) (o : Obj) : Rc B (w.alloc o) A n c bs := World.ownsRow.alloc h o
abbrev pv (A : Option Addr) (n c : Nat) (r u : Int) : Value := .agg #[.slice A n c, .int .i64 r, .int .i64 u]

set_option maxHeartbeats 400000 in
theorem check_any (A : Option Addr) (n c : Nat) (r u : Int) (w : World) (hn : n ≤ maxLen) :
    Calls Try.prog 15 #[pv A n c r u] w fun e w' => e = .returned (.bool (okP n r u)) ∧ w.alloc (.cells #[.slice A n c, .int .i64 r, .int .i64 u] 24) = w' := by
  unfold maxLen at hn
  go_enter Try.func15, Try.ntmps15
  go_wp2
  all_goals
    go_ret
    refine ⟨ret_bool ?_, rfl⟩
    first
      | rw [okP_no (by omega)]
      | (unfold okP; rw [Bool.eq_iff_iff]; simp; omega)
set_option maxHeartbeats 400000 in
theorem rcheck_any (A : Option Addr) (n c : Nat) (r u : Int) (w : World) (hn : n ≤ maxLen) :
    Calls Try.prog 16 #[pv A n c r u] w fun e w' => e = .returned (.bool (okP n r u)) ∧ w.alloc (.cells #[.slice A n c, .int .i64 r, .int .i64 u] 24) = w' := by
  unfold maxLen at hn
  go_enter Try.func16, Try.ntmps16
  go_wp2
  all_goals
    go_ret
    refine ⟨ret_bool ?_, rfl⟩
    first
      | rw [okP_no (by omega)]
      | (unfold okP; rw [Bool.eq_iff_iff]; simp; omega)
set_option maxHeartbeats 400000 in
theorem cpipe_any (A : Option Addr) (n c : Nat) (r u : Int) (bs : List UInt8) (w : World) (hr : Rd w A n bs) (hn : n ≤ 1000000) :
    Calls Try.prog 19 #[pv A n c r u] w fun e w' => ∃ A' c', e = .returned (pv A' n c' r u) ∧ w'.ownsRow w.heap.size 5 1 (.slice A' n c') n (bv bs) ∧ Below w.heap.size w w' := by
  go_enter Try.func19, Try.ntmps19
  go_wp2_with fail
  refine (list_any A n c bs _ (((hr.alloc (Nat.le_refl _) _).alloc (by simp) _).more (by simp; omega)) hn).mono ?_
  rintro e w1 ⟨A', c', rfl, hown, hb⟩
  have hbw := hide ((((Below.refl w.heap.size w).alloc (Nat.le_refl _) (.cells #[Value.slice A n c, .int .i64 r, .int .i64 u] 24)).alloc (by simp) (.cells #[Value.slice none 0 0, .int .i64 0, .int .i64 0] 24)).trans (hb.mono (by simp; omega)))
  obtain ⟨a0, a1, a2, f0, f1, f2⟩ := (((Blk.new w 24 #[Value.slice A n c, .int .i64 r, .int .i64 u]).alloc (.cells #[Value.slice none 0 0, .int .i64 0, .int .i64 0] 24)).below hb (by simp; omega)).three
  obtain ⟨b0, b1, b2, g0, g1, g2⟩ := ((Blk.new (w.alloc (.cells #[Value.slice A n c, .int .i64 r, .int .i64 u] 24)) 24 #[Value.slice none 0 0, .int .i64 0, .int .i64 0]).below hb (by simp)).three
  simp only [World.size_alloc] at b0 b1 b2 g0 g1 g2
  clear hb hr
  go_wp2
  refine bodyPost_ret (v := pv A' n c' r u) (by simp [results, Try.results19, go_sem, b0, b1, b2]) rfl ⟨A', c', rfl, own_more (own_far (own_far (own_far (own_far hown (by simp; omega) _) (by simp) _) (by simp) _) (by simp) _) (by simp; omega), ?_⟩
  exact (((hbw.out.setCell (Nat.le_refl _) _).setCell (by simp) _).setCell (by simp) _).setCell (by simp) _
end Go.Proofs.Ytpbhkceinnganaa
