/- The reference's Append and Sync of disks. -/
import Derived.Test.YthoaocjeladbkaaDiskP
import Derived.Test.YthoaocjeladbkaaDiskJ
namespace Go.Proofs.Ythoaocjeladbkaa
open Go.RowKit
set_option linter.unusedVariables false

/-- What Append answers: the error, and the bytes that wait. -/
def apE (n m : Nat) (room : Int) (dead : Bool) (arm : Int) (q : Nat) : Int := if okD n m room arm = false then 2 else if pwO dead arm = false then 42 else if room < (n : Int) + m + q then 35 else 0
def apP (n m : Nat) (p : List UInt8) (room : Int) (dead : Bool) (arm : Int) (b : List UInt8) : List UInt8 := if apE n m room dead arm b.length = 0 then p ++ b else p
def apD (n m : Nat) (room : Int) (dead : Bool) (arm : Int) : Bool := if okD n m room arm = false then dead else pwD dead arm
def apA (n m : Nat) (room : Int) (dead : Bool) (arm : Int) : Int := if okD n m room arm = false then arm else pwA dead arm
def ApEnd (w : World) (s p b : List UInt8) (room : Int) (dead : Bool) (arm : Int) (e : Ending) (w' : World) : Prop :=
  ∃ A n c B m k, e = .returned (.tuple #[dv A n c B m k room (apD s.length p.length room dead arm) (apA s.length p.length room dead arm), .int .i64 (apE s.length p.length room dead arm b.length)]) ∧ Rd w' A n s ∧ Rd w' B m (apP s.length p.length p room dead arm b) ∧ Below w.heap.size w w'
theorem apEnd_no {w w' : World} {A B : Option Addr} {c k : Nat} {s p b : List UInt8} {room arm R E : Int} {dead T : Bool} (h : apD s.length p.length room dead arm = T ∧ apA s.length p.length room dead arm = R ∧ apE s.length p.length room dead arm b.length = E ∧ E ≠ 0) (hs : Rd w A s.length s) (hp : Rd w B p.length p) (bel : Below w.heap.size w w') :
    ApEnd w s p b room dead arm (.returned (.tuple #[dv A s.length c B p.length k room T R, .int .i64 E])) w' := by
  refine ⟨A, s.length, c, B, p.length, k, by rw [h.1, h.2.1, h.2.2.1], (Reads.below hs bel).more bel.size, ?_, bel⟩
  unfold apP
  rw [if_neg (by rw [h.2.2.1]; exact h.2.2.2)]
  exact (Reads.below hp bel).more bel.size

set_option maxHeartbeats 800000 in
theorem rappend_any (A : Option Addr) (c : Nat) (B : Option Addr) (k : Nat) (room : Int) (dead : Bool) (arm : Int) (s p b : List UInt8) (D : Option Addr) (l : Nat) (w : World) (hs : Rd w A s.length s) (hp : Rd w B p.length p) (hb : Rd w D b.length b) (h1 : s.length ≤ 10000) (h2 : p.length ≤ 10000) (h3 : b.length ≤ 10000) (ha : arm ≤ 9223372036854775807) :
    Calls Try.prog 10 #[dv A s.length c B p.length k room dead arm, .slice D b.length l] w (ApEnd w s p b room dead arm) := by
  go_enter Try.func10, Try.ntmps10
  go_wp2_with fail
  refine (rcheck_any A _ c B _ k room dead arm _ (by omega) (by omega)).mono ?_
  rintro e w2 ⟨rfl, rfl⟩
  cases hok : okD s.length p.length room arm
  · have HE : Hid (apD s.length p.length room dead arm = dead ∧ apA s.length p.length room dead arm = arm ∧ apE s.length p.length room dead arm b.length = 2 ∧ (2 : Int) ≠ 0) := hide (by unfold apD apA apE; rw [hok]; simp)
    go_wp2
    refine bodyPost_ret (v := .tuple #[dv A s.length c B p.length k room dead arm, .int .i64 2]) (by simp only [results, Try.results10]; go_simp) rfl (apEnd_no HE.out hs hp ?_)
    ((repeat (refine Below.alloc ?_ (by first | exact Nat.le_refl _ | (simp; done) | (simp; omega)) _)); exact Below.refl _ _)
  · have hbd : 0 ≤ room ∧ room ≤ 1048576 ∧ (s.length : Int) + p.length ≤ room ∧ -1 ≤ arm := by unfold okD at hok; exact of_decide_eq_true hok
    obtain ⟨q1, q2, q3, q4⟩ := hbd
    go_wp2_with fail
    refine (rpower_any A _ c B _ k room dead arm _ q4 ha).mono ?_
    rintro e w3 ⟨rfl, k3⟩
    have hQ := Blk.below (h := ((Blk.new (w.alloc (dC A s.length c B p.length k room dead arm)) 24 #[.slice none 0 0, .slice none 0 0, .int .i64 0, .bool false, .int .i64 0]).alloc (dC A s.length c B p.length k room dead arm))) (hb := k3) (by simp)
    simp only [World.size_alloc] at hQ
    have hz := k3.size
    simp at hz
    have bel3 : Below w.heap.size w w3 := Below.trans (b := ((w.alloc (dC A s.length c B p.length k room dead arm)).alloc (.cells #[.slice none 0 0, .slice none 0 0, .int .i64 0, .bool false, .int .i64 0] 24)).alloc (dC A s.length c B p.length k room dead arm)) (by ((repeat (refine Below.alloc ?_ (by first | exact Nat.le_refl _ | (simp; done) | (simp; omega)) _)); exact Below.refl _ _)) (k3.mono (by simp; omega))
    have K3 := hide bel3
    clear k3 bel3
    have hy : w.heap.size + 1 < w3.heap.size := by omega
    obtain ⟨⟨a0, a1, a2, a3, a4⟩, f0, f1, f2, f3, f4⟩ := hQ.five
    have hD : Hid (apD s.length p.length room dead arm = pwD dead arm ∧ apA s.length p.length room dead arm = pwA dead arm) := hide (by unfold apD apA; rw [hok]; simp)
    generalize hT : pwD dead arm = T at hD ⊢
    generalize hR : pwA dead arm = R at hD ⊢
    cases hO : pwO dead arm
    · have HE : Hid (apE s.length p.length room dead arm b.length = 42) := hide (by unfold apE; rw [hok, hO]; simp)
      clear hT hR hO
      go_wp2
      refine bodyPost_ret (v := .tuple #[dv A s.length c B p.length k room T R, .int .i64 42]) (by simp only [results, Try.results10]; go_simp) rfl (apEnd_no ⟨hD.out.1, hD.out.2, HE.out, by decide⟩ hs hp ?_)
      exact (((((K3.out.setCell (by simp) _).setCell (by simp) _).setCell (by simp) _).setCell (by simp) _).setCell (by simp) _).alloc (by simp [World.setCell]; omega) _
    · clear hT hR
      by_cases hlt : room < (s.length : Int) + p.length + b.length
      · have HE : Hid (apE s.length p.length room dead arm b.length = 35) := hide (by unfold apE; rw [hok, hO, if_neg (by decide), if_neg (by decide), if_pos hlt])
        clear hO
        go_wp2
        refine bodyPost_ret (v := .tuple #[dv A s.length c B p.length k room T R, .int .i64 35]) (by simp only [results, Try.results10]; go_simp) rfl (apEnd_no ⟨hD.out.1, hD.out.2, HE.out, by decide⟩ hs hp ?_)
        exact (((((K3.out.setCell (by simp) _).setCell (by simp) _).setCell (by simp) _).setCell (by simp) _).setCell (by simp) _).alloc (by simp [World.setCell]; omega) _
      · have HE : Hid (apE s.length p.length room dead arm b.length = 0) := hide (by unfold apE; rw [hok, hO, if_neg (by decide), if_neg (by decide), if_neg hlt])
        clear hO
        go_wp2_with fail
        refine (rjoin_any B _ k D _ l p b _ ?c1 ?c2 (by omega) (by omega)).mono ?_
        case c1 => exact ((Reads.below hp K3.out).more (Nat.le_of_lt (by omega))).alloc (Nat.le_refl _) _ |>.more (by simp)
        case c2 => exact ((Reads.below hb K3.out).more (Nat.le_of_lt (by omega))).alloc (Nat.le_refl _) _ |>.more (by simp)
        rintro e w4 ⟨J, j, rfl, ho4, k4⟩
        have hQ4 := Blk.below (h := (hQ.alloc (.cells #[Value.slice A s.length c, .slice B p.length k, .int .i64 room, .bool T, .int .i64 R] 24))) (hb := k4) (by simp; omega)
        have hX4 := Blk.below (h := (Blk.new w3 24 #[Value.slice A s.length c, .slice B p.length k, .int .i64 room, .bool T, .int .i64 R])) (hb := k4) (by simp)
        have bel4 := hide (below_more (K3.out.alloc (by omega) (.cells #[Value.slice A s.length c, .slice B p.length k, .int .i64 room, .bool T, .int .i64 R] 24)) (Nat.le_refl _) k4)
        have hz4 := k4.size
        simp at hz4
        have HO4 := hide ho4
        clear ho4 k4 a0 a1 a2 a3 a4 f0 f1 f2 f3 f4
        obtain ⟨⟨a0, a1, a2, a3, a4⟩, f0, f1, f2, f3, f4⟩ := hQ4.five
        obtain ⟨⟨x0, x1, x2, x3, x4⟩, y0, y1, y2, y3, y4⟩ := hX4.five
        have hv1 : w3.heap.size < w4.heap.size := by omega
        have hv2 : w.heap.size + 1 < w4.heap.size := by omega
        go_wp2
        refine bodyPost_ret (v := .tuple #[dv A s.length c J (p.length + b.length) j room T R, .int .i64 0]) (by simp only [results, Try.results10]; go_simp) rfl ?_
        have belF := (((((bel4.out.setCell (p := ⟨w3.heap.size, 1, none⟩) (by simp; omega) (.slice J (p.length + b.length) j)).setCell (p := ⟨w.heap.size + 1, 0, none⟩) (by simp) (.slice A s.length c)).setCell (p := ⟨w.heap.size + 1, 1, none⟩) (by simp) (.slice J (p.length + b.length) j)).setCell (p := ⟨w.heap.size + 1, 2, none⟩) (by simp) (.int .i64 room)).setCell (p := ⟨w.heap.size + 1, 3, none⟩) (by simp) (.bool T)).setCell (p := ⟨w.heap.size + 1, 4, none⟩) (by simp) (.int .i64 R)
        have oF := own_far (own_far (own_far (own_far (own_far (own_far HO4.out (p := ⟨w3.heap.size, 1, none⟩) (by simp) (.slice J (p.length + b.length) j)) (p := ⟨w.heap.size + 1, 0, none⟩) (by simp; omega) (.slice A s.length c)) (p := ⟨w.heap.size + 1, 1, none⟩) (by simp; omega) (.slice J (p.length + b.length) j)) (p := ⟨w.heap.size + 1, 2, none⟩) (by simp; omega) (.int .i64 room)) (p := ⟨w.heap.size + 1, 3, none⟩) (by simp; omega) (.bool T)) (p := ⟨w.heap.size + 1, 4, none⟩) (by simp; omega) (.int .i64 R)
        refine ⟨A, s.length, c, J, p.length + b.length, j, by rw [hD.out.1, hD.out.2, HE.out], (Reads.below hs belF).more belF.size, ?_, belF⟩
        unfold apP
        rw [if_pos HE.out]
        exact Reads.of_own oF
end Go.Proofs.Ythoaocjeladbkaa
