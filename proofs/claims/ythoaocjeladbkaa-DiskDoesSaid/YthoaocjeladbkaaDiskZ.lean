/- Append, Sync, Arm of disks. -/
import Derived.Test.YthoaocjeladbkaaDiskY
import Derived.Test.YthoaocjeladbkaaDiskR
namespace Go.Proofs.Ythoaocjeladbkaa
open Go.RowKit
set_option linter.unusedVariables false

set_option maxHeartbeats 800000 in
theorem append_any (A : Option Addr) (c : Nat) (B : Option Addr) (k : Nat) (room : Int) (dead : Bool) (arm : Int) (s p b : List UInt8) (D : Option Addr) (l : Nat) (w : World) (hs : Rd w A s.length s) (hp : Rd w B p.length p) (hb : Rd w D b.length b) (h1 : s.length ≤ 10000) (h2 : p.length ≤ 10000) (h3 : b.length ≤ 10000) (ha : arm ≤ 9223372036854775807) :
    Calls Try.prog 9 #[dv A s.length c B p.length k room dead arm, .slice D b.length l] w (DEnd w room (apD s.length p.length room dead arm) (apA s.length p.length room dead arm) (apE s.length p.length room dead arm b.length) s (apP s.length p.length p room dead arm b)) := by
  go_enter Try.func9, Try.ntmps9
  go_wp2_with fail
  refine (powA_any A c B k room dead arm s p _ ?c1 ?c2 h1 h2 ha b (w.heap.size + 1) D l ?c3 ?c4 h3).mono ?_
  case c1 => exact (((hs.alloc (Nat.le_refl _) _).alloc (by simp) _).alloc (by simp; omega) _).more (by simp; omega)
  case c2 => exact (((hp.alloc (Nat.le_refl _) _).alloc (by simp) _).alloc (by simp; omega) _).more (by simp; omega)
  case c3 => exact (((hb.alloc (Nat.le_refl _) _).alloc (by simp) _).alloc (by simp; omega) _).more (by simp; omega)
  case c4 =>
    have h := (Blk.new (w.alloc (dC A s.length c B p.length k room dead arm)) 22 #[.slice D b.length l]).alloc (.cells #[.slice none 0 0, .slice none 0 0, .int .i64 0, .bool false, .int .i64 0] 24)
    rwa [World.size_alloc] at h
  rintro e w1 ⟨A', n, c', B', m, k', rfl, oA, oB, k1⟩
  have hQ := Blk.below (h := (Blk.new ((w.alloc (dC A s.length c B p.length k room dead arm)).alloc (.cells #[.slice D b.length l] 22)) 24 #[.slice none 0 0, .slice none 0 0, .int .i64 0, .bool false, .int .i64 0])) (hb := k1) (by simp)
  rw [World.size_alloc, World.size_alloc] at hQ
  have bel := hide (below_more ((((Below.refl w.heap.size w).alloc (Nat.le_refl _) (dC A s.length c B p.length k room dead arm)).alloc (by simp) (.cells #[.slice D b.length l] 22)).alloc (by simp; omega) (.cells #[.slice none 0 0, .slice none 0 0, .int .i64 0, .bool false, .int .i64 0] 24)) (Nat.le_refl _) k1)
  have OA : Hid (Rc (w.heap.size + 3) w1 A' n c' s) := hide (oA.more (by simp))
  have OB := hide (oB.more (C := w.heap.size + 3) (by simp))
  have hz := k1.size
  simp at hz
  clear oA oB k1
  obtain ⟨⟨x0, x1, x2, x3, x4⟩, y0, y1, y2, y3, y4⟩ := hQ.five
  have hy1 : w.heap.size + 1 + 1 < w1.heap.size := by omega
  generalize apD s.length p.length room dead arm = T at *
  generalize apA s.length p.length room dead arm = R at *
  generalize apE s.length p.length room dead arm b.length = E at *
  generalize apP s.length p.length p room dead arm b = P at *
  go_wp2
  refine bodyPost_ret (v := .tuple #[dv A' n c' B' m k' room T R, .int .i64 E]) (by simp only [results, Try.results9]; go_simp) rfl ⟨A', n, c', B', m, k', rfl, ?_, ?_, ?_⟩
  · exact (((((OA.out.far (by simp) _).far (by simp) _).far (by simp) _).far (by simp) _).far (by simp) _).more (by omega)
  · exact (((((OB.out.far (by simp) _).far (by simp) _).far (by simp) _).far (by simp) _).far (by simp) _).more (by omega)
  · exact ((((bel.out.setCell (by simp; omega) _).setCell (by simp; omega) _).setCell (by simp; omega) _).setCell (by simp; omega) _).setCell (by simp; omega) _

set_option maxHeartbeats 800000 in
theorem sync_any (A : Option Addr) (c : Nat) (B : Option Addr) (k : Nat) (room : Int) (dead : Bool) (arm : Int) (s p : List UInt8) (w : World) (hs : Rd w A s.length s) (hp : Rd w B p.length p) (h1 : s.length ≤ 10000) (h2 : p.length ≤ 10000) (ha : arm ≤ 9223372036854775807) :
    Calls Try.prog 11 #[dv A s.length c B p.length k room dead arm] w (DEnd w room (apD s.length p.length room dead arm) (apA s.length p.length room dead arm) (syE s.length p.length room dead arm) (syS s p (syE s.length p.length room dead arm)) (syP p (syE s.length p.length room dead arm))) := by
  go_enter Try.func11, Try.ntmps11
  go_wp2_with fail
  refine (powS_any A c B k room dead arm s p _ ?c1 ?c2 h1 h2 ha).mono ?_
  case c1 => exact ((hs.alloc (Nat.le_refl _) _).alloc (by simp) _).more (by simp; omega)
  case c2 => exact ((hp.alloc (Nat.le_refl _) _).alloc (by simp) _).more (by simp; omega)
  rintro e w1 ⟨A', n, c', B', m, k', rfl, oA, oB, k1⟩
  have hQ := Blk.below (h := (Blk.new (w.alloc (dC A s.length c B p.length k room dead arm)) 24 #[.slice none 0 0, .slice none 0 0, .int .i64 0, .bool false, .int .i64 0])) (hb := k1) (by simp)
  rw [World.size_alloc] at hQ
  have bel := hide (below_more (((Below.refl w.heap.size w).alloc (Nat.le_refl _) (dC A s.length c B p.length k room dead arm)).alloc (by simp) (.cells #[.slice none 0 0, .slice none 0 0, .int .i64 0, .bool false, .int .i64 0] 24)) (Nat.le_refl _) k1)
  have OA := hide (oA.more (C := w.heap.size + 2) (by simp))
  have OB := hide (oB.more (C := w.heap.size + 2) (by simp))
  have hz := k1.size
  simp at hz
  clear oA oB k1
  obtain ⟨⟨x0, x1, x2, x3, x4⟩, y0, y1, y2, y3, y4⟩ := hQ.five
  have hy1 : w.heap.size + 1 < w1.heap.size := by omega
  generalize apD s.length p.length room dead arm = T at *
  generalize apA s.length p.length room dead arm = R at *
  generalize syE s.length p.length room dead arm = E at *
  generalize syP p E = P at *
  generalize syS s p E = S at *
  go_wp2
  refine bodyPost_ret (v := .tuple #[dv A' n c' B' m k' room T R, .int .i64 E]) (by simp only [results, Try.results11]; go_simp) rfl ⟨A', n, c', B', m, k', rfl, ?_, ?_, ?_⟩
  · exact (((((OA.out.far (by simp) _).far (by simp) _).far (by simp) _).far (by simp) _).far (by simp) _).more (by omega)
  · exact (((((OB.out.far (by simp) _).far (by simp) _).far (by simp) _).far (by simp) _).far (by simp) _).more (by omega)
  · exact ((((bel.out.setCell (by simp) _).setCell (by simp) _).setCell (by simp) _).setCell (by simp) _).setCell (by simp) _

/-- A disk comes back in memory of its own. -/
def DRet (w : World) (room : Int) (D : Bool) (R : Int) (S P : List UInt8) (e : Ending) (w' : World) : Prop :=
  ∃ A n c B m k, e = .returned (dv A n c B m k room D R) ∧ Rc w.heap.size w' A n c S ∧ Rc w.heap.size w' B m k P ∧ Below w.heap.size w w'

set_option maxHeartbeats 800000 in
theorem arm_any (A : Option Addr) (c : Nat) (B : Option Addr) (k : Nat) (room : Int) (dead : Bool) (arm q : Int) (s p : List UInt8) (w : World) (hs : Rd w A s.length s) (hp : Rd w B p.length p) (h1 : s.length ≤ 10000) (h2 : p.length ≤ 10000) :
    Calls Try.prog 20 #[dv A s.length c B p.length k room dead arm, .int .i64 q] w (DRet w room dead (arA s.length p.length room arm q) s p) := by
  go_enter Try.func20, Try.ntmps20
  go_wp2_with fail
  refine (cdisk_any A _ c B _ k room dead arm s p _ (((hs.alloc (Nat.le_refl _) _).alloc (by simp) _).more (by simp; omega)) (((hp.alloc (Nat.le_refl _) _).alloc (by simp) _).more (by simp; omega)) (by omega) (by omega)).mono ?_
  rintro e w2 ⟨A', c', B', k', rfl, hoA, hoB, kk⟩
  have hP := Blk.below (h := (Blk.new w 24 #[Value.slice A s.length c, .slice B p.length k, .int .i64 room, .bool dead, .int .i64 arm]).alloc (.cells #[.slice none 0 0, .slice none 0 0, .int .i64 0, .bool false, .int .i64 0] 24)) (hb := kk) (by simp; omega)
  have hQ := Blk.below (h := (Blk.new (w.alloc (dC A s.length c B p.length k room dead arm)) 24 #[.slice none 0 0, .slice none 0 0, .int .i64 0, .bool false, .int .i64 0])) (hb := kk) (by simp)
  rw [World.size_alloc] at hQ
  have bel := hide (below_more (((Below.refl w.heap.size w).alloc (Nat.le_refl _) (dC A s.length c B p.length k room dead arm)).alloc (by simp) (.cells #[.slice none 0 0, .slice none 0 0, .int .i64 0, .bool false, .int .i64 0] 24)) (Nat.le_refl _) kk)
  have OA : Hid (Rc (w.heap.size + 2) w2 A' s.length c' s) := hide (rc_of_own hoA (by simp))
  have OB : Hid (Rc (w.heap.size + 2) w2 B' p.length k' p) := hide (rc_of_own hoB (by simp))
  have hz := kk.size
  simp at hz
  clear hoA hoB kk
  obtain ⟨⟨a0, a1, a2, a3, a4⟩, f0, f1, f2, f3, f4⟩ := hP.five
  obtain ⟨⟨x0, x1, x2, x3, x4⟩, y0, y1, y2, y3, y4⟩ := hQ.five
  clear hP hQ
  have hy0 : w.heap.size < w2.heap.size := by omega
  have hy1 : w.heap.size + 1 < w2.heap.size := by omega
  go_wp2_with fail
  refine (check_any A _ c B _ k room dead arm _ (by omega) (by omega)).mono ?_
  rintro e w3 ⟨rfl, rfl⟩
  have FIN : ∀ R W, arA s.length p.length room arm q = R → Rc w.heap.size W A' s.length c' s → Rc w.heap.size W B' p.length k' p → Below w.heap.size w W → DRet w room dead (arA s.length p.length room arm q) s p (.returned (dv A' s.length c' B' p.length k' room dead R)) W := by
    intro R W h ra rb rw'
    exact ⟨A', _, c', B', _, k', by rw [h], ra, rb, rw'⟩
  cases hok : okD s.length p.length room arm
  · have HE : Hid (arA s.length p.length room arm q = arm) := hide (by unfold arA; rw [hok]; simp)
    clear hok
    go_wp2
    refine bodyPost_ret (v := dv A' s.length c' B' p.length k' room dead arm) (by simp only [results, Try.results20]; go_simp) rfl (FIN _ _ HE.out ?_ ?_ ?_)
    · exact (((((((OA.out.far (by simp) _).far (by simp) _).far (by simp) _).far (by simp) _).far (by simp) _).alloc _).alloc _).more (by omega)
    · exact (((((((OB.out.far (by simp) _).far (by simp) _).far (by simp) _).far (by simp) _).far (by simp) _).alloc _).alloc _).more (by omega)
    · exact ((((((bel.out.setCell (by simp) _).setCell (by simp) _).setCell (by simp) _).setCell (by simp) _).setCell (by simp) _).alloc (by simp [World.setCell]; omega) _).alloc (by simp [World.setCell]; omega) _
  · by_cases hq : -1 ≤ q
    · have HE : Hid (arA s.length p.length room arm q = q) := hide (by unfold arA; rw [hok]; simp; omega)
      clear hok
      go_wp2
      refine bodyPost_ret (v := dv A' s.length c' B' p.length k' room dead q) (by simp only [results, Try.results20]; go_simp) rfl (FIN _ _ HE.out ?_ ?_ ?_)
      · exact (((((((OA.out.far (by simp) _).far (by simp) _).far (by simp) _).far (by simp) _).far (by simp) _).alloc _).alloc _).more (by omega)
      · exact (((((((OB.out.far (by simp) _).far (by simp) _).far (by simp) _).far (by simp) _).far (by simp) _).alloc _).alloc _).more (by omega)
      · exact ((((((bel.out.setCell (by simp) _).setCell (by simp) _).setCell (by simp) _).setCell (by simp) _).setCell (by simp) _).alloc (by simp [World.setCell]; omega) _).alloc (by simp [World.setCell]; omega) _
    · have HE : Hid (arA s.length p.length room arm q = -1) := hide (by unfold arA; rw [hok]; simp; omega)
      have hq2 : q < -1 := by omega
      clear hok
      go_wp2
      refine bodyPost_ret (v := dv A' s.length c' B' p.length k' room dead (-1)) (by simp only [results, Try.results20]; go_simp) rfl (FIN _ _ HE.out ?_ ?_ ?_)
      · exact (((((((OA.out.far (by simp) _).far (by simp) _).far (by simp) _).far (by simp) _).far (by simp) _).alloc _).alloc _).more (by omega)
      · exact (((((((OB.out.far (by simp) _).far (by simp) _).far (by simp) _).far (by simp) _).far (by simp) _).alloc _).alloc _).more (by omega)
      · exact ((((((bel.out.setCell (by simp) _).setCell (by simp) _).setCell (by simp) _).setCell (by simp) _).setCell (by simp) _).alloc (by simp [World.setCell]; omega) _).alloc (by simp [World.setCell]; omega) _
end Go.Proofs.Ythoaocjeladbkaa
