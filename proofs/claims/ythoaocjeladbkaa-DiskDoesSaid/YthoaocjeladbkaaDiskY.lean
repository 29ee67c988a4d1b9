/- powered: Sync of disks. -/
import Derived.Test.YthoaocjeladbkaaDiskX
namespace Go.Proofs.Ythoaocjeladbkaa
open Go.RowKit
set_option linter.unusedVariables false


set_option maxHeartbeats 4000000 in
theorem powS_any (A : Option Addr) (c : Nat) (B : Option Addr) (k : Nat) (room : Int) (dead : Bool) (arm : Int) (s p : List UInt8) (w : World) (hs : Rd w A s.length s) (hp : Rd w B p.length p) (h1 : s.length ≤ 10000) (h2 : p.length ≤ 10000) (ha : arm ≤ 9223372036854775807)  :
    Calls Try.prog 24 #[dv A s.length c B p.length k room dead arm, (.func (Fn.func 29) #[] #[])] w (DEnd w room (apD s.length p.length room dead arm) (apA s.length p.length room dead arm) (syE s.length p.length room dead arm) (syS s p (syE s.length p.length room dead arm)) (syP p (syE s.length p.length room dead arm))) := by
  have OUT : ∀ (T : Bool) (Q E' : Int) (S' P' : List UInt8), (apD s.length p.length room dead arm) = T ∧ (apA s.length p.length room dead arm) = Q ∧ (syE s.length p.length room dead arm) = E' ∧ (syS s p (syE s.length p.length room dead arm)) = S' ∧ (syP p (syE s.length p.length room dead arm)) = P' → ∀ e w', DEnd w room T Q E' S' P' e w' → DEnd w room (apD s.length p.length room dead arm) (apA s.length p.length room dead arm) (syE s.length p.length room dead arm) (syS s p (syE s.length p.length room dead arm)) (syP p (syE s.length p.length room dead arm)) e w' := by
    rintro T Q E' S' P' ⟨e1, e2, e3, e4, e5⟩ e w' h
    rw [e1, e2, e4, e5, e3]; exact h
  go_enter Try.func24, Try.ntmps24
  go_wp2_with fail
  refine (cdisk_any A _ c B _ k room dead arm s p _ (((hs.alloc (Nat.le_refl _) _).alloc (by simp) _).more (by simp; omega)) (((hp.alloc (Nat.le_refl _) _).alloc (by simp) _).more (by simp; omega)) (by omega) (by omega)).mono ?_
  rintro e w2 ⟨A', c', B', k', rfl, hoA, hoB, kk⟩
  have hP := Blk.below (h := (Blk.new w 24 #[Value.slice A s.length c, .slice B p.length k, .int .i64 room, .bool dead, .int .i64 arm]).alloc (.cells #[.slice none 0 0, .slice none 0 0, .int .i64 0, .bool false, .int .i64 0] 24)) (hb := kk) (by simp; omega)
  have hQ := Blk.below (h := (Blk.new (w.alloc (dC A s.length c B p.length k room dead arm)) 24 #[.slice none 0 0, .slice none 0 0, .int .i64 0, .bool false, .int .i64 0])) (hb := kk) (by simp)
  rw [World.size_alloc] at hQ
  have bel := hide (below_more (((Below.refl w.heap.size w).alloc (Nat.le_refl _) (dC A s.length c B p.length k room dead arm)).alloc (by simp) (.cells #[.slice none 0 0, .slice none 0 0, .int .i64 0, .bool false, .int .i64 0] 24)) (Nat.le_refl _) kk)
  have OA : Hid (Rc (w.heap.size + 2) w2 A' s.length c' s) := hide (rc_of_own hoA (by simp))
  have OB : Hid (Rc (w.heap.size + 2) w2 B' p.length k' p) := hide (rc_of_own hoB (by simp))
  have hz := kk.size
  simp at hz
  clear hoA hoB kk
  have HP := hide hP
  have HQ := hide hQ
  obtain ⟨⟨a0, a1, a2, a3, a4⟩, f0, f1, f2, f3, f4⟩ := hP.five
  obtain ⟨⟨x0, x1, x2, x3, x4⟩, y0, y1, y2, y3, y4⟩ := hQ.five
  clear hP hQ
  have hy0 : w.heap.size < w2.heap.size := by omega
  have hy1 : w.heap.size + 1 < w2.heap.size := by omega
  go_wp2_with fail
  refine (check_any A _ c B _ k room dead arm _ (by omega) (by omega)).mono ?_
  rintro e w3 ⟨rfl, rfl⟩
  cases hok : okD s.length p.length room arm
  · have HE : Hid ((apD s.length p.length room dead arm) = dead ∧ (apA s.length p.length room dead arm) = arm ∧ (syE s.length p.length room dead arm) = 2 ∧ (syS s p (syE s.length p.length room dead arm)) = s ∧ (syP p (syE s.length p.length room dead arm)) = p) := hide (by unfold syS syP apD apA syE; rw [hok]; simp)
    clear hok
    go_wp2
    refine bodyPost_ret (v := .tuple #[dv A' s.length c' B' p.length k' room dead arm, .int .i64 2]) (by simp only [results, Try.results24]; go_simp) rfl (OUT _ _ _ _ _ HE.out _ _ ⟨A', _, c', B', _, k', rfl, ?_, ?_, ?_⟩)
    · exact (((((((OA.out.far (by simp) _).far (by simp) _).far (by simp) _).far (by simp) _).far (by simp) _).alloc _).alloc _).more (by omega)
    · exact (((((((OB.out.far (by simp) _).far (by simp) _).far (by simp) _).far (by simp) _).far (by simp) _).alloc _).alloc _).more (by omega)
    · exact ((((((bel.out.setCell (by simp) _).setCell (by simp) _).setCell (by simp) _).setCell (by simp) _).setCell (by simp) _).alloc (by simp [World.setCell]; omega) _).alloc (by simp [World.setCell]; omega) _
  cases hd : dead
  rotate_left
  · have HE : Hid ((apD s.length p.length room dead arm) = true ∧ (apA s.length p.length room dead arm) = arm ∧ (syE s.length p.length room dead arm) = 42 ∧ (syS s p (syE s.length p.length room dead arm)) = s ∧ (syP p (syE s.length p.length room dead arm)) = p) := hide (by unfold syS syP apD apA syE pwO pwD pwA; rw [hok, hd]; simp)
    clear hok
    subst hd
    go_wp2
    refine bodyPost_ret (v := .tuple #[dv A' s.length c' B' p.length k' room true arm, .int .i64 42]) (by simp only [results, Try.results24]; go_simp) rfl (OUT _ _ _ _ _ HE.out _ _ ⟨A', _, c', B', _, k', rfl, ?_, ?_, ?_⟩)
    · exact (((((((OA.out.far (by simp) _).far (by simp) _).far (by simp) _).far (by simp) _).far (by simp) _).alloc _).alloc _).more (by omega)
    · exact (((((((OB.out.far (by simp) _).far (by simp) _).far (by simp) _).far (by simp) _).far (by simp) _).alloc _).alloc _).more (by omega)
    · exact ((((((bel.out.setCell (by simp) _).setCell (by simp) _).setCell (by simp) _).setCell (by simp) _).setCell (by simp) _).alloc (by simp [World.setCell]; omega) _).alloc (by simp [World.setCell]; omega) _
  have harm : -1 ≤ arm := by unfold okD at hok; exact (of_decide_eq_true hok).2.2.2
  by_cases h0 : arm = 0
  · have HE : Hid ((apD s.length p.length room dead arm) = true ∧ (apA s.length p.length room dead arm) = 0 ∧ (syE s.length p.length room dead arm) = 42 ∧ (syS s p (syE s.length p.length room dead arm)) = s ∧ (syP p (syE s.length p.length room dead arm)) = p) := hide (by unfold syS syP apD apA syE pwO pwD pwA; rw [hok, hd, h0]; simp)
    clear hok harm
    subst hd
    subst h0
    go_wp2
    refine bodyPost_ret (v := .tuple #[dv A' s.length c' B' p.length k' room true 0, .int .i64 42]) (by simp only [results, Try.results24]; go_simp) rfl (OUT _ _ _ _ _ HE.out _ _ ⟨A', _, c', B', _, k', rfl, ?_, ?_, ?_⟩)
    · exact (((((((OA.out.far (by simp) _).far (by simp) _).far (by simp) _).far (by simp) _).far (by simp) _).alloc _).alloc _).more (by omega)
    · exact (((((((OB.out.far (by simp) _).far (by simp) _).far (by simp) _).far (by simp) _).far (by simp) _).alloc _).alloc _).more (by omega)
    · exact ((((((bel.out.setCell (by simp) _).setCell (by simp) _).setCell (by simp) _).setCell (by simp) _).setCell (by simp) _).alloc (by simp [World.setCell]; omega) _).alloc (by simp [World.setCell]; omega) _
  have h0b : (arm == 0) = false := beq_eq_false_iff_ne.2 h0
  by_cases hpos : 0 < arm
  · have HD : Hid ((apD s.length p.length room dead arm) = false ∧ (apA s.length p.length room dead arm) = (arm - 1)) := hide (by unfold apD apA pwD pwA; rw [hok, hd, h0b]; simp [hpos])
    have HOK := hide hok
    have HPW : Hid (pwO dead arm = true) := hide (by unfold pwO; rw [hd, h0b]; rfl)
    have HDD := hide hd
    clear hok
    rw [HDD.out] at a3
    subst hd
    have hXA : Rc (w.heap.size + 2) ((w2.alloc (dC A' s.length c' B' p.length k' room false (arm - 1))).alloc (dC A s.length c B p.length k room false arm)) A' s.length c' s := ((OA.out.alloc (dC A' s.length c' B' p.length k' room false (arm - 1))).alloc (dC A s.length c B p.length k room false arm))
    have hXB : Rc (w.heap.size + 2) ((w2.alloc (dC A' s.length c' B' p.length k' room false (arm - 1))).alloc (dC A s.length c B p.length k room false arm)) B' p.length k' p := ((OB.out.alloc (dC A' s.length c' B' p.length k' room false (arm - 1))).alloc (dC A s.length c B p.length k room false arm))
    have hXW : Below w.heap.size w ((w2.alloc (dC A' s.length c' B' p.length k' room false (arm - 1))).alloc (dC A s.length c B p.length k room false arm)) := (bel.out.alloc (by omega) (dC A' s.length c' B' p.length k' room false (arm - 1))).alloc (by simp; omega) (dC A s.length c B p.length k room false arm)
    have hXQ : Blk ((w2.alloc (dC A' s.length c' B' p.length k' room false (arm - 1))).alloc (dC A s.length c B p.length k room false arm)) (w.heap.size + 1) 24 #[.slice none 0 0, .slice none 0 0, .int .i64 0, .bool false, .int .i64 0] := (HQ.out.alloc (dC A' s.length c' B' p.length k' room false (arm - 1))).alloc (dC A s.length c B p.length k room false arm)
    have HXA := hide hXA
    have HXB := hide hXB
    have HXW := hide hXW
    have HXQ := hide hXQ
    clear hXA hXB hXW hXQ
    go_wp2_with fail
    refine (opS_any A' _ c' B' _ k' room false (arm - 1) s p _ HXA.out.rd HXB.out.rd (by omega) (by omega)).mono ?_
    rintro e w5 ⟨k5, J, j, rfl, o5⟩
    have HE : Hid ((apD s.length p.length room false arm) = false ∧ (apA s.length p.length room false arm) = (arm - 1) ∧ (syE s.length p.length room false arm) = 0 ∧ (syS s p (syE s.length p.length room false arm)) = (s ++ p) ∧ (syP p (syE s.length p.length room false arm)) = []) := hide ⟨HD.out.1, HD.out.2, (by unfold syE; rw [HOK.out, HPW.out, if_neg (by decide), if_neg (by decide)]), (by unfold syS; rw [if_pos (by unfold syE; rw [HOK.out, HPW.out, if_neg (by decide), if_neg (by decide)])]), (by unfold syP; rw [if_pos (by unfold syE; rw [HOK.out, HPW.out, if_neg (by decide), if_neg (by decide)])])⟩
    have hQ5 := HXQ.out.below k5 HXQ.out.lt
    have bel5 := hide (below_more HXW.out (Nat.le_refl _) k5)
    have z5 := k5.size
    simp at z5
    have OA5 := hide ((o5.more (by simp; omega) : Rc (w.heap.size + 2) w5 _ _ _ _))
    have OB5 := hide (Rc.none_ (w.heap.size + 2) w5)
    clear k5 o5 a0 a1 a2 a3 a4 f0 f1 f2 f3 f4 x0 x1 x2 x3 x4 y0 y1 y2 y3 y4
    obtain ⟨⟨x0, x1, x2, x3, x4⟩, y0, y1, y2, y3, y4⟩ := hQ5.five
    clear hQ5
    have hz5 : w.heap.size + 1 < w5.heap.size := by omega
    go_wp2
    refine bodyPost_ret (v := .tuple #[dv J (s.length + p.length) j none 0 0 room false (arm - 1), .int .i64 0]) (by simp only [results, Try.results24]; go_simp) rfl (OUT _ _ _ _ _ HE.out _ _ ⟨J, _, j, none, 0, 0, rfl, ?_, ?_, ?_⟩)
    · exact (((((OA5.out.far (by simp) _).far (by simp) _).far (by simp) _).far (by simp) _).far (by simp) _).more (by omega)
    · exact (((((OB5.out.far (by simp) _).far (by simp) _).far (by simp) _).far (by simp) _).far (by simp) _).more (by omega)
    · exact ((((bel5.out.setCell (by simp) _).setCell (by simp) _).setCell (by simp) _).setCell (by simp) _).setCell (by simp) _
  · have HD : Hid ((apD s.length p.length room dead arm) = false ∧ (apA s.length p.length room dead arm) = arm) := hide (by unfold apD apA pwD pwA; rw [hok, hd, h0b]; simp [hpos])
    have HOK := hide hok
    have HPW : Hid (pwO dead arm = true) := hide (by unfold pwO; rw [hd, h0b]; rfl)
    have HDD := hide hd
    clear hok
    have hneg : arm < 0 := by omega
    rw [HDD.out] at a3
    subst hd
    have hXA : Rc (w.heap.size + 2) ((w2.alloc (dC A' s.length c' B' p.length k' room false arm)).alloc (dC A s.length c B p.length k room false arm)) A' s.length c' s := ((OA.out.alloc (dC A' s.length c' B' p.length k' room false arm)).alloc (dC A s.length c B p.length k room false arm))
    have hXB : Rc (w.heap.size + 2) ((w2.alloc (dC A' s.length c' B' p.length k' room false arm)).alloc (dC A s.length c B p.length k room false arm)) B' p.length k' p := ((OB.out.alloc (dC A' s.length c' B' p.length k' room false arm)).alloc (dC A s.length c B p.length k room false arm))
    have hXW : Below w.heap.size w ((w2.alloc (dC A' s.length c' B' p.length k' room false arm)).alloc (dC A s.length c B p.length k room false arm)) := (bel.out.alloc (by omega) (dC A' s.length c' B' p.length k' room false arm)).alloc (by simp; omega) (dC A s.length c B p.length k room false arm)
    have hXQ : Blk ((w2.alloc (dC A' s.length c' B' p.length k' room false arm)).alloc (dC A s.length c B p.length k room false arm)) (w.heap.size + 1) 24 #[.slice none 0 0, .slice none 0 0, .int .i64 0, .bool false, .int .i64 0] := (HQ.out.alloc (dC A' s.length c' B' p.length k' room false arm)).alloc (dC A s.length c B p.length k room false arm)
    have HXA := hide hXA
    have HXB := hide hXB
    have HXW := hide hXW
    have HXQ := hide hXQ
    clear hXA hXB hXW hXQ
    go_wp2_with fail
    refine (opS_any A' _ c' B' _ k' room false arm s p _ HXA.out.rd HXB.out.rd (by omega) (by omega)).mono ?_
    rintro e w5 ⟨k5, J, j, rfl, o5⟩
    have HE : Hid ((apD s.length p.length room false arm) = false ∧ (apA s.length p.length room false arm) = arm ∧ (syE s.length p.length room false arm) = 0 ∧ (syS s p (syE s.length p.length room false arm)) = (s ++ p) ∧ (syP p (syE s.length p.length room false arm)) = []) := hide ⟨HD.out.1, HD.out.2, (by unfold syE; rw [HOK.out, HPW.out, if_neg (by decide), if_neg (by decide)]), (by unfold syS; rw [if_pos (by unfold syE; rw [HOK.out, HPW.out, if_neg (by decide), if_neg (by decide)])]), (by unfold syP; rw [if_pos (by unfold syE; rw [HOK.out, HPW.out, if_neg (by decide), if_neg (by decide)])])⟩
    have hQ5 := HXQ.out.below k5 HXQ.out.lt
    have bel5 := hide (below_more HXW.out (Nat.le_refl _) k5)
    have z5 := k5.size
    simp at z5
    have OA5 := hide ((o5.more (by simp; omega) : Rc (w.heap.size + 2) w5 _ _ _ _))
    have OB5 := hide (Rc.none_ (w.heap.size + 2) w5)
    clear k5 o5 a0 a1 a2 a3 a4 f0 f1 f2 f3 f4 x0 x1 x2 x3 x4 y0 y1 y2 y3 y4
    obtain ⟨⟨x0, x1, x2, x3, x4⟩, y0, y1, y2, y3, y4⟩ := hQ5.five
    clear hQ5
    have hz5 : w.heap.size + 1 < w5.heap.size := by omega
    go_wp2
    refine bodyPost_ret (v := .tuple #[dv J (s.length + p.length) j none 0 0 room false arm, .int .i64 0]) (by simp only [results, Try.results24]; go_simp) rfl (OUT _ _ _ _ _ HE.out _ _ ⟨J, _, j, none, 0, 0, rfl, ?_, ?_, ?_⟩)
    · exact (((((OA5.out.far (by simp) _).far (by simp) _).far (by simp) _).far (by simp) _).far (by simp) _).more (by omega)
    · exact (((((OB5.out.far (by simp) _).far (by simp) _).far (by simp) _).far (by simp) _).far (by simp) _).more (by omega)
    · exact ((((bel5.out.setCell (by simp) _).setCell (by simp) _).setCell (by simp) _).setCell (by simp) _).setCell (by simp) _
end Go.Proofs.Ythoaocjeladbkaa
