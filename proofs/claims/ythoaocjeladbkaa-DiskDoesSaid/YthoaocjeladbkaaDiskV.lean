/- Cut of disks. -/
import Derived.Test.YthoaocjeladbkaaDiskZ
namespace Go.Proofs.Ythoaocjeladbkaa
open Go.RowKit
set_option linter.unusedVariables false

def ctE (n m : Nat) (room : Int) (dead : Bool) (arm q : Int) : Int := if okD n m room arm = true ∧ m = 0 ∧ dead = false ∧ 0 ≤ q ∧ q ≤ n then 0 else 2
def ctS (s : List UInt8) (E q : Int) : List UInt8 := if E = 0 then s.take q.toNat else s

set_option maxHeartbeats 2000000 in
theorem cut_any (A : Option Addr) (c : Nat) (B : Option Addr) (k : Nat) (room : Int) (dead : Bool) (arm q : Int) (s p : List UInt8) (w : World) (hs : Rd w A s.length s) (hp : Rd w B p.length p) (h1 : s.length ≤ 10000) (h2 : p.length ≤ 10000) (hc : s.length ≤ c) :
    Calls Try.prog 13 #[dv A s.length c B p.length k room dead arm, .int .i64 q] w (DEnd w room dead arm (ctE s.length p.length room dead arm q) (ctS s (ctE s.length p.length room dead arm q) q) p) := by
  have OUT : ∀ (E' : Int) (S' : List UInt8), ctE s.length p.length room dead arm q = E' ∧ ctS s (ctE s.length p.length room dead arm q) q = S' → ∀ e w', DEnd w room dead arm E' S' p e w' → DEnd w room dead arm (ctE s.length p.length room dead arm q) (ctS s (ctE s.length p.length room dead arm q) q) p e w' := by
    rintro E' S' ⟨e1, e2⟩ e w' h
    rw [e2, e1]; exact h
  have NO : ¬ (okD s.length p.length room arm = true ∧ p.length = 0 ∧ dead = false ∧ 0 ≤ q ∧ q ≤ s.length) → ctE s.length p.length room dead arm q = 2 ∧ ctS s (ctE s.length p.length room dead arm q) q = s := by
    intro h
    have e1 : ctE s.length p.length room dead arm q = 2 := by unfold ctE; rw [if_neg h]
    exact ⟨e1, by rw [e1]; unfold ctS; rw [if_neg (by decide)]⟩
  go_enter Try.func13, Try.ntmps13
  go_wp2_with fail
  refine (cdisk_any A _ c B _ k room dead arm s p _ (((hs.alloc (Nat.le_refl _) _).alloc (by simp) _).more (by simp; omega)) (((hp.alloc (Nat.le_refl _) _).alloc (by simp) _).more (by simp; omega)) (by omega) (by omega)).mono ?_
  rintro e w2 ⟨A', c', B', k', rfl, hoA, hoB, kk⟩
  have hP := Blk.below (h := (Blk.new w 24 #[Value.slice A s.length c, .slice B p.length k, .int .i64 room, .bool dead, .int .i64 arm]).alloc (.cells #[.slice none 0 0, .slice none 0 0, .int .i64 0, .bool false, .int .i64 0] 24)) (hb := kk) (by simp; omega)
  have hQ := Blk.below (h := (Blk.new (w.alloc (dC A s.length c B p.length k room dead arm)) 24 #[.slice none 0 0, .slice none 0 0, .int .i64 0, .bool false, .int .i64 0])) (hb := kk) (by simp)
  rw [World.size_alloc] at hQ
  have bel := hide (below_more (((Below.refl w.heap.size w).alloc (Nat.le_refl _) (dC A s.length c B p.length k room dead arm)).alloc (by simp) (.cells #[.slice none 0 0, .slice none 0 0, .int .i64 0, .bool false, .int .i64 0] 24)) (Nat.le_refl _) kk)
  have OA : Hid (Rc (w.heap.size + 2) w2 A' s.length c' s) := hide (rc_of_own hoA (by simp))
  have OB : Hid (Rc (w.heap.size + 2) w2 B' p.length k' p) := hide (rc_of_own hoB (by simp))
  have hz := kk.size
  simp at hz
  clear hoA hoB kk
  have HQ := hide hQ
  obtain ⟨⟨a0, a1, a2, a3, a4⟩, f0, f1, f2, f3, f4⟩ := hP.five
  obtain ⟨⟨x0, x1, x2, x3, x4⟩, y0, y1, y2, y3, y4⟩ := hQ.five
  clear hP hQ
  have hy0 : w.heap.size < w2.heap.size := by omega
  have hy1 : w.heap.size + 1 < w2.heap.size := by omega
  go_wp2_with fail
  refine (check_any A _ c B _ k room dead arm _ (by omega) (by omega)).mono ?_
  rintro e w3 ⟨rfl, rfl⟩
  cases hok : okD s.length p.length room arm
  · have HE := hide (NO (by rintro ⟨h, _⟩; rw [hok] at h; cases h))
    clear hok NO
    go_wp2
    refine bodyPost_ret (v := .tuple #[dv A' s.length c' B' p.length k' room dead arm, .int .i64 2]) (by simp only [results, Try.results13]; go_simp) rfl (OUT _ _ HE.out _ _ ⟨A', _, c', B', _, k', rfl, ?_, ?_, ?_⟩)
    · exact (((((((OA.out.far (by simp) _).far (by simp) _).far (by simp) _).far (by simp) _).far (by simp) _).alloc _).alloc _).more (by omega)
    · exact (((((((OB.out.far (by simp) _).far (by simp) _).far (by simp) _).far (by simp) _).far (by simp) _).alloc _).alloc _).more (by omega)
    · exact ((((((bel.out.setCell (by simp) _).setCell (by simp) _).setCell (by simp) _).setCell (by simp) _).setCell (by simp) _).alloc (by simp [World.setCell]; omega) _).alloc (by simp [World.setCell]; omega) _
  by_cases hm : 0 < p.length
  · have HE := hide (NO (by rintro ⟨_, h, _⟩; omega))
    clear hok NO
    go_wp2
    refine bodyPost_ret (v := .tuple #[dv A' s.length c' B' p.length k' room dead arm, .int .i64 2]) (by simp only [results, Try.results13]; go_simp) rfl (OUT _ _ HE.out _ _ ⟨A', _, c', B', _, k', rfl, ?_, ?_, ?_⟩)
    · exact (((((((OA.out.far (by simp) _).far (by simp) _).far (by simp) _).far (by simp) _).far (by simp) _).alloc _).alloc _).more (by omega)
    · exact (((((((OB.out.far (by simp) _).far (by simp) _).far (by simp) _).far (by simp) _).far (by simp) _).alloc _).alloc _).more (by omega)
    · exact ((((((bel.out.setCell (by simp) _).setCell (by simp) _).setCell (by simp) _).setCell (by simp) _).setCell (by simp) _).alloc (by simp [World.setCell]; omega) _).alloc (by simp [World.setCell]; omega) _
  cases hd : dead
  rotate_left
  · have HE := hide (NO (by rintro ⟨_, _, h, _⟩; rw [hd] at h; cases h))
    clear hok NO
    subst hd
    go_wp2
    refine bodyPost_ret (v := .tuple #[dv A' s.length c' B' p.length k' room true arm, .int .i64 2]) (by simp only [results, Try.results13]; go_simp) rfl (OUT _ _ HE.out _ _ ⟨A', _, c', B', _, k', rfl, ?_, ?_, ?_⟩)
    · exact (((((((OA.out.far (by simp) _).far (by simp) _).far (by simp) _).far (by simp) _).far (by simp) _).alloc _).alloc _).more (by omega)
    · exact (((((((OB.out.far (by simp) _).far (by simp) _).far (by simp) _).far (by simp) _).far (by simp) _).alloc _).alloc _).more (by omega)
    · exact ((((((bel.out.setCell (by simp) _).setCell (by simp) _).setCell (by simp) _).setCell (by simp) _).setCell (by simp) _).alloc (by simp [World.setCell]; omega) _).alloc (by simp [World.setCell]; omega) _
  by_cases hq0 : q < 0
  · have HE := hide (NO (by rintro ⟨_, _, _, h, _⟩; omega))
    clear hok NO
    subst hd
    go_wp2
    refine bodyPost_ret (v := .tuple #[dv A' s.length c' B' p.length k' room false arm, .int .i64 2]) (by simp only [results, Try.results13]; go_simp) rfl (OUT _ _ HE.out _ _ ⟨A', _, c', B', _, k', rfl, ?_, ?_, ?_⟩)
    · exact (((((((OA.out.far (by simp) _).far (by simp) _).far (by simp) _).far (by simp) _).far (by simp) _).alloc _).alloc _).more (by omega)
    · exact (((((((OB.out.far (by simp) _).far (by simp) _).far (by simp) _).far (by simp) _).far (by simp) _).alloc _).alloc _).more (by omega)
    · exact ((((((bel.out.setCell (by simp) _).setCell (by simp) _).setCell (by simp) _).setCell (by simp) _).setCell (by simp) _).alloc (by simp [World.setCell]; omega) _).alloc (by simp [World.setCell]; omega) _
  by_cases hq1 : (s.length : Int) < q
  · have HE := hide (NO (by rintro ⟨_, _, _, _, h⟩; omega))
    clear hok NO
    subst hd
    go_wp2
    refine bodyPost_ret (v := .tuple #[dv A' s.length c' B' p.length k' room false arm, .int .i64 2]) (by simp only [results, Try.results13]; go_simp) rfl (OUT _ _ HE.out _ _ ⟨A', _, c', B', _, k', rfl, ?_, ?_, ?_⟩)
    · exact (((((((OA.out.far (by simp) _).far (by simp) _).far (by simp) _).far (by simp) _).far (by simp) _).alloc _).alloc _).more (by omega)
    · exact (((((((OB.out.far (by simp) _).far (by simp) _).far (by simp) _).far (by simp) _).far (by simp) _).alloc _).alloc _).more (by omega)
    · exact ((((((bel.out.setCell (by simp) _).setCell (by simp) _).setCell (by simp) _).setCell (by simp) _).setCell (by simp) _).alloc (by simp [World.setCell]; omega) _).alloc (by simp [World.setCell]; omega) _
  have e1 : ctE s.length p.length room dead arm q = 0 := by unfold ctE; rw [if_pos ⟨hok, by omega, hd, by omega, by omega⟩]
  have HE : Hid (ctE s.length p.length room dead arm q = 0 ∧ ctS s (ctE s.length p.length room dead arm q) q = s.take q.toNat) := hide ⟨e1, by rw [e1]; unfold ctS; rw [if_pos rfl]⟩
  clear e1 hok NO
  subst hd
  obtain ⟨n, rfl⟩ : ∃ n : Nat, q = n := ⟨q.toNat, by omega⟩
  rw [Int.toNat_natCast] at HE
  have hsl := fun W => run_slice_to (P := Try.prog) 22 5 Try.underlying22 sizeU8 A s.length c .i64 (n : Int) (by omega) (by omega) W
  simp only [Int.toNat_natCast] at hsl
  go_wp2_with fail
  have RA := hide ((Reads.below hs bel.out).more bel.out.size)
  refine (joined_any A n c none 0 0 (s.take n) [] _ ?c1 Reads.none_ (by omega) (by omega)).mono ?_
  case c1 =>
    have h5 := Reads.take ((RA.out.alloc (Nat.le_refl _) (dC A' s.length c' B' p.length k' room false arm)).alloc (by simp) (dC A s.length c B p.length k room false arm)) (q := n) (by omega)
    rw [← bv_take] at h5
    exact h5.more (by simp; omega)
  rintro e w5 ⟨J, j, rfl, hoJ, k5⟩
  have hQ5 := Blk.below (h := ((HQ.out.alloc (dC A' s.length c' B' p.length k' room false arm)).alloc (dC A s.length c B p.length k room false arm))) (hb := k5) (by simp; omega)
  have hX5 := Blk.below (h := ((Blk.new w2 24 #[Value.slice A' s.length c', .slice B' p.length k', .int .i64 room, .bool false, .int .i64 arm]).alloc (dC A s.length c B p.length k room false arm))) (hb := k5) (by simp; omega)
  have bel5 := hide (below_more ((bel.out.alloc (by omega) (dC A' s.length c' B' p.length k' room false arm)).alloc (by simp; omega) (dC A s.length c B p.length k room false arm)) (Nat.le_refl _) k5)
  have z5 := k5.size
  simp at z5
  have OJ : Hid (Rc (w.heap.size + 2) w5 J (n + 0) j (s.take n ++ [])) := hide (rc_of_own hoJ (by simp; omega))
  have OB5 : Hid (Rc (w.heap.size + 2) w5 B' p.length k' p) := hide (((OB.out.alloc _).alloc _).below k5)
  rw [List.append_nil, Nat.add_zero] at OJ
  clear k5 hoJ a0 a1 a2 a3 a4 f0 f1 f2 f3 f4 x0 x1 x2 x3 x4 y0 y1 y2 y3 y4
  obtain ⟨⟨x0, x1, x2, x3, x4⟩, y0, y1, y2, y3, y4⟩ := hQ5.five
  obtain ⟨⟨a0, a1, a2, a3, a4⟩, f0, f1, f2, f3, f4⟩ := hX5.five
  have HX5 := hide hX5
  clear hQ5 hX5
  have hz5 : w.heap.size + 1 < w5.heap.size := by omega
  have hz6 : w2.heap.size < w5.heap.size := by omega
  have hn0 : n + 0 = n := rfl
  go_wp2
  refine bodyPost_ret (v := .tuple #[dv J n j B' p.length k' room false arm, .int .i64 0]) (by simp only [results, Try.results13]; go_simp) rfl (OUT _ _ HE.out _ _ ⟨J, _, j, B', _, k', rfl, ?_, ?_, ?_⟩)
  · have o2 := OJ.out.set_ (p := ⟨w2.heap.size, 0, none⟩) HX5.out (by decide) (.slice J n j)
    exact (((((o2.far (by simp) _).far (by simp) _).far (by simp) _).far (by simp) _).far (by simp) _).more (by omega)
  · have o2 := OB5.out.set_ (p := ⟨w2.heap.size, 0, none⟩) HX5.out (by decide) (.slice J n j)
    exact (((((o2.far (by simp) _).far (by simp) _).far (by simp) _).far (by simp) _).far (by simp) _).more (by omega)
  · exact (((((bel5.out.setCell (by simp; omega) _).setCell (by simp) _).setCell (by simp) _).setCell (by simp) _).setCell (by simp) _).setCell (by simp) _
end Go.Proofs.Ythoaocjeladbkaa
