/- The reference's Cut, Crash and Same of disks. -/
import Derived.Test.YthoaocjeladbkaaDiskU
namespace Go.Proofs.Ythoaocjeladbkaa
open Go.RowKit
set_option linter.unusedVariables false

def REnd (w : World) (room : Int) (D : Bool) (R E : Int) (S P : List UInt8) (e : Ending) (w' : World) : Prop :=
  ∃ A n c B m k, e = .returned (.tuple #[dv A n c B m k room D R, .int .i64 E]) ∧ Rd w' A n S ∧ Rd w' B m P ∧ Below w.heap.size w w'
def RRet (w : World) (room : Int) (D : Bool) (R : Int) (S P : List UInt8) (e : Ending) (w' : World) : Prop :=
  ∃ A n c B m k, e = .returned (dv A n c B m k room D R) ∧ Rd w' A n S ∧ Rd w' B m P ∧ Below w.heap.size w w'

set_option maxHeartbeats 2000000 in
theorem rcut_any (A : Option Addr) (c : Nat) (B : Option Addr) (k : Nat) (room : Int) (dead : Bool) (arm q : Int) (s p : List UInt8) (w : World) (hs : Rd w A s.length s) (hp : Rd w B p.length p) (h1 : s.length ≤ 10000) (h2 : p.length ≤ 10000) (hc : s.length ≤ c) :
    Calls Try.prog 14 #[dv A s.length c B p.length k room dead arm, .int .i64 q] w (REnd w room dead arm (ctE s.length p.length room dead arm q) (ctS s (ctE s.length p.length room dead arm q) q) p) := by
  have OUT : ∀ (E' : Int) (S' : List UInt8), ctE s.length p.length room dead arm q = E' ∧ ctS s (ctE s.length p.length room dead arm q) q = S' → ∀ e w', REnd w room dead arm E' S' p e w' → REnd w room dead arm (ctE s.length p.length room dead arm q) (ctS s (ctE s.length p.length room dead arm q) q) p e w' := by
    rintro E' S' ⟨e1, e2⟩ e w' h
    rw [e2, e1]; exact h
  have NO : ¬ (okD s.length p.length room arm = true ∧ p.length = 0 ∧ dead = false ∧ 0 ≤ q ∧ q ≤ s.length) → ctE s.length p.length room dead arm q = 2 ∧ ctS s (ctE s.length p.length room dead arm q) q = s := by
    intro h
    have e1 : ctE s.length p.length room dead arm q = 2 := by unfold ctE; rw [if_neg h]
    exact ⟨e1, by rw [e1]; unfold ctS; rw [if_neg (by decide)]⟩
  have KEEP : ∀ e w', Below w.heap.size w w' → ∀ (dd : Bool) (E' : Int), e = .returned (.tuple #[dv A s.length c B p.length k room dd arm, .int .i64 E']) → REnd w room dd arm E' s p e w' := by
    rintro e w' h dd E' rfl
    exact ⟨A, _, c, B, _, k, rfl, (Reads.below hs h).more h.size, (Reads.below hp h).more h.size, h⟩
  go_enter Try.func14, Try.ntmps14
  go_wp2_with fail
  refine (rcheck_any A _ c B _ k room dead arm _ (by omega) (by omega)).mono ?_
  rintro e w3 ⟨rfl, rfl⟩
  cases hok : okD s.length p.length room arm
  · have HE := hide (NO (by rintro ⟨h, _⟩; rw [hok] at h; cases h))
    clear hok NO
    go_wp2
    refine bodyPost_ret (v := .tuple #[dv A s.length c B p.length k room dead arm, .int .i64 2]) (by simp only [results, Try.results14]; go_simp) rfl (OUT _ _ HE.out _ _ (KEEP _ _ ?_ _ _ rfl))
    ((repeat (refine Below.alloc ?_ (by first | exact Nat.le_refl _ | (simp; done) | (simp; omega)) _)); exact Below.refl _ _)
  by_cases hm : 0 < p.length
  · have HE := hide (NO (by rintro ⟨_, h, _⟩; omega))
    clear hok NO
    go_wp2
    refine bodyPost_ret (v := .tuple #[dv A s.length c B p.length k room dead arm, .int .i64 2]) (by simp only [results, Try.results14]; go_simp) rfl (OUT _ _ HE.out _ _ (KEEP _ _ ?_ _ _ rfl))
    ((repeat (refine Below.alloc ?_ (by first | exact Nat.le_refl _ | (simp; done) | (simp; omega)) _)); exact Below.refl _ _)
  cases hd : dead
  rotate_left
  · have HE := hide (NO (by rintro ⟨_, _, h, _⟩; rw [hd] at h; cases h))
    clear hok NO
    subst hd
    go_wp2
    refine bodyPost_ret (v := .tuple #[dv A s.length c B p.length k room true arm, .int .i64 2]) (by simp only [results, Try.results14]; go_simp) rfl (OUT _ _ HE.out _ _ (KEEP _ _ ?_ _ _ rfl))
    ((repeat (refine Below.alloc ?_ (by first | exact Nat.le_refl _ | (simp; done) | (simp; omega)) _)); exact Below.refl _ _)
  by_cases hq0 : q < 0
  · have HE := hide (NO (by rintro ⟨_, _, _, h, _⟩; omega))
    clear hok NO
    subst hd
    go_wp2
    refine bodyPost_ret (v := .tuple #[dv A s.length c B p.length k room false arm, .int .i64 2]) (by simp only [results, Try.results14]; go_simp) rfl (OUT _ _ HE.out _ _ (KEEP _ _ ?_ _ _ rfl))
    ((repeat (refine Below.alloc ?_ (by first | exact Nat.le_refl _ | (simp; done) | (simp; omega)) _)); exact Below.refl _ _)
  by_cases hq1 : (s.length : Int) < q
  · have HE := hide (NO (by rintro ⟨_, _, _, _, h⟩; omega))
    clear hok NO
    subst hd
    go_wp2
    refine bodyPost_ret (v := .tuple #[dv A s.length c B p.length k room false arm, .int .i64 2]) (by simp only [results, Try.results14]; go_simp) rfl (OUT _ _ HE.out _ _ (KEEP _ _ ?_ _ _ rfl))
    ((repeat (refine Below.alloc ?_ (by first | exact Nat.le_refl _ | (simp; done) | (simp; omega)) _)); exact Below.refl _ _)
  have e1 : ctE s.length p.length room dead arm q = 0 := by unfold ctE; rw [if_pos ⟨hok, by omega, hd, by omega, by omega⟩]
  have HE : Hid (ctE s.length p.length room dead arm q = 0 ∧ ctS s (ctE s.length p.length room dead arm q) q = s.take q.toNat) := hide ⟨e1, by rw [e1]; unfold ctS; rw [if_pos rfl]⟩
  clear e1 hok NO
  subst hd
  obtain ⟨n, rfl⟩ : ∃ n : Nat, q = n := ⟨q.toNat, by omega⟩
  rw [Int.toNat_natCast] at HE
  have hsl := fun W => run_slice_to (P := Try.prog) 22 5 Try.underlying22 sizeU8 A s.length c .i64 (n : Int) (by omega) (by omega) W
  simp only [Int.toNat_natCast] at hsl
  go_wp2_with fail
  have bel : Hid (Below w.heap.size w (((w.alloc (dC A s.length c B p.length k room false arm)).alloc (.cells #[.slice none 0 0, .slice none 0 0, .int .i64 0, .bool false, .int .i64 0] 24)).alloc (dC A s.length c B p.length k room false arm))) := hide ((((Below.refl w.heap.size w).alloc (Nat.le_refl _) _).alloc (by simp) _).alloc (by simp; omega) _)
  refine (rjoin_any A n c none 0 0 (s.take n) [] _ ?c1 Reads.none_ (by omega) (by omega)).mono ?_
  case c1 =>
    have h5 := Reads.take (Reads.below hs bel.out) (q := n) (by omega)
    rw [← bv_take] at h5
    exact h5.more bel.out.size
  rintro e w5 ⟨J, j, rfl, hoJ, k5⟩
  have hP5 := Blk.below (h := ((Blk.new w 24 #[Value.slice A s.length c, .slice B p.length k, .int .i64 room, .bool false, .int .i64 arm]).alloc (.cells #[.slice none 0 0, .slice none 0 0, .int .i64 0, .bool false, .int .i64 0] 24)).alloc (dC A s.length c B p.length k room false arm)) (hb := k5) (by simp; omega)
  have hQ5 := Blk.below (h := (Blk.new (w.alloc (dC A s.length c B p.length k room false arm)) 24 #[.slice none 0 0, .slice none 0 0, .int .i64 0, .bool false, .int .i64 0]).alloc (dC A s.length c B p.length k room false arm)) (hb := k5) (by simp)
  rw [World.size_alloc] at hQ5
  have bel5 := hide (below_more bel.out (Nat.le_refl _) k5)
  have z5 := k5.size
  simp at z5
  have OJ : Hid (Rc (w.heap.size + 2) w5 J (n + 0) j (s.take n ++ [])) := hide (rc_of_own hoJ (by simp))
  rw [List.append_nil, Nat.add_zero] at OJ
  clear k5 hoJ
  obtain ⟨⟨x0, x1, x2, x3, x4⟩, y0, y1, y2, y3, y4⟩ := hQ5.five
  obtain ⟨⟨a0, a1, a2, a3, a4⟩, f0, f1, f2, f3, f4⟩ := hP5.five
  clear hQ5 hP5
  have hz5 : w.heap.size + 1 < w5.heap.size := by omega
  have hz6 : w.heap.size < w5.heap.size := by omega
  have hn0 : n + 0 = n := rfl
  go_wp2
  refine bodyPost_ret (v := .tuple #[dv J n j B p.length k room false arm, .int .i64 0]) (by simp only [results, Try.results14]; go_simp) rfl (OUT _ _ HE.out _ _ ?_)
  have belF := (((((bel5.out.setCell (p := ⟨w.heap.size, 0, none⟩) (by simp) (.slice J n j)).setCell (p := ⟨w.heap.size + 1, 0, none⟩) (by simp) (.slice J n j)).setCell (p := ⟨w.heap.size + 1, 1, none⟩) (by simp) (.slice B p.length k)).setCell (p := ⟨w.heap.size + 1, 2, none⟩) (by simp) (.int .i64 room)).setCell (p := ⟨w.heap.size + 1, 3, none⟩) (by simp) (.bool false)).setCell (p := ⟨w.heap.size + 1, 4, none⟩) (by simp) (.int .i64 arm)
  refine ⟨J, _, j, B, _, k, rfl, ?_, (Reads.below hp belF).more belF.size, belF⟩
  exact Rc.rd (B := w.heap.size + 2) ((((((OJ.out.far (by simp) _).far (by simp) _).far (by simp) _).far (by simp) _).far (by simp) _).far (by simp) _)

set_option maxHeartbeats 800000 in
theorem rsame_any (A : Option Addr) (n c : Nat) (B : Option Addr) (m k : Nat) (room : Int) (dead : Bool) (arm : Int) (A2 : Option Addr) (n2 c2 : Nat) (B2 : Option Addr) (m2 k2 : Nat) (s p : List UInt8) (w : World) (ha : Rd w A n s) (hb : Rd w B m p) (ha2 : Rd w A2 n2 s) (hb2 : Rd w B2 m2 p) :
    Calls Try.prog 17 #[dv A n c B m k room dead arm, dv A2 n2 c2 B2 m2 k2 room dead arm] w fun e w' => e = .returned (.bool true) ∧ Below w.heap.size w w' := by
  have r1 := run_string_of (P := Try.prog) ((w.alloc (dC A n c B m k room dead arm)).alloc (dC A2 n2 c2 B2 m2 k2 room dead arm)) _ 22 9 5 A n c s Try.underlying22 Try.underlying5 Try.underlying9 ((ha.alloc (Nat.le_refl _) _).alloc (by simp) _)
  have r2 := run_string_of (P := Try.prog) ((w.alloc (dC A n c B m k room dead arm)).alloc (dC A2 n2 c2 B2 m2 k2 room dead arm)) _ 22 9 5 B m k p Try.underlying22 Try.underlying5 Try.underlying9 ((hb.alloc (Nat.le_refl _) _).alloc (by simp) _)
  have r3 := run_string_of (P := Try.prog) ((w.alloc (dC A n c B m k room dead arm)).alloc (dC A2 n2 c2 B2 m2 k2 room dead arm)) _ 22 9 5 A2 n2 c2 s Try.underlying22 Try.underlying5 Try.underlying9 ((ha2.alloc (Nat.le_refl _) _).alloc (by simp) _)
  have r4 := run_string_of (P := Try.prog) ((w.alloc (dC A n c B m k room dead arm)).alloc (dC A2 n2 c2 B2 m2 k2 room dead arm)) _ 22 9 5 B2 m2 k2 p Try.underlying22 Try.underlying5 Try.underlying9 ((hb2.alloc (Nat.le_refl _) _).alloc (by simp) _)
  clear ha hb ha2 hb2
  go_enter Try.func17, Try.ntmps17
  go_wp2
  go_ret
  exact ⟨rfl, ((Below.refl _ _).alloc (Nat.le_refl _) _).alloc (by simp) _⟩

set_option maxHeartbeats 4000000 in
theorem rcrash_any (A : Option Addr) (c : Nat) (B : Option Addr) (k : Nat) (room : Int) (dead : Bool) (arm q : Int) (s p : List UInt8) (w : World) (hs : Rd w A s.length s) (hp : Rd w B p.length p) (h1 : s.length ≤ 10000) (h2 : p.length ≤ 10000) (hk : p.length ≤ k) :
    Calls Try.prog 19 #[dv A s.length c B p.length k room dead arm, .int .i64 q] w (RRet w room (crD dead (okD s.length p.length room arm)) (crA arm (okD s.length p.length room arm)) (crS s p (okD s.length p.length room arm) q) (crP p (okD s.length p.length room arm))) := by
  generalize hok : okD s.length p.length room arm = ok
  go_enter Try.func19, Try.ntmps19
  go_wp2_with fail
  refine (rcheck_any A _ c B _ k room dead arm _ (by omega) (by omega)).mono ?_
  rintro e w3 ⟨rfl, rfl⟩
  rw [hok]
  clear hok
  cases ok
  · have HE : Hid (crD dead false = dead ∧ crA arm false = arm ∧ crS s p false q = s ∧ crP p false = p) := hide ⟨rfl, rfl, rfl, rfl⟩
    go_wp2
    have belF : Below w.heap.size w (((w.alloc (dC A s.length c B p.length k room dead arm)).alloc (dC A s.length c B p.length k room dead arm)).alloc (dC A s.length c B p.length k room dead arm)) := (((Below.refl w.heap.size w).alloc (Nat.le_refl _) _).alloc (by simp) _).alloc (by simp; omega) _
    refine bodyPost_ret (v := dv A s.length c B p.length k room dead arm) (by simp only [results, Try.results19]; go_simp) rfl ⟨A, _, c, B, _, k, by rw [HE.out.1, HE.out.2.1], ?_, ?_, ?_⟩
    · rw [HE.out.2.2.1]; exact (Reads.below hs belF).more belF.size
    · rw [HE.out.2.2.2]; exact (Reads.below hp belF).more belF.size
    · ((repeat (refine Below.alloc ?_ (by first | exact Nat.le_refl _ | (simp; done) | (simp; omega)) _)); exact Below.refl _ _)
  · obtain ⟨n, hn⟩ : ∃ n, kpN p.length q = n := ⟨_, rfl⟩
    have hnl : n ≤ p.length := hn ▸ kpN_le _ _
    have HE : Hid (crD dead true = false ∧ crA arm true = -1 ∧ crS s p true q = s ++ p.take n ∧ crP p true = []) := hide ⟨rfl, rfl, by unfold crS; rw [if_pos rfl, hn], rfl⟩
    have hsl := fun W => run_slice_to (P := Try.prog) 22 5 Try.underlying22 sizeU8 B p.length k .i64 (n : Int) (by omega) (by omega) W
    simp only [Int.toNat_natCast] at hsl
    generalize hW : ((w.alloc (dC A s.length c B p.length k room dead arm)).alloc (.cells #[.slice none 0 0, .slice none 0 0, .int .i64 0, .bool false, .int .i64 0] 24)).alloc (dC A s.length c B p.length k room dead arm) = W1
    have hP : Blk W1 w.heap.size 24 #[Value.slice A s.length c, .slice B p.length k, .int .i64 room, .bool dead, .int .i64 arm] := by rw [← hW]; exact ((Blk.new w 24 _).alloc _).alloc _
    have hQ : Blk W1 (w.heap.size + 1) 24 #[.slice none 0 0, .slice none 0 0, .int .i64 0, .bool false, .int .i64 0] := by
      rw [← hW]
      have h := (Blk.new (w.alloc (dC A s.length c B p.length k room dead arm)) 24 #[.slice none 0 0, .slice none 0 0, .int .i64 0, .bool false, .int .i64 0]).alloc (dC A s.length c B p.length k room dead arm)
      rwa [World.size_alloc] at h
    have bel : Hid (Below w.heap.size w W1) := hide (by rw [← hW]; exact (((Below.refl w.heap.size w).alloc (Nat.le_refl _) _).alloc (by simp) _).alloc (by simp; omega) _)
    have zW : w.heap.size + 3 ≤ W1.heap.size := by rw [← hW]; simp
    have RA : Hid (Rd W1 A s.length s) := hide ((Reads.below hs bel.out).more bel.out.size)
    have RB : Hid (Rd W1 B n (p.take n)) := hide (by
      have h := Reads.take ((Reads.below hp bel.out).more bel.out.size) (q := n) hnl
      rwa [← bv_take] at h)
    clear hW hs hp
    have HP := hide hP
    have HQ := hide hQ
    clear hQ
    obtain ⟨⟨a0, a1, a2, a3, a4⟩, f0, f1, f2, f3, f4⟩ := hP.five
    clear hP
    have XJ := hide (rjoin_any A s.length c B n k s (p.take n) W1.drew RA.out.drew RB.out.drew (by omega) (by omega))
    have HN := hide hn
    have hne : w.heap.size ≠ w.heap.size + 1 := by omega
    by_cases c1 : q < 0
    · obtain rfl : n = 0 := by rw [← hn]; unfold kpN; rw [if_pos c1]
      clear hn
      simp only [Int.natCast_zero] at hsl
      go_upto_region 4 with (fail)
      go_region_held3 (fun W => W.cell? ⟨w.heap.size, 0, none⟩ = some (.slice A s.length c) ∧ W.cell? ⟨w.heap.size, 1, none⟩ = some (.slice B p.length k) ∧ W.cell? ⟨w.heap.size, 2, none⟩ = some (.int .i64 room))
        (first | with_reducible exact blk5a HP.out.drew | with_reducible exact blk5a HP5.out | with_reducible exact blk5a (((((HP5.out.far (p := ⟨w.heap.size + 1, 0, none⟩) hne _).far (p := ⟨w.heap.size + 1, 1, none⟩) hne _).far (p := ⟨w.heap.size + 1, 2, none⟩) hne _).far (p := ⟨w.heap.size + 1, 3, none⟩) hne _).far (p := ⟨w.heap.size + 1, 4, none⟩) hne _))
        (first
          | (go_at_call 28
             refine XJ.out.mono ?_
             rintro e w5 ⟨J, j, rfl, ho, k5⟩
             have HP5 := hide (HP.out.drew.below k5 HP.out.lt)
             have HQ5 := hide (HQ.out.drew.below k5 HQ.out.lt)
             have bel5 := hide (below_more bel.out.drew (Nat.le_refl _) k5)
             have OJ : Hid (Rc (w.heap.size + 2) w5 J (s.length + 0) j (s ++ p.take 0)) := hide (rc_of_own ho (by simp; omega))
             have z5 := k5.size
             simp at z5
             obtain ⟨⟨u0, u1, u2, u3, u4⟩, v0, v1, v2, v3, v4⟩ := HP5.out.five
             obtain ⟨⟨x0, x1, x2, x3, x4⟩, y0, y1, y2, y3, y4⟩ := HQ5.out.five
             clear k5 ho))
      all_goals
        have hz5 : w.heap.size + 1 < w5.heap.size := by omega
        go_wp2
        refine bodyPost_ret (v := dv J (s.length + 0) j none 0 0 room false (-1)) (by simp only [results, Try.results19]; go_simp) rfl ⟨J, _, j, none, 0, 0, by rw [HE.out.1, HE.out.2.1], ?_, ?_, ?_⟩
        · rw [HE.out.2.2.1]; exact Rc.rd (B := w.heap.size + 2) (((((OJ.out.far (by simp) _).far (by simp) _).far (by simp) _).far (by simp) _).far (by simp) _)
        · rw [HE.out.2.2.2]; exact Reads.none_
        · exact ((((bel5.out.setCell (by simp) _).setCell (by simp) _).setCell (by simp) _).setCell (by simp) _).setCell (by simp) _
    · by_cases c0 : q = 0
      · subst c0
        obtain rfl : n = 0 := by rw [← hn]; unfold kpN; rw [if_neg c1]; split <;> omega
        clear hn c1
        simp only [Int.natCast_zero] at hsl
        go_upto_region 4 with (fail)
        go_region_held3 (fun W => W.cell? ⟨w.heap.size, 0, none⟩ = some (.slice A s.length c) ∧ W.cell? ⟨w.heap.size, 1, none⟩ = some (.slice B p.length k) ∧ W.cell? ⟨w.heap.size, 2, none⟩ = some (.int .i64 room))
          (first | with_reducible exact blk5a HP.out.drew | with_reducible exact blk5a HP5.out | with_reducible exact blk5a (((((HP5.out.far (p := ⟨w.heap.size + 1, 0, none⟩) hne _).far (p := ⟨w.heap.size + 1, 1, none⟩) hne _).far (p := ⟨w.heap.size + 1, 2, none⟩) hne _).far (p := ⟨w.heap.size + 1, 3, none⟩) hne _).far (p := ⟨w.heap.size + 1, 4, none⟩) hne _))
          (first
            | (go_at_call 28
               refine XJ.out.mono ?_
               rintro e w5 ⟨J, j, rfl, ho, k5⟩
               have HP5 := hide (HP.out.drew.below k5 HP.out.lt)
               have HQ5 := hide (HQ.out.drew.below k5 HQ.out.lt)
               have bel5 := hide (below_more bel.out.drew (Nat.le_refl _) k5)
               have OJ : Hid (Rc (w.heap.size + 2) w5 J (s.length + 0) j (s ++ p.take 0)) := hide (rc_of_own ho (by simp; omega))
               have z5 := k5.size
               simp at z5
               obtain ⟨⟨u0, u1, u2, u3, u4⟩, v0, v1, v2, v3, v4⟩ := HP5.out.five
               obtain ⟨⟨x0, x1, x2, x3, x4⟩, y0, y1, y2, y3, y4⟩ := HQ5.out.five
               clear k5 ho))
        all_goals
          have hz5 : w.heap.size + 1 < w5.heap.size := by omega
          go_wp2
          refine bodyPost_ret (v := dv J (s.length + 0) j none 0 0 room false (-1)) (by simp only [results, Try.results19]; go_simp) rfl ⟨J, _, j, none, 0, 0, by rw [HE.out.1, HE.out.2.1], ?_, ?_, ?_⟩
          · rw [HE.out.2.2.1]; exact Rc.rd (B := w.heap.size + 2) (((((OJ.out.far (by simp) _).far (by simp) _).far (by simp) _).far (by simp) _).far (by simp) _)
          · rw [HE.out.2.2.2]; exact Reads.none_
          · exact ((((bel5.out.setCell (by simp) _).setCell (by simp) _).setCell (by simp) _).setCell (by simp) _).setCell (by simp) _
      · by_cases cp : p.length = 0
        · obtain rfl := List.eq_nil_of_length_eq_zero cp
          obtain rfl : n = 0 := by simp at hnl; exact hnl
          have c3 : 0 < q := by omega
          clear hn c1 c0 cp
          simp only [Int.natCast_zero, List.length_nil] at hsl
          simp only [List.length_nil] at *
          go_upto_region 4 with (fail)
          go_region_held3 (fun W => W.cell? ⟨w.heap.size, 0, none⟩ = some (.slice A s.length c) ∧ W.cell? ⟨w.heap.size, 1, none⟩ = some (.slice B 0 k) ∧ W.cell? ⟨w.heap.size, 2, none⟩ = some (.int .i64 room))
            (first | with_reducible exact blk5a HP.out.drew | with_reducible exact blk5a HP5.out | with_reducible exact blk5a (((((HP5.out.far (p := ⟨w.heap.size + 1, 0, none⟩) hne _).far (p := ⟨w.heap.size + 1, 1, none⟩) hne _).far (p := ⟨w.heap.size + 1, 2, none⟩) hne _).far (p := ⟨w.heap.size + 1, 3, none⟩) hne _).far (p := ⟨w.heap.size + 1, 4, none⟩) hne _))
            (first
              | (go_at_call 28
                 refine XJ.out.mono ?_
                 rintro e w5 ⟨J, j, rfl, ho, k5⟩
                 have HP5 := hide (HP.out.drew.below k5 HP.out.lt)
                 have HQ5 := hide (HQ.out.drew.below k5 HQ.out.lt)
                 have bel5 := hide (below_more bel.out.drew (Nat.le_refl _) k5)
                 have OJ : Hid (Rc (w.heap.size + 2) w5 J (s.length + 0) j (s ++ [].take 0)) := hide (rc_of_own ho (by simp; omega))
                 have z5 := k5.size
                 simp at z5
                 obtain ⟨⟨u0, u1, u2, u3, u4⟩, v0, v1, v2, v3, v4⟩ := HP5.out.five
                 obtain ⟨⟨x0, x1, x2, x3, x4⟩, y0, y1, y2, y3, y4⟩ := HQ5.out.five
                 clear k5 ho))
          all_goals
            have hz5 : w.heap.size + 1 < w5.heap.size := by omega
            go_wp2
            refine bodyPost_ret (v := dv J (s.length + 0) j none 0 0 room false (-1)) (by simp only [results, Try.results19]; go_simp) rfl ⟨J, _, j, none, 0, 0, by rw [HE.out.1, HE.out.2.1], ?_, ?_, ?_⟩
            · rw [HE.out.2.2.1]; exact Rc.rd (B := w.heap.size + 2) (((((OJ.out.far (by simp) _).far (by simp) _).far (by simp) _).far (by simp) _).far (by simp) _)
            · rw [HE.out.2.2.2]; exact Reads.none_
            · exact ((((bel5.out.setCell (by simp) _).setCell (by simp) _).setCell (by simp) _).setCell (by simp) _).setCell (by simp) _
        · by_cases c2 : (p.length : Int) < q
          · obtain rfl : n = p.length := by rw [← hn]; unfold kpN; rw [if_neg c1, if_pos c2]
            have c3 : (0 : Int) < p.length := by omega
            clear hn
            go_upto_region 4 with (fail)
            go_region_held3 (fun W => W.cell? ⟨w.heap.size, 0, none⟩ = some (.slice A s.length c) ∧ W.cell? ⟨w.heap.size, 1, none⟩ = some (.slice B p.length k) ∧ W.cell? ⟨w.heap.size, 2, none⟩ = some (.int .i64 room))
              (first | with_reducible exact blk5a HP.out.drew | with_reducible exact blk5a HP5.out | with_reducible exact blk5a (((((HP5.out.far (p := ⟨w.heap.size + 1, 0, none⟩) hne _).far (p := ⟨w.heap.size + 1, 1, none⟩) hne _).far (p := ⟨w.heap.size + 1, 2, none⟩) hne _).far (p := ⟨w.heap.size + 1, 3, none⟩) hne _).far (p := ⟨w.heap.size + 1, 4, none⟩) hne _))
              (first
                | (go_at_call 28
                   refine XJ.out.mono ?_
                   rintro e w5 ⟨J, j, rfl, ho, k5⟩
                   have HP5 := hide (HP.out.drew.below k5 HP.out.lt)
                   have HQ5 := hide (HQ.out.drew.below k5 HQ.out.lt)
                   have bel5 := hide (below_more bel.out.drew (Nat.le_refl _) k5)
                   have OJ : Hid (Rc (w.heap.size + 2) w5 J (s.length + p.length) j (s ++ p.take p.length)) := hide (rc_of_own ho (by simp; omega))
                   have z5 := k5.size
                   simp at z5
                   obtain ⟨⟨u0, u1, u2, u3, u4⟩, v0, v1, v2, v3, v4⟩ := HP5.out.five
                   obtain ⟨⟨x0, x1, x2, x3, x4⟩, y0, y1, y2, y3, y4⟩ := HQ5.out.five
                   clear k5 ho))
            all_goals
              have hz5 : w.heap.size + 1 < w5.heap.size := by omega
              go_wp2
              refine bodyPost_ret (v := dv J (s.length + p.length) j none 0 0 room false (-1)) (by simp only [results, Try.results19]; go_simp) rfl ⟨J, _, j, none, 0, 0, by rw [HE.out.1, HE.out.2.1], ?_, ?_, ?_⟩
              · rw [HE.out.2.2.1]; exact Rc.rd (B := w.heap.size + 2) (((((OJ.out.far (by simp) _).far (by simp) _).far (by simp) _).far (by simp) _).far (by simp) _)
              · rw [HE.out.2.2.2]; exact Reads.none_
              · exact ((((bel5.out.setCell (by simp) _).setCell (by simp) _).setCell (by simp) _).setCell (by simp) _).setCell (by simp) _
          · obtain rfl : q = (n : Int) := by rw [← hn]; unfold kpN; rw [if_neg c1, if_neg c2]; omega
            have c3 : (0 : Int) < n := by omega
            clear hn c1 c0
            go_upto_region 4 with (fail)
            go_region_held3 (fun W => W.cell? ⟨w.heap.size, 0, none⟩ = some (.slice A s.length c) ∧ W.cell? ⟨w.heap.size, 1, none⟩ = some (.slice B p.length k) ∧ W.cell? ⟨w.heap.size, 2, none⟩ = some (.int .i64 room))
              (first | with_reducible exact blk5a HP.out.drew | with_reducible exact blk5a HP5.out | with_reducible exact blk5a (((((HP5.out.far (p := ⟨w.heap.size + 1, 0, none⟩) hne _).far (p := ⟨w.heap.size + 1, 1, none⟩) hne _).far (p := ⟨w.heap.size + 1, 2, none⟩) hne _).far (p := ⟨w.heap.size + 1, 3, none⟩) hne _).far (p := ⟨w.heap.size + 1, 4, none⟩) hne _))
              (first
                | (go_at_call 28
                   refine XJ.out.mono ?_
                   rintro e w5 ⟨J, j, rfl, ho, k5⟩
                   have HP5 := hide (HP.out.drew.below k5 HP.out.lt)
                   have HQ5 := hide (HQ.out.drew.below k5 HQ.out.lt)
                   have bel5 := hide (below_more bel.out.drew (Nat.le_refl _) k5)
                   have OJ : Hid (Rc (w.heap.size + 2) w5 J (s.length + n) j (s ++ p.take n)) := hide (rc_of_own ho (by simp; omega))
                   have z5 := k5.size
                   simp at z5
                   obtain ⟨⟨u0, u1, u2, u3, u4⟩, v0, v1, v2, v3, v4⟩ := HP5.out.five
                   obtain ⟨⟨x0, x1, x2, x3, x4⟩, y0, y1, y2, y3, y4⟩ := HQ5.out.five
                   clear k5 ho))
            all_goals
              have hz5 : w.heap.size + 1 < w5.heap.size := by omega
              go_wp2
              refine bodyPost_ret (v := dv J (s.length + n) j none 0 0 room false (-1)) (by simp only [results, Try.results19]; go_simp) rfl ⟨J, _, j, none, 0, 0, by rw [HE.out.1, HE.out.2.1], ?_, ?_, ?_⟩
              · rw [HE.out.2.2.1]; exact Rc.rd (B := w.heap.size + 2) (((((OJ.out.far (by simp) _).far (by simp) _).far (by simp) _).far (by simp) _).far (by simp) _)
              · rw [HE.out.2.2.2]; exact Reads.none_
              · exact ((((bel5.out.setCell (by simp) _).setCell (by simp) _).setCell (by simp) _).setCell (by simp) _).setCell (by simp) _
end Go.Proofs.Ythoaocjeladbkaa
