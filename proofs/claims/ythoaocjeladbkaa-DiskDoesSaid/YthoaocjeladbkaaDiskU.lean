/- Crash of disks. -/
import Derived.Test.YthoaocjeladbkaaDiskV
import Derived.Deep.RegionHeld3
import Derived.Deep.DeepCutAuto
namespace Go.Proofs.Ythoaocjeladbkaa
open Go.RowKit
set_option linter.unusedVariables false

/-- How many of the bytes that wait stay. -/
def kpN (m : Nat) (q : Int) : Nat := if q < 0 then 0 else if (m : Int) < q then m else q.toNat
theorem kpN_le (m : Nat) (q : Int) : kpN m q ≤ m := by unfold kpN; split <;> (try split) <;> omega
def crS (s p : List UInt8) (ok : Bool) (q : Int) : List UInt8 := if ok = true then s ++ p.take (kpN p.length q) else s
def crP (p : List UInt8) (ok : Bool) : List UInt8 := if ok = true then [] else p
def crD (dead ok : Bool) : Bool := if ok = true then false else dead
def crA (arm : Int) (ok : Bool) : Int := if ok = true then -1 else arm

theorem blk5a {w : World} {g : Nat} {t : TypeId} {x y z u v : Value} (h : Blk w g t #[x, y, z, u, v]) : w.cell? ⟨g, 0, none⟩ = some x ∧ w.cell? ⟨g, 1, none⟩ = some y ∧ w.cell? ⟨g, 2, none⟩ = some z := ⟨h.five.1.1, h.five.1.2.1, h.five.1.2.2.1⟩

set_option maxHeartbeats 4000000 in
theorem crash_any (A : Option Addr) (c : Nat) (B : Option Addr) (k : Nat) (room : Int) (dead : Bool) (arm q : Int) (s p : List UInt8) (w : World) (hs : Rd w A s.length s) (hp : Rd w B p.length p) (h1 : s.length ≤ 10000) (h2 : p.length ≤ 10000) (hk : p.length ≤ k) :
    Calls Try.prog 18 #[dv A s.length c B p.length k room dead arm, .int .i64 q] w (DRet w room (crD dead (okD s.length p.length room arm)) (crA arm (okD s.length p.length room arm)) (crS s p (okD s.length p.length room arm) q) (crP p (okD s.length p.length room arm))) := by
  generalize hok : okD s.length p.length room arm = ok
  go_enter Try.func18, Try.ntmps18
  go_wp2_with fail
  refine (check_any A _ c B _ k room dead arm _ (by omega) (by omega)).mono ?_
  rintro e w3 ⟨rfl, rfl⟩
  rw [hok]
  clear hok
  cases ok
  · have HE : Hid (crD dead false = dead ∧ crA arm false = arm ∧ crS s p false q = s ∧ crP p false = p) := hide ⟨rfl, rfl, rfl, rfl⟩
    go_wp2_with fail
    refine (cdisk_any A _ c B _ k room dead arm s p _ ((((hs.alloc (Nat.le_refl _) _).alloc (by simp) _).alloc (by simp; omega) _).more (by simp; omega)) ((((hp.alloc (Nat.le_refl _) _).alloc (by simp) _).alloc (by simp; omega) _).more (by simp; omega)) (by omega) (by omega)).mono ?_
    rintro e w2 ⟨A', c', B', k', rfl, hoA, hoB, kk⟩
    have hQ := Blk.below (h := (Blk.new (w.alloc (dC A s.length c B p.length k room dead arm)) 24 #[.slice none 0 0, .slice none 0 0, .int .i64 0, .bool false, .int .i64 0]).alloc (dC A s.length c B p.length k room dead arm)) (hb := kk) (by simp)
    rw [World.size_alloc] at hQ
    have bel := hide (below_more ((((Below.refl w.heap.size w).alloc (Nat.le_refl _) (dC A s.length c B p.length k room dead arm)).alloc (by simp) (.cells #[.slice none 0 0, .slice none 0 0, .int .i64 0, .bool false, .int .i64 0] 24)).alloc (by simp; omega) (dC A s.length c B p.length k room dead arm)) (Nat.le_refl _) kk)
    have OA : Hid (Rc (w.heap.size + 2) w2 A' s.length c' s) := hide (rc_of_own hoA (by simp))
    have OB : Hid (Rc (w.heap.size + 2) w2 B' p.length k' p) := hide (rc_of_own hoB (by simp))
    have hz := kk.size
    simp at hz
    clear hoA hoB kk
    obtain ⟨⟨x0, x1, x2, x3, x4⟩, y0, y1, y2, y3, y4⟩ := hQ.five
    have hy1 : w.heap.size + 1 < w2.heap.size := by omega
    go_wp2
    refine bodyPost_ret (v := dv A' s.length c' B' p.length k' room dead arm) (by simp only [results, Try.results18]; go_simp) rfl ⟨A', _, c', B', _, k', by rw [HE.out.1, HE.out.2.1], ?_, ?_, ?_⟩
    · rw [HE.out.2.2.1]; exact (((((OA.out.far (by simp) _).far (by simp) _).far (by simp) _).far (by simp) _).far (by simp) _).more (by omega)
    · rw [HE.out.2.2.2]; exact (((((OB.out.far (by simp) _).far (by simp) _).far (by simp) _).far (by simp) _).far (by simp) _).more (by omega)
    · exact ((((bel.out.setCell (by simp) _).setCell (by simp) _).setCell (by simp) _).setCell (by simp) _).setCell (by simp) _
  · obtain ⟨n, hn⟩ : ∃ n, kpN p.length q = n := ⟨_, rfl⟩
    have hnl : n ≤ p.length := hn ▸ kpN_le _ _
    have HE : Hid (crD dead true = false ∧ crA arm true = -1 ∧ crS s p true q = s ++ p.take n ∧ crP p true = []) := hide ⟨rfl, rfl, by unfold crS; rw [if_pos rfl, hn], rfl⟩
    have hsl := fun W => run_slice_to (P := Try.prog) 22 5 Try.underlying22 sizeU8 B p.length k .i64 (n : Int) (by omega) (by omega) W
    simp only [Int.toNat_natCast] at hsl
    generalize hW : ((w.alloc (dC A s.length c B p.length k room dead arm)).alloc (.cells #[.slice none 0 0, .slice none 0 0, .int .i64 0, .bool false, .int .i64 0] 24)).alloc (dC A s.length c B p.length k room dead arm) = W1
    have hP : Blk W1 w.heap.size 24 #[Value.slice A s.length c, .slice B p.length k, .int .i64 room, .bool dead, .int .i64 arm] := by rw [← hW]; exact ((Blk.new w 24 _).alloc _).alloc _
    have hQ : Blk W1 (w.heap.size + 1) 24 #[.slice none 0 0, .slice none 0 0, .int .i64 0, .bool false, .int .i64 0] := by
      rw [← hW]
      have h := (Blk.new (w.alloc (dC A s.length c B p.length k room dead arm)) 24 #[.slice none 0 0, .slice none 0 0, .int .i64 0, .bool false, .int .i64 0]).alloc (dC A s.length c B p.length k room dead arm)
      rwa [World.size_alloc] at h
    have bel : Hid (Below w.heap.size w W1) := hide (by rw [← hW]; exact (((Below.refl w.heap.size w).alloc (Nat.le_refl _) _).alloc (by simp) _).alloc (by simp; omega) _)
    have zW : w.heap.size + 3 ≤ W1.heap.size := by rw [← hW]; simp
    have RA : Hid (Rd W1 A s.length s) := hide ((Reads.below hs bel.out).more bel.out.size)
    have RB : Hid (Rd W1 B n (p.take n)) := hide (by
      have h := Reads.take ((Reads.below hp bel.out).more bel.out.size) (q := n) hnl
      rwa [← bv_take] at h)
    clear hW hs hp
    have HP := hide hP
    have HQ := hide hQ
    obtain ⟨⟨a0, a1, a2, a3, a4⟩, f0, f1, f2, f3, f4⟩ := hP.five
    clear hP hQ
    have XJ := hide (joined_any A s.length c B n k s (p.take n) W1.drew RA.out.drew RB.out.drew (by omega) (by omega))
    have HN := hide hn
    have hne : w.heap.size ≠ w.heap.size + 1 := by omega
    by_cases c1 : q < 0
    · obtain rfl : n = 0 := by rw [← hn]; unfold kpN; rw [if_pos c1]
      clear hn
      simp only [Int.natCast_zero] at hsl
      go_upto_region 4 with (fail)
      go_region_held3 (fun W => W.cell? ⟨w.heap.size, 0, none⟩ = some (.slice A s.length c) ∧ W.cell? ⟨w.heap.size, 1, none⟩ = some (.slice B p.length k) ∧ W.cell? ⟨w.heap.size, 2, none⟩ = some (.int .i64 room))
        (first | with_reducible exact blk5a HP.out.drew | with_reducible exact blk5a HP5.out | with_reducible exact blk5a (((((HP5.out.far (p := ⟨w.heap.size + 1, 0, none⟩) hne _).far (p := ⟨w.heap.size + 1, 1, none⟩) hne _).far (p := ⟨w.heap.size + 1, 2, none⟩) hne _).far (p := ⟨w.heap.size + 1, 3, none⟩) hne _).far (p := ⟨w.heap.size + 1, 4, none⟩) hne _))
        (first
          | (go_at_call 26
             refine XJ.out.mono ?_
             rintro e w5 ⟨J, j, rfl, ho, k5⟩
             have HP5 := hide (HP.out.drew.below k5 HP.out.lt)
             have HQ5 := hide (HQ.out.drew.below k5 HQ.out.lt)
             have bel5 := hide (below_more bel.out.drew (Nat.le_refl _) k5)
             have OJ : Hid (Rc (w.heap.size + 2) w5 J (s.length + 0) j (s ++ p.take 0)) := hide (rc_of_own ho (by simp; omega))
             have z5 := k5.size
             simp at z5
             obtain ⟨⟨u0, u1, u2, u3, u4⟩, v0, v1, v2, v3, v4⟩ := HP5.out.five
             obtain ⟨⟨x0, x1, x2, x3, x4⟩, y0, y1, y2, y3, y4⟩ := HQ5.out.five
             clear k5 ho))
      all_goals
        have hz5 : w.heap.size + 1 < w5.heap.size := by omega
        go_wp2
        refine bodyPost_ret (v := dv J (s.length + 0) j none 0 0 room false (-1)) (by simp only [results, Try.results18]; go_simp) rfl ⟨J, _, j, none, 0, 0, by rw [HE.out.1, HE.out.2.1], ?_, ?_, ?_⟩
        · rw [HE.out.2.2.1]; exact (((((OJ.out.far (by simp) _).far (by simp) _).far (by simp) _).far (by simp) _).far (by simp) _).more (by omega)
        · rw [HE.out.2.2.2]; exact Rc.none_ _ _
        · exact ((((bel5.out.setCell (by simp) _).setCell (by simp) _).setCell (by simp) _).setCell (by simp) _).setCell (by simp) _
    · by_cases c2 : (p.length : Int) < q
      · obtain rfl : n = p.length := by rw [← hn]; unfold kpN; rw [if_neg c1, if_pos c2]
        clear hn
        go_upto_region 4 with (fail)
        go_region_held3 (fun W => W.cell? ⟨w.heap.size, 0, none⟩ = some (.slice A s.length c) ∧ W.cell? ⟨w.heap.size, 1, none⟩ = some (.slice B p.length k) ∧ W.cell? ⟨w.heap.size, 2, none⟩ = some (.int .i64 room))
          (first | with_reducible exact blk5a HP.out.drew | with_reducible exact blk5a HP5.out | with_reducible exact blk5a (((((HP5.out.far (p := ⟨w.heap.size + 1, 0, none⟩) hne _).far (p := ⟨w.heap.size + 1, 1, none⟩) hne _).far (p := ⟨w.heap.size + 1, 2, none⟩) hne _).far (p := ⟨w.heap.size + 1, 3, none⟩) hne _).far (p := ⟨w.heap.size + 1, 4, none⟩) hne _))
          (first
            | (go_at_call 26
               refine XJ.out.mono ?_
               rintro e w5 ⟨J, j, rfl, ho, k5⟩
               have HP5 := hide (HP.out.drew.below k5 HP.out.lt)
               have HQ5 := hide (HQ.out.drew.below k5 HQ.out.lt)
               have bel5 := hide (below_more bel.out.drew (Nat.le_refl _) k5)
               have OJ : Hid (Rc (w.heap.size + 2) w5 J (s.length + p.length) j (s ++ p.take p.length)) := hide (rc_of_own ho (by simp; omega))
               have z5 := k5.size
               simp at z5
               obtain ⟨⟨u0, u1, u2, u3, u4⟩, v0, v1, v2, v3, v4⟩ := HP5.out.five
               obtain ⟨⟨x0, x1, x2, x3, x4⟩, y0, y1, y2, y3, y4⟩ := HQ5.out.five
               clear k5 ho))
        all_goals
          have hz5 : w.heap.size + 1 < w5.heap.size := by omega
          go_wp2
          refine bodyPost_ret (v := dv J (s.length + p.length) j none 0 0 room false (-1)) (by simp only [results, Try.results18]; go_simp) rfl ⟨J, _, j, none, 0, 0, by rw [HE.out.1, HE.out.2.1], ?_, ?_, ?_⟩
          · rw [HE.out.2.2.1]; exact (((((OJ.out.far (by simp) _).far (by simp) _).far (by simp) _).far (by simp) _).far (by simp) _).more (by omega)
          · rw [HE.out.2.2.2]; exact Rc.none_ _ _
          · exact ((((bel5.out.setCell (by simp) _).setCell (by simp) _).setCell (by simp) _).setCell (by simp) _).setCell (by simp) _
      · obtain rfl : q = (n : Int) := by rw [← hn]; unfold kpN; rw [if_neg c1, if_neg c2]; omega
        clear hn
        go_upto_region 4 with (fail)
        go_region_held3 (fun W => W.cell? ⟨w.heap.size, 0, none⟩ = some (.slice A s.length c) ∧ W.cell? ⟨w.heap.size, 1, none⟩ = some (.slice B p.length k) ∧ W.cell? ⟨w.heap.size, 2, none⟩ = some (.int .i64 room))
          (first | with_reducible exact blk5a HP.out.drew | with_reducible exact blk5a HP5.out | with_reducible exact blk5a (((((HP5.out.far (p := ⟨w.heap.size + 1, 0, none⟩) hne _).far (p := ⟨w.heap.size + 1, 1, none⟩) hne _).far (p := ⟨w.heap.size + 1, 2, none⟩) hne _).far (p := ⟨w.heap.size + 1, 3, none⟩) hne _).far (p := ⟨w.heap.size + 1, 4, none⟩) hne _))
          (first
            | (go_at_call 26
               refine XJ.out.mono ?_
               rintro e w5 ⟨J, j, rfl, ho, k5⟩
               have HP5 := hide (HP.out.drew.below k5 HP.out.lt)
               have HQ5 := hide (HQ.out.drew.below k5 HQ.out.lt)
               have bel5 := hide (below_more bel.out.drew (Nat.le_refl _) k5)
               have OJ : Hid (Rc (w.heap.size + 2) w5 J (s.length + n) j (s ++ p.take n)) := hide (rc_of_own ho (by simp; omega))
               have z5 := k5.size
               simp at z5
               obtain ⟨⟨u0, u1, u2, u3, u4⟩, v0, v1, v2, v3, v4⟩ := HP5.out.five
               obtain ⟨⟨x0, x1, x2, x3, x4⟩, y0, y1, y2, y3, y4⟩ := HQ5.out.five
               clear k5 ho))
        all_goals
          have hz5 : w.heap.size + 1 < w5.heap.size := by omega
          go_wp2
          refine bodyPost_ret (v := dv J (s.length + n) j none 0 0 room false (-1)) (by simp only [results, Try.results18]; go_simp) rfl ⟨J, _, j, none, 0, 0, by rw [HE.out.1, HE.out.2.1], ?_, ?_, ?_⟩
          · rw [HE.out.2.2.1]; exact (((((OJ.out.far (by simp) _).far (by simp) _).far (by simp) _).far (by simp) _).far (by simp) _).more (by omega)
          · rw [HE.out.2.2.2]; exact Rc.none_ _ _
          · exact ((((bel5.out.setCell (by simp) _).setCell (by simp) _).setCell (by simp) _).setCell (by simp) _).setCell (by simp) _
end Go.Proofs.Ythoaocjeladbkaa
