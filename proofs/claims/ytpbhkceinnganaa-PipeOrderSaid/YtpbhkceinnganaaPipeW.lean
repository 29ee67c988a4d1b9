import Derived.Test.YtpbhkceinnganaaPipeA
import Derived.Deep.RegionLaw
import Derived.Deep.RegionHeld3
import Derived.StillTailTactics
namespace Go.Proofs.Ytpbhkceinnganaa
open Go.RowKit
set_option linter.unusedVariables false

/-- What Write answers: how many bytes, and the error. -/
def wrN (n : Nat) (r u : Int) (m : Nat) : Nat := if okP n r u = true ∧ r ≠ 0 ∧ n ≠ 64 then min m (64 - n) else 0
def wrE (n : Nat) (r u : Int) (m : Nat) : Int := if okP n r u = false then 2 else if r = 0 then 28 else if m = 0 then 0 else if n = 64 then 29 else 0
def WriteEnd (w : World) (d b : List UInt8) (r u : Int) (e : Ending) (w' : World) : Prop :=
  ∃ A' n' c', e = .returned (.tuple #[pv A' n' c' r u, .int .i64 (wrN d.length r u b.length), .int .i64 (wrE d.length r u b.length)]) ∧ Rc w.heap.size w' A' n' c' (d ++ b.take (wrN d.length r u b.length)) ∧ Below w.heap.size w w'

set_option maxHeartbeats 1000000 in
theorem write_any (A : Option Addr) (n c : Nat) (r u : Int) (d : List UInt8) (B : Option Addr) (m k : Nat) (b : List UInt8) (w : World) (hr : Rd w A n d) (hn : n ≤ 1000) (hb : Rd w B m b) (hm : m ≤ 1000000) (hk : m ≤ k) :
    Calls Try.prog 7 #[pv A n c r u, .slice B m k] w (WriteEnd w d b r u) := by
  have hd := hr.len
  have hbl := hb.len
  subst hd
  subst hbl
  obtain ⟨i0, hi, hz0, hz1', hz2'⟩ := info_parts infoU8
  go_enter Try.func7, Try.ntmps7
  go_wp2_with fail
  refine (cpipe_any A _ c r u d _ (((hr.alloc (Nat.le_refl _) _).alloc (by simp) _).more (by simp; omega)) (by omega)).mono ?_
  rintro e w1 ⟨A', c', rfl, hown, hb1⟩
  have hbw := hide ((((Below.refl w.heap.size w).alloc (Nat.le_refl _) (.cells #[Value.slice A d.length c, .int .i64 r, .int .i64 u] 24)).alloc (by simp) (.cells #[Value.slice none 0 0, .int .i64 0, .int .i64 0] 24)).trans (hb1.mono (by simp; omega)))
  obtain ⟨a0, a1, a2, f0, f1, f2⟩ := (((Blk.new w 24 #[Value.slice A d.length c, .int .i64 r, .int .i64 u]).alloc (.cells #[Value.slice none 0 0, .int .i64 0, .int .i64 0] 24)).below hb1 (by simp; omega)).three
  obtain ⟨b0, b1, b2, g0, g1, g2⟩ := ((Blk.new (w.alloc (.cells #[Value.slice A d.length c, .int .i64 r, .int .i64 u] 24)) 24 #[Value.slice none 0 0, .int .i64 0, .int .i64 0]).below hb1 (by simp)).three
  have hB1 := (Blk.new (w.alloc (.cells #[Value.slice A d.length c, .int .i64 r, .int .i64 u] 24)) 24 #[Value.slice none 0 0, .int .i64 0, .int .i64 0]).below hb1 (by simp)
  simp only [World.size_alloc] at b0 b1 b2 g0 g1 g2 hB1
  have hz := hb1.size
  simp at hz
  have hz2 : w.heap.size + 1 < w1.heap.size := by omega
  have hz3 : w.heap.size < w1.heap.size := by omega
  clear hb1
  go_wp2_with fail
  refine (check_any A _ c r u _ (by unfold maxLen; omega)).mono ?_
  rintro e w2 ⟨rfl, rfl⟩
  have WE : ∀ (E : Int) {W : World}, wrN d.length r u b.length = 0 ∧ wrE d.length r u b.length = E → W.ownsRow (w.heap.size + 2) 5 1 (.slice A' d.length c') d.length (bv d) → Below w.heap.size w W →
      WriteEnd w d b r u (.returned (.tuple #[pv A' d.length c' r u, .int .i64 0, .int .i64 E])) W := fun E W h ho hb => by
    refine ⟨A', d.length, c', by rw [h.1, h.2]; rfl, ?_, hb⟩
    rw [h.1, List.take_zero, List.append_nil]
    exact rc_of_own ho
  have WOK : ∀ (q : Nat) {W : World}, okP d.length r u = true ∧ r ≠ 0 ∧ d.length ≠ 64 ∧ b.length ≠ 0 → q = min b.length (64 - d.length) → True → ∀ A1 c1, Rc w.heap.size W A1 (d.length + q) c1 (d ++ b.take q) → Below w.heap.size w W →
      WriteEnd w d b r u (.returned (.tuple #[pv A1 (d.length + q) c1 r u, .int .i64 (q : Int), .int .i64 0])) W := fun q W h hq _ A1 c1 ho hb => by
    have e1 : wrN d.length r u b.length = q := by unfold wrN; rw [if_pos ⟨h.1, h.2.1, h.2.2.1⟩, hq]
    have e2 : wrE d.length r u b.length = 0 := by unfold wrE; rw [h.1]; simp [h.2.1, h.2.2.1, h.2.2.2]
    refine ⟨A1, d.length + q, c1, by rw [e1, e2], ?_, hb⟩
    rw [e1]
    exact ho
  simp only [World.size_alloc] at hown
  by_cases hok : okP d.length r u = false
  · rw [hok]
    go_wp2
    refine bodyPost_ret (v := .tuple #[pv A' d.length c' r u, .int .i64 0, .int .i64 2]) (by simp only [results, Try.results7]; go_simp) rfl ?_
    refine WE 2 (by unfold wrN wrE; rw [hok]; simp) ((own_far (own_far (own_far hown (by simp) _) (by simp) _) (by simp) _).alloc _ |>.alloc _) ?_
    exact ((((hbw.out.setCell (by simp) _).setCell (by simp) _).setCell (by simp) _).alloc (by simp [World.setCell]; omega) _).alloc (by simp [World.setCell]; omega) _
  · rw [Bool.not_eq_false] at hok
    rw [hok]
    by_cases hr0 : (r == 0) = true
    · go_wp2
      refine bodyPost_ret (v := .tuple #[pv A' d.length c' r u, .int .i64 0, .int .i64 28]) (by simp only [results, Try.results7]; go_simp) rfl ?_
      refine WE 28 (by unfold wrN wrE; simp at hr0; rw [hok]; simp [hr0]) ((own_far (own_far (own_far hown (by simp) _) (by simp) _) (by simp) _).alloc _ |>.alloc _) ?_
      exact ((((hbw.out.setCell (by simp) _).setCell (by simp) _).setCell (by simp) _).alloc (by simp [World.setCell]; omega) _).alloc (by simp [World.setCell]; omega) _
    · rw [Bool.not_eq_true] at hr0
      by_cases hm0 : ((b.length : Int) == 0) = true
      · go_wp2
        refine bodyPost_ret (v := .tuple #[pv A' d.length c' r u, .int .i64 0, .int .i64 0]) (by simp only [results, Try.results7]; go_simp) rfl ?_
        refine WE 0 (by unfold wrN wrE; simp at hr0 hm0; rw [hok]; simp [hr0, hm0]) ((own_far (own_far (own_far hown (by simp) _) (by simp) _) (by simp) _).alloc _ |>.alloc _) ?_
        exact ((((hbw.out.setCell (by simp) _).setCell (by simp) _).setCell (by simp) _).alloc (by simp [World.setCell]; omega) _).alloc (by simp [World.setCell]; omega) _
      · rw [Bool.not_eq_true] at hm0
        by_cases h64 : ((d.length : Int) == 64) = true
        · go_wp2
          refine bodyPost_ret (v := .tuple #[pv A' d.length c' r u, .int .i64 0, .int .i64 29]) (by simp only [results, Try.results7]; go_simp) rfl ?_
          refine WE 29 (by unfold wrN wrE; simp at hr0 hm0; rw [hok]; simp [hr0, hm0, show d.length = 64 by have := beq_iff_eq.1 h64; omega]) ((own_far (own_far (own_far hown (by simp) _) (by simp) _) (by simp) _).alloc _ |>.alloc _) ?_
          exact ((((hbw.out.setCell (by simp) _).setCell (by simp) _).setCell (by simp) _).alloc (by simp [World.setCell]; omega) _).alloc (by simp [World.setCell]; omega) _
        · rw [Bool.not_eq_true] at h64
          have hml : 0 < b.length := by have := beq_eq_false_iff_ne.1 hm0; omega
          obtain ⟨bd, rfl, hbd, _⟩ := hb.get (k := 0) hml
          have hn64 : d.length < 64 := by
            have h1 := beq_eq_false_iff_ne.1 h64
            unfold okP at hok
            have h2 := (of_decide_eq_true hok).1
            omega
          have hbR := hb.below hbw.out
          have hb1' : Reads w1 w.heap.size 1 (some bd) b.length (bv b) := hbR
          clear hb hbR
          have HC : Hid (okP d.length r u = true ∧ r ≠ 0 ∧ d.length ≠ 64 ∧ b.length ≠ 0) := hide ⟨hok, beq_eq_false_iff_ne.1 hr0, by omega, by omega⟩
          by_cases hmin : b.length ≤ 64 - d.length
          · have hq : (b.length : Int) ≤ 64 - (d.length : Int) := by omega
            go_wp2
            refine region_tail 5 (by kernel_rfl) (by kernel_rfl) (fun W => Blk W w1.heap.size 24 #[Value.slice A' d.length c', .int .i64 r, .int .i64 u] ∧ W.ownsRow (w.heap.size + 2) 5 1 (.slice A' d.length c') d.length (bv d) ∧ Reads W w.heap.size 1 (some bd) b.length (bv b) ∧
              Blk W (w.heap.size + 1) 24 #[Value.slice none 0 0, .int .i64 0, .int .i64 0] ∧ Below w.heap.size w W ∧ w1.heap.size < W.heap.size) ⟨?_, ?_, ?_, ?_, ?_, ?_⟩ ?_
            · exact (Blk.new w1 24 #[Value.slice A' d.length c', .int .i64 r, .int .i64 u]).alloc _
            · exact (hown.alloc _).alloc _
            · exact (hb1'.alloc (by omega) _).alloc (by simp; omega) _
            · exact (hB1.alloc _).alloc _
            · exact ((hbw.out.alloc (by omega) _).alloc (by simp; omega) _).drew
            · simp [World.drew]; omega
            rintro W ⟨hk1, ho1, hr1, hk2, hbl1, hzW⟩
            obtain ⟨x0, x1, x2, y0, y1, y2⟩ := hk1.three
            simp only [List.take_succ_cons, List.take_zero, List.drop_succ_cons, List.drop_zero]
            repeat still_step
            refine wpStill_nil ?_
            clear x0 x1 x2 y0 y1 y2
            have hne := own_blk_ne ho1 hk1 (by decide)
            have hne2 := own_blk_ne ho1 hk2 (by decide)
            go_wp2_with (at_builtin; refine wpList_append_any _ rfl (.tmp 40) (.tmp 43) 22 rfl (w.heap.size + 2) 5 i0 _ 1 1 Try.underlying22 hi hz0 hz1' hz2' rfl (by omega) (.slice A' d.length c') d.length (bv d) rfl ho1 w.heap.size (some bd) (b.length) k (bv (b.take (b.length))) rfl (by rw [List.take_length]; exact hr1) (bv_one _) ?c1 ?c2 ?c3 ?_)
            case c1 => unfold maxLen; omega
            case c2 => omega
            case c3 => omega
            intro v1 W1 hown1 hg1 hat1
            obtain ⟨A1, c1, rfl⟩ := own_slice hown1
            obtain ⟨x0, x1, x2, y0, y1, y2⟩ := (hk1.grown hg1 (Ne.symm hne)).three
            obtain ⟨p0, p1, p2, s0, s1, s2⟩ := (hk2.grown hg1 (Ne.symm hne2)).three
            have hbf := hide (hbl1.grown hg1 (by omega) (fun g hg => by have := (ho1.lt g hg).1; omega))
            have hzf := hg1.size
            have hown1' := own_more hown1 (show w.heap.size + 2 ≤ w.heap.size + 2 by omega)
            have hkA := hk1.grown hg1 (Ne.symm hne)
            have hkB := hk2.grown hg1 (Ne.symm hne2)
            clear hown1 hg1 hat1
            go_wp2
            refine bodyPost_ret (v := .tuple #[pv A1 (d.length + (b.length)) c1 r u, .int .i64 ((b.length : Nat) : Int), .int .i64 0]) (by simp only [results, Try.results7]; go_simp) rfl ?_
            refine WOK (b.length) HC.out (by omega) trivial A1 c1 ?_ ?_
            · have hwn : w1.heap.size ≠ w.heap.size + 1 := by omega
              have o1 := own_set_blk hown1' (p := ⟨w1.heap.size, 0, none⟩) hkA (by decide) (.slice A1 (d.length + b.length) c1)
              have kB := hkB.far (p := ⟨w1.heap.size, 0, none⟩) (fun e => hwn e.symm) (.slice A1 (d.length + b.length) c1)
              have o2 := own_set_blk o1 (p := ⟨w.heap.size + 1, 0, none⟩) kB (by decide) (.slice A1 (d.length + b.length) c1)
              have o3 := own_set_blk o2 (p := ⟨w.heap.size + 1, 1, none⟩) (kB.set_ 0 _) (by decide) (.int .i64 r)
              have o4 := own_set_blk o3 (p := ⟨w.heap.size + 1, 2, none⟩) ((kB.set_ 0 _).set_ 1 _) (by decide) (.int .i64 u)
              rw [← bv_append] at o4
              first | exact rc_of_own o4 | (rw [List.take_length]; exact rc_of_own o4)
            · exact (((hbf.out.setCell (by simp; omega) _).setCell (by simp) _).setCell (by simp) _).setCell (by simp) _
          · have hq : 64 - (d.length : Int) < (b.length : Int) := by omega
            have hq1 : 64 - (d.length : Int) ≤ (k : Int) := by omega
            have hq2 : 0 ≤ 64 - (d.length : Int) := by omega
            have hsl := fun W => run_slice_to (P := Try.prog) 22 5 Try.underlying22 sizeU8 (some bd) b.length k .i64 (64 - (d.length : Int)) hq2 hq1 W
            rw [show (64 - (d.length : Int)).toNat = 64 - d.length from by omega] at hsl
            go_wp2
            refine region_tail 5 (by kernel_rfl) (by kernel_rfl) (fun W => Blk W w1.heap.size 24 #[Value.slice A' d.length c', .int .i64 r, .int .i64 u] ∧ W.ownsRow (w.heap.size + 2) 5 1 (.slice A' d.length c') d.length (bv d) ∧ Reads W w.heap.size 1 (some bd) b.length (bv b) ∧
              Blk W (w.heap.size + 1) 24 #[Value.slice none 0 0, .int .i64 0, .int .i64 0] ∧ Below w.heap.size w W ∧ w1.heap.size < W.heap.size) ⟨?_, ?_, ?_, ?_, ?_, ?_⟩ ?_
            · exact (Blk.new w1 24 #[Value.slice A' d.length c', .int .i64 r, .int .i64 u]).alloc _
            · exact (hown.alloc _).alloc _
            · exact (hb1'.alloc (by omega) _).alloc (by simp; omega) _
            · exact (hB1.alloc _).alloc _
            · exact ((hbw.out.alloc (by omega) _).alloc (by simp; omega) _).drew
            · simp [World.drew]; omega
            rintro W ⟨hk1, ho1, hr1, hk2, hbl1, hzW⟩
            obtain ⟨x0, x1, x2, y0, y1, y2⟩ := hk1.three
            simp only [List.take_succ_cons, List.take_zero, List.drop_succ_cons, List.drop_zero]
            repeat still_step
            refine wpStill_nil ?_
            clear x0 x1 x2 y0 y1 y2
            have hne := own_blk_ne ho1 hk1 (by decide)
            have hne2 := own_blk_ne ho1 hk2 (by decide)
            go_wp2_with (at_builtin; refine wpList_append_any _ rfl (.tmp 40) (.tmp 43) 22 rfl (w.heap.size + 2) 5 i0 _ 1 1 Try.underlying22 hi hz0 hz1' hz2' rfl (by omega) (.slice A' d.length c') d.length (bv d) rfl ho1 w.heap.size (some bd) (64 - d.length) k (bv (b.take (64 - d.length))) rfl (by rw [bv_take]; exact hr1.take (by omega)) (bv_one _) ?c1 ?c2 ?c3 ?_)
            case c1 => unfold maxLen; omega
            case c2 => omega
            case c3 => omega
            intro v1 W1 hown1 hg1 hat1
            obtain ⟨A1, c1, rfl⟩ := own_slice hown1
            obtain ⟨x0, x1, x2, y0, y1, y2⟩ := (hk1.grown hg1 (Ne.symm hne)).three
            obtain ⟨p0, p1, p2, s0, s1, s2⟩ := (hk2.grown hg1 (Ne.symm hne2)).three
            have hbf := hide (hbl1.grown hg1 (by omega) (fun g hg => by have := (ho1.lt g hg).1; omega))
            have hzf := hg1.size
            have hown1' := own_more hown1 (show w.heap.size + 2 ≤ w.heap.size + 2 by omega)
            have hkA := hk1.grown hg1 (Ne.symm hne)
            have hkB := hk2.grown hg1 (Ne.symm hne2)
            clear hown1 hg1 hat1
            go_wp2
            refine bodyPost_ret (v := .tuple #[pv A1 (d.length + (64 - d.length)) c1 r u, .int .i64 ((64 - d.length : Nat) : Int), .int .i64 0]) (by simp only [results, Try.results7]; go_simp; omega) rfl ?_
            refine WOK (64 - d.length) HC.out (by omega) trivial A1 c1 ?_ ?_
            · have hwn : w1.heap.size ≠ w.heap.size + 1 := by omega
              have o1 := own_set_blk hown1' (p := ⟨w1.heap.size, 0, none⟩) hkA (by decide) (.slice A1 (d.length + (64 - d.length)) c1)
              have kB := hkB.far (p := ⟨w1.heap.size, 0, none⟩) (fun e => hwn e.symm) (.slice A1 (d.length + (64 - d.length)) c1)
              have o2 := own_set_blk o1 (p := ⟨w.heap.size + 1, 0, none⟩) kB (by decide) (.slice A1 (d.length + (64 - d.length)) c1)
              have o3 := own_set_blk o2 (p := ⟨w.heap.size + 1, 1, none⟩) (kB.set_ 0 _) (by decide) (.int .i64 r)
              have o4 := own_set_blk o3 (p := ⟨w.heap.size + 1, 2, none⟩) ((kB.set_ 0 _).set_ 1 _) (by decide) (.int .i64 u)
              rw [← bv_append] at o4
              first | exact rc_of_own o4 | (rw [List.take_length]; exact rc_of_own o4)
            · exact (((hbf.out.setCell (by simp; omega) _).setCell (by simp) _).setCell (by simp) _).setCell (by simp) _
end Go.Proofs.Ytpbhkceinnganaa
