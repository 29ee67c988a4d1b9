/- PipeReady's walk, over what heads does. -/
import Derived.Test.YtpbhkceinnganaaPipeW
import Derived.Test.YtpbhkceinnganaaPipeD
import Derived.Test.YtpbhkceinnganaaPipeR
namespace Go.Proofs.Ytpbhkceinnganaa
open Go.RowKit
set_option linter.unusedVariables false

abbrev HeadsOk : Prop := ∀ w, Calls Try.prog 6 #[] w fun e w' => e = .returned (.bool true) ∧ Below w.heap.size w w'
theorem rd_lit (W : World) : Rd (W.alloc (.cells #[.int .u8 1] 5)) (some ⟨W.heap.size, 0, none⟩) 1 [1] :=
  Reads.of_own (Blk.own (base := 0) (cap := 1) (Blk.new W 5 #[.int .u8 1]) (by omega) (by unfold maxLen; omega) rfl)
theorem rdy_w {n : Nat} {r u : Int} (h : okP n r u = true) : rdyS n r u true = (wrE n r u 1 != 29) := by
  unfold rdyS wrE
  rw [h, Bool.eq_iff_iff]
  unfold okP at h
  have := of_decide_eq_true h
  by_cases hr : r = 0
  · simp [hr]
  · by_cases h64 : n = 64
    · simp [hr, h64]
    · simp [hr, h64]; omega
theorem rdy_r {n : Nat} {r u : Int} (h : okP n r u = true) : rdyS n r u false = (rdE n r u 1 != 29) := by
  unfold rdyS rdE
  rw [h, Bool.eq_iff_iff]
  by_cases hu : u = 0
  · simp [hu]
  · by_cases h0 : n = 0
    · simp [hu, h0]
    · simp [hu, h0]; omega

set_option maxHeartbeats 1000000 in
theorem ready_law (hh : HeadsOk) (A : Option Addr) (n c : Nat) (r u : Int) (wr : Bool) (d : List UInt8) (w : World) (hr : Rd w A n d) (hc : n ≤ c) (hcc : c ≤ maxLen) :
    Calls Try.prog 5 #[pv A n c r u, .bool wr] w fun e w' => e = .returned (.bool true) ∧ Below w.heap.size w w' := by
  have hl := hr.len
  subst hl
  have hmx := hcc
  unfold maxLen at hmx
  by_cases h64 : d.length ≤ 64
  · go_enter Try.func5, Try.ntmps5
    go_wp2_with fail
    refine (check_any A _ c r u _ (by unfold maxLen; omega)).mono ?_
    rintro e w1 ⟨rfl, hw1⟩
    have b1 := hide (((Below.refl w.heap.size w).alloc (Nat.le_refl _) (.cells #[Value.slice A d.length c, .int .i64 r, .int .i64 u] 24)).alloc (by simp) (.cells #[Value.slice A d.length c, .int .i64 r, .int .i64 u] 24))
    subst hw1
    cases hok : okP d.length r u
    · go_wp2_with fail
      refine (hh _).mono ?_
      rintro e w2 ⟨rfl, k2⟩
      go_wp2
      go_ret
      exact ⟨rfl, below_more b1.out (Nat.le_refl _) k2⟩
    · cases wr
      · go_wp2_with fail
        refine (read_any A c r u d 1 _ (((hr.alloc (Nat.le_refl _) _).alloc (by simp) _).more (by simp; omega)) (by omega) hc hcc (by omega) (by omega)).mono ?_
        rintro e w2 ⟨A', n', c', B, m, c2, rfl, _, _, k2⟩
        have hP2 := ((Blk.new w 24 #[Value.slice A d.length c, .int .i64 r, .int .i64 u]).alloc (.cells #[Value.slice A d.length c, .int .i64 r, .int .i64 u] 24)).below k2 (by simp; try omega)
        have B2 := hide (below_more b1.out (Nat.le_refl _) k2)
        clear k2
        obtain ⟨x0, x1, x2, y0, y1, y2⟩ := hP2.three
        go_wp2_with fail
        refine (ready_any A _ c r u false _ (by omega)).mono ?_
        rintro e w3 ⟨rfl, k3⟩
        rw [rdy_r hok]
        have B3 := hide (below_more B2.out (Nat.le_refl _) k3)
        clear k3
        cases hb : (rdE d.length r u 1 != 29)
        all_goals
          go_wp2_with fail
          refine (hh _).mono ?_
          rintro e w4 ⟨rfl, k4⟩
          go_wp2
          go_ret
          exact ⟨rfl, below_more B3.out (Nat.le_refl _) k4⟩
      · go_wp2_with fail
        refine (write_any A _ c r u d (some ⟨w.heap.size + 1 + 1, 0, none⟩) 1 1 [1] _ ((((hr.alloc (Nat.le_refl _) _).alloc (by simp) _).alloc (by simp; omega) _).more (by simp; omega)) (by omega) ?_ (by omega) (by omega)).mono ?_
        · have h1 := rd_lit ((w.alloc (.cells #[Value.slice A d.length c, .int .i64 r, .int .i64 u] 24)).alloc (.cells #[Value.slice A d.length c, .int .i64 r, .int .i64 u] 24))
          simpa only [World.size_alloc] using h1
        rintro e w2 ⟨A', n', c', rfl, _, k2⟩
        have hP2 := (((Blk.new w 24 #[Value.slice A d.length c, .int .i64 r, .int .i64 u]).alloc (.cells #[Value.slice A d.length c, .int .i64 r, .int .i64 u] 24)).alloc (.cells #[.int .u8 1] 5)).below k2 (by simp; try omega)
        have B2 := hide (below_more (b1.out.alloc (by simp; omega) (.cells #[.int .u8 1] 5)) (Nat.le_refl _) k2)
        clear k2
        obtain ⟨x0, x1, x2, y0, y1, y2⟩ := hP2.three
        go_wp2_with fail
        refine (ready_any A _ c r u true _ (by omega)).mono ?_
        rintro e w3 ⟨rfl, k3⟩
        rw [rdy_w hok]
        have B3 := hide (below_more B2.out (Nat.le_refl _) k3)
        clear k3
        cases hb : (wrE d.length r u 1 != 29)
        all_goals
          go_wp2_with fail
          refine (hh _).mono ?_
          rintro e w4 ⟨rfl, k4⟩
          go_wp2
          go_ret
          exact ⟨rfl, below_more B3.out (Nat.le_refl _) k4⟩
  · go_enter Try.func5, Try.ntmps5
    go_wp2_with fail
    refine (hh _).mono ?_
    rintro e w2 ⟨rfl, k2⟩
    go_wp2
    go_ret
    exact ⟨rfl, below_more ((Below.refl w.heap.size w).alloc (Nat.le_refl _) _) (Nat.le_refl _) k2⟩
end Go.Proofs.Ytpbhkceinnganaa
