/- The reference's Write of pipes. -/
import Derived.Test.YtpbhkceinnganaaPipeS
import Derived.Test.YtpbhkceinnganaaPipeW
import Derived.Test.YtpbhkceinnganaaPipeD
namespace Go.Proofs.Ytpbhkceinnganaa
open Go.RowKit
set_option linter.unusedVariables false

def RWriteEnd (w : World) (d b : List UInt8) (r u : Int) (e : Ending) (w' : World) : Prop :=
  ∃ A' n' c', e = .returned (.tuple #[pv A' n' c' r u, .int .i64 (wrN d.length r u b.length), .int .i64 (wrE d.length r u b.length)]) ∧ Rd w' A' n' (d ++ b.take (wrN d.length r u b.length)) ∧ Below w.heap.size w w'
theorem rwriteEnd_no {w w' : World} {A : Option Addr} {c : Nat} {d b : List UInt8} {r u E : Int} (h : wrN d.length r u b.length = 0 ∧ wrE d.length r u b.length = E) (hr : Rd w A d.length d) (hb : Below w.heap.size w w') :
    RWriteEnd w d b r u (.returned (.tuple #[pv A d.length c r u, .int .i64 0, .int .i64 E])) w' := by
  refine ⟨A, d.length, c, by rw [h.1, h.2]; rfl, ?_, hb⟩
  rw [h.1, List.take_zero, List.append_nil]; exact (Reads.below hr hb).more hb.size

theorem wr_ok {n m : Nat} {r u : Int} (h : okP n r u = true) (hr : r ≠ 0) (hm : m ≠ 0) (hn : n ≠ 64) : wrN n r u m = min m (64 - n) ∧ wrE n r u m = 0 := by unfold wrN wrE; rw [h]; simp [hr, hm, hn]
theorem wr_64 {n m : Nat} {r u : Int} (h : okP n r u = true) (hr : r ≠ 0) (hm : m ≠ 0) (hn : n = 64) : wrN n r u m = 0 ∧ wrE n r u m = 29 := by unfold wrN wrE; rw [h]; simp [hr, hm, hn]
theorem wr_m0 {n m : Nat} {r u : Int} (h : okP n r u = true) (hr : r ≠ 0) (hm : m = 0) : wrN n r u m = 0 ∧ wrE n r u m = 0 := by unfold wrN wrE; rw [h]; simp [hr, hm]
theorem wr_r0 {n m : Nat} {r u : Int} (h : okP n r u = true) (hr : r = 0) : wrN n r u m = 0 ∧ wrE n r u m = 28 := by unfold wrN wrE; rw [h]; simp [hr]

set_option maxHeartbeats 2000000 in
theorem rwrite_any (A : Option Addr) (c : Nat) (r u : Int) (d : List UInt8) (B : Option Addr) (k : Nat) (b : List UInt8) (w : World) (hr : Rd w A d.length d) (hn : d.length ≤ 1000) (hb : Rd w B b.length b) (hm : b.length ≤ 1000000) (hk : b.length ≤ k) :
    Calls Try.prog 8 #[pv A d.length c r u, .slice B b.length k] w (RWriteEnd w d b r u) := by
  obtain ⟨i0, hi, hz0', hz1', hz2'⟩ := info_parts infoU8
  go_enter Try.func8, Try.ntmps8
  go_wp2_with fail
  refine (rcheck_any A _ c r u _ (by unfold maxLen; omega)).mono ?_
  rintro e w2 ⟨rfl, rfl⟩
  cases hok : okP d.length r u
  · have HE : Hid (wrN d.length r u b.length = 0 ∧ wrE d.length r u b.length = 2) := hide (by unfold wrN wrE; rw [hok]; simp)
    go_wp2
    refine bodyPost_ret (v := .tuple #[pv A d.length c r u, .int .i64 0, .int .i64 2]) (by simp only [results, Try.results8]; go_simp) rfl (rwriteEnd_no HE.out hr ?_)
    ((repeat (refine Below.alloc ?_ (by first | exact Nat.le_refl _ | (simp; done) | (simp; omega)) _)); exact Below.refl _ _)
  · cases hrb : (r == 0)
    · have hr0 := beq_eq_false_iff_ne.1 hrb
      cases hmb : ((b.length : Int) == 0)
      · have hm0 := beq_eq_false_iff_ne.1 hmb
        have hn64 : d.length ≤ 64 := by unfold okP at hok; exact (of_decide_eq_true hok).1
        by_cases h64 : d.length = 64
        · have HE : Hid (wrN d.length r u b.length = 0 ∧ wrE d.length r u b.length = 29) := hide (wr_64 hok hr0 (by omega) h64)
          have hcmp : (64 - (d.length : Int)) < (b.length : Int) := by omega
          have hcmp0 : ((64 : Int) - (d.length : Int) == 0) = true := beq_iff_eq.2 (by omega)
          have H64 := hide h64
          clear h64 hr0 hm0
          go_wp2
          refine bodyPost_ret (v := .tuple #[pv A d.length c r u, .int .i64 0, .int .i64 29]) (by simp only [results, Try.results8]; go_simp) rfl (rwriteEnd_no HE.out hr ?_)
          ((repeat (refine Below.alloc ?_ (by first | exact Nat.le_refl _ | (simp; done) | (simp; omega)) _)); exact Below.refl _ _)
        · have hl64 : d.length < 64 := by omega
          have hml : 0 < b.length := by omega
          have HN : Hid (wrN d.length r u b.length = min b.length (64 - d.length)) := hide (wr_ok hok hr0 (by omega) h64).1
          have HE : Hid (wrE d.length r u b.length = 0) := hide (wr_ok hok hr0 (by omega) h64).2
          clear h64 hr0 hm0 hn64
          by_cases hle : (b.length : Int) ≤ 64 - (d.length : Int)
          · have hq1 : (b.length : Int) ≤ k := by omega
            have hsl := fun W => run_slice_to (P := Try.prog) 22 5 Try.underlying22 sizeU8 B b.length k .i64 (b.length : Int) (by omega) hq1 W
            simp only [Int.toNat_natCast] at hsl
            go_wp2_with fail
            generalize hW0 : ((w.alloc (.cells #[Value.slice A d.length c, .int .i64 r, .int .i64 u] 24)).alloc (.cells #[Value.slice none 0 0, .int .i64 0, .int .i64 0] 24)).alloc (.cells #[Value.slice A d.length c, .int .i64 r, .int .i64 u] 24) = W0
            have hP0 : Blk W0 w.heap.size 24 #[Value.slice A d.length c, .int .i64 r, .int .i64 u] := by rw [← hW0]; exact ((Blk.new w 24 _).alloc _).alloc _
            have hR0 : Blk W0 (w.heap.size + 1) 24 #[Value.slice none 0 0, .int .i64 0, .int .i64 0] := by
              rw [← hW0]
              have h1 := (Blk.new (w.alloc (.cells #[Value.slice A d.length c, .int .i64 r, .int .i64 u] 24)) 24 #[Value.slice none 0 0, .int .i64 0, .int .i64 0]).alloc (.cells #[Value.slice A d.length c, .int .i64 r, .int .i64 u] 24)
              simpa only [World.size_alloc] using h1
            have hr0 : Reads W0 w.heap.size 1 A d.length (bv d) := by rw [← hW0]; exact ((hr.alloc (Nat.le_refl _) _).alloc (by simp) _).alloc (by simp; omega) _
            have hrb0 : Reads W0 w.heap.size 1 B b.length (bv b) := by rw [← hW0]; exact ((hb.alloc (Nat.le_refl _) _).alloc (by simp) _).alloc (by simp; omega) _
            have hb0 : Below w.heap.size w W0 := by rw [← hW0]; ((repeat (refine Below.alloc ?_ (by first | exact Nat.le_refl _ | (simp; done) | (simp; omega)) _)); exact Below.refl _ _)
            have hz0 : w.heap.size + 1 < W0.heap.size := by rw [← hW0]; simp
            have hz0m : w.heap.size < W0.heap.size := by omega
            have HW0 := hide hW0
            clear hW0
            obtain ⟨a0, a1, a2, f0, f1, f2⟩ := hP0.three
            have hown0 : (W0.alloc (.cells #[] 5)).ownsRow w.heap.size 5 1 (.slice (some ⟨W0.heap.size, 0, none⟩) 0 0) 0 [] :=
              Blk.own (cap := 0) (Blk.new W0 5 #[]) (by omega) (Nat.zero_le _) rfl
            have hrE := hr0.alloc (by omega) (.cells #[] 5)
            have hrbE := hrb0.alloc (by omega) (.cells #[] 5)
            go_region_law (first
              | (refine step_append_any _ rfl (.tmp 30) (.tmp 32) 22 rfl w.heap.size 5 i0 _ 1 1 Try.underlying22 hi hz0' hz1' hz2' rfl (by omega) (.slice (some ⟨W0.heap.size, 0, none⟩) 0 0) 0 [] rfl (by exact hown0) w.heap.size A d.length c (bv d) rfl (by exact hrE) (bv_one _) (by unfold maxLen; omega) (by omega) (by simp; omega) ?_
                 intro v1 W2 hown1 hg1 hat1
                 rw [Nat.zero_add, List.nil_append] at hown1
                 obtain ⟨B1, e1, rfl⟩ := own_slice hown1
                 have hP2 := Blk.grown (h := (by exact hP0.alloc (.cells #[] 5))) (hb := hg1) (by simp [Value.ownBlock]; omega)
                 have hR2 := Blk.grown (h := (by exact hR0.alloc (.cells #[] 5))) (hb := hg1) (by simp [Value.ownBlock]; omega)
                 have hrb2 := Reads.grown (h := (by exact hrbE)) (hg := hg1) (by simp; omega) (fun g hg => by simp [Value.ownBlock] at hg; omega)
                 have hz2 : W0.heap.size + 1 ≤ W2.heap.size := (by have hz2 := hg1.size; simp at hz2; exact hz2)
                 have HG1 := hide hg1
                 have hne2 := Ne.symm (own_blk_ne hown1 hP2 (by decide))
                 have hneR := Ne.symm (own_blk_ne hown1 hR2 (by decide))
                 have hb2 : Hid (Below w.heap.size w W2) := hide (Below.grown (h := (by exact belowN 1 (hb0.alloc (by omega) (.cells #[] 5)))) (hg := hg1) (by simp; omega) (fun g hg => by simp [Value.ownBlock] at hg; omega))
                 clear hg1 hat1)
              | (refine step_append_any _ rfl (.tmp 33) (.tmp 36) 22 rfl w.heap.size 5 i0 _ 1 1 Try.underlying22 hi hz0' hz1' hz2' rfl (by omega) (.slice B1 d.length e1) d.length (bv d) rfl (by exact hown1) w.heap.size B b.length k (bv b) rfl (by exact hrb2) (bv_one _) (by unfold maxLen; omega) (by omega) (by first | omega | (simp; omega)) ?_
                 intro v3 W4 hown4 hg4 hat4
                 obtain ⟨B4, e4, rfl⟩ := own_slice hown4
                 have hP4 := Blk.grown (h := (by exact hP2)) (hb := hg4) hne2; have hR4 := Blk.grown (h := (by exact hR2)) (hb := hg4) hneR; have hz4 := hg4.size; try simp at hz4
                 have hb4 : Hid (Below w.heap.size w W4) := hide (Below.grown (h := (by first | exact hb2.out | exact hb2.out.drew | exact belowN _ hb2.out)) (hg := hg4) (by first | omega | (simp; omega)) (fun g hg => by have := (hown1.lt g hg).1; omega))
                 have HO4 := hide hown4
                 clear hown4 hg4 hat4
                 obtain ⟨m0, m1, m2, n0, n1, n2⟩ := hP4.three))
            all_goals
              have hP5 := hP4.set_ 0 (.slice B4 (d.length + b.length) e4)
              have hR5 := hR4.far (p := ⟨w.heap.size, 0, none⟩) (by simp) (.slice B4 (d.length + b.length) e4)
              have hy3 : w.heap.size < W4.heap.size := by omega
              have hy4 : w.heap.size + 1 < W4.heap.size := by omega
              have HP5 := hide hP5
              have HR5 := hide hR5
              clear hP5 hR5
              obtain ⟨i0', i1', i2', j0, j1, j2⟩ := hR4.three
              go_wp2
              have hQ0 : wrN d.length r u b.length = b.length := by rw [HN.out]; omega
              refine bodyPost_ret (v := .tuple #[pv B4 (d.length + b.length) e4 r u, .int .i64 (b.length : Int), .int .i64 0]) (by simp only [results, Try.results8]; go_simp) rfl ?_
              have o4 := own_set_blk (own_set_blk (own_set_blk (own_set_blk HO4.out (p := ⟨w.heap.size, 0, none⟩) hP4 (by decide) (.slice B4 (d.length + b.length) e4)) (p := ⟨w.heap.size + 1, 0, none⟩) HR5.out (by decide) (.slice B4 (d.length + b.length) e4)) (p := ⟨w.heap.size + 1, 1, none⟩) (HR5.out.set_ 0 _) (by decide) (.int .i64 r)) (p := ⟨w.heap.size + 1, 2, none⟩) ((HR5.out.set_ 0 _).set_ 1 _) (by decide) (.int .i64 u)
              rw [← bv_append] at o4
              refine ⟨B4, d.length + b.length, e4, by rw [HE.out, hQ0], by rw [hQ0, List.take_length]; exact Reads.of_own o4, ?_⟩
              exact (((hb4.out.setCell (by simp) _).setCell (by simp) _).setCell (by simp) _).setCell (by simp) _
          · have hq0 : (0 : Int) ≤ 64 - (d.length : Int) := by omega
            have hq1 : 64 - (d.length : Int) ≤ k := by omega
            have hqe : (64 - (d.length : Int)).toNat = 64 - d.length := by omega
            have hsl : ∀ W, (Instr.slice 22 (.slice B b.length k) none (some (.int .i64 (64 - (d.length : Int)))) none).run Try.prog W = .ok (.slice B (64 - d.length) k) W := fun W => by
              have := run_slice_to (P := Try.prog) 22 5 Try.underlying22 sizeU8 B b.length k .i64 (64 - (d.length : Int)) hq0 hq1 W
              rw [hqe] at this; exact this
            clear hqe
            have hlt : 64 - (d.length : Int) < (b.length : Int) := by omega
            have hnz : (64 - (d.length : Int) == 0) = false := beq_eq_false_iff_ne.2 (by omega)
            go_wp2_with fail
            generalize hW0 : ((w.alloc (.cells #[Value.slice A d.length c, .int .i64 r, .int .i64 u] 24)).alloc (.cells #[Value.slice none 0 0, .int .i64 0, .int .i64 0] 24)).alloc (.cells #[Value.slice A d.length c, .int .i64 r, .int .i64 u] 24) = W0
            have hP0 : Blk W0 w.heap.size 24 #[Value.slice A d.length c, .int .i64 r, .int .i64 u] := by rw [← hW0]; exact ((Blk.new w 24 _).alloc _).alloc _
            have hR0 : Blk W0 (w.heap.size + 1) 24 #[Value.slice none 0 0, .int .i64 0, .int .i64 0] := by
              rw [← hW0]
              have h1 := (Blk.new (w.alloc (.cells #[Value.slice A d.length c, .int .i64 r, .int .i64 u] 24)) 24 #[Value.slice none 0 0, .int .i64 0, .int .i64 0]).alloc (.cells #[Value.slice A d.length c, .int .i64 r, .int .i64 u] 24)
              simpa only [World.size_alloc] using h1
            have hr0 : Reads W0 w.heap.size 1 A d.length (bv d) := by rw [← hW0]; exact ((hr.alloc (Nat.le_refl _) _).alloc (by simp) _).alloc (by simp; omega) _
            have hrb0 : Reads W0 w.heap.size 1 B b.length (bv b) := by rw [← hW0]; exact ((hb.alloc (Nat.le_refl _) _).alloc (by simp) _).alloc (by simp; omega) _
            have hb0 : Below w.heap.size w W0 := by rw [← hW0]; ((repeat (refine Below.alloc ?_ (by first | exact Nat.le_refl _ | (simp; done) | (simp; omega)) _)); exact Below.refl _ _)
            have hz0 : w.heap.size + 1 < W0.heap.size := by rw [← hW0]; simp
            have hz0m : w.heap.size < W0.heap.size := by omega
            have HW0 := hide hW0
            clear hW0
            obtain ⟨a0, a1, a2, f0, f1, f2⟩ := hP0.three
            have hown0 : (W0.alloc (.cells #[] 5)).ownsRow w.heap.size 5 1 (.slice (some ⟨W0.heap.size, 0, none⟩) 0 0) 0 [] :=
              Blk.own (cap := 0) (Blk.new W0 5 #[]) (by omega) (Nat.zero_le _) rfl
            have hrE := hr0.alloc (by omega) (.cells #[] 5)
            have hrbE := (hrb0.alloc (by omega) (.cells #[] 5)).take (q := 64 - d.length) (by omega)
            rw [← bv_take] at hrbE
            go_region_law (first
              | (refine step_append_any _ rfl (.tmp 30) (.tmp 32) 22 rfl w.heap.size 5 i0 _ 1 1 Try.underlying22 hi hz0' hz1' hz2' rfl (by omega) (.slice (some ⟨W0.heap.size, 0, none⟩) 0 0) 0 [] rfl (by exact hown0) w.heap.size A d.length c (bv d) rfl (by exact hrE) (bv_one _) (by unfold maxLen; omega) (by omega) (by simp; omega) ?_
                 intro v1 W2 hown1 hg1 hat1
                 rw [Nat.zero_add, List.nil_append] at hown1
                 obtain ⟨B1, e1, rfl⟩ := own_slice hown1
                 have hP2 := Blk.grown (h := (by exact hP0.alloc (.cells #[] 5))) (hb := hg1) (by simp [Value.ownBlock]; omega)
                 have hR2 := Blk.grown (h := (by exact hR0.alloc (.cells #[] 5))) (hb := hg1) (by simp [Value.ownBlock]; omega)
                 have hrb2 := Reads.grown (h := (by exact hrbE)) (hg := hg1) (by simp; omega) (fun g hg => by simp [Value.ownBlock] at hg; omega)
                 have hz2 : W0.heap.size + 1 ≤ W2.heap.size := (by have hz2 := hg1.size; simp at hz2; exact hz2)
                 have HG1 := hide hg1
                 have hne2 := Ne.symm (own_blk_ne hown1 hP2 (by decide))
                 have hneR := Ne.symm (own_blk_ne hown1 hR2 (by decide))
                 have hb2 : Hid (Below w.heap.size w W2) := hide (Below.grown (h := (by exact belowN 1 (hb0.alloc (by omega) (.cells #[] 5)))) (hg := hg1) (by simp; omega) (fun g hg => by simp [Value.ownBlock] at hg; omega))
                 clear hg1 hat1)
              | (refine step_append_any _ rfl (.tmp 33) (.tmp 36) 22 rfl w.heap.size 5 i0 _ 1 1 Try.underlying22 hi hz0' hz1' hz2' rfl (by omega) (.slice B1 d.length e1) d.length (bv d) rfl (by exact hown1) w.heap.size B (64 - d.length) k (bv (b.take (64 - d.length))) rfl (by exact hrb2) (bv_one _) (by unfold maxLen; omega) (by omega) (by first | omega | (simp; omega)) ?_
                 intro v3 W4 hown4 hg4 hat4
                 obtain ⟨B4, e4, rfl⟩ := own_slice hown4
                 have hP4 := Blk.grown (h := (by exact hP2)) (hb := hg4) hne2; have hR4 := Blk.grown (h := (by exact hR2)) (hb := hg4) hneR; have hz4 := hg4.size; try simp at hz4
                 have hb4 : Hid (Below w.heap.size w W4) := hide (Below.grown (h := (by first | exact hb2.out | exact hb2.out.drew | exact belowN _ hb2.out)) (hg := hg4) (by first | omega | (simp; omega)) (fun g hg => by have := (hown1.lt g hg).1; omega))
                 have HO4 := hide hown4
                 clear hown4 hg4 hat4
                 obtain ⟨m0, m1, m2, n0, n1, n2⟩ := hP4.three))
            all_goals
              have hP5 := hP4.set_ 0 (.slice B4 (d.length + (64 - d.length)) e4)
              have hR5 := hR4.far (p := ⟨w.heap.size, 0, none⟩) (by simp) (.slice B4 (d.length + (64 - d.length)) e4)
              have hy3 : w.heap.size < W4.heap.size := by omega
              have hy4 : w.heap.size + 1 < W4.heap.size := by omega
              have HP5 := hide hP5
              have HR5 := hide hR5
              clear hP5 hR5
              obtain ⟨i0', i1', i2', j0, j1, j2⟩ := hR4.three
              go_wp2
              have hQ0 : wrN d.length r u b.length = 64 - d.length := by rw [HN.out]; omega
              refine bodyPost_ret (v := .tuple #[pv B4 (d.length + (64 - d.length)) e4 r u, .int .i64 ((64 - d.length : Nat) : Int), .int .i64 0]) (by simp only [results, Try.results8]; go_simp; try omega) rfl ?_
              have o4 := own_set_blk (own_set_blk (own_set_blk (own_set_blk HO4.out (p := ⟨w.heap.size, 0, none⟩) hP4 (by decide) (.slice B4 (d.length + (64 - d.length)) e4)) (p := ⟨w.heap.size + 1, 0, none⟩) HR5.out (by decide) (.slice B4 (d.length + (64 - d.length)) e4)) (p := ⟨w.heap.size + 1, 1, none⟩) (HR5.out.set_ 0 _) (by decide) (.int .i64 r)) (p := ⟨w.heap.size + 1, 2, none⟩) ((HR5.out.set_ 0 _).set_ 1 _) (by decide) (.int .i64 u)
              rw [← bv_append] at o4
              refine ⟨B4, d.length + (64 - d.length), e4, by rw [HE.out, hQ0], by rw [hQ0]; exact Reads.of_own o4, ?_⟩
              exact (((hb4.out.setCell (by simp) _).setCell (by simp) _).setCell (by simp) _).setCell (by simp) _
      · have HE : Hid (wrN d.length r u b.length = 0 ∧ wrE d.length r u b.length = 0) := hide (wr_m0 hok hr0 (by have hm0 := beq_iff_eq.1 hmb; omega))
        clear hr0
        go_wp2
        refine bodyPost_ret (v := .tuple #[pv A d.length c r u, .int .i64 0, .int .i64 0]) (by simp only [results, Try.results8]; go_simp) rfl (rwriteEnd_no HE.out hr ?_)
        ((repeat (refine Below.alloc ?_ (by first | exact Nat.le_refl _ | (simp; done) | (simp; omega)) _)); exact Below.refl _ _)
    · have HE : Hid (wrN d.length r u b.length = 0 ∧ wrE d.length r u b.length = 28) := hide (wr_r0 hok (beq_iff_eq.1 hrb))
      go_wp2
      refine bodyPost_ret (v := .tuple #[pv A d.length c r u, .int .i64 0, .int .i64 28]) (by simp only [results, Try.results8]; go_simp) rfl (rwriteEnd_no HE.out hr ?_)
      ((repeat (refine Below.alloc ?_ (by first | exact Nat.le_refl _ | (simp; done) | (simp; omega)) _)); exact Below.refl _ _)
end Go.Proofs.Ytpbhkceinnganaa
