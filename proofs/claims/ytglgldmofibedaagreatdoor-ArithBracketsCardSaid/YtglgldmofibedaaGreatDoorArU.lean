/- heads: the walk. -/
import Derived.Test.YtglgldmofibedaaGreatDoorArT
import Derived.Lib.SmallJoins
namespace Go.Proofs.YtglgldmofibedaaGreatDoor
open Go.RowKit
set_option linter.unusedVariables false
theorem row_lit (W : World) (ks : List Tok) (h0 : 0 < ks.length) : Reads (W.alloc (.cells (svs ks).toArray 9)) (W.heap.size + 1) 1 (some ⟨W.heap.size, 0, none⟩) ks.length (svs ks) := by
  refine ⟨by rw [svs_length, Nat.mul_one], fun _ => ⟨_, rfl, by simp, ?_⟩⟩
  intro j u hu
  rw [at_add, Nat.zero_add, (Blk.new W 9 (svs ks).toArray).cell j]
  simpa using hu
theorem StdA.alloc {w : World} (h : StdA w) (o : Obj) : StdA (w.alloc o) := h.below ((Below.refl w.heap.size w).alloc (Nat.le_refl _) o)
theorem eh0 (W : World) (hW : StdA W) : Calls Tryz.prog 12 #[.string ⟨#[49, 43, 50, 42, 51]⟩, .slice none 0 0] W fun e w' => e = .returned (.tuple #[.int .i64 7, .int .i64 0]) ∧ Below W.heap.size W w' := by
  have h := eval_any [49, 43, 50, 42, 51] [] none 0 0 W (by decide) hW Reads.none_ (by decide) (fun _ h => by cases h)
  rw [ev1] at h
  exact h
theorem eh1 (W : World) (hW : StdA W) : Calls Tryz.prog 12 #[.string ⟨#[49, 60, 60, 54, 53]⟩, .slice none 0 0] W fun e w' => e = .returned (.tuple #[.int .i64 2, .int .i64 0]) ∧ Below W.heap.size W w' := by
  have h := eval_any [49, 60, 60, 54, 53] [] none 0 0 W (by decide) hW Reads.none_ (by decide) (fun _ h => by cases h)
  rw [ev2] at h
  exact h
theorem eh2 (W : World) (hW : StdA W) : Calls Tryz.prog 12 #[.string ⟨#[120, 63, 50, 58, 121]⟩, .slice (some ⟨W.heap.size, 0, none⟩) 2 2] (W.alloc (.cells #[.string ⟨#[120, 61, 48]⟩, .string ⟨#[121, 61, 45, 55]⟩] 9)) fun e w' => e = .returned (.tuple #[.int .i64 (-7), .int .i64 0]) ∧ Below W.heap.size W w' := by
  have h := eval_any [120, 63, 50, 58, 121] [[120, 61, 48], [121, 61, 45, 55]] (some ⟨W.heap.size, 0, none⟩) 2 2 (W.alloc (.cells #[.string ⟨#[120, 61, 48]⟩, .string ⟨#[121, 61, 45, 55]⟩] 9)) (by decide) (hW.alloc _) (by
    rw [show (W.alloc (.cells #[.string ⟨#[120, 61, 48]⟩, .string ⟨#[121, 61, 45, 55]⟩] 9)).heap.size = W.heap.size + 1 by simp]
    exact row_lit W [[120, 61, 48], [121, 61, 45, 55]] (by decide)) (by decide) (by decide)
  rw [ev3] at h
  exact h.mono fun e w' hh => ⟨hh.1, ((Below.refl W.heap.size W).alloc (Nat.le_refl _) _).trans (hh.2.mono (by simp))⟩
theorem eh3 (W : World) (hW : StdA W) : Calls Tryz.prog 12 #[.string ⟨#[55, 47, 48]⟩, .slice none 0 0] W fun e w' => e = .returned (.tuple #[.int .i64 0, .int .i64 32]) ∧ Below W.heap.size W w' := by
  have h := eval_any [55, 47, 48] [] none 0 0 W (by decide) hW Reads.none_ (by decide) (fun _ h => by cases h)
  rw [ev4] at h
  exact h
theorem eh4 (W : World) (hW : StdA W) : Calls Tryz.prog 12 #[.string ⟨#[55, 32, 43]⟩, .slice none 0 0] W fun e w' => e = .returned (.tuple #[.int .i64 0, .int .i64 50]) ∧ Below W.heap.size W w' := by
  have h := eval_any [55, 32, 43] [] none 0 0 W (by decide) hW Reads.none_ (by decide) (fun _ h => by cases h)
  rw [ev5] at h
  exact h
theorem eh5 (W : World) (hW : StdA W) : Calls Tryz.prog 12 #[.string ⟨#[45, 40, 48, 120, 49, 48, 32, 45, 32, 51, 41, 32, 37, 32, 52]⟩, .slice none 0 0] W fun e w' => e = .returned (.tuple #[.int .i64 (-1), .int .i64 0]) ∧ Below W.heap.size W w' := by
  have h := eval_any [45, 40, 48, 120, 49, 48, 32, 45, 32, 51, 41, 32, 37, 32, 52] [] none 0 0 W (by decide) hW Reads.none_ (by decide) (fun _ h => by cases h)
  rw [ev6] at h
  exact h
theorem th (W : World) (hW : StdA W) : Calls Tryz.prog 14 #[.string ⟨#[97, 60, 61, 49]⟩] W fun e w' => (∃ A n c, e = .returned (.tuple #[.slice A n c, .bool true]) ∧ Ow W.heap.size w' A n c [[97], [60, 61], [49]]) ∧ Below W.heap.size W w' := by
  have h := tokens_any [97, 60, 61, 49] W (by decide) hW.ops
  refine h.mono fun e w' hh => ⟨?_, hh.2⟩
  have h1 := hh.1
  unfold TokEnd at h1
  rw [tk1] at h1
  exact h1
theorem uh (W : World) : Calls Tryz.prog 9 #[.string ⟨#[126]⟩, .int .i64 0] W fun e w' => e = .returned (.tuple #[.int .i64 (-1), .bool true]) ∧ W = w' := by
  have h := unary_any [126] 0 W
  rw [un1] at h
  exact h
theorem ah (W : World) : Calls Tryz.prog 7 #[.string ⟨#[62, 62]⟩, .int .i64 (-8), .int .i64 1] W fun e w' => e = .returned (.tuple #[.int .i64 (-4), .int .i64 0]) ∧ W = w' := by
  have h := apply_any [62, 62] (-8) 1 W
  rw [ap1] at h
  exact h
set_option maxRecDepth 100000 in
set_option maxHeartbeats 8000000 in
theorem heads_any (w : World) (hS : StdA w) : Calls Tryz.prog 6 #[] w fun e w' => e = .returned (.bool true) ∧ Below w.heap.size w w' := by
  have HS := hide hS
  have HB := hide (Below.refl w.heap.size w)
  clear hS
  go_enter Tryz.func6, Tryz.ntmps6
  go_wp2_with fail
  refine (eh0 _ HS.out).mono ?_
  rintro e w1 ⟨rfl, hb⟩
  have HS' := hide (HS.out.below hb)
  have HB' := hide (below_more HB.out (Nat.le_refl _) hb)
  clear hb HS HB
  have HS := HS'
  have HB := HB'
  clear HS' HB'
  go_wp2_with fail
  refine (eh1 _ HS.out).mono ?_
  rintro e w2 ⟨rfl, hb⟩
  have HS' := hide (HS.out.below hb)
  have HB' := hide (below_more HB.out (Nat.le_refl _) hb)
  clear hb HS HB
  have HS := HS'
  have HB := HB'
  clear HS' HB'
  go_wp2_with fail
  refine (eh2 _ HS.out).mono ?_
  rintro e w3 ⟨rfl, hb⟩
  have HS' := hide (HS.out.below hb)
  have HB' := hide (below_more HB.out (Nat.le_refl _) hb)
  clear hb HS HB
  have HS := HS'
  have HB := HB'
  clear HS' HB'
  go_wp2_with fail
  refine (eh3 _ HS.out).mono ?_
  rintro e w4 ⟨rfl, hb⟩
  have HS' := hide (HS.out.below hb)
  have HB' := hide (below_more HB.out (Nat.le_refl _) hb)
  clear hb HS HB
  have HS := HS'
  have HB := HB'
  clear HS' HB'
  go_wp2_with fail
  refine (eh4 _ HS.out).mono ?_
  rintro e w5 ⟨rfl, hb⟩
  have HS' := hide (HS.out.below hb)
  have HB' := hide (below_more HB.out (Nat.le_refl _) hb)
  clear hb HS HB
  have HS := HS'
  have HB := HB'
  clear HS' HB'
  go_wp2_with fail
  refine (eh5 _ HS.out).mono ?_
  rintro e w6 ⟨rfl, hb⟩
  have HS' := hide (HS.out.below hb)
  have HB' := hide (below_more HB.out (Nat.le_refl _) hb)
  clear hb HS HB
  have HS := HS'
  have HB := HB'
  clear HS' HB'
  go_wp2_with fail
  refine (th _ HS.out).mono ?_
  rintro e w7 ⟨⟨A, n, c, rfl, hO⟩, hb⟩
  have HO := hide hO
  have hn : n = 3 := hO.len.symm
  subst hn
  have HB' := hide (below_more HB.out (Nat.le_refl _) hb)
  clear hb hO HS HB
  go_wp2_with fail
  refine (uh _).mono ?_
  rintro e w8 ⟨rfl, rfl⟩
  go_wp2_with fail
  refine (ah _).mono ?_
  rintro e w8 ⟨rfl, rfl⟩
  have XT := hide (texts_eq [[97], [60, 61], [49]] A (some ⟨w7.heap.size, 0, none⟩) 3 c 3 3 (w7.alloc (.cells #[.string ⟨#[97]⟩, .string ⟨#[60, 61]⟩, .string ⟨#[49]⟩] 9)) (by
      rw [show (w7.alloc (.cells #[.string ⟨#[97]⟩, .string ⟨#[60, 61]⟩, .string ⟨#[49]⟩] 9)).heap.size = w7.heap.size + 1 by simp]
      exact ((HO.out.alloc _).rd.more (by simp))) (by
      rw [show (w7.alloc (.cells #[.string ⟨#[97]⟩, .string ⟨#[60, 61]⟩, .string ⟨#[49]⟩] 9)).heap.size = w7.heap.size + 1 by simp]
      exact row_lit w7 [[97], [60, 61], [49]] (by decide)) (by decide))
  go_wp2_with fail
  refine XT.out.mono ?_
  rintro e w8 ⟨rfl, hb⟩
  have HB9 := hide (below_more HB'.out (Nat.le_refl _) (((Below.refl w7.heap.size w7).alloc (Nat.le_refl _) _).trans (hb.mono (by simp))))
  clear hb HB' HO XT
  go_wp2_with fail
  go_ret
  exact ⟨rfl, HB9.out⟩
end Go.Proofs.YtglgldmofibedaaGreatDoor
