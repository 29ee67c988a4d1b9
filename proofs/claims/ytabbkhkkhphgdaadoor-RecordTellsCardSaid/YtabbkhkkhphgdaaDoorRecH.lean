/- The contract of the heads. -/
import Derived.Test.YtabbkhkkhphgdaaDoorRecG
import Derived.Test.YtabbkhkkhphgdaaDoorRecD
namespace Go.Proofs.YtabbkhkkhphgdaaDoor
open Go.RowKit
set_option linter.unusedVariables false
def hR : Rec := ⟨1, 12, [47, 97], [], [], false⟩
def hE : LB := [0, 0, 0, 1, 12, 0, 0, 2, 47, 97, 0, 0]
theorem hR_ok : validP hR = true := by kernel_rfl
theorem hR_enc : encP hR = hE := by kernel_rfl
theorem hR_dec : decP hE = some hR := by rw [← hR_enc]; exact enc_dec hR_ok
theorem nil_dec : decP [] = none := by kernel_rfl
theorem hB_no : validP ⟨0, 5, [], [], [], false⟩ = false := by kernel_rfl
theorem hL : Lib.join (lineL hR) [32] = [49, 32, 100, 101, 110, 121, 32, 117, 110, 108, 105, 110, 107, 32, 47, 97] := by
  have h : Lib.itoa 1 = [49] := by
    rcases itoa_shape 1 with ⟨h, _⟩ | ⟨_, e⟩
    · omega
    · rw [e, show Int.natAbs 1 = 1 from rfl, dec_small (by omega)]; rfl
  rw [show lineL hR = [Lib.itoa 1, verdP false, wordL 12, [47, 97]] from rfl, h]
  rfl
theorem dec_some {b : LB} {r : Rec} (h : decP b = some r) (A : Option Addr) (n c : Nat) (w : World) (hR : Rd w A n b) (hnc : n ≤ c) (hn : n ≤ 1000000) (hS : Std w) :
    Calls Tryd.prog 10 #[.slice A n c] w fun e w' => ∃ A' n' c', e = .returned (.tuple #[Rec.v r A' n' c', .int .i64 0]) ∧ Rd w' A' n' r.dig ∧ n' ≤ c' ∧ n' ≤ n ∧ Below w.heap.size w w' :=
  (dec_any A n c b w hR hnc hn hS).mono fun e w' hE => by rw [h] at hE; exact hE
theorem dec_none {b : LB} (h : decP b = none) (A : Option Addr) (n c : Nat) (w : World) (hR : Rd w A n b) (hnc : n ≤ c) (hn : n ≤ 1000000) (hS : Std w) :
    Calls Tryd.prog 10 #[.slice A n c] w fun e w' => ∃ A' n' c', e = .returned (.tuple #[Rec.v zR A' n' c', .int .i64 5]) ∧ Rd w' A' n' [] ∧ n' ≤ c' ∧ n' ≤ n ∧ Below w.heap.size w w' :=
  (dec_any A n c b w hR hnc hn hS).mono fun e w' hE => by rw [h] at hE; exact hE
theorem Blk.six {w : World} {g : Nat} {t : TypeId} {a b c d e f : Value} (H : Blk w g t #[a, b, c, d, e, f]) : w.cell? ⟨g, 0, none⟩ = some a ∧ w.cell? ⟨g, 1, none⟩ = some b ∧ w.cell? ⟨g, 2, none⟩ = some c ∧ w.cell? ⟨g, 3, none⟩ = some d ∧ w.cell? ⟨g, 4, none⟩ = some e ∧ w.cell? ⟨g, 5, none⟩ = some f :=
  ⟨H.cell 0, H.cell 1, H.cell 2, H.cell 3, H.cell 4, H.cell 5⟩
theorem lit_rd (W : World) : Rd (W.alloc (.cells #[.int .u8 0, .int .u8 0, .int .u8 0, .int .u8 1, .int .u8 12, .int .u8 0, .int .u8 0, .int .u8 2, .int .u8 47, .int .u8 97, .int .u8 0, .int .u8 0] 5)) (some ⟨W.heap.size, 0, none⟩) 12 hE :=
  Reads.of_own ((Blk.new W 5 #[.int .u8 0, .int .u8 0, .int .u8 0, .int .u8 1, .int .u8 12, .int .u8 0, .int .u8 0, .int .u8 2, .int .u8 47, .int .u8 97, .int .u8 0, .int .u8 0]).own (Nat.le_refl _) (cap := 12) (by unfold maxLen; omega) rfl)
theorem head_enc (w : World) (hS : Std w) : Calls Tryd.prog 8 #[.agg #[.int .i64 1, .int .i64 12, .string ⟨#[47, 97]⟩, .string ⟨#[]⟩, .slice none 0 0, .bool false]] w fun e w' => ∃ A c, e = .returned (.tuple #[.slice A 12 c, .int .i64 0]) ∧ Rd w' A 12 hE ∧ 12 ≤ c ∧ Below w.heap.size w w' :=
  (enc_yes 1 12 [47, 97] [] [] false none 0 0 rfl w hS Reads.none_ (by omega) (by omega) (by simp) (by simp) (by omega) hR_ok).mono fun e w' ⟨A, n, c, h1, h2, h3, h4, h5⟩ => by
    have h2' : Rd w' A n hE := by have h := hR_enc; unfold hR at h; rw [← h]; exact h2
    obtain rfl : n = 12 := (by have := h2'.len; exact this : 12 = n).symm
    exact ⟨A, c, h1, h2', h3, h5⟩
theorem head_bad (w : World) (hS : Std w) : Calls Tryd.prog 8 #[.agg #[.int .i64 0, .int .i64 5, .string ⟨#[]⟩, .string ⟨#[]⟩, .slice none 0 0, .bool false]] w fun e w' => e = .returned (.tuple #[.slice none 0 0, .int .i64 2]) ∧ Below w.heap.size w w' :=
  enc_no 0 5 [] [] [] false none 0 0 rfl w hS hB_no
theorem head_line (w : World) (hS : Std w) : Calls Tryd.prog 16 #[.agg #[.int .i64 1, .int .i64 12, .string ⟨#[47, 97]⟩, .string ⟨#[]⟩, .slice none 0 0, .bool false]] w fun e w' => e = .returned (.string ⟨#[49, 32, 100, 101, 110, 121, 32, 117, 110, 108, 105, 110, 107, 32, 47, 97]⟩) ∧ Below w.heap.size w w' :=
  (line_yes 1 12 [47, 97] [] [] false none 0 0 rfl w hS Reads.none_ (by omega) (by omega) (by simp) (by simp) (by omega) hR_ok).mono fun e w' ⟨h1, h2⟩ => by
    have h := hL
    unfold hR at h
    refine ⟨?_, h2⟩
    rw [h1]
    exact congrArg (fun l : LB => Ending.returned (.string ⟨l.toArray⟩)) h
theorem head_word (w : World) (hS : Std w) : Calls Tryd.prog 18 #[.int .i64 7] w fun e w' => e = .returned (.string ⟨#[115, 112, 97, 119, 110]⟩) ∧ w = w' := word_in 7 (by omega) w hS
theorem head_check (w : World) (hS : Std w) : Calls Tryd.prog 14 #[.agg #[.int .i64 1, .int .i64 12, .string ⟨#[47, 97]⟩, .string ⟨#[]⟩, .slice none 0 0, .bool false]] w fun e w' => e = .returned (.bool true) ∧ Below w.heap.size w w' :=
  (check_any 1 12 [47, 97] [] [] false none 0 0 rfl w hS).mono fun e w' ⟨h1, h2⟩ => ⟨by rw [h1]; exact congrArg (fun b => Ending.returned (.bool b)) hR_ok, h2⟩
theorem head_same (A : Option Addr) (n c : Nat) (w : World) (h : Rd w A n []) : Calls Tryd.prog 13 #[.agg #[.int .i64 1, .int .i64 12, .string ⟨#[47, 97]⟩, .string ⟨#[]⟩, .slice A n c, .bool false], .agg #[.int .i64 1, .int .i64 12, .string ⟨#[47, 97]⟩, .string ⟨#[]⟩, .slice none 0 0, .bool false]] w fun e w' => e = .returned (.bool true) ∧ Below w.heap.size w w' :=
  (rsame_any hR hR A none n c 0 0 w h Reads.none_).mono fun e w' ⟨h1, h2⟩ => ⟨by rw [h1]; exact congrArg (fun b => Ending.returned (.bool b)) ((same_iff hR hR).2 rfl), h2⟩
set_option maxRecDepth 100000 in
set_option maxHeartbeats 8000000 in
theorem heads_any (w : World) (hS : Std w) : Calls Tryd.prog 7 #[] w fun e w' => e = .returned (.bool true) ∧ Below w.heap.size w w' := by
  have hb := (Below.refl w.heap.size w).alloc (Nat.le_refl _) (.cells #[.int .i64 1, .int .i64 12, .string ⟨#[47, 97]⟩, .string ⟨#[]⟩, .slice none 0 0, .bool false] 24)
  have HB := hide hb
  have HS := hide (hS.below hb)
  have HX := hide (Blk.new w 24 #[.int .i64 1, .int .i64 12, .string ⟨#[47, 97]⟩, .string ⟨#[]⟩, .slice none 0 0, .bool false])
  have hxl := HX.out.lt
  clear hb hS
  go_enter Tryd.func7, Tryd.ntmps7
  go_wp2_with fail
  with_reducible refine (head_enc _ HS.out).mono ?_
  rintro e w1 ⟨A1, c1, rfl, hR1, hn1, hb⟩
  have HR1 := hide hR1
  replace HX := hide (HX.out.below hb HX.out.lt)
  replace HB := hide (below_more HB.out (Nat.le_refl _) hb)
  replace HS := hide (HS.out.below hb)
  have x1 := HX.out.lt
  clear hb hR1 hxl
  go_wp2_with fail
  with_reducible refine (dec_some hR_dec A1 12 c1 _ HR1.out hn1 (by omega) HS.out).mono ?_
  rintro e w2 ⟨A2, n2, c2, rfl, hR2, hn2, hn2b, hb⟩
  have hb2 := below_more hb (Nat.le_refl _) ((Below.refl w2.heap.size w2).alloc (Nat.le_refl _) (.cells #[.int .i64 1, .int .i64 12, .string ⟨#[47, 97]⟩, .string ⟨#[]⟩, .slice A2 n2 c2, .bool false] 24))
  replace HX := hide (HX.out.below hb2 HX.out.lt)
  replace HB := hide (below_more HB.out (Nat.le_refl _) hb2)
  replace HS := hide (HS.out.below hb2)
  replace HR1 := hide (rb HR1.out hb2)
  have HR2 := hide (rb hR2 ((Below.refl w2.heap.size w2).alloc (Nat.le_refl _) (.cells #[.int .i64 1, .int .i64 12, .string ⟨#[47, 97]⟩, .string ⟨#[]⟩, .slice A2 n2 c2, .bool false] 24)))
  have HY := hide (Blk.new w2 24 #[.int .i64 1, .int .i64 12, .string ⟨#[47, 97]⟩, .string ⟨#[]⟩, .slice A2 n2 c2, .bool false])
  clear hb hb2 hR2 x1
  unfold hR Rec.v
  dsimp only
  go_wp2_with fail
  with_reducible refine (dec_none nil_dec none 0 0 _ Reads.none_ (by omega) (by omega) HS.out).mono ?_
  rintro e w3 ⟨A3, n3, c3, rfl, hR3, hn3, hn3b, hb⟩
  have hb2 := below_more hb (Nat.le_refl _) ((Below.refl w3.heap.size w3).alloc (Nat.le_refl _) (.cells #[.int .i64 0, .int .i64 0, .string ⟨#[]⟩, .string ⟨#[]⟩, .slice A3 n3 c3, .bool false] 24))
  replace HX := hide (HX.out.below hb2 HX.out.lt)
  replace HB := hide (below_more HB.out (Nat.le_refl _) hb2)
  replace HS := hide (HS.out.below hb2)
  replace HR1 := hide (rb HR1.out hb2)
  replace HR2 := hide (rb HR2.out hb2)
  replace HY := hide (HY.out.below hb2 HY.out.lt)
  clear hb hb2 hR3
  unfold zR Rec.v
  dsimp only
  go_wp2_with fail
  with_reducible refine (head_bad _ HS.out).mono ?_
  rintro e w4 ⟨rfl, hb⟩
  have hb2 := below_more hb (Nat.le_refl _) ((Below.refl w4.heap.size w4).alloc (Nat.le_refl _) (.cells #[.int .u8 0, .int .u8 0, .int .u8 0, .int .u8 1, .int .u8 12, .int .u8 0, .int .u8 0, .int .u8 2, .int .u8 47, .int .u8 97, .int .u8 0, .int .u8 0] 5))
  replace HX := hide (HX.out.below hb2 HX.out.lt)
  replace HB := hide (below_more HB.out (Nat.le_refl _) hb2)
  replace HS := hide (HS.out.below hb2)
  replace HR1 := hide (rb HR1.out hb2)
  replace HR2 := hide (rb HR2.out hb2)
  replace HY := hide (HY.out.below hb2 HY.out.lt)
  have HL := hide (lit_rd w4)
  clear hb hb2
  go_wp2_with fail
  with_reducible refine (same_any A1 _ 12 12 c1 _ hE hE _ _ _ HR1.out HL.out).mono ?_
  rintro e w5 ⟨rfl, rfl⟩
  have hEE : (hE == hE) = true := by simp
  rw [hEE]
  obtain ⟨y0, y1, y2, y3, y4, y5⟩ := HY.out.six
  obtain ⟨x0, x1, x2, x3, x4, x5⟩ := HX.out.six
  have hxl := HX.out.lt
  have hyl := HY.out.lt
  go_wp2_with fail
  with_reducible refine (head_same A2 n2 c2 _ HR2.out).mono ?_
  rintro e w6 ⟨rfl, hb⟩
  replace HX := hide (HX.out.below hb HX.out.lt)
  replace HB := hide (below_more HB.out (Nat.le_refl _) hb)
  replace HS := hide (HS.out.below hb)
  clear hb x0 x1 x2 x3 x4 x5 y0 y1 y2 y3 y4 y5 hxl hyl
  obtain ⟨x0, x1, x2, x3, x4, x5⟩ := HX.out.six
  have hxl := HX.out.lt
  go_wp2_with fail
  with_reducible refine (head_line _ HS.out).mono ?_
  rintro e w7 ⟨rfl, hb⟩
  replace HX := hide (HX.out.below hb HX.out.lt)
  replace HB := hide (below_more HB.out (Nat.le_refl _) hb)
  replace HS := hide (HS.out.below hb)
  clear hb x0 x1 x2 x3 x4 x5 hxl
  obtain ⟨x0, x1, x2, x3, x4, x5⟩ := HX.out.six
  have hxl := HX.out.lt
  go_wp2_with fail
  with_reducible refine (head_word _ HS.out).mono ?_
  rintro e w8 ⟨rfl, rfl⟩
  go_wp2_with fail
  with_reducible refine (head_check _ HS.out).mono ?_
  rintro e w9 ⟨rfl, hb⟩
  replace HB := hide (below_more HB.out (Nat.le_refl _) hb)
  clear hb
  go_wp2_with fail
  go_ret
  exact ⟨rfl, HB.out⟩
end Go.Proofs.YtabbkhkkhphgdaaDoor
