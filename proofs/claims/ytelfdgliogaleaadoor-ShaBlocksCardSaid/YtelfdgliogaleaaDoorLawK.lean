/- The law ShaBlocks. -/
import Derived.Test.YtelfdgliogaleaaDoorRefW
import Derived.Test.YtelfdgliogaleaaDoorRefB
namespace Go.Proofs.YtelfdgliogaleaaDoor
open Go.RowKit
set_option linter.unusedVariables false
theorem below_drewN {B : Nat} {a w : World} (h : Below B a w) (n : Nat) : Below B a (w.drewN n) := ⟨h.os, h.tape, h.output, h.size, h.block⟩
theorem own_caps39 {w : World} {base : Nat} {A : Option Addr} {n m c : Nat} {xs : List Value} (h : w.ownsRow base 39 1 (.slice A m c) n xs) : n ≤ c := by
  rcases h.2 with ⟨h, h0⟩ | ⟨g, cap, cur, h, _, _, hc, _⟩
  · injection h; omega
  · injection h; omega
theorem reads_blk {w : World} {g t : Nat} {ws : List Nat} (h : Blk w g t (wv ws).toArray) (hl : ws.length = 8) : Reads w w.heap.size 1 (some ⟨g, 0, none⟩) 8 (wv ws) := by
  refine ⟨by simp [hl], fun _ => ⟨_, rfl, h.lt, fun j u hu => ?_⟩⟩
  rw [at_add, Nat.zero_add, h.cell j, ← hu]
  simp
set_option maxRecDepth 10000 in
set_option maxHeartbeats 4000000 in
theorem blocks_yes (A B : Option Addr) (c d : Nat) (xs : List Nat) (b : List UInt8) (w : World) (ha : Reads w w.heap.size 1 A 8 (wv xs)) (hxs : ∀ x ∈ xs, x < 4294967296) (hb : Rd w B 64 b) (hd : 64 ≤ d) (hT : Tabs w) :
    Calls Tryd.prog 4 #[.slice A 8 c, .slice B 64 d] w fun e w' => e = .returned (.bool true) ∧ Below w.heap.size w w' := by
  obtain ⟨i0, hi, hz0, hz1, hz2⟩ := info_parts info39
  have HT := hide hT
  have HA := hide ha
  have HB := hide hb
  have hE : Hid ((w.alloc (.cells #[] 39)).ownsRow w.heap.size 39 1 (.slice (some ⟨w.heap.size, 0, none⟩) 0 0) 0 []) :=
    hide ⟨rfl, .inr ⟨w.heap.size, 0, #[], rfl, Nat.le_refl _, Blk.new _ _ _, Nat.le_refl _, Nat.zero_le _, rfl, by simp⟩⟩
  have hra := hide (Reads.alloc (o := .cells #[] 39) ha (Nat.le_refl _))
  clear hT ha hb
  go_enter Tryd.func4, Tryd.ntmps4
  go_wp2_with (at_builtin; (refine wpList_append_any _ rfl (.tmp 10) (.tmp 11) 27 rfl w.heap.size 39 i0 _ 1 4 Tryd.underlying27 hi hz0 hz1 hz2 rfl (by omega) (.slice (some ⟨w.heap.size, 0, none⟩) 0 0) 0 [] rfl hE.out w.heap.size A 8 c (wv xs) rfl hra.out (wv_one _) (by unfold maxLen; omega) (by omega) (by simp) ?_))
  intro v2 w2 ho2 hg2 hat2
  have hbb2 : Below w.heap.size w w2 := (bl_alloc w (.cells #[] 39)).grown hg2 (by simp) (fun g hg => by simp [Value.ownBlock] at hg; omega)
  obtain ⟨A2, c2, rfl⟩ := own_slice ho2
  have HB2 := hide hbb2
  have hcap2 := own_caps39 ho2
  have HO2 : Hid (w2.ownsRow w.heap.size 39 1 (.slice A2 8 c2) 8 (wv xs)) := hide (by simpa using ho2)
  have HT2 := hide (HT.out.below hbb2)
  clear ho2 hg2 hat2 hbb2 hE hra
  go_wp2_with fail
  have hxl : xs.length = 8 := by have := HA.out.1; simpa using this
  have hsl := St.of_list hxl
  have hsok : (St.of xs).ok := by unfold St.ok; rw [hsl]; exact hxs
  have HSL := hide hsl
  have HSOK := hide hsok
  clear hxl hsl hsok
  refine (block_yes A2 B c2 d xs b _ (Reads.of_own HO2.out) hxs (HB.out.below HB2.out |>.more HB2.out.size) hcap2 hd HT2.out.2.1 HT2.out.2.2).mono ?_
  rintro e w3 ⟨v3, rfl, g3, rfl, hg3, hs3, hb3⟩
  obtain ⟨S, hS⟩ : ∃ S, comp (St.of xs) b = S := ⟨_, rfl⟩
  rw [hS] at hs3
  have HS3 := hide hs3
  have HO3 := hide (own_below HO2.out hb3)
  have HB3 := hide (below_more HB2.out (Nat.le_refl _) hb3)
  have HSE := hide hS
  clear hs3 hb3 hS
  go_wp2_with fail
  refine (rblock_yes A B c d (St.of xs) b _ (by rw [HSL.out]; exact HA.out.below HB3.out |>.more HB3.out.size) HSOK.out (HB.out.below HB3.out |>.more HB3.out.size) hd).mono ?_
  rintro e w4 ⟨g4, c4, rfl, hg4, hs4, hb4⟩
  rw [HSE.out] at hs4
  have HR4 := hide (reads_blk hs4 rfl)
  have HR3 := hide (reads_blk (HS3.out.below hb4 HS3.out.lt) rfl)
  have HO4 := hide (own_below HO3.out hb4)
  have HB4 := hide (below_more HB3.out (Nat.le_refl _) hb4)
  clear hs4 hb4
  go_wp2_with fail
  refine (words_any (some ⟨g3, 0, none⟩) (some ⟨g4, 0, none⟩) 8 8 8 c4 _ _ S.list S.list _ HR3.out HR4.out (by unfold maxLen; omega)).mono ?_
  rintro e w5 ⟨rfl, k5, hk5⟩
  have HB5 : Hid (Below w.heap.size w w5) := hide (by rw [hk5]; exact below_drewN HB4.out k5)
  have HO5 : Hid (w5.ownsRow w.heap.size 39 1 (.slice A2 8 c2) 8 (wv xs)) := hide (by rw [hk5]; exact HO4.out)
  clear hk5
  rw [show (S.list == S.list) = true from beq_self_eq_true S.list]
  go_wp2_with fail
  refine (words_any A2 A 8 8 c2 c _ _ xs xs _ (Reads.of_own HO5.out) (HA.out.below HB5.out) (by unfold maxLen; omega)).mono ?_
  rintro e w6 ⟨rfl, k6, hk6⟩
  have HB6 : Hid (Below w.heap.size w w6) := hide (by rw [hk6]; exact below_drewN HB5.out k6)
  clear hk6
  rw [show (xs == xs) = true from beq_self_eq_true xs]
  go_wp2_with fail
  refine (start_any _ (HT.out.below HB6.out).1 (HT.out.below HB6.out).2.2).mono ?_
  rintro e w7 ⟨v7, rfl, g7, rfl, hg7, hs7, hb7⟩
  have HS7 := hide hs7
  have HB7 := hide (below_more HB6.out (Nat.le_refl _) hb7)
  clear hs7 hb7
  go_wp2_with fail
  refine (rstart_any _).mono ?_
  rintro e w8 ⟨rfl, rfl⟩
  have HR7 := hide (reads_blk (HS7.out.alloc (.cells (wv firstS.list).toArray 39)) rfl)
  have HR8 := hide (reads_blk (Blk.new w7 39 (wv firstS.list).toArray) rfl)
  have HB8 := hide (HB7.out.alloc HB7.out.size (.cells (wv firstS.list).toArray 39))
  go_wp2_with fail
  refine (words_any (some ⟨g7, 0, none⟩) (some ⟨w7.heap.size, 0, none⟩) 8 8 8 8 _ _ firstS.list firstS.list _ HR7.out HR8.out (by unfold maxLen; omega)).mono ?_
  rintro e w9 ⟨rfl, k9, hk9⟩
  have HB9 : Hid (Below w.heap.size w w9) := hide (by rw [hk9]; exact below_drewN HB8.out k9)
  clear hk9
  rw [show (firstS.list == firstS.list) = true from beq_self_eq_true firstS.list]
  go_wp2_with fail
  refine (heads_any _ (HT.out.below HB9.out)).mono ?_
  rintro e w10 ⟨rfl, h10⟩
  have HB10 := hide (below_more HB9.out (Nat.le_refl _) h10)
  clear h10
  go_wp2_with fail
  go_ret
  exact ⟨rfl, HB10.out⟩
set_option maxRecDepth 10000 in
set_option maxHeartbeats 4000000 in
theorem blocks_no (A B : Option Addr) (n c m d : Nat) (xs : List Nat) (b : List UInt8) (w : World) (ha : Reads w w.heap.size 1 A n (wv xs)) (hxs : ∀ x ∈ xs, x < 4294967296) (hn4 : n * 4 ≤ 140737488351232) (hb : Rd w B m b) (hd : m ≤ d) (hT : Tabs w) (hno : n ≠ 8 ∨ m ≠ 64) :
    Calls Tryd.prog 4 #[.slice A n c, .slice B m d] w fun e w' => e = .returned (.bool true) ∧ Below w.heap.size w w' := by
  obtain ⟨i0, hi, hz0, hz1, hz2⟩ := info_parts info39
  have HT := hide hT
  have HA := hide ha
  have HB := hide hb
  have hE : Hid ((w.alloc (.cells #[] 39)).ownsRow w.heap.size 39 1 (.slice (some ⟨w.heap.size, 0, none⟩) 0 0) 0 []) :=
    hide ⟨rfl, .inr ⟨w.heap.size, 0, #[], rfl, Nat.le_refl _, Blk.new _ _ _, Nat.le_refl _, Nat.zero_le _, rfl, by simp⟩⟩
  have hra := hide (Reads.alloc (o := .cells #[] 39) ha (Nat.le_refl _))
  clear hT ha hb
  go_enter Tryd.func4, Tryd.ntmps4
  go_wp2_with (at_builtin; (refine wpList_append_any _ rfl (.tmp 10) (.tmp 11) 27 rfl w.heap.size 39 i0 _ 1 4 Tryd.underlying27 hi hz0 hz1 hz2 rfl (by omega) (.slice (some ⟨w.heap.size, 0, none⟩) 0 0) 0 [] rfl hE.out w.heap.size A n c (wv xs) rfl hra.out (wv_one _) (by unfold maxLen; omega) (by omega) (by simp) ?_))
  intro v2 w2 ho2 hg2 hat2
  have hbb2 : Below w.heap.size w w2 := (bl_alloc w (.cells #[] 39)).grown hg2 (by simp) (fun g hg => by simp [Value.ownBlock] at hg; omega)
  obtain ⟨A2, c2, rfl⟩ := own_slice ho2
  have HB2 := hide hbb2
  have hcap2 := own_caps39 ho2
  have HO2 : Hid (w2.ownsRow w.heap.size 39 1 (.slice A2 n c2) n (wv xs)) := hide (by simpa using ho2)
  have HT2 := hide (HT.out.below hbb2)
  clear ho2 hg2 hat2 hbb2 hE hra
  go_wp2_with fail
  refine (block_no A2 B n c2 m d _ hno).mono ?_
  rintro e w3 ⟨rfl, rfl⟩
  go_wp2_with fail
  refine (rblock_no A B n c m d _ hno).mono ?_
  rintro e w3 ⟨rfl, rfl⟩
  have HB4 := HB2
  have HO4 := HO2
  go_wp2_with fail
  refine (words_any none none 0 0 0 0 0 0 [] [] _ Reads.none_ Reads.none_ (by unfold maxLen; omega)).mono ?_
  rintro e w5 ⟨rfl, k5, hk5⟩
  have HB5 : Hid (Below w.heap.size w w5) := hide (by rw [hk5]; exact below_drewN HB4.out k5)
  have HO5 : Hid (w5.ownsRow w.heap.size 39 1 (.slice A2 n c2) n (wv xs)) := hide (by rw [hk5]; exact HO4.out)
  clear hk5
  rw [show (([] : List Nat) == []) = true from rfl]
  go_wp2_with fail
  refine (words_any A2 A n n c2 c _ _ xs xs _ (Reads.of_own HO5.out) (HA.out.below HB5.out) (by unfold maxLen; omega)).mono ?_
  rintro e w6 ⟨rfl, k6, hk6⟩
  have HB6 : Hid (Below w.heap.size w w6) := hide (by rw [hk6]; exact below_drewN HB5.out k6)
  clear hk6
  rw [show (xs == xs) = true from beq_self_eq_true xs]
  go_wp2_with fail
  refine (start_any _ (HT.out.below HB6.out).1 (HT.out.below HB6.out).2.2).mono ?_
  rintro e w7 ⟨v7, rfl, g7, rfl, hg7, hs7, hb7⟩
  have HS7 := hide hs7
  have HB7 := hide (below_more HB6.out (Nat.le_refl _) hb7)
  clear hs7 hb7
  go_wp2_with fail
  refine (rstart_any _).mono ?_
  rintro e w8 ⟨rfl, rfl⟩
  have HR7 := hide (reads_blk (HS7.out.alloc (.cells (wv firstS.list).toArray 39)) rfl)
  have HR8 := hide (reads_blk (Blk.new w7 39 (wv firstS.list).toArray) rfl)
  have HB8 := hide (HB7.out.alloc HB7.out.size (.cells (wv firstS.list).toArray 39))
  go_wp2_with fail
  refine (words_any (some ⟨g7, 0, none⟩) (some ⟨w7.heap.size, 0, none⟩) 8 8 8 8 _ _ firstS.list firstS.list _ HR7.out HR8.out (by unfold maxLen; omega)).mono ?_
  rintro e w9 ⟨rfl, k9, hk9⟩
  have HB9 : Hid (Below w.heap.size w w9) := hide (by rw [hk9]; exact below_drewN HB8.out k9)
  clear hk9
  rw [show (firstS.list == firstS.list) = true from beq_self_eq_true firstS.list]
  go_wp2_with fail
  refine (heads_any _ (HT.out.below HB9.out)).mono ?_
  rintro e w10 ⟨rfl, h10⟩
  have HB10 := hide (below_more HB9.out (Nat.le_refl _) h10)
  clear h10
  go_wp2_with fail
  go_ret
  exact ⟨rfl, HB10.out⟩
theorem blocks_law (A B : Option Addr) (n c m d : Nat) (xs : List Nat) (b : List UInt8) (w : World) (ha : Reads w w.heap.size 1 A n (wv xs)) (hxs : ∀ x ∈ xs, x < 4294967296) (hn4 : n * 4 ≤ 140737488351232) (hb : Rd w B m b) (hd : m ≤ d) (hT : Tabs w) :
    Calls Tryd.prog 4 #[.slice A n c, .slice B m d] w fun e w' => e = .returned (.bool true) ∧ Below w.heap.size w w' := by
  by_cases h : n = 8 ∧ m = 64
  · obtain ⟨rfl, rfl⟩ := h
    exact blocks_yes A B c d xs b w ha hxs hb hd hT
  · exact blocks_no A B n c m d xs b w ha hxs hn4 hb hd hT (by omega)
end Go.Proofs.YtelfdgliogaleaaDoor
