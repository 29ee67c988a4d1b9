/- The law's heads. -/
import Derived.Test.YtnhfpaobocbieaaNdTx
namespace Go.Proofs.Ytnhfpaobocbieaa
open Go.RowKit
set_option linter.unusedVariables false
theorem tn_check : checkB (treeN 2) = true := by kernel_rfl
theorem tn_bad : checkB (treeN 1) = false := by kernel_rfl
theorem tn_look1 : lookP (treeN 2) 2 [120] = (1, 0) := by kernel_rfl
theorem tn_look2 : lookP (treeN 2) 1 [120] = (0, 22) := by kernel_rfl
theorem tn_look3 : lookP (treeN 2) 0 [121] = (0, 20) := by kernel_rfl
theorem tn_where : whereP (treeN 2) 1 = ([47, 97], true) := by kernel_rfl
theorem tn_parent : parentP (treeN 2) 2 = (0, [100], true) := by kernel_rfl
theorem tn_dir : dirP (treeN 2) 0 4 = 0 := by kernel_rfl
theorem tn_list : listP (treeN 2) 0 = [[97], [100], [108]] := by kernel_rfl
theorem tn_all : allP (treeN 2) = [[47], [47, 97], [47, 100], [47, 100, 47, 120], [47, 108]] := by kernel_rfl
theorem tn_new : checkB [rootV.r] = true := by kernel_rfl
def TA (g : Nat) : Value := .agg #[.slice (some ⟨g + 4, 0, none⟩) 4 4]
theorem h_look1 (g : Nat) (V : World) (h : TreeB V g 2) : Calls Try.prog 8 #[.agg #[.slice (some ⟨g + 4, 0, none⟩) 4 4], .int .i64 2, .string ⟨#[120]⟩] V fun e V' => e = .returned (.tuple #[.int .i64 1, .int .i64 0]) ∧ Below V.heap.size V V' := by
  have := look_any (some ⟨g + 4, 0, none⟩) 4 4 (treeL g 2) 2 [120] V h.fs (tree_few g 2)
  rw [treeL_nds, tn_look1] at this
  exact this
theorem h_look2 (g : Nat) (V : World) (h : TreeB V g 2) : Calls Try.prog 8 #[.agg #[.slice (some ⟨g + 4, 0, none⟩) 4 4], .int .i64 1, .string ⟨#[120]⟩] V fun e V' => e = .returned (.tuple #[.int .i64 0, .int .i64 22]) ∧ Below V.heap.size V V' := by
  have := look_any (some ⟨g + 4, 0, none⟩) 4 4 (treeL g 2) 1 [120] V h.fs (tree_few g 2)
  rw [treeL_nds, tn_look2] at this
  exact this
theorem h_look3 (g : Nat) (V : World) (h : TreeB V g 2) : Calls Try.prog 8 #[.agg #[.slice (some ⟨g + 4, 0, none⟩) 4 4], .int .i64 0, .string ⟨#[121]⟩] V fun e V' => e = .returned (.tuple #[.int .i64 0, .int .i64 20]) ∧ Below V.heap.size V V' := by
  have := look_any (some ⟨g + 4, 0, none⟩) 4 4 (treeL g 2) 0 [121] V h.fs (tree_few g 2)
  rw [treeL_nds, tn_look3] at this
  exact this
theorem h_where (g : Nat) (V : World) (h : TreeB V g 2) : Calls Try.prog 14 #[.agg #[.slice (some ⟨g + 4, 0, none⟩) 4 4], .int .i64 1] V fun e V' => e = .returned (.tuple #[.string ⟨#[47, 97]⟩, .bool true]) ∧ Below V.heap.size V V' := by
  have := where_any (some ⟨g + 4, 0, none⟩) 4 4 (treeL g 2) 1 V h.fs (tree_few g 2)
  rw [treeL_nds, tn_where] at this
  exact this
theorem h_parent (g : Nat) (V : World) (h : TreeB V g 2) : Calls Try.prog 12 #[.agg #[.slice (some ⟨g + 4, 0, none⟩) 4 4], .int .i64 2] V fun e V' => e = .returned (.tuple #[.int .i64 0, .string ⟨#[100]⟩, .bool true]) ∧ Below V.heap.size V V' := by
  have := parent_any (some ⟨g + 4, 0, none⟩) 4 4 (treeL g 2) 2 V h.fs (tree_few g 2)
  rw [treeL_nds, tn_parent] at this
  exact this
theorem h_list (g : Nat) (V : World) (h : TreeB V g 2) : Calls Try.prog 10 #[.agg #[.slice (some ⟨g + 4, 0, none⟩) 4 4], .int .i64 0] V fun e V' => ∃ A m c, e = .returned (.tuple #[.slice A m c, .int .i64 0]) ∧ Ow V.heap.size V' A m c [[97], [100], [108]] ∧ Below V.heap.size V V' := by
  have := list_any (some ⟨g + 4, 0, none⟩) 4 4 (treeL g 2) 0 V h.fs (tree_few g 2)
  unfold ListEnd at this
  rw [treeL_nds, tn_list, tn_dir] at this
  exact this
theorem h_all (g : Nat) (V : World) (h : TreeB V g 2) : Calls Try.prog 19 #[.agg #[.slice (some ⟨g + 4, 0, none⟩) 4 4]] V fun e V' => ∃ A m c, e = .returned (.slice A m c) ∧ Ow V.heap.size V' A m c [[47], [47, 97], [47, 100], [47, 100, 47, 120], [47, 108]] ∧ Below V.heap.size V V' := by
  have := all_any (some ⟨g + 4, 0, none⟩) 4 4 (treeL g 2) V h.fs (tree_few g 2)
  unfold AllEnd at this
  rw [treeL_nds, tn_all] at this
  exact this
theorem h_check (g : Nat) (V : World) (h : TreeB V g 2) : Calls Try.prog 17 #[.agg #[.slice (some ⟨g + 4, 0, none⟩) 4 4]] V fun e V' => e = .returned (.bool true) ∧ Below V.heap.size V V' := by
  have := check_any (some ⟨g + 4, 0, none⟩) 4 4 (treeL g 2) V h.fs (tree_few g 2)
  rw [treeL_nds, tn_check] at this
  exact this
theorem h_bad (g : Nat) (V : World) (h : TreeB V g 1) : Calls Try.prog 17 #[.agg #[.slice (some ⟨g + 4, 0, none⟩) 4 4]] V fun e V' => e = .returned (.bool false) ∧ Below V.heap.size V V' := by
  have := check_any (some ⟨g + 4, 0, none⟩) 4 4 (treeL g 1) V h.fs (tree_few g 1)
  rw [treeL_nds, tn_bad] at this
  exact this
theorem root_few : FewB [rootV] := by
  refine ⟨Nat.le_of_ble_eq_true rfl, fun x hx => ?_, Nat.le_of_ble_eq_true rfl⟩
  obtain rfl := List.mem_singleton.1 hx
  constructor <;> simp [rootV]
theorem h_new (L : Option Addr) (V : World) (h : FsR V V.heap.size L 1 [rootV]) : Calls Try.prog 17 #[.agg #[.slice L 1 1]] V fun e V' => e = .returned (.bool true) ∧ Below V.heap.size V V' := by
  have := check_any L 1 1 [rootV] V h root_few
  rw [show nds [rootV] = [rootV.r] from rfl, tn_new] at this
  exact this
theorem TreeB.worse {V : World} {g : Nat} (h : TreeB V g 2) : TreeB (V.setCell ⟨g + 4, 8, none⟩ (.int .i64 1)) g 1 := by
  have hf : ∀ k, k ≠ g + 4 → (V.setCell ⟨g + 4, 8, none⟩ (.int .i64 1)).heap[k]? = V.heap[k]? := fun k hk => Below.heap_setCell V ⟨g + 4, 8, none⟩ _ k hk
  obtain ⟨fr, hb⟩ := h.b
  exact ⟨(hf _ (by omega)).trans h.a, ⟨fr, (hf _ (by omega)).trans hb⟩, (hf _ (by omega)).trans h.c, h.d.set_ 8 (.int .i64 1)⟩
set_option maxRecDepth 100000 in
set_option maxHeartbeats 16000000 in
theorem heads_any (w : World) : Calls Try.prog 7 #[] w fun e w' => e = .returned (.bool true) ∧ Below w.heap.size w w' := by
  go_enter Try.func7, Try.ntmps7
  go_wp2_with fail
  refine (lawtree_any w).mono ?_
  rintro e w1 ⟨rfl, ht, hb⟩
  obtain ⟨g, hg⟩ : ∃ g, w.heap.size = g := ⟨_, rfl⟩
  rw [hg] at ht hb ⊢
  have HG := hide hg
  obtain ⟨W1, hW1⟩ : ∃ W, w1.alloc (.cells #[.slice (some ⟨g + 4, 0, none⟩) 4 4] 24) = W := ⟨_, rfl⟩
  have b1 : Below w1.heap.size w1 W1 := by rw [← hW1]; exact on_alloc _ _
  have HX : Hid (Blk W1 w1.heap.size 24 #[.slice (some ⟨g + 4, 0, none⟩) 4 4]) := hide (by rw [← hW1]; exact Blk.new w1 _ _)
  have HT := hide (ht.below b1)
  have HB : Hid (Below g w W1) := hide (hb.trans (b1.mono (by have := hb.size; omega)))
  obtain ⟨x, hx⟩ : ∃ x, w1.heap.size = x := ⟨_, rfl⟩
  rw [hx] at HX
  have k0 := one_ HX.out
  have HXX := hide hx
  clear ht hb hg b1
  have X := hide (h_look1 g W1 HT.out)
  go_wp2_with fail
  with_reducible refine X.out.mono ?_
  rintro e w2 ⟨rfl, hb⟩
  have HT := hide (HT.out.below hb)
  have HX := hide (HX.out.below hb HX.out.lt)
  have HB := hide (HB.out.trans (hb.mono (by have := HB.out.size; have := HG.out; omega)))
  clear X hb k0
  have k0 := one_ HX.out
  clear hW1 hx
  have X := hide (h_look2 g w2 HT.out)
  go_wp2_with fail
  with_reducible refine X.out.mono ?_
  rintro e w3 ⟨rfl, hb⟩
  have HT := hide (HT.out.below hb)
  have HX := hide (HX.out.below hb HX.out.lt)
  have HB := hide (HB.out.trans (hb.mono (by have := HB.out.size; have := HG.out; omega)))
  clear X hb k0
  have k0 := one_ HX.out
  have X := hide (h_look3 g w3 HT.out)
  go_wp2_with fail
  with_reducible refine X.out.mono ?_
  rintro e w4 ⟨rfl, hb⟩
  have HT := hide (HT.out.below hb)
  have HX := hide (HX.out.below hb HX.out.lt)
  have HB := hide (HB.out.trans (hb.mono (by have := HB.out.size; have := HG.out; omega)))
  clear X hb k0
  have k0 := one_ HX.out
  have X := hide (h_where g w4 HT.out)
  go_wp2_with fail
  with_reducible refine X.out.mono ?_
  rintro e w5 ⟨rfl, hb⟩
  have HT := hide (HT.out.below hb)
  have HX := hide (HX.out.below hb HX.out.lt)
  have HB := hide (HB.out.trans (hb.mono (by have := HB.out.size; have := HG.out; omega)))
  clear X hb k0
  have k0 := one_ HX.out
  have X := hide (h_parent g w5 HT.out)
  go_wp2_with fail
  with_reducible refine X.out.mono ?_
  rintro e w6 ⟨rfl, hb⟩
  have HT := hide (HT.out.below hb)
  have HX := hide (HX.out.below hb HX.out.lt)
  have HB := hide (HB.out.trans (hb.mono (by have := HB.out.size; have := HG.out; omega)))
  clear X hb k0
  have k0 := one_ HX.out
  have X := hide (h_list g w6 HT.out)
  go_wp2_with fail
  with_reducible refine X.out.mono ?_
  rintro e w7 ⟨A, m, c, rfl, ho, hb⟩
  have HSZ : g ≤ w6.heap.size := by have := HB.out.size; have := HG.out; omega
  have HT := hide (HT.out.below hb)
  have HX := hide (HX.out.below hb HX.out.lt)
  have HB := hide (HB.out.trans (hb.mono (by have := HB.out.size; have := HG.out; omega)))
  have HO : Hid (Ow g w7 A m c [[97], [100], [108]]) := hide (ho.more HSZ)
  clear X hb k0 ho HSZ
  have k0 := one_ HX.out
  go_wp2_with fail
  with_reducible refine (lawtree_any w7).mono ?_
  rintro e w8 ⟨rfl, ht, hb⟩
  have HSZ : g ≤ w7.heap.size := by have := HB.out.size; have := HG.out; omega
  have HSX := HX.out.lt
  have HT7 := hide HT.out.d.lt
  have HT := hide (HT.out.below hb)
  have HX := hide (HX.out.below hb HX.out.lt)
  have HB := hide (HB.out.trans (hb.mono HSZ))
  have HO := hide (HO.out.below hb)
  have h78 := hb.size
  obtain ⟨g2, hg2⟩ : ∃ g, w7.heap.size = g := ⟨_, rfl⟩
  rw [hg2] at ht hb HSZ HSX h78 ⊢
  have HGG : Hid (g + 5 ≤ g2) := hide (by have := HT7.out; omega)
  obtain ⟨W2, hW2⟩ : ∃ W, w8.alloc (.cells #[.slice (some ⟨g2 + 4, 0, none⟩) 4 4] 24) = W := ⟨_, rfl⟩
  have b2 : Below w8.heap.size w8 W2 := by rw [← hW2]; exact on_alloc _ _
  have HX2 : Hid (Blk W2 w8.heap.size 24 #[.slice (some ⟨g2 + 4, 0, none⟩) 4 4]) := hide (by rw [← hW2]; exact Blk.new w8 _ _)
  have HT2 := hide (ht.below b2)
  have HT := hide (HT.out.below b2)
  have HX := hide (HX.out.below b2 HX.out.lt)
  have HB := hide (HB.out.trans (b2.mono (by omega)))
  have HO := hide (HO.out.below b2)
  obtain ⟨W3, hW3⟩ : ∃ W, W2.setCell ⟨g2 + 4, 8, none⟩ (.int .i64 1) = W := ⟨_, rfl⟩
  have c1 := one_ HX2.out
  have c2 := HT2.out.d.cell 8
  have c3 := HT2.out.d.frozen 8
  have c4 := HT2.out.d.lt
  have hlt8 : g2 + 4 < w8.heap.size := ht.d.lt
  have i1 := fun W => nd_at (g2 + 4) 0 4 4 1 1 rfl (by omega) W
  have fr : ∀ {q : Nat} {t : TypeId} {cs : Array Value}, Blk W2 q t cs → q ≠ g2 + 4 → Blk W3 q t cs := fun h hq => by rw [← hW3]; exact h.far (p := ⟨g2 + 4, 8, none⟩) hq _
  have HT3 : Hid (TreeB W3 g2 1) := hide (by rw [← hW3]; exact HT2.out.worse)
  have HTT : Hid (TreeB W3 g 2) := hide (by
    have h5 := HGG.out
    obtain ⟨a, ⟨q, b⟩, c, d⟩ := HT.out
    refine ⟨fr a (by omega), ⟨q, ?_⟩, fr c (by omega), fr d (by omega)⟩
    rw [← hW3, Below.heap_setCell _ _ _ _ (show g + 2 ≠ g2 + 4 by omega)]
    exact b)
  have HX3 := hide (fr HX.out (by omega))
  have HX4 := hide (fr HX2.out (by omega))
  have HB3 : Hid (Below g w W3) := hide (by rw [← hW3]; exact HB.out.setCell (p := ⟨g2 + 4, 8, none⟩) (by show g ≤ g2 + 4; omega) _)
  have HO3 : Hid (Ow g W3 A m c [[97], [100], [108]]) := hide (by rw [← hW3]; exact own_set_blk HO.out (p := ⟨g2 + 4, 8, none⟩) HT2.out.d (by decide) _)
  clear ht hb k0 HT HX HX2 HT2 HB HO fr b2
  go_wp2_with fail
  clear i1 c1 c2 c3 c4 hW2 hW3
  obtain ⟨W4, hW4⟩ : ∃ W, W3.alloc (.cells #[Value.string ⟨#[97]⟩, .string ⟨#[100]⟩, .string ⟨#[108]⟩] 9) = W := ⟨_, rfl⟩
  have b4 : Below W3.heap.size W3 W4 := by rw [← hW4]; exact on_alloc _ _
  have hr4 : Reads W4 W4.heap.size 1 (some ⟨W3.heap.size, 0, none⟩) 3 (svs [[97], [100], [108]]) := by rw [← hW4]; exact reads_blk (Blk.new W3 _ _) rfl rfl
  have O4 := HO3.out.below b4
  have X := hide (texts_eq [[97], [100], [108]] A (some ⟨W3.heap.size, 0, none⟩) m c 3 3 W4 O4.rd hr4 (by have := O4.len; simp at this; omega))
  have HSZ : g ≤ W3.heap.size := by have := HB3.out.size; have := HG.out; omega
  have HT := hide (HTT.out.below b4)
  have HT3 := hide (HT3.out.below b4)
  have HX := hide (HX3.out.below b4 HX3.out.lt)
  have HX4 := hide (HX4.out.below b4 HX4.out.lt)
  have HB := hide (HB3.out.trans (b4.mono HSZ))
  rw [hW4]
  clear b4 hr4 O4 HTT HX3 HB3 HO3 hW4
  with_reducible refine X.out.mono ?_
  rintro e w9 ⟨rfl, hb⟩
  have HT := hide (HT.out.below hb)
  have HT3 := hide (HT3.out.below hb)
  have HX := hide (HX.out.below hb HX.out.lt)
  have HX4 := hide (HX4.out.below hb HX4.out.lt)
  have HB := hide (HB.out.trans (hb.mono (by have := HB.out.size; have := HG.out; omega)))
  clear X hb
  try clear k0 k4
  have k0 := one_ HX.out
  have k4 := one_ HX4.out
  have X := hide (h_check g w9 HT.out)
  go_wp2_with fail
  with_reducible refine X.out.mono ?_
  rintro e w10 ⟨rfl, hb⟩
  have HT := hide (HT.out.below hb)
  have HT3 := hide (HT3.out.below hb)
  have HX := hide (HX.out.below hb HX.out.lt)
  have HX4 := hide (HX4.out.below hb HX4.out.lt)
  have HB := hide (HB.out.trans (hb.mono (by have := HB.out.size; have := HG.out; omega)))
  clear X hb
  try clear k0 k4
  have k0 := one_ HX.out
  have k4 := one_ HX4.out
  have X := hide (h_bad g2 w10 HT3.out)
  go_wp2_with fail
  with_reducible refine X.out.mono ?_
  rintro e w11 ⟨rfl, hb⟩
  have HT := hide (HT.out.below hb)
  have HT3 := hide (HT3.out.below hb)
  have HX := hide (HX.out.below hb HX.out.lt)
  have HX4 := hide (HX4.out.below hb HX4.out.lt)
  have HB := hide (HB.out.trans (hb.mono (by have := HB.out.size; have := HG.out; omega)))
  clear X hb
  try clear k0 k4
  have k0 := one_ HX.out
  have k4 := one_ HX4.out
  have X := hide (new_any w11)
  go_wp2_with fail
  with_reducible refine X.out.mono ?_
  rintro e w12 ⟨rfl, hf, hb⟩
  have HT := hide (HT.out.below hb)
  have HT3 := hide (HT3.out.below hb)
  have HX := hide (HX.out.below hb HX.out.lt)
  have HX4 := hide (HX4.out.below hb HX4.out.lt)
  have HB := hide (HB.out.trans (hb.mono (by have := HB.out.size; have := HG.out; omega)))
  clear X hb
  try clear k0 k4
  have k0 := one_ HX.out
  have k4 := one_ HX4.out
  have X := hide (h_new _ w12 hf)
  clear hf
  go_wp2_with fail
  with_reducible refine X.out.mono ?_
  rintro e w13 ⟨rfl, hb⟩
  have HT := hide (HT.out.below hb)
  have HT3 := hide (HT3.out.below hb)
  have HX := hide (HX.out.below hb HX.out.lt)
  have HX4 := hide (HX4.out.below hb HX4.out.lt)
  have HB := hide (HB.out.trans (hb.mono (by have := HB.out.size; have := HG.out; omega)))
  clear X hb
  try clear k0 k4
  have k0 := one_ HX.out
  have k4 := one_ HX4.out
  have X := hide (h_all g w13 HT.out)
  go_wp2_with fail
  with_reducible refine X.out.mono ?_
  rintro e w14 ⟨A2, m2, c2, rfl, ho, hb⟩
  have HO := hide ho
  clear ho
  have HT := hide (HT.out.below hb)
  have HT3 := hide (HT3.out.below hb)
  have HX := hide (HX.out.below hb HX.out.lt)
  have HX4 := hide (HX4.out.below hb HX4.out.lt)
  have HB := hide (HB.out.trans (hb.mono (by have := HB.out.size; have := HG.out; omega)))
  clear X hb
  try clear k0 k4
  have k0 := one_ HX.out
  have k4 := one_ HX4.out
  go_wp2_with fail
  obtain ⟨W5, hW5⟩ : ∃ W, w14.alloc (.cells #[Value.string ⟨#[47]⟩, .string ⟨#[47, 97]⟩, .string ⟨#[47, 100]⟩, .string ⟨#[47, 100, 47, 120]⟩, .string ⟨#[47, 108]⟩] 9) = W := ⟨_, rfl⟩
  have b5 : Below w14.heap.size w14 W5 := by rw [← hW5]; exact on_alloc _ _
  have hr5 : Reads W5 W5.heap.size 1 (some ⟨w14.heap.size, 0, none⟩) 5 (svs [[47], [47, 97], [47, 100], [47, 100, 47, 120], [47, 108]]) := by rw [← hW5]; exact reads_blk (Blk.new w14 _ _) rfl rfl
  have O5 := HO.out.below b5
  have X := hide (texts_eq [[47], [47, 97], [47, 100], [47, 100, 47, 120], [47, 108]] A2 (some ⟨w14.heap.size, 0, none⟩) m2 c2 5 5 W5 O5.rd hr5 (by have := O5.len; simp at this; omega))
  have HT := hide (HT.out.below b5)
  have HT3 := hide (HT3.out.below b5)
  have HX := hide (HX.out.below b5 HX.out.lt)
  have HX4 := hide (HX4.out.below b5 HX4.out.lt)
  have HB := hide (HB.out.trans (b5.mono (by have := HB.out.size; have := HG.out; omega)))
  rw [hW5]
  clear hW5 b5 hr5 O5 HO
  with_reducible refine X.out.mono ?_
  rintro e w15 ⟨rfl, hb⟩
  have HT := hide (HT.out.below hb)
  have HT3 := hide (HT3.out.below hb)
  have HX := hide (HX.out.below hb HX.out.lt)
  have HX4 := hide (HX4.out.below hb HX4.out.lt)
  have HB := hide (HB.out.trans (hb.mono (by have := HB.out.size; have := HG.out; omega)))
  clear X hb
  try clear k0 k4
  have k0 := one_ HX.out
  have k4 := one_ HX4.out
  clear k0 k4
  go_wp2_with fail
  go_ret
  exact ⟨rfl, by rw [HG.out]; exact HB.out⟩
end Go.Proofs.Ytnhfpaobocbieaa
