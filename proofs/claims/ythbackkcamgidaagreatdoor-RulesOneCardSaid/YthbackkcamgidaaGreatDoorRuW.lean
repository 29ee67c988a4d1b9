/- record.Word, proto.Governed, governed. -/
import Derived.Test.YthbackkcamgidaaGreatDoorRuE
import Derived.Lib.AppendIntMem
namespace Go.Proofs.YthbackkcamgidaaGreatDoor
open Go.RowKit
set_option linter.unusedVariables false
def ivs (l : List Int) : List Value := l.map fun x => .int .i64 x
theorem ivs_length (l : List Int) : (ivs l).length = l.length := by simp [ivs]
theorem ivs_get (l : List Int) (j : Nat) (h : j < l.length) : (ivs l)[j]? = some (.int .i64 l[j]) := by simp [ivs, h]
theorem ivs_one (l : List Int) : ∀ u ∈ ivs l, u.oneCell' = true := by
  intro u hu
  simp only [ivs, List.mem_map] at hu
  obtain ⟨b, _, rfl⟩ := hu
  rfl
theorem ivs_append (a b : List Int) : ivs (a ++ b) = ivs a ++ ivs b := by simp [ivs]
theorem ivs_drop (l : List Int) (k : Nat) : ivs (l.drop k) = (ivs l).drop k := by simp [ivs, List.map_drop]
theorem one_int (W : World) (x : Int) : Reads (W.alloc (.cells #[.int .i64 x] 3)) (W.heap.size + 1) 1 (some ⟨W.heap.size, 0, none⟩) 1 (ivs [x]) := by
  refine ⟨rfl, fun _ => ⟨_, rfl, by simp, ?_⟩⟩
  intro j u hu
  match j with
  | 0 =>
    simp only [ivs, List.map_cons, List.map_nil, List.getElem?_cons_zero, Option.some.injEq] at hu
    subst hu
    rw [add_zero_]
    exact (Blk.new W 3 #[.int .i64 x]).cell 0
  | j + 1 => simp [ivs] at hu
theorem infoInt : (Tryz.prog.info? 3).map (fun i => (i.zero, i.size, i.bytes)) = some (some (.int .i64 0), 1, 8) := by kernel_rfl
theorem sizeInt : (Tryz.prog.info? 3).map (·.size) = some 1 := by kernel_rfl
/-- What is laid for rules. -/
structure StdR (w : World) : Prop where
  std : Std w
  et : w.cell? ⟨1, 0, none⟩ = some (.iface 122 (.agg #[.pointer (some ⟨5, 60, none⟩)]))
  wds : ∀ j : Nat, j < 15 → w.cell? ⟨0, j, none⟩ = some (.string ⟨(wordO (j : Int)).toArray⟩)
theorem StdR.below {w w' : World} (h : StdR w) (hb : Below w.heap.size w w') : StdR w' := by
  have h1 := World.block_lt_of_cell? w ⟨1, 0, none⟩ h.et
  have h2 := World.block_lt_of_cell? w ⟨0, 0, none⟩ (h.wds 0 (by omega))
  exact ⟨h.std.below hb, (hb.cell h1).trans h.et, fun j hj => (hb.cell (p := ⟨0, j, none⟩) h2).trans (h.wds j hj)⟩
theorem word_ix (x : Nat) (hx : x < 15) (W : World) : (Instr.indexAt 77 (.pointer (some ⟨0, 0, none⟩)) (.int .i64 (x : Int))).run Tryz.prog W = .ok (.pointer (some ⟨0, x, none⟩)) W := by
  rcases (by omega : x = 0 ∨ x = 1 ∨ x = 2 ∨ x = 3 ∨ x = 4 ∨ x = 5 ∨ x = 6 ∨ x = 7 ∨ x = 8 ∨ x = 9 ∨ x = 10 ∨ x = 11 ∨ x = 12 ∨ x = 13 ∨ x = 14) with rfl | rfl | rfl | rfl | rfl | rfl | rfl | rfl | rfl | rfl | rfl | rfl | rfl | rfl | rfl <;> kernel_rfl
set_option maxHeartbeats 4000000 in
theorem word_in (x : Nat) (hx : x < 15) (w : World) (h : StdR w) :
    Calls Tryz.prog 28 #[.int .i64 (x : Int)] w fun e w' => e = .returned (.string ⟨(wordO (x : Int)).toArray⟩) ∧ w = w' := by
  have hc := h.wds x hx
  have hix := word_ix x hx
  generalize wordO (x : Int) = L at *
  go_enter Tryz.func28, Tryz.ntmps28
  go_wp2_with fail
  go_ret
  exact ⟨rfl, rfl⟩
set_option maxHeartbeats 4000000 in
theorem word_out (op : Int) (ho : op < 0 ∨ 15 ≤ op) (w : World) :
    Calls Tryz.prog 28 #[.int .i64 op] w fun e w' => e = .returned (.string ⟨([] : LB).toArray⟩) ∧ w = w' := by
  rcases ho with h | h
  · go_enter Tryz.func28, Tryz.ntmps28
    go_wp2_with fail
    go_ret
    exact ⟨rfl, rfl⟩
  · have h0 : ¬ op < 0 := by omega
    go_enter Tryz.func28, Tryz.ntmps28
    go_wp2_with fail
    go_ret
    exact ⟨rfl, rfl⟩
theorem word_any (op : Int) (w : World) (h : StdR w) :
    Calls Tryz.prog 28 #[.int .i64 op] w fun e w' => e = .returned (.string ⟨(wordO op).toArray⟩) ∧ w = w' := by
  rcases (by omega : (op < 0 ∨ 15 ≤ op) ∨ (0 ≤ op ∧ op < 15)) with h1 | ⟨h1, h2⟩
  · have e : wordO op = [] := by
      unfold wordO
      repeat rw [if_neg (by omega)]
    rw [e]
    exact word_out op h1 w
  · obtain ⟨x, rfl⟩ : ∃ x : Nat, op = (x : Int) := ⟨op.toNat, by omega⟩
    exact word_in x (by omega) w h
def govU (op : Int) : Bool := GO.contains op
set_option maxHeartbeats 4000000 in
theorem gov_any (op : Int) (w : World) : Calls Tryz.prog 47 #[.int .i64 op] w fun e w' => e = .returned (.bool (govU op)) ∧ w = w' := by
  by_cases h1 : op = 1
  · subst h1
    show Calls _ _ _ _ fun e w' => e = .returned (.bool true) ∧ w = w'
    go_enter Tryz.func47, Tryz.ntmps47
    go_wp2_with fail
    go_ret
    exact ⟨rfl, rfl⟩
  have k1 : (op == 1) = false := beq_eq_false_iff_ne.2 h1
  by_cases h6 : op = 6
  · subst h6
    show Calls _ _ _ _ fun e w' => e = .returned (.bool true) ∧ w = w'
    go_enter Tryz.func47, Tryz.ntmps47
    go_wp2_with fail
    go_ret
    exact ⟨rfl, rfl⟩
  have k6 : (op == 6) = false := beq_eq_false_iff_ne.2 h6
  by_cases h7 : op = 7
  · subst h7
    show Calls _ _ _ _ fun e w' => e = .returned (.bool true) ∧ w = w'
    go_enter Tryz.func47, Tryz.ntmps47
    go_wp2_with fail
    go_ret
    exact ⟨rfl, rfl⟩
  have k7 : (op == 7) = false := beq_eq_false_iff_ne.2 h7
  by_cases h9 : op = 9
  · subst h9
    show Calls _ _ _ _ fun e w' => e = .returned (.bool true) ∧ w = w'
    go_enter Tryz.func47, Tryz.ntmps47
    go_wp2_with fail
    go_ret
    exact ⟨rfl, rfl⟩
  have k9 : (op == 9) = false := beq_eq_false_iff_ne.2 h9
  by_cases h10 : op = 10
  · subst h10
    show Calls _ _ _ _ fun e w' => e = .returned (.bool true) ∧ w = w'
    go_enter Tryz.func47, Tryz.ntmps47
    go_wp2_with fail
    go_ret
    exact ⟨rfl, rfl⟩
  have k10 : (op == 10) = false := beq_eq_false_iff_ne.2 h10
  by_cases h11 : op = 11
  · subst h11
    show Calls _ _ _ _ fun e w' => e = .returned (.bool true) ∧ w = w'
    go_enter Tryz.func47, Tryz.ntmps47
    go_wp2_with fail
    go_ret
    exact ⟨rfl, rfl⟩
  have k11 : (op == 11) = false := beq_eq_false_iff_ne.2 h11
  by_cases h12 : op = 12
  · subst h12
    show Calls _ _ _ _ fun e w' => e = .returned (.bool true) ∧ w = w'
    go_enter Tryz.func47, Tryz.ntmps47
    go_wp2_with fail
    go_ret
    exact ⟨rfl, rfl⟩
  have k12 : (op == 12) = false := beq_eq_false_iff_ne.2 h12
  by_cases h13 : op = 13
  · subst h13
    show Calls _ _ _ _ fun e w' => e = .returned (.bool true) ∧ w = w'
    go_enter Tryz.func47, Tryz.ntmps47
    go_wp2_with fail
    go_ret
    exact ⟨rfl, rfl⟩
  have k13 : (op == 13) = false := beq_eq_false_iff_ne.2 h13
  by_cases h14 : op = 14
  · subst h14
    show Calls _ _ _ _ fun e w' => e = .returned (.bool true) ∧ w = w'
    go_enter Tryz.func47, Tryz.ntmps47
    go_wp2_with fail
    go_ret
    exact ⟨rfl, rfl⟩
  have k14 : (op == 14) = false := beq_eq_false_iff_ne.2 h14
  have hg : govU op = false := by
    unfold govU GO
    simp [h1, h6, h7, h9, h10, h11, h12, h13, h14]
  rw [hg]
  clear hg h1 h6 h7 h9 h10 h11 h12 h13 h14
  go_enter Tryz.func47, Tryz.ntmps47
  go_wp2_with fail
  go_ret
  exact ⟨rfl, rfl⟩
theorem gov_step (k : Nat) (h1 : 1 ≤ k) (h2 : k ≤ 16) : GO.filter (fun o => decide (o < ((k + 1 : Nat) : Int))) = GO.filter (fun o => decide (o < (k : Int))) ++ (if govU (k : Int) = true then [(k : Int)] else []) := by
  rcases (by omega : k = 1 ∨ k = 2 ∨ k = 3 ∨ k = 4 ∨ k = 5 ∨ k = 6 ∨ k = 7 ∨ k = 8 ∨ k = 9 ∨ k = 10 ∨ k = 11 ∨ k = 12 ∨ k = 13 ∨ k = 14 ∨ k = 15 ∨ k = 16) with rfl | rfl | rfl | rfl | rfl | rfl | rfl | rfl | rfl | rfl | rfl | rfl | rfl | rfl | rfl | rfl <;> decide
theorem filt_le (k : Int) : (GO.filter (fun o => decide (o < k))).length ≤ 9 := List.length_filter_le _ _
set_option maxRecDepth 100000 in
set_option maxHeartbeats 4000000 in
theorem governed_any (w : World) : Calls Tryz.prog 24 #[] w fun e w' => ∃ A c, e = .returned (.slice A 9 c) ∧ w'.ownsRow w.heap.size 3 1 (.slice A 9 c) 9 (ivs GO) ∧ Below w.heap.size w w' := by
  obtain ⟨i0, hi, hz0, hz1, hz2⟩ := info_parts infoInt
  have X := hide gov_any
  go_enter Tryz.func24, Tryz.ntmps24
  go_wp2_with fail
  go_loopw [1, 2] (fun u1 u2 wx => ∃ (k : Nat) (l : List Int), 1 ≤ k ∧ k ≤ 17 ∧ u2 = .int .i64 k ∧ Hid (l = GO.filter (fun o => decide (o < (k : Int)))) ∧ wx.ownsRow w.heap.size 3 1 u1 l.length (ivs l) ∧ Hid (Below w.heap.size w wx)) (fun _ u2 _ => 17 - (intOf u2).toNat)
  case atStart => exact ⟨1, [], by omega, by omega, rfl, hide (by decide), World.ownsRow_nil _ _ _ _, hide (Below.refl _ _)⟩
  case round =>
    obtain ⟨k, l, hk1, hk2, rfl, HL, hown, HB⟩ := hrel
    by_cases hlt : k ≤ 16
    · have hlt' : (k : Int) ≤ 16 := by omega
      have hll : l.length ≤ 9 := by rw [HL.out]; exact filt_le _
      have HS := hide (gov_step k hk1 hlt)
      have kw : IntKind.i64.wrap ((k : Int) + 1) = (k : Int) + 1 := by simp [IntKind.wrap, IntKind.bits, IntKind.signed]; omega
      have XK := hide (X.out (k : Int))
      cases hg : govU (k : Int) with
      | false =>
        rw [hg] at XK
        have HL2 : Hid (l = GO.filter (fun o => decide (o < ((k + 1 : Nat) : Int)))) := hide (by rw [HS.out, hg, ← HL.out]; simp)
        clear hg HS
        go_wp2_with fail
        refine (XK.out _).mono ?_
        rintro e w1 ⟨rfl, rfl⟩
        go_wp2_with fail
        go_roundw
        case rel => exact ⟨k + 1, l, by omega, by omega, by go_num, HL2, hown, HB⟩
        case measure => simp [intOf]; omega
      | true =>
        rw [hg] at XK
        have HL2 : Hid (l ++ [(k : Int)] = GO.filter (fun o => decide (o < ((k + 1 : Nat) : Int)))) := hide (by rw [HS.out, hg, ← HL.out]; simp)
        clear hg HS
        go_wp2_with fail
        refine (XK.out _).mono ?_
        rintro e w1 ⟨rfl, rfl⟩
        have hsz := HB.out.size
        go_wp2_with (refine wpList_append_any _ rfl (.tmp 9) (.tmp 11) 29 rfl w.heap.size 3 i0 (.int .i64 0) 1 8 Tryz.underlying29 hi hz0 hz1 hz2 rfl (by decide) _ _ _ rfl (hown.alloc _) _ _ 1 1 (ivs [(k : Int)]) rfl (one_int _ _) (ivs_one _) ?c1 ?c2 ?c3 ?_)
        case c1 => unfold maxLen; omega
        case c2 => omega
        case c3 => simp; omega
        intro v' w2 hown2 hgr _
        have HB2 : Hid (Below w.heap.size w w2) := hide (Below.grown (h := HB.out.alloc hsz _) (hg := hgr) (by simp; omega) (fun g hg => by have := (World.ownsRow.lt hown g hg).1; omega))
        clear hgr
        go_wp2_with fail
        go_roundw
        case rel => exact ⟨k + 1, l ++ [(k : Int)], by omega, by omega, by go_num, HL2, by rw [ivs_append, List.length_append]; exact hown2, HB2⟩
        case measure => simp [intOf]; omega
    · obtain rfl : k = 17 := by omega
      have hl : l = GO := by rw [HL.out]; decide
      subst hl
      obtain ⟨A, c, rfl⟩ := own_slice hown
      go_wp2_with fail
      go_ret
      exact ⟨A, c, rfl, hown, HB.out⟩
end Go.Proofs.YthbackkcamgidaaGreatDoor
