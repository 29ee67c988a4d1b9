/- The maps of the fields of requests and of replies. -/
import Derived.Test.YtedacfjkbfgikaaPrQ
import Derived.Maps.OwnSet
namespace Go.Proofs.Ytedacfjkbfgikaa
open Go.RowKit Go.Maps
set_option linter.unusedVariables false
theorem wpList_insert_own {H : Type} {P : Program} (w : World) {ops : Array Oper} {rest : List Oper} {o : Oper} {a : Act} {Q : Exit → Act → World → Prop}
    (hg : o.guard = none) (m x v : Operand) (t : TypeId) (hop : o.op = Op.insert t m x v)
    (k e : TypeId) (K : Keyed P k) (ht : P.underlying t = some (.map k e)) (R : Value → Option (DataW H × List MemPlace)) (b n : Nat) (D : DataW H)
    (hm : a.eval m = .map (some b)) (hown : w.ownsMap P k R b n D) (hn : n < maxLen) (key val : Value) (kl : Lit) (hx : a.eval x = key) (hv : a.eval v = val) (hkey : keyOf P k key = some kl)
    (d : DataW H) (ps : List MemPlace) (hval : R val = some (d, ps))
    (hK : ∀ w', w'.ownsMap P k R b (n + 1) (D.put kl d) → w.grownBy w' (some b) → wpList P ops Q rest (a.put o.dst undef) w') :
    wpList P ops Q (o :: rest) a w := by
  refine wpList_plain hg fun K' hK' => ?_
  obtain ⟨w', hrun, r1, r2⟩ := hown.update K ht hn hkey hval
  unfold Oper.wp
  simp [execOp, hop, hm, hx, hv, hrun, Result.andThen]
  exact hK' _ _ (hK w' r1 r2)
theorem lawI : Keyed Try.prog 3 := int_keyed Try.underlying3
theorem zeroI (w : World) : (zeroValue 3).run Try.prog w = .ok (.int .i64 0) w := by kernel_rfl
/-- A map of integers, built entry by entry. -/
def mapD : List (Int × Int) → DataW Unit → DataW Unit
  | [], D => D
  | (k, v) :: l, D => mapD l (D.put (.int .i64 k) (.lit (.int .i64 v)))
def reqL : List (Int × Int) := [(1, 776), (2, 2), (3, 2), (4, 0), (5, 514), (6, 1026), (7, 232), (8, 512), (9, 8), (10, 264), (11, 8), (12, 8), (13, 520), (14, 24), (15, 512), (16, 512)]
set_option maxRecDepth 100000 in
set_option maxHeartbeats 4000000 in
theorem req_any (w : World) :
    Calls Try.prog 26 #[] w fun e w' => e = .returned (.map (some w.heap.size)) ∧ w'.ownsMap Try.prog 3 (plainElem (H := Unit) Try.prog 3) w.heap.size 16 (mapD reqL (.map [])) ∧ Below w.heap.size w w' := by
  have hmm := @run_makeMap Try.prog
  have h0 := World.ownsMap_made w Try.prog 3 (plainElem (H := Unit) Try.prog 3)
  have b0 := (Below.refl w.heap.size w).alloc (Nat.le_refl _) (.map #[] 0)
  have s0 : w.heap.size ≤ (w.alloc (.map #[] 0)).heap.size := b0.size
  go_enter Try.func26, Try.ntmps26
  go_wp2_with (refine wpList_insert_own _ rfl _ _ _ 57 rfl 3 3 lawI Try.underlying57 (plainElem (H := Unit) Try.prog 3) w.heap.size 0 _ rfl h0 (by unfold maxLen; omega) _ _ (.int .i64 1) rfl rfl (keyOf_int_mk Try.underlying3 (by decide)) _ [] (plainElem_int Try.underlying3 (by decide)) ?_)
  intro w1 h1 g1
  have b1 := b0.grown g1 s0 (fun j hj => by cases hj; exact Nat.le_refl _)
  have s1 : w.heap.size ≤ w1.heap.size := b1.size
  refine wpList_insert_own _ rfl _ _ _ 57 rfl 3 3 lawI Try.underlying57 (plainElem (H := Unit) Try.prog 3) w.heap.size 1 _ rfl h1 (by unfold maxLen; omega) _ _ (.int .i64 2) rfl rfl (keyOf_int_mk Try.underlying3 (by decide)) _ [] (plainElem_int Try.underlying3 (by decide)) ?_
  intro w2 h2 g2
  have b2 := b1.grown g2 s1 (fun j hj => by cases hj; exact Nat.le_refl _)
  have s2 : w.heap.size ≤ w2.heap.size := b2.size
  refine wpList_insert_own _ rfl _ _ _ 57 rfl 3 3 lawI Try.underlying57 (plainElem (H := Unit) Try.prog 3) w.heap.size 2 _ rfl h2 (by unfold maxLen; omega) _ _ (.int .i64 3) rfl rfl (keyOf_int_mk Try.underlying3 (by decide)) _ [] (plainElem_int Try.underlying3 (by decide)) ?_
  intro w3 h3 g3
  have b3 := b2.grown g3 s2 (fun j hj => by cases hj; exact Nat.le_refl _)
  have s3 : w.heap.size ≤ w3.heap.size := b3.size
  refine wpList_insert_own _ rfl _ _ _ 57 rfl 3 3 lawI Try.underlying57 (plainElem (H := Unit) Try.prog 3) w.heap.size 3 _ rfl h3 (by unfold maxLen; omega) _ _ (.int .i64 4) rfl rfl (keyOf_int_mk Try.underlying3 (by decide)) _ [] (plainElem_int Try.underlying3 (by decide)) ?_
  intro w4 h4 g4
  have b4 := b3.grown g4 s3 (fun j hj => by cases hj; exact Nat.le_refl _)
  have s4 : w.heap.size ≤ w4.heap.size := b4.size
  refine wpList_insert_own _ rfl _ _ _ 57 rfl 3 3 lawI Try.underlying57 (plainElem (H := Unit) Try.prog 3) w.heap.size 4 _ rfl h4 (by unfold maxLen; omega) _ _ (.int .i64 5) rfl rfl (keyOf_int_mk Try.underlying3 (by decide)) _ [] (plainElem_int Try.underlying3 (by decide)) ?_
  intro w5 h5 g5
  have b5 := b4.grown g5 s4 (fun j hj => by cases hj; exact Nat.le_refl _)
  have s5 : w.heap.size ≤ w5.heap.size := b5.size
  refine wpList_insert_own _ rfl _ _ _ 57 rfl 3 3 lawI Try.underlying57 (plainElem (H := Unit) Try.prog 3) w.heap.size 5 _ rfl h5 (by unfold maxLen; omega) _ _ (.int .i64 6) rfl rfl (keyOf_int_mk Try.underlying3 (by decide)) _ [] (plainElem_int Try.underlying3 (by decide)) ?_
  intro w6 h6 g6
  have b6 := b5.grown g6 s5 (fun j hj => by cases hj; exact Nat.le_refl _)
  have s6 : w.heap.size ≤ w6.heap.size := b6.size
  refine wpList_insert_own _ rfl _ _ _ 57 rfl 3 3 lawI Try.underlying57 (plainElem (H := Unit) Try.prog 3) w.heap.size 6 _ rfl h6 (by unfold maxLen; omega) _ _ (.int .i64 7) rfl rfl (keyOf_int_mk Try.underlying3 (by decide)) _ [] (plainElem_int Try.underlying3 (by decide)) ?_
  intro w7 h7 g7
  have b7 := b6.grown g7 s6 (fun j hj => by cases hj; exact Nat.le_refl _)
  have s7 : w.heap.size ≤ w7.heap.size := b7.size
  refine wpList_insert_own _ rfl _ _ _ 57 rfl 3 3 lawI Try.underlying57 (plainElem (H := Unit) Try.prog 3) w.heap.size 7 _ rfl h7 (by unfold maxLen; omega) _ _ (.int .i64 8) rfl rfl (keyOf_int_mk Try.underlying3 (by decide)) _ [] (plainElem_int Try.underlying3 (by decide)) ?_
  intro w8 h8 g8
  have b8 := b7.grown g8 s7 (fun j hj => by cases hj; exact Nat.le_refl _)
  have s8 : w.heap.size ≤ w8.heap.size := b8.size
  refine wpList_insert_own _ rfl _ _ _ 57 rfl 3 3 lawI Try.underlying57 (plainElem (H := Unit) Try.prog 3) w.heap.size 8 _ rfl h8 (by unfold maxLen; omega) _ _ (.int .i64 9) rfl rfl (keyOf_int_mk Try.underlying3 (by decide)) _ [] (plainElem_int Try.underlying3 (by decide)) ?_
  intro w9 h9 g9
  have b9 := b8.grown g9 s8 (fun j hj => by cases hj; exact Nat.le_refl _)
  have s9 : w.heap.size ≤ w9.heap.size := b9.size
  refine wpList_insert_own _ rfl _ _ _ 57 rfl 3 3 lawI Try.underlying57 (plainElem (H := Unit) Try.prog 3) w.heap.size 9 _ rfl h9 (by unfold maxLen; omega) _ _ (.int .i64 10) rfl rfl (keyOf_int_mk Try.underlying3 (by decide)) _ [] (plainElem_int Try.underlying3 (by decide)) ?_
  intro w10 h10 g10
  have b10 := b9.grown g10 s9 (fun j hj => by cases hj; exact Nat.le_refl _)
  have s10 : w.heap.size ≤ w10.heap.size := b10.size
  refine wpList_insert_own _ rfl _ _ _ 57 rfl 3 3 lawI Try.underlying57 (plainElem (H := Unit) Try.prog 3) w.heap.size 10 _ rfl h10 (by unfold maxLen; omega) _ _ (.int .i64 11) rfl rfl (keyOf_int_mk Try.underlying3 (by decide)) _ [] (plainElem_int Try.underlying3 (by decide)) ?_
  intro w11 h11 g11
  have b11 := b10.grown g11 s10 (fun j hj => by cases hj; exact Nat.le_refl _)
  have s11 : w.heap.size ≤ w11.heap.size := b11.size
  refine wpList_insert_own _ rfl _ _ _ 57 rfl 3 3 lawI Try.underlying57 (plainElem (H := Unit) Try.prog 3) w.heap.size 11 _ rfl h11 (by unfold maxLen; omega) _ _ (.int .i64 12) rfl rfl (keyOf_int_mk Try.underlying3 (by decide)) _ [] (plainElem_int Try.underlying3 (by decide)) ?_
  intro w12 h12 g12
  have b12 := b11.grown g12 s11 (fun j hj => by cases hj; exact Nat.le_refl _)
  have s12 : w.heap.size ≤ w12.heap.size := b12.size
  refine wpList_insert_own _ rfl _ _ _ 57 rfl 3 3 lawI Try.underlying57 (plainElem (H := Unit) Try.prog 3) w.heap.size 12 _ rfl h12 (by unfold maxLen; omega) _ _ (.int .i64 13) rfl rfl (keyOf_int_mk Try.underlying3 (by decide)) _ [] (plainElem_int Try.underlying3 (by decide)) ?_
  intro w13 h13 g13
  have b13 := b12.grown g13 s12 (fun j hj => by cases hj; exact Nat.le_refl _)
  have s13 : w.heap.size ≤ w13.heap.size := b13.size
  refine wpList_insert_own _ rfl _ _ _ 57 rfl 3 3 lawI Try.underlying57 (plainElem (H := Unit) Try.prog 3) w.heap.size 13 _ rfl h13 (by unfold maxLen; omega) _ _ (.int .i64 14) rfl rfl (keyOf_int_mk Try.underlying3 (by decide)) _ [] (plainElem_int Try.underlying3 (by decide)) ?_
  intro w14 h14 g14
  have b14 := b13.grown g14 s13 (fun j hj => by cases hj; exact Nat.le_refl _)
  have s14 : w.heap.size ≤ w14.heap.size := b14.size
  refine wpList_insert_own _ rfl _ _ _ 57 rfl 3 3 lawI Try.underlying57 (plainElem (H := Unit) Try.prog 3) w.heap.size 14 _ rfl h14 (by unfold maxLen; omega) _ _ (.int .i64 15) rfl rfl (keyOf_int_mk Try.underlying3 (by decide)) _ [] (plainElem_int Try.underlying3 (by decide)) ?_
  intro w15 h15 g15
  have b15 := b14.grown g15 s14 (fun j hj => by cases hj; exact Nat.le_refl _)
  have s15 : w.heap.size ≤ w15.heap.size := b15.size
  refine wpList_insert_own _ rfl _ _ _ 57 rfl 3 3 lawI Try.underlying57 (plainElem (H := Unit) Try.prog 3) w.heap.size 15 _ rfl h15 (by unfold maxLen; omega) _ _ (.int .i64 16) rfl rfl (keyOf_int_mk Try.underlying3 (by decide)) _ [] (plainElem_int Try.underlying3 (by decide)) ?_
  intro w16 h16 g16
  have b16 := b15.grown g16 s15 (fun j hj => by cases hj; exact Nat.le_refl _)
  have s16 : w.heap.size ≤ w16.heap.size := b16.size
  have HO : Hid (w16.ownsMap Try.prog 3 (plainElem (H := Unit) Try.prog 3) w.heap.size 16 (mapD reqL (.map []))) := hide h16
  have HB := hide b16
  clear h0 b0 s0 h1 b1 s1 h2 b2 s2 h3 b3 s3 h4 b4 s4 h5 b5 s5 h6 b6 s6 h7 b7 s7 h8 b8 s8 h9 b9 s9 h10 b10 s10 h11 b11 s11 h12 b12 s12 h13 b13 s13 h14 b14 s14 h15 b15 s15 h16 b16 s16 g1 g2 g3 g4 g5 g6 g7 g8 g9 g10 g11 g12 g13 g14 g15 g16
  go_wp2_with fail
  go_ret
  exact ⟨rfl, HO.out, HB.out⟩
def repL : List (Int × Int) := [(1, 2), (2, 0), (3, 2), (4, 6), (5, 1025), (6, 1), (7, 1), (8, 1), (9, 0), (10, 7), (11, 2048), (12, 0), (13, 0), (14, 0), (15, 0), (16, 1)]
set_option maxRecDepth 100000 in
set_option maxHeartbeats 4000000 in
theorem rep_any (w : World) :
    Calls Try.prog 73 #[] w fun e w' => e = .returned (.map (some w.heap.size)) ∧ w'.ownsMap Try.prog 3 (plainElem (H := Unit) Try.prog 3) w.heap.size 16 (mapD repL (.map [])) ∧ Below w.heap.size w w' := by
  have hmm := @run_makeMap Try.prog
  have h0 := World.ownsMap_made w Try.prog 3 (plainElem (H := Unit) Try.prog 3)
  have b0 := (Below.refl w.heap.size w).alloc (Nat.le_refl _) (.map #[] 0)
  have s0 : w.heap.size ≤ (w.alloc (.map #[] 0)).heap.size := b0.size
  go_enter Try.func73, Try.ntmps73
  go_wp2_with (refine wpList_insert_own _ rfl _ _ _ 57 rfl 3 3 lawI Try.underlying57 (plainElem (H := Unit) Try.prog 3) w.heap.size 0 _ rfl h0 (by unfold maxLen; omega) _ _ (.int .i64 1) rfl rfl (keyOf_int_mk Try.underlying3 (by decide)) _ [] (plainElem_int Try.underlying3 (by decide)) ?_)
  intro w1 h1 g1
  have b1 := b0.grown g1 s0 (fun j hj => by cases hj; exact Nat.le_refl _)
  have s1 : w.heap.size ≤ w1.heap.size := b1.size
  refine wpList_insert_own _ rfl _ _ _ 57 rfl 3 3 lawI Try.underlying57 (plainElem (H := Unit) Try.prog 3) w.heap.size 1 _ rfl h1 (by unfold maxLen; omega) _ _ (.int .i64 2) rfl rfl (keyOf_int_mk Try.underlying3 (by decide)) _ [] (plainElem_int Try.underlying3 (by decide)) ?_
  intro w2 h2 g2
  have b2 := b1.grown g2 s1 (fun j hj => by cases hj; exact Nat.le_refl _)
  have s2 : w.heap.size ≤ w2.heap.size := b2.size
  refine wpList_insert_own _ rfl _ _ _ 57 rfl 3 3 lawI Try.underlying57 (plainElem (H := Unit) Try.prog 3) w.heap.size 2 _ rfl h2 (by unfold maxLen; omega) _ _ (.int .i64 3) rfl rfl (keyOf_int_mk Try.underlying3 (by decide)) _ [] (plainElem_int Try.underlying3 (by decide)) ?_
  intro w3 h3 g3
  have b3 := b2.grown g3 s2 (fun j hj => by cases hj; exact Nat.le_refl _)
  have s3 : w.heap.size ≤ w3.heap.size := b3.size
  refine wpList_insert_own _ rfl _ _ _ 57 rfl 3 3 lawI Try.underlying57 (plainElem (H := Unit) Try.prog 3) w.heap.size 3 _ rfl h3 (by unfold maxLen; omega) _ _ (.int .i64 4) rfl rfl (keyOf_int_mk Try.underlying3 (by decide)) _ [] (plainElem_int Try.underlying3 (by decide)) ?_
  intro w4 h4 g4
  have b4 := b3.grown g4 s3 (fun j hj => by cases hj; exact Nat.le_refl _)
  have s4 : w.heap.size ≤ w4.heap.size := b4.size
  refine wpList_insert_own _ rfl _ _ _ 57 rfl 3 3 lawI Try.underlying57 (plainElem (H := Unit) Try.prog 3) w.heap.size 4 _ rfl h4 (by unfold maxLen; omega) _ _ (.int .i64 5) rfl rfl (keyOf_int_mk Try.underlying3 (by decide)) _ [] (plainElem_int Try.underlying3 (by decide)) ?_
  intro w5 h5 g5
  have b5 := b4.grown g5 s4 (fun j hj => by cases hj; exact Nat.le_refl _)
  have s5 : w.heap.size ≤ w5.heap.size := b5.size
  refine wpList_insert_own _ rfl _ _ _ 57 rfl 3 3 lawI Try.underlying57 (plainElem (H := Unit) Try.prog 3) w.heap.size 5 _ rfl h5 (by unfold maxLen; omega) _ _ (.int .i64 6) rfl rfl (keyOf_int_mk Try.underlying3 (by decide)) _ [] (plainElem_int Try.underlying3 (by decide)) ?_
  intro w6 h6 g6
  have b6 := b5.grown g6 s5 (fun j hj => by cases hj; exact Nat.le_refl _)
  have s6 : w.heap.size ≤ w6.heap.size := b6.size
  refine wpList_insert_own _ rfl _ _ _ 57 rfl 3 3 lawI Try.underlying57 (plainElem (H := Unit) Try.prog 3) w.heap.size 6 _ rfl h6 (by unfold maxLen; omega) _ _ (.int .i64 7) rfl rfl (keyOf_int_mk Try.underlying3 (by decide)) _ [] (plainElem_int Try.underlying3 (by decide)) ?_
  intro w7 h7 g7
  have b7 := b6.grown g7 s6 (fun j hj => by cases hj; exact Nat.le_refl _)
  have s7 : w.heap.size ≤ w7.heap.size := b7.size
  refine wpList_insert_own _ rfl _ _ _ 57 rfl 3 3 lawI Try.underlying57 (plainElem (H := Unit) Try.prog 3) w.heap.size 7 _ rfl h7 (by unfold maxLen; omega) _ _ (.int .i64 8) rfl rfl (keyOf_int_mk Try.underlying3 (by decide)) _ [] (plainElem_int Try.underlying3 (by decide)) ?_
  intro w8 h8 g8
  have b8 := b7.grown g8 s7 (fun j hj => by cases hj; exact Nat.le_refl _)
  have s8 : w.heap.size ≤ w8.heap.size := b8.size
  refine wpList_insert_own _ rfl _ _ _ 57 rfl 3 3 lawI Try.underlying57 (plainElem (H := Unit) Try.prog 3) w.heap.size 8 _ rfl h8 (by unfold maxLen; omega) _ _ (.int .i64 9) rfl rfl (keyOf_int_mk Try.underlying3 (by decide)) _ [] (plainElem_int Try.underlying3 (by decide)) ?_
  intro w9 h9 g9
  have b9 := b8.grown g9 s8 (fun j hj => by cases hj; exact Nat.le_refl _)
  have s9 : w.heap.size ≤ w9.heap.size := b9.size
  refine wpList_insert_own _ rfl _ _ _ 57 rfl 3 3 lawI Try.underlying57 (plainElem (H := Unit) Try.prog 3) w.heap.size 9 _ rfl h9 (by unfold maxLen; omega) _ _ (.int .i64 10) rfl rfl (keyOf_int_mk Try.underlying3 (by decide)) _ [] (plainElem_int Try.underlying3 (by decide)) ?_
  intro w10 h10 g10
  have b10 := b9.grown g10 s9 (fun j hj => by cases hj; exact Nat.le_refl _)
  have s10 : w.heap.size ≤ w10.heap.size := b10.size
  refine wpList_insert_own _ rfl _ _ _ 57 rfl 3 3 lawI Try.underlying57 (plainElem (H := Unit) Try.prog 3) w.heap.size 10 _ rfl h10 (by unfold maxLen; omega) _ _ (.int .i64 11) rfl rfl (keyOf_int_mk Try.underlying3 (by decide)) _ [] (plainElem_int Try.underlying3 (by decide)) ?_
  intro w11 h11 g11
  have b11 := b10.grown g11 s10 (fun j hj => by cases hj; exact Nat.le_refl _)
  have s11 : w.heap.size ≤ w11.heap.size := b11.size
  refine wpList_insert_own _ rfl _ _ _ 57 rfl 3 3 lawI Try.underlying57 (plainElem (H := Unit) Try.prog 3) w.heap.size 11 _ rfl h11 (by unfold maxLen; omega) _ _ (.int .i64 12) rfl rfl (keyOf_int_mk Try.underlying3 (by decide)) _ [] (plainElem_int Try.underlying3 (by decide)) ?_
  intro w12 h12 g12
  have b12 := b11.grown g12 s11 (fun j hj => by cases hj; exact Nat.le_refl _)
  have s12 : w.heap.size ≤ w12.heap.size := b12.size
  refine wpList_insert_own _ rfl _ _ _ 57 rfl 3 3 lawI Try.underlying57 (plainElem (H := Unit) Try.prog 3) w.heap.size 12 _ rfl h12 (by unfold maxLen; omega) _ _ (.int .i64 13) rfl rfl (keyOf_int_mk Try.underlying3 (by decide)) _ [] (plainElem_int Try.underlying3 (by decide)) ?_
  intro w13 h13 g13
  have b13 := b12.grown g13 s12 (fun j hj => by cases hj; exact Nat.le_refl _)
  have s13 : w.heap.size ≤ w13.heap.size := b13.size
  refine wpList_insert_own _ rfl _ _ _ 57 rfl 3 3 lawI Try.underlying57 (plainElem (H := Unit) Try.prog 3) w.heap.size 13 _ rfl h13 (by unfold maxLen; omega) _ _ (.int .i64 14) rfl rfl (keyOf_int_mk Try.underlying3 (by decide)) _ [] (plainElem_int Try.underlying3 (by decide)) ?_
  intro w14 h14 g14
  have b14 := b13.grown g14 s13 (fun j hj => by cases hj; exact Nat.le_refl _)
  have s14 : w.heap.size ≤ w14.heap.size := b14.size
  refine wpList_insert_own _ rfl _ _ _ 57 rfl 3 3 lawI Try.underlying57 (plainElem (H := Unit) Try.prog 3) w.heap.size 14 _ rfl h14 (by unfold maxLen; omega) _ _ (.int .i64 15) rfl rfl (keyOf_int_mk Try.underlying3 (by decide)) _ [] (plainElem_int Try.underlying3 (by decide)) ?_
  intro w15 h15 g15
  have b15 := b14.grown g15 s14 (fun j hj => by cases hj; exact Nat.le_refl _)
  have s15 : w.heap.size ≤ w15.heap.size := b15.size
  refine wpList_insert_own _ rfl _ _ _ 57 rfl 3 3 lawI Try.underlying57 (plainElem (H := Unit) Try.prog 3) w.heap.size 15 _ rfl h15 (by unfold maxLen; omega) _ _ (.int .i64 16) rfl rfl (keyOf_int_mk Try.underlying3 (by decide)) _ [] (plainElem_int Try.underlying3 (by decide)) ?_
  intro w16 h16 g16
  have b16 := b15.grown g16 s15 (fun j hj => by cases hj; exact Nat.le_refl _)
  have s16 : w.heap.size ≤ w16.heap.size := b16.size
  have HO : Hid (w16.ownsMap Try.prog 3 (plainElem (H := Unit) Try.prog 3) w.heap.size 16 (mapD repL (.map []))) := hide h16
  have HB := hide b16
  clear h0 b0 s0 h1 b1 s1 h2 b2 s2 h3 b3 s3 h4 b4 s4 h5 b5 s5 h6 b6 s6 h7 b7 s7 h8 b8 s8 h9 b9 s9 h10 b10 s10 h11 b11 s11 h12 b12 s12 h13 b13 s13 h14 b14 s14 h15 b15 s15 h16 b16 s16 g1 g2 g3 g4 g5 g6 g7 g8 g9 g10 g11 g12 g13 g14 g15 g16
  go_wp2_with fail
  go_ret
  exact ⟨rfl, HO.out, HB.out⟩
end Go.Proofs.Ytedacfjkbfgikaa
