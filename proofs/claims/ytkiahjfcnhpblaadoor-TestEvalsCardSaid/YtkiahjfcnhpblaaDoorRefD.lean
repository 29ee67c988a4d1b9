/- The reference's contracts of layer 31: Paths. -/
import Derived.Test.YtkiahjfcnhpblaaDoorRefC
namespace Go.Proofs.YtkiahjfcnhpblaaDoor
open Go.RowKit
open Go.Maps
set_option linter.unusedVariables false
def pE : List Bs → List Bs
  | [x, y] => if asksB x = true then [y] else []
  | _ => []
def pS3 : List Bs → List Bs
  | [x, y, z] => if x = [33] ∧ isOp y = false then pE [y, z] else []
  | l => pE l
def pS : List Bs → List Bs
  | [x, y, z, u] => if x = [33] then pS3 [y, z, u] else []
  | l => pS3 l
theorem pathsM_two (x y : Bs) (b : Bool) : pathsM ([x, y], b, true) = pE [x, y] := by
  show (if asksN x = -1 then [] else [y]) = if asksB x = true then [y] else []
  unfold asksB
  by_cases h : asksN x = -1
  · rw [if_pos h, if_neg (by simp [h])]
  · rw [if_neg h, if_pos (by simpa using h)]
theorem pM2 (x y : Bs) (neg : Bool) : pathsM (posF neg [x, y]) = pE [x, y] := by
  by_cases hx : x = [33]
  · subst hx; cases neg <;> rfl
  · have h1 : posF neg [x, y] = ([x, y], neg, true) := by rw [posF, if_neg (fun h => hx h.1)]; rfl
    rw [h1, pathsM_two]
theorem pM3 (x y z : Bs) (neg : Bool) : pathsM (posF neg [x, y, z]) = pS3 [x, y, z] := by
  show _ = if x = [33] ∧ isOp y = false then pE [y, z] else []
  by_cases h : x = [33] ∧ isOp y = false
  · have h1 : posF neg [x, y, z] = posF (!neg) [y, z] := by rw [posF, if_pos ⟨h.1, .inr h.2⟩, if_neg (by simp)]
    rw [h1, pM2, if_pos h]
  · have h1 : posF neg [x, y, z] = ([x, y, z], neg, isOp y) := by
      rw [posF, if_neg (by rintro ⟨a, b | b⟩ <;> simp_all)]; rfl
    rw [h1, if_neg h]
    cases isOp y <;> rfl
theorem pathsR_eq (l : List Bs) : pathsR l = pS l := by
  unfold pathsR
  match l with
  | [] => rfl
  | [x] => rfl
  | [x, y] => exact pM2 x y false
  | [x, y, z] => exact pM3 x y z false
  | [x, y, z, u] =>
    show _ = if x = [33] then pS3 [y, z, u] else []
    by_cases h : x = [33]
    · have h1 : posF false [x, y, z, u] = posF true [y, z, u] := by rw [posF, if_pos ⟨h, .inl (by simp)⟩, if_neg (by simp)]; rfl
      rw [h1, pM3, if_pos h]
    · have h1 : posF false [x, y, z, u] = ([x, y, z, u], false, false) := by rw [posF, if_neg (fun q => h q.1)]; simp
      rw [h1, if_neg h]; rfl
  | x :: y :: z :: u :: v :: t =>
    have h2 : pS (x :: y :: z :: u :: v :: t) = [] := rfl
    rw [h2]
    by_cases h : x = [33]
    · have h1 : posF false (x :: y :: z :: u :: v :: t) = ([], false, false) := by rw [posF, if_pos ⟨h, .inl (by simp)⟩, if_pos (by simp)]
      rw [h1]; rfl
    · have h1 : posF false (x :: y :: z :: u :: v :: t) = (x :: y :: z :: u :: v :: t, false, false) := by rw [posF, if_neg (fun q => h q.1)]; simp
      rw [h1]; rfl
def PEnd (w : World) (out : List Bs) (e : Ending) (w' : World) : Prop := ∃ A' n' c', e = .returned (.slice A' n' c') ∧ Reads w' w'.heap.size 1 A' n' (svs out) ∧ Below w.heap.size w w'
theorem pend {w w' : World} {out : List Bs} {e : Ending} (A' : Option Addr) (n' c' : Nat) (h : e = .returned (.slice A' n' c')) (h2 : Reads w' w'.heap.size 1 A' n' (svs out)) (h3 : Below w.heap.size w w') : PEnd w out e w' := ⟨A', n', c', h, h2, h3⟩
set_option maxHeartbeats 8000000 in
theorem rpaths_any (l : List Bs) (A : Option Addr) (n c : Nat) (w : World) (hc : n ≤ c) (hA : Reads w w.heap.size 1 A n (svs l)) :
    Calls Tryd.prog 14 #[.slice A n c] w (PEnd w (pathsR l)) := by
  rw [pathsR_eq]
  obtain ⟨out, ho⟩ : ∃ out, pS l = out := ⟨_, rfl⟩
  rw [ho]
  have HO := hide ho
  have HA := hide hA
  clear ho hA
  go_enter Tryd.func14, Tryd.ntmps14
  go_wp2_with fail
  go_loopw [0, 3] (fun u0 u3 wx => ∃ (A' : Option Addr) (n' c' i : Nat) (rest : List Bs), u0 = .slice A' n' c' ∧ u3 = .int .i64 i ∧ n' ≤ c' ∧ i ≤ 2 ∧ (i = 0 ∨ i + rest.length ≤ 4) ∧ Hid (Reads wx w.heap.size 1 A' n' (svs rest)) ∧ Hid (Below w.heap.size w wx) ∧ Hid (pS rest = out)) (fun u0 _ _ => lenOf u0)
  case atStart => exact ⟨A, n, c, 0, l, rfl, rfl, hc, by omega, .inl rfl, HA, hide (Below.refl _ _), HO⟩
  case round =>
    clear HA HO hc
    obtain ⟨A', n', c', i, rest, rfl, rfl, hc', hi2, hi, HA, HB, HO⟩ := hrel
    have hi3 : (i : Int) < 3 := by omega
    have hn := rd_len HA.out
    subst hn
    match rest, hi, hc', HA, HO with
    | [], hi, hc', HA, HO =>
      have HO2 : Hid (out = []) := hide (by rw [← HO.out]; rfl)
      clear hi
      go_wp2_with fail
      go_ret
      exact pend none 0 0 rfl (by rw [HO2.out]; exact Reads.none_) HB.out
    | [x], hi, hc', HA, HO =>
      have HO2 : Hid (out = []) := hide (by rw [← HO.out]; rfl)
      clear hi
      go_wp2_with fail
      go_ret
      exact pend none 0 0 rfl (by rw [HO2.out]; exact Reads.none_) HB.out
    | [x, y], hi, hc', HA, HO =>
      obtain ⟨g, o, rfl, hg, hcl⟩ := rd_cells HA.out (by simp)
      have hc0 : wr.cell? ⟨g, o, none⟩ = some (.string ⟨x.toArray⟩) := hcl 0 (by simp)
      have hc1 : wr.cell? ⟨g, o + 1, none⟩ = some (.string ⟨y.toArray⟩) := hcl 1 (by simp)
      have HAS := hide (fun W => rasks_any x W)
      have HO2 : Hid (out = if asksB x = true then [y] else []) := hide (by rw [← HO.out]; rfl)
      generalize asksB x = b at *
      clear hi hcl HO
      go_wp2_with fail
      refine (HAS.out _).mono ?_
      rintro e w2 ⟨rfl, rfl⟩
      cases b with
      | true =>
        go_wp2_with fail
        go_ret
        exact pend _ 1 1 rfl (by rw [HO2.out]; simpa using one_str wr y) (HB.out.alloc HB.out.size _)
      | false =>
        go_wp2_with fail
        go_ret
        exact pend none 0 0 rfl (by rw [HO2.out]; exact Reads.none_) HB.out
    | [x, y, z], hi, hc', HA, HO =>
      have HI : Hid (i = 0 ∨ i + 3 ≤ 4) := hide hi
      obtain ⟨g, o, rfl, hg, hcl⟩ := rd_cells HA.out (by simp)
      have HC0 := hide (show wr.cell? ⟨g, o, none⟩ = some (.string ⟨x.toArray⟩) from hcl 0 (by simp))
      have hc0 := HC0.out
      have hc1 : wr.cell? ⟨g, o + 1, none⟩ = some (.string ⟨y.toArray⟩) := hcl 1 (by simp)
      have HO2 : Hid (out = if x = [33] ∧ isOp y = false then pE [y, z] else []) := hide (by rw [← HO.out]; rfl)
      have HCM := hide (fun W => compares_any y W)
      have hT0 := rd_tail HA.out hc'
      rw [if_neg (show ¬ c' = 1 by simp at hc'; omega)] at hT0
      have HT : Hid (Reads wr w.heap.size 1 (some ⟨g, o + 1, none⟩) 2 (svs [y, z])) := hide hT0
      have hsl := fun W => run_slice_from (P := Tryd.prog) 22 9 Tryd.underlying22 sizeStr (some ⟨g, o, none⟩) 3 c' .i64 1 (by omega) (by omega) W
      have hc3 : 3 ≤ c' := hc'
      generalize isOp y = b at *
      clear hi hcl HO hT0
      by_cases hx : x = [33]
      · have hxx : (x == [33]) = true := beq_iff_eq.2 hx
        cases b with
        | true =>
          have HO3 : Hid (out = []) := hide (by rw [HO2.out]; simp)
          clear HO2 hx
          go_wp2_with fail
          refine (HCM.out _).mono ?_
          rintro e w2 ⟨rfl, hb⟩
          have HB2 := hide (below_more HB.out (Nat.le_refl _) hb)
          clear hb hc0 hc1
          go_wp2_with fail
          go_ret
          exact pend none 0 0 rfl (by rw [HO3.out]; exact Reads.none_) HB2.out
        | false =>
          have HO3 : Hid (pS [y, z] = out) := hide (by rw [HO2.out, if_pos ⟨hx, rfl⟩]; rfl)
          clear HO2 hx
          go_wp2_with fail
          refine (HCM.out _).mono ?_
          rintro e w2 ⟨rfl, hb⟩
          have HT2 := hide (Reads.keep HT.out fun p hp => hb.cell (Nat.lt_of_lt_of_le hp HB.out.size))
          have HB2 := hide (below_more HB.out (Nat.le_refl _) hb)
          clear hb hc0 hc1
          go_wp2_with fail
          go_roundw
          case rel => exact ⟨_, _, _, i + 1, [y, z], rfl, by go_num, by omega, by (rcases HI.out with h | h <;> omega), .inr (by rcases HI.out with h | h <;> simp <;> omega), HT2, HB2, HO3⟩
          case measure => simp [lenOf]
      · have hxx : (x == [33]) = false := beq_eq_false_iff_ne.2 hx
        have HO3 : Hid (out = []) := hide (by rw [HO2.out, if_neg (fun h => hx h.1)])
        clear HO2 hx
        go_wp2_with fail
        go_ret
        exact pend none 0 0 rfl (by rw [HO3.out]; exact Reads.none_) HB.out
    | [x, y, z, u], hi, hc', HA, HO =>
      have HI : Hid (i = 0 ∨ i + 4 ≤ 4) := hide hi
      obtain ⟨g, o, rfl, hg, hcl⟩ := rd_cells HA.out (by simp)
      have hc0 : wr.cell? ⟨g, o, none⟩ = some (.string ⟨x.toArray⟩) := hcl 0 (by simp)
      have HO2 : Hid (out = if x = [33] then pS3 [y, z, u] else []) := hide (by rw [← HO.out]; rfl)
      have hT0 := rd_tail HA.out hc'
      rw [if_neg (show ¬ c' = 1 by simp at hc'; omega)] at hT0
      have HT : Hid (Reads wr w.heap.size 1 (some ⟨g, o + 1, none⟩) 3 (svs [y, z, u])) := hide hT0
      have hsl := fun W => run_slice_from (P := Tryd.prog) 22 9 Tryd.underlying22 sizeStr (some ⟨g, o, none⟩) 4 c' .i64 1 (by omega) (by omega) W
      have hc3 : 4 ≤ c' := hc'
      clear hi hcl HO hT0
      by_cases hx : x = [33]
      · have hxx : (x == [33]) = true := beq_iff_eq.2 hx
        have HO3 : Hid (pS [y, z, u] = out) := hide (by rw [HO2.out, if_pos hx]; rfl)
        clear HO2 hx
        go_wp2_with fail
        go_roundw
        case rel => exact ⟨_, _, _, i + 1, [y, z, u], rfl, by go_num, by omega, by (rcases HI.out with h | h <;> omega), .inr (by rcases HI.out with h | h <;> simp <;> omega), HT, HB, HO3⟩
        case measure => simp [lenOf]
      · have hxx : (x == [33]) = false := beq_eq_false_iff_ne.2 hx
        have HO3 : Hid (out = []) := hide (by rw [HO2.out, if_neg hx])
        clear HO2 hx
        go_wp2_with fail
        go_ret
        exact pend none 0 0 rfl (by rw [HO3.out]; exact Reads.none_) HB.out
    | x :: y :: z :: u :: v :: t, hi, hc', HA, HO =>
      have HO2 : Hid (out = []) := hide (by rw [← HO.out]; rfl)
      obtain ⟨g, o, rfl, hg, hcl⟩ := rd_cells HA.out (by simp)
      have hc0 : wr.cell? ⟨g, o, none⟩ = some (.string ⟨x.toArray⟩) := hcl 0 (by simp)
      have hc1 : wr.cell? ⟨g, o + 1, none⟩ = some (.string ⟨y.toArray⟩) := hcl 1 (by simp)
      have hlen : (x :: y :: z :: u :: v :: t).length = t.length + 5 := by simp
      have h2 : ((t.length : Int) + 5 == 2) = false := beq_eq_false_iff_ne.2 (by omega)
      have h3 : ((t.length : Int) + 5 == 3) = false := beq_eq_false_iff_ne.2 (by omega)
      have h4 : ¬ (t.length : Int) + 5 ≤ 4 := by omega
      rw [hlen]
      clear hcl hi hlen HO
      cases hxx : (x == [33])
      · go_wp2_with fail
        go_ret
        exact pend none 0 0 rfl (by rw [HO2.out]; exact Reads.none_) HB.out
      · go_wp2_with fail
        go_ret
        exact pend none 0 0 rfl (by rw [HO2.out]; exact Reads.none_) HB.out
end Go.Proofs.YtkiahjfcnhpblaaDoor
