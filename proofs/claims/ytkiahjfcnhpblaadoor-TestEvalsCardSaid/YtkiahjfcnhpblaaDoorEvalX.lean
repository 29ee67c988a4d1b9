/- Contracts of test.positive, evaluate, Eval. -/
import Derived.Test.YtkiahjfcnhpblaaDoorEvalW
namespace Go.Proofs.YtkiahjfcnhpblaaDoor
open Go.RowKit
open Go.Maps
set_option linter.unusedVariables false
theorem below_drewN {B : Nat} {a w : World} (h : Below B a w) : ∀ n, Below B a (w.drewN n) := fun n => ⟨h.os, h.tape, h.output, h.size, h.block⟩
def evalR (l : List Bs) (kinds : List Int) : Bool × Int := match l with
  | [] => (false, 0)
  | [x] => (x != [], 0)
  | [x, y] => unaryR x y kinds
  | x :: y :: z :: _ => cmpR y x z
def posF : Bool → List Bs → List Bs × Bool × Bool
  | neg, x :: y :: t => if x = [33] ∧ (t.length ≠ 1 ∨ isOp y = false) then (if 2 < t.length then ([], false, false) else posF (!neg) (y :: t)) else (x :: y :: t, neg, t.length == 0 || (t.length == 1 && isOp y))
  | neg, l => (l, neg, true)
set_option maxHeartbeats 4000000 in
theorem evaluate_any (l : List Bs) (kinds : List Int) (A B : Option Addr) (n c m d : Nat) (w : World) (hS : Std w) (hl : l.length ≤ 3) (hk : ∀ k ∈ l, k.length ≤ 1000000) (hA : Reads w w.heap.size 1 A n (svs l)) (hB : Reads w w.heap.size 1 B m (ivs kinds)) :
    Calls Tryd.prog 18 #[.slice A n c, .slice B m d] w fun e w' => e = .returned (.tuple #[.bool (evalR l kinds).1, .int .i64 (evalR l kinds).2]) ∧ Below w.heap.size w w' := by
  have hn := rd_len hA
  subst hn
  have HS := hide hS
  clear hS
  match l, hl, hk, hA with
  | [], hl, hk, hA =>
    go_enter Tryd.func18, Tryd.ntmps18
    go_wp2
    go_ret2
    exact ⟨rfl, Below.refl _ _⟩
  | [x], hl, hk, hA =>
    obtain ⟨g, o, rfl, hg, hc⟩ := rd_cells hA (by simp)
    have hc0 : w.cell? ⟨g, o, none⟩ = some (.string ⟨x.toArray⟩) := hc 0 (by simp)
    clear hA hc hk hl hB
    cases x with
    | nil =>
      have HR : Hid (evalR [[]] kinds = (false, 0)) := hide rfl
      go_enter Tryd.func18, Tryd.ntmps18
      go_wp2
      go_ret2
      exact ⟨by rw [HR.out] <;> rfl, Below.refl _ _⟩
    | cons a x =>
      have HR : Hid (evalR [a :: x] kinds = (true, 0)) := hide rfl
      have he : (a :: x).isEmpty = false := rfl
      generalize (a :: x) = y at *
      go_enter Tryd.func18, Tryd.ntmps18
      go_wp2
      go_ret2
      exact ⟨by rw [HR.out] <;> rfl, Below.refl _ _⟩
  | [x, y], hl, hk, hA =>
    obtain ⟨g, o, rfl, hg, hc⟩ := rd_cells hA (by simp)
    have hc0 : w.cell? ⟨g, o, none⟩ = some (.string ⟨x.toArray⟩) := hc 0 (by simp)
    have hc1 : w.cell? ⟨g, o + 1, none⟩ = some (.string ⟨y.toArray⟩) := hc 1 (by simp)
    have HU := hide (fun W (h : Reads W W.heap.size 1 B m (ivs kinds)) => unary_any x y kinds B m d W h)
    have HR : Hid (evalR [x, y] kinds = unaryR x y kinds) := hide rfl
    have HB := hide hB
    generalize unaryR x y kinds = r at *
    obtain ⟨r1, r2⟩ := r
    have hlt0 : (0 : Int) < 2 := by omega
    clear hA hc hk hl hB
    go_enter Tryd.func18, Tryd.ntmps18
    go_wp2_with fail
    go_quiet (first
      | (go_at_call 29; first | with_reducible exact quiet_add_left (HU.out _ (HB.out.drewN _)) | with_reducible exact quiet_left (HU.out _ (HB.out.drewN _))))
    go_wp2_with fail
    go_ret2
    exact ⟨by rw [HR.out] <;> rfl, below_drewN (Below.refl _ _) _⟩
  | [x, y, z], hl, hk, hA =>
    obtain ⟨g, o, rfl, hg, hc⟩ := rd_cells hA (by simp)
    have hc0 : w.cell? ⟨g, o, none⟩ = some (.string ⟨x.toArray⟩) := hc 0 (by simp)
    have hc1 : w.cell? ⟨g, o + 1, none⟩ = some (.string ⟨y.toArray⟩) := hc 1 (by simp)
    have hc2 : w.cell? ⟨g, o + 2, none⟩ = some (.string ⟨z.toArray⟩) := hc 2 (by simp)
    have HU := hide (fun W (h : Std W) => compare_any y x z W h (Nat.le_trans (hk y (by simp)) (by decide)) (hk x (by simp)) (hk z (by simp)))
    have HR : Hid (evalR [x, y, z] kinds = cmpR y x z) := hide rfl
    generalize cmpR y x z = r at *
    obtain ⟨r1, r2⟩ := r
    clear hA hc hk hl hB
    have HC0 := hide hc0
    have HC1 := hide hc1
    have HC2 := hide hc2
    have kW := hide ((Below.refl w.heap.size w).drew)
    go_enter Tryd.func18, Tryd.ntmps18
    go_wp2_with fail
    go_region_held3 (fun W => W.cell? ⟨g, o, none⟩ = some (.string ⟨x.toArray⟩) ∧ W.cell? ⟨g, o + 1, none⟩ = some (.string ⟨y.toArray⟩) ∧ W.cell? ⟨g, o + 2, none⟩ = some (.string ⟨z.toArray⟩))
      (with_reducible exact ⟨(kW.out.cell (p := ⟨g, o, none⟩) hg).trans HC0.out, (kW.out.cell (p := ⟨g, o + 1, none⟩) hg).trans HC1.out, (kW.out.cell (p := ⟨g, o + 2, none⟩) hg).trans HC2.out⟩)
      (first
        | (go_at_call 10; with_reducible refine (HU.out _ (HS.out.below kW.out)).mono ?_
           rintro e wx ⟨rfl, kx⟩
           have kW := hide (below_more kW.out (Nat.le_refl _) kx)
           clear kx))
    all_goals
      go_wp2_with fail
      go_ret2
      exact ⟨by rw [HR.out] <;> rfl, kW.out⟩
theorem posF_one (neg : Bool) (x : Bs) : posF neg [x] = ([x], neg, true) := rfl
theorem posF_nil (neg : Bool) : posF neg [] = ([], neg, true) := rfl
def lenOf : Value → Nat
  | .slice _ n _ => n
  | _ => 0
set_option maxHeartbeats 4000000 in
theorem positive_any (l : List Bs) (A : Option Addr) (n c : Nat) (w : World) (hl : l.length ≤ 1000) (hk : ∀ k ∈ l, k.length ≤ 1000000) (hc : n ≤ c) (hcm : c ≤ maxLen) (hA : Reads w w.heap.size 1 A n (svs l)) :
    Calls Tryd.prog 17 #[.slice A n c] w fun e w' => ∃ A' n' c', e = .returned (.tuple #[.slice A' n' c', .bool (posF false l).2.1, .bool (posF false l).2.2]) ∧ Reads w' w.heap.size 1 A' n' (svs (posF false l).1) ∧ n' ≤ c' ∧ Below w.heap.size w w' := by
  have HP : Hid (posF false l = posF false l) := hide rfl
  obtain ⟨r1, r2, r3, hr⟩ : ∃ r1 r2 r3, posF false l = (r1, r2, r3) := ⟨_, _, _, rfl⟩
  rw [hr]
  have HR := hide hr
  have HA := hide hA
  clear hr HP hA
  go_enter Tryd.func17, Tryd.ntmps17
  go_wp2_with fail
  go_loopw [0, 5] (fun u0 u5 wx => ∃ (A' : Option Addr) (n' c' : Nat) (rest : List Bs) (neg : Bool), u0 = .slice A' n' c' ∧ u5 = .bool neg ∧ n' ≤ c' ∧ c' ≤ maxLen ∧ rest.length ≤ 1000 ∧ Hid (Reads wx w.heap.size 1 A' n' (svs rest)) ∧ Hid (Below w.heap.size w wx) ∧ Hid (posF neg rest = (r1, r2, r3)) ∧ Hid (∀ k ∈ rest, k.length ≤ 1000000)) (fun u0 _ _ => lenOf u0)
  case atStart => exact ⟨A, n, c, l, false, rfl, rfl, hc, hcm, hl, HA, hide (Below.refl _ _), HR, hide hk⟩
  case round =>
    clear HR HA hk hl
    obtain ⟨A', n', c', rest, neg, rfl, rfl, hc', hcm', hl', HA, HB, HR, HK⟩ := hrel
    have hn := rd_len HA.out
    subst hn
    match rest, hl', HA, HR, HK with
    | [], hl', HA, HR, HK =>
      have HR2 := HR.out
      rw [posF_nil] at HR2
      injection HR2 with e1 e2
      injection e2 with e2 e3
      subst e1; subst e2; subst e3
      go_wp2_with fail
      go_ret3
      exact ⟨A', 0, c', rfl, HA.out, Nat.zero_le _, HB.out⟩
    | [x], hl', HA, HR, HK =>
      have HR2 := HR.out
      rw [posF_one] at HR2
      injection HR2 with e1 e2
      injection e2 with e2 e3
      subst e1; subst e2; subst e3
      go_wp2_with fail
      go_ret3
      exact ⟨A', _, c', rfl, HA.out, hc', HB.out⟩
    | x :: y :: t, hl', HA, HR, HK =>
      obtain ⟨g, o, rfl, hg, hcl⟩ := rd_cells HA.out (by simp)
      have HC0 : Hid (wr.cell? ⟨g, o, none⟩ = some (.string ⟨x.toArray⟩)) := hide (hcl 0 (by simp))
      have HC1 : Hid (wr.cell? ⟨g, o + 1, none⟩ = some (.string ⟨y.toArray⟩)) := hide (hcl 1 (by simp))
      have HOP := hide (fun W => operator_any y W (Nat.le_trans (HK.out y (by simp)) (by decide)))
      have hgw : g < wr.heap.size := World.block_lt_of_cell? wr _ HC0.out
      have hT0 := rd_tail HA.out hc'
      rw [if_neg (show ¬ c' = 1 by simp at hc'; omega)] at hT0
      have HT : Hid (Reads wr w.heap.size 1 (some ⟨g, o + 1, none⟩) (y :: t).length (svs (y :: t))) := hide hT0
      clear hT0
      have HU : Hid (posF neg (x :: y :: t) = if x = [33] ∧ (t.length ≠ 1 ∨ isOp y = false) then (if 2 < t.length then ([], false, false) else posF (!neg) (y :: t)) else (x :: y :: t, neg, t.length == 0 || (t.length == 1 && isOp y))) := hide rfl
      have HKT : Hid (∀ k ∈ y :: t, k.length ≤ 1000000) := hide (fun k h => HK.out k (List.mem_cons_of_mem _ h))
      have hsl := fun W => run_slice_from (P := Tryd.prog) 22 9 Tryd.underlying22 sizeStr (some ⟨g, o, none⟩) (x :: y :: t).length c' .i64 1 (by omega) (by simp; omega) W
      have hlen : (x :: y :: t).length = t.length + 2 := by simp
      have hlen2 : (y :: t).length = t.length + 1 := by simp
      obtain ⟨v, hv⟩ : ∃ v, isOp y = v := ⟨_, rfl⟩
      rw [hv] at HOP HU
      rw [hlen] at hsl hc' HA ⊢
      rw [hlen2] at HT
      have htl : t.length ≤ 998 := by simp at hl'; omega
      obtain ⟨q, hq⟩ : ∃ q, t.length = q := ⟨_, rfl⟩
      rw [hq] at hsl hc' HA HT HU htl ⊢
      have HQ : Hid (t.length = q) := hide hq
      clear hcl hv hlen hlen2 hl' hq HK
      by_cases hx : x = [33]
      · subst hx
        have hxx : (([33] : Bs) == [33]) = true := rfl
        by_cases h1 : q = 1
        · subst h1
          cases v with
          | true =>
            have HE : Hid (([33] :: y :: t, neg, true) = (r1, r2, r3)) := hide (by rw [← HR.out, HU.out]; rfl)
            obtain ⟨rfl, h2, h3⟩ : [33] :: y :: t = r1 ∧ neg = r2 ∧ true = r3 := by have := HE.out; simpa using this
            subst h2; subst h3
            clear HE HU HR
            have hc0 := HC0.out
            have hc1 := HC1.out
            go_wp2_with fail
            refine (HOP.out _).mono ?_
            rintro e w1 ⟨rfl, hb⟩
            have HB1 := hide hb
            clear hb hc0 hc1
            have hc0 := (HB1.out.cell (p := ⟨g, o, none⟩) hgw).trans HC0.out
            have hc1 := (HB1.out.cell (p := ⟨g, o + 1, none⟩) hgw).trans HC1.out
            go_wp2_with fail
            refine (HOP.out _).mono ?_
            rintro e w2 ⟨rfl, hb⟩
            have HB2 := hide (below_more HB1.out (Nat.le_refl _) hb)
            clear hb hc0 hc1
            go_wp2_with fail
            go_ret3
            exact ⟨some ⟨g, o, none⟩, 3, c', rfl, Reads.keep HA.out fun p hp => HB2.out.cell (Nat.lt_of_lt_of_le hp HB.out.size), hc', below_more HB.out (Nat.le_refl _) HB2.out⟩
          | false =>
            have HE : Hid (posF (!neg) (y :: t) = (r1, r2, r3)) := hide (by rw [← HR.out, HU.out]; rfl)
            clear HU HR
            have hc0 := HC0.out
            have hc1 := HC1.out
            go_wp2_with fail
            refine (HOP.out _).mono ?_
            rintro e w1 ⟨rfl, hb⟩
            have HB1 := hide hb
            clear hb hc0 hc1
            go_wp2_with fail
            go_roundw
            case rel => exact ⟨_, _, _, y :: t, !neg, rfl, rfl, by omega, by omega, by simp [HQ.out], hide (by
              have := Reads.keep HT.out fun p hp => HB1.out.cell (Nat.lt_of_lt_of_le hp HB.out.size)
              exact this), hide (below_more HB.out (Nat.le_refl _) HB1.out), HE, HKT⟩
            case measure => simp [lenOf]
        · by_cases h2 : 2 < q
          · have HE : Hid ((([] : List Bs), false, false) = (r1, r2, r3)) := hide (by rw [← HR.out, HU.out, if_pos ⟨rfl, .inl h1⟩, if_pos h2])
            obtain ⟨rfl, h3, h4⟩ : ([] : List Bs) = r1 ∧ false = r2 ∧ false = r3 := by have := HE.out; simpa using this
            subst h3; subst h4
            clear HE HU HR
            have hc0 := HC0.out
            have hne : ((q : Int) + 2 != 3) = true := by rw [bne_iff_ne]; omega
            go_wp2_with fail
            go_ret3
            exact ⟨none, 0, 0, rfl, Reads.none_, Nat.le_refl _, HB.out⟩
          · have HE : Hid (posF (!neg) (y :: t) = (r1, r2, r3)) := hide (by rw [← HR.out, HU.out, if_pos ⟨rfl, .inl h1⟩, if_neg h2])
            clear HU HR
            have hc0 := HC0.out
            have hne : ((q : Int) + 2 != 3) = true := by rw [bne_iff_ne]; omega
            go_wp2_with fail
            go_roundw
            case rel => exact ⟨_, _, _, y :: t, !neg, rfl, rfl, by omega, by omega, by simp [HQ.out]; omega, hide HT.out, HB, HE, HKT⟩
            case measure => simp [lenOf]
      · have hxx : (x == [33]) = false := beq_eq_false_iff_ne.2 hx
        have HE : Hid ((x :: y :: t, neg, q == 0 || (q == 1 && v)) = (r1, r2, r3)) := hide (by rw [← HR.out, HU.out, if_neg (fun h => hx h.1)])
        obtain ⟨rfl, h2, h3⟩ : x :: y :: t = r1 ∧ neg = r2 ∧ (q == 0 || (q == 1 && v)) = r3 := by have := HE.out; simpa using this
        subst h2; subst h3
        clear HE HU HR hx
        have hc0 := HC0.out
        by_cases h0 : q = 0
        · subst h0
          go_wp2_with fail
          go_ret3
          exact ⟨some ⟨g, o, none⟩, 2, c', rfl, HA.out, hc', HB.out⟩
        · by_cases h1 : q = 1
          · subst h1
            have hc1 := HC1.out
            go_wp2_with fail
            refine (HOP.out _).mono ?_
            rintro e w1 ⟨rfl, hb⟩
            have HB1 := hide hb
            clear hb hc0 hc1
            go_wp2_with fail
            go_ret3
            exact ⟨some ⟨g, o, none⟩, 3, c', by simp, Reads.keep HA.out fun p hp => HB1.out.cell (Nat.lt_of_lt_of_le hp HB.out.size), hc', below_more HB.out (Nat.le_refl _) HB1.out⟩
          · have hne : ((q : Int) + 2 == 3) = false := beq_eq_false_iff_ne.2 (by omega)
            have hq0 : (q == 0) = false := beq_eq_false_iff_ne.2 h0
            have hq1 : (q == 1) = false := beq_eq_false_iff_ne.2 h1
            go_wp2_with fail
            go_ret3
            exact ⟨some ⟨g, o, none⟩, q + 2, c', by simp [hq0, hq1]; omega, HA.out, hc', HB.out⟩
end Go.Proofs.YtkiahjfcnhpblaaDoor
