/- The reference's contracts of layer 31: Eval. -/
import Derived.Test.YtkiahjfcnhpblaaDoorRefA
namespace Go.Proofs.YtkiahjfcnhpblaaDoor
open Go.RowKit
open Go.Maps
set_option linter.unusedVariables false
def evalS2 (l : List Bs) (k : List Int) : Bool × Int := match l with
  | [] => (false, 0)
  | [x] => (x != [], 0)
  | [x, y] => unaryS x y k
  | _ => (false, 32)
def evalS3 (x y z : Bs) (k : List Int) : Bool × Int := if isOp y = true then cmpR y x z else if x = [33] then turnR (evalS2 [y, z] k) else (false, 32)
def evalS4 (x y z u : Bs) (k : List Int) : Bool × Int := if x = [33] then turnR (evalS3 y z u k) else (false, 32)
def evalS (l : List Bs) (k : List Int) : Bool × Int := match l with
  | [x, y, z] => evalS3 x y z k
  | [x, y, z, u] => evalS4 x y z u k
  | l => evalS2 l k
section
variable (kinds : List Int) (B : Option Addr) (m d : Nat)
/-- Eval's answer for a list. -/
def EvC (l : List Bs) (r : Bool × Int) : Prop := ∀ (A : Option Addr) (n c : Nat) (w : World), n ≤ c → Reads w w.heap.size 1 A n (svs l) → Reads w w.heap.size 1 B m (ivs kinds) →
  Calls Tryd.prog 9 #[.slice A n c, .slice B m d] w fun e w' => e = .returned (.tuple #[.bool r.1, .int .i64 r.2]) ∧ Below w.heap.size w w'
set_option maxHeartbeats 2000000 in
theorem ev0 : EvC kinds B m d [] (false, 0) := by
  intro A n c w hc hA hB
  have hn := rd_len hA
  subst hn
  go_enter Tryd.func9, Tryd.ntmps9
  go_wp2
  go_ret2
  exact ⟨rfl, Below.refl _ _⟩
set_option maxHeartbeats 2000000 in
theorem ev1 (x : Bs) : EvC kinds B m d [x] (x != [], 0) := by
  intro A n c w hc hA hB
  have hn := rd_len hA
  subst hn
  obtain ⟨g, o, rfl, hg, hcl⟩ := rd_cells hA (by simp)
  have hc0 : w.cell? ⟨g, o, none⟩ = some (.string ⟨x.toArray⟩) := hcl 0 (by simp)
  clear hA hcl hB hc
  cases x with
  | nil =>
    have hx : (([] : Bs) != []) = false := rfl
    rw [hx]
    clear hx
    go_enter Tryd.func9, Tryd.ntmps9
    go_wp2
    go_ret2
    exact ⟨rfl, Below.refl _ _⟩
  | cons a x =>
    have hx : ((a :: x) != ([] : Bs)) = true := rfl
    rw [hx]
    clear hx
    have he : (a :: x).isEmpty = false := rfl
    generalize (a :: x) = y at *
    go_enter Tryd.func9, Tryd.ntmps9
    go_wp2
    go_ret2
    exact ⟨rfl, Below.refl _ _⟩
set_option maxHeartbeats 4000000 in
theorem ev2 (x y : Bs) : EvC kinds B m d [x, y] (unaryS x y kinds) := by
  intro A n c w hc hA hB
  have hn := rd_len hA
  subst hn
  obtain ⟨g, o, rfl, hg, hcl⟩ := rd_cells hA (by simp)
  have hc0 : w.cell? ⟨g, o, none⟩ = some (.string ⟨x.toArray⟩) := hcl 0 (by simp)
  have hc1 : w.cell? ⟨g, o + 1, none⟩ = some (.string ⟨y.toArray⟩) := hcl 1 (by simp)
  have HU := hide (fun W (h : Reads W W.heap.size 1 B m (ivs kinds)) => runary_any x y kinds B m d W h)
  have HB := hide hB
  generalize unaryS x y kinds = r at *
  obtain ⟨r1, r2⟩ := r
  clear hA hcl hB hc
  go_enter Tryd.func9, Tryd.ntmps9
  go_wp2_with fail
  go_quiet (first
    | (go_at_call 19; first | with_reducible exact quiet_add_left (HU.out _ (HB.out.drewN _)) | with_reducible exact quiet_left (HU.out _ (HB.out.drewN _))))
  go_wp2_with fail
  go_ret2
  exact ⟨rfl, below_drewN (Below.refl _ _) _⟩
set_option maxHeartbeats 8000000 in
theorem ev3 (x y z : Bs) (hx : x.length ≤ 1000000) (hz : z.length ≤ 1000000) : EvC kinds B m d [x, y, z] (evalS3 x y z kinds) := by
  intro A n c w hc hA hB
  have hn := rd_len hA
  subst hn
  obtain ⟨g, o, rfl, hg, hcl⟩ := rd_cells hA (by simp)
  have HC0 := hide (show w.cell? ⟨g, o, none⟩ = some (.string ⟨x.toArray⟩) from hcl 0 (by simp))
  have HC1 := hide (show w.cell? ⟨g, o + 1, none⟩ = some (.string ⟨y.toArray⟩) from hcl 1 (by simp))
  have HC2 := hide (show w.cell? ⟨g, o + 2, none⟩ = some (.string ⟨z.toArray⟩) from hcl 2 (by simp))
  have HR : Hid (evalS3 x y z kinds = if isOp y = true then cmpR y x z else if x = [33] then turnR (evalS2 [y, z] kinds) else (false, 32)) := hide rfl
  have HO := hide (fun W => compares_any y W)
  have HU := hide (fun W => rcompare_any y x z W hx hz)
  have hT0 := rd_tail hA hc
  rw [if_neg (show ¬ c = 1 by simp at hc; omega)] at hT0
  have HT : Hid (Reads w w.heap.size 1 (some ⟨g, o + 1, none⟩) 2 (svs [y, z])) := hide hT0
  have hsl := fun W => run_slice_from (P := Tryd.prog) 22 9 Tryd.underlying22 sizeStr (some ⟨g, o, none⟩) 3 c .i64 1 (by omega) (by omega) W
  have HB := hide hB
  have hc3 : 3 ≤ c := hc
  generalize evalS3 x y z kinds = out at *
  clear hT0 hcl hA hB hc
  have hc0 := HC0.out
  have hc1 := HC1.out
  generalize isOp y = v at *
  cases v with
  | true =>
    have HR2 : Hid (out = cmpR y x z) := hide (by rw [HR.out]; rfl)
    generalize cmpR y x z = r at *
    obtain ⟨r1, r2⟩ := r
    clear HR
    go_enter Tryd.func9, Tryd.ntmps9
    go_wp2_with fail
    refine (HO.out _).mono ?_
    rintro e w1 ⟨rfl, hb⟩
    have HB1 := hide hb
    clear hb hc0 hc1
    have hc0 := (HB1.out.cell (p := ⟨g, o, none⟩) hg).trans HC0.out
    have hc1 := (HB1.out.cell (p := ⟨g, o + 1, none⟩) hg).trans HC1.out
    have hc2 := (HB1.out.cell (p := ⟨g, o + 2, none⟩) hg).trans HC2.out
    have hgw : g < w1.heap.size := Nat.lt_of_lt_of_le hg HB1.out.size
    have D0 := hide hc0
    have D1 := hide hc1
    have D2 := hide hc2
    have kW := hide ((Below.refl w1.heap.size w1).drew)
    go_wp2_with fail
    go_region_held3 (fun W => W.cell? ⟨g, o, none⟩ = some (.string ⟨x.toArray⟩) ∧ W.cell? ⟨g, o + 1, none⟩ = some (.string ⟨y.toArray⟩) ∧ W.cell? ⟨g, o + 2, none⟩ = some (.string ⟨z.toArray⟩))
      (with_reducible exact ⟨(kW.out.cell (p := ⟨g, o, none⟩) hgw).trans D0.out, (kW.out.cell (p := ⟨g, o + 1, none⟩) hgw).trans D1.out, (kW.out.cell (p := ⟨g, o + 2, none⟩) hgw).trans D2.out⟩)
      (first
        | (go_at_call 11; with_reducible refine (HU.out _).mono ?_
           rintro e wx ⟨rfl, kx⟩
           have kW := hide (below_more kW.out (Nat.le_refl _) kx)
           clear kx))
    all_goals
      go_wp2_with fail
      go_ret2
      exact ⟨by rw [HR2.out] <;> rfl, below_more HB1.out (Nat.le_refl _) kW.out⟩
  | false =>
    by_cases e1 : x = [33]
    · subst e1
      have HR2 : Hid (out = turnR (unaryS y z kinds)) := hide (by rw [HR.out]; rfl)
      have HE := hide (ev2 kinds B m d y z)
      generalize unaryS y z kinds = r at *
      obtain ⟨r1, r2⟩ := r
      have HV := hide (fun W => turned_any r1 r2 W)
      have hxx : (([33] : Bs) == [33]) = true := rfl
      clear HR
      go_enter Tryd.func9, Tryd.ntmps9
      go_wp2_with fail
      refine (HO.out _).mono ?_
      rintro e w1 ⟨rfl, hb⟩
      have HB1 := hide hb
      clear hb hc0 hc1
      have hc0 := (HB1.out.cell (p := ⟨g, o, none⟩) hg).trans HC0.out
      go_wp2_with fail
      refine (HE.out _ _ _ _ (by omega) ((HT.out.below HB1.out).more HB1.out.size) ((HB.out.below HB1.out).more HB1.out.size)).mono ?_
      rintro e w2 ⟨rfl, hb⟩
      have HB2 := hide (below_more HB1.out (Nat.le_refl _) hb)
      clear hb hc0
      go_wp2_with fail
      refine (HV.out _).mono ?_
      rintro e w3 ⟨rfl, rfl⟩
      go_wp2_with fail
      go_ret2
      exact ⟨by rw [HR2.out] <;> rfl, HB2.out⟩
    · have hxx : (x == [33]) = false := beq_eq_false_iff_ne.2 e1
      have HR2 : Hid (out = (false, 32)) := hide (by rw [HR.out]; simp [e1])
      clear HR e1
      go_enter Tryd.func9, Tryd.ntmps9
      go_wp2_with fail
      refine (HO.out _).mono ?_
      rintro e w1 ⟨rfl, hb⟩
      have HB1 := hide hb
      clear hb hc0 hc1
      have hc0 := (HB1.out.cell (p := ⟨g, o, none⟩) hg).trans HC0.out
      go_wp2_with fail
      go_ret2
      exact ⟨by rw [HR2.out] <;> rfl, HB1.out⟩
set_option maxHeartbeats 4000000 in
theorem ev4 (x y z u : Bs) (hy : y.length ≤ 1000000) (hu : u.length ≤ 1000000) : EvC kinds B m d [x, y, z, u] (evalS4 x y z u kinds) := by
  intro A n c w hc hA hB
  have hn := rd_len hA
  subst hn
  obtain ⟨g, o, rfl, hg, hcl⟩ := rd_cells hA (by simp)
  have hc0 : w.cell? ⟨g, o, none⟩ = some (.string ⟨x.toArray⟩) := hcl 0 (by simp)
  have HR : Hid (evalS4 x y z u kinds = if x = [33] then turnR (evalS3 y z u kinds) else (false, 32)) := hide rfl
  have hT0 := rd_tail hA hc
  rw [if_neg (show ¬ c = 1 by simp at hc; omega)] at hT0
  have HT : Hid (Reads w w.heap.size 1 (some ⟨g, o + 1, none⟩) 3 (svs [y, z, u])) := hide hT0
  have hsl := fun W => run_slice_from (P := Tryd.prog) 22 9 Tryd.underlying22 sizeStr (some ⟨g, o, none⟩) 4 c .i64 1 (by omega) (by omega) W
  have HB := hide hB
  have hc3 : 4 ≤ c := hc
  generalize evalS4 x y z u kinds = out at *
  have HE := hide (ev3 kinds B m d y z u hy hu)
  generalize evalS3 y z u kinds = r at *
  obtain ⟨r1, r2⟩ := r
  have HV := hide (fun W => turned_any r1 r2 W)
  clear hT0 hcl hA hB hc
  by_cases e1 : x = [33]
  · subst e1
    have HR2 : Hid (out = turnR (r1, r2)) := hide (by rw [HR.out]; rfl)
    have hxx : (([33] : Bs) == [33]) = true := rfl
    clear HR
    go_enter Tryd.func9, Tryd.ntmps9
    go_wp2_with fail
    refine (HE.out _ _ _ _ (by omega) HT.out HB.out).mono ?_
    rintro e w2 ⟨rfl, hb⟩
    have HB2 := hide hb
    clear hb hc0
    go_wp2_with fail
    refine (HV.out _).mono ?_
    rintro e w3 ⟨rfl, rfl⟩
    go_wp2_with fail
    go_ret2
    exact ⟨by rw [HR2.out] <;> rfl, HB2.out⟩
  · have hxx : (x == [33]) = false := beq_eq_false_iff_ne.2 e1
    have HR2 : Hid (out = (false, 32)) := hide (by rw [HR.out]; simp [e1])
    clear HR e1
    go_enter Tryd.func9, Tryd.ntmps9
    go_wp2_with fail
    go_ret2
    exact ⟨by rw [HR2.out] <;> rfl, Below.refl _ _⟩
set_option maxHeartbeats 2000000 in
theorem ev5 (l : List Bs) (hl : 5 ≤ l.length) : EvC kinds B m d l (false, 32) := by
  intro A n c w hc hA hB
  have hn := rd_len hA
  subst hn
  obtain ⟨q, hq⟩ : ∃ q, l.length = q := ⟨_, rfl⟩
  rw [hq] at hl ⊢
  have h0 : ((q : Int) == 0) = false := beq_eq_false_iff_ne.2 (by omega)
  have h1 : ((q : Int) == 1) = false := beq_eq_false_iff_ne.2 (by omega)
  have h2 : ((q : Int) == 2) = false := beq_eq_false_iff_ne.2 (by omega)
  have h3 : ((q : Int) == 3) = false := beq_eq_false_iff_ne.2 (by omega)
  have h4 : ¬ (q : Int) ≤ 4 := by omega
  clear hA hB hc hq
  go_enter Tryd.func9, Tryd.ntmps9
  go_wp2_with fail
  go_ret2
  exact ⟨rfl, Below.refl _ _⟩
theorem reval_any (l : List Bs) (hk : ∀ k ∈ l, k.length ≤ 1000000) : EvC kinds B m d l (evalS l kinds) := by
  match l, hk with
  | [], _ => exact ev0 kinds B m d
  | [x], _ => exact ev1 kinds B m d x
  | [x, y], _ => exact ev2 kinds B m d x y
  | [x, y, z], hk => exact ev3 kinds B m d x y z (hk x (by simp)) (hk z (by simp))
  | [x, y, z, u], hk => exact ev4 kinds B m d x y z u (hk y (by simp)) (hk u (by simp))
  | x :: y :: z :: u :: v :: t, hk => exact ev5 kinds B m d _ (by simp)
end
def Wf (r : Bool × Int) : Prop := r.2 ≠ 0 → r.1 = false
def tn (neg : Bool) (r : Bool × Int) : Bool × Int := if neg = true then turnR r else r
def fin2 (r : List Bs × Bool × Bool) (k : List Int) : Bool × Int := if r.2.2 = true then (if (evalR r.1 k).2 = 0 then ((evalR r.1 k).1 != r.2.1, 0) else (false, (evalR r.1 k).2)) else (false, 32)
theorem turn_wf (r : Bool × Int) : Wf (turnR r) := by
  unfold Wf turnR
  split <;> simp
theorem turn_turn {r : Bool × Int} (h : Wf r) : turnR (turnR r) = r := by
  obtain ⟨b, e⟩ := r
  unfold turnR Wf at *
  by_cases h0 : e = 0
  · subst h0; simp
  · have := h h0
    simp only at this
    subst this
    simp [h0]
theorem tn_not {r : Bool × Int} (h : Wf r) (neg : Bool) : tn (!neg) r = tn neg (turnR r) := by
  cases neg
  · rfl
  · show r = turnR (turnR r)
    rw [turn_turn h]
theorem fin_tn {r : Bool × Int} (h : Wf r) (neg : Bool) : (if r.2 = 0 then (r.1 != neg, (0 : Int)) else (false, r.2)) = tn neg r := by
  obtain ⟨b, e⟩ := r
  unfold Wf at h
  by_cases h0 : e = 0
  · subst h0
    cases neg <;> simp [tn, turnR]
  · have := h h0
    simp only at this
    subst this
    cases neg <;> simp [tn, turnR, h0]
theorem cmpR_wf (op a b : Bs) : Wf (cmpR op a b) := by
  unfold Wf cmpR
  split
  · intro h; exact absurd rfl h
  · split
    · intro h; exact absurd rfl h
    · split
      · split
        · intro h; exact absurd rfl h
        · intro _; rfl
      · intro _; rfl
theorem unaryR_wf (op a : Bs) (k : List Int) : Wf (unaryR op a k) := by
  unfold Wf unaryR
  split
  · intro h; exact absurd rfl h
  · split
    · intro h; exact absurd rfl h
    · split
      · intro _; rfl
      · split
        · intro h; exact absurd rfl h
        · intro h; exact absurd rfl h
theorem fin2_one (x : Bs) (neg : Bool) (k : List Int) : fin2 (posF neg [x]) k = tn neg (x != [], 0) := by
  have : fin2 (posF neg [x]) k = if (x != ([] : Bs), (0 : Int)).2 = 0 then ((x != ([] : Bs), (0 : Int)).1 != neg, (0 : Int)) else (false, (x != ([] : Bs), (0 : Int)).2) := rfl
  rw [this, fin_tn]
  intro h; exact absurd rfl h
theorem tn_err (neg : Bool) : tn neg (false, 32) = (false, 32) := by cases neg <;> rfl
theorem fin2_two (x y : Bs) (neg : Bool) (k : List Int) : fin2 (posF neg [x, y]) k = tn neg (unaryS x y k) := by
  by_cases hx : x = [33]
  · have h1 : posF neg [x, y] = posF (!neg) [y] := by
      rw [posF, if_pos ⟨hx, .inl (by simp)⟩, if_neg (by simp)]
    rw [h1, fin2_one, tn_not (by intro h; exact absurd rfl h)]
    congr 1
    unfold unaryS
    rw [if_pos hx]
    unfold turnR
    simp [bne]
  · have h1 : posF neg [x, y] = ([x, y], neg, true) := by
      rw [posF, if_neg (fun h => hx h.1)]; rfl
    have h2 : unaryS x y k = unaryR x y k := by unfold unaryS; rw [if_neg hx]
    rw [h1, h2, ← fin_tn (unaryR_wf x y k)]
    rfl
theorem unaryS_wf (op a : Bs) (k : List Int) : Wf (unaryS op a k) := by
  unfold unaryS
  split
  · intro h; exact absurd rfl h
  · exact unaryR_wf op a k
theorem evalS3_wf (x y z : Bs) (k : List Int) : Wf (evalS3 x y z k) := by
  unfold evalS3
  split
  · exact cmpR_wf _ _ _
  · split
    · exact turn_wf _
    · intro _; rfl
theorem fin2_three (x y z : Bs) (neg : Bool) (k : List Int) : fin2 (posF neg [x, y, z]) k = tn neg (evalS3 x y z k) := by
  cases hy : isOp y
  · by_cases hx : x = [33]
    · have h1 : posF neg [x, y, z] = posF (!neg) [y, z] := by
        rw [posF, if_pos ⟨hx, .inr hy⟩, if_neg (by simp)]
      have h2 : evalS3 x y z k = turnR (unaryS y z k) := by unfold evalS3; rw [if_neg (by simp [hy]), if_pos hx]; rfl
      rw [h1, fin2_two, h2, tn_not (unaryS_wf y z k)]
    · have h1 : posF neg [x, y, z] = ([x, y, z], neg, false) := by
        rw [posF, if_neg (fun h => hx h.1), hy]; rfl
      have h2 : evalS3 x y z k = (false, 32) := by unfold evalS3; rw [if_neg (by simp [hy]), if_neg hx]
      rw [h1, h2, tn_err]
      rfl
  · have h1 : posF neg [x, y, z] = ([x, y, z], neg, true) := by
      rw [posF, if_neg (by rintro ⟨_, h | h⟩ <;> simp_all), hy]; rfl
    have h2 : evalS3 x y z k = cmpR y x z := by unfold evalS3; rw [if_pos hy]
    rw [h1, h2, ← fin_tn (cmpR_wf y x z)]
    rfl
theorem evalP_eq (l : List Bs) (k : List Int) : evalP l k = evalS l k := by
  have hf : evalP l k = fin2 (posF false l) k := rfl
  rw [hf]
  match l with
  | [] => rfl
  | [x] => rw [fin2_one]; rfl
  | [x, y] => rw [fin2_two]; rfl
  | [x, y, z] => rw [fin2_three]; rfl
  | [x, y, z, u] =>
    by_cases hx : x = [33]
    · have h1 : posF false [x, y, z, u] = posF true [y, z, u] := by
        rw [posF, if_pos ⟨hx, .inl (by simp)⟩, if_neg (by simp)]; rfl
      have h2 : evalS [x, y, z, u] k = turnR (evalS3 y z u k) := by
        show evalS4 x y z u k = _
        unfold evalS4; rw [if_pos hx]
      rw [h1, fin2_three, h2]; rfl
    · have h1 : posF false [x, y, z, u] = ([x, y, z, u], false, false) := by
        rw [posF, if_neg (fun h => hx h.1)]; simp
      have h2 : evalS [x, y, z, u] k = (false, 32) := by
        show evalS4 x y z u k = _
        unfold evalS4; rw [if_neg hx]
      rw [h1, h2]; rfl
  | x :: y :: z :: u :: v :: t =>
    have h2 : evalS (x :: y :: z :: u :: v :: t) k = (false, 32) := rfl
    rw [h2]
    by_cases hx : x = [33]
    · have h1 : posF false (x :: y :: z :: u :: v :: t) = ([], false, false) := by
        rw [posF, if_pos ⟨hx, .inl (by simp)⟩, if_pos (by simp)]
      rw [h1]; rfl
    · have h1 : (posF false (x :: y :: z :: u :: v :: t)).2.2 = false := by
        rw [posF, if_neg (fun h => hx h.1)]; simp
      unfold fin2
      rw [if_neg (by simp [h1])]
end Go.Proofs.YtkiahjfcnhpblaaDoor
