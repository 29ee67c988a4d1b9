/- The contract of find: a binary search. -/
import Derived.Test.YtpioelpmdaeieaaGreatDoorVarA
namespace Go.Proofs.YtpioelpmdaeieaaGreatDoor
open Go.RowKit
set_option linter.unusedVariables false
theorem run_sizeOf_n {P : Program} {e : TypeId} {n : Nat} (hs : (P.info? e).map (·.size) = some n) (W : World) : (sizeOf e).run P W = .ok n W := by
  obtain ⟨i, hi, h1⟩ := Option.map_eq_some_iff.1 hs
  simp [sizeOf, typeInfo, hi, h1]
theorem var_at (g1 o m k q : Nat) (i : Int) (hi : i = (q : Int)) (hq : q < m) (W : World) : (Instr.indexAt 22 (.slice (some ⟨g1, o, none⟩) m k) (.int .i64 i)).run Tryz.prog W = .ok (.pointer (some ⟨g1, o + q * 3, none⟩)) W := by
  subst hi
  have hE : Tryz.prog.elem 22 = 42 := by simp [Program.elem, Tryz.underlying22]
  rw [run_indexAt_slice W 22 ⟨g1, o, none⟩ m k .i64 (q : Int) (slice_ht Tryz.underlying22), if_pos ⟨by omega, by omega⟩]
  rw [hE, run_sizeOf_n sizeVar W]
  simp only [Result.andThen, Int.toNat_natCast, at_add]
theorem var_cells {w : World} {B n : Nat} {A : Option Addr} {l : List Vr} (h : Reads w B 3 A n (vvs l)) {k : Nat} {x : Vr} (hp : l[k]? = some x) : ∃ g o, A = some ⟨g, o, none⟩ ∧ g < B ∧ w.cell? ⟨g, o + k * 3, none⟩ = some (.string ⟨x.name.toArray⟩) ∧ w.cell? ⟨g, o + k * 3 + 1, none⟩ = some (.string ⟨x.value.toArray⟩) ∧ w.cell? ⟨g, o + k * 3 + 2, none⟩ = some (.bool x.exp) := by
  obtain ⟨hk, he⟩ := List.getElem?_eq_some_iff.1 hp
  have hn : l.length = n := by have := h.1; rw [vvs_length] at this; omega
  obtain ⟨g, o, rfl, hg, hc⟩ := cells_of h (by omega) (by rw [vvs_length]; omega)
  refine ⟨g, o, rfl, hg, ?_, ?_, ?_⟩
  · exact hc (k * 3 + 0) _ (by rw [vvs_at l k 0 hk (by omega), he]; rfl)
  · exact hc (k * 3 + 1) _ (by rw [vvs_at l k 1 hk (by omega), he]; rfl)
  · exact hc (k * 3 + 2) _ (by rw [vvs_at l k 2 hk (by omega), he]; rfl)
/-- Where a name stands, or would stand, as the binary search finds it. -/
def nmAt (l : List Vr) (k : Nat) : LB := match l[k]? with
  | some x => x.name
  | none => []
def bsF (l : List Vr) (s : LB) : Nat → Nat → Nat → Nat
  | 0, lo, hi => lo
  | f + 1, lo, hi => if lo < hi then (if Lib.compareBytes (nmAt l ((lo + hi) / 2)) s < 0 then bsF l s f ((lo + hi) / 2 + 1) hi else bsF l s f lo ((lo + hi) / 2)) else lo
theorem bsF_more (l : List Vr) (s : LB) : ∀ (f g lo hi : Nat), hi - lo ≤ f → hi - lo ≤ g → bsF l s f lo hi = bsF l s g lo hi
  | 0, 0, _, _, _, _ => rfl
  | 0, g + 1, lo, hi, h, _ => by
    rw [bsF, bsF, if_neg (by omega)]
  | f + 1, 0, lo, hi, _, h => by
    rw [bsF, bsF, if_neg (by omega)]
  | f + 1, g + 1, lo, hi, h1, h2 => by
    rw [bsF, bsF]
    split
    · split
      · exact bsF_more l s f g _ _ (by omega) (by omega)
      · exact bsF_more l s f g _ _ (by omega) (by omega)
    · rfl
theorem bsF_step (l : List Vr) (s : LB) (lo hi : Nat) (h : lo < hi) : bsF l s (hi - lo) lo hi = if Lib.compareBytes (nmAt l ((lo + hi) / 2)) s < 0 then bsF l s (hi - ((lo + hi) / 2 + 1)) ((lo + hi) / 2 + 1) hi else bsF l s ((lo + hi) / 2 - lo) lo ((lo + hi) / 2) := by
  obtain ⟨f, hf⟩ : ∃ f, hi - lo = f + 1 := ⟨hi - lo - 1, by omega⟩
  rw [hf, bsF, if_pos h]
  split
  · exact bsF_more l s _ _ _ _ (by omega) (by omega)
  · exact bsF_more l s _ _ _ _ (by omega) (by omega)
theorem bsF_le (l : List Vr) (s : LB) : ∀ (f lo hi : Nat), lo ≤ hi → lo ≤ bsF l s f lo hi ∧ bsF l s f lo hi ≤ hi
  | 0, lo, hi, h => ⟨Nat.le_refl _, h⟩
  | f + 1, lo, hi, h => by
    rw [bsF]
    split
    · split
      · have := bsF_le l s f ((lo + hi) / 2 + 1) hi (by omega); omega
      · have := bsF_le l s f lo ((lo + hi) / 2) (by omega); omega
    · exact ⟨Nat.le_refl _, h⟩
def findP (l : List Vr) (s : LB) : Nat := bsF l s l.length 0 l.length
def foundP (l : List Vr) (s : LB) : Bool := decide (findP l s < l.length) && (Lib.compareBytes (nmAt l (findP l s)) s == 0)
set_option maxRecDepth 100000 in
set_option maxHeartbeats 4000000 in
theorem search_any (l : List Vr) (s : LB) (A : Option Addr) (n c : Nat) (w : World) (hR : RdV w A n l) (hn : n ≤ 1000) : Calls Tryz.prog 49 #[.slice A n c, .string ⟨s.toArray⟩, .func (.func 50) #[] #[]] w fun e w' => e = .returned (.tuple #[.int .i64 (findP l s : Int), .bool (foundP l s)]) ∧ Below w.heap.size w w' := by
  have hl := hR.len
  obtain ⟨R, hRE⟩ : ∃ R, findP l s = R := ⟨_, rfl⟩
  have HFO : Hid (foundP l s = (decide (R < l.length) && (Lib.compareBytes (nmAt l R) s == 0))) := hide (by unfold foundP; rw [hRE])
  have HRL : Hid (R ≤ n) := hide (by rw [← hRE, ← hl]; exact (bsF_le l s _ 0 _ (Nat.zero_le _)).2)
  have HRE : Hid (bsF l s (n - 0) 0 n = R) := hide (by rw [← hRE, ← hl]; rfl)
  rw [hRE]
  generalize foundP l s = FO at *
  have HR := hide hR
  have HL := hide hl
  clear hR hl hRE
  go_enter Tryz.func49, Tryz.ntmps49
  go_wp2_with fail
  go_loopw [9, 10] (fun u9 u10 wx => ∃ lo hi : Nat, lo ≤ hi ∧ hi ≤ n ∧ u9 = .int .i64 (lo : Int) ∧ u10 = .int .i64 (hi : Int) ∧ Hid (bsF l s (hi - lo) lo hi = R) ∧ Hid (Below w.heap.size w wx)) (fun u9 u10 _ => (intOf u10 - intOf u9).toNat)
  case atStart => exact ⟨0, n, Nat.zero_le _, Nat.le_refl _, rfl, rfl, HRE, hide (Below.refl _ _)⟩
  case round =>
    clear HRE
    obtain ⟨lo, hi, hlh, hin, rfl, rfl, HB, HW⟩ := hrel
    by_cases hlt : lo < hi
    · obtain ⟨m, hm⟩ : ∃ m, (lo + hi) / 2 = m := ⟨_, rfl⟩
      have hm1 : lo ≤ m ∧ m < hi := by omega
      obtain ⟨x, hx⟩ : ∃ x, l[m]? = some x := ⟨_, List.getElem?_eq_getElem (by have := HL.out; omega)⟩
      have hst := bsF_step l s lo hi hlt
      rw [hm] at hst
      have hna : nmAt l m = x.name := by unfold nmAt; rw [hx]
      rw [hna] at hst
      have HST := hide hst
      obtain ⟨g, o, rfl, hg, q0, q1, q2⟩ := var_cells (HR.out.below HW.out) hx
      have hia := fun W => var_at g o n c m (m : Int) rfl (by omega) W
      have XC := hide (cmp_any x s wr)
      have hsum : IntKind.i64.wrap ((lo : Int) + (hi : Int)) = (lo : Int) + (hi : Int) := by simp [IntKind.wrap, IntKind.bits, IntKind.signed]; omega
      have hlt' : (lo : Int) < (hi : Int) := by omega
      have HM := hide hm
      rw [← hm] at q0 q1 q2 hia
      obtain ⟨nm, vl, ex⟩ := x
      dsimp only at q0 q1 q2
      unfold Vr.v at XC
      dsimp only at XC HST
      obtain ⟨r, hr⟩ : ∃ r, Lib.compareBytes nm s = r := ⟨_, rfl⟩
      rw [hr] at XC HST
      clear hst hna hx hm hr
      go_wp2_with fail
      refine XC.out.mono ?_
      rintro e w1 ⟨rfl, hb⟩
      have HW2 := hide (below_more HW.out (Nat.le_refl _) hb)
      clear hb XC hia q0 q1 q2 hsum
      by_cases hr0 : r < 0
      · have HB2 : Hid (bsF l s (hi - (m + 1)) (m + 1) hi = R) := hide (by rw [← HB.out, HST.out, if_pos hr0])
        have kw : IntKind.i64.wrap (((lo : Int) + (hi : Int)) / 2 + 1) = ((lo : Int) + (hi : Int)) / 2 + 1 := by simp [IntKind.wrap, IntKind.bits, IntKind.signed]; omega
        go_wp2_with fail
        go_roundw
        case rel => exact ⟨m + 1, hi, by omega, hin, by congr 1; have := HM.out; omega, rfl, HB2, HW2⟩
        case measure => simp [intOf]; omega
      · have HB2 : Hid (bsF l s (m - lo) lo m = R) := hide (by rw [← HB.out, HST.out, if_neg hr0])
        go_wp2_with fail
        go_roundw
        case rel => exact ⟨lo, m, hm1.1, by omega, rfl, by congr 1; have := HM.out; omega, HB2, HW2⟩
        case measure => simp [intOf]; omega
    · have hlt' : ¬ (lo : Int) < (hi : Int) := by omega
      obtain rfl : lo = hi := by omega
      have hRl : R = lo := by
        have := HB.out
        rw [Nat.sub_self] at this
        exact this.symm
      subst hRl
      by_cases hn2 : R < n
      · obtain ⟨x, hx⟩ : ∃ x, l[R]? = some x := ⟨_, List.getElem?_eq_getElem (by have := HL.out; omega)⟩
        have hna : nmAt l R = x.name := by unfold nmAt; rw [hx]
        have HFO2 : Hid (FO = (Lib.compareBytes x.name s == 0)) := hide (by rw [HFO.out, hna, decide_eq_true (by have := HL.out; omega : R < l.length)]; simp)
        obtain ⟨g, o, rfl, hg, q0, q1, q2⟩ := var_cells (HR.out.below HW.out) hx
        have hia := fun W => var_at g o n c R (R : Int) rfl hn2 W
        have XC := hide (cmp_any x s wr)
        have k2 : (R : Int) < (n : Int) := by omega
        obtain ⟨nm, vl, ex⟩ := x
        dsimp only at q0 q1 q2
        unfold Vr.v at XC
        dsimp only at XC HFO2
        obtain ⟨r, hr⟩ : ∃ r, Lib.compareBytes nm s = r := ⟨_, rfl⟩
        rw [hr] at XC HFO2
        clear hx hna hr HFO HB
        go_wp2_with fail
        refine XC.out.mono ?_
        rintro e w1 ⟨rfl, hb⟩
        have HW2 := hide (below_more HW.out (Nat.le_refl _) hb)
        clear hb XC hia q0 q1 q2
        go_wp2_with fail
        refine bodyPost_ret (v := .tuple #[.int .i64 (R : Int), .bool (r == 0)]) (by simp only [results, Tryz.results49]; go_simp) rfl ⟨by rw [HFO2.out], HW2.out⟩
      · have k2 : ¬ (R : Int) < (n : Int) := by omega
        have HFO2 : Hid (FO = false) := hide (by rw [HFO.out, decide_eq_false (by have := HL.out; omega : ¬ R < l.length)]; rfl)
        clear HFO HB
        go_wp2_with fail
        refine bodyPost_ret (v := .tuple #[.int .i64 (R : Int), .bool false]) (by simp only [results, Tryz.results49]; go_simp) rfl ⟨by rw [HFO2.out], HW.out⟩
end Go.Proofs.YtpioelpmdaeieaaGreatDoor
