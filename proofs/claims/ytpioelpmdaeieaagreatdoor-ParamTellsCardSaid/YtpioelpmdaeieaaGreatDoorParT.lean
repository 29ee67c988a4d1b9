/- Few and Same at variables; how a row of variables that came in is opened. -/
import Derived.Test.YtpioelpmdaeieaaGreatDoorParR
import Derived.Deep.Slices
import Derived.Deep.Fields
import Derived.Test.YtpioelpmdaeieaaGreatDoorFinBase
namespace Go.Proofs.YtpioelpmdaeieaaGreatDoor
open Go.RowKit
set_option linter.unusedVariables false
def shortV (x : Vr) : Bool := decide (x.name.length ≤ 100) && decide (x.value.length ≤ 1100)
def fewP (l : List Vr) : Bool := decide (l.length ≤ 80) && l.all shortV
set_option maxHeartbeats 4000000 in
theorem few_any (l : List Vr) (A : Option Addr) (n c : Nat) (w : World) (hR : RdV w A n l) : Calls Tryz.prog 7 #[.slice A n c] w fun e w' => e = .returned (.bool (fewP l)) ∧ w = w' := by
  have hl := hR.len
  have HR := hide hR
  have HL := hide hl
  obtain ⟨R, hRE⟩ : ∃ R, fewP l = R := ⟨_, rfl⟩
  have HRE := hide hRE
  rw [hRE]
  clear hR hl hRE
  by_cases h80 : n ≤ 80
  · have k80 : (n : Int) ≤ 80 := by omega
    go_enter Tryz.func7, Tryz.ntmps7
    go_wp2_with fail
    go_loopw [3] (fun u3 wx => ∃ i : Nat, i ≤ n ∧ u3 = .int .i64 (i : Int) ∧ Hid (w = wx) ∧ Hid (∀ x ∈ l.take i, shortV x = true)) (fun u3 _ => n - (intOf u3).toNat)
    case atStart => exact ⟨0, Nat.zero_le _, rfl, hide rfl, hide (fun x h => by simp at h)⟩
    case round =>
      obtain ⟨i, hi, rfl, HW, HF⟩ := hrel
      obtain rfl := HW.out
      by_cases hlt : i < n
      · obtain ⟨x, hx⟩ : ∃ x, l[i]? = some x := ⟨_, List.getElem?_eq_getElem (by have := HL.out; omega)⟩
        obtain ⟨g, o, rfl, hg, q0, q1, q2⟩ := var_cells HR.out hx
        have hia := fun W => var_at g o n c i (i : Int) rfl hlt W
        have hlt' : (i : Int) < (n : Int) := by omega
        have HX := hide hx
        have NO : Hid (shortV x = false → R = false) := hide (fun h => by
          rw [← HRE.out]
          unfold fewP
          rw [List.all_eq_false.2 ⟨x, List.mem_of_getElem? HX.out, by rw [h]; decide⟩, Bool.and_false])
        have YES : Hid (shortV x = true → ∀ y ∈ l.take (i + 1), shortV y = true) := hide (fun h y hy => by
          obtain ⟨g1, g2⟩ := List.getElem?_eq_some_iff.1 HX.out
          rw [List.take_succ_eq_append_getElem g1, g2, List.mem_append, List.mem_singleton] at hy
          rcases hy with hy | rfl
          · exact HF.out y hy
          · exact h)
        obtain ⟨nm, vl, ex⟩ := x
        dsimp only at q0 q1
        unfold shortV at NO YES
        dsimp only at NO YES
        clear hx q2
        by_cases h1 : nm.length ≤ 100
        · have k1 : ¬ (100 : Int) < (nm.length : Int) := by omega
          by_cases h2 : vl.length ≤ 1100
          · have k2 : ¬ (1100 : Int) < (vl.length : Int) := by omega
            have HF2 := hide (YES.out (by rw [decide_eq_true h1, decide_eq_true h2]; rfl))
            go_wp2_with fail
            go_roundw
            case rel => exact ⟨i + 1, by omega, by go_num, (by first | exact hide rfl | exact hide trivial), HF2⟩
            case measure => simp [intOf]; omega
          · have k2 : (1100 : Int) < (vl.length : Int) := by omega
            have HE := hide (NO.out (by rw [decide_eq_false h2, Bool.and_false]))
            go_wp2_with fail
            go_ret
            exact ⟨ret_bool HE.out.symm, rfl⟩
        · have k1 : (100 : Int) < (nm.length : Int) := by omega
          have HE := hide (NO.out (by rw [decide_eq_false h1]; rfl))
          go_wp2_with fail
          go_ret
          exact ⟨ret_bool HE.out.symm, rfl⟩
      · have hlt' : ¬ (i : Int) < (n : Int) := by omega
        obtain rfl : i = n := by omega
        have HE : Hid (R = true) := hide (by
          rw [← HRE.out]
          unfold fewP
          rw [List.all_eq_true.2 (fun x hx => HF.out x (by rw [List.take_of_length_le (by rw [HL.out]; exact Nat.le_refl _)]; exact hx)), HL.out, decide_eq_true h80]; rfl)
        go_wp2_with fail
        go_ret
        exact ⟨ret_bool HE.out.symm, rfl⟩
  · have k80 : ¬ (n : Int) ≤ 80 := by omega
    have HE : Hid (R = false) := hide (by
      rw [← HRE.out]
      unfold fewP
      rw [HL.out, decide_eq_false h80]; rfl)
    have k0 : (0 : Int) < (n : Int) := by omega
    go_enter Tryz.func7, Tryz.ntmps7
    go_wp2_with fail
    go_loop [3] (fun u3 => u3 = .int .i64 0) (fun u3 => 0)
    case atStart => rfl
    case round =>
      obtain rfl := hrel
      go_wp2_with fail
      go_ret
      exact ⟨ret_bool ((decide_eq_false (by omega)).trans HE.out.symm), rfl⟩
set_option maxHeartbeats 1000000 in
theorem same_eq (l : List Vr) (A B : Option Addr) (n c m d : Nat) (w : World) (hA : RdV w A n l) (hB : RdV w B m l) (hn : n ≤ 1000000) :
    Calls Tryz.prog 15 #[.slice A n c, .slice B m d] w fun e w' => e = .returned (.bool true) ∧ Below w.heap.size w w' := by
  have h1 := hA.len
  have h2 := hB.len
  subst h1
  subst h2
  have HA := hide hA
  have HB := hide hB
  clear hA hB
  go_enter Tryz.func15, Tryz.ntmps15
  go_wp2_with fail
  go_loopw [5] (fun u5 wx => ∃ (k : Nat), k ≤ l.length ∧ u5 = .int .i64 k ∧ Hid (Below w.heap.size w wx)) (fun i _ => l.length - (intOf i).toNat)
  case atStart => exact ⟨0, Nat.zero_le _, rfl, hide (Below.refl _ _)⟩
  case round =>
    obtain ⟨k, hkl, rfl, HW⟩ := hrel
    by_cases hlt : k < l.length
    · obtain ⟨x, hx⟩ : ∃ x, l[k]? = some x := ⟨_, List.getElem?_eq_getElem hlt⟩
      obtain ⟨g, o, rfl, hg, q0, q1, q2⟩ := var_cells (HA.out.below HW.out) hx
      obtain ⟨g2, o2, rfl, hg2, p0, p1, p2⟩ := var_cells (HB.out.below HW.out) hx
      have hia := fun W => var_at g o l.length c k (k : Int) rfl hlt W
      have hib := fun W => var_at g2 o2 l.length d k (k : Int) rfl hlt W
      have hi1 : (k : Int) < (l.length : Int) := by omega
      obtain ⟨nm, vl, ex⟩ := x
      dsimp only at q0 q1 q2 p0 p1 p2
      clear hx
      go_wp2_with fail
      go_quiet (fail)
      go_wp2_with fail
      go_roundw
      case rel => exact ⟨k + 1, by omega, by go_num, hide (below_drewN HW.out _)⟩
      case measure => simp [intOf]; omega
    · have hi1 : ¬ (k : Int) < (l.length : Int) := by omega
      obtain rfl : k = l.length := by omega
      go_wp2_with fail
      go_ret
      exact ⟨rfl, HW.out⟩
section
open Go.ChangeShapes Go.WideShapes Go.ChangeAt
open Go.Deep (open_slice)
theorem cVr : Tryz.prog.cellsOf 42 = 3 := by kernel_rfl
set_option maxRecDepth 100000 in
theorem vr_of {H : Type} {enc : TypeId × Value → H} {W : World} {base : Nat} {spare : Nat → Bool} {held : Bool} {fuel : Nat} {cs : List Value} {x : DataW H × List MemPlace}
    (h : DataW.trod enc Tryz.prog W base spare held fuel 42 cs = some x) : ∃ q : Vr, cs = vv q := by
  obtain ⟨xs, n, _, _, hlen, hxl, hf⟩ := DataW.trod_struct Tryz.underlying42 h
  have hl : cs.length = 3 := hlen.trans cVr
  have hx4 : xs.length = 3 := hxl
  match cs, hl, xs, hx4 with
  | [c0, c1, c2], _, [x0, x1, x2], _ =>
    have h0 := hf 0 _ rfl
    have h1 := hf 1 _ rfl
    have h2 := hf 2 _ rfl
    obtain ⟨s, e0, _, _⟩ := DataW.trod_string Tryz.underlying9 h0
    obtain ⟨t, e1, _, _⟩ := DataW.trod_string Tryz.underlying9 h1
    obtain ⟨b, e2, _⟩ := DataW.trod_bool Tryz.underlying4 h2
    have f0 : c0 = .string s := by injection e0
    have f1 : c1 = .string t := by injection e1
    have f2 : c2 = .bool b := by injection e2
    obtain ⟨l, rfl⟩ := bs_of s
    obtain ⟨m, rfl⟩ := bs_of t
    exact ⟨⟨l, m, b⟩, by rw [f0, f1, f2]; rfl⟩
theorem vrs_at {W : World} {a : Addr} : ∀ (n o : Nat), (∀ i, i < n → ∃ q : Vr, ∀ j u, (vv q)[j]? = some u → W.cell? (a.add ((o + i) * 3 + j)) = some u) →
    ∃ l : List Vr, l.length = n ∧ ∀ j u, (vvs l)[j]? = some u → W.cell? (a.add (o * 3 + j)) = some u
  | 0, o, h => ⟨[], rfl, fun j u hj => by simp [vvs] at hj⟩
  | n + 1, o, h => by
    obtain ⟨q, hq⟩ := h 0 (by omega)
    obtain ⟨l, hl, hc⟩ := vrs_at n (o + 1) (fun i hi => by
      obtain ⟨q, hq⟩ := h (i + 1) (by omega)
      exact ⟨q, fun j u hj => by rw [show o + 1 + i = o + (i + 1) by omega]; exact hq j u hj⟩)
    refine ⟨q :: l, by simp [hl], fun j u hj => ?_⟩
    unfold vvs at hj
    have h4 : (vv q).length = 3 := rfl
    rcases Nat.lt_or_ge j 3 with h | h
    · rw [List.getElem?_append_left (by rw [h4]; exact h)] at hj
      exact hq j u hj
    · rw [List.getElem?_append_right (by rw [h4]; exact h), h4] at hj
      have := hc (j - 3) u hj
      rwa [show (o + 1) * 3 + (j - 3) = o * 3 + j by omega] at this
set_option maxRecDepth 100000 in
theorem vrs_of {H : Type} {enc : TypeId × Value → H} {W : World} {base base' : Nat} {spare : Nat → Bool} {held : Bool} {v : Value} {d : DataW H} {p : List MemPlace}
    (hv : Value.okWide Tryz.prog W .any base' 22 v) (h : DataW.Trod enc Tryz.prog W base spare held 22 v d p) :
    ∃ A n c l, v = .slice A n c ∧ RdV W A n l ∧ n ≤ c ∧ c ≤ maxLen := by
  obtain ⟨A, n, c, rfl⟩ := okWide_slice Tryz.underlying22 hv
  obtain ⟨fuel, hf⟩ := h
  rcases open_slice Tryz.underlying22 hf with ⟨hcs, _⟩ | ⟨x, l, cc, m, n', D, Pl, hcs, _, hl, hm, hmm, hd, hcell⟩
  · simp [Value.cells] at hcs
    obtain ⟨rfl, rfl, rfl⟩ := hcs
    exact ⟨none, 0, 0, [], rfl, Reads.none_, Nat.le_refl _, Nat.zero_le _⟩
  · simp [Value.cells] at hcs
    obtain ⟨rfl, rfl, rfl⟩ := hcs
    have hlm : n ≤ m := by rw [hmm]; split <;> omega
    obtain ⟨L, hL, hc⟩ := vrs_at (W := W) (a := x) n 0 (fun i hi => by
      obtain ⟨cs', hc, ht⟩ := hcell i (by omega)
      rw [cVr] at hc
      obtain ⟨_, hcl, hat⟩ := World.cells?_some hc
      obtain ⟨q, rfl⟩ := vr_of ht
      refine ⟨q, fun j u hj => ?_⟩
      have hj4 : j < 3 := by
        rcases Nat.lt_or_ge j 3 with h | h
        · exact h
        · rw [List.getElem?_eq_none (by rw [hcl]; exact h)] at hj; cases hj
      have := hat j hj4
      rw [add_of_add] at this
      rw [Nat.zero_add, this, hj])
    refine ⟨some x, n, c, L, rfl, ⟨by rw [vvs_length, hL], fun hn => ⟨x, rfl, ?_, fun j u hj => ?_⟩⟩, hl, hm⟩
    · have h0 : 0 < (vvs L).length := by rw [vvs_length]; omega
      have := World.block_lt_of_cell? W _ (hc 0 _ (List.getElem?_eq_getElem h0))
      rwa [block_of_add] at this
    · have := hc j u hj
      rwa [Nat.zero_mul, Nat.zero_add] at this
end
end Go.Proofs.YtpioelpmdaeieaaGreatDoor
