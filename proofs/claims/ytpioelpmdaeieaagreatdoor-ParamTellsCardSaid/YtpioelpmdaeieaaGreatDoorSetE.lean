/- The contract of param.Env. -/
import Derived.Test.YtpioelpmdaeieaaGreatDoorSetD
namespace Go.Proofs.YtpioelpmdaeieaaGreatDoor
open Go.RowKit
set_option linter.unusedVariables false
def expT (x : Vr) : LB := textS (x.name, x.value)
def expsP (l : List Vr) : List LB := (l.filter Vr.exp).map expT
def envP (l : List Vr) : List LB := if checkP l = true then ofP (expsP l) else []
theorem exps_next {l : List Vr} {i : Nat} {x : Vr} (h : l[i]? = some x) : expsP (l.take (i + 1)) = expsP (l.take i) ++ (if x.exp = true then [expT x] else []) := by
  obtain ⟨h1, h2⟩ := List.getElem?_eq_some_iff.1 h
  unfold expsP
  rw [List.take_succ_eq_append_getElem h1, h2, List.filter_append, List.map_append, List.filter_cons, List.filter_nil]
  congr 1
  split <;> rfl
theorem exps_len (l : List Vr) : (expsP l).length ≤ l.length := by unfold expsP; rw [List.length_map]; exact List.length_filter_le _ _
set_option maxRecDepth 100000 in
set_option maxHeartbeats 8000000 in
theorem env_any (l : List Vr) (hs : ∀ x ∈ l, x.name.length ≤ 100000) (A : Option Addr) (n c : Nat) (w : World) (hR : RdV w A n l) (hn : n ≤ 1000) :
    Calls Tryz.prog 19 #[.slice A n c] w fun e w' => ∃ A' c', e = .returned (.slice A' (envP l).length c') ∧ Ow w.heap.size w' A' (envP l).length c' (envP l) ∧ Below w.heap.size w w' := by
  obtain ⟨i0, hi, hz0, hz1, hz2⟩ := info_parts infoStr
  have hl := hR.len
  have XC := hide (check_any l hs A n c w hR hn)
  obtain ⟨R, hRE⟩ : ∃ R, envP l = R := ⟨_, rfl⟩
  rw [hRE]
  have HRE : Hid (R = if checkP l = true then ofP (expsP l) else []) := hide (by rw [← hRE]; rfl)
  have HV : Hid (checkP l = true → ∀ x ∈ l, x.name.length ≤ 32 ∧ x.value.length ≤ 1024) := hide (fun h x hx => by
    have hv := ((check_iff l).1 h).2.1 x hx
    unfold validP at hv
    simp only [Bool.and_eq_true, decide_eq_true_eq] at hv
    have hnm := hv.1.1
    rw [name_eq] at hnm
    simp only [Bool.and_eq_true, decide_eq_true_eq] at hnm
    exact ⟨hnm.1.1.2, hv.1.2⟩)
  have HR := hide hR
  have HL := hide hl
  clear hR hl hs hRE
  generalize checkP l = ck at *
  cases ck with
  | false =>
    obtain rfl : R = [] := by rw [HRE.out]; rfl
    go_enter Tryz.func19, Tryz.ntmps19
    go_wp2_with fail
    refine XC.out.mono ?_
    rintro e w1 ⟨rfl, hb⟩
    have HB := hide hb
    clear hb
    go_wp2_with fail
    go_ret
    exact ⟨none, 0, rfl, Ow.none_ _ _, HB.out⟩
  | true =>
    have HR2 : Hid (R = ofP (expsP l)) := hide (by rw [HRE.out]; rfl)
    have HV2 := hide (HV.out rfl)
    clear HRE HV
    go_enter Tryz.func19, Tryz.ntmps19
    go_wp2_with fail
    refine XC.out.mono ?_
    rintro e w1 ⟨rfl, hb⟩
    have HB1 := hide hb
    have HR1 := hide (HR.out.below hb)
    clear hb XC
    go_wp2_with fail
    go_loopw [3, 5, 11] (fun u3 _ u11 wx => ∃ (k m : Nat) (A' : Option Addr) (c' : Nat), k ≤ n ∧ m ≤ k ∧ u11 = .int .i64 (k : Int) ∧ u3 = .slice A' m c' ∧ Hid (Ow w1.heap.size wx A' m c' (expsP (l.take k))) ∧ Hid (Below w1.heap.size w1 wx)) (fun _ _ u11 _ => n - (intOf u11).toNat)
    case atStart => exact ⟨0, 0, none, 0, by omega, by omega, rfl, rfl, hide (Ow.none_ _ _), hide (Below.refl _ _)⟩
    case round =>
      obtain ⟨k, m, A', c', hkn, hmk, rfl, rfl, HO, HB⟩ := hrel
      by_cases hlt : k < n
      · obtain ⟨x, hx⟩ : ∃ x, l[k]? = some x := ⟨_, List.getElem?_eq_getElem (by have := HL.out; omega)⟩
        obtain ⟨hv1, hv2⟩ := HV2.out x (List.mem_of_getElem? hx)
        obtain ⟨g, o, rfl, hg, q0, q1, q2⟩ := var_cells (HR1.out.below HB.out) hx
        have hia := fun W => var_at g o n c k (k : Int) rfl hlt W
        have HNX := hide (exps_next hx)
        have hlt' : (k : Int) < (n : Int) := by omega
        have HB2 : ∀ a : Obj, Below w1.heap.size w1 (wr.alloc a) := fun a => HB.out.alloc HB.out.size a
        have HB2 := hide HB2
        have HO2 : ∀ a : Obj, Ow w1.heap.size (wr.alloc a) A' m c' (expsP (l.take k)) := fun a => HO.out.alloc a
        have HO2 := hide HO2
        obtain ⟨nm, vl, ex⟩ := x
        dsimp only at q0 q1 q2 HNX hv1 hv2
        clear hx
        cases ex with
        | false =>
          have HNX2 : Hid (expsP (l.take (k + 1)) = expsP (l.take k)) := hide (by rw [HNX.out]; simp)
          go_wp2_with fail
          go_roundw
          case rel => exact ⟨k + 1, m, A', c', by omega, by omega, by go_num, rfl, hide (by rw [HNX2.out]; exact HO2.out _), hide (HB2.out _)⟩
          case measure => simp [intOf]; omega
        | true =>
          have HNX2 : Hid (expsP (l.take (k + 1)) = expsP (l.take k) ++ [expT ⟨nm, vl, true⟩]) := hide (by rw [HNX.out]; simp)
          obtain ⟨t, ht⟩ : ∃ t, expT ⟨nm, vl, true⟩ = t := ⟨_, rfl⟩
          have HE : Hid ((⟨nm.toArray⟩ ++ ⟨#[61]⟩) ++ ⟨vl.toArray⟩ = (⟨t.toArray⟩ : ByteArray)) := hide (by
            have e1 := catB nm [61]
            have e2 := catB (nm ++ [61]) vl
            rw [show (⟨#[61]⟩ : ByteArray) = ⟨([61] : LB).toArray⟩ from rfl, e1, e2, ← ht]
            unfold expT textS
            simp)
          rw [ht] at HNX2
          clear HNX ht
          obtain ⟨W2, hW2⟩ : ∃ W, wr.alloc (.cells #[.string ⟨nm.toArray⟩, .string ⟨vl.toArray⟩, .bool true] 42) = W := ⟨_, rfl⟩
          have hr1 := one_str W2 t
          have hO1 := (HO2.out (.cells #[.string ⟨nm.toArray⟩, .string ⟨vl.toArray⟩, .bool true] 42)).alloc (.cells #[.string ⟨t.toArray⟩] 9)
          have hO0 := HO2.out (.cells #[.string ⟨nm.toArray⟩, .string ⟨vl.toArray⟩, .bool true] 42)
          have hB0 := HB2.out (.cells #[.string ⟨nm.toArray⟩, .string ⟨vl.toArray⟩, .bool true] 42)
          rw [hW2] at hO1 hO0 hB0
          have HO0 := hide hO0
          have HB0 := hide hB0
          have hsz2 := hB0.size
          rw [← hW2, ← HE.out] at hr1 hO1
          rw [← hW2] at hsz2
          simp only [World.size_alloc] at hr1
          have HW2 := hide hW2
          have hza : ¬ 9223372036854775807 < nm.length + 1 := by omega
          have hzb : ¬ 9223372036854775807 < nm.length + 1 + vl.length := by omega
          clear hO0 hB0 hW2 HB2 HO2
          go_wp2_with (at_builtin; (refine wpList_append_any _ rfl (.tmp 17) (.tmp 24) 37 rfl w1.heap.size 9 i0 _ 1 16 Tryz.underlying37 hi hz0 hz1 hz2 rfl (by omega) (.slice A' m c') m (svs (expsP (l.take k))) rfl hO1 (wr.heap.size + 1 + 1) (some ⟨wr.heap.size + 1, 0, none⟩) 1 1 (svs [t]) rfl hr1 (svs_one _) ?c1 ?c2 ?c3 ?_))
          case c1 => unfold maxLen; omega
          case c2 => omega
          case c3 => simp at hsz2 ⊢; omega
          intro v1 w6 hown1 hg1 hat1
          rw [HW2.out] at hg1
          obtain ⟨A2, c2, rfl, O2, W2'⟩ := ow_next' HO0.out hown1 hg1 HB0.out (Nat.le_refl _)
          have HO6 : Hid (Ow w1.heap.size w6 A2 (m + 1) c2 (expsP (l.take (k + 1)))) := hide (by rw [HNX2.out]; exact O2)
          have HB6 := hide W2'
          clear hown1 hg1 hat1 O2 W2' hr1 hO1
          go_wp2_with fail
          go_roundw
          case rel => exact ⟨k + 1, m + 1, A2, c2, by omega, by omega, by go_num, rfl, HO6, HB6⟩
          case measure => simp [intOf]; omega
      · have hlt' : ¬ (k : Int) < (n : Int) := by omega
        obtain rfl : k = n := by omega
        have HOE : Hid (Ow w1.heap.size wr A' m c' (expsP l)) := hide (by have := HO.out; rwa [List.take_of_length_le (by rw [HL.out]; exact Nat.le_refl _)] at this)
        have XO := hide (of_any (expsP l) (fun s hsm => by
          unfold expsP at hsm
          obtain ⟨x, hx, rfl⟩ := List.mem_map.1 hsm
          have := HV2.out x (List.mem_filter.1 hx).1
          unfold expT textS
          rw [List.length_append, List.length_cons]
          dsimp only
          omega) A' m c' wr HOE.out.rd (by omega))
        rw [← HR2.out] at XO
        have HBE := hide (below_more HB1.out (Nat.le_refl _) (HB.out.mono (Nat.le_refl _)))
        obtain ⟨q, hq⟩ : ∃ q, R.length = q := ⟨_, rfl⟩
        have HQ := hide hq
        rw [hq] at XO
        clear hq
        go_wp2_with fail
        refine XO.out.mono ?_
        rintro e w8 ⟨A2, c2, rfl, hO, hb⟩
        have HO8 := hide (hO.more HBE.out.size)
        have HB8 := hide (below_more HBE.out (Nat.le_refl _) hb)
        clear hO hb
        go_wp2_with fail
        go_ret
        exact ⟨A2, c2, by rw [HQ.out]; rfl, by rw [HQ.out]; exact HO8.out, HB8.out⟩
end Go.Proofs.YtpioelpmdaeieaaGreatDoor
