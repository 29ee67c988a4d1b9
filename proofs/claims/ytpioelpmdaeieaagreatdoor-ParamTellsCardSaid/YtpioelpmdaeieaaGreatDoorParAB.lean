/- The document's Env of variables. -/
import Derived.Test.YtpioelpmdaeieaaGreatDoorParAA
namespace Go.Proofs.YtpioelpmdaeieaaGreatDoor
open Go.RowKit
set_option linter.unusedVariables false
set_option maxRecDepth 100000 in
set_option maxHeartbeats 8000000 in
theorem renv_any (l : List Vr) (hs : ∀ x ∈ l, x.name.length ≤ 100000) (A : Option Addr) (n c : Nat) (w : World) (hR : RdV w A n l) (hn : n ≤ 1000) :
    Calls Tryz.prog 20 #[.slice A n c] w fun e w' => ∃ A' c', e = .returned (.slice A' (envP l).length c') ∧ Reads w' w'.heap.size 1 A' (envP l).length (svs (envP l)) ∧ Below w.heap.size w w' := by
  obtain ⟨i0, hi, hz0, hz1, hz2⟩ := info_parts infoStr
  have hl := hR.len
  have XC := hide (rcheck_any l hs A n c w hR hn)
  obtain ⟨R, hRE⟩ : ∃ R, envP l = R := ⟨_, rfl⟩
  rw [hRE]
  have HRE : Hid (R = if checkP l = true then ofP (expsP l) else []) := hide (by rw [← hRE]; rfl)
  have HV : Hid (checkP l = true → ∀ x ∈ l, x.name.length ≤ 32 ∧ x.value.length ≤ 1024) := hide (fun h x hx => by
    have hv := ((check_iff l).1 h).2.1 x hx
    unfold validP at hv
    simp only [Bool.and_eq_true, decide_eq_true_eq] at hv
    have hnm := hv.1.1
    rw [name_eq] at hnm
    simp only [Bool.and_eq_true, decide_eq_true_eq] at hnm
    exact ⟨hnm.1.1.2, hv.1.2⟩)
  have HR := hide hR
  have HL := hide hl
  clear hR hl hs hRE
  generalize checkP l = ck at *
  cases ck with
  | false =>
    obtain rfl : R = [] := by rw [HRE.out]; rfl
    go_enter Tryz.func20, Tryz.ntmps20
    go_wp2_with fail
    refine XC.out.mono ?_
    rintro e w1 ⟨rfl, hb⟩
    have HB := hide hb
    clear hb
    go_wp2_with fail
    go_ret
    first | exact ⟨none, 0, rfl, Reads.none_, HB.out⟩ | exact ⟨none, ⟨0, rfl⟩, Reads.none_, HB.out⟩
  | true =>
    have HR2 : Hid (R = ofP (expsP l)) := hide (by rw [HRE.out]; rfl)
    have HV2 := hide (HV.out rfl)
    clear HRE HV
    go_enter Tryz.func20, Tryz.ntmps20
    go_wp2_with fail
    refine XC.out.mono ?_
    rintro e w1 ⟨rfl, hb⟩
    have HB1 := hide hb
    have HR1 := hide (HR.out.below hb)
    clear hb XC
    go_wp2_with fail
    go_loopw [3, 4] (fun u3 u4 wx => ∃ (k m : Nat) (A' : Option Addr) (c' : Nat), k ≤ n ∧ m ≤ k ∧ u4 = .int .i64 (k : Int) ∧ u3 = .slice A' m c' ∧ Hid (Ow w1.heap.size wx A' m c' (expsP (l.take k))) ∧ Hid (Below w1.heap.size w1 wx)) (fun _ u4 _ => n - (intOf u4).toNat)
    case atStart => exact ⟨0, 0, none, 0, by omega, by omega, rfl, rfl, hide (Ow.none_ _ _), hide (Below.refl _ _)⟩
    case round =>
      obtain ⟨k, m, A', c', hkn, hmk, rfl, rfl, HO, HB⟩ := hrel
      by_cases hlt : k < n
      · obtain ⟨x, hx⟩ : ∃ x, l[k]? = some x := ⟨_, List.getElem?_eq_getElem (by have := HL.out; omega)⟩
        obtain ⟨hv1, hv2⟩ := HV2.out x (List.mem_of_getElem? hx)
        obtain ⟨g, o, rfl, hg1, p0, p1, p2⟩ := var_cells HR1.out hx
        have q0 := (HB.out.cell (p := ⟨g, o + k * 3, none⟩) hg1).trans p0
        have q1 := (HB.out.cell (p := ⟨g, o + k * 3 + 1, none⟩) hg1).trans p1
        have q2 := (HB.out.cell (p := ⟨g, o + k * 3 + 2, none⟩) hg1).trans p2
        have hg : g < wr.heap.size := Nat.lt_of_lt_of_le hg1 HB.out.size
        have P0 := hide p0
        have P1 := hide p1
        have HG1 := hide hg1
        clear p0 p1 p2 hg1
        have hia := fun W => var_at g o n c k (k : Int) rfl hlt W
        have HNX := hide (exps_next hx)
        have hlt' : (k : Int) < (n : Int) := by omega
        obtain ⟨nm, vl, ex⟩ := x
        dsimp only at q0 q1 q2 HNX hv1 hv2 P0 P1
        clear hx
        cases ex with
        | false =>
          have HNX2 : Hid (expsP (l.take (k + 1)) = expsP (l.take k)) := hide (by rw [HNX.out]; simp)
          go_wp2_with fail
          go_roundw
          case rel => exact ⟨k + 1, m, A', c', by omega, by omega, by go_num, rfl, hide (by rw [HNX2.out]; exact HO.out), HB⟩
          case measure => simp [intOf]; omega
        | true =>
          have HNX2 : Hid (expsP (l.take (k + 1)) = expsP (l.take k) ++ [expT ⟨nm, vl, true⟩]) := hide (by rw [HNX.out]; simp)
          obtain ⟨t, ht⟩ : ∃ t, expT ⟨nm, vl, true⟩ = t := ⟨_, rfl⟩
          have HE : Hid ((⟨nm.toArray⟩ ++ ⟨#[61]⟩) ++ ⟨vl.toArray⟩ = (⟨t.toArray⟩ : ByteArray)) := hide (by
            have e1 := catB nm [61]
            have e2 := catB (nm ++ [61]) vl
            rw [show (⟨#[61]⟩ : ByteArray) = ⟨([61] : LB).toArray⟩ from rfl, e1, e2, ← ht]
            unfold expT textS
            simp)
          rw [ht] at HNX2
          clear HNX ht
          have HR1' := hide (one_str wr t)
          have HO1' := hide (HO.out.alloc (.cells #[.string ⟨t.toArray⟩] 9))
          have hsz2 := HB.out.size
          have Q0 := hide q0
          have Q1 := hide q1
          have hza : ¬ 9223372036854775807 < nm.length + 1 := by omega
          have hzb : ¬ 9223372036854775807 < nm.length + 1 + vl.length := by omega
          go_wp2_with fail
          refine wp_region_M (fun V => V.cell? ⟨g, o + k * 3, none⟩ = some (.string ⟨nm.toArray⟩) ∧ V.cell? ⟨g, o + k * 3 + 1, none⟩ = some (.string ⟨vl.toArray⟩)) 15 rfl ⟨q0, q1⟩ (fun hHeld => ?_)
          clear q0 q1 q2
          refine wpAnyM_take (i := 0) (v := ?_) rfl rfl (by kernel_rfl) (fun _ _ _ h => h) (Or.inl ⟨by rfl, ?_⟩) (by assumption) ?_
          rotate_left
          · (intro V hV; (try dsimp only at hV); go_simp; with_reducible rfl)
          try simp only [Act.put, List.setIfInBounds_toArray, List.set_cons_zero, List.set_cons_succ]
          refine wpAnyM_take (i := 1) (v := ?_) rfl rfl (by kernel_rfl) (fun _ _ _ h => h) (Or.inl ⟨by rfl, ?_⟩) (by assumption) ?_
          rotate_left
          · (intro V hV; (try dsimp only at hV); go_simp; with_reducible rfl)
          try simp only [Act.put, List.setIfInBounds_toArray, List.set_cons_zero, List.set_cons_succ]
          refine wpAnyM_take (i := 2) (v := ?_) rfl rfl (by kernel_rfl) (fun _ _ _ h => h) (Or.inl ⟨by rfl, ?_⟩) (by assumption) ?_
          rotate_left
          · (intro V hV; (try dsimp only at hV); go_simp; with_reducible rfl)
          try simp only [Act.put, List.setIfInBounds_toArray, List.set_cons_zero, List.set_cons_succ]
          refine wpAnyM_take (i := 3) (v := ?_) rfl rfl (by kernel_rfl) (fun _ _ _ h => h) (Or.inl ⟨by rfl, ?_⟩) (by assumption) ?_
          rotate_left
          · (intro V hV; (try dsimp only at hV); go_simp; with_reducible rfl)
          try simp only [Act.put, List.setIfInBounds_toArray, List.set_cons_zero, List.set_cons_succ]
          refine wpAnyM_take (i := 4) (v := ?_) rfl rfl (by kernel_rfl) (fun _ _ _ h => h) (Or.inl ⟨by rfl, ?_⟩) (by assumption) ?_
          rotate_left
          · (intro V hV; (try dsimp only at hV); go_simp; with_reducible rfl)
          try simp only [Act.put, List.setIfInBounds_toArray, List.set_cons_zero, List.set_cons_succ]
          refine wpAnyM_take (i := 5) (v := ?_) rfl rfl (by kernel_rfl) (fun _ _ _ h => h) (Or.inl ⟨by rfl, ?_⟩) (by assumption) ?_
          rotate_left
          · (intro V hV; (try dsimp only at hV); go_simp; with_reducible rfl)
          try simp only [Act.put, List.setIfInBounds_toArray, List.set_cons_zero, List.set_cons_succ]
          refine wpAnyM_take (i := 6) (v := ?_) rfl rfl (by kernel_rfl) (fun _ _ _ h => h) (Or.inl ⟨by rfl, ?_⟩) (by assumption) ?_
          rotate_left
          · (intro V hV; (try dsimp only at hV); go_simp; with_reducible rfl)
          try simp only [Act.put, List.setIfInBounds_toArray, List.set_cons_zero, List.set_cons_succ]
          refine wpAnyM_take (i := 7) (v := ?_) rfl rfl (by kernel_rfl) (fun _ _ _ h => h) (Or.inl ⟨by rfl, ?_⟩) (by assumption) ?_
          rotate_left
          · (intro V hV; (try dsimp only at hV); go_simp; with_reducible rfl)
          try simp only [Act.put, List.setIfInBounds_toArray, List.set_cons_zero, List.set_cons_succ]
          refine wpAnyM_take (i := 8) (v := ?_) rfl rfl (by kernel_rfl) (fun _ _ _ h => h) (Or.inl ⟨by rfl, ?_⟩) (by assumption) ?_
          rotate_left
          · (intro V hV; (try dsimp only at hV); go_simp; with_reducible rfl)
          try simp only [Act.put, List.setIfInBounds_toArray, List.set_cons_zero, List.set_cons_succ]
          refine wpAnyM_take (i := 9) (v := ?_) rfl rfl (by kernel_rfl) (fun _ _ _ h => h) (Or.inl ⟨by rfl, ?_⟩) (by assumption) ?_
          rotate_left
          · (intro V hV; (try dsimp only at hV); go_simp; with_reducible rfl)
          try simp only [Act.put, List.setIfInBounds_toArray, List.set_cons_zero, List.set_cons_succ]
          refine wpAnyM_take (i := 10) (v := ?_) rfl rfl (by kernel_rfl) (fun _ _ _ h => h) (Or.inl ⟨by rfl, ?_⟩) (by assumption) ?_
          rotate_left
          · (intro V hV; (try dsimp only at hV); go_simp; with_reducible rfl)
          try simp only [Act.put, List.setIfInBounds_toArray, List.set_cons_zero, List.set_cons_succ]
          refine wpAnyM_take (i := 11) (v := ?_) rfl rfl (by kernel_rfl) (fun _ _ _ h => h) (Or.inl ⟨by rfl, ?_⟩) (by assumption) ?_
          rotate_left
          · (intro V hV; (try dsimp only at hV); go_simp; with_reducible rfl)
          try simp only [Act.put, List.setIfInBounds_toArray, List.set_cons_zero, List.set_cons_succ]
          refine wpAnyM_take (i := 12) (v := ?_) rfl rfl (by kernel_rfl) (fun _ _ _ h => h) (Or.inl ⟨by rfl, ?_⟩) (by assumption) ?_
          rotate_left
          · (intro V hV; (try dsimp only at hV); go_simp; with_reducible rfl)
          try simp only [Act.put, List.setIfInBounds_toArray, List.set_cons_zero, List.set_cons_succ]
          refine wpAnyM_step (i := 13) (by kernel_rfl) rfl rfl (fun K hK => ?_)
          go_simp
          rw [HE.out]
          refine hK.out _ _ (fun _ => ⟨(World.cell?_alloc_lt _ _ _ hg).trans Q0.out, (World.cell?_alloc_lt _ _ _ hg).trans Q1.out⟩) ?_
          clear hK K hHeld
          simp only [List.setIfInBounds_toArray]
          refine wpAnyM_step (i := 14) (by kernel_rfl) rfl rfl (fun K hK => ?_)
          refine step_append_any _ rfl (.tmp 19) (.tmp 32) 37 rfl w1.heap.size 9 i0 _ 1 16 Tryz.underlying37 hi hz0 hz1 hz2 rfl (by omega) (.slice A' m c') m (svs (expsP (l.take k))) rfl (by exact HO1'.out) (wr.heap.size + 1) (some ⟨wr.heap.size, 0, none⟩) 1 1 (svs [t]) rfl (by exact HR1'.out) (svs_one _) (by unfold maxLen; omega) (by omega) (by show _ ≤ (wr.alloc _).heap.size; simp; omega) ?_
          intro v4 w4 hown4 hg4 hat4
          have hg4' : (wr.alloc (.cells #[.string ⟨t.toArray⟩] 9)).grownBy w4 (Value.slice A' m c').ownBlock := ⟨hg4.os, hg4.tape, hg4.output, hg4.size, hg4.block⟩
          obtain ⟨A2, c2, rfl, O2, B2⟩ := ow_next' HO.out hown4 hg4' HB.out (Nat.le_refl _)
          have HO6 : Hid (Ow w1.heap.size w4 A2 (m + 1) c2 (expsP (l.take (k + 1)))) := hide (by rw [HNX2.out]; exact O2)
          have HB6 := hide B2
          have HS4 : (fun V : World => V.cell? ⟨g, o + k * 3, none⟩ = some (.string ⟨nm.toArray⟩) ∧ V.cell? ⟨g, o + k * 3 + 1, none⟩ = some (.string ⟨vl.toArray⟩)) w4 := ⟨(HB6.out.cell (p := ⟨g, o + k * 3, none⟩) HG1.out).trans P0.out, (HB6.out.cell (p := ⟨g, o + k * 3 + 1, none⟩) HG1.out).trans P1.out⟩
          refine hK.out _ _ (fun _ => HS4) ?_
          clear hK K hown4 hg4 hg4' hat4 O2 B2 HR1' HO1'
          simp only [List.setIfInBounds_toArray]
          refine wpAnyM_step (i := 15) (by kernel_rfl) rfl rfl (fun K hK => ?_)
          go_simp
          refine hK.out _ _ (fun h => absurd rfl h) ?_
          refine wpAnyM_done (by kernel_rfl) ?_ _
          clear hK K HS4
          go_wp2_with fail
          go_roundw
          case rel => exact ⟨k + 1, m + 1, A2, c2, by omega, by omega, by go_num, rfl, HO6, HB6⟩
          case measure => simp [intOf]; omega
      · have hlt' : ¬ (k : Int) < (n : Int) := by omega
        obtain rfl : k = n := by omega
        have HOE : Hid (Ow w1.heap.size wr A' m c' (expsP l)) := hide (by have := HO.out; rwa [List.take_of_length_le (by rw [HL.out]; exact Nat.le_refl _)] at this)
        have XO := hide (rof_any (expsP l) (fun s hsm => by
          unfold expsP at hsm
          obtain ⟨x, hx, rfl⟩ := List.mem_map.1 hsm
          have := HV2.out x (List.mem_filter.1 hx).1
          unfold expT textS
          rw [List.length_append, List.length_cons]
          dsimp only
          omega) A' m c' wr HOE.out.rd (by omega))
        rw [← HR2.out] at XO
        have HBE := hide (below_more HB1.out (Nat.le_refl _) (HB.out.mono (Nat.le_refl _)))
        obtain ⟨q, hq⟩ : ∃ q, R.length = q := ⟨_, rfl⟩
        have HQ := hide hq
        rw [hq] at XO
        clear hq
        go_wp2_with fail
        refine XO.out.mono ?_
        rintro e w8 ⟨A2, c2, rfl, hO, hb⟩
        have HO8 := hide hO
        have HB8 := hide (below_more HBE.out (Nat.le_refl _) hb)
        clear hO hb
        go_wp2_with fail
        go_ret
        first | exact ⟨A2, c2, by rw [HQ.out]; rfl, by rw [HQ.out]; exact HO8.out, HB8.out⟩ | exact ⟨A2, ⟨c2, by rw [HQ.out]; rfl⟩, by rw [HQ.out]; exact HO8.out, HB8.out⟩
end Go.Proofs.YtpioelpmdaeieaaGreatDoor
