/- The contract of the reference's Bare. -/
import Derived.Test.YtpfcfcbljkdkhaaDoorRefX
namespace Go.Proofs.YtpfcfcbljkdkhaaDoor
open Go.RowKit
set_option linter.unusedVariables false
set_option maxRecDepth 100000 in
set_option maxHeartbeats 8000000 in
theorem refbare_any (p : LB) (w : World) (hp : p.length ≤ 100000) : Calls Tryd.prog 12 #[.string ⟨p.toArray⟩] w fun e w' => e = .returned (.tuple #[.string ⟨(bareP p).1.toArray⟩, .bool (bareP p).2]) ∧ Below w.heap.size w w' := by
  obtain ⟨i8, hi8, hz0, hz1, hz2⟩ := info_parts infoU8
  have HI8 := hide hi8
  clear hi8
  obtain ⟨R, hR⟩ : ∃ R, bareP p = R := ⟨_, rfl⟩
  have hR0 : R = ([] ++ (bareP (p.drop 0)).1, false || (bareP (p.drop 0)).2) := by rw [← hR]; simp
  rw [hR]
  have HR0 := hide hR0
  clear hR hR0
  go_enter Tryd.func12, Tryd.ntmps12
  go_wp2_with fail
  go_loopw [4, 5, 6] (fun u4 u5 u6 wx => ∃ (i : Nat) (done : LB) (q : Bool) (A : Option Addr) (n c : Nat), u4 = .slice A n c ∧ u5 = .bool q ∧ u6 = .int .i64 i ∧ i ≤ p.length ∧ done.length ≤ i ∧ Hid (Bo w.heap.size wx A n c done) ∧ Hid (Below w.heap.size w wx) ∧ Hid (R = (done ++ (bareP (p.drop i)).1, q || (bareP (p.drop i)).2))) (fun _ _ u6 _ => p.length - (intOf u6).toNat)
  case atStart => exact ⟨0, [], false, none, 0, 0, rfl, rfl, rfl, Nat.zero_le _, Nat.le_refl _, hide (World.ownsRow_nil _ _ _ _), hide (Below.refl _ _), HR0⟩
  case round =>
    clear HR0
    obtain ⟨i, done, q, A, n, c, rfl, rfl, rfl, hi, hdl, HO, HB, HU⟩ := hrel
    have hdn : n ≤ i := by have := HO.out.len; omega
    by_cases hlt : i < p.length
    · have hk1 : (i : Int) < (p.length : Int) := by omega
      have hix := ix_l p i (p.getD i 0) (getD_some hlt)
      have hdr : p.drop i = p.getD i 0 :: p.drop (i + 1) := by
        rw [List.drop_eq_getElem_cons hlt]
        simp [List.getD_eq_getElem?_getD, hlt]
      have hU := HU.out
      rw [hdr] at hU
      have t39 := u8_beq (p.getD i 0) 39
      have t34 := u8_beq (p.getD i 0) 34
      have t92 := u8_beq (p.getD i 0) 92
      change (((p.getD i 0).toNat : Int) == 39) = _ at t39
      change (((p.getD i 0).toNat : Int) == 34) = _ at t34
      change (((p.getD i 0).toNat : Int) == 92) = _ at t92
      clear HU hdr
      generalize p.getD i 0 = x at *
      have HUU := hide hU
      clear hU
      by_cases h1 : x = 39 ∨ x = 34
      · have HU2 : Hid (R = (done ++ (bareP (p.drop (i + 1))).1, true || (bareP (p.drop (i + 1))).2)) := hide (by rw [HUU.out, bare_q x _ h1]; simp)
        have hts : ((x.toNat : Int) == 39) = true ∨ (((x.toNat : Int) == 39) = false ∧ ((x.toNat : Int) == 34) = true) := by
          rcases h1 with rfl | rfl
          · exact .inl (by decide)
          · exact .inr ⟨by decide, by decide⟩
        clear HUU h1 t39 t34 t92
        rcases hts with hts | ⟨hts1, hts2⟩ <;>
        · go_wp2_with fail
          go_roundw
          case rel => exact ⟨i + 1, done, true, A, n, c, rfl, rfl, by go_num, by omega, by omega, HO, HB, HU2⟩
          case measure => simp [intOf]; omega
      · have hn39 : ((x.toNat : Int) == 39) = false := by rw [t39, beq_eq_false_iff_ne]; exact fun h => h1 (.inl h)
        have hn34 : ((x.toNat : Int) == 34) = false := by rw [t34, beq_eq_false_iff_ne]; exact fun h => h1 (.inr h)
        clear t39 t34
        by_cases h92 : x = 92
        · have ht92 : ((x.toNat : Int) == 92) = true := by rw [t92, beq_iff_eq]; exact h92
          clear t92
          have hw1 : IntKind.i64.wrap ((i : Int) + 1) = (i : Int) + 1 := by simp [IntKind.wrap, IntKind.bits, IntKind.signed]; omega
          by_cases h2 : i + 1 < p.length
          · have hk2 : (i : Int) + 1 < (p.length : Int) := by omega
            have hix2 : ∀ W, (Instr.index 9 (.string ⟨p.toArray⟩) (.int .i64 ((i : Int) + 1))).run Tryd.prog W = .ok (.int .u8 ((p.getD (i + 1) 0).toNat : Int)) W := by
              have := ix_l p (i + 1) (p.getD (i + 1) 0) (getD_some h2)
              simpa using this
            have hdr2 : p.drop (i + 1) = p.getD (i + 1) 0 :: p.drop (i + 2) := by
              rw [List.drop_eq_getElem_cons h2]
              simp [List.getD_eq_getElem?_getD, h2]
            have hU2 : R = ((done ++ [p.getD (i + 1) 0]) ++ (bareP (p.drop (i + 2))).1, true || (bareP (p.drop (i + 2))).2) := by
              rw [HUU.out, h92, hdr2, bare_b]; simp
            generalize p.getD (i + 1) 0 = d at *
            have HU2 := hide hU2
            clear HUU h92 hdr2 hU2 h1
            have hown1 := World.ownsRow.alloc HO.out (.cells #[.int .u8 (d.toNat : Int)] 5)
            have hr1 := one_u8 wr d
            have HOWN := hide hown1
            have HRR := hide hr1
            have hwz : w.heap.size ≤ wr.heap.size := HB.out.size
            clear hown1 hr1
            go_wp2_with (at_builtin; (refine wpList_append_any _ rfl (.tmp 34) (.tmp 38) 48 rfl w.heap.size 5 i8 _ 1 1 Tryd.underlying48 HI8.out hz0 hz1 hz2 rfl (by omega) (.slice A n c) n (bv done) rfl (by exact HOWN.out) (wr.heap.size + 1) (some ⟨wr.heap.size, 0, none⟩) 1 1 (bv [d]) rfl (by exact HRR.out) (bv_one _) ?c1 ?c2 ?c3 ?_))
            case c1 => unfold maxLen; omega
            case c2 => omega
            case c3 => simp; omega
            intro v1 w2 hown2 hg2 hat2
            obtain ⟨A2, c2, rfl, O2, W2⟩ := bo_next HO.out hown2 hg2 HB.out (Nat.le_refl _)
            clear hown2 hg2 hat2
            have HO2 := hide O2
            have HW2 := hide W2
            clear O2 W2
            go_wp2_with fail
            go_roundw
            case rel => exact ⟨i + 2, done ++ [d], true, A2, n + 1, c2, rfl, rfl, by go_num, by omega, by simp; omega, HO2, HW2, HU2⟩
            case measure => simp [intOf]; omega
          · have hk2 : ¬ (i : Int) + 1 < (p.length : Int) := by omega
            have HU2 : Hid (R = (done ++ (bareP (p.drop (i + 1))).1, true || (bareP (p.drop (i + 1))).2)) := hide (by
              rw [HUU.out, h92, List.drop_of_length_le (by omega : p.length ≤ i + 1), bare_b0]
              simp [bareP])
            clear HUU h92 h1
            go_wp2_with fail
            go_roundw
            case rel => exact ⟨i + 1, done, true, A, n, c, rfl, rfl, by go_num, by omega, by omega, HO, HB, HU2⟩
            case measure => simp [intOf]; omega
        · have ht92 : ((x.toNat : Int) == 92) = false := by rw [t92, beq_eq_false_iff_ne]; exact h92
          have HU2 : Hid (R = ((done ++ [x]) ++ (bareP (p.drop (i + 1))).1, q || (bareP (p.drop (i + 1))).2)) := hide (by rw [HUU.out, bare_c x _ h1 h92]; simp)
          clear HUU h92 h1 t92
          have hown1 := World.ownsRow.alloc HO.out (.cells #[.int .u8 (x.toNat : Int)] 5)
          have hr1 := one_u8 wr x
          have HOWN := hide hown1
          have HRR := hide hr1
          have hwz : w.heap.size ≤ wr.heap.size := HB.out.size
          clear hown1 hr1
          go_wp2_with (at_builtin; (refine wpList_append_any _ rfl (.tmp 16) (.tmp 20) 48 rfl w.heap.size 5 i8 _ 1 1 Tryd.underlying48 HI8.out hz0 hz1 hz2 rfl (by omega) (.slice A n c) n (bv done) rfl (by exact HOWN.out) (wr.heap.size + 1) (some ⟨wr.heap.size, 0, none⟩) 1 1 (bv [x]) rfl (by exact HRR.out) (bv_one _) ?c1 ?c2 ?c3 ?_))
          case c1 => unfold maxLen; omega
          case c2 => omega
          case c3 => simp; omega
          intro v1 w2 hown2 hg2 hat2
          obtain ⟨A2, c2, rfl, O2, W2⟩ := bo_next HO.out hown2 hg2 HB.out (Nat.le_refl _)
          clear hown2 hg2 hat2
          have HO2 := hide O2
          have HW2 := hide W2
          clear O2 W2
          go_wp2_with fail
          go_roundw
          case rel => exact ⟨i + 1, done ++ [x], q, A2, n + 1, c2, rfl, rfl, by go_num, by omega, by simp; omega, HO2, HW2, HU2⟩
          case measure => simp [intOf]; omega
    · have hk1 : ¬ (i : Int) < (p.length : Int) := by omega
      have hfin : R = (done, q) := by rw [HU.out, List.drop_of_length_le (by omega)]; simp [bareP]
      have HQ := hide hfin
      have hcv := run_string_of (P := Tryd.prog) wr wr.heap.size 48 9 5 A n c done Tryd.underlying48 Tryd.underlying5 Tryd.underlying9 (Reads.of_own HO.out)
      clear HU hfin
      go_wp2_with fail
      go_ret2
      exact ⟨by rw [HQ.out]; first | done | rfl, HB.out⟩
end Go.Proofs.YtpfcfcbljkdkhaaDoor
