/- The contracts of Set, Export and Unset. -/
import Derived.Test.YtpioelpmdaeieaaGreatDoorVarJ
namespace Go.Proofs.YtpioelpmdaeieaaGreatDoor
open Go.RowKit
set_option linter.unusedVariables false
set_option maxHeartbeats 4000000 in
theorem set_any (l : List Vr) (hs : ∀ x ∈ l, x.name.length ≤ 100000) (s v : LB) (hsn : s.length ≤ 100000) (A : Option Addr) (n c : Nat) (w : World) (hR : RdV w A n l) (hn : n ≤ 1000) (hnc : n ≤ c) :
    Calls Tryz.prog 11 #[.slice A n c, .string ⟨s.toArray⟩, .string ⟨v.toArray⟩] w fun e w' => ∃ A' c', e = .returned (.tuple #[.slice A' (chgP l s (setV v)).1.length c', .int .i64 ((chgP l s (setV v)).2 : Int)]) ∧ OwV w.heap.size w' A' (chgP l s (setV v)).1.length c' (chgP l s (setV v)).1 ∧ Below w.heap.size w w' := by
  have hR1 := RdV.alloc hR (.cells #[.string ⟨v.toArray⟩] 9)
  have X := hide (change_set l hs s hsn v w.heap.size A n c (w.alloc (.cells #[.string ⟨v.toArray⟩] 9)) hR1 hn hnc (by simp) ((Blk.new w 9 #[.string ⟨v.toArray⟩]).cell 0))
  have HB := hide ((Below.refl w.heap.size w).alloc (Nat.le_refl _) (.cells #[.string ⟨v.toArray⟩] 9))
  clear hR hR1
  obtain ⟨R, hRR⟩ : ∃ R, (chgP l s (setV v)) = R := ⟨_, rfl⟩
  rw [hRR] at X ⊢
  obtain ⟨RL, RE⟩ := R
  dsimp only at X ⊢
  clear hRR
  obtain ⟨q, hq⟩ : ∃ q, RL.length = q := ⟨_, rfl⟩
  rw [hq] at X ⊢
  clear hq
  go_enter Tryz.func11, Tryz.ntmps11
  go_wp2_with fail
  refine X.out.mono ?_
  rintro e w1 ⟨A', c', rfl, hO, hb⟩
  have HO := hide (own_more hO (by simp) : OwV w.heap.size w1 A' q c' RL)
  have HB1 := hide (below_more HB.out (Nat.le_refl _) hb)
  clear hO hb X
  go_wp2_with fail
  refine bodyPost_ret (v := .tuple #[.slice A' q c', .int .i64 (RE : Int)]) (by simp only [results, Tryz.results11]; go_simp) rfl ⟨A', c', rfl, HO.out, HB1.out⟩
set_option maxHeartbeats 4000000 in
theorem export_any (l : List Vr) (hs : ∀ x ∈ l, x.name.length ≤ 100000) (s : LB) (hsn : s.length ≤ 100000) (A : Option Addr) (n c : Nat) (w : World) (hR : RdV w A n l) (hn : n ≤ 1000) (hnc : n ≤ c) :
    Calls Tryz.prog 13 #[.slice A n c, .string ⟨s.toArray⟩] w fun e w' => ∃ A' c', e = .returned (.tuple #[.slice A' (chgP l s expV).1.length c', .int .i64 ((chgP l s expV).2 : Int)]) ∧ OwV w.heap.size w' A' (chgP l s expV).1.length c' (chgP l s expV).1 ∧ Below w.heap.size w w' := by
  have X := hide (change_exp l hs s hsn A n c w hR hn hnc)
  clear hR
  obtain ⟨R, hRR⟩ : ∃ R, (chgP l s expV) = R := ⟨_, rfl⟩
  rw [hRR] at X ⊢
  obtain ⟨RL, RE⟩ := R
  dsimp only at X ⊢
  clear hRR
  obtain ⟨q, hq⟩ : ∃ q, RL.length = q := ⟨_, rfl⟩
  rw [hq] at X ⊢
  clear hq
  go_enter Tryz.func13, Tryz.ntmps13
  go_wp2_with fail
  refine X.out.mono ?_
  rintro e w1 ⟨A', c', rfl, hO, hb⟩
  have HO := hide hO
  have HB1 := hide hb
  clear hO hb X
  go_wp2_with fail
  refine bodyPost_ret (v := .tuple #[.slice A' q c', .int .i64 (RE : Int)]) (by simp only [results, Tryz.results13]; go_simp) rfl ⟨A', c', rfl, HO.out, HB1.out⟩
set_option maxRecDepth 100000 in
set_option maxHeartbeats 4000000 in
theorem unset_any (l : List Vr) (hs : ∀ x ∈ l, x.name.length ≤ 100000) (s : LB) (A : Option Addr) (n c : Nat) (w : World) (hR : RdV w A n l) (hn : n ≤ 1000) (hnc : n ≤ c) :
    Calls Tryz.prog 16 #[.slice A n c, .string ⟨s.toArray⟩] w fun e w' => ∃ A' c', e = .returned (.slice A' (unsP l s).length c') ∧ OwV w.heap.size w' A' (unsP l s).length c' (unsP l s) ∧ Below w.heap.size w w' := by
  have XF := hide (find_any l s A n c w hR hn)
  have XC := hide (fun W (h : RdV W A n l) => check_any l hs A n c W h hn)
  have XL := hide (fun W (h : RdV W A n l) => list_any l A n c W h hn)
  have hl := hR.len
  have HR := hide hR
  have HL := hide hl
  have HLT := hide (fun h => found_lt (l := l) (s := s) h)
  obtain ⟨U, hU⟩ : ∃ U, unsP l s = U := ⟨_, rfl⟩
  have HU : Hid (U = if (foundP l s && checkP l) = true then l.take (findP l s) ++ l.drop (findP l s + 1) else l) := hide (by rw [← hU]; rfl)
  rw [hU]
  clear hR hl hU hs
  generalize foundP l s = fo at *
  generalize findP l s = k at *
  generalize checkP l = ck at *
  cases fo with
  | false =>
    obtain rfl : U = l := by rw [HU.out]; rfl
    rw [HL.out]
    go_enter Tryz.func16, Tryz.ntmps16
    go_wp2_with fail
    refine XF.out.mono ?_
    rintro e w1 ⟨rfl, hb⟩
    have HB := hide hb
    have HR1 := hide (HR.out.below hb)
    clear hb
    go_wp2_with fail
    refine (XL.out _ HR1.out).mono ?_
    rintro e w2 ⟨A', c', rfl, hO, hb⟩
    have HO := hide (own_more hO HB.out.size : OwV w.heap.size w2 A' n c' U)
    have HB2 := hide (below_more HB.out (Nat.le_refl _) hb)
    clear hO hb
    go_wp2_with fail
    go_ret
    exact ⟨A', c', rfl, HO.out, HB2.out⟩
  | true =>
    have hk := HLT.out rfl
    have hkn : k < n := by have := HL.out; omega
    clear hk
    cases ck with
    | false =>
      obtain rfl : U = l := by rw [HU.out]; rfl
      rw [HL.out]
      go_enter Tryz.func16, Tryz.ntmps16
      go_wp2_with fail
      refine XF.out.mono ?_
      rintro e w1 ⟨rfl, hb⟩
      have HB := hide hb
      have HR1 := hide (HR.out.below hb)
      clear hb
      go_wp2_with fail
      refine (XC.out _ HR1.out).mono ?_
      rintro e w2 ⟨rfl, hb⟩
      have HB2 := hide (below_more HB.out (Nat.le_refl _) hb)
      have HR2 := hide (HR1.out.below hb)
      clear hb
      go_wp2_with fail
      refine (XL.out _ HR2.out).mono ?_
      rintro e w3 ⟨A', c', rfl, hO, hb⟩
      have HO := hide (own_more hO HB2.out.size : OwV w.heap.size w3 A' n c' U)
      have HB3 := hide (below_more HB2.out (Nat.le_refl _) hb)
      clear hO hb
      go_wp2_with fail
      go_ret
      exact ⟨A', c', rfl, HO.out, HB3.out⟩
    | true =>
      have HUE : Hid (U = l.take k ++ l.drop (k + 1)) := hide (by rw [HU.out]; rfl)
      obtain ⟨q, hq⟩ : ∃ q, U.length = q := ⟨_, rfl⟩
      have HQ : Hid (U.length = q) := hide hq
      rw [hq]
      have hqn : q ≤ 1000 := by
        have := HL.out
        rw [← hq, HUE.out, List.length_append, List.length_take, List.length_drop]; omega
      clear hq
      obtain ⟨T, hT⟩ : ∃ T, (if c = k + 1 then A else A.map (·.add ((k + 1) * 3))) = T := ⟨_, rfl⟩
      have hsl1 := fun W => slv_to A n c k (k : Int) rfl (by omega) W
      have hsl2 : ∀ W, (Instr.slice 22 (.slice A n c) (some (.int .i64 ((k : Int) + 1))) none none).run Tryz.prog W = .ok (.slice T (n - (k + 1)) (c - (k + 1))) W := fun W => by rw [← hT]; exact slv_from A n c (k + 1) ((k : Int) + 1) (by omega) (by omega) W
      have HT := hide hT
      have HLJ : Hid (sumN [⟨A, k, c, l.take k⟩, ⟨T, n - (k + 1), c - (k + 1), l.drop (k + 1)⟩] = q) := hide (by
        have := HL.out
        rw [← HQ.out, HUE.out]
        simp only [sumN, List.map_cons, List.map_nil, List.sum_cons, List.sum_nil, List.length_append, List.length_take, List.length_drop]
        omega)
      have HCJ : Hid (catR [⟨A, k, c, l.take k⟩, ⟨T, n - (k + 1), c - (k + 1), l.drop (k + 1)⟩] = U) := hide (by rw [HUE.out]; simp [catR])
      have kw : IntKind.i64.wrap ((k : Int) + 1) = (k : Int) + 1 := by simp [IntKind.wrap, IntKind.bits, IntKind.signed]; omega
      clear hT
      go_enter Tryz.func16, Tryz.ntmps16
      go_wp2_with fail
      refine XF.out.mono ?_
      rintro e w1 ⟨rfl, hb⟩
      have HB := hide hb
      have HR1 := hide (HR.out.below hb)
      clear hb
      go_wp2_with fail
      refine (XC.out _ HR1.out).mono ?_
      rintro e w2 ⟨rfl, hb⟩
      have HB2 := hide (below_more HB.out (Nat.le_refl _) hb)
      have HR2 := hide (HR1.out.below hb)
      clear hb
      go_wp2_with fail
      refine wp_region_M (fun V => True) 10 rfl trivial (fun hHeld => ?_)
      refine wpAnyM_take (i := 0) (v := ?_) rfl rfl (by kernel_rfl) (fun _ _ _ h => h) (Or.inl ⟨by rfl, ?_⟩) (by assumption) ?_
      rotate_left
      · (intro V hV; (try dsimp only at hV); go_simp; with_reducible rfl)
      try simp only [Act.put, List.setIfInBounds_toArray, List.set_cons_zero, List.set_cons_succ]
      refine wpAnyM_take (i := 1) (v := ?_) rfl rfl (by kernel_rfl) (fun _ _ _ h => h) (Or.inl ⟨by rfl, ?_⟩) (by assumption) ?_
      rotate_left
      · (intro V hV; (try dsimp only at hV); go_simp; with_reducible rfl)
      try simp only [Act.put, List.setIfInBounds_toArray, List.set_cons_zero, List.set_cons_succ]
      refine wpAnyM_take (i := 2) (v := ?_) rfl rfl (by kernel_rfl) (fun _ _ _ h => h) (Or.inl ⟨by rfl, ?_⟩) (by assumption) ?_
      rotate_left
      · (intro V hV; (try dsimp only at hV); go_simp; with_reducible rfl)
      try simp only [Act.put, List.setIfInBounds_toArray, List.set_cons_zero, List.set_cons_succ]
      refine wpAnyM_take (i := 3) (v := ?_) rfl rfl (by kernel_rfl) (fun _ _ _ h => h) (Or.inl ⟨by rfl, ?_⟩) (by assumption) ?_
      rotate_left
      · (intro V hV; (try dsimp only at hV); go_simp; with_reducible rfl)
      try simp only [Act.put, List.setIfInBounds_toArray, List.set_cons_zero, List.set_cons_succ]
      refine wpAnyM_take (i := 4) (v := ?_) rfl rfl (by kernel_rfl) (fun _ _ _ h => h) (Or.inl ⟨by rfl, ?_⟩) (by assumption) ?_
      rotate_left
      · (intro V hV; (try dsimp only at hV); go_simp; with_reducible rfl)
      try simp only [Act.put, List.setIfInBounds_toArray, List.set_cons_zero, List.set_cons_succ]
      refine wpAnyM_take (i := 5) (v := ?_) rfl rfl (by kernel_rfl) (fun _ _ _ h => h) (Or.inl ⟨by rfl, ?_⟩) (by assumption) ?_
      rotate_left
      · (intro V hV; (try dsimp only at hV); go_simp; with_reducible rfl)
      try simp only [Act.put, List.setIfInBounds_toArray, List.set_cons_zero, List.set_cons_succ]
      refine wpAnyM_take (i := 6) (v := ?_) rfl rfl (by kernel_rfl) (fun _ _ _ h => h) (Or.inl ⟨by rfl, ?_⟩) (by assumption) ?_
      rotate_left
      · (intro V hV; (try dsimp only at hV); go_simp; with_reducible rfl)
      try simp only [Act.put, List.setIfInBounds_toArray, List.set_cons_zero, List.set_cons_succ]
      refine wpAnyM_step (i := 7) (by kernel_rfl) rfl rfl (fun K hK => ?_)
      go_simp
      refine hK.out _ _ (fun _ => trivial) ?_
      clear hK K hHeld
      refine wpAnyM_step (i := 8) (by kernel_rfl) rfl rfl (fun K hK => ?_)
      go_simp
      have RA : ∀ a : Obj, RdV (w2.alloc a) A n l := fun a => HR2.out.alloc a
      have RT : ∀ a : Obj, RdV (w2.alloc a) T (n - (k + 1)) (l.drop (k + 1)) := fun a => by
        have := (RA a).drop (k := k + 1) (by omega) hnc
        rw [HT.out] at this
        exact this
      refine (concat_any [⟨A, k, c, l.take k⟩, ⟨T, n - (k + 1), c - (k + 1), l.drop (k + 1)⟩] w2.heap.size 2 _ (by have := Blk.new w2 22 (List.map Rw.v [⟨A, k, c, l.take k⟩, ⟨T, n - (k + 1), c - (k + 1), l.drop (k + 1)⟩]).toArray; exact this) ?ok (by show 2 ≤ 3; omega) 2 rfl).mono ?_
      case ok =>
        intro r hr
        simp only [List.mem_cons, List.not_mem_nil, or_false] at hr
        rcases hr with rfl | rfl
        · exact ⟨(RA _).take (by omega), by show k ≤ 1000; omega⟩
        · exact ⟨RT _, by show n - (k + 1) ≤ 1000; omega⟩
      rintro e w7 ⟨A', c', rfl, hO, hb⟩
      rw [HLJ.out] at hO ⊢
      rw [HCJ.out] at hO
      have HB7 := hide (below_more ((HB2.out.alloc HB2.out.size _).drew) (Nat.le_refl _) hb)
      have HR7 := hide hO.rd
      clear hO hb
      refine hK.out _ _ (fun _ => trivial) ?_
      clear hK K
      refine wpAnyM_step (i := 9) (by kernel_rfl) rfl rfl (fun K hK => ?_)
      go_simp
      refine (list_any U A' q c' w7 HR7.out hqn).mono ?_
      rintro e w8 ⟨A2, c2, rfl, hO, hb⟩
      have HO := hide (own_more hO HB7.out.size : OwV w.heap.size w8 A2 q c2 U)
      have HB8 := hide (below_more HB7.out (Nat.le_refl _) hb)
      clear hO hb
      refine hK.out _ _ (fun _ => trivial) ?_
      clear hK K
      refine wpAnyM_step (i := 10) (by kernel_rfl) rfl rfl (fun K hK => ?_)
      go_simp
      refine hK.out _ _ (fun h => absurd rfl h) ?_
      refine wpAnyM_done (by kernel_rfl) ?_ _
      clear hK K
      go_wp2_with fail
      go_ret
      exact ⟨A2, c2, rfl, HO.out, HB8.out⟩
end Go.Proofs.YtpioelpmdaeieaaGreatDoor
