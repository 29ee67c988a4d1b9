/- The contracts of find, Check. -/
import Derived.Test.YtpioelpmdaeieaaGreatDoorVarB
import Derived.Deep.RegionHeld3
import Derived.Test.YtpioelpmdaeieaaGreatDoorMem
namespace Go.Proofs.YtpioelpmdaeieaaGreatDoor
open Go.RowKit
set_option linter.unusedVariables false
theorem find_any (l : List Vr) (s : LB) (A : Option Addr) (n c : Nat) (w : World) (hR : RdV w A n l) (hn : n ≤ 1000) : Calls Tryz.prog 28 #[.slice A n c, .string ⟨s.toArray⟩] w fun e w' => e = .returned (.tuple #[.int .i64 (findP l s : Int), .bool (foundP l s)]) ∧ Below w.heap.size w w' := by
  have X := hide (search_any l s A n c w hR hn)
  clear hR
  generalize findP l s = r at *
  generalize foundP l s = q at *
  go_enter Tryz.func28, Tryz.ntmps28
  go_wp2_with fail
  refine X.out.mono ?_
  rintro e w1 ⟨rfl, hb⟩
  have HB := hide hb
  clear hb
  go_wp2_with fail
  refine bodyPost_ret (v := .tuple #[.int .i64 (r : Int), .bool q]) (by simp only [results, Tryz.results28]; go_simp) rfl ⟨rfl, HB.out⟩
/-- Is what stands at a place a variable that may be, behind the one before it? -/
def okAt (l : List Vr) (i : Nat) : Bool := (match l[i]? with
  | some x => validP x
  | none => false) && (decide (i = 0) || Op.bytesLess (nmAt l (i - 1)) (nmAt l i))
def checkP (l : List Vr) : Bool := decide (l.length ≤ 64) && (List.range l.length).all (okAt l)
theorem check_no {l : List Vr} {i : Nat} (h : i < l.length) (hi : okAt l i = false) : checkP l = false := by
  unfold checkP
  rw [List.all_eq_false.2 ⟨i, by simpa using h, by rw [hi]; decide⟩, Bool.and_false]
theorem check_yes {l : List Vr} (h : l.length ≤ 64) (ha : ∀ j, j < l.length → okAt l j = true) : checkP l = true := by
  unfold checkP
  rw [decide_eq_true h, List.all_eq_true.2 (fun j hj => ha j (by simpa using hj))]; rfl
set_option maxRecDepth 100000 in
set_option maxHeartbeats 8000000 in
theorem check_any (l : List Vr) (hs : ∀ x ∈ l, x.name.length ≤ 100000) (A : Option Addr) (n c : Nat) (w : World) (hR : RdV w A n l) (hn : n ≤ 1000) : Calls Tryz.prog 21 #[.slice A n c] w fun e w' => e = .returned (.bool (checkP l)) ∧ Below w.heap.size w w' := by
  have hl := hR.len
  have HR := hide hR
  have HL := hide hl
  have HS := hide hs
  obtain ⟨R, hRE⟩ : ∃ R, checkP l = R := ⟨_, rfl⟩
  have HRE := hide hRE
  rw [hRE]
  clear hR hl hs hRE
  by_cases h64 : n ≤ 64
  · have k64 : ¬ (64 : Int) < (n : Int) := by omega
    go_enter Tryz.func21, Tryz.ntmps21
    go_wp2_with fail
    go_loopw [10] (fun u10 wx => ∃ i : Nat, i ≤ n ∧ u10 = .int .i64 (i : Int) ∧ Hid (Below w.heap.size w wx) ∧ Hid (∀ j, j < i → okAt l j = true)) (fun u10 _ => n - (intOf u10).toNat)
    case atStart => exact ⟨0, Nat.zero_le _, rfl, hide (Below.refl _ _), hide (fun j h => by omega)⟩
    case round =>
      obtain ⟨i, hi, rfl, HW, HF⟩ := hrel
      by_cases hlt : i < n
      · obtain ⟨x, hx⟩ : ∃ x, l[i]? = some x := ⟨_, List.getElem?_eq_getElem (by have := HL.out; omega)⟩
        obtain ⟨g, o, rfl, hg, q0, q1, q2⟩ := var_cells (HR.out.below HW.out) hx
        have hia := fun W => var_at g o n c i (i : Int) rfl hlt W
        have hlt' : (i : Int) < (n : Int) := by omega
        have XV := hide (fun W => valid_any x (HS.out x (List.mem_of_getElem? hx)) W)
        have kw : IntKind.i64.wrap ((i : Int) - 1) = (i : Int) - 1 := by simp [IntKind.wrap, IntKind.bits, IntKind.signed]; omega
        have hok : okAt l i = (validP x && (decide (i = 0) || Op.bytesLess (nmAt l (i - 1)) x.name)) := by
          have e : nmAt l i = x.name := by unfold nmAt; rw [hx]
          unfold okAt
          rw [e, hx]
        have HOK := hide hok
        have NO : Hid (okAt l i = false → R = false) := hide (fun h => HRE.out.symm.trans (check_no (by have := HL.out; omega) h))
        have YES : Hid (okAt l i = true → ∀ j, j < i + 1 → okAt l j = true) := hide (fun h j hj => by
          rcases Nat.lt_or_ge j i with h1 | h1
          · exact HF.out j h1
          · obtain rfl : j = i := by omega
            exact h)
        obtain ⟨nm, vl, ex⟩ := x
        dsimp only at q0 q1 q2 HOK
        unfold Vr.v at XV
        dsimp only at XV
        clear hok HF
        obtain ⟨W1, hW1⟩ : ∃ W, wr.alloc (.cells #[.string ⟨nm.toArray⟩, .string ⟨vl.toArray⟩, .bool ex] 42) = W := ⟨_, rfl⟩
        have HW1 : Hid (Below w.heap.size w W1) := hide (by rw [← hW1]; exact HW.out.alloc HW.out.size _)
        obtain ⟨z, hz⟩ : ∃ z, wr.heap.size = z := ⟨_, rfl⟩
        have hz1 : z < W1.heap.size := by rw [← hW1, ← hz]; simp
        have hgz : g < W1.heap.size := by omega
        have b0 : Blk W1 z 42 #[.string ⟨nm.toArray⟩, .string ⟨vl.toArray⟩, .bool ex] := by rw [← hW1, ← hz]; exact Blk.new wr 42 _
        have HC0 : Hid (W1.cell? ⟨z, 0, none⟩ = some (.string ⟨nm.toArray⟩)) := hide (b0.cell 0)
        have HC1 : Hid (W1.cell? ⟨z, 1, none⟩ = some (.string ⟨vl.toArray⟩)) := hide (b0.cell 1)
        have HC2 : Hid (W1.cell? ⟨z, 2, none⟩ = some (.bool ex)) := hide (b0.cell 2)
        have HWZ := hide hW1
        have HZ := hide hz
        have kW := hide ((Below.refl W1.heap.size W1).drew)
        clear b0 hW1 hz
        obtain ⟨q, hq⟩ : ∃ q, validP ⟨nm, vl, ex⟩ = q := ⟨_, rfl⟩
        rw [hq] at XV HOK
        by_cases h0 : 0 < i
        · obtain ⟨y, hy⟩ : ∃ y, l[i - 1]? = some y := ⟨_, List.getElem?_eq_getElem (by have := HL.out; omega)⟩
          obtain ⟨g', o', e1, hg', p0, p1, p2⟩ := var_cells (HR.out.below HW.out) hy
          injection e1 with e1
          injection e1 with e1 e2 e3
          subst e1 e2
          have HNA : Hid (nmAt l (i - 1) = y.name) := hide (by unfold nmAt; rw [hy])
          have hia2 := fun W => var_at g o n c (i - 1) ((i : Int) - 1) (by omega) (by omega) W
          have k0 : (0 : Int) < (i : Int) := by omega
          have d1 : decide ((0 : Int) < (i : Int)) = true := decide_eq_true (by omega)
          have d2 : decide (0 < i) = true := decide_eq_true h0
          obtain ⟨yn, yv, ye⟩ := y
          dsimp only at p0 HNA
          have HP1 : Hid (W1.cell? ⟨g, o + (i - 1) * 3, none⟩ = some (.string ⟨yn.toArray⟩)) := hide (by rw [← HWZ.out]; exact (World.cell?_alloc_lt _ _ _ hg).trans p0)
          obtain ⟨ord, hord⟩ : ∃ ord, Op.bytesLess yn nm = ord := ⟨_, rfl⟩
          clear hx hy e3 p0 p1 p2 hg' hq
          cases q with
          | false =>
            have HE : Hid (R = false) := hide (NO.out (by rw [HOK.out]; rfl))
            clear HOK YES NO hord HNA
            go_wp2_with fail
            rw [HWZ.out, HZ.out]
            refine wp_region_M (fun V => (V.cell? ⟨z, 0, none⟩ = some (.string ⟨nm.toArray⟩) ∧ V.cell? ⟨z, 1, none⟩ = some (.string ⟨vl.toArray⟩) ∧ V.cell? ⟨z, 2, none⟩ = some (.bool ex)) ∧ V.cell? ⟨g, o + (i - 1) * 3, none⟩ = some (.string ⟨yn.toArray⟩)) 17 rfl ⟨⟨HC0.out, HC1.out, HC2.out⟩, HP1.out⟩ (fun hHeld => ?_)
            refine wpAnyM_take (i := 0) (v := ?_) rfl rfl (by kernel_rfl) (fun _ _ _ h => h) (Or.inl ⟨by rfl, ?_⟩) (by assumption) ?_
            rotate_left
            · (intro V hV; (try dsimp only at hV); go_simp; with_reducible rfl)
            try simp only [Act.put, List.setIfInBounds_toArray, List.set_cons_zero, List.set_cons_succ]
            refine wpAnyM_step (i := 1) (by kernel_rfl) rfl rfl (fun K hK => ?_)
            go_simp
            refine (XV.out _).mono ?_
            rintro e w2 ⟨rfl, kx⟩
            replace kW := hide (below_more kW.out (Nat.le_refl _) kx)
            have HS2 : (fun V : World => (V.cell? ⟨z, 0, none⟩ = some (.string ⟨nm.toArray⟩) ∧ V.cell? ⟨z, 1, none⟩ = some (.string ⟨vl.toArray⟩) ∧ V.cell? ⟨z, 2, none⟩ = some (.bool ex)) ∧ V.cell? ⟨g, o + (i - 1) * 3, none⟩ = some (.string ⟨yn.toArray⟩)) w2 := ⟨⟨(kW.out.cell (p := ⟨z, 0, none⟩) hz1).trans HC0.out, (kW.out.cell (p := ⟨z, 1, none⟩) hz1).trans HC1.out, (kW.out.cell (p := ⟨z, 2, none⟩) hz1).trans HC2.out⟩, (kW.out.cell (p := ⟨g, o + (i - 1) * 3, none⟩) hgz).trans HP1.out⟩
            refine hK.out _ _ (fun _ => HS2) ?_
            clear hK K hHeld kx
            refine wpAnyM_take (i := 2) (v := ?_) rfl rfl (by kernel_rfl) (fun _ _ _ h => h) (Or.inl ⟨by rfl, ?_⟩) (by assumption) ?_
            rotate_left
            · (intro V hV; (try dsimp only at hV); go_simp; with_reducible rfl)
            try simp only [Act.put, List.setIfInBounds_toArray, List.set_cons_zero, List.set_cons_succ]
            refine wpAnyM_take (i := 3) (v := ?_) rfl rfl (by kernel_rfl) (fun _ _ _ h => h) (Or.inl ⟨by rfl, ?_⟩) (by assumption) ?_
            rotate_left
            · (intro V hV; (try dsimp only at hV); go_simp; with_reducible rfl)
            try simp only [Act.put, List.setIfInBounds_toArray, List.set_cons_zero, List.set_cons_succ]
            refine wpAnyM_take (i := 4) (v := undef) rfl rfl (by kernel_rfl) (fun _ _ _ h => h) (Or.inr ⟨by rfl, rfl⟩) (by assumption) ?_
            try simp only [Act.put, List.setIfInBounds_toArray, List.set_cons_zero, List.set_cons_succ]
            refine wpAnyM_take (i := 5) (v := undef) rfl rfl (by kernel_rfl) (fun _ _ _ h => h) (Or.inr ⟨by rfl, rfl⟩) (by assumption) ?_
            try simp only [Act.put, List.setIfInBounds_toArray, List.set_cons_zero, List.set_cons_succ]
            refine wpAnyM_take (i := 6) (v := undef) rfl rfl (by kernel_rfl) (fun _ _ _ h => h) (Or.inr ⟨by rfl, rfl⟩) (by assumption) ?_
            try simp only [Act.put, List.setIfInBounds_toArray, List.set_cons_zero, List.set_cons_succ]
            refine wpAnyM_take (i := 7) (v := undef) rfl rfl (by kernel_rfl) (fun _ _ _ h => h) (Or.inr ⟨by rfl, rfl⟩) (by assumption) ?_
            try simp only [Act.put, List.setIfInBounds_toArray, List.set_cons_zero, List.set_cons_succ]
            refine wpAnyM_take (i := 8) (v := undef) rfl rfl (by kernel_rfl) (fun _ _ _ h => h) (Or.inr ⟨by rfl, rfl⟩) (by assumption) ?_
            try simp only [Act.put, List.setIfInBounds_toArray, List.set_cons_zero, List.set_cons_succ]
            refine wpAnyM_take (i := 9) (v := undef) rfl rfl (by kernel_rfl) (fun _ _ _ h => h) (Or.inr ⟨by rfl, rfl⟩) (by assumption) ?_
            try simp only [Act.put, List.setIfInBounds_toArray, List.set_cons_zero, List.set_cons_succ]
            refine wpAnyM_take (i := 10) (v := undef) rfl rfl (by kernel_rfl) (fun _ _ _ h => h) (Or.inr ⟨by rfl, rfl⟩) (by assumption) ?_
            try simp only [Act.put, List.setIfInBounds_toArray, List.set_cons_zero, List.set_cons_succ]
            refine wpAnyM_take (i := 11) (v := undef) rfl rfl (by kernel_rfl) (fun _ _ _ h => h) (Or.inr ⟨by rfl, rfl⟩) (by assumption) ?_
            try simp only [Act.put, List.setIfInBounds_toArray, List.set_cons_zero, List.set_cons_succ]
            refine wpAnyM_take (i := 12) (v := undef) rfl rfl (by kernel_rfl) (fun _ _ _ h => h) (Or.inr ⟨by rfl, rfl⟩) (by assumption) ?_
            try simp only [Act.put, List.setIfInBounds_toArray, List.set_cons_zero, List.set_cons_succ]
            refine wpAnyM_take (i := 13) (v := undef) rfl rfl (by kernel_rfl) (fun _ _ _ h => h) (Or.inr ⟨by rfl, rfl⟩) (by assumption) ?_
            try simp only [Act.put, List.setIfInBounds_toArray, List.set_cons_zero, List.set_cons_succ]
            refine wpAnyM_take (i := 14) (v := undef) rfl rfl (by kernel_rfl) (fun _ _ _ h => h) (Or.inr ⟨by rfl, rfl⟩) (by assumption) ?_
            try simp only [Act.put, List.setIfInBounds_toArray, List.set_cons_zero, List.set_cons_succ]
            refine wpAnyM_take (i := 15) (v := undef) rfl rfl (by kernel_rfl) (fun _ _ _ h => h) (Or.inr ⟨by rfl, rfl⟩) (by assumption) ?_
            try simp only [Act.put, List.setIfInBounds_toArray, List.set_cons_zero, List.set_cons_succ]
            refine wpAnyM_take (i := 16) (v := undef) rfl rfl (by kernel_rfl) (fun _ _ _ h => h) (Or.inr ⟨by rfl, rfl⟩) (by assumption) ?_
            try simp only [Act.put, List.setIfInBounds_toArray, List.set_cons_zero, List.set_cons_succ]
            refine wpAnyM_step (i := 17) (by kernel_rfl) rfl rfl (fun K hK => ?_)
            go_simp
            refine hK.out _ _ (fun h => absurd rfl h) ?_
            refine wpAnyM_done (by kernel_rfl) ?_ _
            clear hK K HS2
            go_wp2_with fail
            go_ret
            exact ⟨ret_bool HE.out.symm, below_more HW1.out (Nat.le_refl _) kW.out⟩
          | true =>
            cases ord with
            | false =>
              have HE : Hid (R = false) := hide (NO.out (by rw [HOK.out, HNA.out, hord, decide_eq_false (by omega : ¬ i = 0)]; rfl))
              clear HOK YES NO HNA
              go_wp2_with fail
              rw [HWZ.out, HZ.out]
              refine wp_region_M (fun V => (V.cell? ⟨z, 0, none⟩ = some (.string ⟨nm.toArray⟩) ∧ V.cell? ⟨z, 1, none⟩ = some (.string ⟨vl.toArray⟩) ∧ V.cell? ⟨z, 2, none⟩ = some (.bool ex)) ∧ V.cell? ⟨g, o + (i - 1) * 3, none⟩ = some (.string ⟨yn.toArray⟩)) 17 rfl ⟨⟨HC0.out, HC1.out, HC2.out⟩, HP1.out⟩ (fun hHeld => ?_)
              refine wpAnyM_take (i := 0) (v := ?_) rfl rfl (by kernel_rfl) (fun _ _ _ h => h) (Or.inl ⟨by rfl, ?_⟩) (by assumption) ?_
              rotate_left
              · (intro V hV; (try dsimp only at hV); go_simp; with_reducible rfl)
              try simp only [Act.put, List.setIfInBounds_toArray, List.set_cons_zero, List.set_cons_succ]
              refine wpAnyM_step (i := 1) (by kernel_rfl) rfl rfl (fun K hK => ?_)
              go_simp
              refine (XV.out _).mono ?_
              rintro e w2 ⟨rfl, kx⟩
              replace kW := hide (below_more kW.out (Nat.le_refl _) kx)
              have HS2 : (fun V : World => (V.cell? ⟨z, 0, none⟩ = some (.string ⟨nm.toArray⟩) ∧ V.cell? ⟨z, 1, none⟩ = some (.string ⟨vl.toArray⟩) ∧ V.cell? ⟨z, 2, none⟩ = some (.bool ex)) ∧ V.cell? ⟨g, o + (i - 1) * 3, none⟩ = some (.string ⟨yn.toArray⟩)) w2 := ⟨⟨(kW.out.cell (p := ⟨z, 0, none⟩) hz1).trans HC0.out, (kW.out.cell (p := ⟨z, 1, none⟩) hz1).trans HC1.out, (kW.out.cell (p := ⟨z, 2, none⟩) hz1).trans HC2.out⟩, (kW.out.cell (p := ⟨g, o + (i - 1) * 3, none⟩) hgz).trans HP1.out⟩
              refine hK.out _ _ (fun _ => HS2) ?_
              clear hK K hHeld kx
              refine wpAnyM_take (i := 2) (v := ?_) rfl rfl (by kernel_rfl) (fun _ _ _ h => h) (Or.inl ⟨by rfl, ?_⟩) (by assumption) ?_
              rotate_left
              · (intro V hV; (try dsimp only at hV); go_simp; with_reducible rfl)
              try simp only [Act.put, List.setIfInBounds_toArray, List.set_cons_zero, List.set_cons_succ]
              refine wpAnyM_take (i := 3) (v := ?_) rfl rfl (by kernel_rfl) (fun _ _ _ h => h) (Or.inl ⟨by rfl, ?_⟩) (by assumption) ?_
              rotate_left
              · (intro V hV; (try dsimp only at hV); go_simp; with_reducible rfl)
              try simp only [Act.put, List.setIfInBounds_toArray, List.set_cons_zero, List.set_cons_succ]
              refine wpAnyM_take (i := 4) (v := ?_) rfl rfl (by kernel_rfl) (fun _ _ _ h => h) (Or.inl ⟨by rfl, ?_⟩) (by assumption) ?_
              rotate_left
              · (intro V hV; (try dsimp only at hV); go_simp; with_reducible rfl)
              try simp only [Act.put, List.setIfInBounds_toArray, List.set_cons_zero, List.set_cons_succ]
              refine wpAnyM_take (i := 5) (v := ?_) rfl rfl (by kernel_rfl) (fun _ _ _ h => h) (Or.inl ⟨by rfl, ?_⟩) (by assumption) ?_
              rotate_left
              · (intro V hV; (try dsimp only at hV); go_simp; with_reducible rfl)
              try simp only [Act.put, List.setIfInBounds_toArray, List.set_cons_zero, List.set_cons_succ]
              refine wpAnyM_take (i := 6) (v := ?_) rfl rfl (by kernel_rfl) (fun _ _ _ h => h) (Or.inl ⟨by rfl, ?_⟩) (by assumption) ?_
              rotate_left
              · (intro V hV; (try dsimp only at hV); go_simp; with_reducible rfl)
              try simp only [Act.put, List.setIfInBounds_toArray, List.set_cons_zero, List.set_cons_succ]
              refine wpAnyM_take (i := 7) (v := ?_) rfl rfl (by kernel_rfl) (fun _ _ _ h => h) (Or.inl ⟨by rfl, ?_⟩) (by assumption) ?_
              rotate_left
              · (intro V hV; (try dsimp only at hV); go_simp; with_reducible rfl)
              try simp only [Act.put, List.setIfInBounds_toArray, List.set_cons_zero, List.set_cons_succ]
              refine wpAnyM_take (i := 8) (v := ?_) rfl rfl (by kernel_rfl) (fun _ _ _ h => h) (Or.inl ⟨by rfl, ?_⟩) (by assumption) ?_
              rotate_left
              · (intro V hV; (try dsimp only at hV); go_simp; with_reducible rfl)
              try simp only [Act.put, List.setIfInBounds_toArray, List.set_cons_zero, List.set_cons_succ]
              refine wpAnyM_take (i := 9) (v := ?_) rfl rfl (by kernel_rfl) (fun _ _ _ h => h) (Or.inl ⟨by rfl, ?_⟩) (by assumption) ?_
              rotate_left
              · (intro V hV; (try dsimp only at hV); go_simp; with_reducible rfl)
              try simp only [Act.put, List.setIfInBounds_toArray, List.set_cons_zero, List.set_cons_succ]
              refine wpAnyM_take (i := 10) (v := ?_) rfl rfl (by kernel_rfl) (fun _ _ _ h => h) (Or.inl ⟨by rfl, ?_⟩) (by assumption) ?_
              rotate_left
              · (intro V hV; (try dsimp only at hV); go_simp; with_reducible rfl)
              try simp only [Act.put, List.setIfInBounds_toArray, List.set_cons_zero, List.set_cons_succ]
              refine wpAnyM_take (i := 11) (v := ?_) rfl rfl (by kernel_rfl) (fun _ _ _ h => h) (Or.inl ⟨by rfl, ?_⟩) (by assumption) ?_
              rotate_left
              · (intro V hV; (try dsimp only at hV); go_simp; with_reducible rfl)
              try simp only [Act.put, List.setIfInBounds_toArray, List.set_cons_zero, List.set_cons_succ]
              refine wpAnyM_take (i := 12) (v := ?_) rfl rfl (by kernel_rfl) (fun _ _ _ h => h) (Or.inl ⟨by rfl, ?_⟩) (by assumption) ?_
              rotate_left
              · (intro V hV; (try dsimp only at hV); go_simp; with_reducible rfl)
              try simp only [Act.put, List.setIfInBounds_toArray, List.set_cons_zero, List.set_cons_succ]
              refine wpAnyM_take (i := 13) (v := ?_) rfl rfl (by kernel_rfl) (fun _ _ _ h => h) (Or.inl ⟨by rfl, ?_⟩) (by assumption) ?_
              rotate_left
              · (intro V hV; (try dsimp only at hV); go_simp; with_reducible rfl)
              try simp only [Act.put, List.setIfInBounds_toArray, List.set_cons_zero, List.set_cons_succ]
              refine wpAnyM_take (i := 14) (v := ?_) rfl rfl (by kernel_rfl) (fun _ _ _ h => h) (Or.inl ⟨by rfl, ?_⟩) (by assumption) ?_
              rotate_left
              · (intro V hV; (try dsimp only at hV); go_simp; with_reducible rfl)
              try simp only [Act.put, List.setIfInBounds_toArray, List.set_cons_zero, List.set_cons_succ]
              refine wpAnyM_take (i := 15) (v := ?_) rfl rfl (by kernel_rfl) (fun _ _ _ h => h) (Or.inl ⟨by rfl, ?_⟩) (by assumption) ?_
              rotate_left
              · (intro V hV; (try dsimp only at hV); go_simp; with_reducible rfl)
              try simp only [Act.put, List.setIfInBounds_toArray, List.set_cons_zero, List.set_cons_succ]
              refine wpAnyM_take (i := 16) (v := ?_) rfl rfl (by kernel_rfl) (fun _ _ _ h => h) (Or.inl ⟨by rfl, ?_⟩) (by assumption) ?_
              rotate_left
              · (intro V hV; (try dsimp only at hV); go_simp; with_reducible rfl)
              try simp only [Act.put, List.setIfInBounds_toArray, List.set_cons_zero, List.set_cons_succ]
              refine wpAnyM_step (i := 17) (by kernel_rfl) rfl rfl (fun K hK => ?_)
              go_simp
              refine hK.out _ _ (fun h => absurd rfl h) ?_
              refine wpAnyM_done (by kernel_rfl) ?_ _
              clear hK K HS2
              go_wp2_with fail
              go_ret
              exact ⟨ret_bool HE.out.symm, below_more HW1.out (Nat.le_refl _) kW.out⟩
            | true =>
              have HY : Hid (okAt l i = true) := hide (by rw [HOK.out, HNA.out, hord]; simp)
              clear HOK NO HNA
              go_wp2_with fail
              rw [HWZ.out, HZ.out]
              refine wp_region_M (fun V => (V.cell? ⟨z, 0, none⟩ = some (.string ⟨nm.toArray⟩) ∧ V.cell? ⟨z, 1, none⟩ = some (.string ⟨vl.toArray⟩) ∧ V.cell? ⟨z, 2, none⟩ = some (.bool ex)) ∧ V.cell? ⟨g, o + (i - 1) * 3, none⟩ = some (.string ⟨yn.toArray⟩)) 17 rfl ⟨⟨HC0.out, HC1.out, HC2.out⟩, HP1.out⟩ (fun hHeld => ?_)
              refine wpAnyM_take (i := 0) (v := ?_) rfl rfl (by kernel_rfl) (fun _ _ _ h => h) (Or.inl ⟨by rfl, ?_⟩) (by assumption) ?_
              rotate_left
              · (intro V hV; (try dsimp only at hV); go_simp; with_reducible rfl)
              try simp only [Act.put, List.setIfInBounds_toArray, List.set_cons_zero, List.set_cons_succ]
              refine wpAnyM_step (i := 1) (by kernel_rfl) rfl rfl (fun K hK => ?_)
              go_simp
              refine (XV.out _).mono ?_
              rintro e w2 ⟨rfl, kx⟩
              replace kW := hide (below_more kW.out (Nat.le_refl _) kx)
              have HS2 : (fun V : World => (V.cell? ⟨z, 0, none⟩ = some (.string ⟨nm.toArray⟩) ∧ V.cell? ⟨z, 1, none⟩ = some (.string ⟨vl.toArray⟩) ∧ V.cell? ⟨z, 2, none⟩ = some (.bool ex)) ∧ V.cell? ⟨g, o + (i - 1) * 3, none⟩ = some (.string ⟨yn.toArray⟩)) w2 := ⟨⟨(kW.out.cell (p := ⟨z, 0, none⟩) hz1).trans HC0.out, (kW.out.cell (p := ⟨z, 1, none⟩) hz1).trans HC1.out, (kW.out.cell (p := ⟨z, 2, none⟩) hz1).trans HC2.out⟩, (kW.out.cell (p := ⟨g, o + (i - 1) * 3, none⟩) hgz).trans HP1.out⟩
              refine hK.out _ _ (fun _ => HS2) ?_
              clear hK K hHeld kx
              refine wpAnyM_take (i := 2) (v := ?_) rfl rfl (by kernel_rfl) (fun _ _ _ h => h) (Or.inl ⟨by rfl, ?_⟩) (by assumption) ?_
              rotate_left
              · (intro V hV; (try dsimp only at hV); go_simp; with_reducible rfl)
              try simp only [Act.put, List.setIfInBounds_toArray, List.set_cons_zero, List.set_cons_succ]
              refine wpAnyM_take (i := 3) (v := ?_) rfl rfl (by kernel_rfl) (fun _ _ _ h => h) (Or.inl ⟨by rfl, ?_⟩) (by assumption) ?_
              rotate_left
              · (intro V hV; (try dsimp only at hV); go_simp; with_reducible rfl)
              try simp only [Act.put, List.setIfInBounds_toArray, List.set_cons_zero, List.set_cons_succ]
              refine wpAnyM_take (i := 4) (v := ?_) rfl rfl (by kernel_rfl) (fun _ _ _ h => h) (Or.inl ⟨by rfl, ?_⟩) (by assumption) ?_
              rotate_left
              · (intro V hV; (try dsimp only at hV); go_simp; with_reducible rfl)
              try simp only [Act.put, List.setIfInBounds_toArray, List.set_cons_zero, List.set_cons_succ]
              refine wpAnyM_take (i := 5) (v := ?_) rfl rfl (by kernel_rfl) (fun _ _ _ h => h) (Or.inl ⟨by rfl, ?_⟩) (by assumption) ?_
              rotate_left
              · (intro V hV; (try dsimp only at hV); go_simp; with_reducible rfl)
              try simp only [Act.put, List.setIfInBounds_toArray, List.set_cons_zero, List.set_cons_succ]
              refine wpAnyM_take (i := 6) (v := ?_) rfl rfl (by kernel_rfl) (fun _ _ _ h => h) (Or.inl ⟨by rfl, ?_⟩) (by assumption) ?_
              rotate_left
              · (intro V hV; (try dsimp only at hV); go_simp; with_reducible rfl)
              try simp only [Act.put, List.setIfInBounds_toArray, List.set_cons_zero, List.set_cons_succ]
              refine wpAnyM_take (i := 7) (v := ?_) rfl rfl (by kernel_rfl) (fun _ _ _ h => h) (Or.inl ⟨by rfl, ?_⟩) (by assumption) ?_
              rotate_left
              · (intro V hV; (try dsimp only at hV); go_simp; with_reducible rfl)
              try simp only [Act.put, List.setIfInBounds_toArray, List.set_cons_zero, List.set_cons_succ]
              refine wpAnyM_take (i := 8) (v := ?_) rfl rfl (by kernel_rfl) (fun _ _ _ h => h) (Or.inl ⟨by rfl, ?_⟩) (by assumption) ?_
              rotate_left
              · (intro V hV; (try dsimp only at hV); go_simp; with_reducible rfl)
              try simp only [Act.put, List.setIfInBounds_toArray, List.set_cons_zero, List.set_cons_succ]
              refine wpAnyM_take (i := 9) (v := ?_) rfl rfl (by kernel_rfl) (fun _ _ _ h => h) (Or.inl ⟨by rfl, ?_⟩) (by assumption) ?_
              rotate_left
              · (intro V hV; (try dsimp only at hV); go_simp; with_reducible rfl)
              try simp only [Act.put, List.setIfInBounds_toArray, List.set_cons_zero, List.set_cons_succ]
              refine wpAnyM_take (i := 10) (v := ?_) rfl rfl (by kernel_rfl) (fun _ _ _ h => h) (Or.inl ⟨by rfl, ?_⟩) (by assumption) ?_
              rotate_left
              · (intro V hV; (try dsimp only at hV); go_simp; with_reducible rfl)
              try simp only [Act.put, List.setIfInBounds_toArray, List.set_cons_zero, List.set_cons_succ]
              refine wpAnyM_take (i := 11) (v := ?_) rfl rfl (by kernel_rfl) (fun _ _ _ h => h) (Or.inl ⟨by rfl, ?_⟩) (by assumption) ?_
              rotate_left
              · (intro V hV; (try dsimp only at hV); go_simp; with_reducible rfl)
              try simp only [Act.put, List.setIfInBounds_toArray, List.set_cons_zero, List.set_cons_succ]
              refine wpAnyM_take (i := 12) (v := ?_) rfl rfl (by kernel_rfl) (fun _ _ _ h => h) (Or.inl ⟨by rfl, ?_⟩) (by assumption) ?_
              rotate_left
              · (intro V hV; (try dsimp only at hV); go_simp; with_reducible rfl)
              try simp only [Act.put, List.setIfInBounds_toArray, List.set_cons_zero, List.set_cons_succ]
              refine wpAnyM_take (i := 13) (v := ?_) rfl rfl (by kernel_rfl) (fun _ _ _ h => h) (Or.inl ⟨by rfl, ?_⟩) (by assumption) ?_
              rotate_left
              · (intro V hV; (try dsimp only at hV); go_simp; with_reducible rfl)
              try simp only [Act.put, List.setIfInBounds_toArray, List.set_cons_zero, List.set_cons_succ]
              refine wpAnyM_take (i := 14) (v := ?_) rfl rfl (by kernel_rfl) (fun _ _ _ h => h) (Or.inl ⟨by rfl, ?_⟩) (by assumption) ?_
              rotate_left
              · (intro V hV; (try dsimp only at hV); go_simp; with_reducible rfl)
              try simp only [Act.put, List.setIfInBounds_toArray, List.set_cons_zero, List.set_cons_succ]
              refine wpAnyM_take (i := 15) (v := ?_) rfl rfl (by kernel_rfl) (fun _ _ _ h => h) (Or.inl ⟨by rfl, ?_⟩) (by assumption) ?_
              rotate_left
              · (intro V hV; (try dsimp only at hV); go_simp; with_reducible rfl)
              try simp only [Act.put, List.setIfInBounds_toArray, List.set_cons_zero, List.set_cons_succ]
              refine wpAnyM_take (i := 16) (v := ?_) rfl rfl (by kernel_rfl) (fun _ _ _ h => h) (Or.inl ⟨by rfl, ?_⟩) (by assumption) ?_
              rotate_left
              · (intro V hV; (try dsimp only at hV); go_simp; with_reducible rfl)
              try simp only [Act.put, List.setIfInBounds_toArray, List.set_cons_zero, List.set_cons_succ]
              refine wpAnyM_step (i := 17) (by kernel_rfl) rfl rfl (fun K hK => ?_)
              go_simp
              refine hK.out _ _ (fun h => absurd rfl h) ?_
              refine wpAnyM_done (by kernel_rfl) ?_ _
              clear hK K HS2
              go_wp2_with fail
              go_roundw
              case rel => exact ⟨i + 1, by omega, by go_num, hide (below_more HW1.out (Nat.le_refl _) kW.out), hide (YES.out HY.out)⟩
              case measure => simp [intOf]; omega
        · have k0 : ¬ (0 : Int) < (i : Int) := by omega
          have d1 : decide ((0 : Int) < (i : Int)) = false := decide_eq_false k0
          have d2 : decide (0 < i) = false := decide_eq_false h0
          clear hx hq
          cases q with
          | false =>
            have HE : Hid (R = false) := hide (NO.out (by rw [HOK.out]; rfl))
            clear HOK YES NO
            go_wp2_with fail
            rw [HWZ.out, HZ.out]
            refine wp_region_M (fun V => (V.cell? ⟨z, 0, none⟩ = some (.string ⟨nm.toArray⟩) ∧ V.cell? ⟨z, 1, none⟩ = some (.string ⟨vl.toArray⟩) ∧ V.cell? ⟨z, 2, none⟩ = some (.bool ex))) 17 rfl ⟨HC0.out, HC1.out, HC2.out⟩ (fun hHeld => ?_)
            refine wpAnyM_take (i := 0) (v := ?_) rfl rfl (by kernel_rfl) (fun _ _ _ h => h) (Or.inl ⟨by rfl, ?_⟩) (by assumption) ?_
            rotate_left
            · (intro V hV; (try dsimp only at hV); go_simp; with_reducible rfl)
            try simp only [Act.put, List.setIfInBounds_toArray, List.set_cons_zero, List.set_cons_succ]
            refine wpAnyM_step (i := 1) (by kernel_rfl) rfl rfl (fun K hK => ?_)
            go_simp
            refine (XV.out _).mono ?_
            rintro e w2 ⟨rfl, kx⟩
            replace kW := hide (below_more kW.out (Nat.le_refl _) kx)
            have HS2 : (fun V : World => (V.cell? ⟨z, 0, none⟩ = some (.string ⟨nm.toArray⟩) ∧ V.cell? ⟨z, 1, none⟩ = some (.string ⟨vl.toArray⟩) ∧ V.cell? ⟨z, 2, none⟩ = some (.bool ex))) w2 := ⟨(kW.out.cell (p := ⟨z, 0, none⟩) hz1).trans HC0.out, (kW.out.cell (p := ⟨z, 1, none⟩) hz1).trans HC1.out, (kW.out.cell (p := ⟨z, 2, none⟩) hz1).trans HC2.out⟩
            refine hK.out _ _ (fun _ => HS2) ?_
            clear hK K hHeld kx
            refine wpAnyM_take (i := 2) (v := ?_) rfl rfl (by kernel_rfl) (fun _ _ _ h => h) (Or.inl ⟨by rfl, ?_⟩) (by assumption) ?_
            rotate_left
            · (intro V hV; (try dsimp only at hV); go_simp; with_reducible rfl)
            try simp only [Act.put, List.setIfInBounds_toArray, List.set_cons_zero, List.set_cons_succ]
            refine wpAnyM_take (i := 3) (v := ?_) rfl rfl (by kernel_rfl) (fun _ _ _ h => h) (Or.inl ⟨by rfl, ?_⟩) (by assumption) ?_
            rotate_left
            · (intro V hV; (try dsimp only at hV); go_simp; with_reducible rfl)
            try simp only [Act.put, List.setIfInBounds_toArray, List.set_cons_zero, List.set_cons_succ]
            refine wpAnyM_take (i := 4) (v := undef) rfl rfl (by kernel_rfl) (fun _ _ _ h => h) (Or.inr ⟨by rfl, rfl⟩) (by assumption) ?_
            try simp only [Act.put, List.setIfInBounds_toArray, List.set_cons_zero, List.set_cons_succ]
            refine wpAnyM_take (i := 5) (v := undef) rfl rfl (by kernel_rfl) (fun _ _ _ h => h) (Or.inr ⟨by rfl, rfl⟩) (by assumption) ?_
            try simp only [Act.put, List.setIfInBounds_toArray, List.set_cons_zero, List.set_cons_succ]
            refine wpAnyM_take (i := 6) (v := undef) rfl rfl (by kernel_rfl) (fun _ _ _ h => h) (Or.inr ⟨by rfl, rfl⟩) (by assumption) ?_
            try simp only [Act.put, List.setIfInBounds_toArray, List.set_cons_zero, List.set_cons_succ]
            refine wpAnyM_take (i := 7) (v := undef) rfl rfl (by kernel_rfl) (fun _ _ _ h => h) (Or.inr ⟨by rfl, rfl⟩) (by assumption) ?_
            try simp only [Act.put, List.setIfInBounds_toArray, List.set_cons_zero, List.set_cons_succ]
            refine wpAnyM_take (i := 8) (v := undef) rfl rfl (by kernel_rfl) (fun _ _ _ h => h) (Or.inr ⟨by rfl, rfl⟩) (by assumption) ?_
            try simp only [Act.put, List.setIfInBounds_toArray, List.set_cons_zero, List.set_cons_succ]
            refine wpAnyM_take (i := 9) (v := undef) rfl rfl (by kernel_rfl) (fun _ _ _ h => h) (Or.inr ⟨by rfl, rfl⟩) (by assumption) ?_
            try simp only [Act.put, List.setIfInBounds_toArray, List.set_cons_zero, List.set_cons_succ]
            refine wpAnyM_take (i := 10) (v := undef) rfl rfl (by kernel_rfl) (fun _ _ _ h => h) (Or.inr ⟨by rfl, rfl⟩) (by assumption) ?_
            try simp only [Act.put, List.setIfInBounds_toArray, List.set_cons_zero, List.set_cons_succ]
            refine wpAnyM_take (i := 11) (v := undef) rfl rfl (by kernel_rfl) (fun _ _ _ h => h) (Or.inr ⟨by rfl, rfl⟩) (by assumption) ?_
            try simp only [Act.put, List.setIfInBounds_toArray, List.set_cons_zero, List.set_cons_succ]
            refine wpAnyM_take (i := 12) (v := undef) rfl rfl (by kernel_rfl) (fun _ _ _ h => h) (Or.inr ⟨by rfl, rfl⟩) (by assumption) ?_
            try simp only [Act.put, List.setIfInBounds_toArray, List.set_cons_zero, List.set_cons_succ]
            refine wpAnyM_take (i := 13) (v := undef) rfl rfl (by kernel_rfl) (fun _ _ _ h => h) (Or.inr ⟨by rfl, rfl⟩) (by assumption) ?_
            try simp only [Act.put, List.setIfInBounds_toArray, List.set_cons_zero, List.set_cons_succ]
            refine wpAnyM_take (i := 14) (v := undef) rfl rfl (by kernel_rfl) (fun _ _ _ h => h) (Or.inr ⟨by rfl, rfl⟩) (by assumption) ?_
            try simp only [Act.put, List.setIfInBounds_toArray, List.set_cons_zero, List.set_cons_succ]
            refine wpAnyM_take (i := 15) (v := undef) rfl rfl (by kernel_rfl) (fun _ _ _ h => h) (Or.inr ⟨by rfl, rfl⟩) (by assumption) ?_
            try simp only [Act.put, List.setIfInBounds_toArray, List.set_cons_zero, List.set_cons_succ]
            refine wpAnyM_take (i := 16) (v := undef) rfl rfl (by kernel_rfl) (fun _ _ _ h => h) (Or.inr ⟨by rfl, rfl⟩) (by assumption) ?_
            try simp only [Act.put, List.setIfInBounds_toArray, List.set_cons_zero, List.set_cons_succ]
            refine wpAnyM_step (i := 17) (by kernel_rfl) rfl rfl (fun K hK => ?_)
            go_simp
            refine hK.out _ _ (fun h => absurd rfl h) ?_
            refine wpAnyM_done (by kernel_rfl) ?_ _
            clear hK K HS2
            go_wp2_with fail
            go_ret
            exact ⟨ret_bool HE.out.symm, below_more HW1.out (Nat.le_refl _) kW.out⟩
          | true =>
            have HY : Hid (okAt l i = true) := hide (by rw [HOK.out, decide_eq_true (by omega : i = 0)]; rfl)
            clear HOK NO
            go_wp2_with fail
            rw [HWZ.out, HZ.out]
            refine wp_region_M (fun V => (V.cell? ⟨z, 0, none⟩ = some (.string ⟨nm.toArray⟩) ∧ V.cell? ⟨z, 1, none⟩ = some (.string ⟨vl.toArray⟩) ∧ V.cell? ⟨z, 2, none⟩ = some (.bool ex))) 17 rfl ⟨HC0.out, HC1.out, HC2.out⟩ (fun hHeld => ?_)
            refine wpAnyM_take (i := 0) (v := ?_) rfl rfl (by kernel_rfl) (fun _ _ _ h => h) (Or.inl ⟨by rfl, ?_⟩) (by assumption) ?_
            rotate_left
            · (intro V hV; (try dsimp only at hV); go_simp; with_reducible rfl)
            try simp only [Act.put, List.setIfInBounds_toArray, List.set_cons_zero, List.set_cons_succ]
            refine wpAnyM_step (i := 1) (by kernel_rfl) rfl rfl (fun K hK => ?_)
            go_simp
            refine (XV.out _).mono ?_
            rintro e w2 ⟨rfl, kx⟩
            replace kW := hide (below_more kW.out (Nat.le_refl _) kx)
            have HS2 : (fun V : World => (V.cell? ⟨z, 0, none⟩ = some (.string ⟨nm.toArray⟩) ∧ V.cell? ⟨z, 1, none⟩ = some (.string ⟨vl.toArray⟩) ∧ V.cell? ⟨z, 2, none⟩ = some (.bool ex))) w2 := ⟨(kW.out.cell (p := ⟨z, 0, none⟩) hz1).trans HC0.out, (kW.out.cell (p := ⟨z, 1, none⟩) hz1).trans HC1.out, (kW.out.cell (p := ⟨z, 2, none⟩) hz1).trans HC2.out⟩
            refine hK.out _ _ (fun _ => HS2) ?_
            clear hK K hHeld kx
            refine wpAnyM_take (i := 2) (v := ?_) rfl rfl (by kernel_rfl) (fun _ _ _ h => h) (Or.inl ⟨by rfl, ?_⟩) (by assumption) ?_
            rotate_left
            · (intro V hV; (try dsimp only at hV); go_simp; with_reducible rfl)
            try simp only [Act.put, List.setIfInBounds_toArray, List.set_cons_zero, List.set_cons_succ]
            refine wpAnyM_take (i := 3) (v := ?_) rfl rfl (by kernel_rfl) (fun _ _ _ h => h) (Or.inl ⟨by rfl, ?_⟩) (by assumption) ?_
            rotate_left
            · (intro V hV; (try dsimp only at hV); go_simp; with_reducible rfl)
            try simp only [Act.put, List.setIfInBounds_toArray, List.set_cons_zero, List.set_cons_succ]
            refine wpAnyM_take (i := 4) (v := ?_) rfl rfl (by kernel_rfl) (fun _ _ _ h => h) (Or.inl ⟨by rfl, ?_⟩) (by assumption) ?_
            rotate_left
            · (intro V hV; (try dsimp only at hV); go_simp; with_reducible rfl)
            try simp only [Act.put, List.setIfInBounds_toArray, List.set_cons_zero, List.set_cons_succ]
            refine wpAnyM_take (i := 5) (v := ?_) rfl rfl (by kernel_rfl) (fun _ _ _ h => h) (Or.inl ⟨by rfl, ?_⟩) (by assumption) ?_
            rotate_left
            · (intro V hV; (try dsimp only at hV); go_simp; with_reducible rfl)
            try simp only [Act.put, List.setIfInBounds_toArray, List.set_cons_zero, List.set_cons_succ]
            refine wpAnyM_take (i := 6) (v := ?_) rfl rfl (by kernel_rfl) (fun _ _ _ h => h) (Or.inl ⟨by rfl, ?_⟩) (by assumption) ?_
            rotate_left
            · (intro V hV; (try dsimp only at hV); go_simp; with_reducible rfl)
            try simp only [Act.put, List.setIfInBounds_toArray, List.set_cons_zero, List.set_cons_succ]
            refine wpAnyM_take (i := 7) (v := undef) rfl rfl (by kernel_rfl) (fun _ _ _ h => h) (Or.inr ⟨by rfl, rfl⟩) (by assumption) ?_
            try simp only [Act.put, List.setIfInBounds_toArray, List.set_cons_zero, List.set_cons_succ]
            refine wpAnyM_take (i := 8) (v := undef) rfl rfl (by kernel_rfl) (fun _ _ _ h => h) (Or.inr ⟨by rfl, rfl⟩) (by assumption) ?_
            try simp only [Act.put, List.setIfInBounds_toArray, List.set_cons_zero, List.set_cons_succ]
            refine wpAnyM_take (i := 9) (v := undef) rfl rfl (by kernel_rfl) (fun _ _ _ h => h) (Or.inr ⟨by rfl, rfl⟩) (by assumption) ?_
            try simp only [Act.put, List.setIfInBounds_toArray, List.set_cons_zero, List.set_cons_succ]
            refine wpAnyM_take (i := 10) (v := undef) rfl rfl (by kernel_rfl) (fun _ _ _ h => h) (Or.inr ⟨by rfl, rfl⟩) (by assumption) ?_
            try simp only [Act.put, List.setIfInBounds_toArray, List.set_cons_zero, List.set_cons_succ]
            refine wpAnyM_take (i := 11) (v := undef) rfl rfl (by kernel_rfl) (fun _ _ _ h => h) (Or.inr ⟨by rfl, rfl⟩) (by assumption) ?_
            try simp only [Act.put, List.setIfInBounds_toArray, List.set_cons_zero, List.set_cons_succ]
            refine wpAnyM_take (i := 12) (v := undef) rfl rfl (by kernel_rfl) (fun _ _ _ h => h) (Or.inr ⟨by rfl, rfl⟩) (by assumption) ?_
            try simp only [Act.put, List.setIfInBounds_toArray, List.set_cons_zero, List.set_cons_succ]
            refine wpAnyM_take (i := 13) (v := undef) rfl rfl (by kernel_rfl) (fun _ _ _ h => h) (Or.inr ⟨by rfl, rfl⟩) (by assumption) ?_
            try simp only [Act.put, List.setIfInBounds_toArray, List.set_cons_zero, List.set_cons_succ]
            refine wpAnyM_take (i := 14) (v := undef) rfl rfl (by kernel_rfl) (fun _ _ _ h => h) (Or.inr ⟨by rfl, rfl⟩) (by assumption) ?_
            try simp only [Act.put, List.setIfInBounds_toArray, List.set_cons_zero, List.set_cons_succ]
            refine wpAnyM_take (i := 15) (v := undef) rfl rfl (by kernel_rfl) (fun _ _ _ h => h) (Or.inr ⟨by rfl, rfl⟩) (by assumption) ?_
            try simp only [Act.put, List.setIfInBounds_toArray, List.set_cons_zero, List.set_cons_succ]
            refine wpAnyM_take (i := 16) (v := ?_) rfl rfl (by kernel_rfl) (fun _ _ _ h => h) (Or.inl ⟨by rfl, ?_⟩) (by assumption) ?_
            rotate_left
            · (intro V hV; (try dsimp only at hV); go_simp; with_reducible rfl)
            try simp only [Act.put, List.setIfInBounds_toArray, List.set_cons_zero, List.set_cons_succ]
            refine wpAnyM_step (i := 17) (by kernel_rfl) rfl rfl (fun K hK => ?_)
            go_simp
            refine hK.out _ _ (fun h => absurd rfl h) ?_
            refine wpAnyM_done (by kernel_rfl) ?_ _
            clear hK K HS2
            go_wp2_with fail
            go_roundw
            case rel => exact ⟨i + 1, by omega, by go_num, hide (below_more HW1.out (Nat.le_refl _) kW.out), hide (YES.out HY.out)⟩
            case measure => simp [intOf]; omega
      · have hlt' : ¬ (i : Int) < (n : Int) := by omega
        have HE : Hid (R = true) := hide (HRE.out.symm.trans (check_yes (by have := HL.out; omega) (fun j hj => HF.out j (by have := HL.out; omega))))
        clear HF
        go_wp2_with fail
        go_ret
        exact ⟨ret_bool HE.out.symm, HW.out⟩
  · have k64 : (64 : Int) < (n : Int) := by omega
    have HE : Hid (R = false) := hide (HRE.out.symm.trans (by unfold checkP; rw [decide_eq_false (by have := HL.out; omega), Bool.false_and]))
    go_enter Tryz.func21, Tryz.ntmps21
    go_wp2_with fail
    go_ret
    exact ⟨ret_bool HE.out.symm, Below.refl _ _⟩
end Go.Proofs.YtpioelpmdaeieaaGreatDoor
