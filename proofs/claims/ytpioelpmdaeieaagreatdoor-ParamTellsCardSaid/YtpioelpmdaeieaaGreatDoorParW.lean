/- The document's find, Get, put, Set, Export, Unset at variables. -/
import Derived.Test.YtpioelpmdaeieaaGreatDoorParU
namespace Go.Proofs.YtpioelpmdaeieaaGreatDoor
open Go.RowKit
set_option linter.unusedVariables false
theorem pos_of {l : List Vr} {s : LB} {i : Nat} (h1 : ∀ j, j < i → nmAt l j < s) (hi : i ≤ l.length) (h2 : i = l.length ∨ ¬ nmAt l i < s) : posP l s = i := by
  rcases Nat.lt_trichotomy (posP l s) i with h | h | h
  · exact absurd (h1 _ h) (pos_stop l s (by omega))
  · exact h
  · rcases h2 with h2 | h2
    · have := pos_le l s; omega
    · exact absurd (pos_ahead l s i h) h2
def rfoundP (l : List Vr) (s : LB) : Bool := decide (posP l s < l.length) && (nmAt l (posP l s) == s)
theorem rfound_eq {l : List Vr} (hs : sortedP l) (s : LB) : findP l s = posP l s ∧ foundP l s = rfoundP l s := by
  refine ⟨find_pos hs s, ?_⟩
  rw [found_eq, find_pos hs s]
  unfold rfoundP
  by_cases h : posP l s < l.length <;> by_cases h2 : nmAt l (posP l s) = s <;> simp [h, h2]
set_option maxRecDepth 100000 in
set_option maxHeartbeats 4000000 in
theorem rfind_any (l : List Vr) (s : LB) (A : Option Addr) (n c : Nat) (w : World) (hR : RdV w A n l) (hn : n ≤ 1000) : Calls Tryz.prog 29 #[.slice A n c, .string ⟨s.toArray⟩] w fun e w' => e = .returned (.tuple #[.int .i64 (posP l s : Int), .bool (rfoundP l s)]) ∧ Below w.heap.size w w' := by
  have hl := hR.len
  have HR := hide hR
  have HL := hide hl
  obtain ⟨P, hP⟩ : ∃ P, posP l s = P := ⟨_, rfl⟩
  have HP := hide hP
  have HFD : Hid (rfoundP l s = (decide (P < l.length) && (nmAt l P == s))) := hide (by unfold rfoundP; rw [hP])
  rw [hP]
  obtain ⟨F, hF⟩ : ∃ F, rfoundP l s = F := ⟨_, rfl⟩
  rw [hF] at HFD ⊢
  clear hR hl hP hF
  go_enter Tryz.func29, Tryz.ntmps29
  go_wp2_with fail
  go_loopw [6] (fun u6 wx => ∃ i : Nat, i ≤ n ∧ u6 = .int .i64 (i : Int) ∧ Hid (w = wx) ∧ Hid (∀ j, j < i → nmAt l j < s)) (fun u6 _ => n - (intOf u6).toNat)
  case atStart => exact ⟨0, Nat.zero_le _, rfl, (by first | exact hide rfl | exact hide trivial), hide (fun j h => by omega)⟩
  case round =>
    obtain ⟨i, hi, rfl, HW, HF⟩ := hrel
    obtain rfl := HW.out
    by_cases hlt : i < n
    · obtain ⟨x, hx⟩ : ∃ x, l[i]? = some x := ⟨_, List.getElem?_eq_getElem (by have := HL.out; omega)⟩
      obtain ⟨g, o, rfl, hg, q0, q1, q2⟩ := var_cells HR.out hx
      have hia := fun W => var_at g o n c i (i : Int) rfl hlt W
      have hlt' : (i : Int) < (n : Int) := by omega
      have HNM : Hid (nmAt l i = x.name) := hide (nmAt_get hx)
      obtain ⟨nm, vl, ex⟩ := x
      dsimp only at q0 HNM
      clear hx q1 q2
      obtain ⟨b, hb⟩ : ∃ b, Op.bytesLess nm s = b := ⟨_, rfl⟩
      have HBL : Hid (decide (nm < s) = b) := hide (by rw [← bytesLess_eq, hb])
      cases b with
      | true =>
        have HF2 : Hid (∀ j, j < i + 1 → nmAt l j < s) := hide (fun j hj => by
          rcases Nat.lt_or_ge j i with h1 | h1
          · exact HF.out j h1
          · obtain rfl : j = i := by omega
            rw [HNM.out]; exact of_decide_eq_true HBL.out)
        go_wp2_with fail
        go_roundw
        case rel => exact ⟨i + 1, by omega, by go_num, (by first | exact hide rfl | exact hide trivial), HF2⟩
        case measure => simp [intOf]; omega
      | false =>
        have HPI : Hid (P = i) := hide (HP.out.symm.trans (pos_of HF.out (by have := HL.out; omega) (.inr (by rw [HNM.out]; exact of_decide_eq_false HBL.out))))
        have HFE : Hid (F = (nm == s)) := hide (by rw [HFD.out, HPI.out, HNM.out, decide_eq_true (by have := HL.out; omega : i < l.length)]; rfl)
        have dlt : decide ((i : Int) < (n : Int)) = true := decide_eq_true hlt'
        go_wp2_with fail
        go_quiet (fail)
        go_wp2_with fail
        refine bodyPost_ret (v := .tuple #[.int .i64 (i : Int), .bool (nm == s)]) (by simp only [results, Tryz.results29]; go_simp) rfl ⟨by rw [HPI.out, HFE.out], below_drewN (Below.refl _ _) _⟩
    · have hlt' : ¬ (i : Int) < (n : Int) := by omega
      have dlt : decide ((i : Int) < (n : Int)) = false := decide_eq_false hlt'
      have HPI : Hid (P = i) := hide (HP.out.symm.trans (pos_of HF.out (by have := HL.out; omega) (.inl (by have := HL.out; omega))))
      have HFE : Hid (F = false) := hide (by rw [HFD.out, HPI.out, decide_eq_false (by have := HL.out; omega : ¬ i < l.length)]; rfl)
      go_wp2_with fail
      go_quiet (fail)
      go_wp2_with fail
      refine bodyPost_ret (v := .tuple #[.int .i64 (i : Int), .bool false]) (by simp only [results, Tryz.results29]; go_simp) rfl ⟨by rw [HPI.out, HFE.out], below_drewN (Below.refl _ _) _⟩
/-- What put makes of a row. -/
def putP (l : List Vr) (x : Vr) : List Vr × Nat :=
  if rfoundP l x.name = true then (l.take (posP l x.name) ++ [x] ++ l.drop (posP l x.name + 1), 0)
  else if l.length = 64 then (l, 4) else (l.take (posP l x.name) ++ [x] ++ l.drop (posP l x.name), 0)
set_option maxRecDepth 100000 in
set_option maxHeartbeats 8000000 in
theorem rput_any (l : List Vr) (x : Vr) (A : Option Addr) (n c : Nat) (w : World) (hR : RdV w A n l) (hn : n ≤ 1000) (hnc : n ≤ c) : Calls Tryz.prog 34 #[.slice A n c, x.v] w fun e w' => ∃ A' c', e = .returned (.tuple #[.slice A' (putP l x).1.length c', .int .i64 ((putP l x).2 : Int)]) ∧ RdV w' A' (putP l x).1.length (putP l x).1 ∧ Below w.heap.size w w' := by
  obtain ⟨i0, hi0, hz0, hz1, hz2⟩ := info_parts infoVar
  have hl := hR.len
  obtain ⟨nm, vl, ex⟩ := x
  have XF := hide (fun W (h : RdV W A n l) => rfind_any l nm A n c W h hn)
  obtain ⟨k, hk⟩ : ∃ k, posP l nm = k := ⟨_, rfl⟩
  obtain ⟨fo, hfo⟩ : ∃ f, rfoundP l nm = f := ⟨_, rfl⟩
  rw [hk, hfo] at XF
  have hkn : k ≤ n := by rw [← hk, ← hl]; exact pos_le l nm
  have HKF : Hid (fo = true → k < n) := hide (fun h => by
    rw [← hfo] at h
    unfold rfoundP at h
    rw [Bool.and_eq_true, decide_eq_true_eq, hk] at h
    omega)
  obtain ⟨RL, hRL⟩ : ∃ R, (putP l ⟨nm, vl, ex⟩).1 = R := ⟨_, rfl⟩
  obtain ⟨RE, hRE⟩ : ∃ R, (putP l ⟨nm, vl, ex⟩).2 = R := ⟨_, rfl⟩
  rw [hRL, hRE]
  have HPE : Hid ((RL, RE) = if fo = true then (l.take k ++ [⟨nm, vl, ex⟩] ++ l.drop (k + 1), 0) else if n = 64 then (l, 4) else (l.take k ++ [⟨nm, vl, ex⟩] ++ l.drop k, 0)) := hide (by rw [← hRL, ← hRE, ← hfo, ← hk, ← hl]; rfl)
  have HR := hide hR
  have HL := hide hl
  unfold Vr.v
  dsimp only
  clear hR hl hk hfo hRL hRE
  obtain ⟨W1, hW1⟩ : ∃ W, w.alloc (.cells #[.string ⟨nm.toArray⟩, .string ⟨vl.toArray⟩, .bool ex] 42) = W := ⟨_, rfl⟩
  have HB1 : Hid (Below w.heap.size w W1) := hide (by rw [← hW1]; exact (Below.refl _ _).alloc (Nat.le_refl _) _)
  have b1 : Blk W1 w.heap.size 42 #[.string ⟨nm.toArray⟩, .string ⟨vl.toArray⟩, .bool ex] := by rw [← hW1]; exact Blk.new w 42 _
  have hlt1 := b1.lt
  have HR1 : Hid (RdV W1 A n l) := hide (by rw [← hW1]; exact HR.out.alloc _)
  have HBK := hide b1
  have HW1 := hide hW1
  clear hW1 b1
  go_enter Tryz.func34, Tryz.ntmps34
  go_wp2_with fail
  try rw [HW1.out]
  refine (XF.out W1 HR1.out).mono ?_
  rintro e w2 ⟨rfl, hb⟩
  have HB2 := hide (below_more HB1.out (Nat.le_refl _) hb)
  have HR2 := hide (HR1.out.below hb)
  have HBK2 := hide (HBK.out.below hb hlt1)
  have hlt2 : w.heap.size < w2.heap.size := Nat.lt_of_lt_of_le hlt1 hb.size
  clear hb HBK HB1 HW1 XF hlt1
  have hsl1 := fun W => slv_to A n c k (k : Int) rfl (by omega) W
  have hown0 : (w2.alloc (.cells #[] 42)).ownsRow w2.heap.size 42 3 (.slice (some ⟨w2.heap.size, 0, none⟩) 0 0) 0 [] := by
    refine ⟨rfl, .inr ⟨w2.heap.size, 0, #[], rfl, Nat.le_refl _, ?_⟩⟩
    exact ⟨Blk.new w2 42 #[], Nat.le_refl _, by simp [maxLen], by simp, by simp⟩
  have hrt := (HR2.out.alloc (.cells #[] 42)).take hkn
  have hszk : (vvs (l.take k)).length = k * 3 := hrt.1
  go_wp2_with (at_builtin; (refine wpList_append_any _ rfl (.tmp 16) (.tmp 19) 22 rfl w2.heap.size 42 i0 _ 3 40 Tryz.underlying22 hi0 hz0 hz1 hz2 rfl (by omega) (.slice (some ⟨w2.heap.size, 0, none⟩) 0 0) 0 [] rfl hown0 _ A k c (vvs (l.take k)) rfl hrt (vvs_one _) ?c1 ?c2 ?c3 ?_))
  case c1 => unfold maxLen; omega
  case c2 => omega
  case c3 => simp
  intro v3 w3 hown3 hg3 hat3
  obtain ⟨A3, c3', rfl⟩ := own_slice hown3
  have HO3 : Hid (OwV w2.heap.size w3 A3 k c3' (l.take k)) := hide (by unfold OwV; simpa using hown3)
  have HB3 : Hid (Below w2.heap.size w2 w3) := hide (((Below.refl _ _).alloc (Nat.le_refl _) _).grown hg3 (by simp) (fun g hg => by simp [Value.ownBlock] at hg; omega))
  have HR3 := hide (HR2.out.below HB3.out)
  have HBK3 := hide (HBK2.out.below HB3.out hlt2)
  have hsz3 := HB3.out.size
  clear hown0 hrt hszk hown3 hg3 hat3 hsl1
  obtain ⟨c0, c1, c2, _, _, _⟩ := Blk.three HBK3.out
  have hr1 : RdV (w3.alloc (.cells #[.string ⟨nm.toArray⟩, .string ⟨vl.toArray⟩, .bool ex] 42)) (some ⟨w3.heap.size, 0, none⟩) 1 [⟨nm, vl, ex⟩] := one_var (Blk.new w3 42 #[.string ⟨nm.toArray⟩, .string ⟨vl.toArray⟩, .bool ex])
  have hO4 := World.ownsRow.alloc HO3.out (.cells #[.string ⟨nm.toArray⟩, .string ⟨vl.toArray⟩, .bool ex] 42)
  go_wp2_with (at_builtin; (refine wpList_append_any _ rfl (.tmp 21) (.tmp 23) 22 rfl w2.heap.size 42 i0 _ 3 40 Tryz.underlying22 hi0 hz0 hz1 hz2 rfl (by omega) (.slice A3 k c3') k (vvs (l.take k)) rfl hO4 _ (some ⟨w3.heap.size, 0, none⟩) 1 1 (vvs [⟨nm, vl, ex⟩]) rfl hr1 (vvs_one _) ?d1 ?d2 ?d3 ?_))
  case d1 => unfold maxLen; omega
  case d2 => omega
  case d3 => simp; omega
  intro v5 w5 hown5 hg5 hat5
  obtain ⟨A5, c5', rfl⟩ := own_slice hown5
  rw [← vvs_append] at hown5
  have HO5 : Hid (OwV w2.heap.size w5 A5 (k + 1) c5' (l.take k ++ [⟨nm, vl, ex⟩])) := hide hown5
  have HB5 : Hid (Below w2.heap.size w2 w5) := hide ((HB3.out.alloc hsz3 _).grown hg5 (by simp; omega) (fun g hg => (World.ownsRow.lt HO3.out g hg).1))
  have HR5 := hide (HR2.out.below HB5.out)
  have hsz5 := HB5.out.size
  have K5 := hide (below_more HB2.out (Nat.le_refl _) (HB5.out.mono (Nat.le_refl _)))
  clear hr1 hO4 hown5 hg5 hat5 c0 c1 c2 HO3 HB3 HR3 HBK3 hsz3
  cases fo with
  | true =>
    have hkn2 := HKF.out rfl
    have HRL : Hid (RL = l.take k ++ [⟨nm, vl, ex⟩] ++ l.drop (k + 1)) := hide (congrArg Prod.fst HPE.out)
    have HRE : Hid (RE = 0) := hide (congrArg Prod.snd HPE.out)
    obtain ⟨T, hT⟩ : ∃ T, (if c = k + 1 then A else A.map (·.add ((k + 1) * 3))) = T := ⟨_, rfl⟩
    have hsl2 : ∀ W, (Instr.slice 22 (.slice A n c) (some (.int .i64 ((k : Int) + 1))) none none).run Tryz.prog W = .ok (.slice T (n - (k + 1)) (c - (k + 1))) W := fun W => by rw [← hT]; exact slv_from A n c (k + 1) ((k : Int) + 1) (by omega) (by omega) W
    have kw : IntKind.i64.wrap ((k : Int) + 1) = (k : Int) + 1 := by simp [IntKind.wrap, IntKind.bits, IntKind.signed]; omega
    have hrd := HR5.out.drop (k := k + 1) (by omega) hnc
    rw [hT] at hrd
    clear hT
    go_wp2_with (at_builtin; (refine wpList_append_any _ rfl (.tmp 26) (.tmp 30) 22 rfl w2.heap.size 42 i0 _ 3 40 Tryz.underlying22 hi0 hz0 hz1 hz2 rfl (by omega) (.slice A5 (k + 1) c5') (k + 1) (vvs (l.take k ++ [(⟨nm, vl, ex⟩ : Vr)])) rfl HO5.out _ T (n - (k + 1)) (c - (k + 1)) (vvs (l.drop (k + 1))) rfl hrd (vvs_one _) ?e1 ?e2 hsz5 ?_))
    case e1 => unfold maxLen; omega
    case e2 => omega
    intro v7 w7 hown7 hg7 hat7
    obtain ⟨A7, c7', rfl⟩ := own_slice hown7
    rw [← vvs_append] at hown7
    have HO7 : Hid (OwV w2.heap.size w7 A7 (k + 1 + (n - (k + 1))) c7' RL) := hide (by rw [HRL.out]; exact hown7)
    have HB7 : Hid (Below w2.heap.size w2 w7) := hide (HB5.out.grown hg7 hsz5 (fun g hg => (World.ownsRow.lt HO5.out g hg).1))
    have K7 := hide (below_more HB2.out (Nat.le_refl _) (HB7.out.mono (Nat.le_refl _)))
    have HLN : Hid (RL.length = k + 1 + (n - (k + 1))) := hide (by have := HO7.out.rd.len; exact this)
    clear hown7 hg7 hat7 hrd
    go_wp2_with fail
    refine bodyPost_ret (v := .tuple #[.slice A7 (k + 1 + (n - (k + 1))) c7', .int .i64 0]) (by simp only [results, Tryz.results34]; go_simp) rfl ⟨A7, c7', by rw [HLN.out, HRE.out]; rfl, by rw [HLN.out]; exact HO7.out.rd, K7.out⟩
  | false =>
    by_cases h64 : n = 64
    · have k64 : ((n : Int) == 64) = true := by rw [beq_iff_eq]; omega
      have HRL : Hid (RL = l) := hide (by have := congrArg Prod.fst HPE.out; simpa [h64] using this)
      have HRE : Hid (RE = 4) := hide (by have := congrArg Prod.snd HPE.out; simpa [h64] using this)
      clear h64
      go_wp2_with fail
      refine bodyPost_ret (v := .tuple #[.slice A n c, .int .i64 4]) (by simp only [results, Tryz.results34]; go_simp) rfl ⟨A, c, by rw [HRL.out, HRE.out, HL.out]; rfl, by rw [HRL.out, HL.out]; exact HR5.out, K5.out⟩
    · have k64 : ((n : Int) == 64) = false := beq_eq_false_iff_ne.2 (by omega)
      have HRL : Hid (RL = l.take k ++ [⟨nm, vl, ex⟩] ++ l.drop k) := hide (by have := congrArg Prod.fst HPE.out; simpa [h64] using this)
      have HRE : Hid (RE = 0) := hide (by have := congrArg Prod.snd HPE.out; simpa [h64] using this)
      clear h64
      obtain ⟨T, hT⟩ : ∃ T, (if c = k then A else A.map (·.add ((k) * 3))) = T := ⟨_, rfl⟩
      have hsl2 : ∀ W, (Instr.slice 22 (.slice A n c) (some (.int .i64 (k : Int))) none none).run Tryz.prog W = .ok (.slice T (n - (k)) (c - (k))) W := fun W => by rw [← hT]; exact slv_from A n c (k) (k : Int) (by omega) (by omega) W
      have hrd := HR5.out.drop (k := k) (by omega) hnc
      rw [hT] at hrd
      clear hT
      go_wp2_with (at_builtin; (refine wpList_append_any _ rfl (.tmp 36) (.tmp 39) 22 rfl w2.heap.size 42 i0 _ 3 40 Tryz.underlying22 hi0 hz0 hz1 hz2 rfl (by omega) (.slice A5 (k + 1) c5') (k + 1) (vvs (l.take k ++ [(⟨nm, vl, ex⟩ : Vr)])) rfl HO5.out _ T (n - (k)) (c - (k)) (vvs (l.drop (k))) rfl hrd (vvs_one _) ?e1 ?e2 hsz5 ?_))
      case e1 => unfold maxLen; omega
      case e2 => omega
      intro v7 w7 hown7 hg7 hat7
      obtain ⟨A7, c7', rfl⟩ := own_slice hown7
      rw [← vvs_append] at hown7
      have HO7 : Hid (OwV w2.heap.size w7 A7 (k + 1 + (n - (k))) c7' RL) := hide (by rw [HRL.out]; exact hown7)
      have HB7 : Hid (Below w2.heap.size w2 w7) := hide (HB5.out.grown hg7 hsz5 (fun g hg => (World.ownsRow.lt HO5.out g hg).1))
      have K7 := hide (below_more HB2.out (Nat.le_refl _) (HB7.out.mono (Nat.le_refl _)))
      have HLN : Hid (RL.length = k + 1 + (n - (k))) := hide (by have := HO7.out.rd.len; exact this)
      clear hown7 hg7 hat7 hrd
      go_wp2_with fail
      refine bodyPost_ret (v := .tuple #[.slice A7 (k + 1 + (n - (k))) c7', .int .i64 0]) (by simp only [results, Tryz.results34]; go_simp) rfl ⟨A7, c7', by rw [HLN.out, HRE.out]; rfl, by rw [HLN.out]; exact HO7.out.rd, K7.out⟩
end Go.Proofs.YtpioelpmdaeieaaGreatDoor
