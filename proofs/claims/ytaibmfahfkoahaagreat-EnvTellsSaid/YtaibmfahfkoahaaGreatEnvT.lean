/- The contracts of env.read, Check, Get and forms. -/
import Derived.Test.YtaibmfahfkoahaaGreatEnvS
namespace Go.Proofs.YtaibmfahfkoahaaGreat
open Go.RowKit
set_option linter.unusedVariables false
theorem pairs_take {l : List LB} {i : Nat} {s : LB} {p : St} (h : l[i]? = some s) (hp : parseP s = some p) : pairsOf (l.take (i + 1)) = pairsOf (l.take i) ++ [p] := by
  obtain ⟨h1, h2⟩ := List.getElem?_eq_some_iff.1 h
  unfold pairsOf
  rw [List.take_succ_eq_append_getElem h1, h2, List.filterMap_append, List.filterMap_cons_some hp]; rfl
theorem okE_at {l : List LB} {i : Nat} {s : LB} (h : l[i]? = some s) : okE l i = ((parseP s).isSome && (decide (i = 0) || Op.bytesLess (keyE l (i - 1)) ((parseP s).getD ([], [])).1)) := by
  have HPA : pairAt l i = parseP s := by unfold pairAt; rw [h]; rfl
  unfold okE
  rw [HPA, show keyE l i = ((parseP s).getD ([], [])).1 by unfold keyE; rw [HPA]]
/-- The settings that are read up to a place, and the key at the place before. -/
theorem read_keys {l : List LB} : ∀ {k : Nat}, k ≤ l.length → (∀ j, j < k → okE l j = true) → (pairsOf (l.take k)).length = k ∧ ∀ j, j < k → ∃ p, (pairsOf (l.take k))[j]? = some p ∧ keyE l j = p.1
  | 0, _, _ => ⟨by simp [pairsOf], fun j h => absurd h (by omega)⟩
  | k + 1, hk, h => by
    obtain ⟨h1, h2⟩ := read_keys (l := l) (k := k) (by omega) (fun j hj => h j (by omega))
    have hs := List.getElem?_eq_getElem (show k < l.length by omega)
    have hok := h k (by omega)
    rw [okE_at hs, Bool.and_eq_true] at hok
    obtain ⟨p, hp⟩ := Option.isSome_iff_exists.1 hok.1
    have e := pairs_take hs hp
    rw [e]
    refine ⟨by rw [List.length_append, h1]; rfl, fun j hj => ?_⟩
    rcases Nat.lt_or_ge j k with hl | hl
    · obtain ⟨q, hq, hk2⟩ := h2 j hl
      exact ⟨q, by rw [List.getElem?_append_left (by omega)]; exact hq, hk2⟩
    · obtain rfl : j = k := by omega
      refine ⟨p, by rw [List.getElem?_append_right (by omega), h1]; simp, ?_⟩
      unfold keyE pairAt
      rw [hs]
      show ((parseP _).getD ([], [])).1 = _
      rw [hp]; rfl
def readS (l : List LB) : List St := if envChk l = true then pairsOf l else []
theorem readS_no {l : List LB} (h : envChk l = false) : readS l = [] := by unfold readS; rw [h]; rfl
theorem readS_yes {l : List LB} (h : envChk l = true) : readS l = pairsOf l := by unfold readS; rw [if_pos h]
set_option maxRecDepth 100000 in
set_option maxHeartbeats 16000000 in
theorem read_any (l : List LB) (hs : ∀ s ∈ l, s.length ≤ 1000000) (A : Option Addr) (n c : Nat) (w : World) (hR : Reads w w.heap.size 1 A n (svs l)) (hn : n ≤ 1000000) :
    Calls Tryz.prog 21 #[.slice A n c] w fun e w' => ∃ A' n' c', e = .returned (.tuple #[.slice A' n' c', .bool (envChk l)]) ∧ OwS w.heap.size w' A' n' c' (readS l) ∧ n' ≤ 32 ∧ Below w.heap.size w w' := by
  obtain ⟨i0, hi0, hz0, hz1, hz2⟩ := info_parts infoSet
  have hl : l.length = n := by have := hR.1; rw [svs_length] at this; omega
  have HR := hide hR
  have HL := hide hl
  have HS := hide hs
  obtain ⟨R, hRE⟩ : ∃ R, envChk l = R := ⟨_, rfl⟩
  have HRE := hide hRE
  rw [hRE]
  obtain ⟨RS, hRS⟩ : ∃ x, readS l = x := ⟨_, rfl⟩
  have HRN : Hid (R = false → RS = []) := hide (fun h => hRS.symm.trans (readS_no (hRE.trans h)))
  have HRY : Hid (R = true → RS = pairsOf l) := hide (fun h => hRS.symm.trans (readS_yes (hRE.trans h)))
  rw [hRS]
  clear hR hl hs hRE hRS
  by_cases h32 : 32 < n
  · have k32 : (32 : Int) < (n : Int) := by omega
    have HE : Hid (R = false) := hide (by rw [← HRE.out]; unfold envChk; rw [decide_eq_false (by have := HL.out; omega)]; rfl)
    go_enter Tryz.func21, Tryz.ntmps21
    go_wp2_with fail
    refine bodyPost_ret (v := .tuple #[.slice none 0 0, .bool false]) (by simp only [results, Tryz.results21]; go_simp) rfl ⟨none, 0, 0, by rw [HE.out], by rw [HRN.out HE.out]; exact OwS.none_ _ _, by omega, Below.refl _ _⟩
  have k32 : ¬ (32 : Int) < (n : Int) := by omega
  go_enter Tryz.func21, Tryz.ntmps21
  go_wp2_with fail
  go_loopw [4, 5, 6, 7, 8, 14] (fun u4 _ _ _ _ u14 wx => ∃ (k : Nat) (A' : Option Addr) (c' : Nat), k ≤ n ∧ u14 = .int .i64 (k : Int) ∧ u4 = .slice A' k c' ∧ Hid (OwS w.heap.size wx A' k c' (pairsOf (l.take k))) ∧ Hid (∀ j, j < k → okE l j = true) ∧ Hid (Below w.heap.size w wx)) (fun _ _ _ _ _ u14 _ => n - (intOf u14).toNat)
  case atStart => exact ⟨0, none, 0, Nat.zero_le _, rfl, rfl, hide (OwS.none_ _ _), hide (fun j h => by omega), hide (Below.refl _ _)⟩
  case round =>
    obtain ⟨k, A', c', hk, rfl, rfl, HO, HF, HB⟩ := hrel
    by_cases hlt : k < n
    · obtain ⟨s, hsx⟩ : ∃ s, l[k]? = some s := ⟨_, List.getElem?_eq_getElem (by have := HL.out; omega)⟩
      have hsl := HS.out s (List.mem_of_getElem? hsx)
      obtain ⟨g, o, rfl, hg, hcell⟩ := cells_str (HR.out.below HB.out) hsx
      have hia := fun W => str_at g o n c k (k : Int) rfl hlt W
      have hlt' : (k : Int) < (n : Int) := by omega
      have XP := hide (fun W => parse_any s (by omega) W)
      have HOK := hide (okE_at hsx)
      have HSX := hide hsx
      have NO : Hid (okE l k = false → R = false) := hide (fun h => HRE.out.symm.trans (envChk_no (by have := HL.out; omega) h))
      have YES : Hid (okE l k = true → ∀ j, j < k + 1 → okE l j = true) := hide (fun h j hj => by
        rcases Nat.lt_or_ge j k with h1 | h1
        · exact HF.out j h1
        · obtain rfl : j = k := by omega
          exact h)
      have kw : IntKind.i64.wrap ((k : Int) - 1) = (k : Int) - 1 := by simp [IntKind.wrap, IntKind.bits, IntKind.signed]; omega
      unfold parseV at XP
      clear hsx
      obtain ⟨q, hq⟩ : ∃ q, parseP s = q := ⟨_, rfl⟩
      have HQ := hide hq
      rw [hq] at XP HOK
      clear hq
      cases q with
      | none =>
        have HE := hide (NO.out (by rw [HOK.out]; rfl))
        dsimp only [Option.getD, Option.isSome] at XP
        unfold St.v at XP
        dsimp only at XP
        go_wp2_with fail
        refine (XP.out _).mono ?_
        rintro e w1 ⟨rfl, hb⟩
        have HB2 : Hid (∀ a : Obj, Below w.heap.size w (w1.alloc a)) := hide (fun a => (below_more HB.out (Nat.le_refl _) hb).alloc (below_more HB.out (Nat.le_refl _) hb).size a)
        clear hb NO YES HOK
        go_wp2_with fail
        go_quiet (fail)
        go_wp2_with fail
        refine bodyPost_ret (v := .tuple #[.slice none 0 0, .bool false]) (by simp only [results, Tryz.results21]; go_simp) rfl ⟨none, 0, 0, by rw [HE.out], by rw [HRN.out HE.out]; exact OwS.none_ _ _, by omega, below_drewN (HB2.out _) _⟩
      | some p =>
        obtain ⟨pn, pv⟩ := p
        dsimp only [Option.getD, Option.isSome] at XP HOK
        unfold St.v at XP
        dsimp only at XP
        have HPT := hide (pairs_take HSX.out HQ.out)
        by_cases h0 : 0 < k
        · have k0 : (0 : Int) < (k : Int) := by omega
          have d0 : decide ((0 : Int) < (k : Int)) = true := decide_eq_true k0
          have d2 : decide (0 < k) = true := decide_eq_true h0
          obtain ⟨y, hy, hye⟩ := (read_keys (l := l) (k := k) (by have := HL.out; omega) HF.out).2 (k - 1) (by omega)
          obtain ⟨ord, hord⟩ : ∃ ord, Op.bytesLess y.1 pn = ord := ⟨_, rfl⟩
          have HO2 : Hid (okE l k = ord) := hide (by rw [HOK.out, hye, hord, decide_eq_false (by omega : ¬ k = 0)]; simp)
          have HY := hide hy
          obtain ⟨yn, yv⟩ := y
          dsimp only at hord
          clear HOK hye hy h0
          cases ord with
          | false =>
            have HE := hide (NO.out HO2.out)
            clear NO YES HO2
            go_wp2_with fail
            refine (XP.out _).mono ?_
            rintro e w1 ⟨rfl, hb⟩
            have HB1 := hide (below_more HB.out (Nat.le_refl _) hb)
            have HO1 := hide (HO.out.below hb)
            clear hb
            have HB2 : Hid (Below w.heap.size w (w1.alloc (.cells #[.string ⟨pn.toArray⟩, .string ⟨pv.toArray⟩] 46))) := hide (HB1.out.alloc HB1.out.size _)
            obtain ⟨g2, o2, rfl, hg2, c0, c1⟩ := set_cells HO1.out.rd HY.out
            have hib := fun W => set_at g2 o2 k c' (k - 1) ((k : Int) - 1) (by omega) (by omega) W
            dsimp only at c0 c1
            go_wp2_with fail
            go_quiet (fail)
            go_wp2_with fail
            refine bodyPost_ret (v := .tuple #[.slice none 0 0, .bool false]) (by simp only [results, Tryz.results21]; go_simp) rfl ⟨none, 0, 0, by rw [HE.out], by rw [HRN.out HE.out]; exact OwS.none_ _ _, by omega, below_drewN HB2.out _⟩
          | true =>
            have HF2 := hide (YES.out HO2.out)
            clear NO YES HO2
            go_wp2_with fail
            refine (XP.out _).mono ?_
            rintro e w1 ⟨rfl, hb⟩
            have HB1 := hide (below_more HB.out (Nat.le_refl _) hb)
            have HO1 := hide (HO.out.below hb)
            clear hb
            have HB2 : Hid (Below w.heap.size w (w1.alloc (.cells #[.string ⟨pn.toArray⟩, .string ⟨pv.toArray⟩] 46))) := hide (HB1.out.alloc HB1.out.size _)
            obtain ⟨g2, o2, rfl, hg2, c0, c1⟩ := set_cells HO1.out.rd HY.out
            have hib := fun W => set_at g2 o2 k c' (k - 1) ((k : Int) - 1) (by omega) (by omega) W
            dsimp only at c0 c1
            go_wp2_with fail
            go_quiet (fail)
            obtain ⟨W3, hW3⟩ : ∃ W, (w1.alloc (.cells #[.string ⟨pn.toArray⟩, .string ⟨pv.toArray⟩] 46)).drewN nq = W := ⟨_, rfl⟩
            have b3 : Blk W3 w1.heap.size 46 #[.string ⟨pn.toArray⟩, .string ⟨pv.toArray⟩] := by rw [← hW3]; exact Blk.new w1 46 _
            have HB3 : Hid (Below w.heap.size w W3) := hide (by rw [← hW3]; exact below_drewN (HB1.out.alloc HB1.out.size _) _)
            have HO3 : Hid (OwS w.heap.size W3 (some (⟨g2, o2, none⟩ : Addr)) k c' (pairsOf (l.take k))) := hide (by rw [← hW3]; exact World.ownsRow.alloc HO1.out (.cells #[.string ⟨pn.toArray⟩, .string ⟨pv.toArray⟩] 46))
            rw [hW3]
            obtain ⟨e0, e1, f0, f1⟩ := Blk.two b3
            clear hW3 b3 HO1
            have hr1 := one_set (x := (pn, pv)) (Blk.new W3 46 #[.string ⟨pn.toArray⟩, .string ⟨pv.toArray⟩])
            have hO2 := World.ownsRow.alloc HO3.out (.cells #[.string ⟨pn.toArray⟩, .string ⟨pv.toArray⟩] 46)
            have hsz := HB3.out.size
            go_wp2_with (at_builtin; (refine wpList_append_any _ rfl (.tmp 41) (.tmp 43) 42 rfl w.heap.size 46 i0 _ 2 32 Tryz.underlying42 hi0 hz0 hz1 hz2 rfl (by omega) (.slice (some (⟨g2, o2, none⟩ : Addr)) k c') k (pss (pairsOf (l.take k))) rfl hO2 _ (some ⟨W3.heap.size, 0, none⟩) 1 1 (pss [(pn, pv)]) rfl hr1 (pss_one _) ?c1 ?c2 ?c3 ?_))
            case c1 => unfold maxLen; omega
            case c2 => omega
            case c3 => simp; omega
            intro v1 w6 hown1 hg1 hat1
            obtain ⟨A6, c6, rfl⟩ := own_slice hown1
            rw [← pss_append, ← HPT.out] at hown1
            have HO6 : Hid (OwS w.heap.size w6 A6 (k + 1) c6 (pairsOf (l.take (k + 1)))) := hide hown1
            have HB6 : Hid (Below w.heap.size w w6) := hide ((HB3.out.alloc hsz _).grown hg1 (by simp; omega) (fun g hg => (World.ownsRow.lt HO3.out g hg).1))
            clear hown1 hg1 hat1 hr1 hO2
            go_wp2_with fail
            go_roundw
            case rel => exact ⟨k + 1, A6, c6, by omega, by go_num, rfl, HO6, HF2, HB6⟩
            case measure => simp [intOf]; omega
        · have k0 : ¬ (0 : Int) < (k : Int) := by omega
          have d0 : decide ((0 : Int) < (k : Int)) = false := decide_eq_false k0
          have d2 : decide (0 < k) = false := decide_eq_false h0
          have HF2 := hide (YES.out (by rw [HOK.out, decide_eq_true (by omega : k = 0)]; rfl))
          clear NO YES HOK h0
          go_wp2_with fail
          refine (XP.out _).mono ?_
          rintro e w1 ⟨rfl, hb⟩
          have HB1 := hide (below_more HB.out (Nat.le_refl _) hb)
          have HO1 := hide (HO.out.below hb)
          clear hb
          go_wp2_with fail
          go_quiet (fail)
          obtain ⟨W3, hW3⟩ : ∃ W, (w1.alloc (.cells #[.string ⟨pn.toArray⟩, .string ⟨pv.toArray⟩] 46)).drewN nq = W := ⟨_, rfl⟩
          have b3 : Blk W3 w1.heap.size 46 #[.string ⟨pn.toArray⟩, .string ⟨pv.toArray⟩] := by rw [← hW3]; exact Blk.new w1 46 _
          have HB3 : Hid (Below w.heap.size w W3) := hide (by rw [← hW3]; exact below_drewN (HB1.out.alloc HB1.out.size _) _)
          have HO3 : Hid (OwS w.heap.size W3 A' k c' (pairsOf (l.take k))) := hide (by rw [← hW3]; exact World.ownsRow.alloc HO1.out (.cells #[.string ⟨pn.toArray⟩, .string ⟨pv.toArray⟩] 46))
          rw [hW3]
          obtain ⟨e0, e1, f0, f1⟩ := Blk.two b3
          clear hW3 b3 HO1
          have hr1 := one_set (x := (pn, pv)) (Blk.new W3 46 #[.string ⟨pn.toArray⟩, .string ⟨pv.toArray⟩])
          have hO2 := World.ownsRow.alloc HO3.out (.cells #[.string ⟨pn.toArray⟩, .string ⟨pv.toArray⟩] 46)
          have hsz := HB3.out.size
          go_wp2_with (at_builtin; (refine wpList_append_any _ rfl (.tmp 41) (.tmp 43) 42 rfl w.heap.size 46 i0 _ 2 32 Tryz.underlying42 hi0 hz0 hz1 hz2 rfl (by omega) (.slice A' k c') k (pss (pairsOf (l.take k))) rfl hO2 _ (some ⟨W3.heap.size, 0, none⟩) 1 1 (pss [(pn, pv)]) rfl hr1 (pss_one _) ?c1 ?c2 ?c3 ?_))
          case c1 => unfold maxLen; omega
          case c2 => omega
          case c3 => simp; omega
          intro v1 w6 hown1 hg1 hat1
          obtain ⟨A6, c6, rfl⟩ := own_slice hown1
          rw [← pss_append, ← HPT.out] at hown1
          have HO6 : Hid (OwS w.heap.size w6 A6 (k + 1) c6 (pairsOf (l.take (k + 1)))) := hide hown1
          have HB6 : Hid (Below w.heap.size w w6) := hide ((HB3.out.alloc hsz _).grown hg1 (by simp; omega) (fun g hg => (World.ownsRow.lt HO3.out g hg).1))
          clear hown1 hg1 hat1 hr1 hO2
          go_wp2_with fail
          go_roundw
          case rel => exact ⟨k + 1, A6, c6, by omega, by go_num, rfl, HO6, HF2, HB6⟩
          case measure => simp [intOf]; omega
    · have hlt' : ¬ (k : Int) < (n : Int) := by omega
      obtain rfl : k = n := by omega
      have HE : Hid (R = true) := hide (by
        rw [← HRE.out]
        unfold envChk
        rw [List.all_eq_true.2 (fun j hj => HF.out j (by have := HL.out; have := List.mem_range.1 hj; omega)), decide_eq_true (by have := HL.out; omega)]; rfl)
      have HOE : Hid (OwS w.heap.size wr A' k c' (pairsOf l)) := hide (by have := HO.out; rwa [List.take_of_length_le (by rw [HL.out]; exact Nat.le_refl _)] at this)
      go_wp2_with fail
      refine bodyPost_ret (v := .tuple #[.slice A' k c', .bool true]) (by simp only [results, Tryz.results21]; go_simp) rfl ⟨A', k, c', by rw [HE.out], by rw [HRY.out HE.out]; exact HOE.out, by omega, HB.out⟩
end Go.Proofs.YtaibmfahfkoahaaGreat
