/- The document's Get, Set, Export, Unset at variables. -/
import Derived.Test.YtpioelpmdaeieaaGreatDoorParW
namespace Go.Proofs.YtpioelpmdaeieaaGreatDoor
open Go.RowKit
set_option linter.unusedVariables false
theorem hasP_r (l : List Vr) (s : LB) : hasP l s = (rfoundP l s && checkP l) := by
  unfold hasP
  by_cases h : checkP l = true
  · rw [(rfound_eq ((check_iff l).1 h).2.2 s).2]
  · rw [Bool.not_eq_true] at h; rw [h, Bool.and_false, Bool.and_false]
theorem getP_r (l : List Vr) (s : LB) : getP l s = if hasP l s = true then valAt l (posP l s) else [] := by
  unfold getP
  by_cases h : hasP l s = true
  · rw [if_pos h, if_pos h]
    unfold hasP at h
    rw [Bool.and_eq_true] at h
    rw [(rfound_eq ((check_iff l).1 h.2).2.2 s).1]
  · rw [if_neg h, if_neg h]
theorem rfound_lt {l : List Vr} {s : LB} (h : rfoundP l s = true) : posP l s < l.length := by
  unfold rfoundP at h
  rw [Bool.and_eq_true, decide_eq_true_eq] at h
  exact h.1
set_option maxHeartbeats 4000000 in
theorem rgetv_any (l : List Vr) (hs : ∀ x ∈ l, x.name.length ≤ 100000) (s : LB) (A : Option Addr) (n c : Nat) (w : World) (hR : RdV w A n l) (hn : n ≤ 1000) : Calls Tryz.prog 10 #[.slice A n c, .string ⟨s.toArray⟩] w fun e w' => e = .returned (.tuple #[.string ⟨(getP l s).toArray⟩, .bool (hasP l s)]) ∧ Below w.heap.size w w' := by
  have XF := hide (rfind_any l s A n c w hR hn)
  have XC := hide (fun W (h : RdV W A n l) => rcheck_any l hs A n c W h hn)
  have hl := hR.len
  have HR := hide hR
  have HL := hide hl
  have HLT := hide (fun h => rfound_lt (l := l) (s := s) h)
  obtain ⟨G, hG⟩ : ∃ G, getP l s = G := ⟨_, rfl⟩
  obtain ⟨H, hH⟩ : ∃ H, hasP l s = H := ⟨_, rfl⟩
  have HG := hide hG
  have HH := hide hH
  have HHE : Hid (hasP l s = (rfoundP l s && checkP l)) := hide (hasP_r l s)
  have HGE : Hid (getP l s = if hasP l s = true then valAt l (posP l s) else []) := hide (getP_r l s)
  rw [hG, hH]
  clear hR hl hG hH hs
  generalize rfoundP l s = fo at *
  generalize posP l s = k at *
  generalize checkP l = ck at *
  cases fo with
  | false =>
    have HE1 : Hid (H = false) := hide (by rw [← HH.out, HHE.out]; rfl)
    have HE2 : Hid (G = []) := hide (by rw [← HG.out, HGE.out, HHE.out]; rfl)
    rw [HE1.out, HE2.out]
    go_enter Tryz.func10, Tryz.ntmps10
    go_wp2_with fail
    refine XF.out.mono ?_
    rintro e w1 ⟨rfl, hb⟩
    have HB := hide hb
    clear hb
    go_wp2_with fail
    refine bodyPost_ret (v := .tuple #[.string ⟨#[]⟩, .bool false]) (by simp only [results, Tryz.results10]; go_simp) rfl ⟨rfl, HB.out⟩
  | true =>
    have hk := HLT.out rfl
    cases ck with
    | false =>
      have HE1 : Hid (H = false) := hide (by rw [← HH.out, HHE.out]; rfl)
      have HE2 : Hid (G = []) := hide (by rw [← HG.out, HGE.out, HHE.out]; rfl)
      rw [HE1.out, HE2.out]
      clear hk
      go_enter Tryz.func10, Tryz.ntmps10
      go_wp2_with fail
      refine XF.out.mono ?_
      rintro e w1 ⟨rfl, hb⟩
      have HB := hide hb
      have HR1 := hide (HR.out.below hb)
      clear hb
      go_wp2_with fail
      refine (XC.out _ HR1.out).mono ?_
      rintro e w2 ⟨rfl, hb⟩
      have HB2 := hide (below_more HB.out (Nat.le_refl _) hb)
      clear hb
      go_wp2_with fail
      refine bodyPost_ret (v := .tuple #[.string ⟨#[]⟩, .bool false]) (by simp only [results, Tryz.results10]; go_simp) rfl ⟨rfl, HB2.out⟩
    | true =>
      obtain ⟨x, hx⟩ : ∃ x, l[k]? = some x := ⟨_, List.getElem?_eq_getElem hk⟩
      have HE1 : Hid (H = true) := hide (by rw [← HH.out, HHE.out]; rfl)
      have HE2 : Hid (G = x.value) := hide (by rw [← HG.out, HGE.out, HHE.out]; unfold valAt; rw [hx]; rfl)
      rw [HE1.out, HE2.out]
      have HX := hide hx
      have hkn : k < n := by have := HL.out; omega
      clear hk hx
      go_enter Tryz.func10, Tryz.ntmps10
      go_wp2_with fail
      refine XF.out.mono ?_
      rintro e w1 ⟨rfl, hb⟩
      have HB := hide hb
      have HR1 := hide (HR.out.below hb)
      clear hb
      go_wp2_with fail
      refine (XC.out _ HR1.out).mono ?_
      rintro e w2 ⟨rfl, hb⟩
      have HB2 := hide (below_more HB.out (Nat.le_refl _) hb)
      obtain ⟨g, o, rfl, hg, q0, q1, q2⟩ := var_cells (HR1.out.below hb) HX.out
      have hia := fun W => var_at g o n c k (k : Int) rfl hkn W
      clear hb
      go_wp2_with fail
      refine bodyPost_ret (v := .tuple #[.string ⟨x.value.toArray⟩, .bool true]) (by simp only [results, Tryz.results10]; go_simp) rfl ⟨rfl, HB2.out⟩
/-- Set and Export, as the document says them. -/
theorem chg_put {l : List Vr} (hc : checkP l = true) (s : LB) (f : Vr → Vr) (hf : ∀ x, (f x).name = x.name) (hv : validP (f (oldP l s)) = true) : chgP l s f = putP l (f (oldP l s)) := by
  obtain ⟨c1, c2, c3⟩ := (check_iff l).1 hc
  have hn : (f (oldP l s)).name = s := by rw [hf, old_name c3]
  unfold chgP putP
  rw [hc, hv, hn, ← (rfound_eq c3 s).1, ← (rfound_eq c3 s).2]
  simp only [Bool.and_self, if_true]
  by_cases hfo : foundP l s = true
  · rw [if_pos hfo, if_pos hfo]
  · rw [if_neg hfo, if_neg hfo]
    by_cases h64 : l.length = 64
    · rw [if_pos h64, if_pos (by omega)]
    · rw [if_neg h64, if_neg (by omega)]
theorem chg_no {l : List Vr} {s : LB} {f : Vr → Vr} (h : (checkP l && validP (f (oldP l s))) = false) : chgP l s f = (l, 2) := by
  unfold chgP
  rw [h]; rfl
theorem old_valid {l : List Vr} (hc : checkP l = true) (s : LB) : valueP (oldP l s).value = true := by
  obtain ⟨c1, c2, c3⟩ := (check_iff l).1 hc
  rw [old_look c3]
  cases h : lookP l s with
  | none => rfl
  | some x =>
    have := c2 x (List.mem_of_find?_eq_some h)
    rw [valid_eq, Bool.and_eq_true] at this
    exact this.2
theorem old_at {l : List Vr} (hc : checkP l = true) (s : LB) : (rfoundP l s = true → ∃ y, l[posP l s]? = some y ∧ oldP l s = y ∧ y.name = s) ∧ (rfoundP l s = false → oldP l s = ⟨s, [], false⟩) := by
  obtain ⟨c1, c2, c3⟩ := (check_iff l).1 hc
  obtain ⟨e1, e2⟩ := rfound_eq c3 s
  refine ⟨fun h => ?_, fun h => ?_⟩
  · have hlt := rfound_lt h
    refine ⟨l[posP l s], List.getElem?_eq_getElem hlt, ?_, ?_⟩
    · unfold oldP
      rw [e2, if_pos h, e1, List.getElem?_eq_getElem hlt]; rfl
    · have := old_name c3 s
      unfold oldP at this
      rw [e2, if_pos h, e1, List.getElem?_eq_getElem hlt] at this
      exact this
  · unfold oldP
    rw [e2, h]; rfl
set_option maxRecDepth 100000 in
set_option maxHeartbeats 8000000 in
theorem rset_any (l : List Vr) (hs : ∀ x ∈ l, x.name.length ≤ 100000) (s v : LB) (hsn : s.length ≤ 100000) (A : Option Addr) (n c : Nat) (w : World) (hR : RdV w A n l) (hn : n ≤ 1000) (hnc : n ≤ c) :
    Calls Tryz.prog 12 #[.slice A n c, .string ⟨s.toArray⟩, .string ⟨v.toArray⟩] w fun e w' => ∃ A' c', e = .returned (.tuple #[.slice A' (chgP l s (setV v)).1.length c', .int .i64 ((chgP l s (setV v)).2 : Int)]) ∧ RdV w' A' (chgP l s (setV v)).1.length (chgP l s (setV v)).1 ∧ Below w.heap.size w w' := by
  have hl := hR.len
  have XC := hide (rcheck_any l hs A n c w hR hn)
  have XN := hide (fun W => refname_any s W hsn)
  have XV := hide (fun W => value_any v W)
  have XF := hide (fun W (h : RdV W A n l) => rfind_any l s A n c W h hn)
  obtain ⟨R, hRR⟩ : ∃ R, chgP l s (setV v) = R := ⟨_, rfl⟩
  rw [hRR]
  obtain ⟨RL, RE⟩ := R
  dsimp only
  have HRR := hide hRR
  have HNO := hide (fun h => chg_no (l := l) (s := s) (f := (setV v)) h)
  have HVE := hide (fun (x : Vr) => valid_eq x)
  have HR := hide hR
  have HL := hide hl
  clear hR hl hRR
  obtain ⟨ck, hck⟩ : ∃ b, checkP l = b := ⟨_, rfl⟩
  rw [hck] at XC
  have HCK := hide hck
  clear hck
  cases ck with
  | false =>
    have HE : Hid (RL = l ∧ RE = 2) := hide (by
      have := HRR.out.symm.trans (HNO.out (by rw [HCK.out]; rfl))
      exact ⟨congrArg Prod.fst this, congrArg Prod.snd this⟩)
    go_enter Tryz.func12, Tryz.ntmps12
    go_wp2_with fail
    refine XC.out.mono ?_
    rintro e w1 ⟨rfl, hb⟩
    have HB := hide hb
    have HR1 := hide (HR.out.below hb)
    clear hb
    go_wp2_with fail
    refine bodyPost_ret (v := .tuple #[.slice A n c, .int .i64 2]) (by simp only [results, Tryz.results12]; go_simp) rfl ⟨A, c, by rw [HE.out.1, HE.out.2, HL.out]; rfl, by rw [HE.out.1, HL.out]; exact HR1.out, HB.out⟩
  | true =>
    have HOA := hide (old_at HCK.out s)
    have HOV := hide (old_valid HCK.out s)
    have HON := hide (old_name ((check_iff l).1 HCK.out).2.2 s)
    have HPUT := hide (fun h => chg_put HCK.out s (setV v) (fun _ => rfl) h)
    obtain ⟨qn, hqn⟩ : ∃ b, nameP s = b := ⟨_, rfl⟩
    rw [hqn] at XN
    have HQN := hide hqn
    clear hqn
    cases qn with
    | false =>
      have HE : Hid (RL = l ∧ RE = 2) := hide (by
        have := HRR.out.symm.trans (HNO.out (by rw [HVE.out, show ((setV v) (oldP l s)).name = s from HON.out, HQN.out]; simp))
        exact ⟨congrArg Prod.fst this, congrArg Prod.snd this⟩)
      go_enter Tryz.func12, Tryz.ntmps12
      go_wp2_with fail
      refine XC.out.mono ?_
      rintro e w1 ⟨rfl, hb⟩
      have HB := hide hb
      have HR1 := hide (HR.out.below hb)
      clear hb
      go_wp2_with fail
      refine (XN.out _).mono ?_
      rintro e w2 ⟨rfl, hb⟩
      replace HB := hide (below_more HB.out (Nat.le_refl _) hb)
      replace HR1 := hide (HR1.out.below hb)
      clear hb
      go_wp2_with fail
      refine bodyPost_ret (v := .tuple #[.slice A n c, .int .i64 2]) (by simp only [results, Tryz.results12]; go_simp) rfl ⟨A, c, by rw [HE.out.1, HE.out.2, HL.out]; rfl, by rw [HE.out.1, HL.out]; exact HR1.out, HB.out⟩
    | true =>
      obtain ⟨qv, hqv⟩ : ∃ b, valueP v = b := ⟨_, rfl⟩
      rw [hqv] at XV
      have HQV := hide hqv
      clear hqv
      cases qv with
      | false =>
        have HE : Hid (RL = l ∧ RE = 2) := hide (by
          have := HRR.out.symm.trans (HNO.out (by rw [HVE.out, show (setV v (oldP l s)).value = v from rfl, HQV.out]; simp))
          exact ⟨congrArg Prod.fst this, congrArg Prod.snd this⟩)
        go_enter Tryz.func12, Tryz.ntmps12
        go_wp2_with fail
        refine XC.out.mono ?_
        rintro e w1 ⟨rfl, hb⟩
        have HB := hide hb
        have HR1 := hide (HR.out.below hb)
        clear hb
        go_wp2_with fail
        refine (XN.out _).mono ?_
        rintro e w2 ⟨rfl, hb⟩
        replace HB := hide (below_more HB.out (Nat.le_refl _) hb)
        replace HR1 := hide (HR1.out.below hb)
        clear hb
        go_wp2_with fail
        refine (XV.out _).mono ?_
        rintro e w3 ⟨rfl, rfl⟩
        go_wp2_with fail
        refine bodyPost_ret (v := .tuple #[.slice A n c, .int .i64 2]) (by simp only [results, Tryz.results12]; go_simp) rfl ⟨A, c, by rw [HE.out.1, HE.out.2, HL.out]; rfl, by rw [HE.out.1, HL.out]; exact HR1.out, HB.out⟩
      | true =>
        have HVV : Hid (validP ((setV v) (oldP l s)) = true) := hide (by rw [HVE.out, show ((setV v) (oldP l s)).name = s from HON.out, HQN.out, show (setV v (oldP l s)).value = v from rfl, HQV.out]; rfl)
        have HPE : Hid ((RL, RE) = putP l ((setV v) (oldP l s))) := hide (HRR.out.symm.trans (HPUT.out HVV.out))
        obtain ⟨k, hk⟩ : ∃ k, posP l s = k := ⟨_, rfl⟩
        obtain ⟨fo, hfo⟩ : ∃ f, rfoundP l s = f := ⟨_, rfl⟩
        rw [hk, hfo] at XF HOA
        clear hk hfo HRR HNO HPUT HVV HOV HON
        cases fo with
        | true =>
          obtain ⟨y, hy, ho, hyn⟩ := HOA.out.1 rfl
          have hkn : k < n := by have := HL.out; have := (List.getElem?_eq_some_iff.1 hy).1; omega
          have HPE2 : Hid ((RL, RE) = putP l ((setV v) y)) := hide (by rw [HPE.out, ho])
          obtain ⟨yn, yv, ye⟩ := y
          obtain rfl : yn = s := hyn
          have HY := hide hy
          clear hy ho HPE HOA
          go_enter Tryz.func12, Tryz.ntmps12
          go_wp2_with fail
          refine XC.out.mono ?_
          rintro e w1 ⟨rfl, hb⟩
          have HB := hide hb
          have HR1 := hide (HR.out.below hb)
          clear hb
          go_wp2_with fail
          refine (XN.out _).mono ?_
          rintro e w2 ⟨rfl, hb⟩
          replace HB := hide (below_more HB.out (Nat.le_refl _) hb)
          replace HR1 := hide (HR1.out.below hb)
          clear hb
          go_wp2_with fail
          refine (XV.out _).mono ?_
          rintro e w3 ⟨rfl, rfl⟩
          go_wp2_with fail
          obtain ⟨z, hz⟩ : ∃ z, w2.heap.size = z := ⟨_, rfl⟩
          obtain ⟨W3, hW3⟩ : ∃ W, w2.alloc (.cells #[.string ⟨yn.toArray⟩, .string ⟨v.toArray⟩, .bool false] 42) = W := ⟨_, rfl⟩
          have HB3 : Hid (Below w.heap.size w W3) := hide (by rw [← hW3]; exact HB.out.alloc HB.out.size _)
          have HR3 : Hid (RdV W3 A n l) := hide (by rw [← hW3]; exact HR1.out.alloc _)
          have b3 : Blk W3 z 42 #[.string ⟨yn.toArray⟩, .string ⟨v.toArray⟩, .bool false] := by rw [← hW3, ← hz]; exact Blk.new w2 42 _
          have hz3 : z < W3.heap.size := b3.lt
          have HBK := hide b3
          have hzw : w.heap.size ≤ z := by rw [← hz]; exact HB.out.size
          have HW3 := hide hW3
          have HZ := hide hz
          clear hW3 hz b3
          try rw [HW3.out]
          try rw [HZ.out]
          refine (XF.out W3 HR3.out).mono ?_
          rintro e w4 ⟨rfl, hb⟩
          have HB4 := hide (below_more HB3.out (Nat.le_refl _) hb)
          have HR4 := hide (HR3.out.below hb)
          have HBK4 := hide (HBK.out.below hb hz3)
          have hz4 : z < w4.heap.size := Nat.lt_of_lt_of_le hz3 hb.size
          clear hb HBK HB3 HR3 HW3 HZ
          obtain ⟨d0, d1, d2, f0, f1, f2⟩ := Blk.three HBK4.out
          obtain ⟨g, o, rfl, hg, q0, q1, q2⟩ := var_cells HR4.out HY.out
          have hia := fun W => var_at g o n c k (k : Int) rfl hkn W
          dsimp only at q0 q1 q2
          have HRL : Hid (Reads (w4.setCell ⟨z, 2, none⟩ (.bool ye)) w.heap.size 3 (some ⟨g, o, none⟩) n (vvs l)) := hide (((HR.out.below HB4.out |> fun _ => Reads.below HR.out HB4.out)).setCell hzw _)
          have HR5 : Hid (RdV (w4.setCell ⟨z, 2, none⟩ (.bool ye)) (some ⟨g, o, none⟩) n l) := hide (HRL.out.more (by rw [World.size_setCell]; exact HB4.out.size))
          have HB5 : Hid (Below w.heap.size w (w4.setCell ⟨z, 2, none⟩ (.bool ye))) := hide (HB4.out.setCell hzw _)
          have XP := hide (rput_any l (⟨yn, v, ye⟩ : Vr) (some ⟨g, o, none⟩) n c _ HR5.out hn hnc)
          have HPE3 : Hid (putP l (⟨yn, v, ye⟩ : Vr) = (RL, RE)) := hide HPE2.out.symm
          rw [HPE3.out] at XP
          dsimp only at XP
          unfold Vr.v at XP
          dsimp only at XP
          obtain ⟨q, hq⟩ : ∃ q, RL.length = q := ⟨_, rfl⟩
          rw [hq] at XP
          have HQ := hide hq
          clear hq HPE2 HPE3
          go_wp2_with fail
          refine XP.out.mono ?_
          rintro e w6 ⟨A6, c6, rfl, hr, hb⟩
          have HR6 := hide hr
          have HB6 := hide (below_more HB5.out (Nat.le_refl _) hb)
          clear hr hb XP
          go_wp2_with fail
          refine bodyPost_ret (v := .tuple #[.slice A6 q c6, .int .i64 (RE : Int)]) (by simp only [results, Tryz.results12]; go_simp) rfl ⟨A6, c6, by rw [HQ.out], by rw [HQ.out]; exact HR6.out, HB6.out⟩
        | false =>
          have HPE2 : Hid ((RL, RE) = putP l ((setV v) ⟨s, [], false⟩)) := hide (by rw [HPE.out, HOA.out.2 rfl])
          clear HPE HOA
          go_enter Tryz.func12, Tryz.ntmps12
          go_wp2_with fail
          refine XC.out.mono ?_
          rintro e w1 ⟨rfl, hb⟩
          have HB := hide hb
          have HR1 := hide (HR.out.below hb)
          clear hb
          go_wp2_with fail
          refine (XN.out _).mono ?_
          rintro e w2 ⟨rfl, hb⟩
          replace HB := hide (below_more HB.out (Nat.le_refl _) hb)
          replace HR1 := hide (HR1.out.below hb)
          clear hb
          go_wp2_with fail
          refine (XV.out _).mono ?_
          rintro e w3 ⟨rfl, rfl⟩
          go_wp2_with fail
          obtain ⟨z, hz⟩ : ∃ z, w2.heap.size = z := ⟨_, rfl⟩
          obtain ⟨W3, hW3⟩ : ∃ W, w2.alloc (.cells #[.string ⟨s.toArray⟩, .string ⟨v.toArray⟩, .bool false] 42) = W := ⟨_, rfl⟩
          have HB3 : Hid (Below w.heap.size w W3) := hide (by rw [← hW3]; exact HB.out.alloc HB.out.size _)
          have HR3 : Hid (RdV W3 A n l) := hide (by rw [← hW3]; exact HR1.out.alloc _)
          have b3 : Blk W3 z 42 #[.string ⟨s.toArray⟩, .string ⟨v.toArray⟩, .bool false] := by rw [← hW3, ← hz]; exact Blk.new w2 42 _
          have hz3 : z < W3.heap.size := b3.lt
          have HBK := hide b3
          have hzw : w.heap.size ≤ z := by rw [← hz]; exact HB.out.size
          have HW3 := hide hW3
          have HZ := hide hz
          clear hW3 hz b3
          try rw [HW3.out]
          try rw [HZ.out]
          refine (XF.out W3 HR3.out).mono ?_
          rintro e w4 ⟨rfl, hb⟩
          have HB4 := hide (below_more HB3.out (Nat.le_refl _) hb)
          have HR4 := hide (HR3.out.below hb)
          have HBK4 := hide (HBK.out.below hb hz3)
          have hz4 : z < w4.heap.size := Nat.lt_of_lt_of_le hz3 hb.size
          clear hb HBK HB3 HR3 HW3 HZ
          obtain ⟨d0, d1, d2, f0, f1, f2⟩ := Blk.three HBK4.out
          have HB5 := HB4
          have XP := hide (rput_any l (⟨s, v, false⟩ : Vr) A n c _ HR4.out hn hnc)
          have HPE3 : Hid (putP l (⟨s, v, false⟩ : Vr) = (RL, RE)) := hide HPE2.out.symm
          rw [HPE3.out] at XP
          dsimp only at XP
          unfold Vr.v at XP
          dsimp only at XP
          obtain ⟨q, hq⟩ : ∃ q, RL.length = q := ⟨_, rfl⟩
          rw [hq] at XP
          have HQ := hide hq
          clear hq HPE2 HPE3
          go_wp2_with fail
          refine XP.out.mono ?_
          rintro e w6 ⟨A6, c6, rfl, hr, hb⟩
          have HR6 := hide hr
          have HB6 := hide (below_more HB5.out (Nat.le_refl _) hb)
          clear hr hb XP
          go_wp2_with fail
          refine bodyPost_ret (v := .tuple #[.slice A6 q c6, .int .i64 (RE : Int)]) (by simp only [results, Tryz.results12]; go_simp) rfl ⟨A6, c6, by rw [HQ.out], by rw [HQ.out]; exact HR6.out, HB6.out⟩
set_option maxRecDepth 100000 in
set_option maxHeartbeats 8000000 in
theorem rexport_any (l : List Vr) (hs : ∀ x ∈ l, x.name.length ≤ 100000) (s : LB) (hsn : s.length ≤ 100000) (A : Option Addr) (n c : Nat) (w : World) (hR : RdV w A n l) (hn : n ≤ 1000) (hnc : n ≤ c) :
    Calls Tryz.prog 14 #[.slice A n c, .string ⟨s.toArray⟩] w fun e w' => ∃ A' c', e = .returned (.tuple #[.slice A' (chgP l s expV).1.length c', .int .i64 ((chgP l s expV).2 : Int)]) ∧ RdV w' A' (chgP l s expV).1.length (chgP l s expV).1 ∧ Below w.heap.size w w' := by
  have hl := hR.len
  have XC := hide (rcheck_any l hs A n c w hR hn)
  have XN := hide (fun W => refname_any s W hsn)
  have XF := hide (fun W (h : RdV W A n l) => rfind_any l s A n c W h hn)
  obtain ⟨R, hRR⟩ : ∃ R, chgP l s expV = R := ⟨_, rfl⟩
  rw [hRR]
  obtain ⟨RL, RE⟩ := R
  dsimp only
  have HRR := hide hRR
  have HNO := hide (fun h => chg_no (l := l) (s := s) (f := expV) h)
  have HVE := hide (fun (x : Vr) => valid_eq x)
  have HR := hide hR
  have HL := hide hl
  clear hR hl hRR
  obtain ⟨ck, hck⟩ : ∃ b, checkP l = b := ⟨_, rfl⟩
  rw [hck] at XC
  have HCK := hide hck
  clear hck
  cases ck with
  | false =>
    have HE : Hid (RL = l ∧ RE = 2) := hide (by
      have := HRR.out.symm.trans (HNO.out (by rw [HCK.out]; rfl))
      exact ⟨congrArg Prod.fst this, congrArg Prod.snd this⟩)
    go_enter Tryz.func14, Tryz.ntmps14
    go_wp2_with fail
    refine XC.out.mono ?_
    rintro e w1 ⟨rfl, hb⟩
    have HB := hide hb
    have HR1 := hide (HR.out.below hb)
    clear hb
    go_wp2_with fail
    refine bodyPost_ret (v := .tuple #[.slice A n c, .int .i64 2]) (by simp only [results, Tryz.results14]; go_simp) rfl ⟨A, c, by rw [HE.out.1, HE.out.2, HL.out]; rfl, by rw [HE.out.1, HL.out]; exact HR1.out, HB.out⟩
  | true =>
    have HOA := hide (old_at HCK.out s)
    have HOV := hide (old_valid HCK.out s)
    have HON := hide (old_name ((check_iff l).1 HCK.out).2.2 s)
    have HPUT := hide (fun h => chg_put HCK.out s expV (fun _ => rfl) h)
    obtain ⟨qn, hqn⟩ : ∃ b, nameP s = b := ⟨_, rfl⟩
    rw [hqn] at XN
    have HQN := hide hqn
    clear hqn
    cases qn with
    | false =>
      have HE : Hid (RL = l ∧ RE = 2) := hide (by
        have := HRR.out.symm.trans (HNO.out (by rw [HVE.out, show (expV (oldP l s)).name = s from HON.out, HQN.out]; simp))
        exact ⟨congrArg Prod.fst this, congrArg Prod.snd this⟩)
      go_enter Tryz.func14, Tryz.ntmps14
      go_wp2_with fail
      refine XC.out.mono ?_
      rintro e w1 ⟨rfl, hb⟩
      have HB := hide hb
      have HR1 := hide (HR.out.below hb)
      clear hb
      go_wp2_with fail
      refine (XN.out _).mono ?_
      rintro e w2 ⟨rfl, hb⟩
      replace HB := hide (below_more HB.out (Nat.le_refl _) hb)
      replace HR1 := hide (HR1.out.below hb)
      clear hb
      go_wp2_with fail
      refine bodyPost_ret (v := .tuple #[.slice A n c, .int .i64 2]) (by simp only [results, Tryz.results14]; go_simp) rfl ⟨A, c, by rw [HE.out.1, HE.out.2, HL.out]; rfl, by rw [HE.out.1, HL.out]; exact HR1.out, HB.out⟩
    | true =>
      have HVV : Hid (validP (expV (oldP l s)) = true) := hide (by rw [HVE.out, show (expV (oldP l s)).name = s from HON.out, HQN.out, show (expV (oldP l s)).value = (oldP l s).value from rfl, HOV.out]; rfl)
      have HPE : Hid ((RL, RE) = putP l (expV (oldP l s))) := hide (HRR.out.symm.trans (HPUT.out HVV.out))
      obtain ⟨k, hk⟩ : ∃ k, posP l s = k := ⟨_, rfl⟩
      obtain ⟨fo, hfo⟩ : ∃ f, rfoundP l s = f := ⟨_, rfl⟩
      rw [hk, hfo] at XF HOA
      clear hk hfo HRR HNO HPUT HVV HOV HON
      cases fo with
      | true =>
        obtain ⟨y, hy, ho, hyn⟩ := HOA.out.1 rfl
        have hkn : k < n := by have := HL.out; have := (List.getElem?_eq_some_iff.1 hy).1; omega
        have HPE2 : Hid ((RL, RE) = putP l (expV y)) := hide (by rw [HPE.out, ho])
        obtain ⟨yn, yv, ye⟩ := y
        obtain rfl : yn = s := hyn
        have HY := hide hy
        clear hy ho HPE HOA
        go_enter Tryz.func14, Tryz.ntmps14
        go_wp2_with fail
        refine XC.out.mono ?_
        rintro e w1 ⟨rfl, hb⟩
        have HB := hide hb
        have HR1 := hide (HR.out.below hb)
        clear hb
        go_wp2_with fail
        refine (XN.out _).mono ?_
        rintro e w2 ⟨rfl, hb⟩
        replace HB := hide (below_more HB.out (Nat.le_refl _) hb)
        replace HR1 := hide (HR1.out.below hb)
        clear hb
        go_wp2_with fail
        obtain ⟨z, hz⟩ : ∃ z, w2.heap.size = z := ⟨_, rfl⟩
        obtain ⟨W3, hW3⟩ : ∃ W, w2.alloc (.cells #[.string ⟨yn.toArray⟩, .string ⟨#[]⟩, .bool true] 42) = W := ⟨_, rfl⟩
        have HB3 : Hid (Below w.heap.size w W3) := hide (by rw [← hW3]; exact HB.out.alloc HB.out.size _)
        have HR3 : Hid (RdV W3 A n l) := hide (by rw [← hW3]; exact HR1.out.alloc _)
        have b3 : Blk W3 z 42 #[.string ⟨yn.toArray⟩, .string ⟨#[]⟩, .bool true] := by rw [← hW3, ← hz]; exact Blk.new w2 42 _
        have hz3 : z < W3.heap.size := b3.lt
        have HBK := hide b3
        have hzw : w.heap.size ≤ z := by rw [← hz]; exact HB.out.size
        have HW3 := hide hW3
        have HZ := hide hz
        clear hW3 hz b3
        try rw [HW3.out]
        try rw [HZ.out]
        refine (XF.out W3 HR3.out).mono ?_
        rintro e w4 ⟨rfl, hb⟩
        have HB4 := hide (below_more HB3.out (Nat.le_refl _) hb)
        have HR4 := hide (HR3.out.below hb)
        have HBK4 := hide (HBK.out.below hb hz3)
        have hz4 : z < w4.heap.size := Nat.lt_of_lt_of_le hz3 hb.size
        clear hb HBK HB3 HR3 HW3 HZ
        obtain ⟨d0, d1, d2, f0, f1, f2⟩ := Blk.three HBK4.out
        obtain ⟨g, o, rfl, hg, q0, q1, q2⟩ := var_cells HR4.out HY.out
        have hia := fun W => var_at g o n c k (k : Int) rfl hkn W
        dsimp only at q0 q1 q2
        have HRL : Hid (Reads (w4.setCell ⟨z, 1, none⟩ (.string ⟨yv.toArray⟩)) w.heap.size 3 (some ⟨g, o, none⟩) n (vvs l)) := hide (((HR.out.below HB4.out |> fun _ => Reads.below HR.out HB4.out)).setCell hzw _)
        have HR5 : Hid (RdV (w4.setCell ⟨z, 1, none⟩ (.string ⟨yv.toArray⟩)) (some ⟨g, o, none⟩) n l) := hide (HRL.out.more (by rw [World.size_setCell]; exact HB4.out.size))
        have HB5 : Hid (Below w.heap.size w (w4.setCell ⟨z, 1, none⟩ (.string ⟨yv.toArray⟩))) := hide (HB4.out.setCell hzw _)
        have XP := hide (rput_any l (⟨yn, yv, true⟩ : Vr) (some ⟨g, o, none⟩) n c _ HR5.out hn hnc)
        have HPE3 : Hid (putP l (⟨yn, yv, true⟩ : Vr) = (RL, RE)) := hide HPE2.out.symm
        rw [HPE3.out] at XP
        dsimp only at XP
        unfold Vr.v at XP
        dsimp only at XP
        obtain ⟨q, hq⟩ : ∃ q, RL.length = q := ⟨_, rfl⟩
        rw [hq] at XP
        have HQ := hide hq
        clear hq HPE2 HPE3
        go_wp2_with fail
        refine XP.out.mono ?_
        rintro e w6 ⟨A6, c6, rfl, hr, hb⟩
        have HR6 := hide hr
        have HB6 := hide (below_more HB5.out (Nat.le_refl _) hb)
        clear hr hb XP
        go_wp2_with fail
        refine bodyPost_ret (v := .tuple #[.slice A6 q c6, .int .i64 (RE : Int)]) (by simp only [results, Tryz.results14]; go_simp) rfl ⟨A6, c6, by rw [HQ.out], by rw [HQ.out]; exact HR6.out, HB6.out⟩
      | false =>
        have HPE2 : Hid ((RL, RE) = putP l (expV ⟨s, [], false⟩)) := hide (by rw [HPE.out, HOA.out.2 rfl])
        clear HPE HOA
        go_enter Tryz.func14, Tryz.ntmps14
        go_wp2_with fail
        refine XC.out.mono ?_
        rintro e w1 ⟨rfl, hb⟩
        have HB := hide hb
        have HR1 := hide (HR.out.below hb)
        clear hb
        go_wp2_with fail
        refine (XN.out _).mono ?_
        rintro e w2 ⟨rfl, hb⟩
        replace HB := hide (below_more HB.out (Nat.le_refl _) hb)
        replace HR1 := hide (HR1.out.below hb)
        clear hb
        go_wp2_with fail
        obtain ⟨z, hz⟩ : ∃ z, w2.heap.size = z := ⟨_, rfl⟩
        obtain ⟨W3, hW3⟩ : ∃ W, w2.alloc (.cells #[.string ⟨s.toArray⟩, .string ⟨#[]⟩, .bool true] 42) = W := ⟨_, rfl⟩
        have HB3 : Hid (Below w.heap.size w W3) := hide (by rw [← hW3]; exact HB.out.alloc HB.out.size _)
        have HR3 : Hid (RdV W3 A n l) := hide (by rw [← hW3]; exact HR1.out.alloc _)
        have b3 : Blk W3 z 42 #[.string ⟨s.toArray⟩, .string ⟨#[]⟩, .bool true] := by rw [← hW3, ← hz]; exact Blk.new w2 42 _
        have hz3 : z < W3.heap.size := b3.lt
        have HBK := hide b3
        have hzw : w.heap.size ≤ z := by rw [← hz]; exact HB.out.size
        have HW3 := hide hW3
        have HZ := hide hz
        clear hW3 hz b3
        try rw [HW3.out]
        try rw [HZ.out]
        refine (XF.out W3 HR3.out).mono ?_
        rintro e w4 ⟨rfl, hb⟩
        have HB4 := hide (below_more HB3.out (Nat.le_refl _) hb)
        have HR4 := hide (HR3.out.below hb)
        have HBK4 := hide (HBK.out.below hb hz3)
        have hz4 : z < w4.heap.size := Nat.lt_of_lt_of_le hz3 hb.size
        clear hb HBK HB3 HR3 HW3 HZ
        obtain ⟨d0, d1, d2, f0, f1, f2⟩ := Blk.three HBK4.out
        have HB5 := HB4
        have XP := hide (rput_any l (⟨s, [], true⟩ : Vr) A n c _ HR4.out hn hnc)
        have HPE3 : Hid (putP l (⟨s, [], true⟩ : Vr) = (RL, RE)) := hide HPE2.out.symm
        rw [HPE3.out] at XP
        dsimp only at XP
        unfold Vr.v at XP
        dsimp only at XP
        obtain ⟨q, hq⟩ : ∃ q, RL.length = q := ⟨_, rfl⟩
        rw [hq] at XP
        have HQ := hide hq
        clear hq HPE2 HPE3
        go_wp2_with fail
        refine XP.out.mono ?_
        rintro e w6 ⟨A6, c6, rfl, hr, hb⟩
        have HR6 := hide hr
        have HB6 := hide (below_more HB5.out (Nat.le_refl _) hb)
        clear hr hb XP
        go_wp2_with fail
        refine bodyPost_ret (v := .tuple #[.slice A6 q c6, .int .i64 (RE : Int)]) (by simp only [results, Tryz.results14]; go_simp) rfl ⟨A6, c6, by rw [HQ.out], by rw [HQ.out]; exact HR6.out, HB6.out⟩
end Go.Proofs.YtpioelpmdaeieaaGreatDoor
