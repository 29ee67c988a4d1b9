/- The contract of expr; the evaluator at every depth. -/
import Derived.Test.YtglgldmofibedaaGreatDoorArJ
namespace Go.Proofs.YtglgldmofibedaaGreatDoor
open Go.RowKit
set_option linter.unusedVariables false
def exC (n t : Int) : Rs → Rs
  | .bad e => .bad e
  | .ok o r3 z3 => .ok (if n = 0 then o else t) r3 z3
def exB (ex : Ev) (n : Int) : Rs → Rs
  | .bad e => .bad e
  | .ok t r2 z2 => if (hd r2 == [58]) then exC n t (ex r2.tail z2) else .bad 50
def exA (ex : Ev) : Rs → Rs
  | .bad e => .bad e
  | .ok n r1 z1 => if (hd r1 == [63]) then exB ex n (ex r1.tail z1) else .ok n r1 z1
theorem exF_eq (bi ex : Ev) (r : List Tok) (z : Bool) : exF bi ex r z = exA ex (bi r z) := by
  unfold exF
  cases bi r z with
  | bad e => rfl
  | ok n r1 z1 =>
    unfold exA
    dsimp only
    by_cases h : (hd r1 == [63]) = true
    · rw [if_pos h, if_pos h]
      cases ex r1.tail z1 with
      | bad e => rfl
      | ok t r2 z2 =>
        unfold exB
        dsimp only
        by_cases h2 : (hd r2 == [58]) = true
        · rw [if_pos h2, if_pos h2]
          cases ex r2.tail z2 <;> rfl
        · rw [if_neg h2, if_neg h2]
    · rw [if_neg h, if_neg h]
section
variable {W0 : World} {p : Nat} {A : Option Addr} {n c : Nat} {T : List Tok} {Va : Option Addr} {vn vc : Nat} {V : List Tok}
theorem expr_deep : ESpec W0 p A n c T Va vn vc (fun _ _ => .bad 51) 41 := by
  intro w a z h ha
  have XE := hide (enter_bad 41 (by omega))
  go_enter Tryz.func26, Tryz.ntmps26
  go_wp2_with fail
  refine (XE.out _).mono ?_
  rintro e w1 ⟨rfl, rfl⟩
  exact ⟨rfl, En.bad rfl rfl (Kb.refl _ _)⟩
set_option maxRecDepth 100000 in
set_option maxHeartbeats 8000000 in
theorem expr_step (C : Cx W0 p A n c T Va vn vc V) (bi ex : Ev) (d : Int) (hd0 : 0 ≤ d) (hd41 : d ≤ 40) (hB : BSpec W0 p A n c T Va vn vc bi 0 d) (hE : ESpec W0 p A n c T Va vn vc ex (d + 1)) :
    ESpec W0 p A n c T Va vn vc (exF bi ex) d := by
  intro w a z h ha
  have tl := C.tl
  have XE := hide (enter_ok d hd41)
  have X := hide (hB w a z h ha)
  have HE := hide hE
  have HC := hide C
  have hw1 : IntKind.i64.wrap (d + 1) = d + 1 := by simp [IntKind.wrap, IntKind.bits, IntKind.signed]; omega
  have HR := hide (exF_eq bi ex (T.drop a) z)
  generalize exF bi ex (T.drop a) z = R at *
  clear hB hE C h
  go_enter Tryz.func26, Tryz.ntmps26
  go_wp2_with fail
  refine (XE.out _).mono ?_
  rintro e w1 ⟨rfl, rfl⟩
  go_wp2_with fail
  refine X.out.mono ?_
  rintro e w1 ⟨hk1, hm1⟩
  generalize bi (T.drop a) z = R1 at *
  cases R1 with
  | bad x =>
    obtain rfl := hm1
    exact ⟨rfl, En.bad HR.out rfl hk1⟩
  | ok m1 r1 z1 =>
    obtain ⟨rfl, b1, hb1, hl1, rfl, hP1⟩ := hm1
    have HP1 := hide hP1
    have HK1 := hide hk1
    have HR1 : Hid (R = if (hd (T.drop b1) == [63]) then exB ex m1 (ex (T.drop b1).tail z1) else .ok m1 (T.drop b1) z1) := hide HR.out
    have XT := hide (ptok_any HC.out w1 b1 z1 hP1 hl1)
    clear hk1 hP1 HR X
    cases hq : (hd (T.drop b1) == [63]) with
    | false =>
      have HR2 : Hid (R = .ok m1 (T.drop b1) z1) := hide (by rw [HR1.out, hq]; rfl)
      clear HR1
      generalize hd (T.drop b1) = t at *
      go_wp2_with fail
      refine XT.out.mono ?_
      rintro e w2 ⟨rfl, q2, rfl⟩
      go_wp2_with fail
      refine bodyPost_ret (v := _) (results_tmp rfl _ _ _) rfl ?_
      exact En.ok HR2.out rfl (HK1.out.drewN _) hb1 hl1 rfl (HP1.out.drewN _)
    | true =>
      have hbl : b1 < T.length := by
        rcases Nat.lt_or_ge b1 T.length with q | q
        · exact q
        · rw [hd_none T b1 q] at hq; cases hq
      have HR2 : Hid (R = exB ex m1 (ex (T.drop (b1 + 1)) z1)) := hide (by rw [HR1.out, hq, if_pos rfl, tail_drop])
      clear HR1
      generalize hd (T.drop b1) = t at *
      go_wp2_with fail
      refine XT.out.mono ?_
      rintro e w2 ⟨rfl, q2, rfl⟩
      have HP2 := hide (HP1.out.drewN q2)
      have HK2 := hide (HK1.out.drewN q2)
      obtain ⟨⟨c0, c1, c2, c3⟩, f0, f1, f2, f3⟩ := HP2.out.blk.four_
      have hpl2 := HP2.out.blk.lt
      clear HP1 HK1 XT
      generalize w1.drewN q2 = w2 at *
      go_wp2_with fail
      have HP3 := hide (HP2.out.step (i := (b1 : Int) + 1) (b1 + 1) (by omega))
      have HK3 := hide (HK2.out.set hpl2 1 (.int .i64 ((b1 : Int) + 1)))
      clear HP2 HK2 c0 c1 c2 c3 f0 f1 f2 f3 hpl2
      generalize w2.setCell ⟨p, 1, none⟩ (.int .i64 ((b1 : Int) + 1)) = w3 at *
      refine (HE.out w3 (b1 + 1) z1 HP3.out (by omega)).mono ?_
      rintro e w4 ⟨hk4, hm4⟩
      generalize ex (T.drop (b1 + 1)) z1 = R4 at *
      cases R4 with
      | bad x =>
        obtain rfl := hm4
        exact ⟨rfl, En.bad HR2.out rfl (HK3.out.trans hk4)⟩
      | ok m4 r4 z4 =>
        obtain ⟨rfl, b4, hb4, hl4, rfl, hP4⟩ := hm4
        have HP4 := hide hP4
        have HK4 := hide (HK3.out.trans hk4)
        have HR4 : Hid (R = if (hd (T.drop b4) == [58]) then exC m1 m4 (ex (T.drop b4).tail z4) else .bad 50) := hide HR2.out
        clear hk4 hP4 HR2 HP3 HK3
        cases hq4 : (hd (T.drop b4) == [58]) with
        | false =>
          have X4 := hide (need_bad HC.out w4 b4 z4 [58] HP4.out hl4 hq4)
          have HR5 : Hid (R = .bad 50) := hide (by rw [HR4.out, hq4]; rfl)
          clear hq4 HR4
          go_wp2_with fail
          refine X4.out.mono ?_
          rintro e w5 ⟨rfl, hk5⟩
          exact ⟨rfl, En.bad HR5.out rfl (HK4.out.trans hk5)⟩
        | true =>
          have hbl4 : b4 < T.length := by
            rcases Nat.lt_or_ge b4 T.length with q | q
            · exact q
            · rw [hd_none T b4 q] at hq4; cases hq4
          have X4 := hide (need_ok HC.out w4 b4 z4 [58] HP4.out hbl4 hq4)
          have HR5 : Hid (R = exC m1 m4 (ex (T.drop (b4 + 1)) z4)) := hide (by rw [HR4.out, hq4, if_pos rfl, tail_drop])
          clear hq4 HR4
          go_wp2_with fail
          refine X4.out.mono ?_
          rintro e w5 ⟨rfl, hk5, hP5⟩
          have HP5 := hide hP5
          have HK5 := hide (HK4.out.trans hk5)
          clear hk5 hP5 HP4 HK4 X4
          go_wp2_with fail
          refine (HE.out w5 (b4 + 1) z4 HP5.out (by omega)).mono ?_
          rintro e w6 ⟨hk6, hm6⟩
          generalize ex (T.drop (b4 + 1)) z4 = R6 at *
          cases R6 with
          | bad x =>
            obtain rfl := hm6
            exact ⟨rfl, En.bad HR5.out rfl (HK5.out.trans hk6)⟩
          | ok m6 r6 z6 =>
            obtain ⟨rfl, b6, hb6, hl6, rfl, hP6⟩ := hm6
            have HP6 := hide hP6
            have HK6 := hide (HK5.out.trans hk6)
            have HR6 : Hid (R = .ok (if m1 = 0 then m6 else m4) (T.drop b6) z6) := hide HR5.out
            clear hk6 hP6 HR5 HP5 HK5
            by_cases h0 : m1 = 0
            · have HR7 : Hid (R = .ok m6 (T.drop b6) z6) := hide (by rw [HR6.out, if_pos h0])
              have hz : (m1 == 0) = true := by simpa using h0
              clear HR6 h0
              go_wp2_with fail
              refine bodyPost_ret (v := _) (results_tmp rfl _ _ _) rfl ?_
              exact En.ok HR7.out rfl HK6.out (by omega) hl6 rfl HP6.out
            · have HR7 : Hid (R = .ok m4 (T.drop b6) z6) := hide (by rw [HR6.out, if_neg h0])
              have hz : (m1 == 0) = false := by simpa using h0
              clear HR6 h0
              go_wp2_with fail
              refine bodyPost_ret (v := _) (results_tmp rfl _ _ _) rfl ?_
              exact En.ok HR7.out rfl HK6.out (by omega) hl6 rfl HP6.out
/-- Every level of operators. -/
theorem binary_all (C : Cx W0 p A n c T Va vn vc V) (U : Ev) (d : Int) (hU : USpec W0 p A n c T Va vn vc U d) : ∀ k, k ≤ 10 → BSpec W0 p A n c T Va vn vc (binB (lvls.drop (10 - k)) U) ((10 : Int) - (k : Int)) d := by
  intro k
  induction k with
  | zero => intro _; exact binary_top U d hU
  | succ k ih =>
    intro hk
    have hj : 10 - (k + 1) < 10 := by omega
    have e : lvls.drop (10 - (k + 1)) = (lvls[10 - (k + 1)]'hj) :: lvls.drop (10 - k) := by
      rw [List.drop_eq_getElem_cons (show 10 - (k + 1) < lvls.length from hj), show 10 - (k + 1) + 1 = 10 - k by omega]
      rfl
    have hs := binary_step C (binB (lvls.drop (10 - k)) U) (10 - (k + 1)) hj d (by
      rw [show (((10 - (k + 1) : Nat) : Int) + 1) = (10 : Int) - (k : Int) by omega]
      exact ih (by omega))
    rw [show ((10 : Int) - ((k + 1 : Nat) : Int)) = ((10 - (k + 1) : Nat) : Int) by omega]
    intro w a z h ha
    have := hs w a z h ha
    rw [e, binB_cons]
    exact this
/-- Every depth. -/
theorem eval_all (C : Cx W0 p A n c T Va vn vc V) : ∀ k, k ≤ 40 → ESpec W0 p A n c T Va vn vc (EU V k).1 ((41 : Int) - (k : Int)) ∧ (0 < k → USpec W0 p A n c T Va vn vc (EU V k).2 ((41 : Int) - (k : Int))) := by
  intro k
  induction k with
  | zero => intro _; exact ⟨expr_deep, fun h => absurd h (by omega)⟩
  | succ k ih =>
    intro hk
    obtain ⟨iE, iU⟩ := ih (by omega)
    have e : ((41 : Int) - ((k + 1 : Nat) : Int)) + 1 = (41 : Int) - (k : Int) := by omega
    have hU : USpec W0 p A n c T Va vn vc (EU V (k + 1)).2 ((41 : Int) - ((k + 1 : Nat) : Int)) := by
      refine unary_all C (EU V k).1 (EU V k).2 _ (by omega) (by omega) (by rw [e]; exact iE) (fun h => by rw [e]; exact iU (by omega)) (fun h => ?_)
      have : k = 0 := by omega
      subst this; rfl
    refine ⟨?_, fun _ => hU⟩
    refine expr_step C (binB lvls (EU V (k + 1)).2) (EU V k).1 _ (by omega) (by omega) ?_ (by rw [e]; exact iE)
    exact binary_all C (EU V (k + 1)).2 _ hU 10 (by omega)
end
end Go.Proofs.YtglgldmofibedaaGreatDoor
