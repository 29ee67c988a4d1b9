/- The contract of unary, given those of what lies deeper. -/
import Derived.Test.YtglgldmofibedaaGreatDoorArH
namespace Go.Proofs.YtglgldmofibedaaGreatDoor
open Go.RowKit
set_option linter.unusedVariables false
theorem unF_nil {vars : List Tok} {ex un : Ev} {r : List Tok} {z : Bool} (h : hd r = []) : unF vars ex un r z = .bad 50 := by unfold unF; rw [if_pos h]
theorem unF_sign {vars : List Tok} {ex un : Ev} {r : List Tok} {z : Bool} (h : hd r ≠ []) (h1 : (unaryP (hd r) 0).2 = true) :
    unF vars ex un r z = match un r.tail z with | .bad e => .bad e | .ok n r' z' => .ok (unaryP (hd r) n).1 r' z' := by unfold unF; rw [if_neg h, if_pos h1]; rfl
theorem unF_open {vars : List Tok} {ex un : Ev} {r : List Tok} {z : Bool} (h : hd r ≠ []) (h1 : (unaryP (hd r) 0).2 = false) (h2 : (hd r == [40]) = true) :
    unF vars ex un r z = match ex r.tail z with | .bad e => .bad e | .ok n r' z' => if (hd r' == [41]) then .ok n r'.tail z' else .bad 50 := by unfold unF; rw [if_neg h, if_neg (by rw [h1]; simp), if_pos h2]; rfl
theorem unF_num {vars : List Tok} {ex un : Ev} {r : List Tok} {z : Bool} (h : hd r ≠ []) (h1 : (unaryP (hd r) 0).2 = false) (h2 : (hd r == [40]) = false) (h3 : isD ((hd r).headD 0) = true) :
    unF vars ex un r z = .ok (numP (hd r)) r.tail z := by unfold unF; rw [if_neg h, if_neg (by rw [h1]; simp), if_neg (by rw [h2]; simp), if_pos h3]
theorem unF_val {vars : List Tok} {ex un : Ev} {r : List Tok} {z : Bool} (h : hd r ≠ []) (h1 : (unaryP (hd r) 0).2 = false) (h2 : (hd r == [40]) = false) (h3 : isD ((hd r).headD 0) = false) (h4 : isL ((hd r).headD 0) = true) :
    unF vars ex un r z = .ok (valueP (hd r) vars) r.tail z := by unfold unF; rw [if_neg h, if_neg (by rw [h1]; simp), if_neg (by rw [h2]; simp), if_neg (by rw [h3]; simp), if_pos h4]
theorem unF_no {vars : List Tok} {ex un : Ev} {r : List Tok} {z : Bool} (h : hd r ≠ []) (h1 : (unaryP (hd r) 0).2 = false) (h2 : (hd r == [40]) = false) (h3 : isD ((hd r).headD 0) = false) (h4 : isL ((hd r).headD 0) = false) :
    unF vars ex un r z = .bad 50 := by unfold unF; rw [if_neg h, if_neg (by rw [h1]; simp), if_neg (by rw [h2]; simp), if_neg (by rw [h3]; simp), if_neg (by rw [h4]; simp)]
theorem tail_drop (T : List Tok) (a : Nat) : (T.drop a).tail = T.drop (a + 1) := by rw [List.tail_drop]
/-- How reading ends. -/
def En (W0 : World) (p : Nat) (A : Option Addr) (n c : Nat) (T : List Tok) (Va : Option Addr) (vn vc : Nat) (R : Rs) (a0 : Nat) (w : World) (e : Ending) (w' : World) : Prop :=
  Kb p w w' ∧ match R with
  | .ok m r z => e = .returned (.int .i64 m) ∧ ∃ b, a0 < b ∧ b ≤ T.length ∧ r = T.drop b ∧ Pa W0 p A n c Va vn vc w' b z
  | .bad x => e = badPanic x
section
variable {W0 : World} {p : Nat} {A : Option Addr} {n c : Nat} {T : List Tok} {Va : Option Addr} {vn vc : Nat} {V : List Tok}
theorem En.bad {w w' : World} {e : Ending} {a : Nat} {x : Int} {R : Rs} (hR : R = .bad x) (he : e = badPanic x) (h : Kb p w w') : En W0 p A n c T Va vn vc R a w e w' := by subst hR; exact ⟨h, he⟩
theorem En.ok {w w' : World} {e : Ending} {a b : Nat} {m : Int} {r : List Tok} {z : Bool} {R : Rs} (hR : R = .ok m r z) (he : e = .returned (.int .i64 m)) (h : Kb p w w') (h1 : a < b) (h2 : b ≤ T.length) (h3 : r = T.drop b) (h4 : Pa W0 p A n c Va vn vc w' b z) :
    En W0 p A n c T Va vn vc R a w e w' := by subst hR; exact ⟨h, he, b, h1, h2, h3, h4⟩
/-- Contracts of unary and of expr at a depth. -/
def USpec (W0 : World) (p : Nat) (A : Option Addr) (n c : Nat) (T : List Tok) (Va : Option Addr) (vn vc : Nat) (U : Ev) (d : Int) : Prop :=
  ∀ (w : World) (a : Nat) (z : Bool), Pa W0 p A n c Va vn vc w a z → a ≤ T.length → Calls Tryz.prog 53 #[.pointer (some ⟨p, 0, none⟩), .int .i64 d] w (En W0 p A n c T Va vn vc (U (T.drop a) z) a w)
def ESpec (W0 : World) (p : Nat) (A : Option Addr) (n c : Nat) (T : List Tok) (Va : Option Addr) (vn vc : Nat) (E : Ev) (d : Int) : Prop :=
  ∀ (w : World) (a : Nat) (z : Bool), Pa W0 p A n c Va vn vc w a z → a ≤ T.length → Calls Tryz.prog 26 #[.pointer (some ⟨p, 0, none⟩), .int .i64 d] w (En W0 p A n c T Va vn vc (E (T.drop a) z) a w)
set_option maxRecDepth 100000 in
set_option maxHeartbeats 4000000 in
theorem unary_nil (C : Cx W0 p A n c T Va vn vc V) (ex un : Ev) (d : Int) (w : World) (a : Nat) (z : Bool) (h : Pa W0 p A n c Va vn vc w a z) (ha : a ≤ T.length) (h0 : hd (T.drop a) = []) :
    Calls Tryz.prog 53 #[.pointer (some ⟨p, 0, none⟩), .int .i64 d] w (En W0 p A n c T Va vn vc (unF V ex un (T.drop a) z) a w) := by
  have X := hide (ptok_any C w a z h ha)
  rw [h0] at X
  have HR := hide (unF_nil (vars := V) (ex := ex) (un := un) (z := z) h0)
  generalize unF V ex un (T.drop a) z = R at *
  clear h C
  go_enter Tryz.func53, Tryz.ntmps53
  go_wp2_with fail
  refine X.out.mono ?_
  rintro e w1 ⟨rfl, m, rfl⟩
  have HK := hide ((Kb.refl p w).drewN m)
  generalize w.drewN m = w1 at *
  clear X
  go_wp2_with fail
  exact ⟨rfl, En.bad HR.out rfl HK.out⟩
set_option maxRecDepth 100000 in
set_option maxHeartbeats 4000000 in
theorem unary_sign (C : Cx W0 p A n c T Va vn vc V) (ex un : Ev) (d : Int) (w : World) (a : Nat) (z : Bool) (h : Pa W0 p A n c Va vn vc w a z) (ha : a ≤ T.length) (h0 : hd (T.drop a) ≠ []) (hd0 : 0 ≤ d) (hd41 : d ≤ 40) (h1 : (unaryP (hd (T.drop a)) 0).2 = true) (hU : d + 1 ≤ 40 → USpec W0 p A n c T Va vn vc un (d + 1)) (hU2 : d = 40 → un = fun _ _ => .bad 51) :
    Calls Tryz.prog 53 #[.pointer (some ⟨p, 0, none⟩), .int .i64 d] w (En W0 p A n c T Va vn vc (unF V ex un (T.drop a) z) a w) := by
  have hal : a < T.length := by
    rcases Nat.lt_or_ge a T.length with q | q
    · exact q
    · exact absurd (hd_none T a q) h0
  have tl := C.tl
  have htl : (hd (T.drop a)).length ≤ 1000 := by rw [hd_drop T a hal]; exact C.ts _ (List.getElem_mem hal)
  have X := hide (ptok_any C w a z h ha)
  have HR := hide (unF_sign (vars := V) (ex := ex) (un := un) (z := z) h0 h1)
  rw [tail_drop] at HR
  have HP := hide h
  have HC := hide C
  have Y0 := hide (fun W => unary_any (hd (T.drop a)) 0 W)
  rw [h1] at Y0
  have ht : (hd (T.drop a) == []) = false := beq_eq_false_iff_ne.2 h0
  have Y := hide (fun x W => unary_any (hd (T.drop a)) x W)
  have hw1 : IntKind.i64.wrap (d + 1) = d + 1 := by simp [IntKind.wrap, IntKind.bits, IntKind.signed]; omega
  clear h C h0 
  generalize unF V ex un (T.drop a) z = R at *
  generalize hd (T.drop a) = t at *
  generalize (unaryP t 0).1 = q at *
  go_enter Tryz.func53, Tryz.ntmps53
  go_wp2_with fail
  refine X.out.mono ?_
  rintro e w1 ⟨rfl, m, rfl⟩
  have HP1 := hide (HP.out.drewN m)
  have HK := hide ((Kb.refl p w).drewN m)
  obtain ⟨⟨c0, c1, c2, c3⟩, f0, f1, f2, f3⟩ := HP1.out.blk.four_
  have hpl1 := HP1.out.blk.lt
  generalize w.drewN m = w1 at *
  clear HP X
  go_wp2_with fail
  have HP2 := hide (HP1.out.step (i := (a : Int) + 1) (a + 1) (by omega))
  have HK2 := hide (HK.out.set hpl1 1 (.int .i64 ((a : Int) + 1)))
  clear HP1 HK c0 c1 c2 c3 f0 f1 f2 f3 hpl1
  generalize w1.setCell ⟨p, 1, none⟩ (.int .i64 ((a : Int) + 1)) = w2 at *
  refine (Y0.out _).mono ?_
  rintro e w3 ⟨rfl, rfl⟩
  by_cases h40 : d = 40
  · have hu := hU2 h40
    have HR2 : Hid (R = .bad 51) := hide (by rw [HR.out, hu])
    subst h40
    have XE := hide (enter_bad 41 (by omega))
    clear HR
    go_wp2_with fail
    refine (XE.out _).mono ?_
    rintro e w3 ⟨rfl, rfl⟩
    exact ⟨rfl, En.bad HR2.out rfl HK2.out⟩
  have HU := hU (by omega)
  have XE := hide (enter_ok (d + 1) (by omega))
  have X3 := hide (HU w2 (a + 1) z HP2.out (by omega))
  clear HU hU
  go_wp2_with fail
  refine (XE.out _).mono ?_
  rintro e w3 ⟨rfl, rfl⟩
  go_wp2_with fail
  refine X3.out.mono ?_
  rintro e w3 ⟨hk3, hm⟩
  generalize un (T.drop (a + 1)) z = R1 at *
  cases R1 with
  | bad x =>
    obtain rfl := hm
    exact ⟨rfl, En.bad HR.out rfl (HK2.out.trans hk3)⟩
  | ok m r z' =>
    obtain ⟨rfl, b, hb1, hb2, hb3, hP3⟩ := hm
    have HB3 := hide hb3
    have HP3 := hide hP3
    have HK3 := hide (HK2.out.trans hk3)
    clear hk3 hP3 hb3 HK2
    have HR4 : Hid (R = .ok (unaryP t m).1 r z') := hide HR.out
    have Y2 := hide (Y.out m w3)
    clear HR Y
    generalize unaryP t m = q2 at *
    go_wp2_with fail
    refine Y2.out.mono ?_
    rintro e w4 ⟨rfl, rfl⟩
    go_wp2_with fail
    refine bodyPost_ret (v := _) (results_tmp rfl _ _ _) rfl ?_
    exact En.ok HR4.out rfl HK3.out (by omega) hb2 HB3.out HP3.out
set_option maxRecDepth 100000 in
set_option maxHeartbeats 4000000 in
theorem unary_open (C : Cx W0 p A n c T Va vn vc V) (ex un : Ev) (d : Int) (w : World) (a : Nat) (z : Bool) (h : Pa W0 p A n c Va vn vc w a z) (ha : a ≤ T.length) (h0 : hd (T.drop a) ≠ []) (hd0 : 0 ≤ d) (hd41 : d ≤ 40) (h1 : (unaryP (hd (T.drop a)) 0).2 = false) (h2 : (hd (T.drop a) == [40]) = true) (hE : ESpec W0 p A n c T Va vn vc ex (d + 1)) :
    Calls Tryz.prog 53 #[.pointer (some ⟨p, 0, none⟩), .int .i64 d] w (En W0 p A n c T Va vn vc (unF V ex un (T.drop a) z) a w) := by
  have hal : a < T.length := by
    rcases Nat.lt_or_ge a T.length with q | q
    · exact q
    · exact absurd (hd_none T a q) h0
  have tl := C.tl
  have htl : (hd (T.drop a)).length ≤ 1000 := by rw [hd_drop T a hal]; exact C.ts _ (List.getElem_mem hal)
  have X := hide (ptok_any C w a z h ha)
  have HR := hide (unF_open (vars := V) (ex := ex) (un := un) (z := z) h0 h1 h2)
  rw [tail_drop] at HR
  have HP := hide h
  have HC := hide C
  have Y0 := hide (fun W => unary_any (hd (T.drop a)) 0 W)
  rw [h1] at Y0
  have ht : (hd (T.drop a) == []) = false := beq_eq_false_iff_ne.2 h0
  have hw1 : IntKind.i64.wrap (d + 1) = d + 1 := by simp [IntKind.wrap, IntKind.bits, IntKind.signed]; omega
  have HE := hide hE
  clear hE
  clear h C h0 
  generalize unF V ex un (T.drop a) z = R at *
  generalize hd (T.drop a) = t at *
  generalize (unaryP t 0).1 = q at *
  go_enter Tryz.func53, Tryz.ntmps53
  go_wp2_with fail
  refine X.out.mono ?_
  rintro e w1 ⟨rfl, m, rfl⟩
  have HP1 := hide (HP.out.drewN m)
  have HK := hide ((Kb.refl p w).drewN m)
  obtain ⟨⟨c0, c1, c2, c3⟩, f0, f1, f2, f3⟩ := HP1.out.blk.four_
  have hpl1 := HP1.out.blk.lt
  generalize w.drewN m = w1 at *
  clear HP X
  go_wp2_with fail
  have HP2 := hide (HP1.out.step (i := (a : Int) + 1) (a + 1) (by omega))
  have HK2 := hide (HK.out.set hpl1 1 (.int .i64 ((a : Int) + 1)))
  clear HP1 HK c0 c1 c2 c3 f0 f1 f2 f3 hpl1
  generalize w1.setCell ⟨p, 1, none⟩ (.int .i64 ((a : Int) + 1)) = w2 at *
  refine (Y0.out _).mono ?_
  rintro e w3 ⟨rfl, rfl⟩
  have X3 := hide (HE.out w2 (a + 1) z HP2.out (by omega))
  clear HE
  go_wp2_with fail
  refine X3.out.mono ?_
  rintro e w3 ⟨hk3, hm⟩
  generalize ex (T.drop (a + 1)) z = R1 at *
  cases R1 with
  | bad x =>
    obtain rfl := hm
    exact ⟨rfl, En.bad HR.out rfl (HK2.out.trans hk3)⟩
  | ok m r z' =>
    obtain ⟨rfl, b, hb1, hb2, rfl, hP3⟩ := hm
    have HP3 := hide hP3
    have HK3 := hide (HK2.out.trans hk3)
    have HR4 : Hid (R = if (hd (T.drop b) == [41]) then .ok m (T.drop b).tail z' else .bad 50) := hide HR.out
    clear hk3 hP3 HK2 HR
    cases hq : (hd (T.drop b) == [41]) with
    | true =>
      have hbl : b < T.length := by
        rcases Nat.lt_or_ge b T.length with q | q
        · exact q
        · rw [hd_none T b q] at hq; cases hq
      have X4 := hide (need_ok HC.out w3 b z' [41] HP3.out hbl hq)
      have HR5 : Hid (R = .ok m (T.drop (b + 1)) z') := hide (by rw [HR4.out, hq, if_pos rfl, tail_drop])
      clear hq HR4
      go_wp2_with fail
      refine X4.out.mono ?_
      rintro e w4 ⟨rfl, hk4, hP4⟩
      have HP4 := hide hP4
      have HK4 := hide (HK3.out.trans hk4)
      clear hk4 hP4 HK3
      go_wp2_with fail
      refine bodyPost_ret (v := _) (results_tmp rfl _ _ _) rfl ?_
      exact En.ok HR5.out rfl HK4.out (by omega) hbl rfl HP4.out
    | false =>
      have X4 := hide (need_bad HC.out w3 b z' [41] HP3.out hb2 hq)
      have HR5 : Hid (R = .bad 50) := hide (by rw [HR4.out, hq]; rfl)
      clear hq HR4
      go_wp2_with fail
      refine X4.out.mono ?_
      rintro e w4 ⟨rfl, hk4⟩
      exact ⟨rfl, En.bad HR5.out rfl (HK3.out.trans hk4)⟩
set_option maxRecDepth 100000 in
set_option maxHeartbeats 4000000 in
theorem unary_num (C : Cx W0 p A n c T Va vn vc V) (ex un : Ev) (d : Int) (w : World) (a : Nat) (z : Bool) (h : Pa W0 p A n c Va vn vc w a z) (ha : a ≤ T.length) (h0 : hd (T.drop a) ≠ []) (hd0 : 0 ≤ d) (hd41 : d ≤ 40) (h1 : (unaryP (hd (T.drop a)) 0).2 = false) (h2 : (hd (T.drop a) == [40]) = false) (h3 : isD ((hd (T.drop a)).headD 0) = true) :
    Calls Tryz.prog 53 #[.pointer (some ⟨p, 0, none⟩), .int .i64 d] w (En W0 p A n c T Va vn vc (unF V ex un (T.drop a) z) a w) := by
  have hal : a < T.length := by
    rcases Nat.lt_or_ge a T.length with q | q
    · exact q
    · exact absurd (hd_none T a q) h0
  have tl := C.tl
  have htl : (hd (T.drop a)).length ≤ 1000 := by rw [hd_drop T a hal]; exact C.ts _ (List.getElem_mem hal)
  have X := hide (ptok_any C w a z h ha)
  have HR := hide (unF_num (vars := V) (ex := ex) (un := un) (z := z) h0 h1 h2 h3)
  rw [tail_drop] at HR
  have HP := hide h
  have HC := hide C
  have Y0 := hide (fun W => unary_any (hd (T.drop a)) 0 W)
  rw [h1] at Y0
  have ht : (hd (T.drop a) == []) = false := beq_eq_false_iff_ne.2 h0
  obtain ⟨cc, hcc⟩ : ∃ cc, (hd (T.drop a))[0]? = some cc := ⟨_, List.getElem?_eq_getElem (List.length_pos_iff.2 h0)⟩
  have hix : ∀ W, (Instr.index 9 (.string ⟨(hd (T.drop a)).toArray⟩) (.int .i64 0)).run Tryz.prog W = .ok (.int .u8 (cc.toNat : Int)) W := ix_l (hd (T.drop a)) 0 cc hcc
  have h0l : 0 < (hd (T.drop a)).length := List.length_pos_iff.2 h0
  have hc0 : (hd (T.drop a)).headD 0 = cc := by
    rw [List.headD_eq_head?_getD, List.head?_eq_getElem?, hcc]; rfl
  rw [hc0] at h3
  have YD := hide (isDigit_any cc)
  rw [h3] at YD
  have YN := hide (fun W => number_any (hd (T.drop a)) W (by omega))
  clear hc0 h3 hcc
  clear h C h0 
  generalize unF V ex un (T.drop a) z = R at *
  generalize hd (T.drop a) = t at *
  generalize (unaryP t 0).1 = q at *
  go_enter Tryz.func53, Tryz.ntmps53
  go_wp2_with fail
  refine X.out.mono ?_
  rintro e w1 ⟨rfl, m, rfl⟩
  have HP1 := hide (HP.out.drewN m)
  have HK := hide ((Kb.refl p w).drewN m)
  obtain ⟨⟨c0, c1, c2, c3⟩, f0, f1, f2, f3⟩ := HP1.out.blk.four_
  have hpl1 := HP1.out.blk.lt
  generalize w.drewN m = w1 at *
  clear HP X
  go_wp2_with fail
  have HP2 := hide (HP1.out.step (i := (a : Int) + 1) (a + 1) (by omega))
  have HK2 := hide (HK.out.set hpl1 1 (.int .i64 ((a : Int) + 1)))
  clear HP1 HK c0 c1 c2 c3 f0 f1 f2 f3 hpl1
  generalize w1.setCell ⟨p, 1, none⟩ (.int .i64 ((a : Int) + 1)) = w2 at *
  refine (Y0.out _).mono ?_
  rintro e w3 ⟨rfl, rfl⟩
  generalize numP t = v at *
  go_wp2_with fail
  refine (YD.out _).mono ?_
  rintro e w3 ⟨rfl, rfl⟩
  go_wp2_with fail
  refine (YN.out _).mono ?_
  rintro e w3 ⟨rfl, rfl⟩
  go_wp2_with fail
  refine bodyPost_ret (v := _) (results_tmp rfl _ _ _) rfl ?_
  exact En.ok HR.out rfl HK2.out (by omega) (by omega) rfl HP2.out
set_option maxRecDepth 100000 in
set_option maxHeartbeats 4000000 in
theorem unary_val (C : Cx W0 p A n c T Va vn vc V) (ex un : Ev) (d : Int) (w : World) (a : Nat) (z : Bool) (h : Pa W0 p A n c Va vn vc w a z) (ha : a ≤ T.length) (h0 : hd (T.drop a) ≠ []) (hd0 : 0 ≤ d) (hd41 : d ≤ 40) (h1 : (unaryP (hd (T.drop a)) 0).2 = false) (h2 : (hd (T.drop a) == [40]) = false) (h3 : isD ((hd (T.drop a)).headD 0) = false) (h4 : isL ((hd (T.drop a)).headD 0) = true) :
    Calls Tryz.prog 53 #[.pointer (some ⟨p, 0, none⟩), .int .i64 d] w (En W0 p A n c T Va vn vc (unF V ex un (T.drop a) z) a w) := by
  have hal : a < T.length := by
    rcases Nat.lt_or_ge a T.length with q | q
    · exact q
    · exact absurd (hd_none T a q) h0
  have tl := C.tl
  have htl : (hd (T.drop a)).length ≤ 1000 := by rw [hd_drop T a hal]; exact C.ts _ (List.getElem_mem hal)
  have X := hide (ptok_any C w a z h ha)
  have HR := hide (unF_val (vars := V) (ex := ex) (un := un) (z := z) h0 h1 h2 h3 h4)
  rw [tail_drop] at HR
  have HP := hide h
  have HC := hide C
  have Y0 := hide (fun W => unary_any (hd (T.drop a)) 0 W)
  rw [h1] at Y0
  have ht : (hd (T.drop a) == []) = false := beq_eq_false_iff_ne.2 h0
  obtain ⟨cc, hcc⟩ : ∃ cc, (hd (T.drop a))[0]? = some cc := ⟨_, List.getElem?_eq_getElem (List.length_pos_iff.2 h0)⟩
  have hix : ∀ W, (Instr.index 9 (.string ⟨(hd (T.drop a)).toArray⟩) (.int .i64 0)).run Tryz.prog W = .ok (.int .u8 (cc.toNat : Int)) W := ix_l (hd (T.drop a)) 0 cc hcc
  have h0l : 0 < (hd (T.drop a)).length := List.length_pos_iff.2 h0
  have hc0 : (hd (T.drop a)).headD 0 = cc := by
    rw [List.headD_eq_head?_getD, List.head?_eq_getElem?, hcc]; rfl
  rw [hc0] at h3
  have YD := hide (isDigit_any cc)
  rw [h3] at YD
  have YL := hide (isLetter_any cc)
  rw [hc0] at h4
  rw [h4] at YL
  have YV := hide (fun W h => value_any C W (a + 1) z (hd (T.drop a)) h htl)
  clear hc0 h3 h4 hcc
  clear h C h0 
  generalize unF V ex un (T.drop a) z = R at *
  generalize hd (T.drop a) = t at *
  generalize (unaryP t 0).1 = q at *
  go_enter Tryz.func53, Tryz.ntmps53
  go_wp2_with fail
  refine X.out.mono ?_
  rintro e w1 ⟨rfl, m, rfl⟩
  have HP1 := hide (HP.out.drewN m)
  have HK := hide ((Kb.refl p w).drewN m)
  obtain ⟨⟨c0, c1, c2, c3⟩, f0, f1, f2, f3⟩ := HP1.out.blk.four_
  have hpl1 := HP1.out.blk.lt
  generalize w.drewN m = w1 at *
  clear HP X
  go_wp2_with fail
  have HP2 := hide (HP1.out.step (i := (a : Int) + 1) (a + 1) (by omega))
  have HK2 := hide (HK.out.set hpl1 1 (.int .i64 ((a : Int) + 1)))
  clear HP1 HK c0 c1 c2 c3 f0 f1 f2 f3 hpl1
  generalize w1.setCell ⟨p, 1, none⟩ (.int .i64 ((a : Int) + 1)) = w2 at *
  refine (Y0.out _).mono ?_
  rintro e w3 ⟨rfl, rfl⟩
  have YV2 := hide (YV.out w2 HP2.out)
  clear YV
  generalize valueP t V = v at *
  go_wp2_with fail
  refine (YD.out _).mono ?_
  rintro e w3 ⟨rfl, rfl⟩
  go_wp2_with fail
  refine (YL.out _).mono ?_
  rintro e w3 ⟨rfl, rfl⟩
  go_wp2_with fail
  refine YV2.out.mono ?_
  rintro e w3 ⟨rfl, hb3⟩
  have HP3 := hide (HP2.out.keep hb3)
  have HK3 := hide (HK2.out.trans (Kb.of hb3 (Nat.le_of_lt HP2.out.blk.lt)))
  clear hb3
  go_wp2_with fail
  refine bodyPost_ret (v := _) (results_tmp rfl _ _ _) rfl ?_
  exact En.ok HR.out rfl HK3.out (by omega) (by omega) rfl HP3.out
set_option maxRecDepth 100000 in
set_option maxHeartbeats 4000000 in
theorem unary_no (C : Cx W0 p A n c T Va vn vc V) (ex un : Ev) (d : Int) (w : World) (a : Nat) (z : Bool) (h : Pa W0 p A n c Va vn vc w a z) (ha : a ≤ T.length) (h0 : hd (T.drop a) ≠ []) (hd0 : 0 ≤ d) (hd41 : d ≤ 40) (h1 : (unaryP (hd (T.drop a)) 0).2 = false) (h2 : (hd (T.drop a) == [40]) = false) (h3 : isD ((hd (T.drop a)).headD 0) = false) (h4 : isL ((hd (T.drop a)).headD 0) = false) :
    Calls Tryz.prog 53 #[.pointer (some ⟨p, 0, none⟩), .int .i64 d] w (En W0 p A n c T Va vn vc (unF V ex un (T.drop a) z) a w) := by
  have hal : a < T.length := by
    rcases Nat.lt_or_ge a T.length with q | q
    · exact q
    · exact absurd (hd_none T a q) h0
  have tl := C.tl
  have htl : (hd (T.drop a)).length ≤ 1000 := by rw [hd_drop T a hal]; exact C.ts _ (List.getElem_mem hal)
  have X := hide (ptok_any C w a z h ha)
  have HR := hide (unF_no (vars := V) (ex := ex) (un := un) (z := z) h0 h1 h2 h3 h4)
  have HP := hide h
  have HC := hide C
  have Y0 := hide (fun W => unary_any (hd (T.drop a)) 0 W)
  rw [h1] at Y0
  have ht : (hd (T.drop a) == []) = false := beq_eq_false_iff_ne.2 h0
  obtain ⟨cc, hcc⟩ : ∃ cc, (hd (T.drop a))[0]? = some cc := ⟨_, List.getElem?_eq_getElem (List.length_pos_iff.2 h0)⟩
  have hix : ∀ W, (Instr.index 9 (.string ⟨(hd (T.drop a)).toArray⟩) (.int .i64 0)).run Tryz.prog W = .ok (.int .u8 (cc.toNat : Int)) W := ix_l (hd (T.drop a)) 0 cc hcc
  have h0l : 0 < (hd (T.drop a)).length := List.length_pos_iff.2 h0
  have hc0 : (hd (T.drop a)).headD 0 = cc := by
    rw [List.headD_eq_head?_getD, List.head?_eq_getElem?, hcc]; rfl
  rw [hc0] at h3
  have YD := hide (isDigit_any cc)
  rw [h3] at YD
  have YL := hide (isLetter_any cc)
  rw [hc0] at h4
  rw [h4] at YL
  clear hc0 h3 h4 hcc
  clear h C h0 
  generalize unF V ex un (T.drop a) z = R at *
  generalize hd (T.drop a) = t at *
  generalize (unaryP t 0).1 = q at *
  go_enter Tryz.func53, Tryz.ntmps53
  go_wp2_with fail
  refine X.out.mono ?_
  rintro e w1 ⟨rfl, m, rfl⟩
  have HP1 := hide (HP.out.drewN m)
  have HK := hide ((Kb.refl p w).drewN m)
  obtain ⟨⟨c0, c1, c2, c3⟩, f0, f1, f2, f3⟩ := HP1.out.blk.four_
  have hpl1 := HP1.out.blk.lt
  generalize w.drewN m = w1 at *
  clear HP X
  go_wp2_with fail
  have HP2 := hide (HP1.out.step (i := (a : Int) + 1) (a + 1) (by omega))
  have HK2 := hide (HK.out.set hpl1 1 (.int .i64 ((a : Int) + 1)))
  clear HP1 HK c0 c1 c2 c3 f0 f1 f2 f3 hpl1
  generalize w1.setCell ⟨p, 1, none⟩ (.int .i64 ((a : Int) + 1)) = w2 at *
  refine (Y0.out _).mono ?_
  rintro e w3 ⟨rfl, rfl⟩
  go_wp2_with fail
  refine (YD.out _).mono ?_
  rintro e w3 ⟨rfl, rfl⟩
  go_wp2_with fail
  refine (YL.out _).mono ?_
  rintro e w3 ⟨rfl, rfl⟩
  go_wp2_with fail
  exact ⟨rfl, En.bad HR.out rfl HK2.out⟩
theorem unary_all (C : Cx W0 p A n c T Va vn vc V) (ex un : Ev) (d : Int) (hd0 : 0 ≤ d) (hd41 : d ≤ 40) (hE : ESpec W0 p A n c T Va vn vc ex (d + 1)) (hU : d + 1 ≤ 40 → USpec W0 p A n c T Va vn vc un (d + 1)) (hU2 : d = 40 → un = fun _ _ => .bad 51) :
    USpec W0 p A n c T Va vn vc (unF V ex un) d := by
  intro w a z h ha
  by_cases h0 : hd (T.drop a) = []
  · exact unary_nil C ex un d w a z h ha h0
  cases h1 : (unaryP (hd (T.drop a)) 0).2 with
  | true => exact unary_sign C ex un d w a z h ha h0 hd0 hd41 h1 hU hU2
  | false =>
    cases h2 : (hd (T.drop a) == [40]) with
    | true => exact unary_open C ex un d w a z h ha h0 hd0 hd41 h1 h2 hE
    | false =>
      cases h3 : isD ((hd (T.drop a)).headD 0) with
      | true => exact unary_num C ex un d w a z h ha h0 hd0 hd41 h1 h2 h3
      | false =>
        cases h4 : isL ((hd (T.drop a)).headD 0) with
        | true => exact unary_val C ex un d w a z h ha h0 hd0 hd41 h1 h2 h3 h4
        | false => exact unary_no C ex un d w a z h ha h0 hd0 hd41 h1 h2 h3 h4
end
end Go.Proofs.YtglgldmofibedaaGreatDoor
