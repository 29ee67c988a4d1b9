/- The contract of binary. -/
import Derived.Test.YtglgldmofibedaaGreatDoorArI
namespace Go.Proofs.YtglgldmofibedaaGreatDoor
open Go.RowKit
set_option linter.unusedVariables false
theorem quietAN {P : Program} {f : FuncId} {args : Array Value} {w : World} {a n : Nat} {v : Value}
    (h : Calls P f args (w.drewN (a + n)) fun e w' => e = .returned v ∧ ∃ m, w' = (w.drewN (a + n)).drewN m) : Calls P f args (w.drewN (a + n)) fun e w'' => e = .returned v ∧ ∃ m, w'' = w.drewN (a + m) :=
  h.mono fun _ _ ⟨he, m, hm⟩ => ⟨he, n + m, by rw [hm]; simp [World.drewN, Nat.add_assoc]⟩
theorem quietN {P : Program} {f : FuncId} {args : Array Value} {w : World} {n : Nat} {v : Value}
    (h : Calls P f args (w.drewN n) fun e w' => e = .returned v ∧ ∃ m, w' = (w.drewN n).drewN m) : Calls P f args (w.drewN n) fun e w'' => e = .returned v ∧ ∃ m, w'' = w.drewN m :=
  h.mono fun _ _ ⟨he, m, hm⟩ => ⟨he, n + m, by rw [hm]; simp [World.drewN, Nat.add_assoc]⟩
theorem sizeRow : (Tryz.prog.info? 31).map (·.size) = some 1 := by kernel_rfl
theorem lev_at (j : Nat) (h : j < 10) (W : World) : (Instr.indexAt 102 (.pointer (some ⟨2, 0, none⟩)) (.int .i64 (j : Int))).run Tryz.prog W = .ok (.pointer (some ⟨2, j, none⟩)) W := by
  have hu := Tryz.underlying102
  have hE : Tryz.prog.elem 102 = 31 := by simp [Program.elem, hu]
  have hN : Tryz.prog.arrayLen 102 = 10 := by simp [Program.arrayLen, hu]
  rw [run_indexAt_array W 102 ⟨2, 0, none⟩ .i64 (j : Int) (by rw [hN, hE]; exact hu), if_pos ⟨by omega, by rw [hN]; omega⟩]
  rw [hE, run_sizeOf_one 31 sizeRow]
  simp only [Result.andThen, Int.toNat_natCast, at_add, Nat.zero_add, Nat.mul_one]
/-- A level behind its first operand. -/
def goOn (l : List Tok) (sub : Ev) : Rs → Rs
  | .bad e => .bad e
  | .ok n r z => loopB l sub FU n r z
/-- A level's loop behind an operand. -/
def goLoop (l : List Tok) (sub : Ev) (k : Nat) (t : Tok) (m : Int) : Rs → Rs
  | .bad e => .bad e
  | .ok m' r' z' => loopB l sub k (applyP t m m').1 r' (z' || ((applyP t m m').2 == 32))
theorem binB_cons (l : List Tok) (ls : List (List Tok)) (un : Ev) (r : List Tok) (z : Bool) : binB (l :: ls) un r z = goOn l (binB ls un) (binB ls un r z) := by
  have h : ∀ x : Rs, (match x with | .bad e => Rs.bad e | .ok n r' z' => loopB l (binB ls un) FU n r' z') = goOn l (binB ls un) x := by intro x; cases x <;> rfl
  exact h _
theorem loopB_next (l : List Tok) (sub : Ev) (k : Nat) (m : Int) (r : List Tok) (z : Bool) : loopB l sub (k + 1) m r z = if memP (hd r) l then goLoop l sub k (hd r) m (sub r.tail z) else .ok m r z := by
  rw [loopB]
  cases sub r.tail z <;> rfl
theorem meas_lt {L g i j : Nat} {W W' : World} (h : W.cell? ⟨g, 1, none⟩ = some (.int .i64 ((i : Nat) : Int))) (h' : W'.cell? ⟨g, 1, none⟩ = some (.int .i64 ((j : Nat) : Int))) (hlt : i < j) (hj : i < L) :
    L - (intOf ((W'.cell? ⟨g, 1, none⟩).getD undef)).toNat < L - (intOf ((W.cell? ⟨g, 1, none⟩).getD undef)).toNat := by
  rw [h, h']; simp [intOf]; omega
section
variable {W0 : World} {p : Nat} {A : Option Addr} {n c : Nat} {T : List Tok} {Va : Option Addr} {vn vc : Nat} {V : List Tok}
def BSpec (W0 : World) (p : Nat) (A : Option Addr) (n c : Nat) (T : List Tok) (Va : Option Addr) (vn vc : Nat) (U : Ev) (j : Int) (d : Int) : Prop :=
  ∀ (w : World) (a : Nat) (z : Bool), Pa W0 p A n c Va vn vc w a z → a ≤ T.length → Calls Tryz.prog 43 #[.pointer (some ⟨p, 0, none⟩), .int .i64 j, .int .i64 d] w (En W0 p A n c T Va vn vc (U (T.drop a) z) a w)
theorem En.pass {R : Rs} {a : Nat} {w w' : World} {e : Ending} (h : En W0 p A n c T Va vn vc R a w e w') {R' : Rs} (hR : R' = R) : En W0 p A n c T Va vn vc R' a w e w' := by rw [hR]; exact h
set_option maxRecDepth 100000 in
set_option maxHeartbeats 4000000 in
theorem binary_top (U : Ev) (d : Int) (hU : USpec W0 p A n c T Va vn vc U d) : BSpec W0 p A n c T Va vn vc U 10 d := by
  intro w a z h ha
  have X := hide (hU w a z h ha)
  clear hU h
  generalize U (T.drop a) z = R at *
  go_enter Tryz.func43, Tryz.ntmps43
  go_wp2_with fail
  refine X.out.mono ?_
  rintro e w1 ⟨hk, hm⟩
  cases R with
  | bad x =>
    obtain rfl := hm
    exact ⟨rfl, En.bad rfl rfl hk⟩
  | ok m r z' =>
    obtain ⟨rfl, b, hb1, hb2, hb3, hP⟩ := hm
    have HP := hide hP
    have HK := hide hk
    have HB := hide hb3
    clear hk hP hb3 X
    go_wp2_with fail
    refine bodyPost_ret (v := _) (results_tmp rfl _ _ _) rfl ?_
    exact En.ok rfl rfl HK.out hb1 hb2 HB.out HP.out
set_option maxRecDepth 100000 in
set_option maxHeartbeats 8000000 in
theorem binary_step (C : Cx W0 p A n c T Va vn vc V) (sub : Ev) (j : Nat) (hj : j < 10) (d : Int) (hS : BSpec W0 p A n c T Va vn vc sub ((j : Int) + 1) d) :
    BSpec W0 p A n c T Va vn vc (fun r z => goOn (lvls[j]'hj) sub (sub r z)) j d := by
  intro w a z h ha
  have HS := hide hS
  have X := hide (hS w a z h ha)
  have HC := hide C
  have tl := C.tl
  have hj10 : ((j : Int) == 10) = false := beq_eq_false_iff_ne.2 (by omega)
  have hw1 : IntKind.i64.wrap ((j : Int) + 1) = (j : Int) + 1 := by simp [IntKind.wrap, IntKind.bits, IntKind.signed]; omega
  have hia := lev_at j hj
  have HN := hide (noBr_all (lvls[j]'hj) (List.getElem_mem hj))
  have HLV : Hid (∀ W, Below p W0 W → ∃ A n c, W.cell? ⟨2, j, none⟩ = some (.slice A n c) ∧ Reads W W.heap.size 1 A n (svs (lvls[j]'hj))) := hide fun W hb => (C.lev.below (C.at_ hb)) j hj
  have hll : (lvls[j]'hj).length ≤ 10 := (show ∀ l ∈ lvls, l.length ≤ 10 by decide) _ (List.getElem_mem hj)
  clear hS h C
  show Calls _ _ _ _ (En W0 p A n c T Va vn vc (goOn (lvls[j]'hj) sub (sub (T.drop a) z)) a w)
  generalize lvls[j]'hj = l at *
  obtain ⟨R, hR⟩ : ∃ R, goOn l sub (sub (T.drop a) z) = R := ⟨_, rfl⟩
  rw [hR]
  have HR := hide hR.symm
  clear hR
  go_enter Tryz.func43, Tryz.ntmps43
  go_wp2_with fail
  refine X.out.mono ?_
  rintro e w1 ⟨hk, hm⟩
  generalize sub (T.drop a) z = R1 at *
  cases R1 with
  | bad x =>
    obtain rfl := hm
    exact ⟨rfl, En.bad HR.out rfl hk⟩
  | ok m r z' =>
    obtain ⟨rfl, b, hb1, hb2, rfl, hP⟩ := hm
    have HP := hide hP
    have HK := hide hk
    have HR1 : Hid (R = loopB l sub FU m (T.drop b) z') := hide HR.out
    clear hk hP X HR
    go_wp2_with fail
    go_loopw [7] (fun u7 wx => ∃ (m : Int) (b : Nat) (z' : Bool) (k : Nat), u7 = .int .i64 m ∧ a < b ∧ b ≤ T.length ∧ T.length < b + k ∧ Hid (Pa W0 p A n c Va vn vc wx b z') ∧ Hid (Kb p w wx) ∧ Hid (R = loopB l sub k m (T.drop b) z')) (fun _ wx => T.length - (intOf ((wx.cell? ⟨p, 1, none⟩).getD undef)).toNat)
    case atStart => exact ⟨m, b, z', FU, rfl, hb1, hb2, by unfold FU; omega, HP, HK, HR1⟩
    case round =>
      clear HP HK HR1
      obtain ⟨m, b, z', k, rfl, hb1, hb2, hbk, HP, HK, HR⟩ := hrel
      obtain ⟨k, rfl⟩ : ∃ k', k = k' + 1 := ⟨k - 1, by omega⟩
      obtain ⟨La, ln, lc, hLc, hLr⟩ := HLV.out wr HP.out.bel
      have hln := rd_len hLr
      have hlb : ln ≤ 10 := by omega
      have XT : Hid (∀ q, Calls Tryz.prog 44 #[.pointer (some ⟨p, 0, none⟩)] (wr.drewN q) fun e w' => e = .returned (.string ⟨(hd (T.drop b)).toArray⟩) ∧ ∃ m, w' = (wr.drewN q).drewN m) := hide fun q => ptok_any HC.out (wr.drewN q) b z' (HP.out.drewN q) hb2
      have XM : Hid (∀ q, Calls Tryz.prog 54 #[.slice La ln lc, .string ⟨(hd (T.drop b)).toArray⟩] (wr.drewN q) fun e w' => e = .returned (.bool (memP (hd (T.drop b)) l)) ∧ ∃ m, w' = (wr.drewN q).drewN m) := hide fun q =>
        (contains_any l (hd (T.drop b)) La ln lc wr.heap.size (wr.drewN q) (hLr.drewN q) (by omega)).mono fun e w' h => ⟨h.1, 0, h.2.symm⟩
      have HRU := hide (HR.out.trans (loopB_next l sub k m (T.drop b) z'))
      clear hLr hln HR
      cases hmem : memP (hd (T.drop b)) l with
      | false =>
        have HR2 : Hid (R = .ok m (T.drop b) z') := hide (by rw [HRU.out, hmem]; rfl)
        rw [hmem] at XM
        clear hmem HRU
        generalize hd (T.drop b) = t at *
        go_wp2_with fail
        go_quiet (first | (go_at_call 44; first | exact quietAN (XT.out _) | exact quietN (XT.out _)) | (go_at_call 54; first | exact quietAN (XM.out _) | exact quietN (XM.out _)))
        go_wp2_with fail
        refine bodyPost_ret (v := _) (results_tmp rfl _ _ _) rfl ?_
        exact En.ok HR2.out rfl (HK.out.drewN _) hb1 hb2 rfl (HP.out.drewN _)
      | true =>
        have hbl : b < T.length := by
          rcases Nat.lt_or_ge b T.length with q | q
          · exact q
          · rw [hd_none T b q, HN.out.1] at hmem; cases hmem
        have HR2 : Hid (R = goLoop l sub k (hd (T.drop b)) m (sub (T.drop (b + 1)) z')) := hide (by rw [HRU.out, hmem, tail_drop]; rfl)
        rw [hmem] at XM
        have YA := hide (fun x W => apply_any (hd (T.drop b)) m x W)
        clear hmem HRU
        generalize hd (T.drop b) = t at *
        go_wp2_with fail
        go_quiet (first | (go_at_call 44; first | exact quietAN (XT.out _) | exact quietN (XT.out _)) | (go_at_call 54; first | exact quietAN (XM.out _) | exact quietN (XM.out _)))
        have HC1 := hide (HP.out.blk.cell 1)
        have HP1 := hide (HP.out.drewN nq)
        have HK1 := hide (HK.out.drewN nq)
        have XT1 := hide (XT.out nq)
        clear HP HK XT XM hLc HLV HN hia
        generalize wr.drewN nq = w1 at *
        go_wp2_with fail
        refine XT1.out.mono ?_
        rintro e w2 ⟨rfl, q2, rfl⟩
        have HP2 := hide (HP1.out.drewN q2)
        have HK2 := hide (HK1.out.drewN q2)
        obtain ⟨⟨c0, c1, c2, c3⟩, f0, f1, f2, f3⟩ := HP2.out.blk.four_
        have hpl2 := HP2.out.blk.lt
        clear HP1 HK1 XT1
        generalize w1.drewN q2 = w2 at *
        go_wp2_with fail
        have HP3 := hide (HP2.out.step (i := (b : Int) + 1) (b + 1) (by omega))
        have HK3 := hide (HK2.out.set hpl2 1 (.int .i64 ((b : Int) + 1)))
        clear HP2 HK2 c0 c1 c2 c3 f0 f1 f2 f3 hpl2
        generalize w2.setCell ⟨p, 1, none⟩ (.int .i64 ((b : Int) + 1)) = w3 at *
        refine (HS.out w3 (b + 1) z' HP3.out (by omega)).mono ?_
        rintro e w4 ⟨hk4, hm4⟩
        generalize sub (T.drop (b + 1)) z' = R4 at *
        cases R4 with
        | bad x =>
          obtain rfl := hm4
          exact ⟨rfl, En.bad HR2.out rfl (HK3.out.trans hk4)⟩
        | ok m4 r4 z4 =>
          obtain ⟨rfl, b4, hb3, hb4, rfl, hP4⟩ := hm4
          have HP4 := hide hP4
          have HK4 := hide (HK3.out.trans hk4)
          have HR4 : Hid (R = loopB l sub k (applyP t m m4).1 (T.drop b4) (z4 || ((applyP t m m4).2 == 32))) := hide HR2.out
          have YA4 := hide (YA.out m4 w4)
          obtain ⟨⟨c0, c1, c2, c3⟩, f0, f1, f2, f3⟩ := HP4.out.blk.four_
          have hpl4 := HP4.out.blk.lt
          clear hk4 hP4 HP3 HK3 HR2 YA
          generalize applyP t m m4 = v at *
          obtain ⟨v1, v2⟩ := v
          dsimp only at YA4 HR4
          cases z4 with
          | true =>
            go_wp2_with fail
            refine YA4.out.mono ?_
            rintro e w5 ⟨rfl, rfl⟩
            go_wp2_with fail
            have HP5 := hide (HP4.out.flag true)
            have HK5 := hide (HK4.out.set hpl4 3 (.bool true))
            exact ⟨⟨v1, b4, true, k, rfl, by omega, hb4, by omega, HP5, HK5, hide HR4.out⟩, meas_lt HC1.out (HP5.out.blk.cell 1) (by omega) hbl⟩
          | false =>
            go_wp2_with fail
            refine YA4.out.mono ?_
            rintro e w5 ⟨rfl, rfl⟩
            go_wp2_with fail
            have HP5 := hide (HP4.out.flag (v2 == 32))
            have HK5 := hide (HK4.out.set hpl4 3 (.bool (v2 == 32)))
            exact ⟨⟨v1, b4, (v2 == 32), k, rfl, by omega, hb4, by omega, HP5, HK5, hide HR4.out⟩, meas_lt HC1.out (HP5.out.blk.cell 1) (by omega) hbl⟩
end
end Go.Proofs.YtglgldmofibedaaGreatDoor
