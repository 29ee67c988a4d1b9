/- The contracts of env.Name, strings.Cut at '=', env.parse and a setting's text. -/
import Derived.Test.YthbackkcamgidaaGreatDoorEnvA
import Derived.Test.YthbackkcamgidaaGreatDoorRuI
namespace Go.Proofs.YthbackkcamgidaaGreatDoor
open Go.RowKit
set_option linter.unusedVariables false
def letc (c : UInt8) : Bool := (97 ≤ c.toNat && c.toNat ≤ 122) || (65 ≤ c.toNat && c.toNat ≤ 90)
theorem okc_eq (c : UInt8) : okc c = (digc c || letc c || c.toNat == 95) := by
  unfold okc digc letc
  cases decide (97 ≤ c.toNat) <;> cases decide (c.toNat ≤ 122) <;> cases decide (65 ≤ c.toNat) <;> cases decide (c.toNat ≤ 90) <;> cases (c.toNat == 95) <;> cases decide (48 ≤ c.toNat) <;> cases decide (c.toNat ≤ 57) <;> rfl
theorem digit_any (c : UInt8) (w : World) : Calls Tryz.prog 133 #[.int .u8 (c.toNat : Int)] w fun e w' => e = .returned (.bool (digc c)) ∧ w = w' := by
  by_cases h1 : 48 ≤ c.toNat
  · have k1 : (48 : Int) ≤ (c.toNat : Int) := by omega
    by_cases h2 : c.toNat ≤ 57
    · have k2 : (c.toNat : Int) ≤ 57 := by omega
      have HE : Hid (digc c = true) := hide (by unfold digc; simp [h1, h2])
      clear h1 h2
      rw [HE.out]
      go_enter Tryz.func133, Tryz.ntmps133
      go_wp2_with fail
      go_ret
      exact ⟨rfl, rfl⟩
    · have k2 : ¬ (c.toNat : Int) ≤ 57 := by omega
      have HE : Hid (digc c = false) := hide (by unfold digc; simp [h2])
      clear h1 h2
      rw [HE.out]
      go_enter Tryz.func133, Tryz.ntmps133
      go_wp2_with fail
      go_ret
      exact ⟨rfl, rfl⟩
  · have k1 : ¬ (48 : Int) ≤ (c.toNat : Int) := by omega
    have HE : Hid (digc c = false) := hide (by unfold digc; simp [h1])
    clear h1
    rw [HE.out]
    go_enter Tryz.func133, Tryz.ntmps133
    go_wp2_with fail
    go_ret
    exact ⟨rfl, rfl⟩
theorem letter_any (c : UInt8) (w : World) : Calls Tryz.prog 134 #[.int .u8 (c.toNat : Int)] w fun e w' => e = .returned (.bool (letc c)) ∧ w = w' := by
  obtain ⟨R, hR⟩ : ∃ R, letc c = R := ⟨_, rfl⟩
  rw [hR]
  unfold letc at hR
  have HR := hide hR
  clear hR
  by_cases h1 : 97 ≤ c.toNat
  · have k1 : (97 : Int) ≤ (c.toNat : Int) := by omega
    by_cases h2 : c.toNat ≤ 122
    · have k2 : (c.toNat : Int) ≤ 122 := by omega
      have HE : Hid (R = true) := hide (by rw [← HR.out]; simp [h1, h2])
      go_enter Tryz.func134, Tryz.ntmps134
      go_wp2_with fail
      go_ret
      exact ⟨by rw [HE.out]; rfl, rfl⟩
    · have k2 : ¬ (c.toNat : Int) ≤ 122 := by omega
      have k3 : (65 : Int) ≤ (c.toNat : Int) := by omega
      have k4 : ¬ (c.toNat : Int) ≤ 90 := by omega
      have HE : Hid (R = false) := hide (by rw [← HR.out]; simp; omega)
      go_enter Tryz.func134, Tryz.ntmps134
      go_wp2_with fail
      go_ret
      exact ⟨by rw [HE.out]; rfl, rfl⟩
  · have k1 : ¬ (97 : Int) ≤ (c.toNat : Int) := by omega
    by_cases h3 : 65 ≤ c.toNat
    · have k3 : (65 : Int) ≤ (c.toNat : Int) := by omega
      by_cases h4 : c.toNat ≤ 90
      · have k4 : (c.toNat : Int) ≤ 90 := by omega
        have HE : Hid (R = true) := hide (by rw [← HR.out]; simp [h3, h4])
        go_enter Tryz.func134, Tryz.ntmps134
        go_wp2_with fail
        go_ret
        exact ⟨by rw [HE.out]; rfl, rfl⟩
      · have k4 : ¬ (c.toNat : Int) ≤ 90 := by omega
        have HE : Hid (R = false) := hide (by rw [← HR.out]; simp; omega)
        go_enter Tryz.func134, Tryz.ntmps134
        go_wp2_with fail
        go_ret
        exact ⟨by rw [HE.out]; rfl, rfl⟩
    · have k3 : ¬ (65 : Int) ≤ (c.toNat : Int) := by omega
      have HE : Hid (R = false) := hide (by rw [← HR.out]; simp; omega)
      go_enter Tryz.func134, Tryz.ntmps134
      go_wp2_with fail
      go_ret
      exact ⟨by rw [HE.out]; rfl, rfl⟩
set_option maxHeartbeats 4000000 in
theorem ename_any (p : LB) (w : World) (hl : p.length ≤ 1000000) : Calls Tryz.prog 132 #[.string ⟨p.toArray⟩] w fun e w' => e = .returned (.bool (nameP p)) ∧ w = w' := by
  obtain ⟨R, hR⟩ : ∃ R, nameP p = R := ⟨_, rfl⟩
  rw [hR]
  have HR := hide hR
  clear hR
  by_cases h0 : p.length = 0
  · have HE : Hid (R = false) := hide (by rw [← HR.out, name_eq, h0]; rfl)
    have k1 : (p.length : Int) < 1 := by omega
    clear HR
    go_enter Tryz.func132, Tryz.ntmps132
    go_wp2_with fail
    go_ret
    exact ⟨ret_bool HE.out.symm, rfl⟩
  have k1 : ¬ (p.length : Int) < 1 := by omega
  by_cases h32 : 32 < p.length
  · have HE : Hid (R = false) := hide (by rw [← HR.out, name_eq, decide_eq_false (by omega : ¬ p.length ≤ 32)]; simp)
    have k2 : (32 : Int) < (p.length : Int) := by omega
    clear HR
    go_enter Tryz.func132, Tryz.ntmps132
    go_wp2_with fail
    go_ret
    exact ⟨ret_bool HE.out.symm, rfl⟩
  have k2 : ¬ (32 : Int) < (p.length : Int) := by omega
  obtain ⟨c0, hc0⟩ : ∃ c, p[0]? = some c := ⟨_, List.getElem?_eq_getElem (by omega)⟩
  have hix0 : ∀ W, (Instr.index 9 (.string ⟨p.toArray⟩) (.int .i64 0)).run Tryz.prog W = .ok (.int .u8 (c0.toNat : Int)) W := fun W => ix_l p 0 c0 hc0 W
  have HG0 : Hid (p.getD 0 0 = c0) := hide (by simp [List.getD_eq_getElem?_getD, hc0])
  have XD0 := hide (fun W => digit_any c0 W)
  obtain ⟨d0, hd0⟩ : ∃ d, digc c0 = d := ⟨_, rfl⟩
  rw [hd0] at XD0
  have HD0 := hide hd0
  clear hc0 hd0
  cases d0 with
  | true =>
    have HE : Hid (R = false) := hide (by rw [← HR.out]; exact ng_not (i := 0) (by omega) (.inr ⟨rfl, by rw [HG0.out]; exact HD0.out⟩))
    clear HR
    go_enter Tryz.func132, Tryz.ntmps132
    go_wp2_with fail
    refine (XD0.out _).mono ?_
    rintro e w1 ⟨rfl, rfl⟩
    go_wp2_with fail
    go_ret
    exact ⟨ret_bool HE.out.symm, rfl⟩
  | false =>
    go_enter Tryz.func132, Tryz.ntmps132
    go_wp2_with fail
    refine (XD0.out _).mono ?_
    rintro e w1 ⟨rfl, rfl⟩
    go_wp2_with fail
    clear hix0 XD0
    go_loopw [3, 19] (fun _ u19 wx => ∃ i : Nat, i ≤ p.length ∧ u19 = .int .i64 (i : Int) ∧ Hid (NG p i) ∧ w = wx) (fun _ u19 _ => p.length - (intOf u19).toNat)
    case atStart => exact ⟨0, Nat.zero_le _, rfl, hide ⟨Nat.zero_le _, fun j h => absurd h (by omega)⟩, rfl⟩
    case round =>
      obtain ⟨i, hi, rfl, HN, rfl⟩ := hrel
      by_cases hlt : i < p.length
      · obtain ⟨c, hc⟩ : ∃ c, p[i]? = some c := ⟨_, List.getElem?_eq_getElem hlt⟩
        have hix := ix_l p i c hc
        have HG : Hid (p.getD i 0 = c) := hide (by simp [List.getD_eq_getElem?_getD, hc])
        have hlt' : (i : Int) < (p.length : Int) := by omega
        have XD := hide (fun W => digit_any c W)
        have XT := hide (fun W => letter_any c W)
        have HOK := hide (okc_eq c)
        have HI0 : Hid (i = 0 → digc (p.getD i 0) = false) := hide (fun h => by rw [h, HG0.out]; exact HD0.out)
        obtain ⟨dg, hdg⟩ : ∃ d, digc c = d := ⟨_, rfl⟩
        obtain ⟨lt, hlt2⟩ : ∃ d, letc c = d := ⟨_, rfl⟩
        rw [hdg] at XD HOK
        rw [hlt2] at XT HOK
        clear hc hdg hlt2
        have GO : Hid (okc c = true → NG p (i + 1)) := hide (fun h => NG.succ HN.out hlt (by rw [HG.out]; exact h) HI0.out)
        cases dg with
        | true =>
          have HN2 := hide (GO.out (by rw [HOK.out]; rfl))
          go_wp2_with fail
          refine (XD.out _).mono ?_
          rintro e w1 ⟨rfl, rfl⟩
          go_wp2_with fail
          go_roundw
          case rel => exact ⟨i + 1, by omega, by go_num, HN2, by trivial⟩
          case measure => simp [intOf]; omega
        | false =>
          cases lt with
          | true =>
            have HN2 := hide (GO.out (by rw [HOK.out]; rfl))
            go_wp2_with fail
            refine (XD.out _).mono ?_
            rintro e w1 ⟨rfl, rfl⟩
            go_wp2_with fail
            refine (XT.out _).mono ?_
            rintro e w1 ⟨rfl, rfl⟩
            go_wp2_with fail
            go_roundw
            case rel => exact ⟨i + 1, by omega, by go_num, HN2, by trivial⟩
            case measure => simp [intOf]; omega
          | false =>
            by_cases h95 : c.toNat = 95
            · have HN2 := hide (GO.out (by rw [HOK.out, h95]; rfl))
              have k95 : ((c.toNat : Int) == 95) = true := by rw [beq_iff_eq]; omega
              have k95' : ((c.toNat : Int) != 95) = false := by rw [bne, k95]; rfl
              clear h95
              go_wp2_with fail
              refine (XD.out _).mono ?_
              rintro e w1 ⟨rfl, rfl⟩
              go_wp2_with fail
              refine (XT.out _).mono ?_
              rintro e w1 ⟨rfl, rfl⟩
              go_wp2_with fail
              go_roundw
              case rel => exact ⟨i + 1, by omega, by go_num, HN2, by trivial⟩
              case measure => simp [intOf]; omega
            · have HE : Hid (R = false) := hide (by rw [← HR.out]; exact ng_not hlt (.inl (by rw [HG.out, HOK.out]; simpa using h95)))
              have k95 : ((c.toNat : Int) == 95) = false := beq_eq_false_iff_ne.2 (by omega)
              have k95' : ((c.toNat : Int) != 95) = true := by rw [bne, k95]; rfl
              clear h95
              go_wp2_with fail
              refine (XD.out _).mono ?_
              rintro e w1 ⟨rfl, rfl⟩
              go_wp2_with fail
              refine (XT.out _).mono ?_
              rintro e w1 ⟨rfl, rfl⟩
              go_wp2_with fail
              go_ret
              exact ⟨ret_bool HE.out.symm, rfl⟩
      · have hlt' : ¬ (i : Int) < (p.length : Int) := by omega
        obtain rfl : i = p.length := by omega
        have HE : Hid (R = true) := hide (by rw [← HR.out]; exact ng_all HN.out h0 (by omega))
        go_wp2_with fail
        go_ret
        exact ⟨ret_bool HE.out.symm, rfl⟩
set_option maxHeartbeats 1000000 in
theorem index61 (s : LB) (w : World) : Calls Tryz.prog 103 #[.string ⟨s.toArray⟩, .string ⟨#[61]⟩] w fun e w' => e = .returned (.int .i64 (Lib.indexByte s 61)) ∧ w = w' := by
  have X : Hid (∀ W, Calls Tryz.prog 116 #[.string ⟨s.toArray⟩, .int .u8 61] W fun e w' => e = .returned (.int .i64 (Lib.indexByte s 61)) ∧ W = w') := hide (fun W => by
    refine (Any.stringslite_IndexByte (ρ := Tryz.lays137_ren) { Tryz.lays137 with } ⟨s.toArray⟩ 61 W).mono ?_
    rintro e w' ⟨rfl, rfl⟩
    exact ⟨rfl, rfl⟩)
  have hix : ∀ W, (Instr.index 9 (.string ⟨#[61]⟩) (.int .i64 0)).run Tryz.prog W = .ok (.int .u8 61) W := fun W => ix_l [61] 0 61 rfl W
  by_cases hs : s = [61]
  · have HR0 : Hid (Lib.indexByte s 61 = 0) := hide (by rw [hs]; rfl)
    rw [HR0.out]
    have t1 : (s == [61]) = true := beq_iff_eq.2 hs
    have t2 : (([61] : LB) == s) = true := beq_iff_eq.2 hs.symm
    clear hs X
    go_enter Tryz.func103, Tryz.ntmps103
    go_wp2_with fail
    go_ret
    exact ⟨rfl, rfl⟩
  · have t1 : (s == [61]) = false := beq_eq_false_iff_ne.2 hs
    have t2 : (([61] : LB) == s) = false := beq_eq_false_iff_ne.2 (fun h => hs h.symm)
    clear hs
    generalize Lib.indexByte s 61 = r at *
    go_enter Tryz.func103, Tryz.ntmps103
    go_wp2_with fail
    refine (X.out _).mono ?_
    rintro e w1 ⟨rfl, rfl⟩
    go_wp2_with fail
    go_ret
    exact ⟨rfl, rfl⟩
def cutV (s : LB) : Value := if posE s < s.length then .tuple #[.string ⟨(s.take (posE s)).toArray⟩, .string ⟨(s.drop (posE s + 1)).toArray⟩, .bool true] else .tuple #[.string ⟨s.toArray⟩, .string ⟨#[]⟩, .bool false]
set_option maxHeartbeats 2000000 in
theorem lcut_any (s : LB) (hs : s.length ≤ 1000000000) (w : World) : Calls Tryz.prog 114 #[.string ⟨s.toArray⟩, .string ⟨#[61]⟩] w fun e w' => e = .returned (cutV s) ∧ Below w.heap.size w w' := by
  have X := hide (fun W => index61 s W)
  rw [posE_ix] at X
  have hle := posE_le s
  by_cases h : posE s < s.length
  · have HC : Hid (cutV s = .tuple #[.string ⟨(s.take (posE s)).toArray⟩, .string ⟨(s.drop (posE s + 1)).toArray⟩, .bool true]) := hide (by unfold cutV; rw [if_pos h])
    rw [if_pos h] at X
    rw [HC.out]
    generalize posE s = k at *
    have h1 := fun W => sl_to s k (k : Int) rfl hle W
    have h2 : ∀ W, (Instr.slice 9 (.string ⟨s.toArray⟩) (some (.int .i64 ((k : Int) + 1))) none none).run Tryz.prog W = .ok (.string ⟨(s.drop (k + 1)).toArray⟩) W := fun W => by
      have := sl_from s (k + 1) (by omega) W
      rwa [show ((k + 1 : Nat) : Int) = (k : Int) + 1 by omega] at this
    have kw : IntKind.i64.wrap ((k : Int) + 1) = (k : Int) + 1 := by simp [IntKind.wrap, IntKind.bits, IntKind.signed]; omega
    have k0 : (0 : Int) ≤ (k : Int) := by omega
    go_enter Tryz.func114, Tryz.ntmps114
    go_wp2_with fail
    refine (X.out _).mono ?_
    rintro e w1 ⟨rfl, rfl⟩
    go_wp2_with fail
    go_quiet (fail)
    go_wp2_with fail
    refine bodyPost_ret (v := .tuple #[.string ⟨(s.take k).toArray⟩, .string ⟨(s.drop (k + 1)).toArray⟩, .bool true]) (by simp only [results, Tryz.results114]; go_simp) rfl ⟨rfl, below_drewN (Below.refl _ _) _⟩
  · have HC : Hid (cutV s = .tuple #[.string ⟨s.toArray⟩, .string ⟨#[]⟩, .bool false]) := hide (by unfold cutV; rw [if_neg h])
    rw [if_neg h] at X
    rw [HC.out]
    clear h hle
    go_enter Tryz.func114, Tryz.ntmps114
    go_wp2_with fail
    refine (X.out _).mono ?_
    rintro e w1 ⟨rfl, rfl⟩
    go_wp2_with fail
    refine bodyPost_ret (v := .tuple #[.string ⟨s.toArray⟩, .string ⟨#[]⟩, .bool false]) (by simp only [results, Tryz.results114]; go_simp) rfl ⟨rfl, Below.refl _ _⟩
theorem cutV_is (s : LB) : ∃ a b c, cutV s = .tuple #[.string a, .string b, .bool c] := by
  unfold cutV
  split
  · exact ⟨_, _, _, rfl⟩
  · exact ⟨_, _, _, rfl⟩
theorem cut_any (s : LB) (hs : s.length ≤ 1000000000) (w : World) : Calls Tryz.prog 100 #[.string ⟨s.toArray⟩, .string ⟨#[61]⟩] w fun e w' => e = .returned (cutV s) ∧ Below w.heap.size w w' := by
  have X := hide (lcut_any s hs w)
  obtain ⟨a, b, c, h⟩ := cutV_is s
  rw [h] at X ⊢
  clear h
  go_enter Tryz.func100, Tryz.ntmps100
  go_wp2_with fail
  refine X.out.mono ?_
  rintro e w1 ⟨rfl, hb⟩
  have HB := hide hb
  clear hb X
  go_wp2_with fail
  refine bodyPost_ret (v := .tuple #[.string a, .string b, .bool c]) (by simp only [results, Tryz.results100]; go_simp) rfl ⟨rfl, HB.out⟩
def St.v (p : St) : Value := .agg #[.string ⟨p.1.toArray⟩, .string ⟨p.2.toArray⟩]
def parseV (s : LB) : Value := .tuple #[St.v ((parseP s).getD ([], [])), .bool (parseP s).isSome]
theorem parse_no {s : LB} (h : settingP s = false) : parseV s = .tuple #[.agg #[.string ⟨#[]⟩, .string ⟨#[]⟩], .bool false] := by unfold parseV parseP; rw [h]; rfl
theorem parse_yes {s : LB} (h : settingP s = true) : parseV s = .tuple #[.agg #[.string ⟨(s.take (posE s)).toArray⟩, .string ⟨(s.drop (posE s + 1)).toArray⟩], .bool true] := by unfold parseV parseP; rw [h]; rfl
set_option maxHeartbeats 4000000 in
theorem parse_any (s : LB) (hs : s.length ≤ 1000000) (w : World) : Calls Tryz.prog 129 #[.string ⟨s.toArray⟩] w fun e w' => e = .returned (parseV s) ∧ Below w.heap.size w w' := by
  obtain ⟨R, hR⟩ : ∃ R, parseV s = R := ⟨_, rfl⟩
  rw [hR]
  have NO : Hid (settingP s = false → R = .tuple #[.agg #[.string ⟨#[]⟩, .string ⟨#[]⟩], .bool false]) := hide (fun h => hR.symm.trans (parse_no h))
  have YES : Hid (settingP s = true → R = .tuple #[.agg #[.string ⟨(s.take (posE s)).toArray⟩, .string ⟨(s.drop (posE s + 1)).toArray⟩], .bool true]) := hide (fun h => hR.symm.trans (parse_yes h))
  have HSP : Hid (settingP s = (decide (posE s < s.length) && (nameP (s.take (posE s)) && (decide (s.length ≤ 256) && noZero s)))) := hide rfl
  clear hR
  obtain ⟨W0, hW0⟩ : ∃ W, w.alloc (.cells #[.string ⟨#[]⟩, .string ⟨#[]⟩] 166) = W := ⟨_, rfl⟩
  have HB0 : Hid (Below w.heap.size w W0) := hide (by rw [← hW0]; exact (Below.refl _ _).alloc (Nat.le_refl _) _)
  have b0 : Blk W0 w.heap.size 166 #[.string ⟨#[]⟩, .string ⟨#[]⟩] := by rw [← hW0]; exact Blk.new w 166 _
  have hlt0 : w.heap.size < W0.heap.size := b0.lt
  have HW0 := hide hW0
  have B0 := hide b0
  clear hW0 b0
  have XC := hide (fun W => cut_any s (by omega) W)
  have XZ := hide (fun W => ixb_l s 0 W)
  have hnz : noZero s = !(decide (0 ≤ Lib.indexByte s 0)) := rfl
  have HNZ := hide hnz
  clear hnz
  generalize Lib.indexByte s 0 = z at *
  by_cases h : posE s < s.length
  · have HC : Hid (cutV s = .tuple #[.string ⟨(s.take (posE s)).toArray⟩, .string ⟨(s.drop (posE s + 1)).toArray⟩, .bool true]) := hide (by unfold cutV; rw [if_pos h])
    rw [HC.out] at XC
    have HS2 : Hid (settingP s = (nameP (s.take (posE s)) && (decide (s.length ≤ 256) && noZero s))) := hide (by rw [HSP.out, decide_eq_true h, Bool.true_and])
    clear HSP HC
    have XN := hide (fun W => ename_any (s.take (posE s)) W (by rw [List.length_take]; omega))
    generalize s.take (posE s) = nm at *
    generalize s.drop (posE s + 1) = vl at *
    obtain ⟨q, hq⟩ : ∃ q, nameP nm = q := ⟨_, rfl⟩
    rw [hq] at XN HS2
    clear hq h
    cases q with
    | false =>
      have HE := hide (NO.out (by rw [HS2.out]; rfl))
      rw [HE.out]
      clear HS2 HNZ NO YES
      go_enter Tryz.func129, Tryz.ntmps129
      go_wp2_with fail
      try rw [HW0.out]
      refine (XC.out _).mono ?_
      rintro e w1 ⟨rfl, hb⟩
      have HB1 := hide (below_more HB0.out (Nat.le_refl _) hb)
      have B1 := hide (B0.out.below hb hlt0)
      obtain ⟨c0, c1, f0, f1⟩ := Blk.two B1.out
      clear hb
      go_wp2_with fail
      refine (XN.out _).mono ?_
      rintro e w2 ⟨rfl, rfl⟩
      go_wp2_with fail
      refine bodyPost_ret (v := .tuple #[.agg #[.string ⟨#[]⟩, .string ⟨#[]⟩], .bool false]) (by simp only [results, Tryz.results129]; go_simp) rfl ⟨rfl, (HB1.out.setCell (Nat.le_refl _) _).setCell (Nat.le_refl _) _⟩
    | true =>
      by_cases h2 : s.length ≤ 256
      · have k2 : ¬ (256 : Int) < (s.length : Int) := by omega
        by_cases h3 : 0 ≤ z
        · have k3 : ¬ z < 0 := by omega
          have HE := hide (NO.out (by rw [HS2.out, HNZ.out, decide_eq_true h3]; simp))
          rw [HE.out]
          clear HS2 HNZ NO YES
          go_enter Tryz.func129, Tryz.ntmps129
          go_wp2_with fail
          try rw [HW0.out]
          refine (XC.out _).mono ?_
          rintro e w1 ⟨rfl, hb⟩
          have HB1 := hide (below_more HB0.out (Nat.le_refl _) hb)
          have B1 := hide (B0.out.below hb hlt0)
          obtain ⟨c0, c1, f0, f1⟩ := Blk.two B1.out
          clear hb
          go_wp2_with fail
          refine (XN.out _).mono ?_
          rintro e w2 ⟨rfl, rfl⟩
          go_wp2_with fail
          refine (XZ.out _).mono ?_
          rintro e w2 ⟨rfl, rfl⟩
          go_wp2_with fail
          refine bodyPost_ret (v := .tuple #[.agg #[.string ⟨#[]⟩, .string ⟨#[]⟩], .bool false]) (by simp only [results, Tryz.results129]; go_simp) rfl ⟨rfl, (HB1.out.setCell (Nat.le_refl _) _).setCell (Nat.le_refl _) _⟩
        · have k3 : z < 0 := by omega
          have HE := hide (YES.out (by rw [HS2.out, HNZ.out, decide_eq_false h3, decide_eq_true h2]; rfl))
          rw [HE.out]
          clear HS2 HNZ NO YES
          go_enter Tryz.func129, Tryz.ntmps129
          go_wp2_with fail
          try rw [HW0.out]
          refine (XC.out _).mono ?_
          rintro e w1 ⟨rfl, hb⟩
          have HB1 := hide (below_more HB0.out (Nat.le_refl _) hb)
          have B1 := hide (B0.out.below hb hlt0)
          obtain ⟨c0, c1, f0, f1⟩ := Blk.two B1.out
          clear hb
          go_wp2_with fail
          refine (XN.out _).mono ?_
          rintro e w2 ⟨rfl, rfl⟩
          go_wp2_with fail
          refine (XZ.out _).mono ?_
          rintro e w2 ⟨rfl, rfl⟩
          go_wp2_with fail
          refine bodyPost_ret (v := .tuple #[.agg #[.string ⟨nm.toArray⟩, .string ⟨vl.toArray⟩], .bool true]) (by simp only [results, Tryz.results129]; go_simp) rfl ⟨rfl, (HB1.out.setCell (Nat.le_refl _) _).setCell (Nat.le_refl _) _⟩
      · have k2 : (256 : Int) < (s.length : Int) := by omega
        have HE := hide (NO.out (by rw [HS2.out, decide_eq_false h2]; rfl))
        rw [HE.out]
        clear HS2 HNZ NO YES
        go_enter Tryz.func129, Tryz.ntmps129
        go_wp2_with fail
        try rw [HW0.out]
        refine (XC.out _).mono ?_
        rintro e w1 ⟨rfl, hb⟩
        have HB1 := hide (below_more HB0.out (Nat.le_refl _) hb)
        have B1 := hide (B0.out.below hb hlt0)
        obtain ⟨c0, c1, f0, f1⟩ := Blk.two B1.out
        clear hb
        go_wp2_with fail
        refine (XN.out _).mono ?_
        rintro e w2 ⟨rfl, rfl⟩
        go_wp2_with fail
        refine bodyPost_ret (v := .tuple #[.agg #[.string ⟨#[]⟩, .string ⟨#[]⟩], .bool false]) (by simp only [results, Tryz.results129]; go_simp) rfl ⟨rfl, (HB1.out.setCell (Nat.le_refl _) _).setCell (Nat.le_refl _) _⟩
  · have HC : Hid (cutV s = .tuple #[.string ⟨s.toArray⟩, .string ⟨#[]⟩, .bool false]) := hide (by unfold cutV; rw [if_neg h])
    rw [HC.out] at XC
    have HE := hide (NO.out (by rw [HSP.out, decide_eq_false h]; rfl))
    rw [HE.out]
    clear HSP HC h HNZ NO YES
    go_enter Tryz.func129, Tryz.ntmps129
    go_wp2_with fail
    try rw [HW0.out]
    refine (XC.out _).mono ?_
    rintro e w1 ⟨rfl, hb⟩
    have HB1 := hide (below_more HB0.out (Nat.le_refl _) hb)
    have B1 := hide (B0.out.below hb hlt0)
    obtain ⟨c0, c1, f0, f1⟩ := Blk.two B1.out
    clear hb
    go_wp2_with fail
    refine bodyPost_ret (v := .tuple #[.agg #[.string ⟨#[]⟩, .string ⟨#[]⟩], .bool false]) (by simp only [results, Tryz.results129]; go_simp) rfl ⟨rfl, (HB1.out.setCell (Nat.le_refl _) _).setCell (Nat.le_refl _) _⟩
theorem catB (a b : LB) : ((⟨a.toArray⟩ : ByteArray) ++ ⟨b.toArray⟩) = ⟨(a ++ b).toArray⟩ := by
  apply ByteArray.ext
  simp
end Go.Proofs.YthbackkcamgidaaGreatDoor
