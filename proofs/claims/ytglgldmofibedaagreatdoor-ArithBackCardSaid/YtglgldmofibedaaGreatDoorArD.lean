/- The contract of arith.token. -/
import Derived.Test.YtglgldmofibedaaGreatDoorArC
namespace Go.Proofs.YtglgldmofibedaaGreatDoor
open Go.RowKit
set_option linter.unusedVariables false
theorem wp_load_eq {P : Program} {o : Oper} {a : Act} {w : World} {K : Act → World → Prop} {Q : Exit → Act → World → Prop} (ty : TypeId) (x : Operand) (ho : o.op = .load ty x)
    (p : Addr) (hx : a.eval x = .pointer (some p)) (v : Value) (hl : (loadVar ty p).run P w = .ok v w) (h : K (a.put o.dst v) w) : o.wp P a w K Q := by
  unfold Oper.wp execOp
  simp only [ho, hx, Instr.loadAt, Instr.sureAddr, Sem.run_bind, Sem.run_pure, Result.andThen_ok, hl]
  exact h
theorem wpList_load_eq {P : Program} {ops : Array Oper} {rest : List Oper} {o : Oper} {a : Act} {w : World} {Q : Exit → Act → World → Prop} (hgd : o.guard = none) (ty : TypeId) (x : Operand) (ho : o.op = .load ty x)
    (p : Addr) (hx : a.eval x = .pointer (some p)) (v : Value) (hl : (loadVar ty p).run P w = .ok v w)
    (h : wpList P ops Q rest (a.put o.dst v) w) : wpList P ops Q (o :: rest) a w :=
  wpList_plain hgd fun _ hK => wp_load_eq ty x ho p hx v hl (hK _ _ h)
/-- The operators at their places. -/
def StdO (w : World) : Prop := ∀ k (h : k < 24), w.cell? ⟨0, k, none⟩ = some (.string ⟨(opsP[k]'h).toArray⟩)
theorem StdO.below {w w' : World} (h : StdO w) (hb : Below w.heap.size w w') : StdO w' := fun k hk => (hb.cell (p := ⟨0, k, none⟩) (World.block_lt_of_cell? w ⟨0, k, none⟩ (h k hk))).trans (h k hk)
/-- The operators as one value. -/
def opsV : Value := .agg #[.string ⟨#[60, 60]⟩, .string ⟨#[62, 62]⟩, .string ⟨#[60, 61]⟩, .string ⟨#[62, 61]⟩, .string ⟨#[61, 61]⟩, .string ⟨#[33, 61]⟩, .string ⟨#[38, 38]⟩, .string ⟨#[124, 124]⟩, .string ⟨#[43]⟩, .string ⟨#[45]⟩, .string ⟨#[42]⟩, .string ⟨#[47]⟩, .string ⟨#[37]⟩, .string ⟨#[60]⟩, .string ⟨#[62]⟩, .string ⟨#[38]⟩, .string ⟨#[94]⟩, .string ⟨#[124]⟩, .string ⟨#[33]⟩, .string ⟨#[126]⟩, .string ⟨#[63]⟩, .string ⟨#[58]⟩, .string ⟨#[40]⟩, .string ⟨#[41]⟩]
set_option maxRecDepth 100000 in
theorem ops_ix : ∀ (k : Nat) (h : k < 24) (W : World), (Instr.index 67 opsV (.int .i64 (k : Int))).run Tryz.prog W = .ok (.string ⟨(opsP[k]'h).toArray⟩) W
  | 0, _, _ => rfl
  | 1, _, _ => rfl
  | 2, _, _ => rfl
  | 3, _, _ => rfl
  | 4, _, _ => rfl
  | 5, _, _ => rfl
  | 6, _, _ => rfl
  | 7, _, _ => rfl
  | 8, _, _ => rfl
  | 9, _, _ => rfl
  | 10, _, _ => rfl
  | 11, _, _ => rfl
  | 12, _, _ => rfl
  | 13, _, _ => rfl
  | 14, _, _ => rfl
  | 15, _, _ => rfl
  | 16, _, _ => rfl
  | 17, _, _ => rfl
  | 18, _, _ => rfl
  | 19, _, _ => rfl
  | 20, _, _ => rfl
  | 21, _, _ => rfl
  | 22, _, _ => rfl
  | 23, _, _ => rfl
  | k + 24, h, _ => absurd h (by omega)
theorem ops_load (w : World) (hS : StdO w) : (loadVar 67 ⟨0, 0, none⟩).run Tryz.prog w = .ok opsV w := by
  have hL := run_loadCells_list (P := Tryz.prog) w ⟨0, 0, none⟩ (opsP.map fun o => .string ⟨o.toArray⟩) (fun j u hu => by
    rw [List.getElem?_map] at hu
    cases hj : opsP[j]? with
    | none => rw [hj] at hu; cases hu
    | some o =>
      rw [hj] at hu
      injection hu with hu
      obtain ⟨h1, h2⟩ := List.getElem?_eq_some_iff.1 hj
      have := hS j h1
      rw [at_add, Nat.zero_add, this, ← hu, h2])
  rw [List.length_map, show opsP.length = 24 from rfl] at hL
  have hA := Tryz.isAgg67 w
  have hZ := Tryz.sizeOf67 w
  simp [loadVar, hA, hZ, Result.andThen, hL]
  rfl
theorem opLen_drop (s : Tok) {k : Nat} (h : k < 24) : opLen s (opsP.drop k) = if startsP s (opsP[k]'h) then (opsP[k]'h).length else opLen s (opsP.drop (k + 1)) := by
  rw [List.drop_eq_getElem_cons (show k < opsP.length from h)]; rfl
theorem isHex_eq (s : Tok) (c : UInt8) (h : s[2]? = some c) : isHex s = (startsP s [48, 120] && isH c) := by
  match s, h with
  | a :: b :: d :: r, h =>
    simp only [List.getElem?_cons_succ, List.getElem?_cons_zero, Option.some.injEq] at h
    subst h
    simp [isHex, startsP]
theorem isHex_no (s : Tok) (h : startsP s [48, 120] = false) : isHex s = false := by
  match s with
  | [] => rfl
  | [a] => rfl
  | [a, b] => rfl
  | a :: b :: d :: r =>
    simp only [startsP, Bool.and_true] at h
    simp only [isHex, h, Bool.false_and]
theorem isHex_short (s : Tok) (h : s.length ≤ 2) : isHex s = false := by
  match s with
  | [] => rfl
  | [a] => rfl
  | [a, b] => rfl
  | a :: b :: d :: r => simp at h
set_option maxRecDepth 100000 in
set_option maxHeartbeats 4000000 in
/-- What comes when the text begins with no hexadecimal number. -/
theorem tok_rest (s : Tok) (c : UInt8) (w : World) (hc : s[0]? = some c) (hs : s.length ≤ 1000) (hS : StdO w) (hx : isHex s = false)
    (X0 : Hid (∀ W, Calls Tryz.prog 31 #[.string ⟨s.toArray⟩, .string ⟨#[48, 120]⟩] W fun e w' => e = .returned (.bool (startsP s [48, 120])) ∧ W = w'))
    (X2 : startsP s [48, 120] = false ∨ (startsP s [48, 120] = true ∧ s.length ≤ 2) ∨ (startsP s [48, 120] = true ∧ 2 < s.length ∧ ∃ d : UInt8, s[2]? = some d ∧ hexV d < 0)) :
    Calls Tryz.prog 23 #[.string ⟨s.toArray⟩] w fun e w' => e = .returned (.int .i64 (tokP s)) ∧ w = w' := by
  have HT : Hid (tokP s = if isD c then runP isD s else if isL c then runP isLD s else opLen s opsP) := hide (by
    match s, hc with
    | a :: r, hc =>
      simp only [List.getElem?_cons_zero, Option.some.injEq] at hc
      subst hc
      unfold tokP; rw [hx]; rfl)
  have hix : ∀ W, (Instr.index 9 (.string ⟨s.toArray⟩) (.int .i64 0)).run Tryz.prog W = .ok (.int .u8 (c.toNat : Int)) W := ix_l s 0 c hc
  have h0 : 0 < s.length := (List.getElem?_eq_some_iff.1 hc).1
  have YD := hide (isDigit_any c)
  have YL := hide (isLetter_any c)
  have RD := hide (fun W => run_any kind_digit s W (by omega))
  have RL := hide (fun W => run_any kind_word s W (by omega))
  have RDle := runP_le isD s
  have hld := hide (ops_load w hS)
  clear hS hc hx
  rcases X2 with hb | ⟨hb, h2⟩ | ⟨hb, h2, d, hd, hneg⟩
  · rw [hb] at X0
    clear hb
    go_enter Tryz.func23, Tryz.ntmps23
    go_wp2_with fail
    refine (X0.out _).mono ?_
    rintro e w1 ⟨rfl, rfl⟩
    go_wp2_with fail
    cases hD : isD c with
    | true =>
      rw [hD] at HT YD
      clear hD
      go_wp2_with fail
      refine (YD.out _).mono ?_
      rintro e w1 ⟨rfl, rfl⟩
      go_wp2_with fail
      refine (RD.out _).mono ?_
      rintro e w1 ⟨rfl, rfl⟩
      go_wp2_with fail
      go_ret
      exact ⟨by rw [HT.out]; rfl, rfl⟩
    | false =>
      rw [hD] at HT YD
      clear hD
      go_wp2_with fail
      refine (YD.out _).mono ?_
      rintro e w1 ⟨rfl, rfl⟩
      cases hL : isL c with
      | true =>
        rw [hL] at HT YL
        clear hL
        go_wp2_with fail
        refine (YL.out _).mono ?_
        rintro e w1 ⟨rfl, rfl⟩
        go_wp2_with fail
        refine (RL.out _).mono ?_
        rintro e w1 ⟨rfl, rfl⟩
        go_wp2_with fail
        go_ret
        exact ⟨by rw [HT.out]; rfl, rfl⟩
      | false =>
        rw [hL] at HT YL
        clear hL
        have HO : Hid (tokP s = opLen s (opsP.drop 0)) := hide (by rw [HT.out]; rfl)
        clear HT
        go_wp2_with fail
        refine (YL.out _).mono ?_
        rintro e w1 ⟨rfl, rfl⟩
        go_wp2_with (refine wpList_load_eq rfl 67 (.global 0) rfl ⟨0, 0, none⟩ rfl opsV hld.out ?_)
        go_loopw [36] (fun u36 wx => ∃ k : Nat, k ≤ 24 ∧ u36 = .int .i64 k ∧ wx = w ∧ Hid (tokP s = opLen s (opsP.drop k))) (fun u36 _ => 24 - (intOf u36).toNat)
        case atStart => exact ⟨0, by omega, rfl, rfl, HO⟩
        case round =>
          clear HO
          obtain ⟨k, hk, rfl, rfl, HN⟩ := hrel
          by_cases h7 : k < 24
          · have hlt : (k : Int) < 24 := by omega
            have hix := ops_ix k h7
            have HP := hide (fun W => pre_l s (opsP[k]'h7) W)
            have HN1 := hide (HN.out.trans (opLen_drop s h7))
            have hol : (opsP[k]'h7).length ≤ 2 := (show ∀ o ∈ opsP, o.length ≤ 2 by decide) _ (List.getElem_mem _)
            clear HN
            generalize opsP[k]'h7 = op at *
            cases hb : startsP s op with
            | true =>
              rw [hb] at HP HN1
              clear hb
              go_wp2_with fail
              refine (HP.out _).mono ?_
              rintro e w1 ⟨rfl, rfl⟩
              go_wp2_with fail
              go_ret
              exact ⟨by rw [HN1.out]; rfl, by first | rfl | trivial⟩
            | false =>
              rw [hb] at HP HN1
              clear hb
              go_wp2_with fail
              refine (HP.out _).mono ?_
              rintro e w1 ⟨rfl, rfl⟩
              go_wp2_with fail
              go_roundw
              case rel => exact ⟨k + 1, by omega, by go_num, by first | rfl | trivial, hide (by rw [HN1.out]; rfl)⟩
              case measure => simp [intOf]; omega
          · have hlt : ¬ (k : Int) < 24 := by omega
            have HR : Hid (tokP s = 0) := hide (by rw [HN.out, List.drop_of_length_le (by have : opsP.length = 24 := rfl; omega)]; rfl)
            clear HN
            go_wp2_with fail
            go_ret
            exact ⟨by rw [HR.out]; rfl, by first | rfl | trivial⟩
  · rw [hb] at X0
    clear hb
    have hl : ¬ (2 : Int) < (s.length : Int) := by omega
    go_enter Tryz.func23, Tryz.ntmps23
    go_wp2_with fail
    refine (X0.out _).mono ?_
    rintro e w1 ⟨rfl, rfl⟩
    go_wp2_with fail
    cases hD : isD c with
    | true =>
      rw [hD] at HT YD
      clear hD
      go_wp2_with fail
      refine (YD.out _).mono ?_
      rintro e w1 ⟨rfl, rfl⟩
      go_wp2_with fail
      refine (RD.out _).mono ?_
      rintro e w1 ⟨rfl, rfl⟩
      go_wp2_with fail
      go_ret
      exact ⟨by rw [HT.out]; rfl, rfl⟩
    | false =>
      rw [hD] at HT YD
      clear hD
      go_wp2_with fail
      refine (YD.out _).mono ?_
      rintro e w1 ⟨rfl, rfl⟩
      cases hL : isL c with
      | true =>
        rw [hL] at HT YL
        clear hL
        go_wp2_with fail
        refine (YL.out _).mono ?_
        rintro e w1 ⟨rfl, rfl⟩
        go_wp2_with fail
        refine (RL.out _).mono ?_
        rintro e w1 ⟨rfl, rfl⟩
        go_wp2_with fail
        go_ret
        exact ⟨by rw [HT.out]; rfl, rfl⟩
      | false =>
        rw [hL] at HT YL
        clear hL
        have HO : Hid (tokP s = opLen s (opsP.drop 0)) := hide (by rw [HT.out]; rfl)
        clear HT
        go_wp2_with fail
        refine (YL.out _).mono ?_
        rintro e w1 ⟨rfl, rfl⟩
        go_wp2_with (refine wpList_load_eq rfl 67 (.global 0) rfl ⟨0, 0, none⟩ rfl opsV hld.out ?_)
        go_loopw [36] (fun u36 wx => ∃ k : Nat, k ≤ 24 ∧ u36 = .int .i64 k ∧ wx = w ∧ Hid (tokP s = opLen s (opsP.drop k))) (fun u36 _ => 24 - (intOf u36).toNat)
        case atStart => exact ⟨0, by omega, rfl, rfl, HO⟩
        case round =>
          clear HO
          obtain ⟨k, hk, rfl, rfl, HN⟩ := hrel
          by_cases h7 : k < 24
          · have hlt : (k : Int) < 24 := by omega
            have hix := ops_ix k h7
            have HP := hide (fun W => pre_l s (opsP[k]'h7) W)
            have HN1 := hide (HN.out.trans (opLen_drop s h7))
            have hol : (opsP[k]'h7).length ≤ 2 := (show ∀ o ∈ opsP, o.length ≤ 2 by decide) _ (List.getElem_mem _)
            clear HN
            generalize opsP[k]'h7 = op at *
            cases hb : startsP s op with
            | true =>
              rw [hb] at HP HN1
              clear hb
              go_wp2_with fail
              refine (HP.out _).mono ?_
              rintro e w1 ⟨rfl, rfl⟩
              go_wp2_with fail
              go_ret
              exact ⟨by rw [HN1.out]; rfl, by first | rfl | trivial⟩
            | false =>
              rw [hb] at HP HN1
              clear hb
              go_wp2_with fail
              refine (HP.out _).mono ?_
              rintro e w1 ⟨rfl, rfl⟩
              go_wp2_with fail
              go_roundw
              case rel => exact ⟨k + 1, by omega, by go_num, by first | rfl | trivial, hide (by rw [HN1.out]; rfl)⟩
              case measure => simp [intOf]; omega
          · have hlt : ¬ (k : Int) < 24 := by omega
            have HR : Hid (tokP s = 0) := hide (by rw [HN.out, List.drop_of_length_le (by have : opsP.length = 24 := rfl; omega)]; rfl)
            clear HN
            go_wp2_with fail
            go_ret
            exact ⟨by rw [HR.out]; rfl, by first | rfl | trivial⟩
  · rw [hb] at X0
    clear hb
    have hl : (2 : Int) < (s.length : Int) := by omega
    have hix2 : ∀ W, (Instr.index 9 (.string ⟨s.toArray⟩) (.int .i64 2)).run Tryz.prog W = .ok (.int .u8 (d.toNat : Int)) W := ix_l s 2 d hd
    have DG := hide (digit_any d)
    have hneg2 : ¬ (0 : Int) ≤ hexV d := by omega
    clear hd
    generalize hexV d = hv at *
    go_enter Tryz.func23, Tryz.ntmps23
    go_wp2_with fail
    refine (X0.out _).mono ?_
    rintro e w1 ⟨rfl, rfl⟩
    go_wp2_with fail
    refine (DG.out _).mono ?_
    rintro e w1 ⟨rfl, rfl⟩
    go_wp2_with fail
    cases hD : isD c with
    | true =>
      rw [hD] at HT YD
      clear hD
      go_wp2_with fail
      refine (YD.out _).mono ?_
      rintro e w1 ⟨rfl, rfl⟩
      go_wp2_with fail
      refine (RD.out _).mono ?_
      rintro e w1 ⟨rfl, rfl⟩
      go_wp2_with fail
      go_ret
      exact ⟨by rw [HT.out]; rfl, rfl⟩
    | false =>
      rw [hD] at HT YD
      clear hD
      go_wp2_with fail
      refine (YD.out _).mono ?_
      rintro e w1 ⟨rfl, rfl⟩
      cases hL : isL c with
      | true =>
        rw [hL] at HT YL
        clear hL
        go_wp2_with fail
        refine (YL.out _).mono ?_
        rintro e w1 ⟨rfl, rfl⟩
        go_wp2_with fail
        refine (RL.out _).mono ?_
        rintro e w1 ⟨rfl, rfl⟩
        go_wp2_with fail
        go_ret
        exact ⟨by rw [HT.out]; rfl, rfl⟩
      | false =>
        rw [hL] at HT YL
        clear hL
        have HO : Hid (tokP s = opLen s (opsP.drop 0)) := hide (by rw [HT.out]; rfl)
        clear HT
        go_wp2_with fail
        refine (YL.out _).mono ?_
        rintro e w1 ⟨rfl, rfl⟩
        go_wp2_with (refine wpList_load_eq rfl 67 (.global 0) rfl ⟨0, 0, none⟩ rfl opsV hld.out ?_)
        go_loopw [36] (fun u36 wx => ∃ k : Nat, k ≤ 24 ∧ u36 = .int .i64 k ∧ wx = w ∧ Hid (tokP s = opLen s (opsP.drop k))) (fun u36 _ => 24 - (intOf u36).toNat)
        case atStart => exact ⟨0, by omega, rfl, rfl, HO⟩
        case round =>
          clear HO
          obtain ⟨k, hk, rfl, rfl, HN⟩ := hrel
          by_cases h7 : k < 24
          · have hlt : (k : Int) < 24 := by omega
            have hix := ops_ix k h7
            have HP := hide (fun W => pre_l s (opsP[k]'h7) W)
            have HN1 := hide (HN.out.trans (opLen_drop s h7))
            have hol : (opsP[k]'h7).length ≤ 2 := (show ∀ o ∈ opsP, o.length ≤ 2 by decide) _ (List.getElem_mem _)
            clear HN
            generalize opsP[k]'h7 = op at *
            cases hb : startsP s op with
            | true =>
              rw [hb] at HP HN1
              clear hb
              go_wp2_with fail
              refine (HP.out _).mono ?_
              rintro e w1 ⟨rfl, rfl⟩
              go_wp2_with fail
              go_ret
              exact ⟨by rw [HN1.out]; rfl, by first | rfl | trivial⟩
            | false =>
              rw [hb] at HP HN1
              clear hb
              go_wp2_with fail
              refine (HP.out _).mono ?_
              rintro e w1 ⟨rfl, rfl⟩
              go_wp2_with fail
              go_roundw
              case rel => exact ⟨k + 1, by omega, by go_num, by first | rfl | trivial, hide (by rw [HN1.out]; rfl)⟩
              case measure => simp [intOf]; omega
          · have hlt : ¬ (k : Int) < 24 := by omega
            have HR : Hid (tokP s = 0) := hide (by rw [HN.out, List.drop_of_length_le (by have : opsP.length = 24 := rfl; omega)]; rfl)
            clear HN
            go_wp2_with fail
            go_ret
            exact ⟨by rw [HR.out]; rfl, by first | rfl | trivial⟩
set_option maxRecDepth 100000 in
set_option maxHeartbeats 4000000 in
theorem tok_any (s : Tok) (w : World) (h0 : s ≠ []) (hs : s.length ≤ 1000) (hS : StdO w) :
    Calls Tryz.prog 23 #[.string ⟨s.toArray⟩] w fun e w' => e = .returned (.int .i64 (tokP s)) ∧ w = w' := by
  have X0 := hide (fun W => pre_l s [48, 120] W)
  obtain ⟨c, hc⟩ : ∃ c, s[0]? = some c := ⟨_, List.getElem?_eq_getElem (List.length_pos_iff.2 h0)⟩
  cases hb : startsP s [48, 120] with
  | false => exact tok_rest s c w hc hs hS (isHex_no s hb) X0 (.inl hb)
  | true =>
    rcases Nat.lt_or_ge 2 s.length with h2 | h2
    · obtain ⟨d, hd⟩ : ∃ d, s[2]? = some d := ⟨_, List.getElem?_eq_getElem h2⟩
      by_cases hn : hexV d < 0
      · exact tok_rest s c w hc hs hS (by rw [isHex_eq s d hd, hb]; unfold isH; rw [decide_eq_false (by omega)]; rfl) X0 (.inr (.inr ⟨hb, h2, d, hd, hn⟩))
      · have hx : isHex s = true := by rw [isHex_eq s d hd, hb]; unfold isH; rw [decide_eq_true (by omega)]; rfl
        have HT : Hid (tokP s = 2 + runP isH (s.drop 2)) := hide (by unfold tokP; rw [if_pos hx])
        rw [hb] at X0
        clear hb hx hc
        have hl : (2 : Int) < (s.length : Int) := by omega
        have hix2 : ∀ W, (Instr.index 9 (.string ⟨s.toArray⟩) (.int .i64 2)).run Tryz.prog W = .ok (.int .u8 (d.toNat : Int)) W := ix_l s 2 d hd
        have DG := hide (digit_any d)
        have hneg2 : (0 : Int) ≤ hexV d := by omega
        have hsl := sl_from s 2 2 rfl (by omega)
        have RX := hide (fun W => run_any kind_hex (s.drop 2) W (by simp; omega))
        have hrl := runP_le isH (s.drop 2)
        rw [List.length_drop] at hrl
        clear hd hn
        generalize hexV d = hv at *
        generalize runP isH (s.drop 2) = rl at *
        go_enter Tryz.func23, Tryz.ntmps23
        go_wp2_with fail
        refine (X0.out _).mono ?_
        rintro e w1 ⟨rfl, rfl⟩
        go_wp2_with fail
        refine (DG.out _).mono ?_
        rintro e w1 ⟨rfl, rfl⟩
        go_wp2_with fail
        refine (RX.out _).mono ?_
        rintro e w1 ⟨rfl, rfl⟩
        have hw : IntKind.i64.wrap (2 + (rl : Int)) = 2 + (rl : Int) := by simp [IntKind.wrap, IntKind.bits, IntKind.signed]; omega
        go_wp2_with fail
        go_ret
        exact ⟨by rw [HT.out]; refine ret_i rfl ?_; omega, rfl⟩
    · exact tok_rest s c w hc hs hS (isHex_short s h2) X0 (.inr (.inl ⟨hb, h2⟩))
end Go.Proofs.YtglgldmofibedaaGreatDoor
