/- The document's has and one. -/
import Derived.Test.YtbphpijehfcbkaaDoorExX
namespace Go.Proofs.YtbphpijehfcbkaaDoor
open Go.RowKit
set_option linter.unusedVariables false
def HasR (w : World) (e : Ending) (w' : World) : Prop := ∃ b : Bool, e = .returned (.bool b) ∧ w = w'
set_option maxRecDepth 100000 in
set_option maxHeartbeats 4000000 in
theorem has_any (t : LB) (ht : t.length ≤ 100000) (x : UInt8) (w : World) : Calls Tryd.prog 38 #[.string ⟨t.toArray⟩, .int .u8 (x.toNat : Int)] w (HasR w) := by
  go_enter Tryd.func38, Tryd.ntmps38
  go_wp2_with fail
  go_loop [5] (fun u5 => ∃ i : Nat, i ≤ t.length ∧ u5 = .int .i64 (i : Int)) (fun u5 => t.length - (intOf u5).toNat)
  case atStart => exact ⟨0, Nat.zero_le _, rfl⟩
  case round =>
    obtain ⟨i, hi, rfl⟩ := hrel
    by_cases hlt : i < t.length
    · obtain ⟨a, ha⟩ : ∃ a, t[i]? = some a := ⟨_, List.getElem?_eq_getElem hlt⟩
      have hixa := ix_l t i a ha
      have hlt' : (i : Int) < (t.length : Int) := by omega
      have tax := u8_beq a x
      have tail : ∀ (b : Bool), (a == x) = b → (((a.toNat : Int) == (x.toNat : Int)) = b) := fun b h => by rw [tax, h]
      clear ha tax
      by_cases h2 : i + 2 < t.length
      · obtain ⟨y, hy⟩ : ∃ y, t[i + 1]? = some y := ⟨_, List.getElem?_eq_getElem (by omega)⟩
        obtain ⟨z, hz⟩ : ∃ z, t[i + 2]? = some z := ⟨_, List.getElem?_eq_getElem h2⟩
        have hixy : ∀ W, (Instr.index 9 (.string ⟨t.toArray⟩) (.int .i64 ((i : Int) + 1))).run Tryd.prog W = .ok (.int .u8 (y.toNat : Int)) W := fun W => by
          have := ix_l t (i + 1) y hy W
          push_cast at this
          exact this
        have hixz : ∀ W, (Instr.index 9 (.string ⟨t.toArray⟩) (.int .i64 ((i : Int) + 2))).run Tryd.prog W = .ok (.int .u8 (z.toNat : Int)) W := fun W => by
          have := ix_l t (i + 2) z hz W
          push_cast at this
          exact this
        have k2 : (i : Int) + 2 < (t.length : Int) := by omega
        have t45 := u8_beq y 45
        change ((y.toNat : Int) == 45) = _ at t45
        clear hy hz
        by_cases h45 : y = 45
        · rw [beq_iff_eq.2 h45] at t45
          clear h45 tail
          by_cases c1 : (a.toNat : Int) ≤ (x.toNat : Int)
          · by_cases c2 : (x.toNat : Int) ≤ (z.toNat : Int)
            · go_wp2_with fail
              go_ret
              exact ⟨true, rfl, rfl⟩
            · have d2 : decide ((x.toNat : Int) ≤ (z.toNat : Int)) = false := decide_eq_false c2
              go_wp2_with fail
              go_round
              case rel => exact ⟨i + 3, by omega, by go_num⟩
              case measure => simp [intOf]; omega
          · have d1 : decide ((a.toNat : Int) ≤ (x.toNat : Int)) = false := decide_eq_false c1
            go_wp2_with fail
            go_round
            case rel => exact ⟨i + 3, by omega, by go_num⟩
            case measure => simp [intOf]; omega
        · rw [beq_eq_false_iff_ne.2 h45] at t45
          clear h45
          cases hax : (a == x) with
          | true =>
            have tx := tail true hax
            clear tail hax
            go_wp2_with fail
            go_ret
            exact ⟨true, rfl, rfl⟩
          | false =>
            have tx := tail false hax
            clear tail hax
            go_wp2_with fail
            go_round
            case rel => exact ⟨i + 1, by omega, by go_num⟩
            case measure => simp [intOf]; omega
      · have k2 : ¬ (i : Int) + 2 < (t.length : Int) := by omega
        cases hax : (a == x) with
        | true =>
          have tx := tail true hax
          clear tail hax
          go_wp2_with fail
          go_ret
          exact ⟨true, rfl, rfl⟩
        | false =>
          have tx := tail false hax
          clear tail hax
          go_wp2_with fail
          go_round
          case rel => exact ⟨i + 1, by omega, by go_num⟩
          case measure => simp [intOf]; omega
    · have hlt' : ¬ (i : Int) < (t.length : Int) := by omega
      go_wp2_with fail
      go_ret
      exact ⟨false, rfl, rfl⟩
def OneR (p : LB) (i : Nat) (x : UInt8) (w : World) (e : Ending) (w' : World) : Prop := ∃ (en : Nat) (ok : Bool) (k : Nat), e = .returned (.tuple #[.int .i64 (en : Int), .bool ok]) ∧ w' = w.drewN k ∧ OneOk p i x en ok
set_option maxRecDepth 100000 in
set_option maxHeartbeats 4000000 in
theorem one_any (p : LB) (i : Nat) (x : UInt8) (hp : p.length ≤ 100000) (hi : i < p.length) (w : World) : Calls Tryd.prog 26 #[.string ⟨p.toArray⟩, .int .i64 (i : Int), .int .u8 (x.toNat : Int)] w (OneR p i x w) := by
  obtain ⟨y, hy⟩ : ∃ y, p[i]? = some y := ⟨_, List.getElem?_eq_getElem hi⟩
  have hix := ix_l p i y hy
  have HY := hide hy
  have kw1 : IntKind.i64.wrap ((i : Int) + 1) = (i : Int) + 1 := by simp [IntKind.wrap, IntKind.bits, IntKind.signed]; omega
  have kw2 : IntKind.i64.wrap ((i : Int) + 2) = (i : Int) + 2 := by simp [IntKind.wrap, IntKind.bits, IntKind.signed]; omega
  have tyx := u8_beq y x
  have t63 := u8_beq y 63
  have t92 := u8_beq y 92
  have t91 := u8_beq y 91
  change ((y.toNat : Int) == 63) = _ at t63
  change ((y.toNat : Int) == 92) = _ at t92
  change ((y.toNat : Int) == 91) = _ at t91
  clear hy
  have plainOk : (y = 63 → False) → (y = 92 → p.length ≤ i + 1) → OneOk p i x (i + 1) (y == x) := fun h63 h92 => by
    refine ⟨by omega, by omega, fun h => ?_, fun c h h' => ?_, fun c h _ _ _ => ?_, fun h _ => ?_, fun h _ => ?_⟩
    · rw [HY.out] at h; injection h with h; exact (h63 h).elim
    · rw [HY.out] at h; injection h with h
      obtain ⟨h3, _⟩ := List.getElem?_eq_some_iff.1 h'
      have := h92 h; omega
    · rw [HY.out] at h; injection h with h; rw [h]; exact ⟨rfl, rfl⟩
    · rw [HY.out] at h; injection h with h; rw [h]; exact ⟨rfl, rfl⟩
    · rw [HY.out] at h; injection h with h; rw [h]; exact ⟨rfl, rfl⟩
  by_cases h63 : y = 63
  · rw [beq_iff_eq.2 h63] at t63
    have HO : Hid (OneOk p i x (i + 1) true) := hide ⟨by omega, by omega, fun _ => ⟨rfl, rfl⟩, (fun c h h' => by rw [HY.out, h63] at h; cases h), (fun c h q _ _ => by rw [HY.out, h63] at h; injection h with h; exact absurd h.symm q), (fun h _ => by rw [HY.out, h63] at h; cases h), (fun h _ => by rw [HY.out, h63] at h; cases h)⟩
    clear h63 plainOk t92 t91 tyx
    go_enter Tryd.func26, Tryd.ntmps26
    go_wp2_with fail
    go_ret2
    exact ⟨i + 1, true, 0, by first | rfl | (congr 3; omega), rfl, HO.out⟩
  rw [beq_eq_false_iff_ne.2 h63] at t63
  obtain ⟨byx, hbyx⟩ : ∃ b, (y == x) = b := ⟨_, rfl⟩
  rw [hbyx] at tyx plainOk
  by_cases h92 : y = 92
  · rw [beq_iff_eq.2 h92] at t92
    rcases Nat.lt_or_ge (i + 1) p.length with h1 | h1
    · obtain ⟨z, hz⟩ : ∃ z, p[i + 1]? = some z := ⟨_, List.getElem?_eq_getElem h1⟩
      have hixz : ∀ W, (Instr.index 9 (.string ⟨p.toArray⟩) (.int .i64 ((i : Int) + 1))).run Tryd.prog W = .ok (.int .u8 (z.toNat : Int)) W := fun W => by
        have := ix_l p (i + 1) z hz W
        push_cast at this
        exact this
      have HO : Hid (OneOk p i x (i + 2) (z == x)) := hide ⟨by omega, by omega, (fun h => by rw [HY.out, h92] at h; cases h), (fun c h h' => by rw [hz] at h'; injection h' with h'; rw [h']; exact ⟨rfl, rfl⟩), (fun c h _ _ q => by rw [HY.out, h92] at h; injection h with h; exact absurd h.symm q), (fun h _ => by rw [HY.out, h92] at h; cases h), (fun _ h => by omega)⟩
      have tzx := u8_beq z x
      have k1 : (i : Int) + 1 < (p.length : Int) := by omega
      generalize (z == x) = b at *
      clear hz h92 h63 plainOk t91 tyx hbyx
      go_enter Tryd.func26, Tryd.ntmps26
      go_wp2_with fail
      go_quiet (fail)
      go_wp2_with fail
      go_ret2
      exact ⟨i + 2, b, _, by first | rfl | (congr 3; omega), rfl, HO.out⟩
    · have k1 : ¬ (i : Int) + 1 < (p.length : Int) := by omega
      have HO := hide (plainOk h63 (fun _ => h1))
      clear h92 h63 plainOk t91 hbyx
      go_enter Tryd.func26, Tryd.ntmps26
      go_wp2_with fail
      go_quiet (fail)
      go_wp2_with fail
      go_ret2
      exact ⟨i + 1, byx, _, by first | rfl | (congr 3; omega), rfl, HO.out⟩
  rw [beq_eq_false_iff_ne.2 h92] at t92
  have HO := hide (plainOk h63 (fun h => absurd h h92))
  by_cases h91 : y = 91
  · rw [beq_iff_eq.2 h91] at t91
    have XC := hide (rclass_any p i (by omega) hi w)
    have HB : Hid (classB (p.drop i) = if p[i + 1]? = some 33 then 2 else 1) := hide (by
      unfold classB
      rw [hasPre_33, List.drop_drop, List.getElem?_drop]
      simp)
    have HOx : (classP (p.drop i)).isSome = true → ∀ (r : Nat) (b : Bool), i < r → r ≤ p.length → OneOk p i x r b := fun hsm r b g1 g2 => ⟨g1, g2, (fun h => by rw [HY.out, h91] at h; cases h), (fun c h _ => by rw [HY.out, h91] at h; cases h), (fun c h _ q _ => by rw [HY.out, h91] at h; injection h with h; exact absurd h.symm q), (fun _ h => by rw [hsm] at h; cases h), (fun h _ => by rw [HY.out, h91] at h; cases h)⟩
    have HOX := hide HOx
    clear h92 h63 plainOk hbyx h91 HOx
    go_enter Tryd.func26, Tryd.ntmps26
    go_wp2_with fail
    refine XC.out.mono ?_
    rintro e w1 ⟨r, rfl, rfl, hcls⟩
    rcases hcls with ⟨_, hr⟩ | ⟨hsm, hr1, hr2⟩
    · have kr : ¬ (0 : Int) < (r : Int) := by omega
      clear hr XC
      go_wp2_with fail
      go_quiet (fail)
      go_wp2_with fail
      go_ret2
      exact ⟨i + 1, byx, _, by first | rfl | (congr 3; omega), rfl, HO.out⟩
    · unfold clsI at hr1
      rw [HB.out] at hr1
      have kr : (0 : Int) < (r : Int) := by omega
      have hi1 : i + 1 < p.length := by split at hr1 <;> omega
      obtain ⟨z, hz⟩ : ∃ z, p[i + 1]? = some z := ⟨_, List.getElem?_eq_getElem hi1⟩
      have hixz : ∀ W, (Instr.index 9 (.string ⟨p.toArray⟩) (.int .i64 ((i : Int) + 1))).run Tryd.prog W = .ok (.int .u8 (z.toNat : Int)) W := fun W => by
        have := ix_l p (i + 1) z hz W
        push_cast at this
        exact this
      have kwr : IntKind.i64.wrap ((r : Int) - 1) = (r : Int) - 1 := by simp [IntKind.wrap, IntKind.bits, IntKind.signed]; omega
      have t33 := u8_beq z 33
      change ((z.toNat : Int) == 33) = _ at t33
      by_cases h33 : z = 33
      · rw [beq_iff_eq.2 h33] at t33
        rw [hz, h33, if_pos rfl] at hr1
        have hsl := sl_two p (i + 2) (r - 1) ((i : Int) + 2) ((r : Int) - 1) (by omega) (by omega) (by omega) (by omega)
        have XHs := hide (fun W => has_any ((p.drop (i + 2)).take (r - 1 - (i + 2))) (by rw [List.length_take, List.length_drop]; omega) x W)
        have HOR := hide (fun b => HOX.out hsm r b (by omega) hr2)
        clear hz h33 HB XC HO
        go_wp2_with fail
        refine (XHs.out _).mono ?_
        rintro e w1 ⟨b, rfl, rfl⟩
        go_wp2_with fail
        go_ret2
        exact ⟨r, !b, 0, rfl, rfl, HOR.out _⟩
      · rw [beq_eq_false_iff_ne.2 h33] at t33
        rw [hz, if_neg (by intro h; injection h with h; exact h33 h)] at hr1
        have hsl := sl_two p (i + 1) (r - 1) ((i : Int) + 1) ((r : Int) - 1) (by omega) (by omega) (by omega) (by omega)
        have XHs := hide (fun W => has_any ((p.drop (i + 1)).take (r - 1 - (i + 1))) (by rw [List.length_take, List.length_drop]; omega) x W)
        have HOR := hide (fun b => HOX.out hsm r b (by omega) hr2)
        clear hz h33 HB XC HO
        go_wp2_with fail
        refine (XHs.out _).mono ?_
        rintro e w1 ⟨b, rfl, rfl⟩
        go_wp2_with fail
        go_ret2
        exact ⟨r, b, 0, rfl, rfl, HOR.out _⟩
  · rw [beq_eq_false_iff_ne.2 h91] at t91
    clear h92 h63 plainOk hbyx h91
    go_enter Tryd.func26, Tryd.ntmps26
    go_wp2_with fail
    go_quiet (fail)
    go_wp2_with fail
    go_ret2
    exact ⟨i + 1, byx, _, by first | rfl | (congr 3; omega), rfl, HO.out⟩
end Go.Proofs.YtbphpijehfcbkaaDoor
