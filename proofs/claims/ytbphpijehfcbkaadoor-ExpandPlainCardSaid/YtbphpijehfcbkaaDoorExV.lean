/- The document's class and Special. -/
import Derived.Test.YtbphpijehfcbkaaDoorGlobT
import Derived.Test.YtbphpijehfcbkaaDoorStrs
import Derived.Test.YtbphpijehfcbkaaDoorMore
namespace Go.Proofs.YtbphpijehfcbkaaDoor
open Go.RowKit
set_option linter.unusedVariables false
abbrev LB := List UInt8
theorem sl_two (p : LB) (a b : Nat) (i j : Int) (hi : i = (a : Int)) (hj : j = (b : Int)) (hab : a ≤ b) (hb : b ≤ p.length) : ∀ W, (Instr.slice 9 (.string ⟨p.toArray⟩) (some (.int .i64 i)) (some (.int .i64 j)) none).run Tryd.prog W = .ok (.string ⟨((p.drop a).take (b - a)).toArray⟩) W := fun W => by
  subst hi hj
  rw [run_slice_string W 9 ⟨p.toArray⟩ .i64 .i64 (a : Int) (b : Int) Tryd.underlying9 (by omega) (by omega) (by show (b : Int) ≤ ((p.length : Nat) : Int); omega), Int.toNat_natCast, Int.toNat_natCast, ext_two]
theorem index_neg (l : LB) (c : UInt8) : Lib.indexByte l c < 0 ↔ ∀ x ∈ l, x ≠ c := by
  induction l with
  | nil => simp [Lib.indexByte]
  | cons y r ih =>
    have hge := Lib.indexByte_ge r c
    have hst : Lib.indexByte (y :: r) c = if y == c then 0 else if Lib.indexByte r c == -1 then -1 else Lib.indexByte r c + 1 := rfl
    rw [List.forall_mem_cons, ← ih, hst]
    generalize Lib.indexByte r c = z at *
    by_cases h : y = c
    · subst h; simp
    · have h' : (y == c) = false := beq_eq_false_iff_ne.2 h
      rw [h']
      simp only [Bool.false_eq_true, if_false, beq_iff_eq]
      constructor
      · intro h3
        refine ⟨h, ?_⟩
        split at h3 <;> omega
      · rintro ⟨_, h3⟩
        split <;> omega
/-- Where a class's items begin. -/
def clsI (p : LB) (a : Nat) : Nat := a + classB (p.drop a)
theorem classB_le (q : LB) : 1 ≤ classB q ∧ classB q ≤ 2 := by unfold classB; split <;> omega
theorem class_some (p : LB) (a : Nat) : (classP (p.drop a)).isSome = true ↔ ∃ k, clsI p a + 1 ≤ k ∧ p[k]? = some 93 := by
  have hb := classB_le (p.drop a)
  unfold classP clsI
  generalize classB (p.drop a) = b at *
  rw [List.drop_drop]
  by_cases h1 : (p.drop a).length ≤ b
  · rw [if_pos h1]
    rw [List.length_drop] at h1
    constructor
    · intro h; cases h
    · rintro ⟨k, hk, he⟩
      obtain ⟨h2, _⟩ := List.getElem?_eq_some_iff.1 he
      omega
  · rw [if_neg h1]
    by_cases h2 : Lib.indexByte (p.drop (a + (b + 1))) 93 < 0
    · rw [if_pos h2]
      have h3 := (index_neg _ _).1 h2
      constructor
      · intro h; cases h
      · rintro ⟨k, hk, he⟩
        exfalso
        refine h3 93 ?_ rfl
        rw [List.mem_iff_getElem?]
        exact ⟨k - (a + (b + 1)), by rw [List.getElem?_drop, show a + (b + 1) + (k - (a + (b + 1))) = k by omega]; exact he⟩
    · rw [if_neg h2]
      constructor
      · intro _
        have h3 : ¬ ∀ x ∈ p.drop (a + (b + 1)), x ≠ 93 := fun h => h2 ((index_neg _ _).2 h)
        have h4 : 93 ∈ p.drop (a + (b + 1)) := by
          apply Classical.byContradiction
          intro h5
          exact h3 (fun x hx e => h5 (e ▸ hx))
        obtain ⟨j, hj⟩ := List.mem_iff_getElem?.1 h4
        rw [List.getElem?_drop] at hj
        exact ⟨a + (b + 1) + j, by omega, hj⟩
      · intro _; rfl
/-- What class gives: nothing, or a place behind the items. -/
def ClsR (p : LB) (a : Nat) (w : World) (e : Ending) (w' : World) : Prop := ∃ r : Nat, e = .returned (.int .i64 (r : Int)) ∧ w = w' ∧ (((classP (p.drop a)).isSome = false ∧ r = 0) ∨ ((classP (p.drop a)).isSome = true ∧ clsI p a + 2 ≤ r ∧ r ≤ p.length))
theorem hasPre_33 (q : LB) : Lib.hasPrefix q [33] = (q[0]? == some 33) := by
  cases q with
  | nil => rfl
  | cons x r => rw [Bool.eq_iff_iff]; simp [Lib.hasPrefix]; exact eq_comm
set_option maxHeartbeats 4000000 in
theorem rclass_any (p : LB) (a : Nat) (hp : p.length ≤ 1000000) (ha : a < p.length) (w : World) : Calls Tryd.prog 16 #[.string ⟨p.toArray⟩, .int .i64 (a : Int)] w (ClsR p a w) := by
  have HCS := hide (class_some p a)
  have hB : classB (p.drop a) = if p[a + 1]? = some 33 then 2 else 1 := by
    unfold classB
    rw [hasPre_33, List.drop_drop, List.getElem?_drop]
    simp
  by_cases h33 : p[a + 1]? = some 33
  · rw [if_pos h33] at hB
    have HI : Hid (clsI p a = a + 2) := hide (by unfold clsI; rw [hB])
    obtain ⟨h1, _⟩ := List.getElem?_eq_some_iff.1 h33
    have hix : ∀ W, (Instr.index 9 (.string ⟨p.toArray⟩) (.int .i64 ((a : Int) + 1))).run Tryd.prog W = .ok (.int .u8 33) W := fun W => by
      have := ix_l p (a + 1) 33 h33 W
      push_cast at this
      exact this
    have hl1 : (a : Int) + 1 < (p.length : Int) := by omega
    clear hB h33
    go_enter Tryd.func16, Tryd.ntmps16
    go_wp2_with fail
    go_loop [6] (fun u6 => ∃ k : Nat, a + 3 ≤ k ∧ k ≤ p.length + 3 ∧ u6 = .int .i64 (k : Int) ∧ Hid (∀ q, a + 3 ≤ q → q < k → p[q]? ≠ some 93)) (fun u6 => p.length + 3 - (intOf u6).toNat)
    case atStart => exact ⟨a + 3, Nat.le_refl _, by omega, by first | rfl | go_num | (congr 1; omega), hide (fun q h1 h2 => by omega)⟩
    case round =>
      obtain ⟨k, hk1, hk2, rfl, HQ⟩ := hrel
      by_cases hlt : k < p.length
      · obtain ⟨x, hx⟩ : ∃ x, p[k]? = some x := ⟨_, List.getElem?_eq_getElem hlt⟩
        have hixk := ix_l p k x hx
        have hlt1 : (k : Int) < (p.length : Int) := by omega
        have t93 := u8_beq x 93
        change ((x.toNat : Int) == 93) = _ at t93
        by_cases h93 : x = 93
        · have HS : Hid ((classP (p.drop a)).isSome = true) := hide (HCS.out.2 ⟨k, by rw [HI.out]; omega, by rw [hx, h93]⟩)
          rw [beq_iff_eq.2 h93] at t93
          clear hx h93 HQ
          go_wp2_with fail
          go_ret
          exact ⟨k + 1, by first | rfl | (congr 1; go_num) | (congr 2; omega), rfl, .inr ⟨HS.out, by rw [HI.out]; omega, by omega⟩⟩
        · have HQ2 : Hid (∀ q, a + 3 ≤ q → q < k + 1 → p[q]? ≠ some 93) := hide (fun q h1 h2 => by
            rcases Nat.lt_or_ge q k with h3 | h3
            · exact HQ.out q h1 h3
            · obtain rfl : q = k := by omega
              rw [hx]; intro e; injection e with e; exact h93 e)
          rw [beq_eq_false_iff_ne.2 h93] at t93
          clear hx h93 HQ
          go_wp2_with fail
          go_round
          case rel => exact ⟨k + 1, by omega, by omega, by go_num, HQ2⟩
          case measure => simp [intOf]; omega
      · have hlt1 : ¬ (k : Int) < (p.length : Int) := by omega
        have HS : Hid ((classP (p.drop a)).isSome = false) := hide (by
          rw [← Bool.not_eq_true]
          intro h
          obtain ⟨q, h1, h2⟩ := HCS.out.1 h
          rw [HI.out] at h1
          obtain ⟨h3, _⟩ := List.getElem?_eq_some_iff.1 h2
          exact HQ.out q (by omega) (by omega) h2)
        clear HQ
        go_wp2_with fail
        go_ret
        exact ⟨0, rfl, rfl, .inl ⟨HS.out, rfl⟩⟩
  · rw [if_neg h33] at hB
    have HI : Hid (clsI p a = a + 1) := hide (by unfold clsI; rw [hB])
    rcases Nat.lt_or_ge (a + 1) p.length with h1 | h1
    · obtain ⟨y, hy⟩ : ∃ y, p[a + 1]? = some y := ⟨_, List.getElem?_eq_getElem h1⟩
      have hix : ∀ W, (Instr.index 9 (.string ⟨p.toArray⟩) (.int .i64 ((a : Int) + 1))).run Tryd.prog W = .ok (.int .u8 (y.toNat : Int)) W := fun W => by
        have := ix_l p (a + 1) y hy W
        push_cast at this
        exact this
      have hy33 : y ≠ 33 := fun h => h33 (by rw [hy, h])
      have t33 := u8_beq y 33
      change ((y.toNat : Int) == 33) = _ at t33
      rw [beq_eq_false_iff_ne.2 hy33] at t33
      have hl1 : (a : Int) + 1 < (p.length : Int) := by omega
      clear hB h33 hy hy33
      go_enter Tryd.func16, Tryd.ntmps16
      go_wp2_with fail
      go_loop [6] (fun u6 => ∃ k : Nat, a + 2 ≤ k ∧ k ≤ p.length + 3 ∧ u6 = .int .i64 (k : Int) ∧ Hid (∀ q, a + 2 ≤ q → q < k → p[q]? ≠ some 93)) (fun u6 => p.length + 3 - (intOf u6).toNat)
      case atStart => exact ⟨a + 2, Nat.le_refl _, by omega, by first | rfl | go_num | (congr 1; omega), hide (fun q h1 h2 => by omega)⟩
      case round =>
        obtain ⟨k, hk1, hk2, rfl, HQ⟩ := hrel
        by_cases hlt : k < p.length
        · obtain ⟨x, hx⟩ : ∃ x, p[k]? = some x := ⟨_, List.getElem?_eq_getElem hlt⟩
          have hixk := ix_l p k x hx
          have hlt1 : (k : Int) < (p.length : Int) := by omega
          have t93 := u8_beq x 93
          change ((x.toNat : Int) == 93) = _ at t93
          by_cases h93 : x = 93
          · have HS : Hid ((classP (p.drop a)).isSome = true) := hide (HCS.out.2 ⟨k, by rw [HI.out]; omega, by rw [hx, h93]⟩)
            rw [beq_iff_eq.2 h93] at t93
            clear hx h93 HQ
            go_wp2_with fail
            go_ret
            exact ⟨k + 1, by first | rfl | (congr 1; go_num) | (congr 2; omega), rfl, .inr ⟨HS.out, by rw [HI.out]; omega, by omega⟩⟩
          · have HQ2 : Hid (∀ q, a + 2 ≤ q → q < k + 1 → p[q]? ≠ some 93) := hide (fun q h1 h2 => by
              rcases Nat.lt_or_ge q k with h3 | h3
              · exact HQ.out q h1 h3
              · obtain rfl : q = k := by omega
                rw [hx]; intro e; injection e with e; exact h93 e)
            rw [beq_eq_false_iff_ne.2 h93] at t93
            clear hx h93 HQ
            go_wp2_with fail
            go_round
            case rel => exact ⟨k + 1, by omega, by omega, by go_num, HQ2⟩
            case measure => simp [intOf]; omega
        · have hlt1 : ¬ (k : Int) < (p.length : Int) := by omega
          have HS : Hid ((classP (p.drop a)).isSome = false) := hide (by
            rw [← Bool.not_eq_true]
            intro h
            obtain ⟨q, h1, h2⟩ := HCS.out.1 h
            rw [HI.out] at h1
            obtain ⟨h3, _⟩ := List.getElem?_eq_some_iff.1 h2
            exact HQ.out q (by omega) (by omega) h2)
          clear HQ
          go_wp2_with fail
          go_ret
          exact ⟨0, rfl, rfl, .inl ⟨HS.out, rfl⟩⟩
    · have hl1 : ¬ (a : Int) + 1 < (p.length : Int) := by omega
      clear hB h33
      go_enter Tryd.func16, Tryd.ntmps16
      go_wp2_with fail
      go_loop [6] (fun u6 => ∃ k : Nat, a + 2 ≤ k ∧ k ≤ p.length + 3 ∧ u6 = .int .i64 (k : Int) ∧ Hid (∀ q, a + 2 ≤ q → q < k → p[q]? ≠ some 93)) (fun u6 => p.length + 3 - (intOf u6).toNat)
      case atStart => exact ⟨a + 2, Nat.le_refl _, by omega, by first | rfl | go_num | (congr 1; omega), hide (fun q h1 h2 => by omega)⟩
      case round =>
        obtain ⟨k, hk1, hk2, rfl, HQ⟩ := hrel
        by_cases hlt : k < p.length
        · obtain ⟨x, hx⟩ : ∃ x, p[k]? = some x := ⟨_, List.getElem?_eq_getElem hlt⟩
          have hixk := ix_l p k x hx
          have hlt1 : (k : Int) < (p.length : Int) := by omega
          have t93 := u8_beq x 93
          change ((x.toNat : Int) == 93) = _ at t93
          by_cases h93 : x = 93
          · have HS : Hid ((classP (p.drop a)).isSome = true) := hide (HCS.out.2 ⟨k, by rw [HI.out]; omega, by rw [hx, h93]⟩)
            rw [beq_iff_eq.2 h93] at t93
            clear hx h93 HQ
            go_wp2_with fail
            go_ret
            exact ⟨k + 1, by first | rfl | (congr 1; go_num) | (congr 2; omega), rfl, .inr ⟨HS.out, by rw [HI.out]; omega, by omega⟩⟩
          · have HQ2 : Hid (∀ q, a + 2 ≤ q → q < k + 1 → p[q]? ≠ some 93) := hide (fun q h1 h2 => by
              rcases Nat.lt_or_ge q k with h3 | h3
              · exact HQ.out q h1 h3
              · obtain rfl : q = k := by omega
                rw [hx]; intro e; injection e with e; exact h93 e)
            rw [beq_eq_false_iff_ne.2 h93] at t93
            clear hx h93 HQ
            go_wp2_with fail
            go_round
            case rel => exact ⟨k + 1, by omega, by omega, by go_num, HQ2⟩
            case measure => simp [intOf]; omega
        · have hlt1 : ¬ (k : Int) < (p.length : Int) := by omega
          have HS : Hid ((classP (p.drop a)).isSome = false) := hide (by
            rw [← Bool.not_eq_true]
            intro h
            obtain ⟨q, h1, h2⟩ := HCS.out.1 h
            rw [HI.out] at h1
            obtain ⟨h3, _⟩ := List.getElem?_eq_some_iff.1 h2
            exact HQ.out q (by omega) (by omega) h2)
          clear HQ
          go_wp2_with fail
          go_ret
          exact ⟨0, rfl, rfl, .inl ⟨HS.out, rfl⟩⟩
set_option maxRecDepth 100000 in
set_option maxHeartbeats 4000000 in
theorem rspecial_any (p : LB) (hp : p.length ≤ 100000) (w : World) : Calls Tryd.prog 6 #[.string ⟨p.toArray⟩] w fun e w' => e = .returned (.bool (specialP p)) ∧ w = w' := by
  go_enter Tryd.func6, Tryd.ntmps6
  go_wp2_with fail
  go_loop [3] (fun u3 => ∃ i : Nat, i ≤ p.length + 1 ∧ u3 = .int .i64 (i : Int) ∧ Hid (specialP p = specialP (p.drop i))) (fun u3 => p.length + 1 - (intOf u3).toNat)
  case atStart => exact ⟨0, Nat.zero_le _, rfl, hide rfl⟩
  case round =>
    obtain ⟨i, hi, rfl, HS⟩ := hrel
    by_cases hlt : i < p.length
    · obtain ⟨c, hc⟩ : ∃ c, p[i]? = some c := ⟨_, List.getElem?_eq_getElem hlt⟩
      have hix := ix_l p i c hc
      have hdr : p.drop i = c :: p.drop (i + 1) := by
        obtain ⟨h1, h2⟩ := List.getElem?_eq_some_iff.1 hc
        rw [List.drop_eq_getElem_cons h1, h2]
      have hst := special_step c (p.drop (i + 1))
      rw [← hdr, List.drop_drop] at hst
      have HST := hide hst
      have hlt' : (i : Int) < (p.length : Int) := by omega
      have HC := hide (fun W => rclass_any p i (by omega) hlt W)
      have t42 := u8_beq c 42
      have t63 := u8_beq c 63
      have t91 := u8_beq c 91
      have t92 := u8_beq c 92
      change ((c.toNat : Int) == 42) = _ at t42
      change ((c.toNat : Int) == 63) = _ at t63
      change ((c.toNat : Int) == 91) = _ at t91
      change ((c.toNat : Int) == 92) = _ at t92
      clear hdr hst hc
      by_cases h1 : c = 42
      · have HR : Hid (specialP p = true) := hide (by rw [HS.out, HST.out, if_pos (.inl h1)])
        rw [beq_iff_eq.2 h1] at t42
        clear h1 HST t63 t91 t92
        go_wp2_with fail
        go_ret
        exact ⟨ret_bool HR.out.symm, rfl⟩
      rw [beq_eq_false_iff_ne.2 h1] at t42
      by_cases h2 : c = 63
      · have HR : Hid (specialP p = true) := hide (by rw [HS.out, HST.out, if_pos (.inr h2)])
        rw [beq_iff_eq.2 h2] at t63
        clear h1 h2 HST t91 t92
        go_wp2_with fail
        go_ret
        exact ⟨ret_bool HR.out.symm, rfl⟩
      rw [beq_eq_false_iff_ne.2 h2] at t63
      have HST2 : Hid (specialP (p.drop i) = if c = 91 ∧ (classP (p.drop i)).isSome = true then true else if c = 92 then specialP (p.drop (i + 1 + 1)) else specialP (p.drop (i + 1))) := hide (by rw [HST.out, if_neg (by simp [h1, h2])])
      clear HST h1 h2
      by_cases h3 : c = 91
      · rw [beq_iff_eq.2 h3] at t91
        have n92 : ¬ c = 92 := by rw [h3]; decide
        rw [beq_eq_false_iff_ne.2 n92] at t92
        have HSA : (classP (p.drop i)).isSome = false → Hid (specialP p = specialP (p.drop (i + 1))) := fun h => hide (by rw [HS.out, HST2.out, h]; simp [n92])
        have HSB : (classP (p.drop i)).isSome = true → Hid (specialP p = true) := fun h => hide (by rw [HS.out, HST2.out, h]; simp [h3])
        have HSA' := hide HSA
        have HSB' := hide HSB
        clear HST2 n92 h3 HS HSA HSB
        go_wp2_with fail
        refine (HC.out _).mono ?_
        rintro e w2 ⟨r, rfl, rfl, hcls⟩
        rcases hcls with ⟨h1, h2⟩ | ⟨h1, h2, h3⟩
        · have HS2 := HSA'.out h1
          have hr : ¬ (0 : Int) < (r : Int) := by omega
          clear h1 h2 HC
          go_wp2_with fail
          go_round
          case rel => exact ⟨i + 1, by omega, by go_num, HS2⟩
          case measure => simp [intOf]; omega
        · have HR := HSB'.out h1
          have hr : (0 : Int) < (r : Int) := by omega
          clear h1 h2 h3 HC
          go_wp2_with fail
          go_ret
          exact ⟨ret_bool HR.out.symm, rfl⟩
      rw [beq_eq_false_iff_ne.2 h3] at t91
      by_cases h4 : c = 92
      · have HS2 : Hid (specialP p = specialP (p.drop (i + 2))) := hide (by rw [HS.out, HST2.out, if_neg (fun h => h3 h.1), if_pos h4])
        rw [beq_iff_eq.2 h4] at t92
        clear HC HST2 h3 h4 HS
        go_wp2_with fail
        go_round
        case rel => exact ⟨i + 2, by omega, by go_num, HS2⟩
        case measure => simp [intOf]; omega
      · have HS2 : Hid (specialP p = specialP (p.drop (i + 1))) := hide (by rw [HS.out, HST2.out, if_neg (fun h => h3 h.1), if_neg h4])
        rw [beq_eq_false_iff_ne.2 h4] at t92
        clear HC HST2 h3 h4 HS
        go_wp2_with fail
        go_round
        case rel => exact ⟨i + 1, by omega, by go_num, HS2⟩
        case measure => simp [intOf]; omega
    · have HR : Hid (specialP p = false) := hide (by rw [HS.out, List.drop_of_length_le (by omega)]; rfl)
      have hlt' : ¬ (i : Int) < (p.length : Int) := by omega
      clear HS
      go_wp2_with fail
      go_ret
      exact ⟨ret_bool HR.out.symm, rfl⟩
end Go.Proofs.YtbphpijehfcbkaaDoor
