/- The contract of glob.Special. -/
import Derived.Test.YtbphpijehfcbkaaDoorGlobF
namespace Go.Proofs.YtbphpijehfcbkaaDoor
open Go.RowKit
set_option linter.unusedVariables false
def specialP : Bs → Bool
  | [] => false
  | [c] => c == 42 || c == 63 || (c == 91 && (classP [c]).isSome)
  | c :: d :: t => if c = 42 ∨ c = 63 then true else if c = 91 ∧ (classP (c :: d :: t)).isSome = true then true else if c = 92 then specialP t else specialP (d :: t)
theorem special_step (c : UInt8) (r : Bs) : specialP (c :: r) = if c = 42 ∨ c = 63 then true else if c = 91 ∧ (classP (c :: r)).isSome = true then true else if c = 92 then specialP (r.drop 1) else specialP r := by
  cases r with
  | nil =>
    show (c == 42 || c == 63 || (c == 91 && (classP [c]).isSome)) = _
    by_cases h1 : c = 42
    · subst h1; rfl
    by_cases h2 : c = 63
    · subst h2; rfl
    rw [if_neg (by simp [h1, h2])]
    have e1 : (c == 42) = false := beq_eq_false_iff_ne.2 h1
    have e2 : (c == 63) = false := beq_eq_false_iff_ne.2 h2
    rw [e1, e2]
    by_cases h3 : c = 91
    · subst h3
      cases hc : (classP [91]).isSome
      · rw [if_neg (by simp)]; rfl
      · rw [if_pos ⟨rfl, rfl⟩]; rfl
    · have e3 : (c == 91) = false := beq_eq_false_iff_ne.2 h3
      rw [e3, if_neg (fun h => h3 h.1)]
      split <;> rfl
  | cons d t => rw [specialP]; rfl
set_option maxRecDepth 100000 in
set_option maxHeartbeats 4000000 in
theorem special_any (p : Bs) (hp : p.length ≤ 100000) (w : World) : Calls Tryd.prog 13 #[.string ⟨p.toArray⟩] w fun e w' => e = .returned (.bool (specialP p)) ∧ Below w.heap.size w w' := by
  go_enter Tryd.func13, Tryd.ntmps13
  go_wp2_with fail
  go_loopw [3] (fun u3 wx => ∃ i : Nat, i ≤ p.length + 1 ∧ u3 = .int .i64 i ∧ Hid (Below w.heap.size w wx) ∧ Hid (specialP p = specialP (p.drop i))) (fun u3 _ => p.length + 1 - (intOf u3).toNat)
  case atStart => exact ⟨0, Nat.zero_le _, rfl, hide (Below.refl _ _), hide rfl⟩
  case round =>
    obtain ⟨i, hi, rfl, HB, HS⟩ := hrel
    by_cases hlt : i < p.length
    · obtain ⟨c, hc⟩ : ∃ c, p[i]? = some c := ⟨_, List.getElem?_eq_getElem hlt⟩
      have hix := ix_l p i c hc
      have hdr : p.drop i = c :: p.drop (i + 1) := by
        obtain ⟨h1, h2⟩ := List.getElem?_eq_some_iff.1 hc
        rw [List.drop_eq_getElem_cons h1, h2]
      have hst := special_step c (p.drop (i + 1))
      rw [← hdr, List.drop_drop] at hst
      have HST := hide hst
      have hlt' : (i : Int) < (p.length : Int) := by omega
      have hi0 : (0 : Int) ≤ (i : Int) := by omega
      have HC := hide (fun W => class_any (p.drop i) (by rw [List.length_drop]; omega) (by rw [List.length_drop]; omega) W)
      have t42 := u8_beq c 42
      have t63 := u8_beq c 63
      have t91 := u8_beq c 91
      have t92 := u8_beq c 92
      change ((c.toNat : Int) == 42) = _ at t42
      change ((c.toNat : Int) == 63) = _ at t63
      change ((c.toNat : Int) == 91) = _ at t91
      change ((c.toNat : Int) == 92) = _ at t92
      clear hdr hst hc
      by_cases h1 : c = 42
      · have HR : Hid (specialP p = true) := hide (by rw [HS.out, HST.out, if_pos (.inl h1)])
        rw [beq_iff_eq.2 h1] at t42
        clear h1 HST t63 t91 t92
        go_wp2_with fail
        go_ret
        exact ⟨ret_bool HR.out.symm, HB.out⟩
      rw [beq_eq_false_iff_ne.2 h1] at t42
      by_cases h2 : c = 63
      · have HR : Hid (specialP p = true) := hide (by rw [HS.out, HST.out, if_pos (.inr h2)])
        rw [beq_iff_eq.2 h2] at t63
        clear h1 h2 HST t91 t92
        go_wp2_with fail
        go_ret
        exact ⟨ret_bool HR.out.symm, HB.out⟩
      rw [beq_eq_false_iff_ne.2 h2] at t63
      have HST2 : Hid (specialP (p.drop i) = if c = 91 ∧ (classP (p.drop i)).isSome = true then true else if c = 92 then specialP (p.drop (i + 1 + 1)) else specialP (p.drop (i + 1))) := hide (by rw [HST.out, if_neg (by simp [h1, h2])])
      clear HST h1 h2
      by_cases h3 : c = 91
      · rw [beq_iff_eq.2 h3] at t91
        have n92 : ¬ c = 92 := by rw [h3]; decide
        rw [beq_eq_false_iff_ne.2 n92] at t92
        have HCS : Hid (∀ s n k, classP (p.drop i) = some (s, n, k) → 0 < k) := hide (fun s n k h => by
          unfold classP at h
          split at h
          · cases h
          · split at h
            · cases h
            · injection h with h; injection h with _ h; injection h with _ h; omega)
        obtain ⟨cp, hcp⟩ : ∃ cp, classP (p.drop i) = cp := ⟨_, rfl⟩
        rw [hcp] at HC HST2 HCS
        clear hcp
        cases cp with
        | none =>
          have HS2 : Hid (specialP p = specialP (p.drop (i + 1))) := hide (by rw [HS.out, HST2.out]; simp [n92])
          have HC2 : Hid (∀ W, Calls Tryd.prog 24 #[.string ⟨(p.drop i).toArray⟩] W fun e w' => e = .returned (.tuple #[.nilFunc, .int .i64 0]) ∧ Below W.heap.size W w') := hide HC.out
          clear HC HST2 HCS n92 h3 HS
          go_wp2_with fail
          rw [ext_from]
          refine (HC2.out _).mono ?_
          rintro e w2 ⟨rfl, hb⟩
          have HB2 := hide (below_more HB.out (Nat.le_refl _) hb)
          clear hb
          go_wp2_with fail
          go_roundw
          case rel => exact ⟨i + 1, by omega, by go_num, HB2, HS2⟩
          case measure => simp [intOf]; omega
        | some q =>
          obtain ⟨s, n, k⟩ := q
          have HR : Hid (specialP p = true) := hide (by rw [HS.out, HST2.out]; simp [h3])
          have hk : 0 < k := HCS.out s n k rfl
          have hkb : ((0 : Int) < (k : Int)) := by omega
          have HC2 : Hid (∀ W, Calls Tryd.prog 24 #[.string ⟨(p.drop i).toArray⟩] W fun e w' => ∃ g h, e = .returned (.tuple #[.func (.func 36) #[] #[.pointer (some ⟨g, 0, none⟩), .pointer (some ⟨h, 0, none⟩)], .int .i64 k]) ∧ ClsAt w' g h s n ∧ Below W.heap.size W w') := hide HC.out
          clear HC HST2 HCS n92 h3 HS
          go_wp2_with fail
          rw [ext_from]
          refine (HC2.out _).mono ?_
          rintro e w2 ⟨g, h, rfl, _, hb⟩
          have HB2 := hide (below_more HB.out (Nat.le_refl _) hb)
          clear hb
          go_wp2_with fail
          go_ret
          exact ⟨ret_bool HR.out.symm, HB2.out⟩
      rw [beq_eq_false_iff_ne.2 h3] at t91
      by_cases h4 : c = 92
      · have HS2 : Hid (specialP p = specialP (p.drop (i + 2))) := hide (by rw [HS.out, HST2.out, if_neg (fun h => h3 h.1), if_pos h4])
        rw [beq_iff_eq.2 h4] at t92
        clear HC HST2 h3 h4 HS
        go_wp2_with fail
        go_roundw
        case rel => exact ⟨i + 2, by omega, by go_num, HB, HS2⟩
        case measure => simp [intOf]; omega
      · have HS2 : Hid (specialP p = specialP (p.drop (i + 1))) := hide (by rw [HS.out, HST2.out, if_neg (fun h => h3 h.1), if_neg h4])
        rw [beq_eq_false_iff_ne.2 h4] at t92
        clear HC HST2 h3 h4 HS
        go_wp2_with fail
        go_roundw
        case rel => exact ⟨i + 1, by omega, by go_num, HB, HS2⟩
        case measure => simp [intOf]; omega
    · have HR : Hid (specialP p = false) := hide (by rw [HS.out, List.drop_of_length_le (by omega)]; rfl)
      have hlt' : ¬ (i : Int) < (p.length : Int) := by omega
      clear HS
      go_wp2_with fail
      go_ret
      exact ⟨ret_bool HR.out.symm, HB.out⟩
end Go.Proofs.YtbphpijehfcbkaaDoor
