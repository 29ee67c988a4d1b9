/- Contracts of glob.Special, Quote, Any. -/
import Derived.Test.YtnongbbhpkmdjaaGsB
namespace Go.Proofs.Ytnongbbhpkmdjaa
open Go.RowKit
set_option linter.unusedVariables false
def specialP : Bs → Bool
  | [] => false
  | [c] => c == 42 || c == 63 || (c == 91 && (classP [c]).isSome)
  | c :: d :: t => if c = 42 ∨ c = 63 then true else if c = 91 ∧ (classP (c :: d :: t)).isSome = true then true else if c = 92 then specialP t else specialP (d :: t)
theorem special_step (c : UInt8) (r : Bs) : specialP (c :: r) = if c = 42 ∨ c = 63 then true else if c = 91 ∧ (classP (c :: r)).isSome = true then true else if c = 92 then specialP (r.drop 1) else specialP r := by
  cases r with
  | nil =>
    show (c == 42 || c == 63 || (c == 91 && (classP [c]).isSome)) = _
    by_cases h1 : c = 42
    · subst h1; rfl
    by_cases h2 : c = 63
    · subst h2; rfl
    rw [if_neg (by simp [h1, h2])]
    have e1 : (c == 42) = false := beq_eq_false_iff_ne.2 h1
    have e2 : (c == 63) = false := beq_eq_false_iff_ne.2 h2
    rw [e1, e2]
    by_cases h3 : c = 91
    · subst h3
      cases hc : (classP [91]).isSome
      · rw [if_neg (by simp)]; rfl
      · rw [if_pos ⟨rfl, rfl⟩]; rfl
    · have e3 : (c == 91) = false := beq_eq_false_iff_ne.2 h3
      rw [e3, if_neg (fun h => h3 h.1)]
      split <;> rfl
  | cons d t => rw [specialP]; rfl
set_option maxRecDepth 100000 in
set_option maxHeartbeats 4000000 in
theorem special_any (p : Bs) (hp : p.length ≤ 100000) (w : World) : Calls Try.prog 37 #[.string ⟨p.toArray⟩] w fun e w' => e = .returned (.bool (specialP p)) ∧ Below w.heap.size w w' := by
  go_enter Try.func37, Try.ntmps37
  go_wp2_with fail
  go_loopw [3] (fun u3 wx => ∃ i : Nat, i ≤ p.length + 1 ∧ u3 = .int .i64 i ∧ Hid (Below w.heap.size w wx) ∧ Hid (specialP p = specialP (p.drop i))) (fun u3 _ => p.length + 1 - (intOf u3).toNat)
  case atStart => exact ⟨0, Nat.zero_le _, rfl, hide (Below.refl _ _), hide rfl⟩
  case round =>
    obtain ⟨i, hi, rfl, HB, HS⟩ := hrel
    by_cases hlt : i < p.length
    · obtain ⟨c, hc⟩ : ∃ c, p[i]? = some c := ⟨_, List.getElem?_eq_getElem hlt⟩
      have hix := ix_l p i c hc
      have hdr : p.drop i = c :: p.drop (i + 1) := by
        obtain ⟨h1, h2⟩ := List.getElem?_eq_some_iff.1 hc
        rw [List.drop_eq_getElem_cons h1, h2]
      have hst := special_step c (p.drop (i + 1))
      rw [← hdr, List.drop_drop] at hst
      have HST := hide hst
      have hlt' : (i : Int) < (p.length : Int) := by omega
      have hi0 : (0 : Int) ≤ (i : Int) := by omega
      have HC := hide (fun W => class_any (p.drop i) (by rw [List.length_drop]; omega) (by rw [List.length_drop]; omega) W)
      have t42 := u8_beq c 42
      have t63 := u8_beq c 63
      have t91 := u8_beq c 91
      have t92 := u8_beq c 92
      change ((c.toNat : Int) == 42) = _ at t42
      change ((c.toNat : Int) == 63) = _ at t63
      change ((c.toNat : Int) == 91) = _ at t91
      change ((c.toNat : Int) == 92) = _ at t92
      clear hdr hst hc
      by_cases h1 : c = 42
      · have HR : Hid (specialP p = true) := hide (by rw [HS.out, HST.out, if_pos (.inl h1)])
        rw [beq_iff_eq.2 h1] at t42
        clear h1 HST t63 t91 t92
        go_wp2_with fail
        go_ret
        exact ⟨ret_bool HR.out.symm, HB.out⟩
      rw [beq_eq_false_iff_ne.2 h1] at t42
      by_cases h2 : c = 63
      · have HR : Hid (specialP p = true) := hide (by rw [HS.out, HST.out, if_pos (.inr h2)])
        rw [beq_iff_eq.2 h2] at t63
        clear h1 h2 HST t91 t92
        go_wp2_with fail
        go_ret
        exact ⟨ret_bool HR.out.symm, HB.out⟩
      rw [beq_eq_false_iff_ne.2 h2] at t63
      have HST2 : Hid (specialP (p.drop i) = if c = 91 ∧ (classP (p.drop i)).isSome = true then true else if c = 92 then specialP (p.drop (i + 1 + 1)) else specialP (p.drop (i + 1))) := hide (by rw [HST.out, if_neg (by simp [h1, h2])])
      clear HST h1 h2
      by_cases h3 : c = 91
      · rw [beq_iff_eq.2 h3] at t91
        have n92 : ¬ c = 92 := by rw [h3]; decide
        rw [beq_eq_false_iff_ne.2 n92] at t92
        have HCS : Hid (∀ s n k, classP (p.drop i) = some (s, n, k) → 0 < k) := hide (fun s n k h => by
          unfold classP at h
          split at h
          · cases h
          · split at h
            · cases h
            · injection h with h; injection h with _ h; injection h with _ h; omega)
        obtain ⟨cp, hcp⟩ : ∃ cp, classP (p.drop i) = cp := ⟨_, rfl⟩
        rw [hcp] at HC HST2 HCS
        clear hcp
        cases cp with
        | none =>
          have HS2 : Hid (specialP p = specialP (p.drop (i + 1))) := hide (by rw [HS.out, HST2.out]; simp [n92])
          have HC2 : Hid (∀ W, Calls Try.prog 47 #[.string ⟨(p.drop i).toArray⟩] W fun e w' => e = .returned (.tuple #[.nilFunc, .int .i64 0]) ∧ Below W.heap.size W w') := hide HC.out
          clear HC HST2 HCS n92 h3 HS
          go_wp2_with fail
          rw [ext_from]
          refine (HC2.out _).mono ?_
          rintro e w2 ⟨rfl, hb⟩
          have HB2 := hide (below_more HB.out (Nat.le_refl _) hb)
          clear hb
          go_wp2_with fail
          go_roundw
          case rel => exact ⟨i + 1, by omega, by go_num, HB2, HS2⟩
          case measure => simp [intOf]; omega
        | some q =>
          obtain ⟨s, n, k⟩ := q
          have HR : Hid (specialP p = true) := hide (by rw [HS.out, HST2.out]; simp [h3])
          have hk : 0 < k := HCS.out s n k rfl
          have hkb : ((0 : Int) < (k : Int)) := by omega
          have HC2 : Hid (∀ W, Calls Try.prog 47 #[.string ⟨(p.drop i).toArray⟩] W fun e w' => ∃ g h, e = .returned (.tuple #[.func (.func 54) #[] #[.pointer (some ⟨g, 0, none⟩), .pointer (some ⟨h, 0, none⟩)], .int .i64 k]) ∧ ClsAt w' g h s n ∧ Below W.heap.size W w') := hide HC.out
          clear HC HST2 HCS n92 h3 HS
          go_wp2_with fail
          rw [ext_from]
          refine (HC2.out _).mono ?_
          rintro e w2 ⟨g, h, rfl, _, hb⟩
          have HB2 := hide (below_more HB.out (Nat.le_refl _) hb)
          clear hb
          go_wp2_with fail
          go_ret
          exact ⟨ret_bool HR.out.symm, HB2.out⟩
      rw [beq_eq_false_iff_ne.2 h3] at t91
      by_cases h4 : c = 92
      · have HS2 : Hid (specialP p = specialP (p.drop (i + 2))) := hide (by rw [HS.out, HST2.out, if_neg (fun h => h3 h.1), if_pos h4])
        rw [beq_iff_eq.2 h4] at t92
        clear HC HST2 h3 h4 HS
        go_wp2_with fail
        go_roundw
        case rel => exact ⟨i + 2, by omega, by go_num, HB, HS2⟩
        case measure => simp [intOf]; omega
      · have HS2 : Hid (specialP p = specialP (p.drop (i + 1))) := hide (by rw [HS.out, HST2.out, if_neg (fun h => h3 h.1), if_neg h4])
        rw [beq_eq_false_iff_ne.2 h4] at t92
        clear HC HST2 h3 h4 HS
        go_wp2_with fail
        go_roundw
        case rel => exact ⟨i + 1, by omega, by go_num, HB, HS2⟩
        case measure => simp [intOf]; omega
    · have HR : Hid (specialP p = false) := hide (by rw [HS.out, List.drop_of_length_le (by omega)]; rfl)
      have hlt' : ¬ (i : Int) < (p.length : Int) := by omega
      clear HS
      go_wp2_with fail
      go_ret
      exact ⟨ret_bool HR.out.symm, HB.out⟩
def quoteC (c : UInt8) : Bs := if c = 42 ∨ c = 63 ∨ c = 91 ∨ c = 92 then [92, c] else [c]
def quoteP (s : Bs) : Bs := s.flatMap quoteC
theorem quote_idx (c : UInt8) : (0 ≤ Lib.indexByte [42, 63, 91, 92] c) ↔ (c = 42 ∨ c = 63 ∨ c = 91 ∨ c = 92) := by
  by_cases h1 : c = 42
  · subst h1; decide
  by_cases h2 : c = 63
  · subst h2; decide
  by_cases h3 : c = 91
  · subst h3; decide
  by_cases h4 : c = 92
  · subst h4; decide
  have e1 : ((42 : UInt8) == c) = false := beq_eq_false_iff_ne.2 (Ne.symm h1)
  have e2 : ((63 : UInt8) == c) = false := beq_eq_false_iff_ne.2 (Ne.symm h2)
  have e3 : ((91 : UInt8) == c) = false := beq_eq_false_iff_ne.2 (Ne.symm h3)
  have e4 : ((92 : UInt8) == c) = false := beq_eq_false_iff_ne.2 (Ne.symm h4)
  have : Lib.indexByte [42, 63, 91, 92] c = -1 := by simp [Lib.indexByte, e1, e2, e3, e4]
  rw [this]
  simp [h1, h2, h3, h4]
theorem quote_len (s : Bs) : (quoteP s).length ≤ 2 * s.length := by
  unfold quoteP
  induction s with
  | nil => simp
  | cons x r ih =>
    rw [List.flatMap_cons, List.length_append, List.length_cons]
    have : (quoteC x).length ≤ 2 := by unfold quoteC; split <;> simp
    omega
theorem bcells (l : Bs) : Lib.byteCells l = bv l := by unfold Lib.byteCells bv; rfl
set_option maxRecDepth 100000 in
set_option maxHeartbeats 4000000 in
theorem quote_any (s : Bs) (hs : s.length ≤ 100000) (w : World) : Calls Try.prog 35 #[.string ⟨s.toArray⟩] w fun e w' => e = .returned (.string ⟨(quoteP s).toArray⟩) ∧ Below w.heap.size w w' := by
  go_enter Try.func35, Try.ntmps35
  go_wp2_with fail
  obtain ⟨b, hb⟩ : ∃ b, w.heap.size = b := ⟨_, rfl⟩
  obtain ⟨W0, hW0⟩ : ∃ W, w.alloc (.cells #[.pointer none, .slice none 0 0] 54) = W := ⟨_, rfl⟩
  have hB0 : Below b w W0 := by rw [← hW0, ← hb]; exact (Below.refl _ _).alloc (Nat.le_refl _) _
  have hI0 : Lib.IsBuilder 54 5 b b (bv []) W0 := .inl ⟨Nat.le_refl _, .slice none 0 0, by
    have := Blk.new w 54 #[.pointer none, .slice none 0 0]
    rw [← hW0, ← hb]; exact this, World.ownsRow_nil _ _ _ _, by simp [Value.ownBlock]⟩
  have HBB := hide hb
  rw [hW0, hb]
  have HB0 := hide hB0
  have HI0 := hide hI0
  clear hW0 hb hB0 hI0
  go_loopw [7] (fun u7 wx => ∃ i : Nat, i ≤ s.length ∧ u7 = .int .i64 i ∧ Hid (Below b w wx) ∧ Hid (Lib.IsBuilder 54 5 b b (bv (quoteP (s.take i))) wx)) (fun u7 _ => s.length - (intOf u7).toNat)
  case atStart => exact ⟨0, Nat.zero_le _, rfl, HB0, HI0⟩
  case round =>
    clear HB0 HI0
    obtain ⟨i, hi, rfl, HB, HI⟩ := hrel
    by_cases hlt : i < s.length
    · obtain ⟨c, hc⟩ : ∃ c, s[i]? = some c := ⟨_, List.getElem?_eq_getElem hlt⟩
      have hix := ix_l s i c hc
      have htk : s.take (i + 1) = s.take i ++ [c] := by
        obtain ⟨h1, h2⟩ := List.getElem?_eq_some_iff.1 hc
        rw [List.take_succ_eq_append_getElem h1, h2]
      have HQ : Hid (quoteP (s.take (i + 1)) = quoteP (s.take i) ++ quoteC c) := hide (by rw [htk]; simp [quoteP])
      have hql := quote_len (s.take i)
      have htl : (s.take i).length ≤ s.length := by simp; omega
      have hlt' : (i : Int) < (s.length : Int) := by omega
      have HX := hide (fun W => ixb_l [42, 63, 91, 92] c W)
      have hqi := quote_idx c
      obtain ⟨z, hz⟩ : ∃ z, Lib.indexByte [42, 63, 91, 92] c = z := ⟨_, rfl⟩
      rw [hz] at HX hqi
      generalize quoteP (s.take i) = done at *
      clear hz hc htk
      have hbw : b ≤ wr.heap.size := by
        have := HI.out
        rcases this with h | h
        · exact Nat.le_of_lt h.lt
        · exact Nat.le_of_lt h.lt
      by_cases hsp : 0 ≤ z
      · have HQ2 : Hid (quoteP (s.take (i + 1)) = done ++ [92, c]) := hide (by rw [HQ.out]; unfold quoteC; rw [if_pos (hqi.1 hsp)])
        clear hqi HQ
        go_wp2_with fail
        refine (HX.out _).mono ?_
        rintro e w1 ⟨rfl, rfl⟩
        go_wp2_with fail
        refine (writeByte_any b b (bv done) 92 _ HI.out (by rw [bv_length]; omega) hbw).mono ?_
        rintro e w2 ⟨rfl, hI2, hb2⟩
        have HI2 := hide hI2
        have HB2 := hide (HB.out.trans hb2)
        have hbw2 : b ≤ w2.heap.size := Nat.le_of_lt hI2.lt
        clear hI2 hb2
        go_wp2_with fail
        refine (writeByte_any b b _ (c.toNat : Int) _ (.inr HI2.out) (by rw [List.length_append, bv_length]; simp; omega) hbw2).mono ?_
        rintro e w3 ⟨rfl, hI3, hb3⟩
        have HI3 : Hid (Lib.IsBuilder 54 5 b b (bv (quoteP (s.take (i + 1)))) w3) := hide (by
          rw [HQ2.out]
          have : bv (done ++ [92, c]) = bv done ++ [.int .u8 92] ++ [.int .u8 (c.toNat : Int)] := by simp [bv]
          rw [this]
          exact .inr hI3)
        have HB3 := hide (HB2.out.trans hb3)
        clear hI3 hb3
        go_wp2_with fail
        go_roundw
        case rel => exact ⟨i + 1, by omega, by go_num, HB3, HI3⟩
        case measure => simp [intOf]; omega
      · have HQ2 : Hid (quoteP (s.take (i + 1)) = done ++ [c]) := hide (by rw [HQ.out]; unfold quoteC; rw [if_neg (fun h => hsp (hqi.2 h))])
        clear hqi HQ
        go_wp2_with fail
        refine (HX.out _).mono ?_
        rintro e w1 ⟨rfl, rfl⟩
        go_wp2_with fail
        refine (writeByte_any b b (bv done) (c.toNat : Int) _ HI.out (by rw [bv_length]; omega) hbw).mono ?_
        rintro e w3 ⟨rfl, hI3, hb3⟩
        have HI3 : Hid (Lib.IsBuilder 54 5 b b (bv (quoteP (s.take (i + 1)))) w3) := hide (by
          rw [HQ2.out]
          have : bv (done ++ [c]) = bv done ++ [.int .u8 (c.toNat : Int)] := by simp [bv]
          rw [this]
          exact .inr hI3)
        have HB3 := hide (HB.out.trans hb3)
        clear hI3 hb3
        go_wp2_with fail
        go_roundw
        case rel => exact ⟨i + 1, by omega, by go_num, HB3, HI3⟩
        case measure => simp [intOf]; omega
    · obtain rfl : i = s.length := by omega
      have hlt' : ¬ (s.length : Int) < (s.length : Int) := by omega
      have HI2 : Hid (Lib.IsBuilder 54 5 b b (Lib.byteCells (quoteP s)) wr) := hide (by
        have := HI.out
        rw [List.take_length] at this
        rw [bcells]; exact this)
      have hbw : b ≤ wr.heap.size := by
        rcases HI.out with h | h
        · exact Nat.le_of_lt h.lt
        · exact Nat.le_of_lt h.lt
      go_wp2_with fail
      refine (Any.Builder_String_any Try.lays169 Try.Builder_Extra_169 b b (quoteP s) wr HI2.out hbw).mono ?_
      rintro e w2 ⟨rfl, hb2⟩
      have HB2 := hide (HB.out.trans hb2)
      clear hb2
      go_wp2_with fail
      go_ret
      exact ⟨rfl, by rw [HBB.out]; exact HB2.out⟩
end Go.Proofs.Ytnongbbhpkmdjaa
