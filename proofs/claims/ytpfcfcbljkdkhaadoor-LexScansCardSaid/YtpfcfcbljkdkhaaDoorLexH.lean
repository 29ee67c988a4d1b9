/- The contract of lex.Bare. -/
import Derived.Test.YtpfcfcbljkdkhaaDoorLexG
import Derived.Test.YtpfcfcbljkdkhaaDoorBuildL
namespace Go.Proofs.YtpfcfcbljkdkhaaDoor
open Go.RowKit
set_option linter.unusedVariables false
theorem bcells (l : LB) : Lib.byteCells l = bv l := by unfold Lib.byteCells bv; rfl
theorem bare_q (c : UInt8) (r : LB) (h : c = 39 ∨ c = 34) : bareP (c :: r) = ((bareP r).1, true) := by
  cases r with
  | nil => simp [bareP, h]
  | cons d t => simp [bareP, h]
theorem bare_b (d : UInt8) (t : LB) : bareP (92 :: d :: t) = (d :: (bareP t).1, true) := by simp [bareP]
theorem bare_b0 : bareP [92] = ([], true) := by simp [bareP]
theorem bare_c (c : UInt8) (r : LB) (h : ¬ (c = 39 ∨ c = 34)) (h2 : ¬ c = 92) : bareP (c :: r) = (c :: (bareP r).1, (bareP r).2) := by
  cases r with
  | nil => simp [bareP, h, h2]
  | cons d t => simp [bareP, h, h2]
theorem bare_len : ∀ (n : Nat) (p : LB), p.length ≤ n → (bareP p).1.length ≤ p.length
  | _, [], _ => Nat.le_refl _
  | 0, c :: r, h => by simp at h
  | n + 1, c :: r, h => by
    have h1 := bare_len n r (by simpa using h)
    by_cases a : c = 39 ∨ c = 34
    · rw [bare_q c r a]; simp; omega
    · by_cases b : c = 92
      · subst b
        cases r with
        | nil => rw [bare_b0]; simp
        | cons d t =>
          have h2 := bare_len n t (by simp at h; omega)
          rw [bare_b]; simp; omega
      · rw [bare_c c r a b]; simp; omega
set_option maxRecDepth 100000 in
set_option maxHeartbeats 8000000 in
theorem bare_any (p : LB) (w : World) (hp : p.length ≤ 100000) : Calls Tryd.prog 11 #[.string ⟨p.toArray⟩] w fun e w' => e = .returned (.tuple #[.string ⟨(bareP p).1.toArray⟩, .bool (bareP p).2]) ∧ Below w.heap.size w w' := by
  obtain ⟨R, hR⟩ : ∃ R, bareP p = R := ⟨_, rfl⟩
  have hRl : R.1.length ≤ p.length := by rw [← hR]; exact bare_len p.length p (Nat.le_refl _)
  have hR0 : R = ([] ++ (bareP (p.drop 0)).1, false || (bareP (p.drop 0)).2) := by rw [← hR]; simp
  rw [hR]
  have HR0 := hide hR0
  clear hR hR0
  obtain ⟨b, hb⟩ : ∃ b, w.heap.size = b := ⟨_, rfl⟩
  have hB0 : Below b w (w.alloc (.cells #[.pointer none, .slice none 0 0] 50)) := by rw [← hb]; exact (Below.refl _ _).alloc (Nat.le_refl _) _
  have hI0 : Lib.IsBuilder 50 5 b b (bv []) (w.alloc (.cells #[.pointer none, .slice none 0 0] 50)) := .inl ⟨Nat.le_refl _, .slice none 0 0, by
    have := Blk.new w 50 #[.pointer none, .slice none 0 0]
    rw [← hb]; exact this, World.ownsRow_nil _ _ _ _, by simp [Value.ownBlock]⟩
  have HBE := hide hb
  have HB0 := hide hB0
  have HI0 := hide hI0
  clear hb hB0 hI0
  go_enter Tryd.func11, Tryd.ntmps11
  go_wp2_with fail
  rw [HBE.out]
  obtain ⟨W0, hW0⟩ : ∃ W, w.alloc (.cells #[.pointer none, .slice none 0 0] 50) = W := ⟨_, rfl⟩
  rw [hW0] at HB0 HI0 ⊢
  clear hW0
  go_loopw [5, 6] (fun u5 u6 wx => ∃ (i : Nat) (done : LB) (q : Bool), i ≤ p.length + 1 ∧ done.length ≤ i ∧ u5 = .bool q ∧ u6 = .int .i64 i ∧ Hid (Below b w wx) ∧ Hid (Lib.IsBuilder 50 5 b b (bv done) wx) ∧ Hid (R = (done ++ (bareP (p.drop i)).1, q || (bareP (p.drop i)).2))) (fun _ u6 _ => p.length + 1 - (intOf u6).toNat)
  case atStart => exact ⟨0, [], false, Nat.zero_le _, Nat.le_refl _, rfl, rfl, HB0, HI0, HR0⟩
  case round =>
    clear HB0 HI0 HR0
    obtain ⟨i, done, q, hi, hdl, rfl, rfl, HB, HI, HU⟩ := hrel
    have hbw : b ≤ wr.heap.size := by
      rcases HI.out with h | h
      · exact Nat.le_of_lt h.lt
      · exact Nat.le_of_lt h.lt
    by_cases hlt : i < p.length
    · have hk1 : (i : Int) < (p.length : Int) := by omega
      have hix := ix_l p i (p.getD i 0) (getD_some hlt)
      have hdr : p.drop i = p.getD i 0 :: p.drop (i + 1) := by
        rw [List.drop_eq_getElem_cons hlt]
        simp [List.getD_eq_getElem?_getD, hlt]
      have hU := HU.out
      rw [hdr] at hU
      have t39 := u8_beq (p.getD i 0) 39
      have t34 := u8_beq (p.getD i 0) 34
      have t92 := u8_beq (p.getD i 0) 92
      change (((p.getD i 0).toNat : Int) == 39) = _ at t39
      change (((p.getD i 0).toNat : Int) == 34) = _ at t34
      change (((p.getD i 0).toNat : Int) == 92) = _ at t92
      clear HU hdr
      generalize p.getD i 0 = c at *
      have HUU := hide hU
      clear hU
      by_cases h1 : c = 39 ∨ c = 34
      · have HU2 : Hid (R = (done ++ (bareP (p.drop (i + 1))).1, true || (bareP (p.drop (i + 1))).2)) := hide (by rw [HUU.out, bare_q c _ h1]; simp)
        have hts : ((c.toNat : Int) == 39) = true ∨ (((c.toNat : Int) == 39) = false ∧ ((c.toNat : Int) == 34) = true) := by
          rcases h1 with rfl | rfl
          · exact .inl (by decide)
          · exact .inr ⟨by decide, by decide⟩
        clear HUU h1 t39 t34 t92
        rcases hts with hts | ⟨hts1, hts2⟩ <;>
        · go_wp2_with fail
          go_roundw
          case rel => exact ⟨i + 1, done, true, by omega, by omega, rfl, by go_num, HB, HI, HU2⟩
          case measure => simp [intOf]; omega
      · have hn39 : ((c.toNat : Int) == 39) = false := by rw [t39, beq_eq_false_iff_ne]; exact fun h => h1 (.inl h)
        have hn34 : ((c.toNat : Int) == 34) = false := by rw [t34, beq_eq_false_iff_ne]; exact fun h => h1 (.inr h)
        clear t39 t34
        by_cases h92 : c = 92
        · have ht92 : ((c.toNat : Int) == 92) = true := by rw [t92, beq_iff_eq]; exact h92
          clear t92
          have hw1 : IntKind.i64.wrap ((i : Int) + 1) = (i : Int) + 1 := by simp [IntKind.wrap, IntKind.bits, IntKind.signed]; omega
          by_cases h2 : i + 1 < p.length
          · have hk2 : (i : Int) + 1 < (p.length : Int) := by omega
            have hix2 : ∀ W, (Instr.index 9 (.string ⟨p.toArray⟩) (.int .i64 ((i : Int) + 1))).run Tryd.prog W = .ok (.int .u8 ((p.getD (i + 1) 0).toNat : Int)) W := by
              have := ix_l p (i + 1) (p.getD (i + 1) 0) (getD_some h2)
              simpa using this
            have hdr2 : p.drop (i + 1) = p.getD (i + 1) 0 :: p.drop (i + 2) := by
              rw [List.drop_eq_getElem_cons h2]
              simp [List.getD_eq_getElem?_getD, h2]
            have hU2 : R = ((done ++ [p.getD (i + 1) 0]) ++ (bareP (p.drop (i + 2))).1, true || (bareP (p.drop (i + 2))).2) := by
              rw [HUU.out, h92, hdr2, bare_b]; simp
            generalize p.getD (i + 1) 0 = d at *
            have HU2 := hide hU2
            clear HUU h92 hdr2 hU2 h1
            have hK3 : (i : Int) + 1 + 1 = ((i + 2 : Nat) : Int) := by omega
            have HK3 := hide hK3
            clear hK3
            go_wp2_with fail
            refine (writeByte_any b b (bv done) (d.toNat : Int) _ HI.out (by rw [bv_length]; omega) hbw).mono ?_
            rintro e w3 ⟨rfl, hI3, hb3⟩
            have HI3 : Hid (Lib.IsBuilder 50 5 b b (bv (done ++ [d])) w3) := hide (by
              have : bv (done ++ [d]) = bv done ++ [.int .u8 (d.toNat : Int)] := by simp [bv]
              rw [this]
              exact .inr hI3)
            have HB3 := hide (HB.out.trans hb3)
            clear hI3 hb3
            go_wp2_with fail
            go_roundw
            case rel => exact ⟨i + 2, done ++ [d], true, by omega, by simp; omega, rfl, by go_num, HB3, HI3, HU2⟩
            case measure => simp [intOf]; omega
          · have hk2 : ¬ (i : Int) + 1 < (p.length : Int) := by omega
            have HU2 : Hid (R = (done ++ (bareP (p.drop (i + 2))).1, true || (bareP (p.drop (i + 2))).2)) := hide (by
              rw [HUU.out, h92, List.drop_of_length_le (by omega : p.length ≤ i + 1), List.drop_of_length_le (by omega : p.length ≤ i + 2), bare_b0]
              simp [bareP])
            clear HUU h92 h1
            go_wp2_with fail
            go_roundw
            case rel => exact ⟨i + 2, done, true, by omega, by omega, rfl, by go_num, HB, HI, HU2⟩
            case measure => simp [intOf]; omega
        · have ht92 : ((c.toNat : Int) == 92) = false := by rw [t92, beq_eq_false_iff_ne]; exact h92
          have HU2 : Hid (R = ((done ++ [c]) ++ (bareP (p.drop (i + 1))).1, q || (bareP (p.drop (i + 1))).2)) := hide (by rw [HUU.out, bare_c c _ h1 h92]; simp)
          clear HUU h92 h1 t92
          go_wp2_with fail
          refine (writeByte_any b b (bv done) (c.toNat : Int) _ HI.out (by rw [bv_length]; omega) hbw).mono ?_
          rintro e w3 ⟨rfl, hI3, hb3⟩
          have HI3 : Hid (Lib.IsBuilder 50 5 b b (bv (done ++ [c])) w3) := hide (by
            have : bv (done ++ [c]) = bv done ++ [.int .u8 (c.toNat : Int)] := by simp [bv]
            rw [this]
            exact .inr hI3)
          have HB3 := hide (HB.out.trans hb3)
          clear hI3 hb3
          go_wp2_with fail
          go_roundw
          case rel => exact ⟨i + 1, done ++ [c], q, by omega, by simp; omega, rfl, by go_num, HB3, HI3, HU2⟩
          case measure => simp [intOf]; omega
    · have hk1 : ¬ (i : Int) < (p.length : Int) := by omega
      have hfin : R = (done, q) := by rw [HU.out, List.drop_of_length_le (by omega)]; simp [bareP]
      have HI2 : Hid (Lib.IsBuilder 50 5 b b (Lib.byteCells R.1) wr) := hide (by rw [hfin, bcells]; exact HI.out)
      have HQ : Hid (R.2 = q) := hide (by rw [hfin])
      clear HU hfin
      go_wp2_with fail
      refine (Any.Builder_String_any Tryd.lays169 Tryd.Builder_Extra_169 b b R.1 wr HI2.out hbw).mono ?_
      rintro e w2 ⟨rfl, hb2⟩
      have HB2 := hide (HB.out.trans hb2)
      clear hb2
      go_wp2_with fail
      go_ret2
      exact ⟨by rw [HQ.out]; rfl, by rw [HBE.out]; exact HB2.out⟩
end Go.Proofs.YtpfcfcbljkdkhaaDoor
