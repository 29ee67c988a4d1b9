/- The contract of expand.Plain. -/
import Derived.Test.YtbphpijehfcbkaaDoorExP
import Derived.Test.YtbphpijehfcbkaaDoorExZ
namespace Go.Proofs.YtbphpijehfcbkaaDoor
open Go.RowKit
set_option linter.unusedVariables false
theorem bcells (l : Bs) : Lib.byteCells l = bv l := by unfold Lib.byteCells bv; rfl
theorem unq_len : ∀ (n : Nat) (p : Bs), p.length ≤ n → (unq p).length ≤ p.length
  | _, [], _ => Nat.le_refl _
  | _, [c], _ => Nat.le_refl _
  | 0, c :: d :: t, h => by simp at h
  | n + 1, c :: d :: t, h => by
    have h1 := unq_len n t (by simp at h; omega)
    have h2 := unq_len n (d :: t) (by simp at h ⊢; omega)
    unfold unq
    split <;> simp at * <;> omega
theorem plain_no (p : Bs) (hp : p.length ≤ 100000) (hs : specialP p = true) (w : World) : Calls Tryd.prog 5 #[.string ⟨p.toArray⟩] w fun e w' => e = .returned (.tuple #[.string ⟨#[]⟩, .bool false]) ∧ Below w.heap.size w w' := by
  have X := hide (fun W => special_any p hp W)
  rw [hs] at X
  clear hs
  go_enter Tryd.func5, Tryd.ntmps5
  go_wp2_with fail
  refine (X.out _).mono ?_
  rintro e w1 ⟨rfl, hb⟩
  have HB := hide hb
  clear hb
  go_wp2_with fail
  refine bodyPost_ret (v := .tuple #[.string ⟨#[]⟩, .bool false]) (by simp only [results, Tryd.results5]; go_simp) rfl ⟨rfl, HB.out⟩
set_option maxRecDepth 100000 in
set_option maxHeartbeats 4000000 in
theorem plain_yes (p : Bs) (hp : p.length ≤ 100000) (hs : specialP p = false) (w : World) : Calls Tryd.prog 5 #[.string ⟨p.toArray⟩] w fun e w' => e = .returned (.tuple #[.string ⟨(unq p).toArray⟩, .bool true]) ∧ Below w.heap.size w w' := by
  have X := hide (fun W => special_any p hp W)
  rw [hs] at X
  clear hs
  go_enter Tryd.func5, Tryd.ntmps5
  go_wp2_with fail
  refine (X.out _).mono ?_
  rintro e w1 ⟨rfl, hb1⟩
  have HB1 := hide hb1
  clear hb1
  go_wp2_with fail
  obtain ⟨b, hb⟩ : ∃ b, w1.heap.size = b := ⟨_, rfl⟩
  obtain ⟨W0, hW0⟩ : ∃ W, w1.alloc (.cells #[.pointer none, .slice none 0 0] 36) = W := ⟨_, rfl⟩
  have hB0 : Below b w1 W0 := by rw [← hW0, ← hb]; exact (Below.refl _ _).alloc (Nat.le_refl _) _
  have hI0 : Lib.IsBuilder 36 5 b b (bv []) W0 := .inl ⟨Nat.le_refl _, .slice none 0 0, by
    have := Blk.new w1 36 #[.pointer none, .slice none 0 0]
    rw [← hW0, ← hb]; exact this, World.ownsRow_nil _ _ _ _, by simp [Value.ownBlock]⟩
  have HBB := hide hb
  rw [hW0, hb]
  have HB0 := hide hB0
  have HI0 := hide hI0
  clear hW0 hb hB0 hI0
  go_loopw [5] (fun u5 wx => ∃ (i : Nat) (done : Bs), i ≤ p.length ∧ done.length ≤ i ∧ u5 = .int .i64 i ∧ Hid (Below b w1 wx) ∧ Hid (Lib.IsBuilder 36 5 b b (bv done) wx) ∧ Hid (unq p = done ++ unq (p.drop i))) (fun u5 _ => p.length - (intOf u5).toNat)
  case atStart => exact ⟨0, [], Nat.zero_le _, Nat.le_refl _, rfl, HB0, HI0, hide rfl⟩
  case round =>
    clear HB0 HI0
    obtain ⟨i, done, hi, hdl, rfl, HB, HI, HU⟩ := hrel
    have kw0 : IntKind.i64.wrap ((i : Int) + 1) = (i : Int) + 1 := by simp [IntKind.wrap, IntKind.bits, IntKind.signed]; omega
    have hbw : b ≤ wr.heap.size := by
      rcases HI.out with h | h
      · exact Nat.le_of_lt h.lt
      · exact Nat.le_of_lt h.lt
    by_cases hlt : i < p.length
    · obtain ⟨c, hc⟩ : ∃ c, p[i]? = some c := ⟨_, List.getElem?_eq_getElem hlt⟩
      have hix := ix_l p i c hc
      have hdr : p.drop i = c :: p.drop (i + 1) := by
        obtain ⟨h1, h2⟩ := List.getElem?_eq_some_iff.1 hc
        rw [List.drop_eq_getElem_cons h1, h2]
      have hlt' : (i : Int) < (p.length : Int) := by omega
      have t92 := u8_beq c 92
      change ((c.toNat : Int) == 92) = _ at t92
      by_cases h2 : c = 92 ∧ i + 1 < p.length
      · obtain ⟨d, hd⟩ : ∃ d, p[i + 1]? = some d := ⟨_, List.getElem?_eq_getElem h2.2⟩
        have hix2 : ∀ W, (Instr.index 9 (.string ⟨p.toArray⟩) (.int .i64 ((i : Int) + 1))).run Tryd.prog W = .ok (.int .u8 (d.toNat : Int)) W := fun W => by
          have := ix_l p (i + 1) d hd W
          push_cast at this
          exact this
        have kw1 : IntKind.i64.wrap ((i : Int) + 1) = (i : Int) + 1 := by simp [IntKind.wrap, IntKind.bits, IntKind.signed]; omega
        have hdr2 : p.drop (i + 1) = d :: p.drop (i + 2) := by
          obtain ⟨g1, g2⟩ := List.getElem?_eq_some_iff.1 hd
          rw [List.drop_eq_getElem_cons g1, g2]
        have HU2 : Hid (unq p = (done ++ [d]) ++ unq (p.drop (i + 2))) := hide (by
          rw [HU.out, hdr, hdr2]
          simp [unq, h2.1])
        have hq : ((i : Int) + 1 < (p.length : Int)) := by have := h2.2; omega
        rw [beq_iff_eq.2 h2.1] at t92
        have HQ := hide h2.2
        clear hdr hdr2 hc hd h2 HU
        go_wp2_with fail
        refine (writeByte_any b b (bv done) (d.toNat : Int) _ HI.out (by rw [bv_length]; omega) hbw).mono ?_
        rintro e w3 ⟨rfl, hI3, hb3⟩
        have HI3 : Hid (Lib.IsBuilder 36 5 b b (bv (done ++ [d])) w3) := hide (by
          have : bv (done ++ [d]) = bv done ++ [.int .u8 (d.toNat : Int)] := by simp [bv]
          rw [this]
          exact .inr hI3)
        have HB3 := hide (HB.out.trans hb3)
        clear hI3 hb3
        go_wp2_with fail
        go_roundw
        case rel => exact ⟨i + 2, done ++ [d], by have := HQ.out; omega, by simp; omega, by go_num, HB3, HI3, HU2⟩
        case measure => simp [intOf]; omega
      · have HU2 : Hid (unq p = (done ++ [c]) ++ unq (p.drop (i + 1))) := hide (by
          rw [HU.out, hdr]
          rcases Nat.lt_or_ge (i + 1) p.length with h | h
          · have h92 : c ≠ 92 := fun e => h2 ⟨e, h⟩
            rw [List.drop_eq_getElem_cons h]
            simp [unq, h92]
          · rw [List.drop_of_length_le h]
            simp [unq])
        have HW := hide (fun W hI hB => writeByte_any b b (bv done) (c.toNat : Int) W hI (by rw [bv_length]; omega) hB)
        by_cases h92 : c = 92
        · have hq : ¬ ((i : Int) + 1 < (p.length : Int)) := fun h => h2 ⟨h92, by omega⟩
          rw [beq_iff_eq.2 h92] at t92
          clear hdr hc h2 HU h92
          go_wp2_with fail
          refine (HW.out _ HI.out hbw).mono ?_
          rintro e w3 ⟨rfl, hI3, hb3⟩
          have HI3 : Hid (Lib.IsBuilder 36 5 b b (bv (done ++ [c])) w3) := hide (by
            have : bv (done ++ [c]) = bv done ++ [.int .u8 (c.toNat : Int)] := by simp [bv]
            rw [this]
            exact .inr hI3)
          have HB3 := hide (HB.out.trans hb3)
          clear hI3 hb3
          go_wp2_with fail
          go_roundw
          case rel => exact ⟨i + 1, done ++ [c], by omega, by simp; omega, by go_num, HB3, HI3, HU2⟩
          case measure => simp [intOf]; omega
        · rw [beq_eq_false_iff_ne.2 h92] at t92
          clear hdr hc h2 HU h92
          go_wp2_with fail
          refine (HW.out _ HI.out hbw).mono ?_
          rintro e w3 ⟨rfl, hI3, hb3⟩
          have HI3 : Hid (Lib.IsBuilder 36 5 b b (bv (done ++ [c])) w3) := hide (by
            have : bv (done ++ [c]) = bv done ++ [.int .u8 (c.toNat : Int)] := by simp [bv]
            rw [this]
            exact .inr hI3)
          have HB3 := hide (HB.out.trans hb3)
          clear hI3 hb3
          go_wp2_with fail
          go_roundw
          case rel => exact ⟨i + 1, done ++ [c], by omega, by simp; omega, by go_num, HB3, HI3, HU2⟩
          case measure => simp [intOf]; omega
    · have hlt' : ¬ (i : Int) < (p.length : Int) := by omega
      have HI2 : Hid (Lib.IsBuilder 36 5 b b (Lib.byteCells (unq p)) wr) := hide (by
        rw [HU.out, List.drop_of_length_le (by omega), bcells]
        simpa [unq] using HI.out)
      clear HU
      go_wp2_with fail
      refine (Any.Builder_String_any Tryd.lays169 Tryd.Builder_Extra_169 b b (unq p) wr HI2.out hbw).mono ?_
      rintro e w2 ⟨rfl, hb2⟩
      have HB2 := hide (HB.out.trans hb2)
      clear hb2
      go_wp2_with fail
      refine bodyPost_ret (v := .tuple #[.string ⟨(unq p).toArray⟩, .bool true]) (by simp only [results, Tryd.results5]; go_simp) rfl ⟨rfl, ?_⟩
      exact below_more HB1.out (Nat.le_refl _) (by rw [HBB.out]; exact HB2.out)
end Go.Proofs.YtbphpijehfcbkaaDoor
