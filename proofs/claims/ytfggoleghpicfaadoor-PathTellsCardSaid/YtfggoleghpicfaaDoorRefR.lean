/- The reference's contracts: Parts. -/
import Derived.Test.YtfggoleghpicfaaDoorRefQ
import Derived.Outline
namespace Go.Proofs.YtfggoleghpicfaaDoor
open Go.RowKit
set_option linter.unusedVariables false
theorem ow_grow {B : Nat} {w W wr w2 : World} {A : Option Addr} {n c m : Nat} {ks : List Bs} {x : Bs} {v : Value} (hO : Ow B wr A n c ks) (hW : w.heap.size = B) (hb : Below w.heap.size w wr) (he : W = wr.alloc (.cells #[sv x] 9))
    (ho : w2.ownsRow B 9 1 v (n + 1) (svs ks ++ svs [x])) (hg : W.grownBy w2 (Value.slice A n c).ownBlock) : ∃ A' c', v = .slice A' (n + 1) c' ∧ Ow B w2 A' (n + 1) c' (ks ++ [x]) ∧ Below w.heap.size w w2 := by
  obtain ⟨A', c', rfl⟩ := own_slice ho
  rw [← svs_append] at ho
  subst he
  have h0 := (hb.alloc hb.size (.cells #[sv x] 9))
  exact ⟨A', c', rfl, ho, h0.grown hg (by have := hb.size; simp; omega) (fun g hg => by have := (World.ownsRow.lt hO g hg).1; omega)⟩
theorem sl_one (l : Bs) (i : Nat) (c : UInt8) (h : l[i]? = some c) (W : World) : (Instr.slice 9 (.string ⟨l.toArray⟩) (some (.int .i64 (i : Int))) (some (.int .i64 ((i : Int) + 1))) none).run Tryd.prog W = .ok (.string ⟨#[c]⟩) W := by
  obtain ⟨h1, h2⟩ := List.getElem?_eq_some_iff.1 h
  rw [run_slice_string W 9 _ .i64 .i64 (i : Int) ((i : Int) + 1) Tryd.underlying9 (by omega) (by omega) (by show (i : Int) + 1 ≤ ((l.length : Nat) : Int); omega)]
  congr 2
  apply ByteArray.ext
  have e : ((i : Int) + 1).toNat = i + 1 := by omega
  simp only [Int.toNat_natCast, e]
  apply Array.toList_inj.1
  simp [List.take_one, h]
set_option maxHeartbeats 2000000 in
theorem rparts_any (l : Bs) (w : World) (hl : l.length ≤ 100000) :
    Calls Tryd.prog 16 #[.string ⟨l.toArray⟩] w fun e w' => ∃ A n c, e = .returned (.slice A n c) ∧ Ow w.heap.size w' A n c (parts l) ∧ Below w.heap.size w w' := by
  obtain ⟨i0, hi, hz0, hz1, hz2⟩ := info_parts infoStr
  go_enter Tryd.func16, Tryd.ntmps16
  go_wp2_with fail
  go_loopw [3, 4, 5] (fun u3 u4 u5 wx => ∃ (i n c : Nat) (A : Option Addr) (done : List Bs) (now : Bs), u5 = .int .i64 i ∧ u4 = .string ⟨now.toArray⟩ ∧ u3 = .slice A n c ∧ Ow w.heap.size wx A n c done ∧ Below w.heap.size w wx ∧ now.length ≤ i ∧ n ≤ i ∧ ((i ≤ l.length ∧ PartsSt (l.take i) done now) ∨ (i = l.length + 1 ∧ done = parts l))) (fun _ _ i _ => l.length + 1 - (intOf i).toNat)
  case atStart => exact ⟨0, 0, 0, none, [], [], rfl, rfl, rfl, Ow.none_ _ _, Below.refl _ _, Nat.le_refl _, Nat.le_refl _, .inl ⟨Nat.zero_le _, PartsSt.nil⟩⟩
  case round =>
    obtain ⟨i, n, c, A, done, now, rfl, rfl, rfl, hO, hb, hnl, hn, hst⟩ := hrel
    have HO := hide hO
    have HB := hide hb
    clear hO hb
    rcases hst with ⟨hil, hst⟩ | ⟨rfl, rfl⟩
    · have HST := hide hst
      clear hst
      rcases Nat.lt_or_ge i l.length with hlt | hge
      · obtain ⟨x, hx⟩ : ∃ x, l[i]? = some x := ⟨_, List.getElem?_eq_getElem hlt⟩
        have htk : l.take (i + 1) = l.take i ++ [x] := by
          obtain ⟨h1, h2⟩ := List.getElem?_eq_some_iff.1 hx
          rw [List.take_succ_eq_append_getElem h1, h2]
        have HTK := hide htk
        by_cases hx47 : x = 47
        · have hix := ix_l l i x hx
          subst hx47
          have HX := hide hx
          clear hx htk
          by_cases hne : now = []
          · subst hne
            go_wp2_with fail
            go_roundw
            case rel => exact ⟨i + 1, n, c, A, done, [], by go_num, rfl, rfl, HO.out, HB.out, by simp, by omega, .inl ⟨by omega, by rw [HTK.out]; exact HST.out.slash⟩⟩
            case measure => simp [intOf]; omega
          · have he : now.isEmpty = false := by cases now with
              | nil => exact absurd rfl hne
              | cons a t => rfl
            have HF : Hid (fin done now = done ++ [now]) := hide (by unfold fin; rw [if_neg hne])
            have hr1 := hide (one_str wr now)
            have hO1 := hide (HO.out.alloc (.cells #[.string ⟨now.toArray⟩] 9))
            clear hne
            go_wp2_with (at_builtin; (refine wpList_append_any _ rfl (.tmp 31) (.tmp 33) 29 rfl w.heap.size 9 i0 _ 1 16 Tryd.underlying29 hi hz0 hz1 hz2 rfl (by omega) (.slice A n c) n (svs done) rfl hO1.out (wr.heap.size + 1) (some ⟨wr.heap.size, 0, none⟩) 1 1 (svs [now]) rfl hr1.out (svs_one _) ?c1 ?c2 ?c3 ?_))
            case c1 => unfold maxLen; omega
            case c2 => omega
            case c3 => have := HB.out.size; simp; omega
            intro v1 w2 hown1 hg1 hat1
            obtain ⟨A2, c2, rfl, O2, B2⟩ := ow_grow (m := 0) HO.out rfl HB.out rfl hown1 hg1
            have HO2 := hide O2
            have HB2 := hide B2
            clear hown1 hg1 hat1 O2 B2
            go_wp2_with fail
            go_roundw
            case rel => exact ⟨i + 1, n + 1, c2, A2, done ++ [now], [], by go_num, rfl, rfl, HO2.out, HB2.out, by simp, by omega, .inl ⟨by omega, by rw [HTK.out, ← HF.out]; exact HST.out.slash⟩⟩
            case measure => simp [intOf]; omega
        · have hix := ix_l l i x hx
          have hsl := sl_one l i x hx
          have hz : ((x.toNat : Int) != 47) = true := by rw [bne, toNat47, beq_eq_false_iff_ne.2 hx47]; rfl
          have hcat : ((⟨now.toArray⟩ : ByteArray) ++ (⟨#[x]⟩ : ByteArray)) = ⟨(now ++ [x]).toArray⟩ := by apply ByteArray.ext; simp
          have HX47 := hide hx47
          have hnl2 : now.length ≤ 100000 := by omega
          clear hx htk hx47
          go_wp2_with fail
          clear hcat
          go_roundw
          case rel => exact ⟨i + 1, n, c, A, done, now ++ [x], by go_num, rfl, rfl, HO.out, HB.out, by simp; omega, by omega, .inl ⟨by omega, by rw [HTK.out]; exact HST.out.byte HX47.out⟩⟩
          case measure => simp [intOf]; omega
      · obtain rfl : i = l.length := by omega
        have hp := HST.out.parts
        rw [List.take_length] at hp
        have HP := hide hp
        clear hp
        by_cases hne : now = []
        · subst hne
          go_wp2_with fail
          go_roundw
          case rel => exact ⟨l.length + 1, n, c, A, done, [], by go_num, rfl, rfl, HO.out, HB.out, by simp, by omega, .inr ⟨rfl, by rw [HP.out]; rfl⟩⟩
          case measure => simp [intOf]
        · have he : now.isEmpty = false := by cases now with
            | nil => exact absurd rfl hne
            | cons a t => rfl
          have HF : Hid (fin done now = done ++ [now]) := hide (by unfold fin; rw [if_neg hne])
          have hr1 := hide (one_str wr now)
          have hO1 := hide (HO.out.alloc (.cells #[.string ⟨now.toArray⟩] 9))
          clear hne
          go_wp2_with (at_builtin; (refine wpList_append_any _ rfl (.tmp 31) (.tmp 33) 29 rfl w.heap.size 9 i0 _ 1 16 Tryd.underlying29 hi hz0 hz1 hz2 rfl (by omega) (.slice A n c) n (svs done) rfl hO1.out (wr.heap.size + 1) (some ⟨wr.heap.size, 0, none⟩) 1 1 (svs [now]) rfl hr1.out (svs_one _) ?c1 ?c2 ?c3 ?_))
          case c1 => unfold maxLen; omega
          case c2 => omega
          case c3 => have := HB.out.size; simp; omega
          intro v1 w2 hown1 hg1 hat1
          obtain ⟨A2, c2, rfl, O2, B2⟩ := ow_grow (m := 0) HO.out rfl HB.out rfl hown1 hg1
          have HO2 := hide O2
          have HB2 := hide B2
          clear hown1 hg1 hat1 O2 B2
          go_wp2_with fail
          go_roundw
          case rel => exact ⟨l.length + 1, n + 1, c2, A2, done ++ [now], [], by go_num, rfl, rfl, HO2.out, HB2.out, by simp, by omega, .inr ⟨rfl, by rw [HP.out, HF.out]⟩⟩
          case measure => simp [intOf]
    · have hgt : ¬ ((l.length + 1 : Nat) : Int) ≤ (l.length : Int) := by omega
      go_wp2_with fail
      go_ret
      exact ⟨A, n, c, rfl, HO.out, HB.out⟩
end Go.Proofs.YtfggoleghpicfaaDoor
