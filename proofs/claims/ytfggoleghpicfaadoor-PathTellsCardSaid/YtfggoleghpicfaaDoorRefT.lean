/- The reference's contracts: left. -/
import Derived.Test.YtfggoleghpicfaaDoorRefR
import Derived.Outline
namespace Go.Proofs.YtfggoleghpicfaaDoor
open Go.RowKit
set_option linter.unusedVariables false
set_option maxHeartbeats 4000000 in
theorem rleft_any (l : Bs) (w : World) (hl : l.length ≤ 100000) :
    Calls Tryd.prog 25 #[.string ⟨l.toArray⟩] w fun e w' => ∃ A n c, e = .returned (.slice A n c) ∧ Ow w.heap.size w' A n c (cleaned l (rooted l)) ∧ Below w.heap.size w w' := by
  obtain ⟨i0, hi, hz0, hz1, hz2⟩ := info_parts infoStr
  have HPA := hide (rparts_any l w hl)
  have hple := parts_le l
  have HCE : Hid (cleaned l (rooted l) = (parts l).foldl (stepP (rooted l)) []) := hide rfl
  obtain ⟨root, hroot⟩ : ∃ r, rooted l = r := ⟨_, rfl⟩
  have HRT := hide hroot
  obtain ⟨ps, hps⟩ : ∃ ps, parts l = ps := ⟨_, rfl⟩
  rw [hps] at HPA hple
  rw [hroot, hps] at HCE
  rw [hroot]
  clear hroot hps
  go_enter Tryd.func25, Tryd.ntmps25
  go_wp2_with fail
  refine HPA.out.mono ?_
  rintro e w1 ⟨Ap, np, cp, rfl, hop, hbp⟩
  have hnp := hop.len
  have HRP := hide hop.rd
  have HBP := hide hbp
  subst hnp
  clear hop hbp
  go_wp2_with fail
  go_loopw [3, 5] (fun u3 u5 wx => ∃ (k n c : Nat) (A : Option Addr), k ≤ ps.length ∧ u5 = .int .i64 k ∧ u3 = .slice A n c ∧ Ow w1.heap.size wx A n c ((ps.take k).foldl (stepP root) []) ∧ Below w1.heap.size w1 wx) (fun _ i _ => ps.length - (intOf i).toNat)
  case atStart => exact ⟨0, 0, 0, none, Nat.zero_le _, rfl, rfl, Ow.none_ _ _, Below.refl _ _⟩
  case round =>
    obtain ⟨k, n, c, A, hk, rfl, rfl, hO, hb⟩ := hrel
    have HO := hide hO
    have HB := hide hb
    clear hO hb
    by_cases hlt : k < ps.length
    · obtain ⟨ad, u, hA1, hadb, hu, hcell⟩ := (HRP.out.below HB.out).at_ hlt
      subst hA1
      rw [svs_get ps k hlt] at hu
      injection hu with hu
      subst hu
      unfold sv at hcell
      have hT := hide (foldl_take (stepP root) [] ps k hlt)
      have hn : n ≤ 100001 := by
        have h1 := HO.out.len
        have h2 := fold_len root (ps.take k) []
        rw [List.length_take] at h2; simp at h2; omega
      generalize hks : (ps.take k).foldl (stepP root) [] = ks at *
      have Hks := hide hks
      clear hks
      generalize ps[k] = x at *
      by_cases hx1 : x = [46]
      · subst hx1
        have HST : Hid (stepP root ks [46] = ks) := hide (by unfold stepP; rw [if_pos rfl])
        go_wp2_with (go_at_call 26; refine (rrooted_any l _).mono ?_; rintro e w' ⟨rfl, rfl⟩; rw [HRT.out])
        clear hcell
        go_roundw
        case rel => exact ⟨k + 1, n, c, A, by omega, by go_num, rfl, by rw [hT.out, HST.out]; exact HO.out, HB.out⟩
        case measure => simp [intOf]; omega
      · by_cases hx2 : x = [46, 46]
        · subst hx2
          rcases Nat.eq_zero_or_pos n with h0 | h0
          · have hk0 : ks = [] := List.eq_nil_of_length_eq_zero (by rw [HO.out.len, h0])
            subst h0
            cases root with
            | false =>
              have HST : Hid (stepP false ks [46, 46] = ks ++ [[46, 46]]) := hide (by rw [hk0]; rfl)
              clear hk0
              have hr1 := hide (one_str wr [46, 46])
              have hO1 := hide (HO.out.alloc (.cells #[.string ⟨([46, 46] : Bs).toArray⟩] 9))
              go_wp2_with (first
                | (go_at_call 26; refine (rrooted_any l _).mono ?_; rintro e w' ⟨rfl, rfl⟩; rw [HRT.out])
                | (at_builtin; (refine wpList_append_any _ rfl (.tmp 14) (.tmp 19) 29 rfl w1.heap.size 9 i0 _ 1 16 Tryd.underlying29 hi hz0 hz1 hz2 rfl (by omega) (.slice A 0 c) 0 (svs ks) rfl hO1.out (wr.heap.size + 1) (some ⟨wr.heap.size, 0, none⟩) 1 1 (svs [[46, 46]]) rfl hr1.out (svs_one _) ?c1 ?c2 ?c3 ?_)))
              case c1 => unfold maxLen; omega
              case c2 => omega
              case c3 => have := HB.out.size; simp; omega
              intro v1 w2 hown1 hg1 hat1
              obtain ⟨A2, c2, rfl, O2, B2⟩ := ow_next' HO.out hown1 hg1 HB.out (Nat.le_refl _)
              have HO2 := hide O2
              have HB2 := hide B2
              clear hown1 hg1 hat1 O2 B2
              go_wp2_with fail
              clear hcell
              go_roundw
              case rel => exact ⟨k + 1, 0 + 1, c2, A2, by omega, by go_num, rfl, by rw [hT.out, HST.out]; exact HO2.out, HB2.out⟩
              case measure => simp [intOf]; omega
            | true =>
              have HST : Hid (stepP true ks [46, 46] = ks) := hide (by rw [hk0]; rfl)
              clear hk0
              go_wp2_with (go_at_call 26; refine (rrooted_any l _).mono ?_; rintro e w' ⟨rfl, rfl⟩; rw [HRT.out])
              clear hcell
              go_roundw
              case rel => exact ⟨k + 1, 0, c, A, by omega, by go_num, rfl, by rw [hT.out, HST.out]; exact HO.out, HB.out⟩
              case measure => simp [intOf]; omega
          · obtain ⟨q, rfl⟩ : ∃ q, n = q + 1 := ⟨n - 1, by omega⟩
            clear h0
            obtain ⟨hD, hqc, g, rfl, hlast⟩ := ow_drop HO.out
            have hkn : ks ≠ [] := by intro e; have := HO.out.len; rw [e] at this; simp at this
            have hgl : ks.getLast? = some (ks.getLastD []) := by
              rw [List.getLastD_eq_getLast?]
              cases hks : ks.getLast? with
              | none => rw [List.getLast?_eq_none_iff] at hks; exact absurd hks hkn
              | some y => rfl
            generalize ks.getLastD [] = lst at *
            have hsl := fun W => run_slice_to (P := Tryd.prog) 29 9 Tryd.underlying29 sizeStr (some ⟨g, 0, none⟩) (q + 1) c .i64 (q : Int) (by omega) (by omega) W
            simp only [Int.toNat_natCast] at hsl
            have HD := hide hD
            by_cases hls : lst = [46, 46]
            · subst hls
              cases root with
              | false =>
                have HST : Hid (stepP false ks [46, 46] = ks ++ [[46, 46]]) := hide (by unfold stepP; simp [hgl])
                clear hD hgl hkn hsl
                have hr1 := hide (one_str wr [46, 46])
                have hO1 := hide (HO.out.alloc (.cells #[.string ⟨([46, 46] : Bs).toArray⟩] 9))
                go_wp2_with (first
                  | (go_at_call 26; refine (rrooted_any l _).mono ?_; rintro e w' ⟨rfl, rfl⟩; rw [HRT.out])
                  | (at_builtin; (refine wpList_append_any _ rfl (.tmp 14) (.tmp 19) 29 rfl w1.heap.size 9 i0 _ 1 16 Tryd.underlying29 hi hz0 hz1 hz2 rfl (by omega) (.slice (some ⟨g, 0, none⟩) (q + 1) c) (q + 1) (svs ks) rfl hO1.out (wr.heap.size + 1) (some ⟨wr.heap.size, 0, none⟩) 1 1 (svs [[46, 46]]) rfl hr1.out (svs_one _) ?c1 ?c2 ?c3 ?_)))
                case c1 => unfold maxLen; omega
                case c2 => omega
                case c3 => have := HB.out.size; simp; omega
                intro v1 w2 hown1 hg1 hat1
                obtain ⟨A2, c2, rfl, O2, B2⟩ := ow_next' HO.out hown1 hg1 HB.out (Nat.le_refl _)
                have HO2 := hide O2
                have HB2 := hide B2
                clear hown1 hg1 hat1 O2 B2
                go_wp2_with fail
                clear hcell
                go_roundw
                case rel => exact ⟨k + 1, (q + 1) + 1, c2, A2, by omega, by go_num, rfl, by rw [hT.out, HST.out]; exact HO2.out, HB2.out⟩
                case measure => simp [intOf]; omega
              | true =>
                have HST : Hid (stepP true ks [46, 46] = ks) := hide (by unfold stepP; simp [hgl])
                clear hD hgl hkn hsl
                go_wp2_with (go_at_call 26; refine (rrooted_any l _).mono ?_; rintro e w' ⟨rfl, rfl⟩; rw [HRT.out])
                clear hcell
                go_roundw
                case rel => exact ⟨k + 1, q + 1, c, some ⟨g, 0, none⟩, by omega, by go_num, rfl, by rw [hT.out, HST.out]; exact HO.out, HB.out⟩
                case measure => simp [intOf]; omega
            · have hlt2 : (lst == [46, 46]) = false := beq_eq_false_iff_ne.2 hls
              have hlt3 : (lst != [46, 46]) = true := by rw [bne, hlt2]; rfl
              have HST : Hid (stepP root ks [46, 46] = ks.dropLast) := hide (by unfold stepP; simp [hgl, hkn, hls])
              clear hD hgl hkn hls
              go_wp2_with fail
              clear hcell hlast hsl hlt2 hlt3
              go_roundw
              case rel => exact ⟨k + 1, q, c, some ⟨g, 0, none⟩, by omega, by go_num, rfl, by rw [hT.out, HST.out]; exact HD.out, HB.out⟩
              case measure => simp [intOf]; omega
        · have t1 : (x == [46]) = false := beq_eq_false_iff_ne.2 hx1
          have t2 : (x == [46, 46]) = false := beq_eq_false_iff_ne.2 hx2
          have HST : Hid (stepP root ks x = ks ++ [x]) := hide (by unfold stepP; rw [if_neg hx1, if_pos hx2])
          clear hx1 hx2
          have hr1 := hide (one_str wr x)
          have hO1 := hide (HO.out.alloc (.cells #[.string ⟨(x : Bs).toArray⟩] 9))
          go_wp2_with (first
            | (go_at_call 26; refine (rrooted_any l _).mono ?_; rintro e w' ⟨rfl, rfl⟩; rw [HRT.out])
            | (at_builtin; (refine wpList_append_any _ rfl (.tmp 14) (.tmp 19) 29 rfl w1.heap.size 9 i0 _ 1 16 Tryd.underlying29 hi hz0 hz1 hz2 rfl (by omega) (.slice A n c) n (svs ks) rfl hO1.out (wr.heap.size + 1) (some ⟨wr.heap.size, 0, none⟩) 1 1 (svs [x]) rfl hr1.out (svs_one _) ?c1 ?c2 ?c3 ?_)))
          case c1 => unfold maxLen; omega
          case c2 => omega
          case c3 => have := HB.out.size; simp; omega
          intro v1 w2 hown1 hg1 hat1
          obtain ⟨A2, c2, rfl, O2, B2⟩ := ow_next' HO.out hown1 hg1 HB.out (Nat.le_refl _)
          have HO2 := hide O2
          have HB2 := hide B2
          clear hown1 hg1 hat1 O2 B2
          go_wp2_with fail
          clear hcell
          go_roundw
          case rel => exact ⟨k + 1, n + 1, c2, A2, by omega, by go_num, rfl, by rw [hT.out, HST.out]; exact HO2.out, HB2.out⟩
          case measure => simp [intOf]; omega
    · obtain rfl : k = ps.length := by omega
      have hall : (ps.take ps.length).foldl (stepP root) [] = cleaned l root := by rw [List.take_length, HCE.out]
      have HOO : Hid (Ow w1.heap.size wr A n c (cleaned l root)) := hide (by rw [← hall]; exact HO.out)
      clear hall
      go_wp2_with fail
      go_ret
      exact ⟨A, n, c, rfl, HOO.out.more HBP.out.size, HBP.out.trans (HB.out.mono HBP.out.size)⟩
end Go.Proofs.YtfggoleghpicfaaDoor
