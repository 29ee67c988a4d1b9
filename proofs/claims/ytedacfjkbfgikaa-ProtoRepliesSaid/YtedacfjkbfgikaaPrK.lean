/- proto.items: of texts, of integers. -/
import Derived.Test.YtedacfjkbfgikaaPrJ
namespace Go.Proofs.Ytedacfjkbfgikaa
open Go.RowKit
set_option linter.unusedVariables false
theorem own_at {w w' : World} {B : Nat} {t : TypeId} {size n : Nat} {v : Value} {xs : List Value} (h : w.ownsRow B t size v n xs) (hk : ∀ x, B ≤ x → x < w.heap.size → w'.heap[x]? = w.heap[x]?) : w'.ownsRow B t size v n xs := by
  refine ⟨h.1, ?_⟩
  rcases h.2 with h0 | ⟨g, cap, cur, hv, hb, hh, hr⟩
  · exact .inl h0
  · refine .inr ⟨g, cap, cur, hv, hb, ?_, hr⟩
    rw [hk g hb ?_]
    · exact hh
    · by_cases hx : g < w.heap.size
      · exact hx
      · rw [Array.getElem?_eq_none (by omega)] at hh
        cases hh
theorem ivs_one (l : List Int) : ∀ u ∈ ivs l, u.oneCell' = true := by
  intro u hu
  simp only [ivs, List.mem_map] at hu
  obtain ⟨b, _, rfl⟩ := hu
  rfl
theorem svs_snoc (l : List LB) (x : LB) : svs l ++ svs [x] = svs (l ++ [x]) := by simp [svs]
theorem ivs_snoc (l : List Int) (x : Int) : ivs l ++ ivs [x] = ivs (l ++ [x]) := by simp [ivs]
theorem one_int (W : World) (x : Int) : Reads (W.alloc (.cells #[.int .i64 x] 3)) (W.heap.size + 1) 1 (some ⟨W.heap.size, 0, none⟩) 1 (ivs [x]) := by
  refine ⟨rfl, fun _ => ⟨_, rfl, by simp, ?_⟩⟩
  intro j u hu
  match j with
  | 0 =>
    simp only [ivs, List.map_cons, List.map_nil, List.getElem?_cons_zero, Option.some.injEq] at hu
    subst hu
    rw [add_zero_]
    exact (Blk.new W 3 #[.int .i64 x]).cell 0
  | j + 1 => simp [ivs] at hu
theorem infoIntP : (Try.prog.info? 3).map (fun i => (i.zero, i.size, i.bytes)) = some (some (.int .i64 0), 1, 8) := by kernel_rfl
theorem num1_lt (st : St) : (numS 1 st).1 < 256 := numS_lt 1 st (by omega)
theorem itemsS_step {α : Type} (f : St → α × St) (k : Nat) (out : List α) (st : St) : itemsS f (k + 1) out st = if (f st).2.2 = true then ([], (f st).2) else itemsS f k (out ++ [(f st).1]) (f st).2 := rfl

set_option maxRecDepth 100000 in
set_option maxHeartbeats 4000000 in
theorem ptexts_any (B g : Nat) (st : St) (w : World) (h : InAt B g st w) :
    Calls Try.prog 49 #[.pointer (some ⟨g, 0, none⟩), .func (.func 46) #[.pointer (some ⟨g, 0, none⟩)] #[]] w fun e w' => ∃ A n c, e = .returned (.slice A n c) ∧ w'.ownsRow w.heap.size 9 1 (.slice A n c) n (svs (listS txtS st).1) ∧ InAt B g (listS txtS st).2 w' ∧ Fr g w w' := by
  obtain ⟨i0, hi0, hz0, hz1, hz2⟩ := info_parts infoStr
  have XN : Hid (Calls Try.prog 92 #[.pointer (some ⟨g, 0, none⟩), .int .i64 1] w fun e w' => e = .returned (.int .i64 ((numS 1 st).1 : Int)) ∧ InAt B g (numS 1 st).2 w' ∧ Fr g w w') := hide (number_any B g 1 st w h (by omega) (by omega))
  have hlt := num1_lt st
  have hlw := h.lt
  unfold listS
  generalize numS 1 st = r at *
  obtain ⟨N, st1⟩ := r
  dsimp only at XN hlt ⊢
  clear h
  go_enter Try.func49, Try.ntmps49
  go_wp2_with fail
  with_reducible refine XN.out.mono ?_
  rintro e w1 ⟨rfl, hin, hfr⟩
  have HIN := hide hin
  have HFR := hide hfr
  clear hin hfr XN
  go_wp2_with fail
  go_loopw [5, 8] (fun s5 s8 wx => ∃ i : Nat, i ≤ N ∧ s8 = .int .i64 (i : Int) ∧ ∃ A2 c2, s5 = .slice A2 i c2 ∧ ∃ (out : List LB) (sti : St), Hid (wx.ownsRow w.heap.size 9 1 (.slice A2 i c2) i (svs out)) ∧ Hid (InAt B g sti wx) ∧ Hid (Fr g w wx) ∧ Hid (itemsS txtS N [] st1 = itemsS txtS (N - i) out sti)) (fun _ i _ => N - (intOf i).toNat)
  case atStart => exact ⟨0, Nat.zero_le _, rfl, none, 0, rfl, [], st1, hide (World.ownsRow_nil _ _ _ _), HIN, HFR, hide rfl⟩
  case round =>
    obtain ⟨i, hi', rfl, A2, c2, rfl, out, sti, HO, HI, HF, HE⟩ := hrel
    by_cases hlt1 : i < N
    · have hlt2 : (i : Int) < (N : Int) := by omega
      obtain ⟨k, hk⟩ : ∃ k, N - i = k + 1 := ⟨N - i - 1, by omega⟩
      have HE2 : Hid (itemsS txtS N [] st1 = itemsS txtS (k + 1) out sti) := hide (by rw [← hk]; exact HE.out)
      have hen := fun W => fn_enter Try.func46 (by kernel_rfl) rfl #[.pointer (some ⟨g, 0, none⟩)] W
      have XC := hide (itxt_any B g sti wr HI.out)
      have HS := hide (itemsS_step txtS k out sti)
      have v1 : IntKind.i64.wrap ((i : Int) + 1) = (i : Int) + 1 := by simp [IntKind.wrap, IntKind.bits, IntKind.signed]; omega
      generalize txtS sti = r at *
      obtain ⟨x, sj⟩ := r
      dsimp only at XC HS
      go_wp2_with fail
      refine XC.out.mono ?_
      rintro e3 w3 ⟨rfl, hin, hfr⟩
      have hbase : w.heap.size ≤ w3.heap.size := Nat.le_trans HF.out.1 hfr.1
      have HO3 := hide (own_at HO.out (fun y hy hy2 => hfr.2 y hy2 (by omega)))
      have HF3 := hide (HF.out.trans hfr)
      have HIN3 := hide hin
      have hr1 := one_str w3 x
      have hO1 := World.ownsRow.alloc HO3.out (.cells #[.string ⟨x.toArray⟩] 9)
      clear hin hfr XC hen
      go_wp2_with (at_builtin; (refine wpList_append_any _ rfl (.tmp 10) (.tmp 13) 23 rfl w.heap.size 9 i0 _ 1 16 Try.underlying23 hi0 hz0 hz1 hz2 rfl (by omega) (.slice A2 i c2) i (svs out) rfl hO1 (w3.heap.size + 1) (some ⟨w3.heap.size, 0, none⟩) 1 1 (svs [x]) rfl hr1 (svs_one _) ?c1 ?c2 ?c3 ?_))
      case c1 => unfold maxLen; omega
      case c2 => omega
      case c3 => simp; omega
      intro v9 w9 hown9 hg9 hat9
      obtain ⟨A9, k9, rfl⟩ := own_slice hown9
      rw [svs_snoc] at hown9
      have HO9 := hide hown9
      have hlow : ∀ y, y < w.heap.size → w9.heap[y]? = w3.heap[y]? := fun y hy => by
        rw [hg9.block y (by simp; omega) (by
          intro h
          have := (World.ownsRow.lt HO3.out y h.symm).1
          omega)]
        exact Below.heap_alloc w3 _ y (by omega)
      have hs9 : w3.heap.size ≤ w9.heap.size := by have := hg9.size; simp at this; omega
      have HI9 := hide (HIN3.out.keep (fun y hy => hlow y (by omega)) hs9)
      have HF9 : Hid (Fr g w w9) := hide ⟨Nat.le_trans hbase hs9, fun y hy hn => (hlow y hy).trans (HF3.out.2 y hy hn), hg9.os.trans HF3.out.os, hg9.tape.trans HF3.out.tape, hg9.output.trans HF3.out.output⟩
      clear hown9 hg9 hat9 hO1 hr1 hlow HIN3 HF3 HO3
      obtain ⟨IA, IM, IC, hIk, -⟩ := HI9.out
      have c1 := hIk.cell 1
      simp only [List.getElem?_toArray, List.getElem?_cons_succ, List.getElem?_cons_zero] at c1
      clear hIk
      cases hsh : sj.2 with
      | true =>
        rw [hsh] at c1
        go_wp2_with fail
        go_ret
        refine ⟨none, 0, 0, rfl, ?_, ?_, HF9.out⟩
        · rw [HE2.out, HS.out, if_pos hsh]
          exact World.ownsRow_nil _ _ _ _
        · rw [HE2.out, HS.out, if_pos hsh]
          exact HI9.out
      | false =>
        rw [hsh] at c1
        have HE9 : Hid (itemsS txtS N [] st1 = itemsS txtS (N - (i + 1)) (out ++ [x]) sj) := hide (by
          rw [HE2.out, HS.out, if_neg (by rw [hsh]; simp), show N - (i + 1) = k by omega])
        go_wp2_with fail
        clear v1 c1
        go_roundw
        case rel => exact ⟨i + 1, by omega, by go_num, A9, k9, rfl, out ++ [x], sj, HO9, HI9, HF9, HE9⟩
        case measure => simp [intOf]; omega
    · obtain rfl : i = N := by omega
      have hlt2 : ¬ (i : Int) < (i : Int) := by omega
      have HE2 : Hid (itemsS txtS i [] st1 = (out, sti)) := hide (by rw [HE.out, Nat.sub_self]; rfl)
      go_wp2_with fail
      go_ret
      refine ⟨A2, i, c2, rfl, ?_, ?_, HF.out⟩
      · rw [HE2.out]
        exact HO.out
      · rw [HE2.out]
        exact HI.out

set_option maxRecDepth 100000 in
set_option maxHeartbeats 4000000 in
theorem pints_any (B g : Nat) (st : St) (w : World) (h : InAt B g st w) :
    Calls Try.prog 52 #[.pointer (some ⟨g, 0, none⟩), .func (.func 44) #[.pointer (some ⟨g, 0, none⟩)] #[]] w fun e w' => ∃ A n c, e = .returned (.slice A n c) ∧ w'.ownsRow w.heap.size 3 1 (.slice A n c) n (ivs (listS intS st).1) ∧ InAt B g (listS intS st).2 w' ∧ Fr g w w' := by
  obtain ⟨i0, hi0, hz0, hz1, hz2⟩ := info_parts infoIntP
  have XN : Hid (Calls Try.prog 92 #[.pointer (some ⟨g, 0, none⟩), .int .i64 1] w fun e w' => e = .returned (.int .i64 ((numS 1 st).1 : Int)) ∧ InAt B g (numS 1 st).2 w' ∧ Fr g w w') := hide (number_any B g 1 st w h (by omega) (by omega))
  have hlt := num1_lt st
  have hlw := h.lt
  unfold listS
  generalize numS 1 st = r at *
  obtain ⟨N, st1⟩ := r
  dsimp only at XN hlt ⊢
  clear h
  go_enter Try.func52, Try.ntmps52
  go_wp2_with fail
  with_reducible refine XN.out.mono ?_
  rintro e w1 ⟨rfl, hin, hfr⟩
  have HIN := hide hin
  have HFR := hide hfr
  clear hin hfr XN
  go_wp2_with fail
  go_loopw [5, 8] (fun s5 s8 wx => ∃ i : Nat, i ≤ N ∧ s8 = .int .i64 (i : Int) ∧ ∃ A2 c2, s5 = .slice A2 i c2 ∧ ∃ (out : List Int) (sti : St), Hid (wx.ownsRow w.heap.size 3 1 (.slice A2 i c2) i (ivs out)) ∧ Hid (InAt B g sti wx) ∧ Hid (Fr g w wx) ∧ Hid (itemsS intS N [] st1 = itemsS intS (N - i) out sti)) (fun _ i _ => N - (intOf i).toNat)
  case atStart => exact ⟨0, Nat.zero_le _, rfl, none, 0, rfl, [], st1, hide (World.ownsRow_nil _ _ _ _), HIN, HFR, hide rfl⟩
  case round =>
    obtain ⟨i, hi', rfl, A2, c2, rfl, out, sti, HO, HI, HF, HE⟩ := hrel
    by_cases hlt1 : i < N
    · have hlt2 : (i : Int) < (N : Int) := by omega
      obtain ⟨k, hk⟩ : ∃ k, N - i = k + 1 := ⟨N - i - 1, by omega⟩
      have HE2 : Hid (itemsS intS N [] st1 = itemsS intS (k + 1) out sti) := hide (by rw [← hk]; exact HE.out)
      have hen := fun W => fn_enter Try.func44 (by kernel_rfl) rfl #[.pointer (some ⟨g, 0, none⟩)] W
      have XC := hide (iint_any B g sti wr HI.out)
      have HS := hide (itemsS_step intS k out sti)
      have v1 : IntKind.i64.wrap ((i : Int) + 1) = (i : Int) + 1 := by simp [IntKind.wrap, IntKind.bits, IntKind.signed]; omega
      generalize intS sti = r at *
      obtain ⟨x, sj⟩ := r
      dsimp only at XC HS
      go_wp2_with fail
      refine XC.out.mono ?_
      rintro e3 w3 ⟨rfl, hin, hfr⟩
      have hbase : w.heap.size ≤ w3.heap.size := Nat.le_trans HF.out.1 hfr.1
      have HO3 := hide (own_at HO.out (fun y hy hy2 => hfr.2 y hy2 (by omega)))
      have HF3 := hide (HF.out.trans hfr)
      have HIN3 := hide hin
      have hr1 := one_int w3 x
      have hO1 := World.ownsRow.alloc HO3.out (.cells #[.int .i64 x] 3)
      clear hin hfr XC hen
      go_wp2_with (at_builtin; (refine wpList_append_any _ rfl (.tmp 10) (.tmp 13) 24 rfl w.heap.size 3 i0 _ 1 8 Try.underlying24 hi0 hz0 hz1 hz2 rfl (by omega) (.slice A2 i c2) i (ivs out) rfl hO1 (w3.heap.size + 1) (some ⟨w3.heap.size, 0, none⟩) 1 1 (ivs [x]) rfl hr1 (ivs_one _) ?c1 ?c2 ?c3 ?_))
      case c1 => unfold maxLen; omega
      case c2 => omega
      case c3 => simp; omega
      intro v9 w9 hown9 hg9 hat9
      obtain ⟨A9, k9, rfl⟩ := own_slice hown9
      rw [ivs_snoc] at hown9
      have HO9 := hide hown9
      have hlow : ∀ y, y < w.heap.size → w9.heap[y]? = w3.heap[y]? := fun y hy => by
        rw [hg9.block y (by simp; omega) (by
          intro h
          have := (World.ownsRow.lt HO3.out y h.symm).1
          omega)]
        exact Below.heap_alloc w3 _ y (by omega)
      have hs9 : w3.heap.size ≤ w9.heap.size := by have := hg9.size; simp at this; omega
      have HI9 := hide (HIN3.out.keep (fun y hy => hlow y (by omega)) hs9)
      have HF9 : Hid (Fr g w w9) := hide ⟨Nat.le_trans hbase hs9, fun y hy hn => (hlow y hy).trans (HF3.out.2 y hy hn), hg9.os.trans HF3.out.os, hg9.tape.trans HF3.out.tape, hg9.output.trans HF3.out.output⟩
      clear hown9 hg9 hat9 hO1 hr1 hlow HIN3 HF3 HO3
      obtain ⟨IA, IM, IC, hIk, -⟩ := HI9.out
      have c1 := hIk.cell 1
      simp only [List.getElem?_toArray, List.getElem?_cons_succ, List.getElem?_cons_zero] at c1
      clear hIk
      cases hsh : sj.2 with
      | true =>
        rw [hsh] at c1
        go_wp2_with fail
        go_ret
        refine ⟨none, 0, 0, rfl, ?_, ?_, HF9.out⟩
        · rw [HE2.out, HS.out, if_pos hsh]
          exact World.ownsRow_nil _ _ _ _
        · rw [HE2.out, HS.out, if_pos hsh]
          exact HI9.out
      | false =>
        rw [hsh] at c1
        have HE9 : Hid (itemsS intS N [] st1 = itemsS intS (N - (i + 1)) (out ++ [x]) sj) := hide (by
          rw [HE2.out, HS.out, if_neg (by rw [hsh]; simp), show N - (i + 1) = k by omega])
        go_wp2_with fail
        clear v1 c1
        go_roundw
        case rel => exact ⟨i + 1, by omega, by go_num, A9, k9, rfl, out ++ [x], sj, HO9, HI9, HF9, HE9⟩
        case measure => simp [intOf]; omega
    · obtain rfl : i = N := by omega
      have hlt2 : ¬ (i : Int) < (i : Int) := by omega
      have HE2 : Hid (itemsS intS i [] st1 = (out, sti)) := hide (by rw [HE.out, Nat.sub_self]; rfl)
      go_wp2_with fail
      go_ret
      refine ⟨A2, i, c2, rfl, ?_, ?_, HF.out⟩
      · rw [HE2.out]
        exact HO.out
      · rw [HE2.out]
        exact HI.out
end Go.Proofs.Ytedacfjkbfgikaa
