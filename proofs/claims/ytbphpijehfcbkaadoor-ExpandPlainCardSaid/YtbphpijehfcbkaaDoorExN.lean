/- expand.Names at the texts of the law's heads: a set of names, a range over it that strikes, its sorted keys. -/
import Derived.Test.YtbphpijehfcbkaaDoorExQ
import Derived.Test.YtbphpijehfcbkaaDoorIter
import Derived.Maps.RangeWalk
import Derived.Maps.OwnSet
import Derived.Sort.KeysCollected
namespace Go.Proofs.YtbphpijehfcbkaaDoor
open Go.RowKit
open Go.Maps
set_option linter.unusedVariables false
def dU : DataW Unit := .agg []
def setOf (l : List LB) : DataW Unit := l.foldl (fun D x => D.put (.string x) dU) (.map [])
theorem setOf_snoc (l : List LB) (x : LB) : setOf (l ++ [x]) = (setOf l).put (.string x) dU := by simp [setOf]
def ks4 : List LB := [[98, 46, 99], [97, 46, 99], [46, 99], [97, 46, 99]]
def D3 : DataW Unit := .map [(.string [46, 99], dU), (.string [97, 46, 99], dU), (.string [98, 46, 99], dU)]
def D2 : DataW Unit := .map [(.string [97, 46, 99], dU), (.string [98, 46, 99], dU)]
theorem set4 : setOf ks4 = D3 := by kernel_rfl
theorem del3 : D3.del (.string [46, 99]) = D2 := by kernel_rfl
theorem all4 : ∀ x ∈ ks4, MatchP [42, 46, 99] x = true := by
  intro x hx
  simp only [ks4, List.mem_cons, List.not_mem_nil, or_false] at hx
  rcases hx with rfl | rfl | rfl | rfl <;> kernel_rfl
theorem has3 (x : LB) (h : has D3 (.string x) = true) : x = [46, 99] ∨ x = [97, 46, 99] ∨ x = [98, 46, 99] := by
  rw [D3, has_eq] at h
  simp [Lit.sameKey] at h
  rcases h with h | h | h
  · exact .inl h.symm
  · exact .inr (.inl h.symm)
  · exact .inr (.inr h.symm)
theorem has2 (x : LB) (h : has D2 (.string x) = true) : x = [97, 46, 99] ∨ x = [98, 46, 99] := by
  rw [D2, has_eq] at h
  simp [Lit.sameKey] at h
  rcases h with h | h
  · exact .inl h.symm
  · exact .inr h.symm
theorem keyS : Keyed Tryd.prog 9 := string_keyed Tryd.underlying9
theorem key_s (x : LB) (h : x.length ≤ 1000000) : keyOf Tryd.prog 9 (.string ⟨x.toArray⟩) = some (.string x) := Go.WideMaps.keyOf_string_mk Tryd.underlying9 (s := ⟨x.toArray⟩) (by show x.length ≤ maxLen; unfold maxLen; omega)
theorem map_kept {w w' : World} {b n : Nat} {D : DataW Unit} (h : w.ownsMap Tryd.prog 9 unitElem b n D) (hb : w'.heap[b]? = w.heap[b]?) : w'.ownsMap Tryd.prog 9 unitElem b n D := by
  obtain ⟨es, clock, h1, h2⟩ := h
  exact ⟨es, clock, hb.trans h1, h2⟩
theorem pre_false (l p : LB) (h : Lib.hasPrefix l p = false) (w : World) : Calls Tryd.prog 19 #[.string ⟨l.toArray⟩, .string ⟨p.toArray⟩] w fun e w' => e = .returned (.bool false) ∧ w = w' := by
  have := pre_l l p w
  rw [h] at this; exact this
theorem sort2 (ss : List LB) (h : ss.Perm (strKeys D2)) : ss.mergeSort (fun x y => decide (x ≤ y)) = [[97, 46, 99], [98, 46, 99]] := by
  have h1 := mergeSort_of_perm h
  have h2 : (strKeys D2).mergeSort leB = [[97, 46, 99], [98, 46, 99]] := by
    apply List.mergeSort_of_pairwise
    show List.Pairwise (fun a b => leB a b = true) [[97, 46, 99], [98, 46, 99]]
    simp only [List.pairwise_cons, List.mem_cons, List.not_mem_nil, or_false, List.Pairwise.nil, and_true, forall_eq, false_imp_iff, implies_true]
    decide
  exact h1.trans h2
/-- What the range may hold while it strikes the name with a point ahead. -/
def Struck (D : DataW Unit) (left : Lit → Bool) : Prop := (D = D3 ∧ left (.string [46, 99]) = true) ∨ D = D2
theorem Struck.end_ {D : DataW Unit} {left : Lit → Bool} (h : Struck D left) (hl : ∀ kl, left kl = false) : D = D2 := by
  rcases h with ⟨_, h⟩ | h
  · rw [hl] at h; cases h
  · exact h
theorem Struck.hit {D : DataW Unit} {left : Lit → Bool} (h : Struck D left) (x : LB) (hx : has D (.string x) = true) (hp : Lib.hasPrefix x [46] = true) (l' : Lit → Bool) : Struck (D.del (.string x)) l' := by
  rcases h with ⟨rfl, _⟩ | rfl
  · rcases has3 x hx with rfl | rfl | rfl
    · exact .inr del3
    · exact absurd hp (by decide)
    · exact absurd hp (by decide)
  · rcases has2 x hx with rfl | rfl
    · exact absurd hp (by decide)
    · exact absurd hp (by decide)
theorem Struck.miss {D : DataW Unit} {left : Lit → Bool} (h : Struck D left) (x : LB) (hp : Lib.hasPrefix x [46] = false) : Struck D (fun z => left z && !z.sameKey (.string x)) := by
  rcases h with ⟨e, h⟩ | h
  · refine .inl ⟨e, ?_⟩
    have : ([46, 99] : LB) ≠ x := by rintro rfl; exact absurd hp (by decide)
    show (left _ && !(([46, 99] : LB) == x)) = true
    rw [h, beq_eq_false_iff_ne.2 this]; rfl
  · exact .inr h
theorem str_at (g1 m k q : Nat) (i : Int) (hi : i = (q : Int)) (hq : q < m) (W : World) : (Instr.indexAt 27 (.slice (some ⟨g1, 0, none⟩) m k) (.int .i64 i)).run Tryd.prog W = .ok (.pointer (some ⟨g1, q, none⟩)) W := by
  subst hi
  have hE : Tryd.prog.elem 27 = 9 := by simp [Program.elem, Tryd.underlying27]
  rw [run_indexAt_slice W 27 ⟨g1, 0, none⟩ m k .i64 (q : Int) (slice_ht Tryd.underlying27), if_pos ⟨by omega, by omega⟩]
  rw [hE, run_sizeOf_n sizeStr W]
  simp only [Result.andThen, Int.toNat_natCast, at_add, Nat.zero_add, Nat.mul_one]
set_option maxRecDepth 100000 in
set_option maxHeartbeats 8000000 in
theorem names_c (g c : Nat) (w : World) (hg : g < w.heap.size) (hc : ∀ (k : Nat) (x : LB), ks4[k]? = some x → w.cell? ⟨g, k, none⟩ = some (.string ⟨x.toArray⟩)) :
    Calls Tryd.prog 10 #[.string ⟨#[42, 46, 99]⟩, .slice (some ⟨g, 0, none⟩) 4 c] w fun e w' => ∃ A c', e = .returned (.slice A 2 c') ∧ Ow w.heap.size w' A 2 c' [[97, 46, 99], [98, 46, 99]] ∧ Below w.heap.size w w' := by
  have hmm := @run_makeMap Tryd.prog
  have HC := hide hc
  clear hc
  go_enter Tryd.func10, Tryd.ntmps10
  go_wp2_with fail
  obtain ⟨b, hb⟩ : ∃ b, w.heap.size = b := ⟨_, rfl⟩
  have HBB := hide hb
  have HD0 : Hid ((w.alloc (.map #[] 0)).ownsMap Tryd.prog 9 unitElem b 0 (setOf [])) := hide (by rw [← hb]; exact World.ownsMap_made _ _ _ _)
  have HB0 : Hid (Below b w (w.alloc (.map #[] 0))) := hide (by rw [← hb]; exact (Below.refl _ _).alloc (Nat.le_refl _) _)
  obtain ⟨W0, hW0⟩ : ∃ W, w.alloc (.map #[] 0) = W := ⟨_, rfl⟩
  rw [hb] at hg
  rw [hW0] at HD0 HB0
  (try rw [hW0])
  (try rw [hb])
  clear hW0 hb hmm
  go_loopw [12] (fun u12 wx => ∃ k : Nat, k ≤ 4 ∧ u12 = .int .i64 (k : Int) ∧ Hid (wx.ownsMap Tryd.prog 9 unitElem b k (setOf (ks4.take k))) ∧ Hid (Below b w wx)) (fun u12 _ => 4 - (intOf u12).toNat)
  case atStart => exact ⟨0, by omega, rfl, HD0, HB0⟩
  case round =>
    clear HD0 HB0
    obtain ⟨k, hk, rfl, HD, HB⟩ := hrel
    by_cases hlt : k < 4
    · obtain ⟨x, hx⟩ : ∃ x, ks4[k]? = some x := ⟨_, List.getElem?_eq_getElem hlt⟩
      have hcell := (HB.out.cell (p := ⟨g, k, none⟩) (by exact hg)).trans (HC.out k x hx)
      have hia := fun W => str_at g 4 c k (k : Int) rfl hlt W
      have hm4 := all4 x (List.mem_of_getElem? hx)
      have hxl : x.length ≤ 1000 := by
        have := List.mem_of_getElem? hx
        simp only [ks4, List.mem_cons, List.not_mem_nil, or_false] at this
        rcases this with rfl | rfl | rfl | rfl <;> decide
      have XM : Hid (∀ W, Calls Tryd.prog 20 #[.string ⟨#[42, 46, 99]⟩, .string ⟨x.toArray⟩] W fun e w' => e = .returned (.bool true) ∧ Below W.heap.size W w') := hide (fun W => by
        have := Match_any [42, 46, 99] x W
        rw [hm4] at this
        exact this)
      have HS : Hid (setOf (ks4.take (k + 1)) = (setOf (ks4.take k)).put (.string x) dU) := hide (by
        obtain ⟨h1, h2⟩ := List.getElem?_eq_some_iff.1 hx
        rw [List.take_succ_eq_append_getElem h1, h2, setOf_snoc])
      have HKEY := hide (key_s x (by omega))
      have hlt' : (k : Int) < 4 := by omega
      have hbl : b < wr.heap.size := by
        obtain ⟨es, clock, h1, _⟩ := HD.out
        exact (Array.getElem?_eq_some_iff.1 h1).1
      clear hx hm4
      go_wp2_with fail
      refine (XM.out _).mono ?_
      rintro e w1 ⟨rfl, hb1⟩
      have HD1 : Hid (w1.ownsMap Tryd.prog 9 unitElem b k (setOf (ks4.take k))) := hide (map_kept HD.out (hb1.block b hbl))
      have HB1 : Hid (Below b w w1) := hide (below_more HB.out (Nat.le_of_eq HBB.out.symm) hb1)
      have hsz := hb1.size
      clear hb1 HD HB
      go_wp2_with (at_mapUpdate; refine wpList_mapUpdate_own _ rfl _ _ _ 45 rfl 9 46 keyS Tryd.underlying45 _ b k _ rfl HD1.out (by unfold maxLen; omega) _ _ _ rfl rfl HKEY.out _ [] unitElem_mk ?_; intro w2 hown2 hgrow2)
      have HD2 : Hid (w2.ownsMap Tryd.prog 9 unitElem b (k + 1) (setOf (ks4.take (k + 1)))) := hide (by rw [HS.out]; exact hown2)
      have HB2 : Hid (Below b w w2) := hide (HB1.out.grown hgrow2 (by omega) (fun j hj => by cases hj; exact Nat.le_refl _))
      clear hown2 hgrow2
      go_roundw
      case rel => exact ⟨k + 1, by omega, by go_num, HD2, HB2⟩
      case measure => simp [intOf]; omega
    · have hlt' : ¬ (k : Int) < 4 := by omega
      obtain rfl : k = 4 := by omega
      have HD3 : Hid (wr.ownsMap Tryd.prog 9 unitElem b 4 D3) := hide (by
        have := HD.out
        rwa [show ks4.take 4 = ks4 from rfl, set4] at this)
      have X1 := hide (fun W => pre_false [42, 46, 99] [46] rfl W)
      have X2 := hide (fun W => pre_false [42, 46, 99] [92, 46] rfl W)
      have hbl : b < wr.heap.size := by
        obtain ⟨es, clock, h1, _⟩ := HD3.out
        exact (Array.getElem?_eq_some_iff.1 h1).1
      clear HD hlt hlt' hk
      go_wp2_with fail
      refine (X1.out _).mono ?_
      rintro e w1 ⟨rfl, rfl⟩
      go_wp2_with fail
      refine (X2.out _).mono ?_
      rintro e w1 ⟨rfl, rfl⟩
      clear X1 X2
      go_wp2_with (at_range; refine wpList_range_own _ rfl _ 45 rfl 9 46 keyS Tryd.underlying45 _ b 4 _ rfl HD3.out ?_; intro w0 hrg0 hg0 hs0)
      obtain ⟨r, hr⟩ : ∃ r, wr.heap.size = r := ⟨_, rfl⟩
      have HR0 : Hid (w0.ranges Tryd.prog 9 unitElem b r 4 D3 (has D3) (Maps.size D3)) := hide (by rw [← hr]; exact hrg0)
      have HB0 : Hid (Below b w w0) := hide (HB.out.grown hg0 (by omega) (fun j hj => by cases hj))
      have hbw0 : b ≤ w0.heap.size := by omega
      rw [hr]
      have hbr : b < r := by omega
      clear hrg0 hg0 hs0 HB HD3 hr hbl
      go_frame
      go_loopw [8] (fun _ wx => ∃ (left : Lit → Bool) (cnt : Nat) (D : DataW Unit), Hid (wx.ranges Tryd.prog 9 unitElem b r 4 D left cnt) ∧ Hid (Struck D left) ∧ Hid (Below b w wx)) (fun _ wx => wx.rangeLeft b r)
      case atStart => exact ⟨_, _, _, HR0, hide (.inl ⟨rfl, by kernel_rfl⟩), HB0⟩
      case round =>
        clear HR0 HB0
        obtain ⟨left, cnt, D, HRG, HST, HB⟩ := hrel
        go_wp2_with (at_next; refine wpList_next_ranges _ rfl _ rfl 9 keyS unitElem encStr (fun _ : Unit => .agg #[]) (fun key kl h => by obtain ⟨x, hx, _⟩ := Maps.keyOf_str Tryd.underlying9 h; exact ⟨x, hx⟩) (fun v y h => ⟨(), (unitElem_inv h).1⟩) b r 4 _ _ _ rfl HRG.out ?_ ?_)
        · intro _ hl0
          have HDM : Hid (wr.ownsMap Tryd.prog 9 unitElem b 4 D2) := hide (by rw [← HST.out.end_ hl0]; exact HRG.out.owns)
          have hbl : b < wr.heap.size := by
            obtain ⟨es, clock, h1, _⟩ := HDM.out
            exact (Array.getElem?_eq_some_iff.1 h1).1
          have XK := hide (callsIn_wide.1 (Tryd.maps_Keys_22 (some b) wr))
          have XS := hide (callsIn_wide.1 (Tryd.slices_Sorted_keys_21_22 b 4 D2 unitElem wr HDM.out (by decide) (by decide)))
          clear HRG HST hl0
          go_wp2_with fail
          refine XK.out.mono ?_
          rintro e w1 ⟨rfl, rfl⟩
          clear XK
          go_wp2_with fail
          refine XS.out.mono ?_
          rintro e w2 ⟨v, ss, rfl, hp, hrow, hnil, hb2⟩
          have hl2 : ss.length = 2 := hp.length_eq
          rw [sort2 ss hp, hl2] at hrow
          obtain ⟨A, c', rfl⟩ := own_slice hrow
          have HO : Hid (Ow b w2 A 2 c' [[97, 46, 99], [98, 46, 99]]) := hide (own_more hrow (by simp; omega))
          have HB2 : Hid (Below b w w2) := hide ((HB.out.alloc (Nat.le_of_lt hbl) _).trans (hb2.mono (by simp; omega)))
          clear XS hp hrow hnil hb2
          go_wp2_with fail
          go_ret
          exact ⟨A, c', rfl, by rw [HBB.out]; exact HO.out, by rw [HBB.out]; exact HB2.out⟩
        · intro x c kl y w1 cnt1 hkey hlk hv hat hrg1 hlt hg1 hs1 hen
          obtain ⟨x', ex, rfl, hxm⟩ := Maps.keyOf_str Tryd.underlying9 hkey
          have hhas : has D (.string x') = true := has_true_of_atKey hat
          obtain rfl : x = x' := encStr_inj ex
          have HEN : Hid ((Instr.entry (.pointer (some ⟨r, 0, none⟩))).run Tryd.prog w1 = .ok (.tuple #[.string ⟨x.toArray⟩, .agg #[]]) w1) := hide hen
          have hen' := HEN.out
          have HB1 : Hid (Below b w w1) := hide (HB.out.grown hg1 (by have := HRG.out.lt; omega) (fun j hj => by cases hj; omega))
          have XP := hide (fun W => pre_l x [46] W)
          have HR1 := hide hrg1
          have HCN := hide hlt
          have HHAS := hide hhas
          have HKEY := hide (hkey : keyOf Tryd.prog 9 (.string ⟨x.toArray⟩) = some (.string x))
          have HL := hide (HRG.out.left_eq)
          clear hkey hlk hv hat hrg1 hlt hg1 hs1 hen hhas ex hxm HB
          obtain ⟨q, hq⟩ : ∃ q, Lib.hasPrefix x [46] = q := ⟨_, rfl⟩
          rw [hq] at XP
          cases q with
          | true =>
            have HST2 := hide (fun l' => HST.out.hit x HHAS.out hq l')
            clear hq HST HHAS
            go_wp2_with fail
            refine (XP.out _).mono ?_
            rintro e w2 ⟨rfl, rfl⟩
            go_wp2_with (at_delete; refine wpList_delete_ranges _ rfl _ _ 45 9 rfl 46 keyS Tryd.underlying45 _ b r 4 _ _ _ rfl HR1.out _ _ rfl HKEY.out ?_; intro w2 cnt2 hrg2 hle hturn; go_frame)
            have HB2 : Hid (Below b w w2) := hide (HB1.out.grown hturn.grown (by have := HR1.out.lt; omega) (fun j hj => by cases hj; exact Nat.le_refl _))
            go_roundw
            case rel => exact ⟨_, cnt2, _, hide hrg2, hide (HST2.out _), HB2⟩
            case measure => rw [hrg2.left_eq, HL.out]; have := HCN.out; omega
          | false =>
            have HST2 := hide (HST.out.miss x hq)
            clear hq HST HHAS
            go_wp2_with fail
            refine (XP.out _).mono ?_
            rintro e w2 ⟨rfl, rfl⟩
            go_wp2_with fail
            go_roundw
            case rel => exact ⟨_, cnt1, D, HR1, HST2, HB1⟩
            case measure => rw [HR1.out.left_eq, HL.out]; exact HCN.out
end Go.Proofs.YtbphpijehfcbkaaDoor
