/- Contracts of path.Parts, path.cleaned, path.text (over texts in rows: NdS). -/
import Derived.Test.YthbackkcamgidaaGreatDoorEnvP
import Derived.Test.YthbackkcamgidaaGreatDoorShelf
namespace Go.Proofs.YthbackkcamgidaaGreatDoor
open Go.RowKit
set_option linter.unusedVariables false
def nonE (k : Bs) : Bool := !k.isEmpty
theorem parts_eq (s : Bs) : parts s = (splitC 47 s).filter nonE := rfl
theorem pieces (s : ByteArray) : (Lib.splitB ⟨#[47]⟩ 0 (Lib.countB s ⟨#[47]⟩) s).map Value.string = svs (splitC 47 s.data.toList) := by
  have h := Lib.splitB_data ⟨#[47]⟩ 0 (Lib.countB s ⟨#[47]⟩) s
  have h2 : Lib.splitK [47] 0 (Lib.countB s ⟨#[47]⟩) s.data.toList = splitC 47 s.data.toList := by
    rw [← split_eq]; rfl
  rw [show (⟨#[47]⟩ : ByteArray).data.toList = [47] from rfl, h2] at h
  rw [← h]
  simp [svs, sv]
theorem splitC_tail (c : UInt8) (x : UInt8) (r : Bs) (hx : ¬ x = c) : (splitC c (x :: r)).length = (splitC c r).length := by
  obtain ⟨h, t, e⟩ := splitC_form c r
  rw [splitC, if_neg hx, e]; rfl
theorem splitC_len (c : UInt8) : ∀ s : Bs, (splitC c s).length = Lib.count s [c] + 1
  | [] => rfl
  | x :: r => by
    have ih := splitC_len c r
    by_cases hx : x = c
    · subst hx
      have hi : Lib.index (x :: r) [x] = ((0 : Nat) : Int) := by unfold Lib.index; simp [List.isPrefixOf]
      rw [Lib.count_hit (by simp) hi, splitC, if_pos rfl, List.length_cons, ih]
      simp [Nat.add_comm]
    · have h0 : Lib.index (x :: r) [c] = if Lib.index r [c] == -1 then -1 else Lib.index r [c] + 1 := by
        rw [Lib.index]; simp [List.isPrefixOf, Ne.symm hx]
      rw [splitC_tail c x r hx, ih]
      rcases Lib.index_spec r [c] with ⟨h1, _⟩ | ⟨i, h1, h2, h3, _⟩
      · have hm : Lib.index (x :: r) [c] = -1 := by rw [h0, h1]; rfl
        rw [Lib.count_miss hm, Lib.count_miss h1]
      · have hm : Lib.index (x :: r) [c] = ((i + 1 : Nat) : Int) := by
          rw [h0, h1, if_neg (by simp)]; omega
        rw [Lib.count_hit (by simp) hm, Lib.count_hit (by simp) h1]
        simp
theorem split_c (s : ByteArray) (m : Int) (w : World) (hs : s.size ≤ 100000) (hm : w.cell? ⟨4, 0, none⟩ = some (.int .i64 m)) :
    Calls Tryz.prog 111 #[.string s, .string ⟨#[47]⟩] w fun e w' => e = .returned (.slice (some ⟨w.heap.size, 0, none⟩) (splitC 47 s.data.toList).length (splitC 47 s.data.toList).length) ∧ w.alloc (.cells (svs (splitC 47 s.data.toList)).toArray 9) = w' := by
  refine (Any.strings_Split Tryz.lays146 (by kernel_rfl) s ⟨#[47]⟩ m _ (by omega) hm (by decide)).mono ?_
  rintro e w1 ⟨rfl, hw1⟩
  rw [pieces] at hw1
  have hN : Lib.countB s ⟨#[47]⟩ + 1 = (splitC 47 s.data.toList).length := (splitC_len 47 s.data.toList).symm
  rw [hN]
  exact ⟨rfl, hw1.symm⟩
theorem splitC_le (c : UInt8) (s : Bs) : (splitC c s).length ≤ s.length + 1 := by
  induction s with
  | nil => simp [splitC]
  | cons x r ih =>
    obtain ⟨h, t, e⟩ := splitC_form c r
    rw [splitC]; rw [e] at ih ⊢
    split <;> (simp at ih ⊢; omega)
theorem take_keep (ps : List Bs) (k : Nat) (h : k < ps.length) (hx : ps[k] ≠ []) : (ps.take (k + 1)).filter nonE = (ps.take k).filter nonE ++ [ps[k]] := by
  rw [List.take_succ_eq_append_getElem h, List.filter_append]
  congr 1
  cases hp : ps[k] with
  | nil => exact absurd hp hx
  | cons a t => rfl
theorem take_drop_ (ps : List Bs) (k : Nat) (h : k < ps.length) (hx : ps[k] = []) : (ps.take (k + 1)).filter nonE = (ps.take k).filter nonE := by
  rw [List.take_succ_eq_append_getElem h, List.filter_append, hx]
  simp [nonE]
set_option maxHeartbeats 1000000 in
theorem parts_any (s : ByteArray) (m : Int) (w : World) (hs : s.size ≤ 100000) (hm : w.cell? ⟨4, 0, none⟩ = some (.int .i64 m)) :
    Calls Tryz.prog 121 #[.string s] w fun e w' => ∃ A n c, e = .returned (.slice A n c) ∧ Ow w.heap.size w' A n c (parts s.data.toList) ∧ Below w.heap.size w w' := by
  obtain ⟨i0, hi, hz0, hz1, hz2⟩ := info_parts infoStr
  have hP : parts s.data.toList = (splitC 47 s.data.toList).filter nonE := rfl
  have hL : (splitC 47 s.data.toList).length ≤ 100001 := by
    have h := splitC_le 47 s.data.toList
    have : s.data.toList.length = s.size := by simp
    omega
  have hsp := split_c s m w hs hm
  generalize splitC 47 s.data.toList = ps at hP hL hsp
  have HP := hide hP
  have HS := hide hsp
  clear hP hsp hm
  go_enter Tryz.func121, Tryz.ntmps121
  go_wp2_with fail
  refine HS.out.mono ?_
  rintro e w1 ⟨rfl, hw1⟩
  have hnew := Blk.new w 9 (svs ps).toArray
  have hb1 := (Below.refl w.heap.size w).alloc (Nat.le_refl _) (.cells (svs ps).toArray 9)
  have hz1 : w.heap.size + 1 = w1.heap.size := by rw [← hw1]; simp
  rw [hw1] at hnew hb1
  clear hw1
  have HZ := hide hz1
  clear hz1
  go_wp2
  go_loopw [3, 9] (fun v i wr => ∃ (k : Nat) (A : Option Addr) (n c : Nat), k ≤ ps.length ∧ i = .int .i64 k ∧ v = .slice A n c ∧ Ow (w.heap.size + 1) wr A n c ((ps.take k).filter nonE) ∧ Blk wr w.heap.size 9 (svs ps).toArray ∧ Below w.heap.size w wr)
    (fun _ i _ => ps.length - (intOf i).toNat)
  case atStart => exact ⟨0, none, 0, 0, Nat.zero_le _, rfl, rfl, Ow.none_ _ _, hnew, hb1⟩
  case round =>
    obtain ⟨k, A, n, c, hk, rfl, rfl, hO, hB, hW⟩ := hrel
    have HO := hide hO
    have HB := hide hB
    have HW := hide hW
    clear hO hB hW hnew hb1
    by_cases hlt : k < ps.length
    · have hcell : wr.cell? ⟨w.heap.size, k, none⟩ = some (.string ⟨ps[k].toArray⟩) := by
        rw [HB.out.cell]; simp [svs, sv, hlt]
      by_cases hx : ps[k] = []
      · have hT := hide (take_drop_ ps k hlt hx)
        rw [hx] at hcell
        clear hx
        go_wp2
        go_roundw
        case rel => exact ⟨k + 1, A, n, c, by omega, by go_num, rfl, by rw [hT.out]; exact HO.out, HB.out, HW.out⟩
        case measure => simp [intOf]; omega
      · have hT := hide (take_keep ps k hlt hx)
        have hne : (!List.isEmpty ps[k]) = true := by cases hp : ps[k] with
          | nil => exact absurd hp hx
          | cons a t => rfl
        clear hx
        have hr1 := one_str wr ps[k]
        have hO1 := (HO.out.alloc (.cells #[.string ⟨ps[k].toArray⟩] 9))
        have hn : n ≤ 100001 := by
          have h1 := HO.out.len
          have h2 := List.length_filter_le nonE (ps.take k)
          rw [List.length_take] at h2; omega
        go_wp2_with (at_builtin; (refine wpList_append_any _ rfl (.tmp 15) (.tmp 17) 38 rfl (w.heap.size + 1) 9 i0 _ 1 16 Tryz.underlying38 hi hz0 hz1 hz2 rfl (by omega) (.slice A n c) n (svs ((ps.take k).filter nonE)) rfl hO1 (wr.heap.size + 1) (some ⟨wr.heap.size, 0, none⟩) 1 1 (svs [ps[k]]) rfl hr1 (svs_one _) ?c1 ?c2 ?c3 ?_))
        case c1 => unfold maxLen; omega
        case c2 => omega
        case c3 => have := HW.out.size; have := HB.out.lt; simp; omega
        intro v1 w2 hown1 hg1 hat1
        obtain ⟨A', c', rfl, O2, B2, W2⟩ := ow_next HO.out hown1 hg1 HB.out (by omega) HW.out (by omega)
        clear hown1 hg1 hat1 hcell hr1 hO1
        have HO2 := hide O2
        have HB2 := hide B2
        have HW2 := hide W2
        clear O2 B2 W2
        go_wp2
        go_roundw
        case rel => exact ⟨k + 1, A', n + 1, c', by omega, by go_num, rfl, by rw [hT.out]; exact HO2.out, HB2.out, HW2.out⟩
        case measure => simp [intOf]; omega
    · go_wp2
      go_ret
      obtain rfl : k = ps.length := by omega
      refine ⟨A, n, c, rfl, ?_, HW.out⟩
      rw [HP.out]
      have h := HO.out
      rw [List.take_length] at h
      exact h.more (by omega)
theorem foldl_take (f : List Bs → Bs → List Bs) (b : List Bs) (ps : List Bs) (k : Nat) (h : k < ps.length) : (ps.take (k + 1)).foldl f b = f ((ps.take k).foldl f b) ps[k] := by
  rw [List.take_succ_eq_append_getElem h, List.foldl_append]; rfl
theorem step_len (root : Bool) (ks : List Bs) (x : Bs) : (stepP root ks x).length ≤ ks.length + 1 := by
  unfold stepP
  split
  · omega
  · split
    · simp
    · split
      · simp; omega
      · split <;> simp
theorem fold_len (root : Bool) (ps : List Bs) : ∀ ks : List Bs, (ps.foldl (stepP root) ks).length ≤ ks.length + ps.length := by
  induction ps with
  | nil => intro ks; simp
  | cons p r ih => intro ks; have h1 := ih (stepP root ks p); have h2 := step_len root ks p; simp only [List.foldl_cons, List.length_cons]; omega
theorem parts_le (s : Bs) : (parts s).length ≤ s.length + 1 := Nat.le_trans (List.length_filter_le _ _) (splitC_le 47 s)
set_option maxHeartbeats 2000000 in
theorem cleaned_any (s : ByteArray) (root : Bool) (m : Int) (w : World) (hs : s.size ≤ 100000) (hm : w.cell? ⟨4, 0, none⟩ = some (.int .i64 m)) :
    Calls Tryz.prog 110 #[.string s, .bool root] w fun e w' => ∃ A n c, e = .returned (.slice A n c) ∧ Ow w.heap.size w' A n c (cleaned s.data.toList root) ∧ Below w.heap.size w w' := by
  obtain ⟨i0, hi, hz0, hz1, hz2⟩ := info_parts infoStr
  have hP : cleaned s.data.toList root = (parts s.data.toList).foldl (stepP root) [] := rfl
  have hL : (parts s.data.toList).length ≤ 100001 := by
    have h := parts_le s.data.toList
    have : s.data.toList.length = s.size := by simp
    omega
  have hsp := parts_any s m w hs hm
  generalize parts s.data.toList = ps at hP hL hsp
  have HP := hide hP
  have HS := hide hsp
  clear hP hsp hm
  go_enter Tryz.func110, Tryz.ntmps110
  go_wp2_with fail
  refine HS.out.mono ?_
  rintro e w1 ⟨A1, n1, c1, rfl, hO1, hb1⟩
  have hl1 := hO1.len
  subst hl1
  have hR1 := hide hO1.rd
  have hK1 := hide hb1
  clear hO1 hb1 HS
  go_wp2
  go_loopw [5, 12] (fun v i wr => ∃ (k : Nat) (A : Option Addr) (n c : Nat), k ≤ ps.length ∧ i = .int .i64 k ∧ v = .slice A n c ∧ Ow w1.heap.size wr A n c ((ps.take k).foldl (stepP root) []) ∧ Below w1.heap.size w1 wr)
    (fun _ i _ => ps.length - (intOf i).toNat)
  case atStart => exact ⟨0, none, 0, 0, Nat.zero_le _, rfl, rfl, Ow.none_ _ _, Below.refl _ _⟩
  case round =>
    obtain ⟨k, A, n, c, hk, rfl, rfl, hO, hW⟩ := hrel
    have HO := hide hO
    have HW := hide hW
    clear hO hW
    by_cases hlt : k < ps.length
    · obtain ⟨ad, u, hA1, _, hu, hcell⟩ := (Reads.below hR1.out HW.out).at_ hlt
      subst hA1
      rw [svs_get ps k hlt] at hu
      injection hu with hu
      subst hu
      unfold sv at hcell
      have hT := hide (foldl_take (stepP root) [] ps k hlt)
      have hn : n ≤ 100001 := by
        have h1 := HO.out.len
        have h2 := fold_len root (ps.take k) []
        rw [List.length_take] at h2; simp at h2; omega
      generalize hks : (ps.take k).foldl (stepP root) [] = ks at *
      have Hks := hide hks
      clear hks
      generalize ps[k] = x at *
      by_cases hx1 : x = [46]
      · subst hx1
        have hst : stepP root ks [46] = ks := by unfold stepP; rw [if_pos rfl]
        have HT := hide hst
        clear hst
        go_wp2
        go_roundw
        case rel => exact ⟨k + 1, A, n, c, by omega, by go_num, rfl, by rw [hT.out, HT.out]; exact HO.out, HW.out⟩
        case measure => simp [intOf]; omega
      · by_cases hx2 : x = [46, 46]
        · subst hx2
          rcases Nat.eq_zero_or_pos n with h0 | h0
          · have hk0 : ks = [] := List.eq_nil_of_length_eq_zero (by rw [HO.out.len, h0])
            subst h0
            cases root
            · have hst : stepP false ks [46, 46] = ks ++ [[46, 46]] := by rw [hk0]; rfl
              clear hk0
              have hr1 := one_str wr [46, 46]
              have hO1 := (HO.out.alloc (.cells #[.string ⟨([46, 46] : Bs).toArray⟩] 9))
              have HTT := hide hst
              clear hst
              go_wp2_with (at_builtin; (refine wpList_append_any _ rfl (.tmp 46) (.tmp 48) 38 rfl w1.heap.size 9 i0 _ 1 16 Tryz.underlying38 hi hz0 hz1 hz2 rfl (by omega) (.slice A (0) c) (0) (svs ks) rfl hO1 (wr.heap.size + 1) (some ⟨wr.heap.size, 0, none⟩) 1 1 (svs [[46, 46]]) rfl hr1 (svs_one _) ?a1 ?a2 ?a3 ?_))
              case a1 => unfold maxLen; omega
              case a2 => omega
              case a3 => have := HW.out.size; simp; omega
              intro v1 w2 hown1 hg1 hat1
              obtain ⟨A', c', rfl, O2, W2⟩ := ow_next' HO.out hown1 hg1 HW.out (Nat.le_refl _)
              clear hown1 hg1 hat1 hcell hr1 hO1
              have HO2 := hide O2
              have HW2 := hide W2
              clear O2 W2
              go_wp2
              go_roundw
              case rel => exact ⟨k + 1, A', 0 + 1, c', by omega, by go_num, rfl, by rw [hT.out, HTT.out]; exact HO2.out, HW2.out⟩
              case measure => simp [intOf]; omega
            · have hst : stepP true ks [46, 46] = ks := by rw [hk0]; rfl
              clear hk0
              have HTT := hide hst
              clear hst
              go_wp2
              go_roundw
              case rel => exact ⟨k + 1, A, 0, c, by omega, by go_num, rfl, by rw [hT.out, HTT.out]; exact HO.out, HW.out⟩
              case measure => simp [intOf]; omega
          · obtain ⟨q, rfl⟩ : ∃ q, n = q + 1 := ⟨n - 1, by omega⟩
            clear h0
            obtain ⟨hD, hqc, g, rfl, hlast⟩ := ow_drop HO.out
            have hkn : ks ≠ [] := by intro e; have := HO.out.len; rw [e] at this; simp at this
            have hgl : ks.getLast? = some (ks.getLastD []) := by
              rw [List.getLastD_eq_getLast?]
              cases hks : ks.getLast? with
              | none => rw [List.getLast?_eq_none_iff] at hks; exact absurd hks hkn
              | some y => rfl
            generalize ks.getLastD [] = lst at *
            have hsl := fun W => run_slice_to (P := Tryz.prog) 38 9 Tryz.underlying38 sizeStr (some ⟨g, 0, none⟩) (q + 1) c .i64 (q : Int) (by omega) (by omega) W
            simp only [Int.toNat_natCast] at hsl
            by_cases hl2 : lst = [46, 46]
            · subst hl2
              cases root
              · have hst : stepP false ks [46, 46] = ks ++ [[46, 46]] := by
                  unfold stepP; rw [if_neg (by decide), if_neg (by simp), if_neg (by rw [hgl]; simp), if_neg (by decide)]
                clear hgl hkn hD hsl
                have hr1 := one_str wr [46, 46]
                have hO1 := (HO.out.alloc (.cells #[.string ⟨([46, 46] : Bs).toArray⟩] 9))
                have HTT := hide hst
                clear hst
                go_wp2_with (at_builtin; (refine wpList_append_any _ rfl (.tmp 46) (.tmp 48) 38 rfl w1.heap.size 9 i0 _ 1 16 Tryz.underlying38 hi hz0 hz1 hz2 rfl (by omega) (.slice (some ⟨g, 0, none⟩) (q + 1) c) (q + 1) (svs ks) rfl hO1 (wr.heap.size + 1) (some ⟨wr.heap.size, 0, none⟩) 1 1 (svs [[46, 46]]) rfl hr1 (svs_one _) ?b1 ?b2 ?b3 ?_))
                case b1 => unfold maxLen; omega
                case b2 => omega
                case b3 => have := HW.out.size; simp; omega
                intro v1 w2 hown1 hg1 hat1
                obtain ⟨A', c', rfl, O2, W2⟩ := ow_next' HO.out hown1 hg1 HW.out (Nat.le_refl _)
                clear hown1 hg1 hat1 hcell hr1 hO1
                have HO2 := hide O2
                have HW2 := hide W2
                clear O2 W2
                go_wp2
                go_roundw
                case rel => exact ⟨k + 1, A', q + 1 + 1, c', by omega, by go_num, rfl, by rw [hT.out, HTT.out]; exact HO2.out, HW2.out⟩
                case measure => simp [intOf]; omega
              · have hst : stepP true ks [46, 46] = ks := by
                  unfold stepP; rw [if_neg (by decide), if_neg (by simp), if_neg (by rw [hgl]; simp), if_pos rfl]
                clear hgl hkn hD hsl
                have HTT := hide hst
                clear hst
                go_wp2
                go_roundw
                case rel => exact ⟨k + 1, (some ⟨g, 0, none⟩), q + 1, c, by omega, by go_num, rfl, by rw [hT.out, HTT.out]; exact HO.out, HW.out⟩
                case measure => simp [intOf]; omega
            · have hst : stepP root ks [46, 46] = ks.dropLast := by
                unfold stepP; rw [if_neg (by decide), if_neg (by simp), if_pos ⟨hkn, by rw [hgl]; intro e; injection e with e; exact hl2 e⟩]
              have HTT := hide hst
              have HD := hide hD
              clear hst hgl hkn hD
              have hl3 : (lst == [46, 46]) = false := beq_eq_false_iff_ne.2 hl2
              clear hl2
              go_wp2
              go_roundw
              case rel => exact ⟨k + 1, some ⟨g, 0, none⟩, q, c, by omega, by go_num, rfl, by rw [hT.out, HTT.out]; exact HD.out, HW.out⟩
              case measure => simp [intOf]; omega
        · have hst : stepP root ks x = ks ++ [x] := by unfold stepP; rw [if_neg hx1, if_pos hx2]
          have he1 : (x == [46]) = false := beq_eq_false_iff_ne.2 hx1
          have he2 : (x == [46, 46]) = false := beq_eq_false_iff_ne.2 hx2
          clear hx1 hx2
          have hr1 := one_str wr x
          have hO1 := (HO.out.alloc (.cells #[.string ⟨(x : Bs).toArray⟩] 9))
          have HTT := hide hst
          clear hst
          go_wp2_with (at_builtin; (refine wpList_append_any _ rfl (.tmp 24) (.tmp 26) 38 rfl w1.heap.size 9 i0 _ 1 16 Tryz.underlying38 hi hz0 hz1 hz2 rfl (by omega) (.slice A (n) c) (n) (svs ks) rfl hO1 (wr.heap.size + 1) (some ⟨wr.heap.size, 0, none⟩) 1 1 (svs [x]) rfl hr1 (svs_one _) ?d1 ?d2 ?d3 ?_))
          case d1 => unfold maxLen; omega
          case d2 => omega
          case d3 => have := HW.out.size; simp; omega
          intro v1 w2 hown1 hg1 hat1
          obtain ⟨A', c', rfl, O2, W2⟩ := ow_next' HO.out hown1 hg1 HW.out (Nat.le_refl _)
          clear hown1 hg1 hat1 hcell hr1 hO1
          have HO2 := hide O2
          have HW2 := hide W2
          clear O2 W2
          go_wp2
          go_roundw
          case rel => exact ⟨k + 1, A', n + 1, c', by omega, by go_num, rfl, by rw [hT.out, HTT.out]; exact HO2.out, HW2.out⟩
          case measure => simp [intOf]; omega
    · go_wp2
      go_ret
      obtain rfl : k = ps.length := by omega
      refine ⟨A, n, c, rfl, ?_, (hK1.out.trans (HW.out.mono hK1.out.size))⟩
      rw [HP.out]
      have h := HO.out
      rw [List.take_length] at h
      exact h.more hK1.out.size
/-- All the parts together. -/
def total (ks : List Bs) : Nat := (Lib.join ks [47]).length
theorem total_len (ks : List Bs) : ks.length ≤ total ks + 1 := by
  unfold total
  cases ks with
  | nil => simp
  | cons x r => rw [Lib.join_cons, List.length_append, Lib.joinTail_length]; simp; omega
set_option maxHeartbeats 1000000 in
theorem text_r (root : Bool) (A : Option Addr) (n c : Nat) (ks : List Bs) (w : World) (hR : Reads w w.heap.size 1 A n (svs ks)) (hc : n ≤ c) (hA : 0 < n → ∃ g o, A = some ⟨g, o, none⟩) (ht : total ks ≤ 1000000) :
    Calls Tryz.prog 109 #[.bool root, .slice A n c] w fun e w' => e = .returned (sv (text root ks)) ∧ Below w.heap.size w w' := by
  have hj : Calls Tryz.prog 52 #[.slice A n c, .string ⟨#[47]⟩] w fun e w' => e = .returned (.string ⟨(Lib.join ks [47]).toArray⟩) ∧ Below w.heap.size w w' := by
    have hl : ks.length = n := by have := hR.1; rw [svs_length] at this; omega
    rcases Nat.eq_zero_or_pos n with h0 | h0
    · subst h0
      obtain rfl := List.eq_nil_of_length_eq_zero hl
      refine (Any.strings_Join_none Tryz.lays156 Tryz.Builder_Extra_156 A c ⟨#[47]⟩ w).mono ?_
      rintro e w' ⟨rfl, rfl⟩
      exact ⟨rfl, Below.refl _ _⟩
    · obtain ⟨g, o, rfl⟩ := hA h0
      obtain ⟨ad, e1, hb, hcl⟩ := hR.2 h0
      injection e1 with e1
      subst e1
      have hlx : (ks.map fun k => (⟨k.toArray⟩ : ByteArray)).length = n := by rw [List.length_map, hl]
      have hmm : (ks.map fun k => (⟨k.toArray⟩ : ByteArray)).map (fun x => x.data.toList) = ks := by simp [List.map_map, Function.comp_def]
      have h := Any.strings_Join Tryz.lays156 Tryz.Builder_Extra_156 g o c (ks.map fun k => (⟨k.toArray⟩ : ByteArray)) ⟨#[47]⟩ w ?_ hb (by rw [hlx]; have := total_len ks; omega) (by rw [hlx]; exact hc) (by rw [hmm]; unfold total at ht; show (Lib.join ks [47]).length ≤ _; omega)
      · rw [hlx, hmm] at h
        exact h
      · intro j x hj
        rw [List.getElem?_map] at hj
        have hjl : j < ks.length := by
          rcases Nat.lt_or_ge j ks.length with h | h
          · exact h
          · rw [List.getElem?_eq_none h] at hj; cases hj
        rw [List.getElem?_eq_getElem hjl] at hj
        simp only [Option.map_some, Option.some.injEq] at hj
        subst hj
        have := hcl j _ (svs_get ks j hjl)
        rw [at_add] at this
        exact this
  have hlen : (Lib.join ks [47]).length ≤ 1000000 := ht
  clear hR hA
  unfold text sv
  generalize Lib.join ks [47] = j at hj hlen
  have HJ := hide hj
  clear hj
  cases root
  · by_cases h0 : j = []
    · subst h0
      go_enter Tryz.func109, Tryz.ntmps109
      go_wp2_with fail
      refine HJ.out.mono ?_
      rintro e w1 ⟨rfl, hb⟩
      go_wp2
      go_ret
      exact ⟨rfl, hb⟩
    · have he : j.isEmpty = false := by cases j with
        | nil => exact absurd rfl h0
        | cons a t => rfl
      have HN := hide h0
      clear h0
      go_enter Tryz.func109, Tryz.ntmps109
      go_wp2_with fail
      refine HJ.out.mono ?_
      rintro e w1 ⟨rfl, hb⟩
      go_wp2
      go_ret
      exact ⟨rfl, hb⟩
  · go_enter Tryz.func109, Tryz.ntmps109
    go_wp2_with fail
    refine HJ.out.mono ?_
    rintro e w1 ⟨rfl, hb⟩
    go_wp2
    go_ret
    refine ⟨ret_str ?_, hb⟩
    apply ByteArray.ext
    simp
theorem text_any (root : Bool) (A : Option Addr) (n c : Nat) (ks : List Bs) (B : Nat) (w : World) (hO : Ow B w A n c ks) (ht : total ks ≤ 1000000) :
    Calls Tryz.prog 109 #[.bool root, .slice A n c] w fun e w' => e = .returned (sv (text root ks)) ∧ Below w.heap.size w w' :=
  text_r root A n c ks w hO.rd hO.addr.1 hO.addr.2 ht
end Go.Proofs.YthbackkcamgidaaGreatDoor
