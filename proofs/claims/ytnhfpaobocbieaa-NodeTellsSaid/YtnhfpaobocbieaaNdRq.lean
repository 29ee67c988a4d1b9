/- The document's Parts, left, text, Clean, Name. -/
import Derived.Test.YtnhfpaobocbieaaNdPm
import Derived.Outline
namespace Go.Proofs.Ytnhfpaobocbieaa
open Go.RowKit
set_option linter.unusedVariables false
theorem toNat47 (x : UInt8) : ((x.toNat : Int) == 47) = (x == 47) := by
  rw [Bool.eq_iff_iff, beq_iff_eq, beq_iff_eq]
  constructor
  · intro h; apply UInt8.toNat_inj.1; have : x.toNat = 47 := by omega
    rw [this]; rfl
  · rintro rfl; rfl
theorem splitC_tail (c : UInt8) (x : UInt8) (r : Bs) (hx : ¬ x = c) : (splitC c (x :: r)).length = (splitC c r).length := by
  obtain ⟨h, t, e⟩ := splitC_form c r
  rw [splitC, if_neg hx, e]; rfl
theorem splitC_len (c : UInt8) : ∀ s : Bs, (splitC c s).length = Lib.count s [c] + 1
  | [] => rfl
  | x :: r => by
    have ih := splitC_len c r
    by_cases hx : x = c
    · subst hx
      have hi : Lib.index (x :: r) [x] = ((0 : Nat) : Int) := by unfold Lib.index; simp [List.isPrefixOf]
      rw [Lib.count_hit (by simp) hi, splitC, if_pos rfl, List.length_cons, ih]
      simp [Nat.add_comm]
    · have h0 : Lib.index (x :: r) [c] = if Lib.index r [c] == -1 then -1 else Lib.index r [c] + 1 := by
        rw [Lib.index]; simp [List.isPrefixOf, Ne.symm hx]
      rw [splitC_tail c x r hx, ih]
      rcases Lib.index_spec r [c] with ⟨h1, _⟩ | ⟨i, h1, h2, h3, _⟩
      · have hm : Lib.index (x :: r) [c] = -1 := by rw [h0, h1]; rfl
        rw [Lib.count_miss hm, Lib.count_miss h1]
      · have hm : Lib.index (x :: r) [c] = ((i + 1 : Nat) : Int) := by
          rw [h0, h1, if_neg (by simp)]; omega
        rw [Lib.count_hit (by simp) hm, Lib.count_hit (by simp) h1]
        simp
theorem splitC_le (c : UInt8) (s : Bs) : (splitC c s).length ≤ s.length + 1 := by
  induction s with
  | nil => simp [splitC]
  | cons x r ih =>
    obtain ⟨h, t, e⟩ := splitC_form c r
    rw [splitC]; rw [e] at ih ⊢
    split <;> (simp at ih ⊢; omega)

theorem parts_le (s : Bs) : (parts s).length ≤ s.length + 1 := Nat.le_trans (List.length_filter_le _ _) (splitC_le 47 s)

theorem foldl_take (f : List Bs → Bs → List Bs) (b : List Bs) (ps : List Bs) (k : Nat) (h : k < ps.length) : (ps.take (k + 1)).foldl f b = f ((ps.take k).foldl f b) ps[k] := by
  rw [List.take_succ_eq_append_getElem h, List.foldl_append]; rfl
theorem step_len (root : Bool) (ks : List Bs) (x : Bs) : (stepP root ks x).length ≤ ks.length + 1 := by
  unfold stepP
  split
  · omega
  · split
    · simp
    · split
      · simp; omega
      · split <;> simp
theorem fold_len (root : Bool) (ps : List Bs) : ∀ ks : List Bs, (ps.foldl (stepP root) ks).length ≤ ks.length + ps.length := by
  induction ps with
  | nil => intro ks; simp
  | cons p r ih => intro ks; have h1 := ih (stepP root ks p); have h2 := step_len root ks p; simp only [List.foldl_cons, List.length_cons]; omega
theorem join_snoc (ks : List Bs) (x : Bs) (h : ks ≠ []) : Lib.join (ks ++ [x]) [47] = Lib.join ks [47] ++ 47 :: x := by
  induction ks with
  | nil => exact absurd rfl h
  | cons y r ih =>
    cases r with
    | nil => rw [List.cons_append, List.nil_append, join_two, Lib.join_one, Lib.join_one]
    | cons z r =>
      rw [List.cons_append, List.cons_append, join_two, join_two]
      have := ih (by simp)
      rw [List.cons_append] at this
      rw [this]; simp
/-- All the parts together. -/
def total (ks : List Bs) : Nat := (Lib.join ks [47]).length
theorem total_len (ks : List Bs) : ks.length ≤ total ks + 1 := by
  unfold total
  cases ks with
  | nil => simp
  | cons x r => rw [Lib.join_cons, List.length_append, Lib.joinTail_length]; simp; omega

def wt (ks : List Bs) : Nat := (ks.map fun k => k.length + 1).sum
theorem wt_cons (x : Bs) (r : List Bs) : wt (x :: r) = x.length + 1 + wt r := by simp [wt]
theorem wt_app (a b : List Bs) : wt (a ++ b) = wt a + wt b := by simp [wt]
theorem total_wt (ks : List Bs) : total ks ≤ wt ks := by
  unfold total
  induction ks with
  | nil => simp [wt, Lib.join_nil]
  | cons x r ih =>
    cases r with
    | nil => rw [Lib.join_one, wt_cons]; omega
    | cons y r => rw [join_two, List.length_append, List.length_cons, wt_cons]; omega
theorem wt_split (c : UInt8) (s : Bs) : wt (splitC c s) = s.length + 1 := by
  induction s with
  | nil => rfl
  | cons x r ih =>
    obtain ⟨h, t, e⟩ := splitC_form c r
    rw [splitC]; rw [e] at ih ⊢
    split
    · rw [wt_cons, ih]; simp
      omega
    · rw [wt_cons] at ih ⊢
      simp only [List.headD_cons, List.tail_cons, List.length_cons]
      omega
theorem wt_filter (p : Bs → Bool) (ks : List Bs) : wt (ks.filter p) ≤ wt ks := by
  induction ks with
  | nil => simp
  | cons x r ih => rw [List.filter_cons]; split <;> (simp only [wt_cons]; omega)
theorem wt_parts (s : Bs) : wt (parts s) ≤ s.length + 1 := Nat.le_trans (wt_filter _ _) (Nat.le_of_eq (wt_split 47 s))
theorem wt_dropLast (ks : List Bs) : wt ks.dropLast ≤ wt ks := by
  rcases List.eq_nil_or_concat ks with rfl | ⟨l, x, rfl⟩
  · simp
  · rw [List.concat_eq_append, List.dropLast_concat, wt_app]; omega
theorem wt_step (root : Bool) (ks : List Bs) (x : Bs) : wt (stepP root ks x) ≤ wt ks + (x.length + 1) := by
  have h1 : wt (ks ++ [x]) = wt ks + (x.length + 1) := by rw [wt_app]; simp [wt]
  have h2 := wt_dropLast ks
  unfold stepP
  split
  · omega
  · split
    · omega
    · split
      · omega
      · split <;> omega
theorem wt_fold (root : Bool) (ps : List Bs) : ∀ ks : List Bs, wt (ps.foldl (stepP root) ks) ≤ wt ks + wt ps := by
  induction ps with
  | nil => intro ks; simp
  | cons p r ih => intro ks; have h1 := ih (stepP root ks p); have h2 := wt_step root ks p; rw [List.foldl_cons, wt_cons]; omega
theorem wt_cleaned (s : Bs) (root : Bool) : wt (cleaned s root) ≤ s.length + 1 := by
  have h1 := wt_fold root (parts s) []
  have h2 := wt_parts s
  unfold cleaned
  have : wt [] = 0 := rfl
  omega
theorem text_len (root : Bool) (ks : List Bs) : (text root ks).length ≤ wt ks + 1 := by
  have h := total_wt ks
  unfold total at h
  unfold text
  split
  · simp; omega
  · split
    · simp
    · omega
theorem ix_l (l : Bs) (i : Nat) (c : UInt8) (h : l[i]? = some c) (W : World) : (Instr.index 9 (.string ⟨l.toArray⟩) (.int .i64 (i : Int))).run Try.prog W = .ok (.int .u8 (c.toNat : Int)) W := by
  obtain ⟨h1, h2⟩ := List.getElem?_eq_some_iff.1 h
  rw [run_index_string (P := Try.prog) W 9 _ .i64 (i : Int) Try.underlying9, dif_pos ⟨by omega, by show (i : Int) < ((l.length : Nat) : Int); omega⟩]
  simp only [Int.toNat_natCast]
  rw [← h2]
  rfl
theorem u8_eq (x c : UInt8) : ((x.toNat : Int) == (c.toNat : Int)) = (x == c) := by
  rw [Bool.eq_iff_iff, beq_iff_eq, beq_iff_eq]
  exact ⟨fun h => UInt8.toNat_inj.1 (by omega), fun h => by rw [h]⟩
set_option maxRecDepth 100000 in
set_option maxHeartbeats 1000000 in
theorem rhas_any (l : Bs) (c : UInt8) (w : World) (hl : l.length ≤ 1000000) : Calls Try.prog 63 #[.string ⟨l.toArray⟩, .int .u8 (c.toNat : Int)] w fun e w' => e = .returned (.bool (hasL l c)) ∧ w = w' := by
  go_enter Try.func63, Try.ntmps63
  go_wp2_with fail
  go_loop [5] (fun u5 => ∃ i : Nat, i ≤ l.length ∧ u5 = .int .i64 i ∧ ∀ (j : Nat) x, j < i → l[j]? = some x → x ≠ c) (fun u5 => l.length - (intOf u5).toNat)
  case atStart => exact ⟨0, Nat.zero_le _, rfl, fun j b h => absurd h (by omega)⟩
  case round =>
    obtain ⟨i, hi, rfl, hcl⟩ := hrel
    have HCL := hide hcl
    clear hcl
    by_cases hlt : i < l.length
    · obtain ⟨x, hx⟩ : ∃ x, l[i]? = some x := ⟨_, List.getElem?_eq_getElem hlt⟩
      have hix := ix_l l i x hx
      have HX := hide hx
      by_cases hxc : x = c
      · have hz : ((x.toNat : Int) == (c.toNat : Int)) = true := by rw [u8_eq, hxc]; simp
        have HR : Hid (hasL l c = true) := hide (by unfold hasL; rw [List.contains_iff_mem, ← hxc]; exact List.mem_of_getElem? hx)
        clear hx hxc
        go_wp2_with fail
        go_ret
        exact ⟨ret_bool HR.out.symm, rfl⟩
      · have hz : ((x.toNat : Int) == (c.toNat : Int)) = false := by rw [u8_eq]; exact beq_eq_false_iff_ne.2 hxc
        have HXC := hide hxc
        clear hx hxc
        go_wp2_with fail
        go_round
        case rel =>
          refine ⟨i + 1, by omega, by go_num, fun j y h1 hy => ?_⟩
          rcases Nat.lt_or_ge j i with h2 | h2
          · exact HCL.out j y h2 hy
          · obtain rfl : j = i := by omega
            have h3 := HX.out
            rw [hy] at h3
            injection h3 with h3
            subst h3
            exact HXC.out
        case measure => simp [intOf]; omega
    · obtain rfl : i = l.length := by omega
      have HR : Hid (hasL l c = false) := hide (by
        unfold hasL
        rw [Bool.eq_false_iff]
        intro h
        rw [List.contains_iff_mem] at h
        obtain ⟨j, hj⟩ := List.getElem?_of_mem h
        obtain ⟨hjl, _⟩ := List.getElem?_eq_some_iff.1 hj
        exact HCL.out j c hjl hj rfl)
      go_wp2_with fail
      go_ret
      exact ⟨ret_bool HR.out.symm, rfl⟩
theorem rrooted_any (l : Bs) (w : World) : Calls Try.prog 47 #[.string ⟨l.toArray⟩] w fun e w' => e = .returned (.bool (rooted l)) ∧ w = w' := by
  cases l with
  | nil =>
    go_enter Try.func47, Try.ntmps47
    go_wp2
    go_ret
    exact ⟨rfl, rfl⟩
  | cons x t =>
    go_enter Try.func47, Try.ntmps47
    go_wp2_with fail
    go_ret
    exact ⟨ret_bool (by rw [rooted_cons]; exact toNat47 x), rfl⟩
set_option maxRecDepth 100000 in
set_option maxHeartbeats 1000000 in
theorem rname_any (l : Bs) (w : World) (hl : l.length ≤ 1000000) : Calls Try.prog 56 #[.string ⟨l.toArray⟩] w fun e w' => e = .returned (.int .i64 (nameC l)) ∧ w = w' := by
  have H1 := hide (fun V => rhas_any l 47 V hl)
  have H0 := hide (fun V => rhas_any l 0 V hl)
  by_cases e0 : l = []
  · subst e0
    go_enter Try.func56, Try.ntmps56
    go_wp2
    go_ret
    exact ⟨rfl, rfl⟩
  by_cases e1 : l = [46]
  · subst e1
    go_enter Try.func56, Try.ntmps56
    go_wp2
    go_ret
    exact ⟨rfl, rfl⟩
  by_cases e2 : l = [46, 46]
  · subst e2
    go_enter Try.func56, Try.ntmps56
    go_wp2
    go_ret
    exact ⟨rfl, rfl⟩
  have t0 : l.isEmpty = false := by cases l with
    | nil => exact absurd rfl e0
    | cons x t => rfl
  have t1 : (l == [46]) = false := beq_eq_false_iff_ne.2 e1
  have t2 : (l == [46, 46]) = false := beq_eq_false_iff_ne.2 e2
  have HE : Hid (nameC l = if hasL l 47 = true ∨ hasL l 0 = true then 32 else if 32 < l.length then 31 else 0) := hide (by unfold nameC; simp only [e0, e1, e2, false_or])
  clear e0 e1 e2
  obtain ⟨b1, hb1⟩ : ∃ b, hasL l 47 = b := ⟨_, rfl⟩
  obtain ⟨b0, hb0⟩ : ∃ b, hasL l 0 = b := ⟨_, rfl⟩
  rw [hb1] at H1 HE
  rw [hb0] at H0 HE
  clear hb1 hb0
  go_enter Try.func56, Try.ntmps56
  go_wp2_with fail
  refine (H1.out _).mono ?_
  rintro e w1 ⟨rfl, rfl⟩
  cases b1 with
  | true =>
    go_wp2_with fail
    go_ret
    exact ⟨ret_int (by rw [HE.out]; simp), rfl⟩
  | false =>
    go_wp2_with fail
    refine (H0.out _).mono ?_
    rintro e w1 ⟨rfl, rfl⟩
    cases b0 with
    | true =>
      go_wp2_with fail
      go_ret
      exact ⟨ret_int (by rw [HE.out]; simp), rfl⟩
    | false =>
      by_cases h32 : 32 < l.length
      · have h32' : (32 : Int) < (l.length : Int) := by omega
        go_wp2_with fail
        go_ret
        exact ⟨ret_int (by rw [HE.out]; simp [h32]), rfl⟩
      · have h32' : ¬ (32 : Int) < (l.length : Int) := by omega
        go_wp2_with fail
        go_ret
        exact ⟨ret_int (by rw [HE.out]; simp [h32]), rfl⟩
/-- The parts of what has been read: those that are whole, and the one that has begun. -/
def PartsSt (l : Bs) (done : List Bs) (now : Bs) : Prop := ∃ a, l = a ++ now ∧ (47 : UInt8) ∉ now ∧ ((a = [] ∧ done = []) ∨ ∃ b, a = b ++ [47] ∧ parts b = done)
def fin (done : List Bs) (now : Bs) : List Bs := if now = [] then done else done ++ [now]
theorem PartsSt.nil : PartsSt [] [] [] := ⟨[], rfl, by simp, .inl ⟨rfl, rfl⟩⟩
theorem PartsSt.parts {l : Bs} {done : List Bs} {now : Bs} (h : PartsSt l done now) : parts l = fin done now := by
  obtain ⟨a, rfl, hn, h⟩ := h
  have hp : Ytnhfpaobocbieaa.parts now = fin [] now := by
    unfold fin
    split
    · rename_i e; subst e; rfl
    · rename_i e; rw [parts_one now ⟨e, hn⟩]; rfl
  rcases h with ⟨rfl, rfl⟩ | ⟨b, rfl, hb⟩
  · rw [List.nil_append]; exact hp
  · rw [List.append_assoc, List.singleton_append, parts_app, hp, hb]
    unfold fin; split <;> simp
theorem PartsSt.byte {l : Bs} {done : List Bs} {now : Bs} (h : PartsSt l done now) {c : UInt8} (hc : c ≠ 47) : PartsSt (l ++ [c]) done (now ++ [c]) := by
  obtain ⟨a, rfl, hn, h⟩ := h
  exact ⟨a, by simp, by simp [hn, Ne.symm hc], h⟩
theorem PartsSt.slash {l : Bs} {done : List Bs} {now : Bs} (h : PartsSt l done now) : PartsSt (l ++ [47]) (fin done now) [] :=
  ⟨l ++ [47], by simp, by simp, .inr ⟨l, rfl, h.parts⟩⟩
theorem ow_grow {B : Nat} {w W wr w2 : World} {A : Option Addr} {n c m : Nat} {ks : List Bs} {x : Bs} {v : Value} (hO : Ow B wr A n c ks) (hW : w.heap.size = B) (hb : Below w.heap.size w wr) (he : W = wr.alloc (.cells #[sv x] 9))
    (ho : w2.ownsRow B 9 1 v (n + 1) (svs ks ++ svs [x])) (hg : W.grownBy w2 (Value.slice A n c).ownBlock) : ∃ A' c', v = .slice A' (n + 1) c' ∧ Ow B w2 A' (n + 1) c' (ks ++ [x]) ∧ Below w.heap.size w w2 := by
  obtain ⟨A', c', rfl⟩ := own_slice ho
  rw [← svs_append] at ho
  subst he
  have h0 := (hb.alloc hb.size (.cells #[sv x] 9))
  exact ⟨A', c', rfl, ho, h0.grown hg (by have := hb.size; simp; omega) (fun g hg => by have := (World.ownsRow.lt hO g hg).1; omega)⟩
theorem sl_one (l : Bs) (i : Nat) (c : UInt8) (h : l[i]? = some c) (W : World) : (Instr.slice 9 (.string ⟨l.toArray⟩) (some (.int .i64 (i : Int))) (some (.int .i64 ((i : Int) + 1))) none).run Try.prog W = .ok (.string ⟨#[c]⟩) W := by
  obtain ⟨h1, h2⟩ := List.getElem?_eq_some_iff.1 h
  rw [run_slice_string W 9 _ .i64 .i64 (i : Int) ((i : Int) + 1) Try.underlying9 (by omega) (by omega) (by show (i : Int) + 1 ≤ ((l.length : Nat) : Int); omega)]
  congr 2
  apply ByteArray.ext
  have e : ((i : Int) + 1).toNat = i + 1 := by omega
  simp only [Int.toNat_natCast, e]
  apply Array.toList_inj.1
  simp [List.take_one, h]
set_option maxRecDepth 100000 in
set_option maxHeartbeats 2000000 in
theorem rparts_any (l : Bs) (w : World) (hl : l.length ≤ 100000) :
    Calls Try.prog 24 #[.string ⟨l.toArray⟩] w fun e w' => ∃ A n c, e = .returned (.slice A n c) ∧ Ow w.heap.size w' A n c (parts l) ∧ Below w.heap.size w w' := by
  obtain ⟨i0, hi, hz0, hz1, hz2⟩ := info_parts infoStr
  go_enter Try.func24, Try.ntmps24
  go_wp2_with fail
  go_loopw [3, 4, 5] (fun u3 u4 u5 wx => ∃ (i n c : Nat) (A : Option Addr) (done : List Bs) (now : Bs), u5 = .int .i64 i ∧ u4 = .string ⟨now.toArray⟩ ∧ u3 = .slice A n c ∧ Ow w.heap.size wx A n c done ∧ Below w.heap.size w wx ∧ now.length ≤ i ∧ n ≤ i ∧ ((i ≤ l.length ∧ PartsSt (l.take i) done now) ∨ (i = l.length + 1 ∧ done = parts l))) (fun _ _ i _ => l.length + 1 - (intOf i).toNat)
  case atStart => exact ⟨0, 0, 0, none, [], [], rfl, rfl, rfl, Ow.none_ _ _, Below.refl _ _, Nat.le_refl _, Nat.le_refl _, .inl ⟨Nat.zero_le _, PartsSt.nil⟩⟩
  case round =>
    obtain ⟨i, n, c, A, done, now, rfl, rfl, rfl, hO, hb, hnl, hn, hst⟩ := hrel
    have HO := hide hO
    have HB := hide hb
    clear hO hb
    rcases hst with ⟨hil, hst⟩ | ⟨rfl, rfl⟩
    · have HST := hide hst
      clear hst
      rcases Nat.lt_or_ge i l.length with hlt | hge
      · obtain ⟨x, hx⟩ : ∃ x, l[i]? = some x := ⟨_, List.getElem?_eq_getElem hlt⟩
        have htk : l.take (i + 1) = l.take i ++ [x] := by
          obtain ⟨h1, h2⟩ := List.getElem?_eq_some_iff.1 hx
          rw [List.take_succ_eq_append_getElem h1, h2]
        have HTK := hide htk
        by_cases hx47 : x = 47
        · have hix := ix_l l i x hx
          subst hx47
          have HX := hide hx
          clear hx htk
          by_cases hne : now = []
          · subst hne
            go_wp2_with fail
            go_roundw
            case rel => exact ⟨i + 1, n, c, A, done, [], by go_num, rfl, rfl, HO.out, HB.out, by simp, by omega, .inl ⟨by omega, by rw [HTK.out]; exact HST.out.slash⟩⟩
            case measure => simp [intOf]; omega
          · have he : now.isEmpty = false := by cases now with
              | nil => exact absurd rfl hne
              | cons a t => rfl
            have HF : Hid (fin done now = done ++ [now]) := hide (by unfold fin; rw [if_neg hne])
            have hr1 := hide (one_str wr now)
            have hO1 := hide (HO.out.alloc (.cells #[.string ⟨now.toArray⟩] 9))
            clear hne
            go_wp2_with (at_builtin; (refine wpList_append_any _ rfl (.tmp 31) (.tmp 33) 32 rfl w.heap.size 9 i0 _ 1 16 Try.underlying32 hi hz0 hz1 hz2 rfl (by omega) (.slice A n c) n (svs done) rfl hO1.out (wr.heap.size + 1) (some ⟨wr.heap.size, 0, none⟩) 1 1 (svs [now]) rfl hr1.out (svs_one _) ?c1 ?c2 ?c3 ?_))
            case c1 => unfold maxLen; omega
            case c2 => omega
            case c3 => have := HB.out.size; simp; omega
            intro v1 w2 hown1 hg1 hat1
            obtain ⟨A2, c2, rfl, O2, B2⟩ := ow_grow (m := 0) HO.out rfl HB.out rfl hown1 hg1
            have HO2 := hide O2
            have HB2 := hide B2
            clear hown1 hg1 hat1 O2 B2
            go_wp2_with fail
            go_roundw
            case rel => exact ⟨i + 1, n + 1, c2, A2, done ++ [now], [], by go_num, rfl, rfl, HO2.out, HB2.out, by simp, by omega, .inl ⟨by omega, by rw [HTK.out, ← HF.out]; exact HST.out.slash⟩⟩
            case measure => simp [intOf]; omega
        · have hix := ix_l l i x hx
          have hsl := sl_one l i x hx
          have hz : ((x.toNat : Int) != 47) = true := by rw [bne, toNat47, beq_eq_false_iff_ne.2 hx47]; rfl
          have hcat : ((⟨now.toArray⟩ : ByteArray) ++ (⟨#[x]⟩ : ByteArray)) = ⟨(now ++ [x]).toArray⟩ := by apply ByteArray.ext; simp
          have HX47 := hide hx47
          have hnl2 : now.length ≤ 100000 := by omega
          clear hx htk hx47
          go_wp2_with fail
          clear hcat
          go_roundw
          case rel => exact ⟨i + 1, n, c, A, done, now ++ [x], by go_num, rfl, rfl, HO.out, HB.out, by simp; omega, by omega, .inl ⟨by omega, by rw [HTK.out]; exact HST.out.byte HX47.out⟩⟩
          case measure => simp [intOf]; omega
      · obtain rfl : i = l.length := by omega
        have hp := HST.out.parts
        rw [List.take_length] at hp
        have HP := hide hp
        clear hp
        by_cases hne : now = []
        · subst hne
          go_wp2_with fail
          go_roundw
          case rel => exact ⟨l.length + 1, n, c, A, done, [], by go_num, rfl, rfl, HO.out, HB.out, by simp, by omega, .inr ⟨rfl, by rw [HP.out]; rfl⟩⟩
          case measure => simp [intOf]
        · have he : now.isEmpty = false := by cases now with
            | nil => exact absurd rfl hne
            | cons a t => rfl
          have HF : Hid (fin done now = done ++ [now]) := hide (by unfold fin; rw [if_neg hne])
          have hr1 := hide (one_str wr now)
          have hO1 := hide (HO.out.alloc (.cells #[.string ⟨now.toArray⟩] 9))
          clear hne
          go_wp2_with (at_builtin; (refine wpList_append_any _ rfl (.tmp 31) (.tmp 33) 32 rfl w.heap.size 9 i0 _ 1 16 Try.underlying32 hi hz0 hz1 hz2 rfl (by omega) (.slice A n c) n (svs done) rfl hO1.out (wr.heap.size + 1) (some ⟨wr.heap.size, 0, none⟩) 1 1 (svs [now]) rfl hr1.out (svs_one _) ?c1 ?c2 ?c3 ?_))
          case c1 => unfold maxLen; omega
          case c2 => omega
          case c3 => have := HB.out.size; simp; omega
          intro v1 w2 hown1 hg1 hat1
          obtain ⟨A2, c2, rfl, O2, B2⟩ := ow_grow (m := 0) HO.out rfl HB.out rfl hown1 hg1
          have HO2 := hide O2
          have HB2 := hide B2
          clear hown1 hg1 hat1 O2 B2
          go_wp2_with fail
          go_roundw
          case rel => exact ⟨l.length + 1, n + 1, c2, A2, done ++ [now], [], by go_num, rfl, rfl, HO2.out, HB2.out, by simp, by omega, .inr ⟨rfl, by rw [HP.out, HF.out]⟩⟩
          case measure => simp [intOf]
    · have hgt : ¬ ((l.length + 1 : Nat) : Int) ≤ (l.length : Int) := by omega
      go_wp2_with fail
      go_ret
      exact ⟨A, n, c, rfl, HO.out, HB.out⟩
set_option maxRecDepth 100000 in
set_option maxHeartbeats 4000000 in
theorem rleft_any (l : Bs) (w : World) (hl : l.length ≤ 100000) :
    Calls Try.prog 46 #[.string ⟨l.toArray⟩] w fun e w' => ∃ A n c, e = .returned (.slice A n c) ∧ Ow w.heap.size w' A n c (cleaned l (rooted l)) ∧ Below w.heap.size w w' := by
  obtain ⟨i0, hi, hz0, hz1, hz2⟩ := info_parts infoStr
  have HPA := hide (rparts_any l w hl)
  have hple := parts_le l
  have HCE : Hid (cleaned l (rooted l) = (parts l).foldl (stepP (rooted l)) []) := hide rfl
  obtain ⟨root, hroot⟩ : ∃ r, rooted l = r := ⟨_, rfl⟩
  have HRT := hide hroot
  obtain ⟨ps, hps⟩ : ∃ ps, parts l = ps := ⟨_, rfl⟩
  rw [hps] at HPA hple
  rw [hroot, hps] at HCE
  rw [hroot]
  clear hroot hps
  go_enter Try.func46, Try.ntmps46
  go_wp2_with fail
  refine HPA.out.mono ?_
  rintro e w1 ⟨Ap, np, cp, rfl, hop, hbp⟩
  have hnp := hop.len
  have HRP := hide hop.rd
  have HBP := hide hbp
  subst hnp
  clear hop hbp
  go_wp2_with fail
  go_loopw [3, 5] (fun u3 u5 wx => ∃ (k n c : Nat) (A : Option Addr), k ≤ ps.length ∧ u5 = .int .i64 k ∧ u3 = .slice A n c ∧ Ow w1.heap.size wx A n c ((ps.take k).foldl (stepP root) []) ∧ Below w1.heap.size w1 wx) (fun _ i _ => ps.length - (intOf i).toNat)
  case atStart => exact ⟨0, 0, 0, none, Nat.zero_le _, rfl, rfl, Ow.none_ _ _, Below.refl _ _⟩
  case round =>
    obtain ⟨k, n, c, A, hk, rfl, rfl, hO, hb⟩ := hrel
    have HO := hide hO
    have HB := hide hb
    clear hO hb
    by_cases hlt : k < ps.length
    · obtain ⟨ad, u, hA1, hadb, hu, hcell⟩ := (HRP.out.below HB.out).at_ hlt
      subst hA1
      rw [svs_get ps k hlt] at hu
      injection hu with hu
      subst hu
      unfold sv at hcell
      have hT := hide (foldl_take (stepP root) [] ps k hlt)
      have hn : n ≤ 100001 := by
        have h1 := HO.out.len
        have h2 := fold_len root (ps.take k) []
        rw [List.length_take] at h2; simp at h2; omega
      generalize hks : (ps.take k).foldl (stepP root) [] = ks at *
      have Hks := hide hks
      clear hks
      generalize ps[k] = x at *
      by_cases hx1 : x = [46]
      · subst hx1
        have HST : Hid (stepP root ks [46] = ks) := hide (by unfold stepP; rw [if_pos rfl])
        go_wp2_with (go_at_call 47; refine (rrooted_any l _).mono ?_; rintro e w' ⟨rfl, rfl⟩; rw [HRT.out])
        clear hcell
        go_roundw
        case rel => exact ⟨k + 1, n, c, A, by omega, by go_num, rfl, by rw [hT.out, HST.out]; exact HO.out, HB.out⟩
        case measure => simp [intOf]; omega
      · by_cases hx2 : x = [46, 46]
        · subst hx2
          rcases Nat.eq_zero_or_pos n with h0 | h0
          · have hk0 : ks = [] := List.eq_nil_of_length_eq_zero (by rw [HO.out.len, h0])
            subst h0
            cases root with
            | false =>
              have HST : Hid (stepP false ks [46, 46] = ks ++ [[46, 46]]) := hide (by rw [hk0]; rfl)
              clear hk0
              have hr1 := hide (one_str wr [46, 46])
              have hO1 := hide (HO.out.alloc (.cells #[.string ⟨([46, 46] : Bs).toArray⟩] 9))
              go_wp2_with (first
                | (go_at_call 47; refine (rrooted_any l _).mono ?_; rintro e w' ⟨rfl, rfl⟩; rw [HRT.out])
                | (at_builtin; (refine wpList_append_any _ rfl (.tmp 14) (.tmp 19) 32 rfl w1.heap.size 9 i0 _ 1 16 Try.underlying32 hi hz0 hz1 hz2 rfl (by omega) (.slice A 0 c) 0 (svs ks) rfl hO1.out (wr.heap.size + 1) (some ⟨wr.heap.size, 0, none⟩) 1 1 (svs [[46, 46]]) rfl hr1.out (svs_one _) ?c1 ?c2 ?c3 ?_)))
              case c1 => unfold maxLen; omega
              case c2 => omega
              case c3 => have := HB.out.size; simp; omega
              intro v1 w2 hown1 hg1 hat1
              obtain ⟨A2, c2, rfl, O2, B2⟩ := ow_next' HO.out hown1 hg1 HB.out (Nat.le_refl _)
              have HO2 := hide O2
              have HB2 := hide B2
              clear hown1 hg1 hat1 O2 B2
              go_wp2_with fail
              clear hcell
              go_roundw
              case rel => exact ⟨k + 1, 0 + 1, c2, A2, by omega, by go_num, rfl, by rw [hT.out, HST.out]; exact HO2.out, HB2.out⟩
              case measure => simp [intOf]; omega
            | true =>
              have HST : Hid (stepP true ks [46, 46] = ks) := hide (by rw [hk0]; rfl)
              clear hk0
              go_wp2_with (go_at_call 47; refine (rrooted_any l _).mono ?_; rintro e w' ⟨rfl, rfl⟩; rw [HRT.out])
              clear hcell
              go_roundw
              case rel => exact ⟨k + 1, 0, c, A, by omega, by go_num, rfl, by rw [hT.out, HST.out]; exact HO.out, HB.out⟩
              case measure => simp [intOf]; omega
          · obtain ⟨q, rfl⟩ : ∃ q, n = q + 1 := ⟨n - 1, by omega⟩
            clear h0
            obtain ⟨hD, hqc, g, rfl, hlast⟩ := ow_drop HO.out
            have hkn : ks ≠ [] := by intro e; have := HO.out.len; rw [e] at this; simp at this
            have hgl : ks.getLast? = some (ks.getLastD []) := by
              rw [List.getLastD_eq_getLast?]
              cases hks : ks.getLast? with
              | none => rw [List.getLast?_eq_none_iff] at hks; exact absurd hks hkn
              | some y => rfl
            generalize ks.getLastD [] = lst at *
            have hsl := fun W => run_slice_to (P := Try.prog) 32 9 Try.underlying32 sizeStr (some ⟨g, 0, none⟩) (q + 1) c .i64 (q : Int) (by omega) (by omega) W
            simp only [Int.toNat_natCast] at hsl
            have HD := hide hD
            by_cases hls : lst = [46, 46]
            · subst hls
              cases root with
              | false =>
                have HST : Hid (stepP false ks [46, 46] = ks ++ [[46, 46]]) := hide (by unfold stepP; simp [hgl])
                clear hD hgl hkn hsl
                have hr1 := hide (one_str wr [46, 46])
                have hO1 := hide (HO.out.alloc (.cells #[.string ⟨([46, 46] : Bs).toArray⟩] 9))
                go_wp2_with (first
                  | (go_at_call 47; refine (rrooted_any l _).mono ?_; rintro e w' ⟨rfl, rfl⟩; rw [HRT.out])
                  | (at_builtin; (refine wpList_append_any _ rfl (.tmp 14) (.tmp 19) 32 rfl w1.heap.size 9 i0 _ 1 16 Try.underlying32 hi hz0 hz1 hz2 rfl (by omega) (.slice (some ⟨g, 0, none⟩) (q + 1) c) (q + 1) (svs ks) rfl hO1.out (wr.heap.size + 1) (some ⟨wr.heap.size, 0, none⟩) 1 1 (svs [[46, 46]]) rfl hr1.out (svs_one _) ?c1 ?c2 ?c3 ?_)))
                case c1 => unfold maxLen; omega
                case c2 => omega
                case c3 => have := HB.out.size; simp; omega
                intro v1 w2 hown1 hg1 hat1
                obtain ⟨A2, c2, rfl, O2, B2⟩ := ow_next' HO.out hown1 hg1 HB.out (Nat.le_refl _)
                have HO2 := hide O2
                have HB2 := hide B2
                clear hown1 hg1 hat1 O2 B2
                go_wp2_with fail
                clear hcell
                go_roundw
                case rel => exact ⟨k + 1, (q + 1) + 1, c2, A2, by omega, by go_num, rfl, by rw [hT.out, HST.out]; exact HO2.out, HB2.out⟩
                case measure => simp [intOf]; omega
              | true =>
                have HST : Hid (stepP true ks [46, 46] = ks) := hide (by unfold stepP; simp [hgl])
                clear hD hgl hkn hsl
                go_wp2_with (go_at_call 47; refine (rrooted_any l _).mono ?_; rintro e w' ⟨rfl, rfl⟩; rw [HRT.out])
                clear hcell
                go_roundw
                case rel => exact ⟨k + 1, q + 1, c, some ⟨g, 0, none⟩, by omega, by go_num, rfl, by rw [hT.out, HST.out]; exact HO.out, HB.out⟩
                case measure => simp [intOf]; omega
            · have hlt2 : (lst == [46, 46]) = false := beq_eq_false_iff_ne.2 hls
              have hlt3 : (lst != [46, 46]) = true := by rw [bne, hlt2]; rfl
              have HST : Hid (stepP root ks [46, 46] = ks.dropLast) := hide (by unfold stepP; simp [hgl, hkn, hls])
              clear hD hgl hkn hls
              go_wp2_with fail
              clear hcell hlast hsl hlt2 hlt3
              go_roundw
              case rel => exact ⟨k + 1, q, c, some ⟨g, 0, none⟩, by omega, by go_num, rfl, by rw [hT.out, HST.out]; exact HD.out, HB.out⟩
              case measure => simp [intOf]; omega
        · have t1 : (x == [46]) = false := beq_eq_false_iff_ne.2 hx1
          have t2 : (x == [46, 46]) = false := beq_eq_false_iff_ne.2 hx2
          have HST : Hid (stepP root ks x = ks ++ [x]) := hide (by unfold stepP; rw [if_neg hx1, if_pos hx2])
          clear hx1 hx2
          have hr1 := hide (one_str wr x)
          have hO1 := hide (HO.out.alloc (.cells #[.string ⟨(x : Bs).toArray⟩] 9))
          go_wp2_with (first
            | (go_at_call 47; refine (rrooted_any l _).mono ?_; rintro e w' ⟨rfl, rfl⟩; rw [HRT.out])
            | (at_builtin; (refine wpList_append_any _ rfl (.tmp 14) (.tmp 19) 32 rfl w1.heap.size 9 i0 _ 1 16 Try.underlying32 hi hz0 hz1 hz2 rfl (by omega) (.slice A n c) n (svs ks) rfl hO1.out (wr.heap.size + 1) (some ⟨wr.heap.size, 0, none⟩) 1 1 (svs [x]) rfl hr1.out (svs_one _) ?c1 ?c2 ?c3 ?_)))
          case c1 => unfold maxLen; omega
          case c2 => omega
          case c3 => have := HB.out.size; simp; omega
          intro v1 w2 hown1 hg1 hat1
          obtain ⟨A2, c2, rfl, O2, B2⟩ := ow_next' HO.out hown1 hg1 HB.out (Nat.le_refl _)
          have HO2 := hide O2
          have HB2 := hide B2
          clear hown1 hg1 hat1 O2 B2
          go_wp2_with fail
          clear hcell
          go_roundw
          case rel => exact ⟨k + 1, n + 1, c2, A2, by omega, by go_num, rfl, by rw [hT.out, HST.out]; exact HO2.out, HB2.out⟩
          case measure => simp [intOf]; omega
    · obtain rfl : k = ps.length := by omega
      have hall : (ps.take ps.length).foldl (stepP root) [] = cleaned l root := by rw [List.take_length, HCE.out]
      have HOO : Hid (Ow w1.heap.size wr A n c (cleaned l root)) := hide (by rw [← hall]; exact HO.out)
      clear hall
      go_wp2_with fail
      go_ret
      exact ⟨A, n, c, rfl, HOO.out.more HBP.out.size, HBP.out.trans (HB.out.mono HBP.out.size)⟩
/-- What the reference's text holds after some parts. -/
def accT (root : Bool) (ks : List Bs) : Bs := if ks = [] then [] else if root = true then 47 :: Lib.join ks [47] else Lib.join ks [47]
theorem accT_nil (root : Bool) : accT root [] = [] := rfl
theorem accT_first (root : Bool) (x : Bs) : accT root [x] = if root = true then 47 :: x else x := by
  unfold accT; rw [if_neg (by simp), Lib.join_one]
theorem accT_snoc (root : Bool) (ks : List Bs) (x : Bs) (h : ks ≠ []) : accT root (ks ++ [x]) = accT root ks ++ 47 :: x := by
  unfold accT
  rw [if_neg (by simp), if_neg h, join_snoc ks x h]
  cases root <;> simp
theorem accT_len (root : Bool) (ks : List Bs) : (accT root ks).length ≤ wt ks + 1 := by
  have h := total_wt ks
  unfold total at h
  unfold accT
  split
  · simp
  · split
    · simp; omega
    · omega
theorem wt_take (ks : List Bs) (k : Nat) : wt (ks.take k) ≤ wt ks := by
  have := wt_app (ks.take k) (ks.drop k)
  rw [List.take_append_drop] at this
  omega
theorem accT_text (root : Bool) (ks : List Bs) : text root ks = if accT root ks = [] then (if root = true then [47] else [46]) else accT root ks := by
  unfold text accT
  by_cases h : ks = []
  · subst h; simp [Lib.join_nil]
  · rw [if_neg h]
    cases root
    · simp
    · simp
theorem accT_step (root : Bool) (ks : List Bs) (k : Nat) (h : k < ks.length) : accT root (ks.take (k + 1)) = (if k = 0 ∧ root = false then accT root (ks.take k) else accT root (ks.take k) ++ [47]) ++ ks[k] := by
  rw [List.take_succ_eq_append_getElem h]
  cases k with
  | zero =>
    rw [List.take_zero, List.nil_append, accT_first, accT_nil]
    cases root <;> simp
  | succ k =>
    rw [if_neg (by omega), accT_snoc _ _ _ (by intro e; have := congrArg List.length e; simp at this; first | omega | (subst this; simp at h))]
    simp
set_option maxRecDepth 100000 in
set_option maxHeartbeats 2000000 in
theorem rtext_any (ks : List Bs) (root : Bool) (A : Option Addr) (n c : Nat) (w : World) (hR : Reads w w.heap.size 1 A n (svs ks)) (hk : wt ks ≤ 200000) :
    Calls Try.prog 45 #[.slice A n c, .bool root] w fun e w' => e = .returned (.string ⟨(text root ks).toArray⟩) ∧ w' = w := by
  have hn : ks.length = n := by have := hR.1; rw [svs_length] at this; omega
  subst hn
  have HR := hide hR
  have hbig : ks.length ≤ 200001 := by
    have h1 := total_len ks
    have h2 := total_wt ks
    omega
  clear hR
  go_enter Try.func45, Try.ntmps45
  go_wp2_with fail
  go_loopw [5, 6] (fun u5 u6 wx => ∃ (k : Nat), k ≤ ks.length ∧ u6 = .int .i64 k ∧ u5 = .string ⟨(accT root (ks.take k)).toArray⟩ ∧ wx = w) (fun _ i _ => ks.length - (intOf i).toNat)
  case atStart => exact ⟨0, Nat.zero_le _, rfl, rfl, rfl⟩
  case round =>
    obtain ⟨k, hkl, rfl, rfl, rfl⟩ := hrel
    by_cases hlt : k < ks.length
    · obtain ⟨ad, u, hA1, hadb, hu, hcell⟩ := HR.out.at_ hlt
      subst hA1
      rw [svs_get ks k hlt] at hu
      injection hu with hu
      subst hu
      unfold sv at hcell
      have hT := hide (accT_step root ks k hlt)
      have hal : (accT root (ks.take k)).length ≤ 200001 := by have h1 := accT_len root (ks.take k); have h2 := wt_take ks k; omega
      have hxl : (ks[k]).length ≤ 200001 := by
        have h2 := wt_take ks (k + 1)
        rw [List.take_succ_eq_append_getElem hlt, wt_app] at h2
        have : wt [ks[k]] = (ks[k]).length + 1 := by simp [wt]
        omega
      generalize accT root (ks.take k) = s at *
      generalize ks[k] = x at *
      cases root with
      | true =>
        have hT2 : Hid (accT true (ks.take (k + 1)) = s ++ [47] ++ x) := hide (by rw [hT.out, if_neg (by simp)])
        clear hT
        rcases Nat.eq_zero_or_pos k with h0 | h0
        · have hd : decide ((0 : Int) < (k : Int)) = false := by rw [h0]; rfl
          have h0' : ¬ (0 < k) := by omega
          have h0i : ¬ ((0 : Int) < (k : Int)) := by omega
          clear h0
          go_wp2_with fail
          go_roundw
          case rel => exact ⟨k + 1, by omega, by go_num, by rw [hT2.out]; exact congrArg Value.string (ByteArray.ext (by simp)), by first | rfl | trivial⟩
          case measure => simp [intOf]; omega
        · have hd : decide ((0 : Int) < (k : Int)) = true := by rw [decide_eq_true_iff]; omega
          go_wp2_with fail
          go_roundw
          case rel => exact ⟨k + 1, by omega, by go_num, by rw [hT2.out]; exact congrArg Value.string (ByteArray.ext (by simp)), by first | rfl | trivial⟩
          case measure => simp [intOf]; omega
      | false =>
        rcases Nat.eq_zero_or_pos k with h0 | h0
        · have hT2 : Hid (accT false (ks.take (k + 1)) = s ++ x) := hide (by rw [hT.out, if_pos ⟨h0, rfl⟩])
          have hd : decide ((0 : Int) < (k : Int)) = false := by rw [h0]; rfl
          have h0' : ¬ (0 < k) := by omega
          have h0i : ¬ ((0 : Int) < (k : Int)) := by omega
          clear hT h0
          go_wp2_with fail
          go_roundw
          case rel => exact ⟨k + 1, by omega, by go_num, by rw [hT2.out]; exact congrArg Value.string (ByteArray.ext (by simp)), by first | rfl | trivial⟩
          case measure => simp [intOf]; omega
        · have hT2 : Hid (accT false (ks.take (k + 1)) = s ++ [47] ++ x) := hide (by rw [hT.out, if_neg (by omega)])
          have hd : decide ((0 : Int) < (k : Int)) = true := by rw [decide_eq_true_iff]; omega
          clear hT
          go_wp2_with fail
          go_roundw
          case rel => exact ⟨k + 1, by omega, by go_num, by rw [hT2.out]; exact congrArg Value.string (ByteArray.ext (by simp)), by first | rfl | trivial⟩
          case measure => simp [intOf]; omega
    · obtain rfl : k = ks.length := by omega
      have hT := hide (accT_text root ks)
      rw [List.take_length]
      generalize accT root ks = s at *
      by_cases hs : s = []
      · subst hs
        cases root
        · go_wp2_with fail
          go_ret
          exact ⟨by rw [hT.out]; rfl, rfl⟩
        · go_wp2_with fail
          go_ret
          exact ⟨by rw [hT.out]; rfl, rfl⟩
      · have he : (s == []) = false := beq_eq_false_iff_ne.2 hs
        have he2 : s.isEmpty = false := by cases s with
          | nil => exact absurd rfl hs
          | cons a t => rfl
        have hT2 : Hid (text root ks = s) := hide (by rw [hT.out, if_neg hs])
        clear hT hs
        go_wp2_with fail
        go_ret
        exact ⟨by rw [hT2.out]; rfl, rfl⟩
set_option maxRecDepth 100000 in
set_option maxHeartbeats 1000000 in
theorem rclean_any (l : Bs) (w : World) (hl : l.length ≤ 100000) :
    Calls Try.prog 25 #[.string ⟨l.toArray⟩] w fun e w' => e = .returned (.string ⟨(clean l).toArray⟩) ∧ Below w.heap.size w w' := by
  have HL := hide (rleft_any l w hl)
  have hwt := wt_cleaned l (rooted l)
  have HC : Hid (clean l = text (rooted l) (cleaned l (rooted l))) := hide rfl
  generalize cleaned l (rooted l) = ks at *
  go_enter Try.func25, Try.ntmps25
  go_wp2_with fail
  refine HL.out.mono ?_
  rintro e w1 ⟨A, n, c, rfl, hO, hb⟩
  have HX := hide (rtext_any ks (rooted l) A n c w1 hO.rd (by omega))
  have HB := hide hb
  clear hO hb HL
  go_wp2_with (first
    | (go_at_call 47; refine (rrooted_any l _).mono ?_; rintro e w' ⟨rfl, rfl⟩)
    | (go_at_call 45; refine HX.out.mono ?_; rintro e w' ⟨rfl, rfl⟩))
  go_ret
  exact ⟨by rw [HC.out]; rfl, HB.out⟩
end Go.Proofs.Ytnhfpaobocbieaa
