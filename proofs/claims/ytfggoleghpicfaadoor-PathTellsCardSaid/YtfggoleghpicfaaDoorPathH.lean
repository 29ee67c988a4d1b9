/- Contracts of path.Inside, Check, Name, the reference's Same; heads. -/
import Derived.Test.YtfggoleghpicfaaDoorPathC
namespace Go.Proofs.YtfggoleghpicfaaDoor
open Go.RowKit
set_option linter.unusedVariables false

def insideP (p r : Bs) : Bool := if rooted p = true ∧ rooted r = true then (clean r == [47] || clean p == clean r || Lib.hasPrefix (clean p) (clean r ++ [47])) else false
set_option maxHeartbeats 1000000 in
theorem inside_l (p r : Bs) (w : World) (h : Std w) (hp : p.length ≤ 40000) (hr : r.length ≤ 40000) :
    Calls Tryd.prog 21 #[.string ⟨p.toArray⟩, .string ⟨r.toArray⟩] w fun e w' => e = .returned (.bool (insideP p r)) ∧ Below w.heap.size w w' := by
  have HS := hide h
  have H1 := hide (fun V => slash_l p V)
  have H2 := hide (fun V => slash_l r V)
  have HC1 := hide (fun V (hV : Std V) => clean_l p V hV (by omega))
  have HC2 := hide (fun V (hV : Std V) => clean_l r V hV (by omega))
  have lp := clean_len p
  have lr := clean_len r
  clear h
  cases hrp : rooted p
  · have HI : Hid (insideP p r = false) := hide (by unfold insideP; rw [hrp]; simp)
    rw [hrp] at H1
    clear hrp
    go_enter Tryd.func21, Tryd.ntmps21
    go_wp2_with fail
    refine (H1.out _).mono ?_
    rintro e w1 ⟨rfl, rfl⟩
    go_wp2
    go_ret
    exact ⟨ret_bool HI.out.symm, Below.refl _ _⟩
  · cases hrr : rooted r
    · have HI : Hid (insideP p r = false) := hide (by unfold insideP; rw [hrr]; simp)
      rw [hrp] at H1
      rw [hrr] at H2
      clear hrp hrr
      go_enter Tryd.func21, Tryd.ntmps21
      go_wp2_with fail
      refine (H1.out _).mono ?_
      rintro e w1 ⟨rfl, rfl⟩
      go_wp2_with fail
      refine (H2.out _).mono ?_
      rintro e w1 ⟨rfl, rfl⟩
      go_wp2
      go_ret
      exact ⟨ret_bool HI.out.symm, Below.refl _ _⟩
    · have HI : Hid (insideP p r = (clean r == [47] || clean p == clean r || Lib.hasPrefix (clean p) (clean r ++ [47]))) := hide (by unfold insideP; rw [hrp, hrr]; simp)
      rw [hrp] at H1
      rw [hrr] at H2
      clear hrp hrr
      generalize clean p = cp at *
      generalize clean r = cr at *
      go_enter Tryd.func21, Tryd.ntmps21
      go_wp2_with fail
      refine (H1.out _).mono ?_
      rintro e w1 ⟨rfl, rfl⟩
      go_wp2_with fail
      refine (H2.out _).mono ?_
      rintro e w1 ⟨rfl, rfl⟩
      go_wp2_with fail
      refine (HC1.out _ HS.out).mono ?_
      rintro e w1 ⟨rfl, hb1⟩
      have HB1 := hide hb1
      clear hb1
      go_wp2_with fail
      refine (HC2.out _ (HS.out.below HB1.out)).mono ?_
      rintro e w2 ⟨rfl, hb2⟩
      have HB2 := hide (below_more HB1.out (Nat.le_refl _) hb2)
      clear hb2
      cases e1 : (cr == [47])
      · cases e2 : (cp == cr)
        · rw [e1, e2] at HI
          go_wp2_with fail
          have hcat : (⟨cr.toArray⟩ : ByteArray) ++ (⟨#[47]⟩ : ByteArray) = ⟨(cr ++ [47]).toArray⟩ := by apply ByteArray.ext; simp
          first | rw [hcat] | skip
          refine (pre_l cp (cr ++ [47]) _).mono ?_
          rintro e w3 ⟨rfl, rfl⟩
          clear hcat
          generalize Lib.hasPrefix cp (cr ++ [47]) = b at HI
          have HI2 : Hid (insideP p r = b) := hide (by rw [HI.out]; simp)
          go_wp2
          go_ret
          exact ⟨ret_bool HI2.out.symm, HB2.out⟩
        · rw [e1, e2] at HI
          have HI2 : Hid (insideP p r = true) := hide (by rw [HI.out]; simp)
          go_wp2
          go_ret
          exact ⟨ret_bool HI2.out.symm, HB2.out⟩
      · rw [e1] at HI
        have HI2 : Hid (insideP p r = true) := hide (by rw [HI.out]; simp)
        go_wp2
        go_ret
        exact ⟨ret_bool HI2.out.symm, HB2.out⟩

theorem check_nil (w : World) : Calls Tryd.prog 10 #[.string ⟨#[]⟩] w fun e w' => e = .returned (.int .i64 20) ∧ Below w.heap.size w w' := by
  go_enter Tryd.func10, Tryd.ntmps10
  go_wp2
  go_ret
  exact ⟨rfl, Below.refl _ _⟩
set_option maxHeartbeats 1000000 in
theorem check_ok (l : Bs) (w : World) (h : Std w) (h0 : l ≠ []) (h1 : l.length ≤ 256) (h2 : ∀ k ∈ splitC 47 l, k.length ≤ 32) (h3 : Lib.indexByte l 0 = -1) :
    Calls Tryd.prog 10 #[.string ⟨l.toArray⟩] w fun e w' => e = .returned (.int .i64 0) ∧ Below w.heap.size w w' := by
  have he : l.isEmpty = false := by cases l with
    | nil => exact absurd rfl h0
    | cons x t => rfl
  obtain ⟨m, hm⟩ := h
  have HSp := hide (split_c ⟨l.toArray⟩ m w (show l.length ≤ 100000 by omega) hm)
  have hIx := Any.strings_IndexByte Tryd.lays137 ⟨l.toArray⟩ 0
  have HIx : Hid (∀ V, Calls Tryd.prog 29 #[.string ⟨l.toArray⟩, .int .u8 0] V fun e w' => e = .returned (.int .i64 (-1)) ∧ V = w') := hide fun V => by
    refine (hIx V).mono ?_
    rintro e w' ⟨rfl, rfl⟩
    exact ⟨ret_int h3, rfl⟩
  have hL := splitC_le 47 l
  have HP := hide h2
  clear h0 hm h2 h3 hIx
  change Hid (Calls Tryd.prog 28 #[.string ⟨l.toArray⟩, .string ⟨#[47]⟩] w fun e w' => e = .returned (.slice (some ⟨w.heap.size, 0, none⟩) (splitC 47 l).length (splitC 47 l).length) ∧ w.alloc (.cells (svs (splitC 47 l)).toArray 9) = w') at HSp
  generalize splitC 47 l = ps at HSp hL HP
  go_enter Tryd.func10, Tryd.ntmps10
  go_wp2_with fail
  refine HSp.out.mono ?_
  rintro e w1 ⟨rfl, hw1⟩
  have hnew := Blk.new w 9 (svs ps).toArray
  have hb1 := (Below.refl w.heap.size w).alloc (Nat.le_refl _) (.cells (svs ps).toArray 9)
  rw [hw1] at hnew hb1
  have HN := hide hnew
  have HB := hide hb1
  clear hw1 hnew hb1
  go_wp2
  go_loop [13] (fun i => ∃ k : Nat, k ≤ ps.length ∧ i = .int .i64 k) (fun i => ps.length - (intOf i).toNat)
  case atStart => exact ⟨0, Nat.zero_le _, rfl⟩
  case round =>
    obtain ⟨k, hk, rfl⟩ := hrel
    by_cases hlt : k < ps.length
    · have hcell : w1.cell? ⟨w.heap.size, k, none⟩ = some (.string ⟨ps[k].toArray⟩) := by
        rw [HN.out.cell]; simp [svs, sv, hlt]
      have hl32 := HP.out ps[k] (List.getElem_mem _)
      generalize ps[k] = x at *
      have hl32' : (x.length : Int) ≤ 32 := by omega
      go_wp2
      go_round
      case rel => exact ⟨k + 1, by omega, by go_num⟩
      case measure => simp [intOf]; omega
    · go_wp2_with fail
      refine (HIx.out _).mono ?_
      rintro e w2 ⟨rfl, rfl⟩
      go_wp2
      go_ret
      exact ⟨rfl, HB.out⟩

theorem name_dots (w : World) : Calls Tryd.prog 12 #[.string ⟨#[46, 46]⟩] w fun e w' => e = .returned (.int .i64 32) ∧ Below w.heap.size w w' := by
  go_enter Tryd.func12, Tryd.ntmps12
  go_wp2
  go_ret
  exact ⟨rfl, Below.refl _ _⟩
theorem name_a (w : World) : Calls Tryd.prog 12 #[.string ⟨#[97]⟩] w fun e w' => e = .returned (.int .i64 0) ∧ Below w.heap.size w w' := by
  have hC : Calls Tryd.prog 31 #[.string ⟨#[97]⟩, .string ⟨#[47, 0]⟩] w fun e w' => e = .returned (.bool false) ∧ Below w.heap.size w w' := by
    refine (Any.strings_ContainsAny_laid Tryd.lays150 (by kernel_rfl) ⟨#[97]⟩ ⟨#[47, 0]⟩ w (by decide) (by decide) ?_ ?_).mono ?_
    · intro j b hj
      match j with
      | 0 => simp at hj; subst hj; decide
      | j + 1 => simp at hj
    · intro j b hj
      match j with
      | 0 => simp at hj; subst hj; decide
      | 1 => simp at hj; subst hj; decide
      | j + 2 => simp at hj
    · rintro e w' ⟨rfl, hb⟩
      exact ⟨ret_bool (by decide), hb⟩
  have HC := hide hC
  clear hC
  go_enter Tryd.func12, Tryd.ntmps12
  go_wp2_with fail
  refine HC.out.mono ?_
  rintro e w1 ⟨rfl, hb⟩
  have HB := hide hb
  clear hb
  go_wp2
  go_ret
  exact ⟨rfl, HB.out⟩

theorem below_drewN_ {B : Nat} {a w : World} (h : Below B a w) (n : Nat) : Below B a (w.drewN n) := h.trans ⟨rfl, rfl, rfl, Nat.le_refl _, fun _ _ => rfl⟩
set_option maxHeartbeats 1000000 in
theorem same_l (A : Option Addr) (n c : Nat) (B : Option Addr) (c' : Nat) (ks : List Bs) (w : World) (ha : Reads w w.heap.size 1 A n (svs ks)) (hb : Reads w w.heap.size 1 B n (svs ks)) (hn : n ≤ 1000000) :
    Calls Tryd.prog 14 #[.slice A n c, .slice B n c'] w fun e w' => e = .returned (.bool true) ∧ Below w.heap.size w w' := by
  have hl : ks.length = n := by have := ha.1; rw [svs_length] at this; omega
  subst hl
  have HA := hide ha
  have HB := hide hb
  clear ha hb
  go_enter Tryd.func14, Tryd.ntmps14
  go_wp2
  go_loopw [5] (fun i wr => ∃ (k d : Nat), k ≤ ks.length ∧ i = .int .i64 k ∧ wr = w.drewN d) (fun i _ => ks.length - (intOf i).toNat)
  case atStart => exact ⟨0, 0, Nat.zero_le _, rfl, rfl⟩
  case round =>
    obtain ⟨k, d, hk, rfl, rfl⟩ := hrel
    by_cases hlt : k < ks.length
    · obtain ⟨a1, u1, rfl, _, hu1, hc1⟩ := HA.out.at_ hlt
      obtain ⟨a2, u2, rfl, _, hu2, hc2⟩ := HB.out.at_ hlt
      rw [svs_get ks k hlt] at hu1 hu2
      injection hu1 with hu1
      injection hu2 with hu2
      subst hu1; subst hu2
      unfold sv at hc1 hc2
      generalize ks[k] = x at *
      have hi0 : (0 : Int) ≤ (k : Int) := by omega
      have hi1 : (k : Int) < (ks.length : Int) := by omega
      go_wp2
      go_quiet (fail)
      go_wp2
      go_roundw
      case rel => exact ⟨k + 1, _, by omega, by go_num, rfl⟩
      case measure => simp [intOf]; omega
    · go_wp2
      go_ret
      exact ⟨rfl, below_drewN_ (Below.refl _ _) _⟩

theorem clean_n (l r : Bs) (e : clean l = r) (w : World) (h : Std w) (hs : l.length ≤ 90000) : Calls Tryd.prog 17 #[.string ⟨l.toArray⟩] w fun e w' => e = .returned (.string ⟨r.toArray⟩) ∧ Below w.heap.size w w' := by
  subst e; exact clean_l l w h hs
theorem join_n (a b r : Bs) (e : joinP a b = r) (w : World) (h : Std w) (ha : a.length ≤ 40000) (hb : b.length ≤ 40000) : Calls Tryd.prog 19 #[.string ⟨a.toArray⟩, .string ⟨b.toArray⟩] w fun e w' => e = .returned (.string ⟨r.toArray⟩) ∧ Below w.heap.size w w' := by
  subst e; exact join_l a b w h ha hb
theorem last_n (l a b : Bs) (e : lastA l = a) (e2 : lastB l = b) (w : World) (h : Std w) (hs : l.length ≤ 40000) : Calls Tryd.prog 8 #[.string ⟨l.toArray⟩] w fun e w' => e = .returned (.tuple #[.string ⟨a.toArray⟩, .string ⟨b.toArray⟩]) ∧ Below w.heap.size w w' := by
  subst e; subst e2; exact last_l l w h hs
theorem inside_n (p r : Bs) (b : Bool) (e : insideP p r = b) (w : World) (h : Std w) (hp : p.length ≤ 40000) (hr : r.length ≤ 40000) : Calls Tryd.prog 21 #[.string ⟨p.toArray⟩, .string ⟨r.toArray⟩] w fun e w' => e = .returned (.bool b) ∧ Below w.heap.size w w' := by
  subst e; exact inside_l p r w h hp hr
theorem parts_n (l : Bs) (ks : List Bs) (e : parts l = ks) (w : World) (h : Std w) (hs : l.length ≤ 100000) : Calls Tryd.prog 15 #[.string ⟨l.toArray⟩] w fun e w' => ∃ A c, e = .returned (.slice A ks.length c) ∧ Ow w.heap.size w' A ks.length c ks ∧ Below w.heap.size w w' := by
  subst e
  refine (parts_l l w h hs).mono ?_
  rintro e w' ⟨A, n, c, rfl, hO, hb⟩
  obtain rfl : n = (parts l).length := hO.len.symm
  exact ⟨A, c, rfl, hO, hb⟩

set_option maxRecDepth 10000 in
set_option maxHeartbeats 4000000 in
theorem heads_any (w : World) (hS : Std w) : Calls Tryd.prog 7 #[] w fun e w' => e = .returned (.bool true) ∧ Below w.heap.size w w' := by
  have HS := hide hS
  have K0 := hide (Below.refl w.heap.size w)
  clear hS
  go_enter Tryd.func7, Tryd.ntmps7
  go_wp2_with fail
  refine (last_n [47, 97, 47, 98, 47] [47, 97] [98] (by decide) (by decide) _ (HS.out.below K0.out) (by decide)).mono ?_
  rintro e w1 ⟨rfl, k⟩
  have K1 := hide (below_more K0.out (Nat.le_refl _) k)
  clear k
  go_wp2_with fail
  refine (last_n [47] [47] [] (by decide) (by decide) _ (HS.out.below K1.out) (by decide)).mono ?_
  rintro e w2 ⟨rfl, k⟩
  have K2 := hide (below_more K1.out (Nat.le_refl _) k)
  clear k
  go_wp2_with fail
  refine (clean_n [47, 97, 47, 46, 47, 98, 47, 46, 46, 47, 99] [47, 97, 47, 99] (by decide) _ (HS.out.below K2.out) (by decide)).mono ?_
  rintro e w3 ⟨rfl, k⟩
  have K3 := hide (below_more K2.out (Nat.le_refl _) k)
  clear k
  go_wp2_with fail
  refine (clean_n [46, 46, 47, 97, 47, 46, 46] [46, 46] (by decide) _ (HS.out.below K3.out) (by decide)).mono ?_
  rintro e w4 ⟨rfl, k⟩
  have K4 := hide (below_more K3.out (Nat.le_refl _) k)
  clear k
  go_wp2_with fail
  refine (clean_n [] [46] (by decide) _ (HS.out.below K4.out) (by decide)).mono ?_
  rintro e w5 ⟨rfl, k⟩
  have K5 := hide (below_more K4.out (Nat.le_refl _) k)
  clear k
  go_wp2_with fail
  refine (join_n [47, 97] [46, 46, 47, 98] [47, 98] (by decide) _ (HS.out.below K5.out) (by decide) (by decide)).mono ?_
  rintro e w6 ⟨rfl, k⟩
  have K6 := hide (below_more K5.out (Nat.le_refl _) k)
  clear k
  go_wp2_with fail
  refine (inside_n [47, 97, 47, 98] [47, 97] true (by decide) _ (HS.out.below K6.out) (by decide) (by decide)).mono ?_
  rintro e w7 ⟨rfl, k⟩
  have K7 := hide (below_more K6.out (Nat.le_refl _) k)
  clear k
  go_wp2_with fail
  refine (inside_n [47, 97, 98] [47, 97] false (by decide) _ (HS.out.below K7.out) (by decide) (by decide)).mono ?_
  rintro e w8 ⟨rfl, k⟩
  have K8 := hide (below_more K7.out (Nat.le_refl _) k)
  clear k
  go_wp2_with fail
  refine (check_nil _).mono ?_
  rintro e w9 ⟨rfl, k⟩
  have K9 := hide (below_more K8.out (Nat.le_refl _) k)
  clear k
  go_wp2_with fail
  refine (check_ok [47, 97] _ (HS.out.below K9.out) (by decide) (by decide) (by decide) (by decide)).mono ?_
  rintro e w10 ⟨rfl, k⟩
  have K10 := hide (below_more K9.out (Nat.le_refl _) k)
  clear k
  go_wp2_with fail
  refine (name_dots _).mono ?_
  rintro e w11 ⟨rfl, k⟩
  have K11 := hide (below_more K10.out (Nat.le_refl _) k)
  clear k
  go_wp2_with fail
  refine (name_a _).mono ?_
  rintro e w12 ⟨rfl, k⟩
  have K12 := hide (below_more K11.out (Nat.le_refl _) k)
  clear k
  go_wp2_with fail
  refine (parts_n [47, 97, 47, 47, 98] [[97], [98]] (by decide) _ (HS.out.below K12.out) (by decide)).mono ?_
  rintro e wp ⟨A, c, rfl, hO, k⟩
  have KP := hide (below_more K12.out (Nat.le_refl _) k)
  have HO := hide hO
  clear k hO
  go_wp2_with fail
  refine (same_l A 2 c (some ⟨wp.heap.size, 0, none⟩) 2 [[97], [98]] _ ((HO.out.alloc _).rd) ?two (by omega)).mono ?_
  case two =>
    have h := Blk.own (base := 0) (cap := 2) (Blk.new wp 9 #[.string ⟨#[97]⟩, .string ⟨#[98]⟩]) (by omega) (by unfold maxLen; omega) rfl
    exact Reads.of_own h
  rintro e wz ⟨rfl, k⟩
  have KZ := hide (below_more (KP.out.alloc KP.out.size _) (Nat.le_refl _) k)
  clear k
  go_wp2
  go_ret
  exact ⟨rfl, KZ.out⟩
#print axioms heads_any
end Go.Proofs.YtfggoleghpicfaaDoor
