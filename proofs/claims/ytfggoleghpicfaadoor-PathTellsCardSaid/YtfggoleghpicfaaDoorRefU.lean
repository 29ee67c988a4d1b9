/- The reference's contracts: text, Clean, Join. -/
import Derived.Test.YtfggoleghpicfaaDoorRefT
import Derived.Test.YtfggoleghpicfaaDoorPathI
import Derived.Test.YtfggoleghpicfaaDoorPathC
import Derived.Outline
namespace Go.Proofs.YtfggoleghpicfaaDoor
open Go.RowKit
set_option linter.unusedVariables false
/-- What the reference's text holds after some parts. -/
def accT (root : Bool) (ks : List Bs) : Bs := if ks = [] then [] else if root = true then 47 :: Lib.join ks [47] else Lib.join ks [47]
theorem accT_nil (root : Bool) : accT root [] = [] := rfl
theorem accT_first (root : Bool) (x : Bs) : accT root [x] = if root = true then 47 :: x else x := by
  unfold accT; rw [if_neg (by simp), Lib.join_one]
theorem accT_snoc (root : Bool) (ks : List Bs) (x : Bs) (h : ks ≠ []) : accT root (ks ++ [x]) = accT root ks ++ 47 :: x := by
  unfold accT
  rw [if_neg (by simp), if_neg h, join_snoc ks x h]
  cases root <;> simp
theorem accT_len (root : Bool) (ks : List Bs) : (accT root ks).length ≤ wt ks + 1 := by
  have h := total_wt ks
  unfold total at h
  unfold accT
  split
  · simp
  · split
    · simp; omega
    · omega
theorem wt_take (ks : List Bs) (k : Nat) : wt (ks.take k) ≤ wt ks := by
  have := wt_app (ks.take k) (ks.drop k)
  rw [List.take_append_drop] at this
  omega
theorem accT_text (root : Bool) (ks : List Bs) : text root ks = if accT root ks = [] then (if root = true then [47] else [46]) else accT root ks := by
  unfold text accT
  by_cases h : ks = []
  · subst h; simp [Lib.join_nil]
  · rw [if_neg h]
    cases root
    · simp
    · simp
theorem accT_step (root : Bool) (ks : List Bs) (k : Nat) (h : k < ks.length) : accT root (ks.take (k + 1)) = (if k = 0 ∧ root = false then accT root (ks.take k) else accT root (ks.take k) ++ [47]) ++ ks[k] := by
  rw [List.take_succ_eq_append_getElem h]
  cases k with
  | zero =>
    rw [List.take_zero, List.nil_append, accT_first, accT_nil]
    cases root <;> simp
  | succ k =>
    rw [if_neg (by omega), accT_snoc _ _ _ (by intro e; have := congrArg List.length e; simp at this; first | omega | (subst this; simp at h))]
    simp
set_option maxHeartbeats 2000000 in
theorem rtext_any (ks : List Bs) (root : Bool) (A : Option Addr) (n c : Nat) (w : World) (hR : Reads w w.heap.size 1 A n (svs ks)) (hk : wt ks ≤ 200000) :
    Calls Tryd.prog 27 #[.slice A n c, .bool root] w fun e w' => e = .returned (.string ⟨(text root ks).toArray⟩) ∧ w' = w := by
  have hn : ks.length = n := by have := hR.1; rw [svs_length] at this; omega
  subst hn
  have HR := hide hR
  have hbig : ks.length ≤ 200001 := by
    have h1 := total_len ks
    have h2 := total_wt ks
    omega
  clear hR
  go_enter Tryd.func27, Tryd.ntmps27
  go_wp2_with fail
  go_loopw [5, 6] (fun u5 u6 wx => ∃ (k : Nat), k ≤ ks.length ∧ u6 = .int .i64 k ∧ u5 = .string ⟨(accT root (ks.take k)).toArray⟩ ∧ wx = w) (fun _ i _ => ks.length - (intOf i).toNat)
  case atStart => exact ⟨0, Nat.zero_le _, rfl, rfl, rfl⟩
  case round =>
    obtain ⟨k, hkl, rfl, rfl, rfl⟩ := hrel
    by_cases hlt : k < ks.length
    · obtain ⟨ad, u, hA1, hadb, hu, hcell⟩ := HR.out.at_ hlt
      subst hA1
      rw [svs_get ks k hlt] at hu
      injection hu with hu
      subst hu
      unfold sv at hcell
      have hT := hide (accT_step root ks k hlt)
      have hal : (accT root (ks.take k)).length ≤ 200001 := by have h1 := accT_len root (ks.take k); have h2 := wt_take ks k; omega
      have hxl : (ks[k]).length ≤ 200001 := by
        have h2 := wt_take ks (k + 1)
        rw [List.take_succ_eq_append_getElem hlt, wt_app] at h2
        have : wt [ks[k]] = (ks[k]).length + 1 := by simp [wt]
        omega
      generalize accT root (ks.take k) = s at *
      generalize ks[k] = x at *
      cases root with
      | true =>
        have hT2 : Hid (accT true (ks.take (k + 1)) = s ++ [47] ++ x) := hide (by rw [hT.out, if_neg (by simp)])
        clear hT
        rcases Nat.eq_zero_or_pos k with h0 | h0
        · have hd : decide ((0 : Int) < (k : Int)) = false := by rw [h0]; rfl
          have h0' : ¬ (0 < k) := by omega
          have h0i : ¬ ((0 : Int) < (k : Int)) := by omega
          clear h0
          go_wp2_with fail
          go_roundw
          case rel => exact ⟨k + 1, by omega, by go_num, by rw [hT2.out]; exact congrArg Value.string (ByteArray.ext (by simp)), by first | rfl | trivial⟩
          case measure => simp [intOf]; omega
        · have hd : decide ((0 : Int) < (k : Int)) = true := by rw [decide_eq_true_iff]; omega
          go_wp2_with fail
          go_roundw
          case rel => exact ⟨k + 1, by omega, by go_num, by rw [hT2.out]; exact congrArg Value.string (ByteArray.ext (by simp)), by first | rfl | trivial⟩
          case measure => simp [intOf]; omega
      | false =>
        rcases Nat.eq_zero_or_pos k with h0 | h0
        · have hT2 : Hid (accT false (ks.take (k + 1)) = s ++ x) := hide (by rw [hT.out, if_pos ⟨h0, rfl⟩])
          have hd : decide ((0 : Int) < (k : Int)) = false := by rw [h0]; rfl
          have h0' : ¬ (0 < k) := by omega
          have h0i : ¬ ((0 : Int) < (k : Int)) := by omega
          clear hT h0
          go_wp2_with fail
          go_roundw
          case rel => exact ⟨k + 1, by omega, by go_num, by rw [hT2.out]; exact congrArg Value.string (ByteArray.ext (by simp)), by first | rfl | trivial⟩
          case measure => simp [intOf]; omega
        · have hT2 : Hid (accT false (ks.take (k + 1)) = s ++ [47] ++ x) := hide (by rw [hT.out, if_neg (by omega)])
          have hd : decide ((0 : Int) < (k : Int)) = true := by rw [decide_eq_true_iff]; omega
          clear hT
          go_wp2_with fail
          go_roundw
          case rel => exact ⟨k + 1, by omega, by go_num, by rw [hT2.out]; exact congrArg Value.string (ByteArray.ext (by simp)), by first | rfl | trivial⟩
          case measure => simp [intOf]; omega
    · obtain rfl : k = ks.length := by omega
      have hT := hide (accT_text root ks)
      rw [List.take_length]
      generalize accT root ks = s at *
      by_cases hs : s = []
      · subst hs
        cases root
        · go_wp2_with fail
          go_ret
          exact ⟨by rw [hT.out]; rfl, rfl⟩
        · go_wp2_with fail
          go_ret
          exact ⟨by rw [hT.out]; rfl, rfl⟩
      · have he : (s == []) = false := beq_eq_false_iff_ne.2 hs
        have he2 : s.isEmpty = false := by cases s with
          | nil => exact absurd rfl hs
          | cons a t => rfl
        have hT2 : Hid (text root ks = s) := hide (by rw [hT.out, if_neg hs])
        clear hT hs
        go_wp2_with fail
        go_ret
        exact ⟨by rw [hT2.out]; rfl, rfl⟩
set_option maxHeartbeats 1000000 in
theorem rclean_any (l : Bs) (w : World) (hl : l.length ≤ 100000) :
    Calls Tryd.prog 18 #[.string ⟨l.toArray⟩] w fun e w' => e = .returned (.string ⟨(clean l).toArray⟩) ∧ Below w.heap.size w w' := by
  have HL := hide (rleft_any l w hl)
  have hwt := wt_cleaned l (rooted l)
  have HC : Hid (clean l = text (rooted l) (cleaned l (rooted l))) := hide rfl
  generalize cleaned l (rooted l) = ks at *
  go_enter Tryd.func18, Tryd.ntmps18
  go_wp2_with fail
  refine HL.out.mono ?_
  rintro e w1 ⟨A, n, c, rfl, hO, hb⟩
  have HX := hide (rtext_any ks (rooted l) A n c w1 hO.rd (by omega))
  have HB := hide hb
  clear hO hb HL
  go_wp2_with (first
    | (go_at_call 26; refine (rrooted_any l _).mono ?_; rintro e w' ⟨rfl, rfl⟩)
    | (go_at_call 27; refine HX.out.mono ?_; rintro e w' ⟨rfl, rfl⟩))
  go_ret
  exact ⟨by rw [HC.out]; rfl, HB.out⟩
end Go.Proofs.YtfggoleghpicfaaDoor
