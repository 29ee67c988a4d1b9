/- The reference's contracts of layer 31: Paths, Echo. -/
import Derived.Test.YtkiahjfcnhpblaaDoorRefB
namespace Go.Proofs.YtkiahjfcnhpblaaDoor
open Go.RowKit
open Go.Maps
set_option linter.unusedVariables false
theorem join_two (s : UInt8) (x y : Bs) (r : List Bs) : Lib.join (x :: y :: r) [s] = x ++ s :: Lib.join (y :: r) [s] := by
  rw [Lib.join_cons, Lib.join_cons]
  simp [Lib.joinTail]
theorem join_snoc (s : UInt8) (ks : List Bs) (x : Bs) (h : ks ≠ []) : Lib.join (ks ++ [x]) [s] = Lib.join ks [s] ++ s :: x := by
  induction ks with
  | nil => exact absurd rfl h
  | cons y r ih =>
    cases r with
    | nil => rw [List.cons_append, List.nil_append, join_two, Lib.join_one, Lib.join_one]
    | cons z r =>
      rw [List.cons_append, List.cons_append, join_two, join_two]
      have := ih (by simp)
      rw [List.cons_append] at this
      rw [this]; simp
theorem echoJ (ks : List Bs) (k : Nat) (h : k < ks.length) : (if k = 0 then Lib.join (ks.take k) [32] ++ ks[k] else Lib.join (ks.take k) [32] ++ 32 :: ks[k]) = Lib.join (ks.take (k + 1)) [32] := by
  rw [List.take_succ_eq_append_getElem h]
  by_cases h0 : k = 0
  · subst h0
    rw [if_pos rfl, List.take_zero, List.nil_append, Lib.join_one, Lib.join_nil, List.nil_append]
  · rw [if_neg h0, join_snoc]
    intro e
    have := congrArg List.length e
    rw [List.length_take, List.length_nil] at this
    omega
theorem join_take_le (ks : List Bs) (k : Nat) : (Lib.join (ks.take k) [32]).length ≤ tot ks + ks.length := by
  have h1 := join_tot (ks.take k) 32
  have h2 : tot (ks.take k) ≤ tot ks := by
    have : tot ks = tot (ks.take k) + tot (ks.drop k) := by
      unfold tot
      rw [← List.sum_append, ← List.map_append, List.take_append_drop]
    omega
  have h3 : (ks.take k).length ≤ ks.length := by simp; omega
  omega
set_option maxHeartbeats 2000000 in
theorem recho_any (l : List Bs) (A : Option Addr) (n c : Nat) (w : World) (ht : tot l ≤ 500000) (hl : l.length ≤ 1000) (hA : Reads w w.heap.size 1 A n (svs l)) :
    Calls Tryd.prog 16 #[.slice A n c] w fun e w' => e = .returned (.string ⟨(echoR l).toArray⟩) ∧ Below w.heap.size w w' := by
  have hn := rd_len hA
  subst hn
  have HE : Hid (echoR l = Lib.join l [32] ++ [10]) := hide rfl
  have HA := hide hA
  have HT := hide (fun k => join_take_le l k)
  have HTT := hide ht
  clear hA ht
  go_enter Tryd.func16, Tryd.ntmps16
  go_wp2_with fail
  go_loop [3, 4] (fun u3 u4 => ∃ k : Nat, k ≤ l.length ∧ u4 = .int .i64 k ∧ u3 = .string ⟨(Lib.join (l.take k) [32]).toArray⟩) (fun _ i => l.length - (intOf i).toNat)
  case atStart => exact ⟨0, Nat.zero_le _, rfl, rfl⟩
  case round =>
    obtain ⟨k, hk, rfl, rfl⟩ := hrel
    have hsz : (Lib.join (l.take k) [32]).length ≤ 501000 := by have := HT.out k; have := HTT.out; omega
    by_cases hlt : k < l.length
    · obtain ⟨g, o, rfl, hg, hcl⟩ := rd_cells HA.out (by omega)
      have hcell := hcl k hlt
      have hJ := hide (echoJ l k hlt)
      have hxl : (l[k]).length ≤ 501000 := by
        have h1 := HT.out (k + 1)
        have h2 := HTT.out
        have h3 := hJ.out
        have h4 : (l[k]).length ≤ (Lib.join (l.take (k + 1)) [32]).length := by
          rw [← h3]; split <;> (simp; try omega)
        omega
      generalize l[k] = x at *
      obtain ⟨j2, hj2⟩ : ∃ j2, Lib.join (l.take (k + 1)) [32] = j2 := ⟨_, rfl⟩
      rw [hj2] at hJ
      have HJ2 := hide hj2
      clear hj2
      generalize Lib.join (l.take k) [32] = j1 at *
      by_cases h0 : k = 0
      · have hj : j1 ++ x = j2 := by have := hJ.out; rw [if_pos h0] at this; exact this
        have hcat : (⟨j1.toArray⟩ : ByteArray) ++ (⟨x.toArray⟩ : ByteArray) = ⟨j2.toArray⟩ := by rw [← hj]; apply ByteArray.ext; simp
        have hpos : ¬ (0 : Int) < (k : Int) := by omega
        have HK0 := hide h0
        clear hcl hJ hj h0
        go_wp2_with fail
        go_round
        case rel => exact ⟨k + 1, by omega, by go_num, by rw [HJ2.out]⟩
        case measure => simp [intOf]; omega
      · have hj : j1 ++ 32 :: x = j2 := by have := hJ.out; rw [if_neg h0] at this; exact this
        have hcat : (⟨j1.toArray⟩ : ByteArray) ++ (⟨#[32]⟩ : ByteArray) ++ (⟨x.toArray⟩ : ByteArray) = ⟨j2.toArray⟩ := by rw [← hj]; apply ByteArray.ext; simp
        have hpos : (0 : Int) < (k : Int) := by omega
        clear hcl hJ hj h0
        go_wp2_with fail
        go_round
        case rel => exact ⟨k + 1, by omega, by go_num, by rw [HJ2.out]⟩
        case measure => simp [intOf]; omega
    · obtain rfl : k = l.length := by omega
      rw [List.take_length] at hsz ⊢
      generalize Lib.join l [32] = j at *
      have hcat : (⟨j.toArray⟩ : ByteArray) ++ (⟨#[10]⟩ : ByteArray) = ⟨(j ++ [10]).toArray⟩ := by apply ByteArray.ext; simp
      go_wp2_with fail
      go_ret
      exact ⟨ret_str (by rw [HE.out]), Below.refl _ _⟩
end Go.Proofs.YtkiahjfcnhpblaaDoor
