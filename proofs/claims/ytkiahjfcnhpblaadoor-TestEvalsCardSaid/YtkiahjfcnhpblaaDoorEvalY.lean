/- Contracts of test.Eval, Paths, Echo; the reference's Texts; layer 11's Few. -/
import Derived.Test.YtkiahjfcnhpblaaDoorEvalX
namespace Go.Proofs.YtkiahjfcnhpblaaDoor
open Go.RowKit
open Go.Maps
set_option linter.unusedVariables false
def evalP (l : List Bs) (kinds : List Int) : Bool × Int := if (posF false l).2.2 = true then (if (evalR (posF false l).1 kinds).2 = 0 then ((evalR (posF false l).1 kinds).1 != (posF false l).2.1, 0) else (false, (evalR (posF false l).1 kinds).2)) else (false, 32)
theorem posF_sub : ∀ (l : List Bs) (neg : Bool), ∀ k ∈ (posF neg l).1, k ∈ l
  | [], neg, k, h => by simp [posF] at h
  | [x], neg, k, h => by simpa [posF] using h
  | x :: y :: t, neg, k, h => by
    unfold posF at h
    split at h
    · split at h
      · simp at h
      · exact List.mem_cons_of_mem _ (posF_sub (y :: t) _ k h)
    · exact h
theorem posF_len : ∀ (l : List Bs) (neg : Bool), (posF neg l).2.2 = true → (posF neg l).1.length ≤ 3
  | [], neg, h => by simp [posF]
  | [x], neg, h => by simp [posF]
  | x :: y :: t, neg, h => by
    unfold posF at h ⊢
    split
    · rename_i h1
      rw [if_pos h1] at h
      split
      · simp
      · rename_i h2
        rw [if_neg h2] at h
        exact posF_len (y :: t) _ h
    · rename_i h1
      rw [if_neg h1] at h
      simp only [Bool.or_eq_true, beq_iff_eq, Bool.and_eq_true] at h
      simp only [List.length_cons]
      omega
set_option maxHeartbeats 2000000 in
theorem eval_any (l : List Bs) (kinds : List Int) (A B : Option Addr) (n c m d : Nat) (w : World) (hS : Std w) (hl : l.length ≤ 1000) (hk : ∀ k ∈ l, k.length ≤ 1000000) (hc : n ≤ c) (hcm : c ≤ maxLen) (hA : Reads w w.heap.size 1 A n (svs l)) (hB : Reads w w.heap.size 1 B m (ivs kinds)) :
    Calls Tryd.prog 8 #[.slice A n c, .slice B m d] w fun e w' => e = .returned (.tuple #[.bool (evalP l kinds).1, .int .i64 (evalP l kinds).2]) ∧ Below w.heap.size w w' := by
  have HE : Hid (evalP l kinds = if (posF false l).2.2 = true then (if (evalR (posF false l).1 kinds).2 = 0 then ((evalR (posF false l).1 kinds).1 != (posF false l).2.1, 0) else (false, (evalR (posF false l).1 kinds).2)) else (false, 32)) := hide rfl
  have HP := hide (positive_any l A n c w hl hk hc hcm hA)
  have hsub := posF_sub l false
  have hlen := posF_len l false
  have HS := hide hS
  have HB := hide hB
  generalize evalP l kinds = out at HE ⊢
  generalize posF false l = r at HE HP hsub hlen
  obtain ⟨r1, r2, r3⟩ := r
  have HV := hide (fun (h : r3 = true) A n c W (hW : Std W) (hA : Reads W W.heap.size 1 A n (svs r1)) (hB : Reads W W.heap.size 1 B m (ivs kinds)) => evaluate_any r1 kinds A B n c m d W hW (hlen h) (fun k h => hk k (hsub k h)) hA hB)
  simp only at HE HP HV
  generalize evalR r1 kinds = ev at HE HV
  obtain ⟨v1, v2⟩ := ev
  simp only at HE HV
  clear hsub hlen hA hk hl hS hB
  go_enter Tryd.func8, Tryd.ntmps8
  go_wp2_with fail
  refine HP.out.mono ?_
  rintro e w1 ⟨A', n', c', rfl, hR, hnc, hb⟩
  have HR := hide hR
  have HB1 := hide hb
  clear hR hb
  cases r3 with
  | false =>
    have HE2 : Hid (out = (false, 32)) := hide (by rw [HE.out]; rfl)
    go_wp2_with fail
    go_ret2
    exact ⟨by rw [HE2.out] <;> rfl, HB1.out⟩
  | true =>
    go_wp2_with fail
    refine (HV.out trivial _ _ _ _ (HS.out.below HB1.out) (HR.out.more HB1.out.size) ((HB.out.below HB1.out).more HB1.out.size)).mono ?_
    rintro e w2 ⟨rfl, hb⟩
    have HB2 := hide (below_more HB1.out (Nat.le_refl _) hb)
    clear hb
    by_cases h0 : v2 = 0
    · subst h0
      have HE2 : Hid (out = (v1 != r2, 0)) := hide (by rw [HE.out]; rfl)
      go_wp2_with fail
      go_ret2
      exact ⟨by rw [HE2.out] <;> rfl, HB2.out⟩
    · have hne : (v2 != 0) = true := by rw [bne_iff_ne]; exact h0
      have HE2 : Hid (out = (false, v2)) := hide (by rw [HE.out, if_pos trivial, if_neg h0])
      clear h0
      go_wp2_with fail
      go_ret2
      exact ⟨by rw [HE2.out] <;> rfl, HB2.out⟩
def pathsM : List Bs × Bool × Bool → List Bs
  | ([a, b], _, true) => if asksN a = -1 then [] else [b]
  | _ => []
theorem pathsM_false (r1 : List Bs) (r2 : Bool) : pathsM (r1, r2, false) = [] := by
  rcases r1 with _ | ⟨a, _ | ⟨b, _ | _⟩⟩ <;> rfl
def pathsR (l : List Bs) : List Bs := pathsM (posF false l)
set_option maxHeartbeats 2000000 in
theorem paths_any (l : List Bs) (A : Option Addr) (n c : Nat) (w : World) (hl : l.length ≤ 1000) (hk : ∀ k ∈ l, k.length ≤ 1000000) (hc : n ≤ c) (hcm : c ≤ maxLen) (hA : Reads w w.heap.size 1 A n (svs l)) :
    Calls Tryd.prog 13 #[.slice A n c] w fun e w' => ∃ A' n' c', e = .returned (.slice A' n' c') ∧ Reads w' w'.heap.size 1 A' n' (svs (pathsR l)) ∧ Below w.heap.size w w' := by
  have HE : Hid (pathsR l = pathsM (posF false l)) := hide rfl
  have HP := hide (positive_any l A n c w hl hk hc hcm hA)
  generalize pathsR l = out at HE ⊢
  generalize posF false l = r at HE HP
  obtain ⟨r1, r2, r3⟩ := r
  simp only at HP
  clear hA hk hl
  go_enter Tryd.func13, Tryd.ntmps13
  go_wp2_with fail
  refine HP.out.mono ?_
  rintro e w1 ⟨A', n', c', rfl, hR, hnc, hb⟩
  have HR := hide (hR.more hb.size)
  have HB1 := hide hb
  have hn := rd_len hR
  subst hn
  clear hR hb
  cases r3 with
  | false =>
    have HE2 : Hid (out = []) := hide (by rw [HE.out, pathsM_false])
    go_wp2_with fail
    go_ret
    exact ⟨none, 0, 0, rfl, by rw [HE2.out]; exact Reads.none_, HB1.out⟩
  | true =>
    match r1, HE, HR with
    | [], HE, HR =>
      have HE2 : Hid (out = []) := hide (by rw [HE.out]; rfl)
      go_wp2_with fail
      go_ret
      exact ⟨none, 0, 0, rfl, by rw [HE2.out]; exact Reads.none_, HB1.out⟩
    | [x], HE, HR =>
      have HE2 : Hid (out = []) := hide (by rw [HE.out]; rfl)
      go_wp2_with fail
      go_ret
      exact ⟨none, 0, 0, rfl, by rw [HE2.out]; exact Reads.none_, HB1.out⟩
    | x :: y :: z :: t, HE, HR =>
      have HE2 : Hid (out = []) := hide (by rw [HE.out]; rfl)
      have hlen : (x :: y :: z :: t).length = t.length + 3 := by simp
      have hne : ((t.length : Int) + 3 == 2) = false := beq_eq_false_iff_ne.2 (by omega)
      rw [hlen]
      go_wp2_with fail
      go_ret
      exact ⟨none, 0, 0, rfl, by rw [HE2.out]; exact Reads.none_, HB1.out⟩
    | [x, y], HE, HR =>
      have HE2 : Hid (out = if asksN x = -1 then [] else [y]) := hide HE.out
      obtain ⟨g, o, rfl, hg, hcl⟩ := rd_cells HR.out (by simp)
      have hc0 : w1.cell? ⟨g, o, none⟩ = some (.string ⟨x.toArray⟩) := hcl 0 (by simp)
      have hc1 : w1.cell? ⟨g, o + 1, none⟩ = some (.string ⟨y.toArray⟩) := hcl 1 (by simp)
      have HAS := hide (fun W => asks_any x W)
      generalize asksN x = q at *
      clear hcl HE HR HP
      by_cases hq : q = -1
      · subst hq
        have HE3 : Hid (out = []) := hide (by rw [HE2.out]; rfl)
        go_wp2_with fail
        refine (HAS.out _).mono ?_
        rintro e w2 ⟨rfl, rfl⟩
        go_wp2_with fail
        go_ret
        exact ⟨none, 0, 0, rfl, by rw [HE3.out]; exact Reads.none_, HB1.out⟩
      · have hne : (q != -1) = true := by rw [bne_iff_ne]; exact hq
        have HE3 : Hid (out = [y]) := hide (by rw [HE2.out, if_neg hq])
        clear hq
        go_wp2_with fail
        refine (HAS.out _).mono ?_
        rintro e w2 ⟨rfl, rfl⟩
        go_wp2_with fail
        go_ret
        exact ⟨_, 1, 1, rfl, by rw [HE3.out]; simpa using one_str w1 y, HB1.out.alloc HB1.out.size _⟩
def tot (ks : List Bs) : Nat := (ks.map List.length).sum
theorem join_tot (ks : List Bs) (sep : UInt8) : (Lib.join ks [sep]).length ≤ tot ks + ks.length := by
  cases ks with
  | nil => simp [Lib.join_nil]
  | cons x r =>
    rw [Lib.join_cons, List.length_append, Lib.joinTail_length]
    have : ∀ q : List Bs, Lib.lens q = (q.map List.length).sum := by
      intro q
      induction q with
      | nil => rfl
      | cons a t _ => simp [Lib.lens]
    simp [tot, this]
    omega
def echoR (l : List Bs) : Bs := Lib.join l [32] ++ [10]
set_option maxHeartbeats 1000000 in
theorem echo_any (l : List Bs) (A : Option Addr) (n c : Nat) (w : World) (ht : (Lib.join l [32]).length ≤ 1000000) (hc : n ≤ c) (hA : Reads w w.heap.size 1 A n (svs l)) :
    Calls Tryd.prog 15 #[.slice A n c] w fun e w' => e = .returned (.string ⟨(echoR l).toArray⟩) ∧ Below w.heap.size w w' := by
  have hJ := hide (join_row 32 A n c l w hA hc (fun h => by obtain ⟨g, o, e, _⟩ := rd_cells hA h; exact ⟨g, o, e⟩) ht)
  have HE : Hid (echoR l = Lib.join l [32] ++ [10]) := hide rfl
  generalize Lib.join l [32] = j at *
  have hcat : (⟨j.toArray⟩ : ByteArray) ++ (⟨#[10]⟩ : ByteArray) = ⟨(j ++ [10]).toArray⟩ := by apply ByteArray.ext; simp
  have h27 : Calls Tryd.prog 27 #[.slice A n c] w fun e w' => e = .returned (.string ⟨j.toArray⟩) ∧ Below w.heap.size w w' := by
    go_enter Tryd.func27, Tryd.ntmps27
    go_wp2_with fail
    refine hJ.out.mono ?_
    rintro e w1 ⟨rfl, hb⟩
    go_wp2_with fail
    go_ret
    exact ⟨rfl, hb⟩
  have H27 := hide h27
  clear h27 hA
  go_enter Tryd.func15, Tryd.ntmps15
  go_wp2_with fail
  refine H27.out.mono ?_
  rintro e w1 ⟨rfl, hb⟩
  have HB := hide hb
  clear hb
  go_wp2_with fail
  go_ret
  exact ⟨ret_str (by rw [HE.out]), HB.out⟩
/-- Layer 11's Few. -/
def fewL (l : List Bs) : Bool := decide (l.length ≤ 60) && l.all fun k => decide (k.length ≤ 600)
set_option maxHeartbeats 1000000 in
theorem few_any (l : List Bs) (A : Option Addr) (n c : Nat) (w : World) (hA : Reads w w.heap.size 1 A n (svs l)) :
    Calls Tryd.prog 6 #[.slice A n c] w fun e w' => e = .returned (.bool (fewL l)) ∧ w = w' := by
  have hn := rd_len hA
  subst hn
  have HE : Hid (fewL l = (decide (l.length ≤ 60) && l.all fun k => decide (k.length ≤ 600))) := hide rfl
  have HA := hide hA
  clear hA
  by_cases h60 : l.length ≤ 60
  · go_enter Tryd.func6, Tryd.ntmps6
    go_wp2_with fail
    go_loop [3] (fun u3 => ∃ k : Nat, k ≤ l.length ∧ u3 = .int .i64 k ∧ Hid (∀ j (h : j < l.length), j < k → (l[j]).length ≤ 600)) (fun i => l.length - (intOf i).toNat)
    case atStart => exact ⟨0, Nat.zero_le _, rfl, hide (fun j h h2 => by omega)⟩
    case round =>
      obtain ⟨k, hk, rfl, HF⟩ := hrel
      by_cases hlt : k < l.length
      · obtain ⟨g, o, rfl, hg, hcl⟩ := rd_cells HA.out (by omega)
        have hcell := hcl k hlt
        by_cases hbig : 600 < (l[k]).length
        · have hbig' : (600 : Int) < ((l[k]).length : Int) := by omega
          have HE2 : Hid (fewL l = false) := hide (by
            rw [HE.out, Bool.and_eq_false_iff]
            right
            rw [List.all_eq_false]
            exact ⟨l[k], List.getElem_mem _, by simpa using hbig⟩)
          generalize l[k] = x at *
          clear hcl HF
          go_wp2_with fail
          go_ret
          exact ⟨ret_bool HE2.out.symm, rfl⟩
        · have hbig' : ¬ (600 : Int) < ((l[k]).length : Int) := by omega
          have HF2 : Hid (∀ j (h : j < l.length), j < k + 1 → (l[j]).length ≤ 600) := hide (fun j h h2 => by
            rcases Nat.lt_or_ge j k with h3 | h3
            · exact HF.out j h h3
            · obtain rfl : j = k := by omega
              omega)
          generalize l[k] = x at *
          clear hcl HF hbig
          go_wp2_with fail
          go_round
          case rel => exact ⟨k + 1, by omega, by go_num, HF2⟩
          case measure => simp [intOf]; omega
      · have HE2 : Hid (fewL l = true) := hide (by
          rw [HE.out, Bool.and_eq_true]
          refine ⟨by simpa using h60, ?_⟩
          rw [List.all_eq_true]
          intro x hx
          obtain ⟨j, hj, rfl⟩ := List.getElem_of_mem hx
          simpa using HF.out j hj (by omega))
        clear HF
        go_wp2_with fail
        go_ret
        exact ⟨by rw [HE2.out]; simp; omega, rfl⟩
  · have HE2 : Hid (fewL l = false) := hide (by rw [HE.out]; simp [h60])
    go_enter Tryd.func6, Tryd.ntmps6
    go_wp2_with fail
    go_loop [3] (fun u3 => u3 = .int .i64 0) (fun _ => 0)
    case atStart => rfl
    case round =>
      obtain rfl := hrel
      have hpos : (0 : Int) < (l.length : Int) := by omega
      go_wp2_with fail
      go_ret
      exact ⟨by rw [HE2.out]; simp; omega, rfl⟩
end Go.Proofs.YtkiahjfcnhpblaaDoor
