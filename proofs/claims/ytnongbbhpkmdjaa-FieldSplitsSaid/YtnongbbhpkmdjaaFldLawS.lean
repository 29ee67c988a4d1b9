/- The law FieldSplits. -/
import Derived.Test.YtnongbbhpkmdjaaFldW
namespace Go.Proofs.Ytnongbbhpkmdjaa
open Go.RowKit
set_option linter.unusedVariables false
theorem split_small {ifs : LB} {l : List Pc} (hl : l.length ≤ 40) (ht : (txl l).length ≤ 12000) : (splitP ifs l).length ≤ 100000 ∧ ∀ f ∈ splitP ifs l, f.length ≤ 1000000 := by
  constructor
  · have h1 := (Le.split ifs l true (s := CS0) (K := 0) ⟨by simp [CS0], by simp [CS0], by simp [CS0], by simp [CS0], by simp [CS0]⟩).1
    rw [sum_len] at h1
    show (splitC ifs l true CS0).fields.length ≤ _
    omega
  · intro f hf
    have h0 : CS0.Fl 0 := ⟨fun f hf => by simp [CS0] at hf, by simp [CS0]⟩
    have h1 := (Fl.split ifs l true h0).1 f hf
    have key : ∀ l : List Pc, (l.map (fun p => 3 + p.text.length)).sum ≤ 5 * l.length + 2 * (txl l).length := by
      intro l
      induction l with
      | nil => simp
      | cons p r ih =>
        simp only [txl, List.map_cons, List.sum_cons, List.flatten_cons, List.length_append, List.length_cons] at *
        omega
    have := key l
    omega
set_option maxRecDepth 1000000 in
set_option maxHeartbeats 8000000 in
theorem splits_any0 (l : List Pc) (ifs : LB) (A : Option Addr) (n c : Nat) (w : World) (hR : RdP w A n l) (h : ¬ (fewP l ∧ ifs.length ≤ 100)) :
    Calls Try.prog 3 #[.slice A n c, .string ⟨ifs.toArray⟩] w fun e w' => e = .returned (.bool true) ∧ Below w.heap.size w w' := by
  have XH := hide heads_any
  by_cases hf : fewP l
  · have XF := hide (few_yes l A n c w hR hf)
    have k1 : (100 : Int) < (ifs.length : Int) := by
      have : ¬ ifs.length ≤ 100 := fun h' => h ⟨hf, h'⟩
      omega
    clear h hf hR
    go_enter Try.func3, Try.ntmps3
    go_wp2_with fail
    refine XF.out.mono ?_
    rintro e w' ⟨rfl, rfl⟩
    go_wp2_with fail
    refine (XH.out _).mono ?_
    rintro e w' ⟨rfl, hb⟩
    have HB := hide hb
    clear hb
    go_wp2_with fail
    go_ret
    exact ⟨rfl, HB.out⟩
  · have XF := hide (few_no l A n c w hR hf)
    clear h hf hR
    go_enter Try.func3, Try.ntmps3
    go_wp2_with fail
    refine XF.out.mono ?_
    rintro e w' ⟨rfl, rfl⟩
    go_wp2_with fail
    refine (XH.out _).mono ?_
    rintro e w' ⟨rfl, hb⟩
    have HB := hide hb
    clear hb
    go_wp2_with fail
    go_ret
    exact ⟨rfl, HB.out⟩
set_option maxRecDepth 1000000 in
set_option maxHeartbeats 8000000 in
theorem splits_any1 (l : List Pc) (ifs : LB) (A : Option Addr) (n c : Nat) (w : World) (hR : RdP w A n l) (hf : fewP l) (hif : ifs.length ≤ 100) :
    Calls Try.prog 3 #[.slice A n c, .string ⟨ifs.toArray⟩] w fun e w' => e = .returned (.bool true) ∧ Below w.heap.size w w' := by
  have XH := hide heads_any
  have XF := hide (few_yes l A n c w hR hf)
  have hll : l.length = n := by have := hR.1; rw [pvs_length] at this; omega
  have hn40 : n ≤ 40 := by have := hf.1; omega
  have htx := few_txl hf
  have hsm := split_small (ifs := ifs) hf.1 htx
  have HSM := hide hsm
  have R := hide hR
  have K := hide (Below.refl w.heap.size w)
  have k1 : ¬ (100 : Int) < (ifs.length : Int) := by omega
  have X1 := hide (fun W (h : RdP W A n l) => split_any l ifs A n c W h (by omega) (by omega) (by omega))
  have X2 := hide (fun W (h : RdP W A n l) => fsplit_any l ifs A n c W h (by omega) (by omega) (by omega))
  have X3 := hide (fun W (h : RdP W A n l) => text_any l A n c W h (by omega) (by omega))
  have X4 := hide (fun W (h : RdP W A n l) => rtext_any l A n c W h (by omega) (by omega))
  have X5 := hide (fun W (h : RdP W A n l) => pattern_any l A n c W h (by omega) (by omega))
  have X6 := hide (fun W (h : RdP W A n l) => rpattern_any l A n c W h (by omega) (by omega))
  have X7 := hide (fun W (h : RdP W A n l) => fspecial_any l A n c W h (by omega) (by omega))
  have X8 := hide (fun W (h : RdP W A n l) => rfspecial_any l A n c W h (by omega) (by omega))
  obtain ⟨fs, hfs⟩ : ∃ fs, splitP ifs l = fs := ⟨_, rfl⟩
  obtain ⟨T, hT⟩ : ∃ T, txl l = T := ⟨_, rfl⟩
  obtain ⟨P, hP⟩ : ∃ P, patL l = P := ⟨_, rfl⟩
  rw [hfs] at X1 X2 HSM
  rw [hT] at X3 X4
  rw [hP] at X5 X6 X7 X8
  obtain ⟨b, hb⟩ : ∃ b, specialP P = b := ⟨_, rfl⟩
  rw [hb] at X7 X8
  have kt : (T == T) = true := by simp
  have kp : (P == P) = true := by simp
  have kb : (b == b) = true := by simp
  clear hfs hT hP hb hR hll hf hsm
  go_enter Try.func3, Try.ntmps3
  go_wp2_with fail
  refine XF.out.mono ?_
  rintro e w' ⟨rfl, rfl⟩
  clear XF
  go_wp2_with fail
  refine (X1.out _ R.out).mono ?_
  rintro e w1 ⟨A1, n1, c1, rfl, hF1, hb⟩
  have F1 := hide hF1
  replace R : Hid _ := hide (R.out.below hb)
  replace K : Hid _ := hide (below_more K.out (Nat.le_refl _) hb)
  clear hF1 hb
  go_wp2_with fail
  refine (X2.out _ R.out).mono ?_
  rintro e w2 ⟨A2, n2, c2, rfl, hF2, hb⟩
  have F2 := hide hF2
  replace F1 : Hid _ := hide (F1.out.below hb)
  replace R : Hid _ := hide (R.out.below hb)
  replace K : Hid _ := hide (below_more K.out (Nat.le_refl _) hb)
  clear hF2 hb
  obtain rfl : n1 = n2 := by rw [← F1.out.len, ← F2.out.len]
  have X0 := hide (fields_eq _ _ fs A1 A2 n1 c1 c2 w2 F1.out F2.out (by have := F1.out.len; have := HSM.out.1; omega) HSM.out.2)
  clear F1 F2
  go_wp2_with fail
  refine X0.out.mono ?_
  rintro e w3 ⟨rfl, hb⟩
  replace R : Hid _ := hide (R.out.below hb)
  replace K : Hid _ := hide (below_more K.out (Nat.le_refl _) hb)
  clear hb X0
  go_wp2_with fail
  refine (X3.out _ R.out).mono ?_
  rintro e v0 ⟨rfl, hb⟩
  replace R : Hid _ := hide (R.out.below hb)
  replace K : Hid _ := hide (below_more K.out (Nat.le_refl _) hb)
  clear hb
  go_wp2_with fail
  refine (X4.out _ R.out).mono ?_
  rintro e w' ⟨rfl, rfl⟩
  go_wp2_with fail
  refine (X5.out _ R.out).mono ?_
  rintro e v2 ⟨rfl, hb⟩
  replace R : Hid _ := hide (R.out.below hb)
  replace K : Hid _ := hide (below_more K.out (Nat.le_refl _) hb)
  clear hb
  go_wp2_with fail
  refine (X6.out _ R.out).mono ?_
  rintro e v3 ⟨rfl, hb⟩
  replace R : Hid _ := hide (R.out.below hb)
  replace K : Hid _ := hide (below_more K.out (Nat.le_refl _) hb)
  clear hb
  go_wp2_with fail
  refine (X7.out _ R.out).mono ?_
  rintro e v4 ⟨rfl, hb⟩
  replace R : Hid _ := hide (R.out.below hb)
  replace K : Hid _ := hide (below_more K.out (Nat.le_refl _) hb)
  clear hb
  go_wp2_with fail
  refine (X8.out _ R.out).mono ?_
  rintro e v5 ⟨rfl, hb⟩
  replace R : Hid _ := hide (R.out.below hb)
  replace K : Hid _ := hide (below_more K.out (Nat.le_refl _) hb)
  clear hb
  go_wp2_with fail
  refine (XH.out _).mono ?_
  rintro e w9 ⟨rfl, hb⟩
  replace K : Hid _ := hide (below_more K.out (Nat.le_refl _) hb)
  clear hb
  go_wp2_with fail
  go_ret
  exact ⟨rfl, K.out⟩
theorem splits_b (l : List Pc) (A : Option Addr) (n c : Nat) (s : ByteArray) (w : World) (hR : RdP w A n l) : Calls Try.prog 3 #[.slice A n c, .string s] w fun e w' => e = .returned (.bool true) ∧ Below w.heap.size w w' := by
  obtain ⟨ifs, rfl⟩ := bs_of s
  by_cases h : fewP l ∧ ifs.length ≤ 100
  · exact splits_any1 l ifs A n c w hR h.1 h.2
  · exact splits_any0 l ifs A n c w hR h
end Go.Proofs.Ytnongbbhpkmdjaa
