/- The law PathTells. -/
import Derived.Test.YtfggoleghpicfaaDoorChkA
import Derived.Outline
namespace Go.Proofs.YtfggoleghpicfaaDoor
open Go.RowKit
set_option linter.unusedVariables false
set_option maxRecDepth 10000 in
set_option maxHeartbeats 4000000 in
theorem tells_law (p q : Bs) (w : World) (hS : Std w) :
    Calls Tryd.prog 3 #[.string ⟨p.toArray⟩, .string ⟨q.toArray⟩] w fun e w' => e = .returned (.bool true) ∧ Below w.heap.size w w' := by
  have HS := hide hS
  have K0 := hide (Below.refl w.heap.size w)
  clear hS
  by_cases hp : 500 < p.length
  · have hp' : (500 : Int) < (p.length : Int) := by omega
    go_enter Tryd.func3, Tryd.ntmps3
    go_wp2_with fail
    refine (heads_any _ (HS.out.below K0.out)).mono ?_
    rintro e w9 ⟨rfl, h9⟩
    have H9 := hide (below_more K0.out (Nat.le_refl _) h9)
    clear h9
    go_wp2_with fail
    go_ret
    exact ⟨rfl, H9.out⟩
  have hp' : ¬ (500 : Int) < (p.length : Int) := by omega
  by_cases hq : 500 < q.length
  · have hq' : (500 : Int) < (q.length : Int) := by omega
    go_enter Tryd.func3, Tryd.ntmps3
    go_wp2_with fail
    refine (heads_any _ (HS.out.below K0.out)).mono ?_
    rintro e w9 ⟨rfl, h9⟩
    have H9 := hide (below_more K0.out (Nat.le_refl _) h9)
    clear h9
    go_wp2_with fail
    go_ret
    exact ⟨rfl, H9.out⟩
  have hq' : ¬ (500 : Int) < (q.length : Int) := by omega
  obtain ⟨la, hla⟩ : ∃ x, lastA p = x := ⟨_, rfl⟩
  obtain ⟨lb, hlb⟩ : ∃ x, lastB p = x := ⟨_, rfl⟩
  obtain ⟨cl, hcl⟩ : ∃ x, clean p = x := ⟨_, rfl⟩
  obtain ⟨jn, hjn⟩ : ∃ x, joinP p q = x := ⟨_, rfl⟩
  obtain ⟨ins, hins⟩ : ∃ x, insideP p q = x := ⟨_, rfl⟩
  obtain ⟨cc0, hcc⟩ : ∃ x, checkC p = x := ⟨_, rfl⟩
  obtain ⟨nc, hnc⟩ : ∃ x, nameC p = x := ⟨_, rfl⟩
  obtain ⟨ps, hps⟩ : ∃ x, parts p = x := ⟨_, rfl⟩
  have hpl := parts_le p
  rw [hps] at hpl
  have X8 := hide (fun W (h : Std W) => last_l p W h (by omega))
  have X9 := hide (fun W => rlast_any p W (by omega))
  have X10 := hide (fun W (h : Std W) => check_any p W h)
  have X11 := hide (fun W => rcheck_any p W (by omega))
  have X12 := hide (fun W => name_c p W (by omega))
  have X13 := hide (fun W => rname_any p W (by omega))
  have X15 := hide (fun W (h : Std W) => parts_n p ps hps W h (by omega))
  have X16 := hide (fun W => rparts_any p W (by omega))
  have X17 := hide (fun W (h : Std W) => clean_l p W h (by omega))
  have X18 := hide (fun W => rclean_any p W (by omega))
  have X19 := hide (fun W (h : Std W) => join_l p q W h (by omega) (by omega))
  have X20 := hide (fun W => rjoin_any p q W (by omega) (by omega))
  have X21 := hide (fun W (h : Std W) => inside_l p q W h (by omega) (by omega))
  have X22 := hide (fun W => rinside_any p q W (by omega) (by omega))
  rw [hla, hlb] at X8 X9
  rw [hcc] at X10 X11
  rw [hnc] at X12 X13
  rw [hps] at X16
  rw [hcl] at X17 X18
  rw [hjn] at X19 X20
  rw [hins] at X21 X22
  clear hla hlb hcl hjn hins hcc hnc hps
  have ela : (la == la) = true := by simp
  have elb : (lb == lb) = true := by simp
  have ecl : (cl == cl) = true := by simp
  have ejn : (jn == jn) = true := by simp
  have ecc : (cc0 == cc0) = true := by simp
  have enc' : (nc == nc) = true := by simp
  have eins : (ins == ins) = true := by simp
  go_enter Tryd.func3, Tryd.ntmps3
  go_wp2_with fail
  refine (X8.out _ (HS.out.below K0.out)).mono ?_
  rintro e w1 ⟨rfl, k⟩
  have K1 := hide (below_more K0.out (Nat.le_refl _) k)
  clear k
  go_wp2_with fail
  refine (X9.out _).mono ?_
  rintro e w2 ⟨rfl, k⟩
  have K2 := hide (below_more K1.out (Nat.le_refl _) k)
  clear k
  go_wp2_with fail
  refine (X10.out _ (HS.out.below K2.out)).mono ?_
  rintro e w3 ⟨rfl, k⟩
  have K3 := hide (below_more K2.out (Nat.le_refl _) k)
  clear k
  go_wp2_with fail
  refine (X11.out _).mono ?_
  rintro e w4 ⟨rfl, k⟩
  have K4 := hide (below_more K3.out (Nat.le_refl _) k)
  clear k
  go_wp2_with fail
  refine (X12.out _).mono ?_
  rintro e w5 ⟨rfl, k⟩
  have K5 := hide (below_more K4.out (Nat.le_refl _) k)
  clear k
  go_wp2_with fail
  refine (X13.out _).mono ?_
  rintro e w6 ⟨rfl, rfl⟩
  go_wp2_with fail
  refine (X15.out _ (HS.out.below K5.out)).mono ?_
  rintro e w6 ⟨A, c, rfl, hO, k⟩
  have HO := hide hO
  have K6 := hide (below_more K5.out (Nat.le_refl _) k)
  clear k hO
  go_wp2_with fail
  refine (X16.out _).mono ?_
  rintro e w7 ⟨B, n, d, rfl, hO2, k⟩
  have hn := hO2.len
  subst hn
  have HRB := hide hO2.rd
  have HRA := hide (HO.out.below k).rd
  have K7 := hide (below_more K6.out (Nat.le_refl _) k)
  clear k hO2 HO
  go_wp2_with fail
  refine (rsame_any ps ps A B ps.length c ps.length d _ HRA.out HRB.out rfl (by omega)).mono ?_
  rintro e w8 ⟨rfl, k⟩
  have K8 := hide (below_more K7.out (Nat.le_refl _) k)
  clear k
  go_wp2_with fail
  refine (X17.out _ (HS.out.below K8.out)).mono ?_
  rintro e w9 ⟨rfl, k⟩
  have K9 := hide (below_more K8.out (Nat.le_refl _) k)
  clear k
  go_wp2_with fail
  refine (X18.out _).mono ?_
  rintro e w10 ⟨rfl, k⟩
  have K10 := hide (below_more K9.out (Nat.le_refl _) k)
  clear k
  go_wp2_with fail
  refine (X19.out _ (HS.out.below K10.out)).mono ?_
  rintro e w11 ⟨rfl, k⟩
  have K11 := hide (below_more K10.out (Nat.le_refl _) k)
  clear k
  go_wp2_with fail
  refine (X20.out _).mono ?_
  rintro e w12 ⟨rfl, k⟩
  have K12 := hide (below_more K11.out (Nat.le_refl _) k)
  clear k
  go_wp2_with fail
  refine (X21.out _ (HS.out.below K12.out)).mono ?_
  rintro e w13 ⟨rfl, k⟩
  have K13 := hide (below_more K12.out (Nat.le_refl _) k)
  clear k
  go_wp2_with fail
  refine (X22.out _).mono ?_
  rintro e w14 ⟨rfl, k⟩
  have K14 := hide (below_more K13.out (Nat.le_refl _) k)
  clear k
  go_wp2_with fail
  refine (heads_any _ (HS.out.below K14.out)).mono ?_
  rintro e w9 ⟨rfl, h9⟩
  have H9 := hide (below_more K14.out (Nat.le_refl _) h9)
  clear h9
  go_wp2_with fail
  go_ret
  exact ⟨rfl, H9.out⟩
theorem tells_b (p q : ByteArray) (w : World) (hS : Std w) : Calls Tryd.prog 3 #[.string p, .string q] w fun e w' => e = .returned (.bool true) ∧ Below w.heap.size w w' := by
  obtain ⟨l, rfl⟩ := bs_of p
  obtain ⟨m, rfl⟩ := bs_of q
  exact tells_law l m w hS
end Go.Proofs.YtfggoleghpicfaaDoor
