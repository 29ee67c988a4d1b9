/- The law TestEvals. -/
import Derived.Test.YtkiahjfcnhpblaaDoorRefD
namespace Go.Proofs.YtkiahjfcnhpblaaDoor
open Go.RowKit
open Go.Maps
set_option linter.unusedVariables false
theorem tot_le (l : List Bs) (h : ∀ k ∈ l, k.length ≤ 600) : tot l ≤ 600 * l.length := by
  unfold tot
  induction l with
  | nil => simp
  | cons x t ih =>
    have h1 := h x (by simp)
    have h2 := ih (fun k hk => h k (List.mem_cons_of_mem _ hk))
    simp only [List.map_cons, List.sum_cons, List.length_cons]
    omega
set_option maxRecDepth 100000 in
set_option maxHeartbeats 8000000 in
theorem evals_law (l : List Bs) (kinds : List Int) (op : ByteArray) (A B : Option Addr) (n c m d : Nat) (w : World) (hS : Std w) (hc : n ≤ c) (hcm : c ≤ maxLen) (hA : Reads w w.heap.size 1 A n (svs l)) (hB : Reads w w.heap.size 1 B m (ivs kinds)) :
    Calls Tryd.prog 3 #[.slice A n c, .slice B m d, .string op] w fun e w' => e = .returned (.bool true) ∧ Below w.heap.size w w' := by
  obtain ⟨op, rfl⟩ := bs_of op
  have hn := rd_len hA
  subst hn
  have HS := hide hS
  have K0 := hide (Below.refl w.heap.size w)
  have HF := hide (fun W (h : Reads W W.heap.size 1 A l.length (svs l)) => few_any l A l.length c W h)
  have HA := hide hA
  have HB := hide hB
  cases hf : fewL l with
  | false =>
    rw [hf] at HF
    clear hS hA hB hf
    go_enter Tryd.func3, Tryd.ntmps3
    go_wp2_with fail
    refine (HF.out _ HA.out).mono ?_
    rintro e w1 ⟨rfl, rfl⟩
    go_wp2_with fail
    refine (heads_any _ (HS.out.below K0.out)).mono ?_
    rintro e w9 ⟨rfl, h9⟩
    have H9 := hide (below_more K0.out (Nat.le_refl _) h9)
    clear h9
    go_wp2_with fail
    go_ret
    exact ⟨rfl, H9.out⟩
  | true =>
    rw [hf] at HF
    by_cases hop : 600 < op.length
    · have hop' : (600 : Int) < (op.length : Int) := by omega
      clear hS hA hB hf
      go_enter Tryd.func3, Tryd.ntmps3
      go_wp2_with fail
      refine (HF.out _ HA.out).mono ?_
      rintro e w1 ⟨rfl, rfl⟩
      go_wp2_with fail
      refine (heads_any _ (HS.out.below K0.out)).mono ?_
      rintro e w9 ⟨rfl, h9⟩
      have H9 := hide (below_more K0.out (Nat.le_refl _) h9)
      clear h9
      go_wp2_with fail
      go_ret
      exact ⟨rfl, H9.out⟩
    · have hop' : ¬ (600 : Int) < (op.length : Int) := by omega
      have hk : ∀ k ∈ l, k.length ≤ 600 := by
        unfold fewL at hf
        rw [Bool.and_eq_true] at hf
        intro k h
        have := List.all_eq_true.1 hf.2 k h
        simpa using this
      have hl60 : l.length ≤ 60 := by
        unfold fewL at hf
        rw [Bool.and_eq_true] at hf
        simpa using hf.1
      have htot := tot_le l hk
      have hk2 : ∀ k ∈ l, k.length ≤ 1000000 := fun k h => Nat.le_trans (hk k h) (by decide)
      have X8 := hide (fun W (hW : Std W) (h1 : Reads W W.heap.size 1 A l.length (svs l)) (h2 : Reads W W.heap.size 1 B m (ivs kinds)) => eval_any l kinds A B l.length c m d W hW (by omega) hk2 hc hcm h1 h2)
      have X9 := hide (fun W (h1 : Reads W W.heap.size 1 A l.length (svs l)) (h2 : Reads W W.heap.size 1 B m (ivs kinds)) => reval_any kinds B m d l hk2 A l.length c W hc h1 h2)
      rw [← evalP_eq] at X9
      have X13 := hide (fun W (h1 : Reads W W.heap.size 1 A l.length (svs l)) => paths_any l A l.length c W (by omega) hk2 hc hcm h1)
      have X14 := hide (fun W (h1 : Reads W W.heap.size 1 A l.length (svs l)) => rpaths_any l A l.length c W hc h1)
      have X15 := hide (fun W (h1 : Reads W W.heap.size 1 A l.length (svs l)) => echo_any l A l.length c W (by have := join_tot l 32; omega) hc h1)
      have X16 := hide (fun W (h1 : Reads W W.heap.size 1 A l.length (svs l)) => recho_any l A l.length c W (by omega) (by omega) h1)
      have X10 := hide (fun (x y : Bs) W (hW : Std W) (h1 : x.length ≤ 1000000) (h2 : y.length ≤ 1000000) => compare_any op x y W hW (Nat.le_trans (Nat.le_of_not_lt hop) (by decide)) h1 h2)
      have X11 := hide (fun (x y : Bs) W (h1 : x.length ≤ 1000000) (h2 : y.length ≤ 1000000) => rcompare_any op x y W h1 h2)
      have HPL : Hid ((pathsR l).length ≤ 1000000) := hide (by
        unfold pathsR pathsM
        split
        · split <;> simp
        · simp)
      generalize evalP l kinds = ev at *
      generalize pathsR l = ps at *
      generalize echoR l = ec at *
      obtain ⟨ev1, ev2⟩ := ev
      have eev1 : (ev1 == ev1) = true := by simp
      have eev2 : (ev2 == ev2) = true := by simp
      have eec : (ec == ec) = true := by simp
      have HK2 := hide hk2
      clear hS hA hB hf hk htot hk2 hop
      by_cases h1 : 1 < l.length
      · have h1' : (1 : Int) < (l.length : Int) := by omega
        obtain ⟨g, o, rfl, hg, hcl⟩ := rd_cells HA.out (by omega)
        have hx := hcl 0 (by omega)
        have hy := hcl 1 h1
        have hxl := HK2.out (l[0]'(by omega)) (List.getElem_mem _)
        have hyl := HK2.out (l[1]'h1) (List.getElem_mem _)
        generalize l[0]'(by omega) = x at *
        generalize l[1]'h1 = y at *
        have HX : Hid (w.cell? ⟨g, o, none⟩ = some (.string ⟨x.toArray⟩)) := hide hx
        have HY := hide hy
        have hlt0 : (0 : Int) < (l.length : Int) := by omega
        have Y10 := hide (fun W hW => X10.out x y W hW hxl hyl)
        have Y11 := hide (fun W => X11.out x y W hxl hyl)
        generalize cmpR op x y = r at *
        obtain ⟨r1, r2⟩ := r
        have er1 : (r1 == r1) = true := by simp
        have er2 : (r2 == r2) = true := by simp
        clear hcl hx hy X10 X11 hxl hyl
        go_enter Tryd.func3, Tryd.ntmps3
        go_wp2_with fail
        refine (HF.out _ HA.out).mono ?_
        rintro e w1 ⟨rfl, rfl⟩
        go_wp2_with fail
        refine (X8.out _ HS.out HA.out HB.out).mono ?_
        rintro e w1 ⟨rfl, k⟩
        have K1 := hide k
        clear k
        go_wp2_with fail
        refine (X9.out _ ((HA.out.below K1.out).more K1.out.size) ((HB.out.below K1.out).more K1.out.size)).mono ?_
        rintro e w2 ⟨rfl, k⟩
        have K2 := hide (below_more K1.out (Nat.le_refl _) k)
        clear k
        have hx := (K2.out.cell (p := ⟨g, o, none⟩) hg).trans HX.out
        have hy := (K2.out.cell (p := ⟨g, o + 1, none⟩) hg).trans HY.out
        go_wp2_with fail
        go_quiet (fail)
        have K3 := hide (below_drewN K2.out nq)
        clear hx hy
        go_wp2_with fail
        refine (Y10.out _ (HS.out.below K3.out)).mono ?_
        rintro e w4 ⟨rfl, k⟩
        have K4 := hide (below_more K3.out (Nat.le_refl _) k)
        clear k
        go_wp2_with fail
        refine (Y11.out _).mono ?_
        rintro e w5 ⟨rfl, k⟩
        have K5 := hide (below_more K4.out (Nat.le_refl _) k)
        clear k
        go_wp2_with fail
        refine (X13.out _ ((HA.out.below K5.out).more K5.out.size)).mono ?_
        rintro e w6 ⟨A6, n6, c6, rfl, hR6, k⟩
        have R6 := hide hR6
        have K6 := hide (below_more K5.out (Nat.le_refl _) k)
        clear k hR6
        go_wp2_with fail
        refine (X14.out _ ((HA.out.below K6.out).more K6.out.size)).mono ?_
        rintro e w7 ⟨A7, n7, c7, rfl, hR7, k⟩
        have R7 := hide hR7
        have R6 := hide ((R6.out.below k).more k.size)
        have K7 := hide (below_more K6.out (Nat.le_refl _) k)
        clear k hR7
        go_wp2_with fail
        refine (texts_eq ps A6 A7 n6 c6 n7 c7 _ R6.out R7.out (by have := rd_len R6.out; have := HPL.out; omega)).mono ?_
        rintro e w8 ⟨rfl, k⟩
        have K8 := hide (below_more K7.out (Nat.le_refl _) k)
        clear k
        go_wp2_with fail
        refine (X15.out _ ((HA.out.below K8.out).more K8.out.size)).mono ?_
        rintro e w10 ⟨rfl, k⟩
        have K10 := hide (below_more K8.out (Nat.le_refl _) k)
        clear k
        go_wp2_with fail
        refine (X16.out _ ((HA.out.below K10.out).more K10.out.size)).mono ?_
        rintro e w11 ⟨rfl, k⟩
        have K11 := hide (below_more K10.out (Nat.le_refl _) k)
        clear k
        go_wp2_with fail
        refine (heads_any _ (HS.out.below K11.out)).mono ?_
        rintro e w9 ⟨rfl, h9⟩
        have H9 := hide (below_more K11.out (Nat.le_refl _) h9)
        clear h9
        go_wp2_with fail
        go_ret
        exact ⟨rfl, H9.out⟩
      · have h1' : ¬ (1 : Int) < (l.length : Int) := by omega
        have Y10 := hide (fun W hW => X10.out [] [] W hW (by decide) (by decide))
        have Y11 := hide (fun W => X11.out [] [] W (by decide) (by decide))
        generalize cmpR op [] [] = r at *
        obtain ⟨r1, r2⟩ := r
        have er1 : (r1 == r1) = true := by simp
        have er2 : (r2 == r2) = true := by simp
        clear X10 X11
        go_enter Tryd.func3, Tryd.ntmps3
        go_wp2_with fail
        refine (HF.out _ HA.out).mono ?_
        rintro e w1 ⟨rfl, rfl⟩
        go_wp2_with fail
        refine (X8.out _ HS.out HA.out HB.out).mono ?_
        rintro e w1 ⟨rfl, k⟩
        have K1 := hide k
        clear k
        go_wp2_with fail
        refine (X9.out _ ((HA.out.below K1.out).more K1.out.size) ((HB.out.below K1.out).more K1.out.size)).mono ?_
        rintro e w2 ⟨rfl, k⟩
        have K2 := hide (below_more K1.out (Nat.le_refl _) k)
        clear k
        have K3 := K2
        go_wp2_with fail
        refine (Y10.out _ (HS.out.below K3.out)).mono ?_
        rintro e w4 ⟨rfl, k⟩
        have K4 := hide (below_more K3.out (Nat.le_refl _) k)
        clear k
        go_wp2_with fail
        refine (Y11.out _).mono ?_
        rintro e w5 ⟨rfl, k⟩
        have K5 := hide (below_more K4.out (Nat.le_refl _) k)
        clear k
        go_wp2_with fail
        refine (X13.out _ ((HA.out.below K5.out).more K5.out.size)).mono ?_
        rintro e w6 ⟨A6, n6, c6, rfl, hR6, k⟩
        have R6 := hide hR6
        have K6 := hide (below_more K5.out (Nat.le_refl _) k)
        clear k hR6
        go_wp2_with fail
        refine (X14.out _ ((HA.out.below K6.out).more K6.out.size)).mono ?_
        rintro e w7 ⟨A7, n7, c7, rfl, hR7, k⟩
        have R7 := hide hR7
        have R6 := hide ((R6.out.below k).more k.size)
        have K7 := hide (below_more K6.out (Nat.le_refl _) k)
        clear k hR7
        go_wp2_with fail
        refine (texts_eq ps A6 A7 n6 c6 n7 c7 _ R6.out R7.out (by have := rd_len R6.out; have := HPL.out; omega)).mono ?_
        rintro e w8 ⟨rfl, k⟩
        have K8 := hide (below_more K7.out (Nat.le_refl _) k)
        clear k
        go_wp2_with fail
        refine (X15.out _ ((HA.out.below K8.out).more K8.out.size)).mono ?_
        rintro e w10 ⟨rfl, k⟩
        have K10 := hide (below_more K8.out (Nat.le_refl _) k)
        clear k
        go_wp2_with fail
        refine (X16.out _ ((HA.out.below K10.out).more K10.out.size)).mono ?_
        rintro e w11 ⟨rfl, k⟩
        have K11 := hide (below_more K10.out (Nat.le_refl _) k)
        clear k
        go_wp2_with fail
        refine (heads_any _ (HS.out.below K11.out)).mono ?_
        rintro e w9 ⟨rfl, h9⟩
        have H9 := hide (below_more K11.out (Nat.le_refl _) h9)
        clear h9
        go_wp2_with fail
        go_ret
        exact ⟨rfl, H9.out⟩
end Go.Proofs.YtkiahjfcnhpblaaDoor
