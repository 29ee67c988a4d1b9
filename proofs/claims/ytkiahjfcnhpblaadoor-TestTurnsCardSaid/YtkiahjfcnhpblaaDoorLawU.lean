/- The law TestTurns. -/
import Derived.Test.YtkiahjfcnhpblaaDoorRefB
import Derived.Test.YtkiahjfcnhpblaaDoorAppend
namespace Go.Proofs.YtkiahjfcnhpblaaDoor
open Go.RowKit
open Go.Maps
set_option linter.unusedVariables false
theorem cmp_one (x : Bs) : (isOp x = true ∧ (cmpR x [49] [49]).2 = 0) ∨ (isOp x = false ∧ cmpR x [49] [49] = (false, 32)) := by
  by_cases h1 : x = [61]
  · subst h1; exact .inl ⟨rfl, rfl⟩
  by_cases h2 : x = [33, 61]
  · subst h2; exact .inl ⟨rfl, rfl⟩
  have t1 : (x == [61]) = false := beq_eq_false_iff_ne.2 h1
  have t2 : (x == [33, 61]) = false := beq_eq_false_iff_ne.2 h2
  unfold isOp cmpR
  rw [if_neg h1, if_neg h2, t1, t2]
  cases h : cmpF x with
  | none => exact .inr ⟨rfl, rfl⟩
  | some f =>
    refine .inl ⟨rfl, ?_⟩
    simp [v_1.2]
theorem turns_eq (l : List Bs) (k : List Int) (h1 : 1 ≤ l.length) (h3 : l.length ≤ 3) (h2 : ∀ x y, l = [x, y] → isOp x = false) : evalP ([33] :: l) k = turnR (evalP l k) ∧ Wf (evalP l k) := by
  rw [evalP_eq, evalP_eq]
  match l, h1, h3, h2 with
  | [x], _, _, _ =>
    constructor
    · show unaryS [33] x k = turnR (x != [], 0)
      unfold unaryS turnR
      simp [bne]
    · intro h; exact absurd rfl h
  | [x, y], _, _, h2 =>
    constructor
    · show evalS3 [33] x y k = turnR (unaryS x y k)
      unfold evalS3
      rw [if_neg (by rw [h2 x y rfl]; simp), if_pos rfl]
      rfl
    · exact unaryS_wf x y k
  | [x, y, z], _, _, _ =>
    constructor
    · show evalS4 [33] x y z k = turnR (evalS3 x y z k)
      unfold evalS4
      rw [if_pos rfl]
    · exact evalS3_wf x y z k
set_option maxRecDepth 100000 in
set_option maxHeartbeats 8000000 in
theorem turns_law (l : List Bs) (kinds : List Int) (A B : Option Addr) (n c m d : Nat) (w : World) (hS : Std w) (hc : n ≤ c) (hcm : c ≤ maxLen) (hA : Reads w w.heap.size 1 A n (svs l)) (hB : Reads w w.heap.size 1 B m (ivs kinds)) :
    Calls Tryd.prog 4 #[.slice A n c, .slice B m d] w fun e w' => e = .returned (.bool true) ∧ Below w.heap.size w w' := by
  have hn := rd_len hA
  subst hn
  have HS := hide hS
  have K0 := hide (Below.refl w.heap.size w)
  have HF := hide (fun W (h : Reads W W.heap.size 1 A l.length (svs l)) => few_any l A l.length c W h)
  have HA := hide hA
  have HB := hide hB
  have HN : Hid ((1 ≤ l.length ∧ l.length ≤ 3 → True)) := hide (fun _ => trivial)
  cases hf : fewL l with
  | false =>
    rw [hf] at HF
    clear hS hA hB hf HN
    go_enter Tryd.func4, Tryd.ntmps4
    go_wp2_with fail
    refine (HF.out _ HA.out).mono ?_
    rintro e w1 ⟨rfl, rfl⟩
    go_wp2_with fail
    refine (heads_any _ (HS.out.below K0.out)).mono ?_
    rintro e w9 ⟨rfl, h9⟩
    have H9 := hide (below_more K0.out (Nat.le_refl _) h9)
    clear h9
    go_wp2_with fail
    go_ret
    exact ⟨rfl, H9.out⟩
  | true =>
    rw [hf] at HF
    have hk : ∀ k ∈ l, k.length ≤ 600 := by
      unfold fewL at hf
      rw [Bool.and_eq_true] at hf
      intro k h
      have := List.all_eq_true.1 hf.2 k h
      simpa using this
    clear hS hA hB hf HN
    by_cases h1 : 1 ≤ l.length
    · by_cases h3 : l.length ≤ 3
      · obtain ⟨i0, hi, hz0, hz1, hz2⟩ := info_parts infoStr
        by_cases hop : ∃ x y, l = [x, y] ∧ isOp x = true
        · obtain ⟨x, y, rfl, hx⟩ := hop
          obtain ⟨g, o, rfl, hg, hcl⟩ := rd_cells HA.out (by simp)
          have hc0 : w.cell? ⟨g, o, none⟩ = some (.string ⟨x.toArray⟩) := hcl 0 (by simp)
          have hr : (cmpR x [49] [49]).2 = 0 := by
            rcases cmp_one x with ⟨_, h⟩ | ⟨h, _⟩
            · exact h
            · rw [hx] at h; cases h
          have HC := hide (fun W (h : Std W) => compare_any x [49] [49] W h (Nat.le_trans (hk x (by simp)) (by decide)) (by decide) (by decide))
          generalize cmpR x [49] [49] = r at *
          obtain ⟨r1, r2⟩ := r
          simp only at hr
          subst hr
          clear hcl hx hk h1 h3
          go_enter Tryd.func4, Tryd.ntmps4
          go_wp2_with fail
          refine (HF.out _ HA.out).mono ?_
          rintro e w1 ⟨rfl, rfl⟩
          go_wp2_with fail
          refine (HC.out _ HS.out).mono ?_
          rintro e w1 ⟨rfl, hb⟩
          have K1 := hide hb
          clear hb
          go_wp2_with fail
          refine (heads_any _ (HS.out.below K1.out)).mono ?_
          rintro e w9 ⟨rfl, h9⟩
          have H9 := hide (below_more K1.out (Nat.le_refl _) h9)
          clear h9
          go_wp2_with fail
          go_ret
          exact ⟨rfl, H9.out⟩
        · have hT := turns_eq l kinds h1 h3 (fun x y e => by
            cases hx : isOp x
            · rfl
            · exact absurd ⟨x, y, e, hx⟩ hop)
          have HE := hide (fun W (hW : Std W) (h1 : Reads W W.heap.size 1 A l.length (svs l)) (h2 : Reads W W.heap.size 1 B m (ivs kinds)) => eval_any l kinds A B l.length c m d W hW (by omega) (fun k h => Nat.le_trans (hk k h) (by decide)) hc hcm h1 h2)
          have HE2 := hide (fun W A c (hW : Std W) (hc : l.length + 1 ≤ c) (hcm : c ≤ maxLen) (h1 : Reads W W.heap.size 1 A (l.length + 1) (svs ([33] :: l))) (h2 : Reads W W.heap.size 1 B m (ivs kinds)) => eval_any ([33] :: l) kinds A B (l.length + 1) c m d W hW (by simp; omega) (fun k h => by
            rcases List.mem_cons.1 h with rfl | h
            · decide
            · exact Nat.le_trans (hk k h) (by decide)) hc hcm h1 h2)
          have hX : Hid (∀ W, Below w.heap.size w W → W.heap.size < W.heap.size + 1) := hide (fun W _ => by omega)
          have HM : Hid (∀ x y, l = [x, y] → Hid (∀ W (h : Std W), Calls Tryd.prog 10 #[.string ⟨x.toArray⟩, .string ⟨#[49]⟩, .string ⟨#[49]⟩] W fun e w' => e = .returned (.tuple #[.bool false, .int .i64 32]) ∧ Below W.heap.size W w')) := hide (fun x y e => hide (fun W h => by
            have hx : cmpR x [49] [49] = (false, 32) := by
              rcases cmp_one x with ⟨h, _⟩ | ⟨_, h⟩
              · exact absurd ⟨x, y, e, h⟩ hop
              · exact h
            have := compare_any x [49] [49] W h (Nat.le_trans (hk x (by rw [e]; simp)) (by decide)) (by decide) (by decide)
            rw [hx] at this
            exact this))
          have HKS : Hid (∀ k ∈ l, k.length ≤ 600) := hide hk
          generalize evalP ([33] :: l) kinds = r' at *
          generalize evalP l kinds = r at *
          obtain ⟨rfl, hwf⟩ := hT
          obtain ⟨r1, r2⟩ := r
          have HR : Hid ((r2 = 0 ∧ turnR (r1, r2) = (!r1, 0)) ∨ (r2 ≠ 0 ∧ r1 = false ∧ turnR (r1, r2) = (false, r2))) := hide (by
            by_cases h0 : r2 = 0
            · exact .inl ⟨h0, by unfold turnR; rw [if_pos h0]⟩
            · exact .inr ⟨h0, hwf h0, by unfold turnR; rw [if_neg h0]⟩)
          generalize turnR (r1, r2) = q at *
          obtain ⟨q1, q2⟩ := q
          clear hwf hop hk hX
          by_cases h2 : l.length = 2
          · obtain ⟨x, y, hl⟩ : ∃ x y, l = [x, y] := by
              match l, h2 with
              | [x, y], _ => exact ⟨x, y, rfl⟩
            obtain ⟨g, o, rfl, hg, hcl⟩ := rd_cells HA.out (by omega)
            have hc0 : w.cell? ⟨g, o, none⟩ = some (.string ⟨x.toArray⟩) := by
              have hx0 : l[0]'(by omega) = x := by simp [hl]
              have := hcl 0 (by omega)
              rw [hx0] at this
              exact this
            have HC := HM.out x y hl
            have heq : ((l.length : Int) == 2) = true := by rw [h2]; rfl
            have hp0 : (0 : Int) < (l.length : Int) := by omega
            clear hcl HM hl h2
            go_enter Tryd.func4, Tryd.ntmps4
            go_wp2_with fail
            refine (HF.out _ HA.out).mono ?_
            rintro e w1 ⟨rfl, rfl⟩
            go_wp2_with fail
            refine (HC.out _ HS.out).mono ?_
            rintro e w1 ⟨rfl, hb⟩
            have K1 := hide hb
            clear hb hc0
            go_wp2_with fail
            refine (HE.out _ (HS.out.below K1.out) ((HA.out.below K1.out).more K1.out.size) ((HB.out.below K1.out).more K1.out.size)).mono ?_
            rintro e w2 ⟨rfl, hb⟩
            have K2 := hide (below_more K1.out (Nat.le_refl _) hb)
            clear hb
            have hOwn : Hid ((w2.alloc (.cells #[.string ⟨#[33]⟩] 9)).ownsRow w2.heap.size 9 1 (.slice (some ⟨w2.heap.size, 0, none⟩) 1 1) 1 (svs [[33]])) := hide (Blk.own (Blk.new w2 9 #[.string ⟨#[33]⟩]) (Nat.le_refl _) (by decide) rfl)
            have hSrc := hide (((HA.out.below K2.out).more K2.out.size).alloc (Nat.le_refl _) (.cells #[.string ⟨#[33]⟩] 9))
            go_wp2_with (at_builtin; (refine wpList_append_any _ rfl (.tmp 45) (.tmp 46) 22 rfl w2.heap.size 9 i0 _ 1 16 Tryd.underlying22 hi hz0 hz1 hz2 rfl (by omega) (.slice (some ⟨w2.heap.size, 0, none⟩) 1 1) 1 (svs [[33]]) rfl hOwn.out w2.heap.size _ _ c (svs l) rfl hSrc.out (svs_one _) ?c1 ?c2 ?c3 ?_))
            case c1 => unfold maxLen; omega
            case c2 => omega
            case c3 => first | omega | simp
            intro v1 w3 hown1 hg1 hat1
            obtain ⟨A', c', rfl⟩ := own_slice hown1
            have hcc : c' ≤ maxLen ∧ l.length + 1 ≤ c' := by
              rcases hown1.2 with ⟨hv, h0⟩ | ⟨g5, cap, cur, hv, hb, hh, hnc, hmx, hsz, htk⟩
              · omega
              · injection hv with e1 e2 e3; subst e3; exact ⟨hmx, by omega⟩
            have HR3 : Hid (Reads w3 w3.heap.size 1 A' (l.length + 1) (svs ([33] :: l))) := hide (by
              have := Reads.of_own hown1
              rw [Nat.add_comm] at this
              exact this)
            have hb3 : Below w.heap.size w w3 := by
              have h0 := K2.out.alloc K2.out.size (.cells #[.string ⟨#[33]⟩] 9)
              exact h0.grown hg1 (by have := K2.out.size; simp; omega) (fun g hg => by
                have := (World.ownsRow.lt hOwn.out g hg).1
                have := K2.out.size
                omega)
            have K3 := hide hb3
            clear hb3 hown1 hg1 hat1 hOwn hSrc
            try rw [Nat.add_comm 1 l.length]
            obtain ⟨hcc1, hcc2⟩ := hcc
            go_wp2_with fail
            refine (HE2.out _ _ _ (HS.out.below K3.out) hcc2 hcc1 HR3.out ((HB.out.below K3.out).more K3.out.size)).mono ?_
            rintro e w4 ⟨rfl, hb⟩
            have K4 := hide (below_more K3.out (Nat.le_refl _) hb)
            clear hb
            rcases HR.out with ⟨h0, hq⟩ | ⟨h0, h1, hq⟩
            · injection hq with e1 e2
              subst e1; subst e2; subst h0
              cases r1 with
              | false =>
                go_wp2_with fail
                refine (heads_any _ (HS.out.below K4.out)).mono ?_
                rintro e w9 ⟨rfl, h9⟩
                have H9 := hide (below_more K4.out (Nat.le_refl _) h9)
                clear h9
                go_wp2_with fail
                go_ret
                exact ⟨rfl, H9.out⟩
              | true =>
                go_wp2_with fail
                refine (heads_any _ (HS.out.below K4.out)).mono ?_
                rintro e w9 ⟨rfl, h9⟩
                have H9 := hide (below_more K4.out (Nat.le_refl _) h9)
                clear h9
                go_wp2_with fail
                go_ret
                exact ⟨rfl, H9.out⟩
            · injection hq with e1 e2
              subst e1; subst e2; subst h1
              have hne0 : (q2 == 0) = false := beq_eq_false_iff_ne.2 h0
              have hne1 : (q2 != 0) = true := by rw [bne_iff_ne]; exact h0
              have hee : (q2 == q2) = true := by simp
              clear h0
              go_wp2_with fail
              refine (heads_any _ (HS.out.below K4.out)).mono ?_
              rintro e w9 ⟨rfl, h9⟩
              have H9 := hide (below_more K4.out (Nat.le_refl _) h9)
              clear h9
              go_wp2_with fail
              go_ret
              exact ⟨rfl, H9.out⟩
          · have hne : ((l.length : Int) == 2) = false := beq_eq_false_iff_ne.2 (by omega)
            have K1 := K0
            clear HM h2
            go_enter Tryd.func4, Tryd.ntmps4
            go_wp2_with fail
            refine (HF.out _ HA.out).mono ?_
            rintro e w1 ⟨rfl, rfl⟩
            go_wp2_with fail
            refine (HE.out _ (HS.out.below K1.out) ((HA.out.below K1.out).more K1.out.size) ((HB.out.below K1.out).more K1.out.size)).mono ?_
            rintro e w2 ⟨rfl, hb⟩
            have K2 := hide (below_more K1.out (Nat.le_refl _) hb)
            clear hb
            have hOwn : Hid ((w2.alloc (.cells #[.string ⟨#[33]⟩] 9)).ownsRow w2.heap.size 9 1 (.slice (some ⟨w2.heap.size, 0, none⟩) 1 1) 1 (svs [[33]])) := hide (Blk.own (Blk.new w2 9 #[.string ⟨#[33]⟩]) (Nat.le_refl _) (by decide) rfl)
            have hSrc := hide (((HA.out.below K2.out).more K2.out.size).alloc (Nat.le_refl _) (.cells #[.string ⟨#[33]⟩] 9))
            go_wp2_with (at_builtin; (refine wpList_append_any _ rfl (.tmp 45) (.tmp 46) 22 rfl w2.heap.size 9 i0 _ 1 16 Tryd.underlying22 hi hz0 hz1 hz2 rfl (by omega) (.slice (some ⟨w2.heap.size, 0, none⟩) 1 1) 1 (svs [[33]]) rfl hOwn.out w2.heap.size _ _ c (svs l) rfl hSrc.out (svs_one _) ?c1 ?c2 ?c3 ?_))
            case c1 => unfold maxLen; omega
            case c2 => omega
            case c3 => first | omega | simp
            intro v1 w3 hown1 hg1 hat1
            obtain ⟨A', c', rfl⟩ := own_slice hown1
            have hcc : c' ≤ maxLen ∧ l.length + 1 ≤ c' := by
              rcases hown1.2 with ⟨hv, h0⟩ | ⟨g5, cap, cur, hv, hb, hh, hnc, hmx, hsz, htk⟩
              · omega
              · injection hv with e1 e2 e3; subst e3; exact ⟨hmx, by omega⟩
            have HR3 : Hid (Reads w3 w3.heap.size 1 A' (l.length + 1) (svs ([33] :: l))) := hide (by
              have := Reads.of_own hown1
              rw [Nat.add_comm] at this
              exact this)
            have hb3 : Below w.heap.size w w3 := by
              have h0 := K2.out.alloc K2.out.size (.cells #[.string ⟨#[33]⟩] 9)
              exact h0.grown hg1 (by have := K2.out.size; simp; omega) (fun g hg => by
                have := (World.ownsRow.lt hOwn.out g hg).1
                have := K2.out.size
                omega)
            have K3 := hide hb3
            clear hb3 hown1 hg1 hat1 hOwn hSrc
            try rw [Nat.add_comm 1 l.length]
            obtain ⟨hcc1, hcc2⟩ := hcc
            go_wp2_with fail
            refine (HE2.out _ _ _ (HS.out.below K3.out) hcc2 hcc1 HR3.out ((HB.out.below K3.out).more K3.out.size)).mono ?_
            rintro e w4 ⟨rfl, hb⟩
            have K4 := hide (below_more K3.out (Nat.le_refl _) hb)
            clear hb
            rcases HR.out with ⟨h0, hq⟩ | ⟨h0, h1, hq⟩
            · injection hq with e1 e2
              subst e1; subst e2; subst h0
              cases r1 with
              | false =>
                go_wp2_with fail
                refine (heads_any _ (HS.out.below K4.out)).mono ?_
                rintro e w9 ⟨rfl, h9⟩
                have H9 := hide (below_more K4.out (Nat.le_refl _) h9)
                clear h9
                go_wp2_with fail
                go_ret
                exact ⟨rfl, H9.out⟩
              | true =>
                go_wp2_with fail
                refine (heads_any _ (HS.out.below K4.out)).mono ?_
                rintro e w9 ⟨rfl, h9⟩
                have H9 := hide (below_more K4.out (Nat.le_refl _) h9)
                clear h9
                go_wp2_with fail
                go_ret
                exact ⟨rfl, H9.out⟩
            · injection hq with e1 e2
              subst e1; subst e2; subst h1
              have hne0 : (q2 == 0) = false := beq_eq_false_iff_ne.2 h0
              have hne1 : (q2 != 0) = true := by rw [bne_iff_ne]; exact h0
              have hee : (q2 == q2) = true := by simp
              clear h0
              go_wp2_with fail
              refine (heads_any _ (HS.out.below K4.out)).mono ?_
              rintro e w9 ⟨rfl, h9⟩
              have H9 := hide (below_more K4.out (Nat.le_refl _) h9)
              clear h9
              go_wp2_with fail
              go_ret
              exact ⟨rfl, H9.out⟩
      · have h3' : ¬ (l.length : Int) ≤ 3 := by omega
        go_enter Tryd.func4, Tryd.ntmps4
        go_wp2_with fail
        refine (HF.out _ HA.out).mono ?_
        rintro e w1 ⟨rfl, rfl⟩
        go_wp2_with fail
        refine (heads_any _ (HS.out.below K0.out)).mono ?_
        rintro e w9 ⟨rfl, h9⟩
        have H9 := hide (below_more K0.out (Nat.le_refl _) h9)
        clear h9
        go_wp2_with fail
        go_ret
        exact ⟨rfl, H9.out⟩
    · have h1' : (l.length : Int) < 1 := by omega
      go_enter Tryd.func4, Tryd.ntmps4
      go_wp2_with fail
      refine (HF.out _ HA.out).mono ?_
      rintro e w1 ⟨rfl, rfl⟩
      go_wp2_with fail
      refine (heads_any _ (HS.out.below K0.out)).mono ?_
      rintro e w9 ⟨rfl, h9⟩
      have H9 := hide (below_more K0.out (Nat.le_refl _) h9)
      clear h9
      go_wp2_with fail
      go_ret
      exact ⟨rfl, H9.out⟩
end Go.Proofs.YtkiahjfcnhpblaaDoor
