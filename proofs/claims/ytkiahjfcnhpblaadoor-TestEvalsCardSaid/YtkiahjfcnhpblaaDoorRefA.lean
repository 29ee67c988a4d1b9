/- The reference's contracts of layer 31: Compare, compares, asks, unary, turned. -/
import Derived.Test.YtkiahjfcnhpblaaDoorHeads
namespace Go.Proofs.YtkiahjfcnhpblaaDoor
open Go.RowKit
open Go.Maps
set_option linter.unusedVariables false
set_option maxRecDepth 10000 in
set_option maxHeartbeats 2000000 in
theorem rcompare_any (op a b : Bs) (w : World) (ha : a.length ≤ 1000000) (hb : b.length ≤ 1000000) :
    Calls Tryd.prog 11 #[.string ⟨op.toArray⟩, .string ⟨a.toArray⟩, .string ⟨b.toArray⟩] w fun e w' => e = .returned (.tuple #[.bool (cmpR op a b).1, .int .i64 (cmpR op a b).2]) ∧ Below w.heap.size w w' := by
  by_cases e1 : op = [61]
  · subst e1
    cases hab : (a == b) with
    | false =>
      have HR : Hid (cmpR [61] a b = (false, 0)) := hide (by rw [← hab]; rfl)
      go_enter Tryd.func11, Tryd.ntmps11
      go_wp2
      all_goals
        go_ret2
        exact ⟨by rw [HR.out] <;> rfl, Below.refl _ _⟩
    | true =>
      have HR : Hid (cmpR [61] a b = (true, 0)) := hide (by rw [← hab]; rfl)
      go_enter Tryd.func11, Tryd.ntmps11
      go_wp2
      all_goals
        go_ret2
        exact ⟨by rw [HR.out] <;> rfl, Below.refl _ _⟩
  by_cases e2 : op = [33, 61]
  · subst e2
    cases hab : (a == b) with
    | false =>
      have HR : Hid (cmpR [33, 61] a b = (true, 0)) := hide (by
        have : (a != b) = true := by unfold bne; rw [hab]; rfl
        rw [← this]; rfl)
      go_enter Tryd.func11, Tryd.ntmps11
      go_wp2
      all_goals
        go_ret2
        exact ⟨by rw [HR.out] <;> rfl, Below.refl _ _⟩
    | true =>
      have HR : Hid (cmpR [33, 61] a b = (false, 0)) := hide (by
        have : (a != b) = false := by unfold bne; rw [hab]; rfl
        rw [← this]; rfl)
      go_enter Tryd.func11, Tryd.ntmps11
      go_wp2
      all_goals
        go_ret2
        exact ⟨by rw [HR.out] <;> rfl, Below.refl _ _⟩
  have t1 : (op == [61]) = false := beq_eq_false_iff_ne.2 e1
  have t2 : (op == [33, 61]) = false := beq_eq_false_iff_ne.2 e2
  have HR : Hid (cmpR op a b = match cmpF op with
    | some f => if numB a = true ∧ numB b = true then (cmpB f (numV a) (numV b), 0) else (false, 32)
    | none => (false, 32)) := hide (by unfold cmpR; rw [if_neg e1, if_neg e2]; rfl)
  have HA := hide (fun W => rparse_l a W ha)
  have HB := hide (fun W => rparse_l b W hb)
  generalize numB a = pa at *
  generalize numB b = pb at *
  generalize numV a = va at *
  generalize numV b = vb at *
  clear e1 e2
  cases pa with
  | false =>
    have HR2 : Hid (cmpR op a b = (false, 32)) := hide (by rw [HR.out]; cases cmpF op <;> simp)
    go_enter Tryd.func11, Tryd.ntmps11
    go_wp2_with fail
    refine (HA.out _).mono ?_
    rintro e w2 ⟨rfl, k⟩
    have K2 := hide k
    clear k
    go_wp2_with fail
    refine (HB.out _).mono ?_
    rintro e w3 ⟨rfl, k⟩
    have K3 := hide (below_more K2.out (Nat.le_refl _) k)
    clear k
    go_wp2_with fail
    go_ret2
    exact ⟨by rw [HR2.out] <;> rfl, K3.out⟩
  | true =>
    cases pb with
    | false =>
      have HR2 : Hid (cmpR op a b = (false, 32)) := hide (by rw [HR.out]; cases cmpF op <;> simp)
      go_enter Tryd.func11, Tryd.ntmps11
      go_wp2_with fail
      refine (HA.out _).mono ?_
      rintro e w2 ⟨rfl, k⟩
      have K2 := hide k
      clear k
      go_wp2_with fail
      refine (HB.out _).mono ?_
      rintro e w3 ⟨rfl, k⟩
      have K3 := hide (below_more K2.out (Nat.le_refl _) k)
      clear k
      go_wp2_with fail
      go_ret2
      exact ⟨by rw [HR2.out] <;> rfl, K3.out⟩
    | true =>
      by_cases e30 : op = [45, 101, 113]
      · subst e30
        have HR2 : Hid (cmpR [45, 101, 113] a b = (va == vb, 0)) := hide (by rw [HR.out]; rfl)
        clear HR t1 t2
        go_enter Tryd.func11, Tryd.ntmps11
        go_wp2_with fail
        refine (HA.out _).mono ?_
        rintro e w2 ⟨rfl, k⟩
        have K2 := hide k
        clear k
        go_wp2_with fail
        refine (HB.out _).mono ?_
        rintro e w3 ⟨rfl, k⟩
        have K3 := hide (below_more K2.out (Nat.le_refl _) k)
        clear k
        go_wp2_with fail
        go_ret2
        exact ⟨by rw [HR2.out] <;> rfl, K3.out⟩
      by_cases e31 : op = [45, 110, 101]
      · subst e31
        have HR2 : Hid (cmpR [45, 110, 101] a b = (va != vb, 0)) := hide (by rw [HR.out]; rfl)
        clear HR t1 t2
        go_enter Tryd.func11, Tryd.ntmps11
        go_wp2_with fail
        refine (HA.out _).mono ?_
        rintro e w2 ⟨rfl, k⟩
        have K2 := hide k
        clear k
        go_wp2_with fail
        refine (HB.out _).mono ?_
        rintro e w3 ⟨rfl, k⟩
        have K3 := hide (below_more K2.out (Nat.le_refl _) k)
        clear k
        go_wp2_with fail
        go_ret2
        exact ⟨by rw [HR2.out] <;> rfl, K3.out⟩
      by_cases e32 : op = [45, 108, 116]
      · subst e32
        have HR2 : Hid (cmpR [45, 108, 116] a b = (decide (va < vb), 0)) := hide (by rw [HR.out]; rfl)
        clear HR t1 t2
        go_enter Tryd.func11, Tryd.ntmps11
        go_wp2_with fail
        refine (HA.out _).mono ?_
        rintro e w2 ⟨rfl, k⟩
        have K2 := hide k
        clear k
        go_wp2_with fail
        refine (HB.out _).mono ?_
        rintro e w3 ⟨rfl, k⟩
        have K3 := hide (below_more K2.out (Nat.le_refl _) k)
        clear k
        go_wp2_with fail
        go_ret2
        exact ⟨by rw [HR2.out] <;> rfl, K3.out⟩
      by_cases e33 : op = [45, 108, 101]
      · subst e33
        have HR2 : Hid (cmpR [45, 108, 101] a b = (decide (va ≤ vb), 0)) := hide (by rw [HR.out]; rfl)
        clear HR t1 t2
        go_enter Tryd.func11, Tryd.ntmps11
        go_wp2_with fail
        refine (HA.out _).mono ?_
        rintro e w2 ⟨rfl, k⟩
        have K2 := hide k
        clear k
        go_wp2_with fail
        refine (HB.out _).mono ?_
        rintro e w3 ⟨rfl, k⟩
        have K3 := hide (below_more K2.out (Nat.le_refl _) k)
        clear k
        go_wp2_with fail
        go_ret2
        exact ⟨by rw [HR2.out] <;> rfl, K3.out⟩
      by_cases e34 : op = [45, 103, 116]
      · subst e34
        have HR2 : Hid (cmpR [45, 103, 116] a b = (decide (vb < va), 0)) := hide (by rw [HR.out]; rfl)
        clear HR t1 t2
        go_enter Tryd.func11, Tryd.ntmps11
        go_wp2_with fail
        refine (HA.out _).mono ?_
        rintro e w2 ⟨rfl, k⟩
        have K2 := hide k
        clear k
        go_wp2_with fail
        refine (HB.out _).mono ?_
        rintro e w3 ⟨rfl, k⟩
        have K3 := hide (below_more K2.out (Nat.le_refl _) k)
        clear k
        go_wp2_with fail
        go_ret2
        exact ⟨by rw [HR2.out] <;> rfl, K3.out⟩
      by_cases e35 : op = [45, 103, 101]
      · subst e35
        have HR2 : Hid (cmpR [45, 103, 101] a b = (decide (vb ≤ va), 0)) := hide (by rw [HR.out]; rfl)
        clear HR t1 t2
        go_enter Tryd.func11, Tryd.ntmps11
        go_wp2_with fail
        refine (HA.out _).mono ?_
        rintro e w2 ⟨rfl, k⟩
        have K2 := hide k
        clear k
        go_wp2_with fail
        refine (HB.out _).mono ?_
        rintro e w3 ⟨rfl, k⟩
        have K3 := hide (below_more K2.out (Nat.le_refl _) k)
        clear k
        go_wp2_with fail
        go_ret2
        exact ⟨by rw [HR2.out] <;> rfl, K3.out⟩
      have s30 : (op == [45, 101, 113]) = false := beq_eq_false_iff_ne.2 e30
      have s31 : (op == [45, 110, 101]) = false := beq_eq_false_iff_ne.2 e31
      have s32 : (op == [45, 108, 116]) = false := beq_eq_false_iff_ne.2 e32
      have s33 : (op == [45, 108, 101]) = false := beq_eq_false_iff_ne.2 e33
      have s34 : (op == [45, 103, 116]) = false := beq_eq_false_iff_ne.2 e34
      have s35 : (op == [45, 103, 101]) = false := beq_eq_false_iff_ne.2 e35
      have HR2 : Hid (cmpR op a b = (false, 32)) := hide (by
        have : cmpF op = none := by unfold cmpF; simp [e30, e31, e32, e33, e34, e35]
        rw [HR.out, this])
      clear HR e30 e31 e32 e33 e34 e35
      go_enter Tryd.func11, Tryd.ntmps11
      go_wp2_with fail
      refine (HA.out _).mono ?_
      rintro e w2 ⟨rfl, k⟩
      have K2 := hide k
      clear k
      go_wp2_with fail
      refine (HB.out _).mono ?_
      rintro e w3 ⟨rfl, k⟩
      have K3 := hide (below_more K2.out (Nat.le_refl _) k)
      clear k
      go_wp2_with fail
      go_ret2
      exact ⟨by rw [HR2.out] <;> rfl, K3.out⟩
def cmps : List Bs := [[61], [33, 61], [45, 101, 113], [45, 110, 101], [45, 108, 116], [45, 108, 101], [45, 103, 116], [45, 103, 101]]
theorem isOp_mem (l : Bs) : isOp l = true ↔ l ∈ cmps := by
  unfold isOp cmpF cmps
  constructor
  · intro h
    simp only [Bool.or_eq_true, beq_iff_eq] at h
    rcases h with (h | rfl) | rfl
    · repeat (split at h; · (rename_i e; subst e; simp))
      simp at h
    · simp
    · simp
  · intro h
    simp only [List.mem_cons, List.mem_nil_iff, or_false] at h
    rcases h with rfl | rfl | rfl | rfl | rfl | rfl | rfl | rfl <;> rfl
set_option maxHeartbeats 2000000 in
theorem compares_any (l : Bs) (w : World) : Calls Tryd.prog 20 #[.string ⟨l.toArray⟩] w fun e w' => e = .returned (.bool (isOp l)) ∧ Below w.heap.size w w' := by
  have HI := hide (isOp_mem l)
  go_enter Tryd.func20, Tryd.ntmps20
  go_wp2_with fail
  obtain ⟨V, hV⟩ : ∃ V, w.alloc (.cells #[.string ⟨#[61]⟩, .string ⟨#[33, 61]⟩, .string ⟨#[45, 101, 113]⟩, .string ⟨#[45, 110, 101]⟩, .string ⟨#[45, 108, 116]⟩, .string ⟨#[45, 108, 101]⟩, .string ⟨#[45, 103, 116]⟩, .string ⟨#[45, 103, 101]⟩] 9) = V := ⟨_, rfl⟩
  have HR : Hid (Reads V V.heap.size 1 (some ⟨w.heap.size, 0, none⟩) 8 (svs cmps)) := hide (by rw [← hV]; exact lit_rd w cmps)
  have HJ : Hid (Below w.heap.size w V) := hide (by rw [← hV]; exact (Below.refl _ _).alloc (Nat.le_refl _) _)
  rw [hV]
  clear hV
  obtain ⟨g, hg⟩ : ∃ g, w.heap.size = g := ⟨_, rfl⟩
  have HG := hide hg
  rw [hg] at HR HJ ⊢
  clear hg
  go_loop [4] (fun u4 => ∃ k : Nat, k ≤ 8 ∧ u4 = .int .i64 k ∧ Hid (∀ j (h : j < cmps.length), j < k → cmps[j] ≠ l)) (fun i => 8 - (intOf i).toNat)
  case atStart => exact ⟨0, Nat.zero_le _, rfl, hide (fun j h h2 => by omega)⟩
  case round =>
    obtain ⟨k, hk, rfl, HF⟩ := hrel
    by_cases hlt : k < 8
    · have hlt' : k < cmps.length := hlt
      obtain ⟨g2, o2, e2, _, hcl⟩ := rd_cells HR.out (by omega)
      injection e2 with e2
      injection e2 with e3 e4
      subst e3
      subst e4
      have hcell := hcl k hlt'
      rw [Nat.zero_add] at hcell
      by_cases hx : cmps[k] = l
      · have HI2 : Hid (isOp l = true) := hide (HI.out.2 (hx ▸ List.getElem_mem _))
        rw [hx] at hcell
        have hxx : (l == l) = true := by simp
        clear hcl hx
        go_wp2_with fail
        go_ret
        exact ⟨ret_bool HI2.out.symm, by rw [HG.out]; exact HJ.out⟩
      · have HF2 : Hid (∀ j (h : j < cmps.length), j < k + 1 → cmps[j] ≠ l) := hide (fun j h h2 => by
          rcases Nat.lt_or_ge j k with h3 | h3
          · exact HF.out j h h3
          · obtain rfl : j = k := by omega
            exact hx)
        have hxx : (cmps[k] == l) = false := beq_eq_false_iff_ne.2 hx
        generalize cmps[k] = x at *
        clear hcl hx HF
        go_wp2_with fail
        go_round
        case rel => exact ⟨k + 1, by omega, by go_num, HF2⟩
        case measure => simp [intOf]; omega
    · have HI2 : Hid (isOp l = false) := hide (by
        rw [Bool.eq_false_iff]
        intro h
        obtain ⟨j, hj, e⟩ := List.getElem_of_mem (HI.out.1 h)
        have h8 : cmps.length = 8 := rfl
        exact HF.out j hj (by omega) e)
      clear HF
      go_wp2_with fail
      go_ret
      exact ⟨ret_bool HI2.out.symm, by rw [HG.out]; exact HJ.out⟩
def asksB (l : Bs) : Bool := asksN l != -1
theorem rasks_any (l : Bs) (w : World) : Calls Tryd.prog 26 #[.string ⟨l.toArray⟩] w fun e w' => e = .returned (.bool (asksB l)) ∧ w = w' := by
  by_cases e0 : l = [45, 101]
  · subst e0; go_enter Tryd.func26, Tryd.ntmps26; go_wp2; go_ret; exact ⟨rfl, rfl⟩
  by_cases e1 : l = [45, 102]
  · subst e1; go_enter Tryd.func26, Tryd.ntmps26; go_wp2; go_ret; exact ⟨rfl, rfl⟩
  by_cases e2 : l = [45, 100]
  · subst e2; go_enter Tryd.func26, Tryd.ntmps26; go_wp2; go_ret; exact ⟨rfl, rfl⟩
  by_cases e3 : l = [45, 104]
  · subst e3; go_enter Tryd.func26, Tryd.ntmps26; go_wp2; go_ret; exact ⟨rfl, rfl⟩
  have t0 : (l == [45, 101]) = false := beq_eq_false_iff_ne.2 e0
  have t1 : (l == [45, 102]) = false := beq_eq_false_iff_ne.2 e1
  have t2 : (l == [45, 100]) = false := beq_eq_false_iff_ne.2 e2
  have t3 : (l == [45, 104]) = false := beq_eq_false_iff_ne.2 e3
  have HE : Hid (asksB l = false) := hide (by unfold asksB asksN; rw [if_neg e0, if_neg e1, if_neg e2, if_neg e3]; rfl)
  clear e0 e1 e2 e3
  go_enter Tryd.func26, Tryd.ntmps26
  go_wp2
  go_ret
  exact ⟨ret_bool HE.out.symm, rfl⟩
def turnR (r : Bool × Int) : Bool × Int := if r.2 = 0 then (!r.1, 0) else (false, r.2)
theorem turned_any (b : Bool) (c : Int) (w : World) : Calls Tryd.prog 21 #[.bool b, .int .i64 c] w fun e w' => e = .returned (.tuple #[.bool (turnR (b, c)).1, .int .i64 (turnR (b, c)).2]) ∧ w = w' := by
  by_cases h : c = 0
  · subst h
    have HR : Hid (turnR (b, 0) = (!b, 0)) := hide rfl
    go_enter Tryd.func21, Tryd.ntmps21
    go_wp2_with fail
    go_ret2
    exact ⟨by rw [HR.out] <;> rfl, rfl⟩
  · have HR : Hid (turnR (b, c) = (false, c)) := hide (by unfold turnR; rw [if_neg h])
    have hne : (c != 0) = true := by rw [bne_iff_ne]; exact h
    clear h
    go_enter Tryd.func21, Tryd.ntmps21
    go_wp2_with fail
    go_ret2
    exact ⟨by rw [HR.out] <;> rfl, rfl⟩
def unaryS (op arg : Bs) (kinds : List Int) : Bool × Int := if op = [33] then (arg == [], 0) else unaryR op arg kinds
set_option maxHeartbeats 2000000 in
theorem runary_any (op arg : Bs) (kinds : List Int) (A : Option Addr) (n c : Nat) (w : World) (hK : Reads w w.heap.size 1 A n (ivs kinds)) :
    Calls Tryd.prog 19 #[.string ⟨op.toArray⟩, .string ⟨arg.toArray⟩, .slice A n c] w fun e w' => e = .returned (.tuple #[.bool (unaryS op arg kinds).1, .int .i64 (unaryS op arg kinds).2]) ∧ w = w' := by
  have hk : ∃ z : Int, kinds.headD 0 = z ∧ ((n = 0 ∧ z = 0) ∨ ∃ g o, A = some ⟨g, o, none⟩ ∧ w.cell? ⟨g, o, none⟩ = some (.int .i64 z) ∧ ∃ q, n = q + 1) := by
    cases kinds with
    | nil => exact ⟨0, rfl, .inl ⟨by have := hK.1; simp [ivs] at this; omega, rfl⟩⟩
    | cons z zs =>
      obtain ⟨g, o, h1, _, h2, h3⟩ := ri_first hK
      exact ⟨z, rfl, .inr ⟨g, o, h1, h2, _, h3⟩⟩
  obtain ⟨z, hz, hk⟩ := hk
  have ha := emp arg
  have hna := nemp arg
  clear hK
  by_cases e0 : op = [33]
  · subst e0
    have HR : Hid (unaryS [33] arg kinds = (arg.isEmpty, 0)) := hide (by rw [← ha]; rfl)
    generalize arg.isEmpty = b at *
    clear hz 
    rcases hk with ⟨rfl, rfl⟩ | ⟨g, o, rfl, hcell, q, rfl⟩
    · go_enter Tryd.func19, Tryd.ntmps19
      go_wp2
      all_goals
        go_ret2
        exact ⟨by rw [HR.out] <;> rfl, rfl⟩
    · have hpos : (0 : Int) < (q : Int) + 1 := by omega
      go_enter Tryd.func19, Tryd.ntmps19
      go_wp2
      all_goals
        go_ret2
        exact ⟨by rw [HR.out] <;> rfl, rfl⟩
  by_cases e1 : op = [45, 110]
  · subst e1
    have HR : Hid (unaryS [45, 110] arg kinds = (!arg.isEmpty, 0)) := hide (by rw [← hna]; rfl)
    generalize arg.isEmpty = b at *
    clear hz e0
    rcases hk with ⟨rfl, rfl⟩ | ⟨g, o, rfl, hcell, q, rfl⟩
    · go_enter Tryd.func19, Tryd.ntmps19
      go_wp2
      all_goals
        go_ret2
        exact ⟨by rw [HR.out] <;> rfl, rfl⟩
    · have hpos : (0 : Int) < (q : Int) + 1 := by omega
      go_enter Tryd.func19, Tryd.ntmps19
      go_wp2
      all_goals
        go_ret2
        exact ⟨by rw [HR.out] <;> rfl, rfl⟩
  by_cases e2 : op = [45, 122]
  · subst e2
    have HR : Hid (unaryS [45, 122] arg kinds = (arg.isEmpty, 0)) := hide (by rw [← ha]; rfl)
    generalize arg.isEmpty = b at *
    clear hz e0 e1
    rcases hk with ⟨rfl, rfl⟩ | ⟨g, o, rfl, hcell, q, rfl⟩
    · go_enter Tryd.func19, Tryd.ntmps19
      go_wp2
      all_goals
        go_ret2
        exact ⟨by rw [HR.out] <;> rfl, rfl⟩
    · have hpos : (0 : Int) < (q : Int) + 1 := by omega
      go_enter Tryd.func19, Tryd.ntmps19
      go_wp2
      all_goals
        go_ret2
        exact ⟨by rw [HR.out] <;> rfl, rfl⟩
  by_cases e3 : op = [45, 101]
  · subst e3
    have HR : Hid (unaryS [45, 101] arg kinds = (z != 0, 0)) := hide (by rw [← hz]; rfl)
    generalize arg.isEmpty = b at *
    clear hz e0 e1 e2
    rcases hk with ⟨rfl, rfl⟩ | ⟨g, o, rfl, hcell, q, rfl⟩
    · go_enter Tryd.func19, Tryd.ntmps19
      go_wp2
      all_goals
        go_ret2
        exact ⟨by rw [HR.out] <;> rfl, rfl⟩
    · have hpos : (0 : Int) < (q : Int) + 1 := by omega
      go_enter Tryd.func19, Tryd.ntmps19
      go_wp2
      all_goals
        go_ret2
        exact ⟨by rw [HR.out] <;> rfl, rfl⟩
  by_cases e4 : op = [45, 102]
  · subst e4
    have HR : Hid (unaryS [45, 102] arg kinds = (z == 1, 0)) := hide (by rw [← hz]; rfl)
    generalize arg.isEmpty = b at *
    clear hz e0 e1 e2 e3
    rcases hk with ⟨rfl, rfl⟩ | ⟨g, o, rfl, hcell, q, rfl⟩
    · go_enter Tryd.func19, Tryd.ntmps19
      go_wp2
      all_goals
        go_ret2
        exact ⟨by rw [HR.out] <;> rfl, rfl⟩
    · have hpos : (0 : Int) < (q : Int) + 1 := by omega
      go_enter Tryd.func19, Tryd.ntmps19
      go_wp2
      all_goals
        go_ret2
        exact ⟨by rw [HR.out] <;> rfl, rfl⟩
  by_cases e5 : op = [45, 100]
  · subst e5
    have HR : Hid (unaryS [45, 100] arg kinds = (z == 2, 0)) := hide (by rw [← hz]; rfl)
    generalize arg.isEmpty = b at *
    clear hz e0 e1 e2 e3 e4
    rcases hk with ⟨rfl, rfl⟩ | ⟨g, o, rfl, hcell, q, rfl⟩
    · go_enter Tryd.func19, Tryd.ntmps19
      go_wp2
      all_goals
        go_ret2
        exact ⟨by rw [HR.out] <;> rfl, rfl⟩
    · have hpos : (0 : Int) < (q : Int) + 1 := by omega
      go_enter Tryd.func19, Tryd.ntmps19
      go_wp2
      all_goals
        go_ret2
        exact ⟨by rw [HR.out] <;> rfl, rfl⟩
  by_cases e6 : op = [45, 104]
  · subst e6
    have HR : Hid (unaryS [45, 104] arg kinds = (z == 3, 0)) := hide (by rw [← hz]; rfl)
    generalize arg.isEmpty = b at *
    clear hz e0 e1 e2 e3 e4 e5
    rcases hk with ⟨rfl, rfl⟩ | ⟨g, o, rfl, hcell, q, rfl⟩
    · go_enter Tryd.func19, Tryd.ntmps19
      go_wp2
      all_goals
        go_ret2
        exact ⟨by rw [HR.out] <;> rfl, rfl⟩
    · have hpos : (0 : Int) < (q : Int) + 1 := by omega
      go_enter Tryd.func19, Tryd.ntmps19
      go_wp2
      all_goals
        go_ret2
        exact ⟨by rw [HR.out] <;> rfl, rfl⟩
  have t0 : (op == [33]) = false := beq_eq_false_iff_ne.2 e0
  have t1 : (op == [45, 110]) = false := beq_eq_false_iff_ne.2 e1
  have t2 : (op == [45, 122]) = false := beq_eq_false_iff_ne.2 e2
  have t3 : (op == [45, 101]) = false := beq_eq_false_iff_ne.2 e3
  have t4 : (op == [45, 102]) = false := beq_eq_false_iff_ne.2 e4
  have t5 : (op == [45, 100]) = false := beq_eq_false_iff_ne.2 e5
  have t6 : (op == [45, 104]) = false := beq_eq_false_iff_ne.2 e6
  have HR : Hid (unaryS op arg kinds = (false, 32)) := hide (by
    have : asksN op = -1 := by unfold asksN; rw [if_neg e3, if_neg e4, if_neg e5, if_neg e6]
    unfold unaryS unaryR
    rw [if_neg e0, if_neg e1, if_neg e2, if_pos this])
  clear hz e0 e1 e2 e3 e4 e5 e6
  rcases hk with ⟨rfl, rfl⟩ | ⟨g, o, rfl, hcell, q, rfl⟩
  · go_enter Tryd.func19, Tryd.ntmps19
    go_wp2
    all_goals
      go_ret2
      exact ⟨by rw [HR.out] <;> rfl, rfl⟩
  · have hpos : (0 : Int) < (q : Int) + 1 := by omega
    go_enter Tryd.func19, Tryd.ntmps19
    go_wp2
    all_goals
      go_ret2
      exact ⟨by rw [HR.out] <;> rfl, rfl⟩
end Go.Proofs.YtkiahjfcnhpblaaDoor
