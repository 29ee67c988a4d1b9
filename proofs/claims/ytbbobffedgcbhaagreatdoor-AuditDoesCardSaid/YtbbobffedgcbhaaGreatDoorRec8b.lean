/- The document's Governed and Check (for seats without Line and Word). -/
import Derived.Test.YtbbobffedgcbhaaGreatDoorRec8a
namespace Go.Proofs.YtbbobffedgcbhaaGreatDoor
open Go.RowKit
set_option linter.unusedVariables false
set_option maxHeartbeats 4000000 in
theorem rgov_any (op : Int) (w : World) : Calls Tryz.prog 52 #[.int .i64 op] w fun e w' => e = .returned (.bool (govP op)) ∧ w = w' := by
  by_cases h1 : op = 1
  · subst h1
    show Calls _ _ _ _ fun e w' => e = .returned (.bool true) ∧ w = w'
    go_enter Tryz.func52, Tryz.ntmps52
    go_wp2_with fail
    go_ret
    exact ⟨rfl, rfl⟩
  · have k1 : (op == 1) = false := beq_eq_false_iff_ne.2 h1
    by_cases h6 : op = 6
    · subst h6
      show Calls _ _ _ _ fun e w' => e = .returned (.bool true) ∧ w = w'
      go_enter Tryz.func52, Tryz.ntmps52
      go_wp2_with fail
      go_ret
      exact ⟨rfl, rfl⟩
    · have k6 : (op == 6) = false := beq_eq_false_iff_ne.2 h6
      by_cases h7 : op = 7
      · subst h7
        show Calls _ _ _ _ fun e w' => e = .returned (.bool true) ∧ w = w'
        go_enter Tryz.func52, Tryz.ntmps52
        go_wp2_with fail
        go_ret
        exact ⟨rfl, rfl⟩
      · have k7 : (op == 7) = false := beq_eq_false_iff_ne.2 h7
        by_cases h9 : op = 9
        · subst h9
          show Calls _ _ _ _ fun e w' => e = .returned (.bool true) ∧ w = w'
          go_enter Tryz.func52, Tryz.ntmps52
          go_wp2_with fail
          go_ret
          exact ⟨rfl, rfl⟩
        · have k9 : (op == 9) = false := beq_eq_false_iff_ne.2 h9
          by_cases h10 : op = 10
          · subst h10
            show Calls _ _ _ _ fun e w' => e = .returned (.bool true) ∧ w = w'
            go_enter Tryz.func52, Tryz.ntmps52
            go_wp2_with fail
            go_ret
            exact ⟨rfl, rfl⟩
          · have k10 : (op == 10) = false := beq_eq_false_iff_ne.2 h10
            by_cases h11 : op = 11
            · subst h11
              show Calls _ _ _ _ fun e w' => e = .returned (.bool true) ∧ w = w'
              go_enter Tryz.func52, Tryz.ntmps52
              go_wp2_with fail
              go_ret
              exact ⟨rfl, rfl⟩
            · have k11 : (op == 11) = false := beq_eq_false_iff_ne.2 h11
              by_cases h12 : op = 12
              · subst h12
                show Calls _ _ _ _ fun e w' => e = .returned (.bool true) ∧ w = w'
                go_enter Tryz.func52, Tryz.ntmps52
                go_wp2_with fail
                go_ret
                exact ⟨rfl, rfl⟩
              · have k12 : (op == 12) = false := beq_eq_false_iff_ne.2 h12
                by_cases h13 : op = 13
                · subst h13
                  show Calls _ _ _ _ fun e w' => e = .returned (.bool true) ∧ w = w'
                  go_enter Tryz.func52, Tryz.ntmps52
                  go_wp2_with fail
                  go_ret
                  exact ⟨rfl, rfl⟩
                · have k13 : (op == 13) = false := beq_eq_false_iff_ne.2 h13
                  by_cases h14 : op = 14
                  · subst h14
                    show Calls _ _ _ _ fun e w' => e = .returned (.bool true) ∧ w = w'
                    go_enter Tryz.func52, Tryz.ntmps52
                    go_wp2_with fail
                    go_ret
                    exact ⟨rfl, rfl⟩
                  · have k14 : (op == 14) = false := beq_eq_false_iff_ne.2 h14
                    have HE : Hid (govP op = false) := hide (by unfold govP; simp [k1, k6, k7, k9, k10, k11, k12, k13, k14])
                    rw [HE.out]
                    have h15 : op < 9 ∨ 14 < op := by omega
                    clear h1 h6 h7 h9 h10 h11 h12 h13 h14
                    rcases h15 with h15 | h15
                    · go_enter Tryz.func52, Tryz.ntmps52
                      go_wp2_with fail
                      go_ret
                      exact ⟨rfl, rfl⟩
                    · have h16 : 9 ≤ op := by omega
                      have h17 : decide (op ≤ 14) = false := decide_eq_false (by omega)
                      go_enter Tryz.func52, Tryz.ntmps52
                      go_wp2_with fail
                      go_ret
                      exact ⟨rfl, rfl⟩
set_option maxRecDepth 100000 in
set_option maxHeartbeats 8000000 in
theorem rcheck_any_ (q op : Int) (p p2 d : LB) (al : Bool) (A : Option Addr) (n c : Nat) (hd : d.length = n) (w : World) :
    Calls Tryz.prog 30 #[Rec.v ⟨q, op, p, p2, d, al⟩ A n c] w fun e w' => e = .returned (.bool (validP ⟨q, op, p, p2, d, al⟩)) ∧ Below w.heap.size w w' := by
  unfold Rec.v
  dsimp only
  have XG := hide (fun W => rgov_any op W)
  have HB := hide ((Below.refl w.heap.size w).alloc (Nat.le_refl _) (.cells #[.int .i64 q, .int .i64 op, .string ⟨p.toArray⟩, .string ⟨p2.toArray⟩, .slice A n c, .bool al] 28))
  have HD := hide hd
  have HV : Hid (validP ⟨q, op, p, p2, d, al⟩ = (decide (0 ≤ q) && decide (q ≤ 2147483647) && (govP op && (decide (p.length ≤ 256) && (decide (p2.length ≤ 256) && (p2.isEmpty || op == 14) && (if op = 7 then decide (d.length = 32) else decide (d.length = 0))))))) := hide rfl
  clear hd
  obtain ⟨V, hVe⟩ : ∃ V, validP ⟨q, op, p, p2, d, al⟩ = V := ⟨_, rfl⟩
  rw [hVe] at HV ⊢
  clear hVe
  obtain ⟨g, hg⟩ : ∃ g, govP op = g := ⟨_, rfl⟩
  rw [hg] at XG HV
  clear hg
  by_cases o7 : op = 7
  · subst o7
    cases p2 with
    | cons a t =>
      have e1 : ((a :: t : LB) == []) = false := rfl
      have e2 : ((a :: t : LB) != []) = true := rfl
      have HE : Hid (V = false) := hide (by rw [HV.out]; simp)
      clear HV
      go_enter Tryz.func30, Tryz.ntmps30
      go_wp2_with fail
      go_ret
      exact ⟨by rw [HE.out]; rfl, HB.out⟩
    | nil =>
      by_cases h1 : q < 0
      · have HE : Hid (V = false) := hide (by rw [HV.out]; simp; omega)
        clear HV
        go_enter Tryz.func30, Tryz.ntmps30
        go_wp2_with fail
        go_ret
        exact ⟨by rw [HE.out]; rfl, HB.out⟩
      have h1b : 0 ≤ q := by omega
      by_cases h2 : 2147483648 ≤ q
      · have HE : Hid (V = false) := hide (by rw [HV.out]; simp; omega)
        clear HV
        go_enter Tryz.func30, Tryz.ntmps30
        go_wp2_with fail
        go_ret
        exact ⟨by rw [HE.out]; rfl, HB.out⟩
      have h2b : q < 2147483648 := by omega
      cases g with
      | false =>
        have HE : Hid (V = false) := hide (by rw [HV.out]; simp)
        clear HV
        go_enter Tryz.func30, Tryz.ntmps30
        go_wp2_with fail
        refine (XG.out _).mono ?_
        rintro e w1 ⟨rfl, rfl⟩
        go_wp2_with fail
        go_ret
        exact ⟨by rw [HE.out]; rfl, HB.out⟩
      | true =>
        by_cases h3 : 256 < p.length
        · have k3 : ¬ (p.length : Int) ≤ 256 := by omega
          have HE : Hid (V = false) := hide (by rw [HV.out]; simp; omega)
          clear HV
          go_enter Tryz.func30, Tryz.ntmps30
          go_wp2_with fail
          refine (XG.out _).mono ?_
          rintro e w1 ⟨rfl, rfl⟩
          go_wp2_with fail
          go_ret
          exact ⟨by rw [HE.out]; rfl, HB.out⟩
        have k3 : (p.length : Int) ≤ 256 := by omega
        have j1 : decide (0 ≤ q) = true := decide_eq_true (by omega)
        have j2 : decide (q ≤ 2147483647) = true := decide_eq_true (by omega)
        have j3 : decide (p.length ≤ 256) = true := decide_eq_true (by omega)
        rw [j1, j2, j3] at HV
        clear j1 j2 j3
        by_cases h9 : n = 32
        · subst h9
          have HE : Hid (V = true) := hide (by rw [HV.out]; simp [HD.out])
          clear HV
          go_enter Tryz.func30, Tryz.ntmps30
          go_wp2_with fail
          refine (XG.out _).mono ?_
          rintro e w1 ⟨rfl, rfl⟩
          go_wp2_with fail
          go_ret
          exact ⟨by rw [HE.out]; rfl, HB.out⟩
        have k9 : ((n : Int) == 32) = false := beq_eq_false_iff_ne.2 (by omega)
        have HE : Hid (V = false) := hide (by rw [HV.out]; simp [HD.out]; omega)
        clear HV
        go_enter Tryz.func30, Tryz.ntmps30
        go_wp2_with fail
        refine (XG.out _).mono ?_
        rintro e w1 ⟨rfl, rfl⟩
        go_wp2_with fail
        go_ret
        exact ⟨by rw [HE.out]; rfl, HB.out⟩
  · have q7 : (op == 7) = false := beq_eq_false_iff_ne.2 o7
    by_cases o14 : op = 14
    · subst o14
      by_cases h1 : q < 0
      · have HE : Hid (V = false) := hide (by rw [HV.out]; simp; omega)
        clear HV
        go_enter Tryz.func30, Tryz.ntmps30
        go_wp2_with fail
        go_ret
        exact ⟨by rw [HE.out]; rfl, HB.out⟩
      have h1b : 0 ≤ q := by omega
      by_cases h2 : 2147483648 ≤ q
      · have HE : Hid (V = false) := hide (by rw [HV.out]; simp; omega)
        clear HV
        go_enter Tryz.func30, Tryz.ntmps30
        go_wp2_with fail
        go_ret
        exact ⟨by rw [HE.out]; rfl, HB.out⟩
      have h2b : q < 2147483648 := by omega
      cases g with
      | false =>
        have HE : Hid (V = false) := hide (by rw [HV.out]; simp)
        clear HV
        go_enter Tryz.func30, Tryz.ntmps30
        go_wp2_with fail
        refine (XG.out _).mono ?_
        rintro e w1 ⟨rfl, rfl⟩
        go_wp2_with fail
        go_ret
        exact ⟨by rw [HE.out]; rfl, HB.out⟩
      | true =>
        by_cases h3 : 256 < p.length
        · have k3 : ¬ (p.length : Int) ≤ 256 := by omega
          have HE : Hid (V = false) := hide (by rw [HV.out]; simp; omega)
          clear HV
          go_enter Tryz.func30, Tryz.ntmps30
          go_wp2_with fail
          refine (XG.out _).mono ?_
          rintro e w1 ⟨rfl, rfl⟩
          go_wp2_with fail
          go_ret
          exact ⟨by rw [HE.out]; rfl, HB.out⟩
        have k3 : (p.length : Int) ≤ 256 := by omega
        by_cases h4 : 256 < p2.length
        · have k4 : ¬ (p2.length : Int) ≤ 256 := by omega
          have HE : Hid (V = false) := hide (by rw [HV.out]; simp; omega)
          clear HV
          go_enter Tryz.func30, Tryz.ntmps30
          go_wp2_with fail
          refine (XG.out _).mono ?_
          rintro e w1 ⟨rfl, rfl⟩
          go_wp2_with fail
          go_ret
          exact ⟨by rw [HE.out]; rfl, HB.out⟩
        have k4 : (p2.length : Int) ≤ 256 := by omega
        have j1 : decide (0 ≤ q) = true := decide_eq_true (by omega)
        have j2 : decide (q ≤ 2147483647) = true := decide_eq_true (by omega)
        have j3 : decide (p.length ≤ 256) = true := decide_eq_true (by omega)
        have j4 : decide (p2.length ≤ 256) = true := decide_eq_true (by omega)
        rw [j1, j2, j3, j4] at HV
        clear j1 j2 j3 j4
        by_cases h9 : n = 0
        · subst h9
          have HE : Hid (V = true) := hide (by rw [HV.out]; simp [HD.out])
          clear HV
          go_enter Tryz.func30, Tryz.ntmps30
          go_wp2_with fail
          refine (XG.out _).mono ?_
          rintro e w1 ⟨rfl, rfl⟩
          go_wp2_with fail
          go_ret
          exact ⟨by rw [HE.out]; rfl, HB.out⟩
        have k9 : ((n : Int) == 0) = false := beq_eq_false_iff_ne.2 (by omega)
        have HE : Hid (V = false) := hide (by rw [HV.out]; simp [HD.out]; omega)
        clear HV
        go_enter Tryz.func30, Tryz.ntmps30
        go_wp2_with fail
        refine (XG.out _).mono ?_
        rintro e w1 ⟨rfl, rfl⟩
        go_wp2_with fail
        go_ret
        exact ⟨by rw [HE.out]; rfl, HB.out⟩
    · have q14 : (op == 14) = false := beq_eq_false_iff_ne.2 o14
      have r14 : (op != 14) = true := by rw [bne, q14]; rfl
      cases p2 with
      | cons a t =>
        have e1 : ((a :: t : LB) == []) = false := rfl
        have e2 : ((a :: t : LB) != []) = true := rfl
        have HE : Hid (V = false) := hide (by rw [HV.out]; simp [q14])
        clear HV
        go_enter Tryz.func30, Tryz.ntmps30
        go_wp2_with fail
        go_ret
        exact ⟨by rw [HE.out]; rfl, HB.out⟩
      | nil =>
        by_cases h1 : q < 0
        · have HE : Hid (V = false) := hide (by rw [HV.out]; simp; omega)
          clear HV
          go_enter Tryz.func30, Tryz.ntmps30
          go_wp2_with fail
          go_ret
          exact ⟨by rw [HE.out]; rfl, HB.out⟩
        have h1b : 0 ≤ q := by omega
        by_cases h2 : 2147483648 ≤ q
        · have HE : Hid (V = false) := hide (by rw [HV.out]; simp; omega)
          clear HV
          go_enter Tryz.func30, Tryz.ntmps30
          go_wp2_with fail
          go_ret
          exact ⟨by rw [HE.out]; rfl, HB.out⟩
        have h2b : q < 2147483648 := by omega
        cases g with
        | false =>
          have HE : Hid (V = false) := hide (by rw [HV.out]; simp)
          clear HV
          go_enter Tryz.func30, Tryz.ntmps30
          go_wp2_with fail
          refine (XG.out _).mono ?_
          rintro e w1 ⟨rfl, rfl⟩
          go_wp2_with fail
          go_ret
          exact ⟨by rw [HE.out]; rfl, HB.out⟩
        | true =>
          by_cases h3 : 256 < p.length
          · have k3 : ¬ (p.length : Int) ≤ 256 := by omega
            have HE : Hid (V = false) := hide (by rw [HV.out]; simp; omega)
            clear HV
            go_enter Tryz.func30, Tryz.ntmps30
            go_wp2_with fail
            refine (XG.out _).mono ?_
            rintro e w1 ⟨rfl, rfl⟩
            go_wp2_with fail
            go_ret
            exact ⟨by rw [HE.out]; rfl, HB.out⟩
          have k3 : (p.length : Int) ≤ 256 := by omega
          have j1 : decide (0 ≤ q) = true := decide_eq_true (by omega)
          have j2 : decide (q ≤ 2147483647) = true := decide_eq_true (by omega)
          have j3 : decide (p.length ≤ 256) = true := decide_eq_true (by omega)
          rw [j1, j2, j3] at HV
          clear j1 j2 j3
          by_cases h9 : n = 0
          · subst h9
            have HE : Hid (V = true) := hide (by rw [HV.out]; simp [HD.out, o7])
            clear HV
            go_enter Tryz.func30, Tryz.ntmps30
            go_wp2_with fail
            refine (XG.out _).mono ?_
            rintro e w1 ⟨rfl, rfl⟩
            go_wp2_with fail
            go_ret
            exact ⟨by rw [HE.out]; rfl, HB.out⟩
          have k9 : ((n : Int) == 0) = false := beq_eq_false_iff_ne.2 (by omega)
          have HE : Hid (V = false) := hide (by rw [HV.out]; simp [HD.out, o7]; omega)
          clear HV
          go_enter Tryz.func30, Tryz.ntmps30
          go_wp2_with fail
          refine (XG.out _).mono ?_
          rintro e w1 ⟨rfl, rfl⟩
          go_wp2_with fail
          go_ret
          exact ⟨by rw [HE.out]; rfl, HB.out⟩
theorem rcheck_any (r : Rec) (A : Option Addr) (n c : Nat) (hd : r.dig.length = n) (w : World) :
    Calls Tryz.prog 30 #[Rec.v r A n c] w fun e w' => e = .returned (.bool (validP r)) ∧ Below w.heap.size w w' := by
  obtain ⟨q, op, p, g, d, al⟩ := r
  exact rcheck_any_ q op p g d al A n c hd w
end Go.Proofs.YtbbobffedgcbhaaGreatDoor
