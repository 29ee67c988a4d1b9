/- The law FieldLines. -/
import Derived.Test.YtnongbbhpkmdjaaFldP
namespace Go.Proofs.Ytnongbbhpkmdjaa
open Go.RowKit
set_option linter.unusedVariables false
set_option maxRecDepth 1000000 in
set_option maxHeartbeats 8000000 in
theorem lines_any (s ifs : LB) (n : Int) (w : World) : Calls Try.prog 4 #[.string ⟨s.toArray⟩, .string ⟨ifs.toArray⟩, .int .i64 n] w fun e w' => e = .returned (.bool true) ∧ Below w.heap.size w w' := by
  have XH := hide heads_any
  by_cases h1 : s.length ≤ 1000
  · have k1 : ¬ (1000 : Int) < (s.length : Int) := by omega
    by_cases h2 : ifs.length ≤ 100
    · have k2 : ¬ (100 : Int) < (ifs.length : Int) := by omega
      by_cases h3 : n < 1 ∨ 100 < n
      · have XA := hide (fun W => line_no s ifs n W h3)
        have XB := hide (fun W => refline_no s ifs n W h3)
        have XT := hide (fun W => texts_eq [] none none 0 0 0 0 W Reads.none_ Reads.none_ (by omega))
        clear h3
        go_enter Try.func4, Try.ntmps4
        go_wp2_with fail
        refine (XA.out _).mono ?_
        rintro e w' ⟨rfl, rfl⟩
        go_wp2_with fail
        refine (XB.out _).mono ?_
        rintro e w' ⟨rfl, rfl⟩
        go_wp2_with fail
        refine (XT.out _).mono ?_
        rintro e w1 ⟨rfl, hb1⟩
        have HB1 := hide hb1
        clear hb1
        go_wp2_with fail
        refine (XH.out _).mono ?_
        rintro e w2 ⟨rfl, hb2⟩
        have HB2 := hide (below_more HB1.out (Nat.le_refl _) hb2)
        clear hb2
        go_wp2_with fail
        go_ret
        exact ⟨rfl, HB2.out⟩
      · obtain ⟨m, rfl⟩ : ∃ m : Nat, n = (m : Int) := ⟨n.toNat, by omega⟩
        have XA := hide (fun W => line_yes s ifs m W (by omega) (by omega) (by omega) (by omega))
        have XB := hide (fun W => refline_yes s ifs m W (by omega) (by omega) (by omega) (by omega))
        have hm : m ≤ 100 := by omega
        rw [line_same ifs s m (by omega)] at XA
        generalize lineF ifs s m = ks at *
        clear h3
        go_enter Try.func4, Try.ntmps4
        go_wp2_with fail
        refine (XA.out _).mono ?_
        rintro e w1 ⟨A1, c1, rfl, hO1, hb1⟩
        have HO1 := hide hO1
        have HB1 := hide hb1
        clear hO1 hb1
        go_wp2_with fail
        refine (XB.out _).mono ?_
        rintro e w2 ⟨A2, c2, rfl, hO2, hb2⟩
        have HO2 := hide hO2
        have HO3 := hide (HO1.out.below hb2)
        have HB2 := hide (below_more HB1.out (Nat.le_refl _) hb2)
        clear hO2 hb2
        go_wp2_with fail
        refine (texts_eq ks A1 A2 m c1 m c2 w2 HO3.out.rd HO2.out.rd (by omega)).mono ?_
        rintro e w3 ⟨rfl, hb3⟩
        have HB3 := hide (below_more HB2.out (Nat.le_refl _) hb3)
        clear hb3
        go_wp2_with fail
        refine (XH.out _).mono ?_
        rintro e w4 ⟨rfl, hb4⟩
        have HB4 := hide (below_more HB3.out (Nat.le_refl _) hb4)
        clear hb4
        go_wp2_with fail
        go_ret
        exact ⟨rfl, HB4.out⟩
    · have k2 : (100 : Int) < (ifs.length : Int) := by omega
      go_enter Try.func4, Try.ntmps4
      go_wp2_with fail
      refine (XH.out _).mono ?_
      rintro e w' ⟨rfl, hb⟩
      have HB := hide hb
      clear hb
      go_wp2_with fail
      go_ret
      exact ⟨rfl, HB.out⟩
  · have k1 : (1000 : Int) < (s.length : Int) := by omega
    go_enter Try.func4, Try.ntmps4
    go_wp2_with fail
    refine (XH.out _).mono ?_
    rintro e w' ⟨rfl, hb⟩
    have HB := hide hb
    clear hb
    go_wp2_with fail
    go_ret
    exact ⟨rfl, HB.out⟩
theorem lines_b (s ifs : ByteArray) (n : Int) (w : World) : Calls Try.prog 4 #[.string s, .string ifs, .int .i64 n] w fun e w' => e = .returned (.bool true) ∧ Below w.heap.size w w' := by
  obtain ⟨t, rfl⟩ := bs_of s
  obtain ⟨u, rfl⟩ := bs_of ifs
  exact lines_any t u n w
end Go.Proofs.Ytnongbbhpkmdjaa
