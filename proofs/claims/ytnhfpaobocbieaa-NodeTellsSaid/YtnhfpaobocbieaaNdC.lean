/- node.checkNode at any node. -/
import Derived.Test.YtnhfpaobocbieaaNdB
namespace Go.Proofs.Ytnhfpaobocbieaa
open Go.RowKit
set_option linter.unusedVariables false
theorem index_has (l : Bs) (c : UInt8) : 0 ≤ Lib.indexByte l c ↔ l.contains c = true := by
  rw [show l.contains c = hasL l c from rfl]
  unfold hasL
  rw [List.contains_iff_mem]
  induction l with
  | nil => simp [Lib.indexByte]
  | cons x t ih =>
    by_cases h : x = c
    · subst h; simp [Lib.indexByte]
    · have hb : (x == c) = false := beq_eq_false_iff_ne.2 h
      have h1 : c ∈ x :: t ↔ c ∈ t := by simp [Ne.symm h]
      rw [h1, ← ih]
      simp only [Lib.indexByte, hb]
      by_cases hm : Lib.indexByte t c = -1
      · rw [hm]; simp
      · have : (Lib.indexByte t c == -1) = false := beq_eq_false_iff_ne.2 hm
        have hge : -1 ≤ Lib.indexByte t c := Lib.indexByte_ge t c
        simp [this]; omega
set_option maxRecDepth 100000 in
set_option maxHeartbeats 8000000 in
theorem node_any (x : DV) (c : Int) (w : World) (hok : DVok w w.heap.size x) (hx : FewN x) :
    Calls Try.prog 37 #[.agg x.cs.toArray, .int .i64 c] w fun e w' => e = .returned (.bool (nodeB x.r c)) ∧ Below w.heap.size w w' := by
  obtain ⟨f1, f2, f3, f4⟩ := hx
  have hdl := hok.dl
  have hnl := hok.nl
  have hn := hok.n
  clear hok
  obtain ⟨⟨kind, mode, links, data, names, tt⟩, D, dn, dc, M, mn, mc⟩ := x
  unfold DV.cs
  dsimp only at f1 f2 f3 f4 hdl hnl hn ⊢
  have HD : Hid (data.isEmpty = decide (dn = 0)) := hide (by rw [← hdl]; cases data <;> simp)
  have HN : Hid (names.isEmpty = decide (mn = 0)) := hide (by rw [← hnl]; cases names <;> simp)
  have HDL := hide hdl
  have hdn : dn ≤ 5000 := by omega
  have hmn : mn ≤ 100 := by omega
  obtain ⟨R, hRv⟩ : ∃ R, nodeB ⟨kind, mode, links, data, names, tt⟩ c = R := ⟨_, rfl⟩
  rw [hRv]
  have HV := hide hRv
  have HXN := hide (fun W (hW : Below w.heap.size w W) => names_any M mn mc names c W ((hn.below hW).more hW.size) (by omega) (fun y hy => by have := f4 y hy; omega))
  have HBX : Hid (Blk (w.alloc (.cells #[Value.int .i64 kind, .int .i64 mode, .int .i64 links, .slice D dn dc, .slice M mn mc, .string ⟨tt.toArray⟩] 49)) w.heap.size 49 #[Value.int .i64 kind, .int .i64 mode, .int .i64 links, .slice D dn dc, .slice M mn mc, .string ⟨tt.toArray⟩]) := hide (Blk.new w _ _)
  have HB : Hid (Below w.heap.size w (w.alloc (.cells #[Value.int .i64 kind, .int .i64 mode, .int .i64 links, .slice D dn dc, .slice M mn mc, .string ⟨tt.toArray⟩] 49))) := hide (on_alloc _ _)
  clear hRv hdl hnl hn f1 f3 f4
  go_enter Try.func37, Try.ntmps37
  obtain ⟨e0, e1, e2, e3, e4, e5⟩ := six HBX.out
  by_cases m0 : mode < 0
  · have m1 : ¬ (0 ≤ mode) := by omega
    have hRe : R = false := by rw [← HV.out]; simp [nodeB, HD.out, HN.out, HDL.out, m1]
    subst hRe
    go_wp2_with fail
    go_ret
    exact ⟨rfl, HB.out⟩
  by_cases m7 : 7 < mode
  · have m1 : ¬ (mode ≤ 7) := by omega
    have hRe : R = false := by rw [← HV.out]; simp [nodeB, HD.out, HN.out, HDL.out, m1]
    subst hRe
    go_wp2_with fail
    go_ret
    exact ⟨rfl, HB.out⟩
  have g0 : 0 ≤ mode := by omega
  have g7 : mode ≤ 7 := by omega
  have XI := hide (fun W => Any.strings_IndexByte Try.lays137 ⟨tt.toArray⟩ 0 W)
  by_cases k1 : kind = 1
  · subst k1
    by_cases c1 : dn ≤ 4096
    · have c1b : (dn : Int) ≤ 4096 := by omega
      by_cases c2 : mn = 0
      · have c2b : (mn : Int) = 0 := by omega
        by_cases c3 : tt = []
        · subst c3
          subst c2
          have hRe : R = true := by rw [← HV.out]; simp [nodeB, HN.out, HDL.out, c1, g0, g7]
          subst hRe
          go_wp2_with fail
          go_ret
          exact ⟨rfl, HB.out⟩
        · have c3b : tt.isEmpty = false := by cases tt <;> simp_all
          subst c2
          have hRe : R = false := by rw [← HV.out]; simp [nodeB, HN.out, HDL.out, c1, c3b, g0, g7]
          subst hRe
          go_wp2_with fail
          go_ret
          exact ⟨rfl, HB.out⟩
      · have c2b : ((mn : Int) == 0) = false := beq_eq_false_iff_ne.2 (by omega)
        have hRe : R = false := by rw [← HV.out]; simp [nodeB, HN.out, HDL.out, c1, c2, g0, g7]
        subst hRe
        go_wp2_with fail
        go_ret
        exact ⟨rfl, HB.out⟩
    · have c1b : ¬ ((dn : Int) ≤ 4096) := by omega
      have hRe : R = false := by rw [← HV.out]; simp [nodeB, HN.out, HDL.out, c1, g0, g7]
      subst hRe
      go_wp2_with fail
      go_ret
      exact ⟨rfl, HB.out⟩
  have k1b : (kind == 1) = false := beq_eq_false_iff_ne.2 k1
  by_cases k2 : kind = 2
  · subst k2
    go_wp2_with fail
    refine (HXN.out _ HB.out).mono ?_
    rintro e w3 ⟨rfl, hb⟩
    have HBX3 := hide (HBX.out.below hb HBX.out.lt)
    have HB3 := hide (HB.out.trans (hb.mono HB.out.size))
    clear hb HBX HB e0 e1 e2 e3 e4 e5
    obtain ⟨e0, e1, e2, e3, e4, e5⟩ := six HBX3.out
    cases hq : namesFrom c none names with
    | false =>
      have hRe : R = false := by rw [← HV.out]; simp [nodeB, HD.out, hq, g0, g7]
      subst hRe
      go_wp2_with fail
      go_ret
      exact ⟨rfl, HB3.out⟩
    | true =>
      by_cases c2 : dn = 0
      · subst c2
        by_cases c3 : tt = []
        · subst c3
          have hRe : R = true := by rw [← HV.out]; simp [nodeB, HD.out, hq, g0, g7]
          subst hRe
          go_wp2_with fail
          go_ret
          exact ⟨rfl, HB3.out⟩
        · have c3b : tt.isEmpty = false := by cases tt <;> simp_all
          have hRe : R = false := by rw [← HV.out]; simp [nodeB, HD.out, hq, c3b, g0, g7]
          subst hRe
          go_wp2_with fail
          go_ret
          exact ⟨rfl, HB3.out⟩
      · have c2b : ((dn : Int) == 0) = false := beq_eq_false_iff_ne.2 (by omega)
        have hRe : R = false := by rw [← HV.out]; simp [nodeB, HD.out, hq, c2, g0, g7]
        subst hRe
        go_wp2_with fail
        go_ret
        exact ⟨rfl, HB3.out⟩
  have k2b : (kind == 2) = false := beq_eq_false_iff_ne.2 k2
  by_cases k3 : kind = 3
  · subst k3
    by_cases c1 : 1 ≤ tt.length
    · have c1b : (1 : Int) ≤ (tt.length : Int) := by omega
      by_cases c2 : tt.length ≤ 256
      · have c2b : (tt.length : Int) ≤ 256 := by omega
        go_wp2_with fail
        refine (XI.out _).mono ?_
        rintro e w3 ⟨rfl, rfl⟩
        have hih := index_has tt 0
        cases hq : tt.contains 0 with
        | true =>
          rw [hq] at hih
          have hq2 : (0 : UInt8) ∈ tt := by simpa using hq
          have hz : ¬ (Lib.indexByte tt 0 < 0) := by have := hih.2 rfl; omega
          clear hih
          have hRe : R = false := by rw [← HV.out]; simp [nodeB, HD.out, HN.out, hq2, c1, c2, g0, g7]
          subst hRe
          go_wp2_with fail
          go_ret
          exact ⟨rfl, HB.out⟩
        | false =>
          rw [hq] at hih
          have hq2 : ¬ (0 : UInt8) ∈ tt := by simpa using hq
          have hz : Lib.indexByte tt 0 < 0 := by
            rcases Int.lt_or_le (Lib.indexByte tt 0) 0 with h | h
            · exact h
            · have := hih.1 h; cases this
          clear hih
          by_cases c3 : dn = 0
          · subst c3
            by_cases c4 : mn = 0
            · subst c4
              have hRe : R = true := by rw [← HV.out]; simp [nodeB, HD.out, HN.out, hq2, c1, c2, g0, g7]
              subst hRe
              go_wp2_with fail
              go_ret
              exact ⟨rfl, HB.out⟩
            · have c4b : ((mn : Int) == 0) = false := beq_eq_false_iff_ne.2 (by omega)
              have hRe : R = false := by rw [← HV.out]; simp [nodeB, HD.out, HN.out, hq2, c1, c2, c4, g0, g7]
              subst hRe
              go_wp2_with fail
              go_ret
              exact ⟨rfl, HB.out⟩
          · have c3b : ((dn : Int) == 0) = false := beq_eq_false_iff_ne.2 (by omega)
            have hRe : R = false := by rw [← HV.out]; simp [nodeB, HD.out, HN.out, hq2, c1, c2, c3, g0, g7]
            subst hRe
            go_wp2_with fail
            go_ret
            exact ⟨rfl, HB.out⟩
      · have c2b : ¬ ((tt.length : Int) ≤ 256) := by omega
        have hRe : R = false := by rw [← HV.out]; simp [nodeB, HD.out, HN.out, c1, c2, g0, g7]
        subst hRe
        go_wp2_with fail
        go_ret
        exact ⟨rfl, HB.out⟩
    · have c1b : ¬ ((1 : Int) ≤ (tt.length : Int)) := by omega
      have hRe : R = false := by rw [← HV.out]; simp [nodeB, HD.out, HN.out, c1, g0, g7]
      subst hRe
      go_wp2_with fail
      go_ret
      exact ⟨rfl, HB.out⟩
  have k3b : (kind == 3) = false := beq_eq_false_iff_ne.2 k3
  have hRe : R = false := by rw [← HV.out]; simp [nodeB, k1, k2, k3]
  subst hRe
  go_wp2_with fail
  go_ret
  exact ⟨rfl, HB.out⟩
end Go.Proofs.Ytnhfpaobocbieaa
