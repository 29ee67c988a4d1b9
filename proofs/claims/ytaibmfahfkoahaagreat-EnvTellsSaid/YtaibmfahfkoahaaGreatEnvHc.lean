/- The heads of the laws of layer 11. -/
import Derived.Test.YtaibmfahfkoahaaGreatEnvHb
namespace Go.Proofs.YtaibmfahfkoahaaGreat
open Go.RowKit
set_option linter.unusedVariables false
def L0 : List LB := [[90, 61, 51], [65, 61, 48], [76, 68, 95, 88, 61, 50], [49, 120, 61, 50], [65, 61, 49]]
def LB4 : List LB := [[65, 61, 49], [66, 61], [76, 68, 95, 88, 61, 50], [90, 61, 51]]
def LU : List LB := [[76, 68, 95, 88, 61, 50], [90, 61, 51]]
def LN : List LB := [[66, 61], [65, 61]]
theorem c_of : ofP L0 = LH := by kernel_rfl
theorem c_get1 : getE LH [90] = some [51] := by kernel_rfl
theorem c_get2 : getE LH [66] = none := by kernel_rfl
theorem c_set1 : setP LH [66] [] = (LB4, 0) := by kernel_rfl
theorem c_set2 : setP LH [50] [] = (LH, 2) := by kernel_rfl
theorem c_uns : unsE LH [65] = LU := by kernel_rfl
theorem c_chk : envChk LN = false := by kernel_rfl
theorem c_nm1 : nameP [95, 97, 49] = true := by kernel_rfl
theorem c_nm2 : nameP [49] = false := by kernel_rfl
theorem lh_len5 : ∀ s ∈ LH, s.length ≤ 100000 := fun s h => by have := lh_len s h; simp only [LH, List.mem_cons, List.not_mem_nil, or_false] at h; rcases h with rfl | rfl | rfl <;> decide
theorem ln_len : ∀ s ∈ LN, s.length ≤ 1000000 := fun s h => by simp only [LN, List.mem_cons, List.not_mem_nil, or_false] at h; rcases h with rfl | rfl <;> decide
theorem l0_len : ∀ s ∈ L0, s.length ≤ 1000000 := fun s h => by simp only [L0, List.mem_cons, List.not_mem_nil, or_false] at h; rcases h with rfl | rfl | rfl | rfl | rfl <;> decide
theorem of_h (A : Option Addr) (c : Nat) (w : World) (h : Reads w w.heap.size 1 A 5 (svs L0)) : Calls Tryz.prog 11 #[.slice A 5 c] w fun e w' => ∃ A' c', e = .returned (.slice A' 3 c') ∧ Reads w' w'.heap.size 1 A' 3 (svs LH) ∧ Below w.heap.size w w' := by
  have X := of_any L0 l0_len A 5 c w h (by decide)
  rw [c_of] at X
  exact X.mono fun e w' ⟨A', c', h1, h2, h3⟩ => ⟨A', c', h1, h2.rd, h3⟩
theorem get1_h (A : Option Addr) (c : Nat) (w : World) (h : Reads w w.heap.size 1 A 3 (svs LH)) : Calls Tryz.prog 6 #[.slice A 3 c, .string ⟨#[90]⟩] w fun e w' => e = .returned (.tuple #[.string ⟨#[51]⟩, .bool true]) ∧ Below w.heap.size w w' := by
  have X := eget_any LH lh_len [90] A 3 c w h (by decide)
  rw [c_get1] at X
  exact X
theorem get2_h (A : Option Addr) (c : Nat) (w : World) (h : Reads w w.heap.size 1 A 3 (svs LH)) : Calls Tryz.prog 6 #[.slice A 3 c, .string ⟨#[66]⟩] w fun e w' => e = .returned (.tuple #[.string ⟨#[]⟩, .bool false]) ∧ Below w.heap.size w w' := by
  have X := eget_any LH lh_len [66] A 3 c w h (by decide)
  rw [c_get2] at X
  exact X
theorem set1_h (A : Option Addr) (c : Nat) (w : World) (h : Reads w w.heap.size 1 A 3 (svs LH)) : Calls Tryz.prog 8 #[.slice A 3 c, .string ⟨#[66]⟩, .string ⟨#[]⟩] w fun e w' => ∃ A' c', e = .returned (.tuple #[.slice A' 4 c', .int .i64 0]) ∧ Below w.heap.size w w' := by
  have X := set_any LH lh_len5 [66] [] (by decide) (by decide) A 3 c w h (by decide)
  rw [c_set1] at X
  refine X.mono fun e w' ⟨A', n', c', h1, h2, h3⟩ => ?_
  have h5 := h2.rd.1
  rw [svs_length] at h5
  change 4 = n' * 1 at h5
  obtain rfl : n' = 4 := by omega
  exact ⟨A', c', h1, h3⟩
theorem set2_h (A : Option Addr) (c : Nat) (w : World) (h : Reads w w.heap.size 1 A 3 (svs LH)) : Calls Tryz.prog 8 #[.slice A 3 c, .string ⟨#[50]⟩, .string ⟨#[]⟩] w fun e w' => ∃ A' n' c', e = .returned (.tuple #[.slice A' n' c', .int .i64 2]) ∧ Below w.heap.size w w' := by
  have X := set_any LH lh_len5 [50] [] (by decide) (by decide) A 3 c w h (by decide)
  rw [c_set2] at X
  exact X.mono fun e w' ⟨A', n', c', h1, h2, h3⟩ => ⟨A', n', c', h1, h3⟩
theorem uns_h (A : Option Addr) (c : Nat) (w : World) (h : Reads w w.heap.size 1 A 3 (svs LH)) : Calls Tryz.prog 13 #[.slice A 3 c, .string ⟨#[65]⟩] w fun e w' => ∃ A' n' c', e = .returned (.slice A' n' c') ∧ Reads w' w'.heap.size 1 A' n' (svs LU) ∧ Below w.heap.size w w' := by
  have X := unset_any LH lh_len5 [65] A 3 c w h (by decide)
  rw [c_uns] at X
  exact X.mono fun e w' ⟨A', n', c', h1, h2, h3⟩ => ⟨A', n', c', h1, h2.rd, h3⟩
theorem chk1_h (A : Option Addr) (c : Nat) (w : World) (h : Reads w w.heap.size 1 A 3 (svs LH)) : Calls Tryz.prog 15 #[.slice A 3 c] w fun e w' => e = .returned (.bool true) ∧ Below w.heap.size w w' := by
  have X := echeck_any LH lh_len A 3 c w h (by decide)
  rw [lh_chk] at X
  exact X
theorem chk2_h (A : Option Addr) (c : Nat) (w : World) (h : Reads w w.heap.size 1 A 2 (svs LN)) : Calls Tryz.prog 15 #[.slice A 2 c] w fun e w' => e = .returned (.bool false) ∧ Below w.heap.size w w' := by
  have X := echeck_any LN ln_len A 2 c w h (by decide)
  rw [c_chk] at X
  exact X
theorem nm1_h (w : World) : Calls Tryz.prog 17 #[.string ⟨#[95, 97, 49]⟩] w fun e w' => e = .returned (.bool true) ∧ w = w' := by
  have X := ename_any [95, 97, 49] w (by decide)
  rw [c_nm1] at X
  exact X
theorem nm2_h (w : World) : Calls Tryz.prog 17 #[.string ⟨#[49]⟩] w fun e w' => e = .returned (.bool false) ∧ w = w' := by
  have X := ename_any [49] w (by decide)
  rw [c_nm2] at X
  exact X
set_option maxRecDepth 1000000 in
set_option maxHeartbeats 16000000 in
theorem heads_any (w : World) : Calls Tryz.prog 5 #[] w fun e w' => e = .returned (.bool true) ∧ Below w.heap.size w w' := by
  have K := hide ((Below.refl w.heap.size w).alloc (Nat.le_refl _) (.cells #[.int .i64 1, .string ⟨#[42]⟩, .string ⟨#[]⟩, .int .i64 2, .string ⟨#[76, 68, 95, 42]⟩, .string ⟨#[]⟩, .int .i64 3, .string ⟨#[90]⟩, .string ⟨#[52]⟩] 38))
  have HG : Hid (Blk (w.alloc (.cells #[.int .i64 1, .string ⟨#[42]⟩, .string ⟨#[]⟩, .int .i64 2, .string ⟨#[76, 68, 95, 42]⟩, .string ⟨#[]⟩, .int .i64 3, .string ⟨#[90]⟩, .string ⟨#[52]⟩] 38)) w.heap.size 38 RL) := hide (Blk.new w 38 RL)
  obtain ⟨W0, hW0⟩ : ∃ W, w.alloc (.cells #[.int .i64 1, .string ⟨#[42]⟩, .string ⟨#[]⟩, .int .i64 2, .string ⟨#[76, 68, 95, 42]⟩, .string ⟨#[]⟩, .int .i64 3, .string ⟨#[90]⟩, .string ⟨#[52]⟩] 38) = W := ⟨_, rfl⟩
  rw [hW0] at K HG
  have KA := hide (fun o => K.out.alloc K.out.size o)
  have HGA := hide (fun o => HG.out.alloc o)
  have HW0 := hide hW0
  have hs0 : W0.heap.size = w.heap.size + 1 := by rw [← hW0]; simp
  have HL : Hid (Reads (W0.alloc (.cells #[.string ⟨#[90, 61, 51]⟩, .string ⟨#[65, 61, 48]⟩, .string ⟨#[76, 68, 95, 88, 61, 50]⟩, .string ⟨#[49, 120, 61, 50]⟩, .string ⟨#[65, 61, 49]⟩] 9)) (W0.alloc (.cells #[.string ⟨#[90, 61, 51]⟩, .string ⟨#[65, 61, 48]⟩, .string ⟨#[76, 68, 95, 88, 61, 50]⟩, .string ⟨#[49, 120, 61, 50]⟩, .string ⟨#[65, 61, 49]⟩] 9)).heap.size 1 (some ⟨w.heap.size + 1, 0, none⟩) 5 (svs L0)) := hide (by
    have := lit_rd W0 L0
    rw [hs0] at this
    exact this)
  have HS0 := hide hs0
  clear hW0 hs0
  go_enter Tryz.func5, Tryz.ntmps5
  go_wp2_with fail
  rw [HW0.out]
  with_reducible refine (of_h _ _ _ HL.out).mono ?_
  rintro e w1 ⟨A1, c1, rfl, hr, hb⟩
  replace K := hide (below_more (KA.out _) (Nat.le_refl _) hb)
  have HB : Hid (Blk w1 w.heap.size 38 RL) := hide ((HGA.out _).below hb (HGA.out _).lt)
  have HH := hide hr
  clear hb hr HL KA HGA HG HW0 HS0
  go_wp2_with fail
  with_reducible refine (get1_h _ _ _ HH.out).mono ?_
  rintro e w1 ⟨rfl, hb⟩
  replace K := hide (below_more K.out (Nat.le_refl _) hb)
  replace HB := hide (HB.out.below hb HB.out.lt)
  replace HH := hide (rb HH.out hb)
  clear hb
  go_wp2_with fail
  with_reducible refine (get2_h _ _ _ HH.out).mono ?_
  rintro e w1 ⟨rfl, hb⟩
  replace K := hide (below_more K.out (Nat.le_refl _) hb)
  replace HB := hide (HB.out.below hb HB.out.lt)
  replace HH := hide (rb HH.out hb)
  clear hb
  go_wp2_with fail
  with_reducible refine (set1_h _ _ _ HH.out).mono ?_
  rintro e w1 ⟨A4, c4, rfl, hb⟩
  replace K := hide (below_more K.out (Nat.le_refl _) hb)
  replace HB := hide (HB.out.below hb HB.out.lt)
  replace HH := hide (rb HH.out hb)
  clear hb
  go_wp2_with fail
  with_reducible refine (set2_h _ _ _ HH.out).mono ?_
  rintro e w1 ⟨A5, n5, c5, rfl, hb⟩
  replace K := hide (below_more K.out (Nat.le_refl _) hb)
  replace HB := hide (HB.out.below hb HB.out.lt)
  replace HH := hide (rb HH.out hb)
  clear hb
  have hb := (Below.refl w1.heap.size w1).alloc (Nat.le_refl _) (.cells #[.string ⟨#[65, 61, 49]⟩, .string ⟨#[76, 68, 95, 88, 61, 50]⟩, .string ⟨#[90, 61, 51]⟩] 9)
  replace K := hide (below_more K.out (Nat.le_refl _) hb)
  replace HB := hide (HB.out.below hb HB.out.lt)
  replace HH := hide (rb HH.out hb)
  have XT := hide (texts_eq LH A1 (some ⟨w1.heap.size, 0, none⟩) 3 c1 3 3 (w1.alloc (.cells #[.string ⟨#[65, 61, 49]⟩, .string ⟨#[76, 68, 95, 88, 61, 50]⟩, .string ⟨#[90, 61, 51]⟩] 9)) HH.out (lit_rd w1 LH) (by decide))
  clear hb
  go_wp2_with fail
  with_reducible refine (XT.out).mono ?_
  rintro e w1 ⟨rfl, hb⟩
  replace K := hide (below_more K.out (Nat.le_refl _) hb)
  replace HB := hide (HB.out.below hb HB.out.lt)
  replace HH := hide (rb HH.out hb)
  clear hb
  clear XT
  go_wp2_with fail
  with_reducible refine (uns_h _ _ _ HH.out).mono ?_
  rintro e w1 ⟨A6, n6, c6, rfl, hr, hb⟩
  replace K := hide (below_more K.out (Nat.le_refl _) hb)
  replace HB := hide (HB.out.below hb HB.out.lt)
  replace HH := hide (rb HH.out hb)
  have HU := hide hr
  have hn6 : n6 ≤ 1000000 := by have h5 := hr.1; rw [svs_length] at h5; change 2 = n6 * 1 at h5; omega
  clear hr
  clear hb
  have hb := (Below.refl w1.heap.size w1).alloc (Nat.le_refl _) (.cells #[.string ⟨#[76, 68, 95, 88, 61, 50]⟩, .string ⟨#[90, 61, 51]⟩] 9)
  replace K := hide (below_more K.out (Nat.le_refl _) hb)
  replace HB := hide (HB.out.below hb HB.out.lt)
  replace HH := hide (rb HH.out hb)
  replace HU := hide (rb HU.out hb)
  have XT := hide (texts_eq LU A6 (some ⟨w1.heap.size, 0, none⟩) n6 c6 2 2 (w1.alloc (.cells #[.string ⟨#[76, 68, 95, 88, 61, 50]⟩, .string ⟨#[90, 61, 51]⟩] 9)) HU.out (lit_rd w1 LU) (by omega))
  clear hb
  go_wp2_with fail
  with_reducible refine (XT.out).mono ?_
  rintro e w1 ⟨rfl, hb⟩
  replace K := hide (below_more K.out (Nat.le_refl _) hb)
  replace HB := hide (HB.out.below hb HB.out.lt)
  replace HH := hide (rb HH.out hb)
  replace HU := hide (rb HU.out hb)
  clear hb
  clear XT
  go_wp2_with fail
  with_reducible refine (scrub_h _ _ _ _ _ HH.out HB.out).mono ?_
  rintro e w1 ⟨A7, n7, c7, rfl, hr, hb⟩
  replace K := hide (below_more K.out (Nat.le_refl _) hb)
  replace HB := hide (HB.out.below hb HB.out.lt)
  replace HH := hide (rb HH.out hb)
  have HV := hide hr
  have hn7 : n7 ≤ 1000000 := by have h5 := hr.1; rw [svs_length] at h5; change 2 = n7 * 1 at h5; omega
  clear hr
  clear hb
  have hb := (Below.refl w1.heap.size w1).alloc (Nat.le_refl _) (.cells #[.string ⟨#[65, 61, 49]⟩, .string ⟨#[90, 61, 52]⟩] 9)
  replace K := hide (below_more K.out (Nat.le_refl _) hb)
  replace HB := hide (HB.out.below hb HB.out.lt)
  replace HH := hide (rb HH.out hb)
  replace HV := hide (rb HV.out hb)
  have XT := hide (texts_eq LE A7 (some ⟨w1.heap.size, 0, none⟩) n7 c7 2 2 (w1.alloc (.cells #[.string ⟨#[65, 61, 49]⟩, .string ⟨#[90, 61, 52]⟩] 9)) HV.out (lit_rd w1 LE) (by omega))
  clear hb
  go_wp2_with fail
  with_reducible refine (XT.out).mono ?_
  rintro e w1 ⟨rfl, hb⟩
  replace K := hide (below_more K.out (Nat.le_refl _) hb)
  replace HB := hide (HB.out.below hb HB.out.lt)
  replace HH := hide (rb HH.out hb)
  replace HV := hide (rb HV.out hb)
  clear hb
  clear XT
  go_wp2_with fail
  with_reducible refine (chk1_h _ _ _ HH.out).mono ?_
  rintro e w1 ⟨rfl, hb⟩
  replace K := hide (below_more K.out (Nat.le_refl _) hb)
  replace HB := hide (HB.out.below hb HB.out.lt)
  replace HH := hide (rb HH.out hb)
  clear hb
  have hb := (Below.refl w1.heap.size w1).alloc (Nat.le_refl _) (.cells #[.string ⟨#[66, 61]⟩, .string ⟨#[65, 61]⟩] 9)
  replace K := hide (below_more K.out (Nat.le_refl _) hb)
  replace HB := hide (HB.out.below hb HB.out.lt)
  replace HH := hide (rb HH.out hb)
  have HN := hide (lit_rd w1 LN)
  clear hb
  go_wp2_with fail
  with_reducible refine (chk2_h _ _ _ HN.out).mono ?_
  rintro e w1 ⟨rfl, hb⟩
  replace K := hide (below_more K.out (Nat.le_refl _) hb)
  replace HB := hide (HB.out.below hb HB.out.lt)
  replace HH := hide (rb HH.out hb)
  clear HN
  clear hb
  go_wp2_with fail
  with_reducible refine (nm1_h _).mono ?_
  rintro e w1 ⟨rfl, rfl⟩
  go_wp2_with fail
  with_reducible refine (nm2_h _).mono ?_
  rintro e w1 ⟨rfl, rfl⟩
  have hia := fun W => rule_at w.heap.size 3 2 6 2 rfl rfl (by omega) W
  have e0 := HB.out.cell 6
  have e1 := HB.out.cell 7
  have e2 := HB.out.cell 8
  have hgl := HB.out.lt
  simp only [RL, List.getElem?_toArray, List.getElem?_cons_succ, List.getElem?_cons_zero] at e0 e1 e2
  go_wp2_with fail
  with_reducible refine (right3 _).mono ?_
  rintro e w9 ⟨rfl, hb⟩
  have K2 := hide (below_more K.out (Nat.le_refl _) hb)
  clear hb
  go_wp2_with fail
  go_ret
  exact ⟨rfl, K2.out⟩
end Go.Proofs.YtaibmfahfkoahaaGreat
