/- read: the rest lies in the block that was handed in. -/
import Derived.Test.YtgmpcgcmcheelaaReadW
namespace Go.Proofs.Ytgmpcgcmcheelaa
open Go.RowKit
set_option linter.unusedVariables false

def Sub (A A' : Option Addr) : Prop := ∀ x, A' = some x → ∃ y, A = some y ∧ x.block = y.block
theorem Sub.refl (A : Option Addr) : Sub A A := fun x h => ⟨x, h, rfl⟩
theorem Sub.nil (A : Option Addr) : Sub A none := fun x h => by cases h
theorem Sub.drop {A A' : Option Addr} (h : Sub A A') (k : Nat) {XA : Option Addr} (e : XA = A'.map (·.add k)) : Sub A XA := by
  subst e
  intro x hx
  cases A' with
  | none => cases hx
  | some a =>
    obtain ⟨y, e1, e2⟩ := h a rfl
    injection hx with hx
    subst hx
    exact ⟨y, e1, by rw [block_of_add]; exact e2⟩
theorem if_map (A : Option Addr) (p : Prop) [Decidable p] (k : Nat) : (if p then A else A.map (·.add k)) = A.map (·.add (if p then 0 else k)) := by
  by_cases h : p
  · simp only [if_pos h]; exact (map_zero_ A).symm
  · simp only [if_neg h]
def SubV (A : Option Addr) (vs : List Value) : Prop := ∀ u ∈ vs, ∃ A' n c, u = .slice A' n c ∧ Sub A A'
theorem SubV.nil (A : Option Addr) : SubV A [] := fun u h => by cases h
theorem SubV.snoc {A X : Option Addr} {vs : List Value} {n c : Nat} (h : SubV A vs) (h1 : Sub A X) : SubV A (vs ++ [.slice X n c]) := by
  intro u hu
  rcases List.mem_append.1 hu with h2 | h2
  · exact h u h2
  · obtain rfl := List.mem_singleton.1 h2; exact ⟨X, n, c, rfl, h1⟩
def RowsS (D : Option Addr) (B : Nat) (w : World) (A : Option Addr) (n c : Nat) (bs : List Bs) : Prop := ∃ vs, w.ownsRow B 22 1 (.slice A n c) n vs ∧ RowsV w B vs bs ∧ SubV D vs
def ReadEndB (A0 : Option Addr) (w : World) (d : Bs) (e : Ending) (w' : World) : Prop :=
  ∃ Bo m cb A n c, e = .returned (.tuple #[.slice Bo m cb, .slice A n c, .int .i64 (readD d).2.2]) ∧ RowsS A0 w.heap.size w' Bo m cb (readD d).1 ∧ Reads w' w.heap.size 1 A n (bv (readD d).2.1) ∧ n ≤ c ∧ Below w.heap.size w w' ∧ Sub A0 A
set_option maxRecDepth 100000 in
set_option maxHeartbeats 8000000 in
theorem read_blk (A : Option Addr) (n c : Nat) (d : Bs) (w : World) (hr : Rd w A n d) (hc : n ≤ c) (hn : n ≤ 100000) :
    Calls Try.prog 20 #[.slice A n c] w (ReadEndB A w d) := by
  obtain ⟨i0, hi, hz0, hz1, hz2⟩ := info_parts infoRow
  go_enter Try.func20, Try.ntmps20
  go_wp2
  refine wp_scope_jumps 0 (fun a' w' => ∃ (A' : Option Addr) (n' c' : Nat) (Bo : Option Addr) (m cb : Nat) (bs : List Bs) (d' : Bs) (u1 u6 u7 u8 u9 u10 u11 u12 u13 u14 u15 u16 u17 u18 u19 u20 u21 u22 u23 u24 u25 u26 u27 u28 u29 u30 u31 u32 u33 u34 u35 u36 u37 u38 u39 u40 u41 u42 u43 u44 u45 u46 u47 u48 u49 : Value), a' = { tmps := #[.slice A' n' c', u1, .slice none 0 0, .slice none 0 0, .int .i64 0, .slice Bo m cb, u6, u7, u8, u9, u10, u11, u12, u13, u14, u15, u16, u17, u18, u19, u20, u21, u22, u23, u24, u25, u26, u27, u28, u29, u30, u31, u32, u33, u34, u35, u36, u37, u38, u39, u40, u41, u42, u43, u44, u45, u46, u47, u48, u49], defers := [] } ∧ n' ≤ n ∧ n' ≤ c' ∧ Reads w' w.heap.size 1 A' n' (bv d') ∧ RowsS A w.heap.size w' Bo m cb bs ∧ Below w.heap.size w w' ∧ m ≤ n ∧ m + n' ≤ n ∧ readD d = (bs ++ (readD d').1, (readD d').2) ∧ Sub A A') (fun a' _ => intOfLen a') rfl ?_ ?_
  · go_wp2
    go_step3
    refine gen_frame (J := fun a' w' => ∃ (A' : Option Addr) (n' c' : Nat) (Bo : Option Addr) (m cb : Nat) (bs : List Bs) (d' : Bs) (u1 u6 u7 u8 u9 u10 u11 u12 u13 u14 u15 u16 u17 u18 u19 u20 u21 u22 u23 u24 u25 u26 u27 u28 u29 u30 u31 u32 u33 u34 u35 u36 u37 u38 u39 u40 u41 u42 u43 u44 u45 u46 u47 u48 u49 : Value), a' = { tmps := #[.slice A' n' c', u1, .slice none 0 0, .slice none 0 0, .int .i64 0, .slice Bo m cb, u6, u7, u8, u9, u10, u11, u12, u13, u14, u15, u16, u17, u18, u19, u20, u21, u22, u23, u24, u25, u26, u27, u28, u29, u30, u31, u32, u33, u34, u35, u36, u37, u38, u39, u40, u41, u42, u43, u44, u45, u46, u47, u48, u49], defers := [] } ∧ n' ≤ n ∧ n' ≤ c' ∧ Reads w' w.heap.size 1 A' n' (bv d') ∧ RowsS A w.heap.size w' Bo m cb bs ∧ Below w.heap.size w w' ∧ m ≤ n ∧ m + n' ≤ n ∧ readD d = (bs ++ (readD d').1, (readD d').2) ∧ Sub A A') ⟨A, n, c, none, 0, 0, [], d, _, _, _, _, _, _, _, _, _, _, _, _, _, _, _, _, _, _, _, _, _, _, _, _, _, _, _, _, _, _, _, _, _, _, _, _, _, _, _, _, _, _, _, _, _, rfl, Nat.le_refl _, hc, hr, ⟨[], World.ownsRow_nil _ _ _ _, RowsV.nil _ _, SubV.nil _⟩, Below.refl _ _, Nat.zero_le _, by omega, rfl, Sub.refl _⟩ ?_
    rintro a' w' ⟨A', n', c', Bo, m, cb, bs, d', u1, u6, u7, u8, u9, u10, u11, u12, u13, u14, u15, u16, u17, u18, u19, u20, u21, u22, u23, u24, u25, u26, u27, u28, u29, u30, u31, u32, u33, u34, u35, u36, u37, u38, u39, u40, u41, u42, u43, u44, u45, u46, u47, u48, u49, rfl, hn1, hc1, hr1, hro, hbel, hm, hmn, hJ, hS⟩
    have hl := hide (Rd_len hr1)
    rcases Nat.lt_or_ge n' 1 with q0 | q0
    · obtain rfl : n' = 0 := by omega
      have hz : ((0 : Int) == 0) = true := rfl
      have hd0 : d' = [] := List.eq_nil_of_length_eq_zero (Rd_len hr1)
      have HE : Hid (readD d = (bs, [], 0)) := hide (by rw [hJ, hd0, read_nil]; simp)
      have HR := hide hro
      have HB := hide hbel
      clear hr1 hro hbel hJ hd0 hl
      go_wp2
      simp only [Exit.jump]
      go_ret3
      exact ⟨Bo, m, cb, none, 0, 0, by rw [HE.out]; rfl, by rw [HE.out]; exact HR.out, by rw [HE.out]; exact Reads.none_, Nat.le_refl _, HB.out, Sub.nil _⟩
    rcases Nat.lt_or_ge n' 2 with q1 | q1
    · obtain rfl : n' = 1 := by omega
      have hz : ((1 : Int) == 0) = false := rfl
      have hll := Rd_len hr1
      have HE : Hid (readD d = (bs, d', 3)) := hide (by rw [hJ, read_one (by rintro rfl; simp at hll) (by omega)]; simp)
      have HR := hide hro
      have HB := hide hbel
      have HD := hide hr1
      clear hr1 hro hbel hJ hl hll
      go_wp2
      simp only [Exit.jump]
      go_ret3
      exact ⟨Bo, m, cb, A', 1, c', by rw [HE.out]; rfl, by rw [HE.out]; exact HR.out, by rw [HE.out]; exact HD.out, hc1, HB.out, hS⟩
    have hz : ((n' : Int) == 0) = false := beq_eq_false_iff_ne.2 (by omega)
    have hsl := fun W => run_slice_to (P := Try.prog) 22 5 Try.underlying22 sizeU8 A' n' c' .i64 2 (by omega) (by omega) W
    have htk := hide (hr1.take (q := 2) (by omega))
    have hsm := hbel.size
    have HD := hide hr1
    have HR := hide hro
    have HB := hide hbel
    have HJ := hide hJ
    clear hr1 hro hbel hJ
    go_wp2_with fail
    refine (get_yes A' 2 c' (d'.take 2) _ (by omega) (by omega) (by show Reads _ _ 1 A' 2 (bv (d'.take 2)); rw [bv_take]; exact htk.out.more HB.out.size)).mono ?_
    rintro e w1 ⟨rfl, rfl⟩
    obtain ⟨z, hz2⟩ : ∃ z, numB (d'.take 2) = z := ⟨_, rfl⟩
    have HZ := hide hz2
    have hz3 : z < 65536 := by rw [← hz2]; have := numB_lt (d'.take 2); have h2 : (d'.take 2).length ≤ 2 := List.length_take_le _ _; exact Nat.lt_of_lt_of_le this (Nat.pow_le_pow_right (by omega) h2)
    rw [hz2]
    clear hz2
    by_cases hb1 : z < 1
    · obtain rfl : z = 0 := by omega
      have HE : Hid (readD d = (bs, [], 5)) := hide (by rw [HJ.out, read_bad (by rw [hl.out]; omega) (by unfold bad; rw [HZ.out]; decide)]; simp)
      clear HJ hsl
      go_wp2
      simp only [Exit.jump]
      go_ret3
      exact ⟨Bo, m, cb, none, 0, 0, by rw [HE.out]; rfl, by rw [HE.out]; exact HR.out, by rw [HE.out]; exact Reads.none_, Nat.le_refl _, HB.out, Sub.nil _⟩
    have hb1' : ¬ (z : Int) < 1 := by omega
    by_cases hb2 : 4096 < z
    · have hb2' : (4096 : Int) < (z : Int) := by omega
      have HE : Hid (readD d = (bs, [], 5)) := hide (by rw [HJ.out, read_bad (by rw [hl.out]; omega) (by unfold bad; rw [HZ.out]; exact decide_eq_true (Or.inr hb2))]; simp)
      clear HJ hsl
      go_wp2
      simp only [Exit.jump]
      go_ret3
      exact ⟨Bo, m, cb, none, 0, 0, by rw [HE.out]; rfl, by rw [HE.out]; exact HR.out, by rw [HE.out]; exact Reads.none_, Nat.le_refl _, HB.out, Sub.nil _⟩
    have hb2' : ¬ (4096 : Int) < (z : Int) := by omega
    have HBD : Hid (bad d' = false) := hide (by unfold bad; rw [HZ.out]; exact decide_eq_false (by omega))
    by_cases hs : n' < 2 + z
    · have hs' : (n' : Int) < 2 + (z : Int) := by omega
      have HE : Hid (readD d = (bs, d', 3)) := hide (by rw [HJ.out, read_short (by rw [hl.out]; omega) HBD.out (by rw [hl.out, HZ.out]; exact hs)]; simp)
      clear HJ hsl
      go_wp2
      simp only [Exit.jump]
      go_ret3
      exact ⟨Bo, m, cb, A', n', c', by rw [HE.out]; rfl, by rw [HE.out]; exact HR.out, by rw [HE.out]; exact HD.out, hc1, HB.out, hS⟩
    have hs' : ¬ (n' : Int) < 2 + (z : Int) := by omega
    have hN : Hid (readD d' = ((d'.drop 2).take z :: (readD (d'.drop (2 + z))).1, (readD (d'.drop (2 + z))).2)) := hide (by have h := read_next (d := d') (by rw [hl.out]; omega) HBD.out (by rw [hl.out, HZ.out]; omega); rw [HZ.out] at h; exact h)
    have hs2 : ∀ W, (Instr.slice 22 (.slice A' n' c') (some (.int .i64 2)) (some (.int .i64 (2 + (z : Int)))) (some (.int .i64 (2 + (z : Int))))).run Try.prog W = .ok (.slice (A'.map (·.add 2)) z z) W := fun W => by
      rw [run_slice_lhm W 22 A' n' c' (slice_ht Try.underlying22) .i64 .i64 .i64 2 (2 + (z : Int)) (2 + (z : Int)) (by omega) (by omega) (Int.le_refl _) (by omega), elemU8, run_sizeOf_one 5 sizeU8]
      have e1 : (2 + (z : Int)).toNat = 2 + z := by omega
      have e2 : ¬ 2 + z = 2 := by omega
      simp only [Result.andThen, sliced, e1, show ((2 : Int).toNat) = 2 from rfl, Nat.mul_one, if_neg e2, Nat.add_sub_cancel_left]
    have hs3 : ∀ W, (Instr.slice 22 (.slice A' n' c') (some (.int .i64 (2 + (z : Int)))) none none).run Try.prog W = .ok (.slice (if c' = 2 + z then A' else A'.map (·.add (2 + z))) (n' - (2 + z)) (c' - (2 + z))) W := fun W => by
      have h := run_slice_from (P := Try.prog) 22 5 Try.underlying22 sizeU8 A' n' c' .i64 (2 + (z : Int)) (by omega) (by omega) W
      rw [show (2 + (z : Int)).toNat = 2 + z by omega] at h
      exact h
    have HD2 := hide (Reads.drop_ HD.out hc1 (l := 2 + z) (by omega))
    have HBody := hide (Reads.mid HD.out (l := 2) (z := z) (by omega))
    have hSB := Sub.drop hS 2 (XA := A'.map (·.add 2)) rfl
    generalize A'.map (·.add 2) = XB at hs2 HBody hSB
    obtain ⟨vs, hown, hvs, hsv⟩ := HR.out
    have HV := hide hvs
    have hmm : m ≤ 100000 := by omega
    have hO1 := hown.alloc (.cells #[.slice XB z z] 22)
    have HO0 := hide hown
    have hr1 := one_row w' (.slice XB z z)
    have hSX := Sub.drop hS (if c' = 2 + z then 0 else 2 + z) (XA := if c' = 2 + z then A' else A'.map (·.add (2 + z))) (if_map A' _ (2 + z))
    generalize hXA : (if c' = 2 + z then A' else A'.map (·.add (2 + z))) = XA at hs3 HD2 hSX
    clear hXA hsl hvs hown
    go_wp2_with (at_builtin; (refine wpList_append_any _ rfl (.tmp 40) (.tmp 45) 26 rfl w.heap.size 22 i0 _ 1 24 Try.underlying26 hi hz0 hz1 hz2 rfl (by omega) (.slice Bo m cb) m vs rfl hO1 (w'.heap.size + 1) (some ⟨w'.heap.size, 0, none⟩) 1 1 [.slice XB z z] rfl hr1 (row_one _) ?a1 ?a2 ?a3 ?_))
    case a1 => unfold maxLen; omega
    case a2 => omega
    case a3 => have := HB.out.size; simp; omega
    intro v1 w2 hown1 hg1 hat1
    obtain ⟨Bo2, cb2, rfl⟩ := own_slice hown1
    have HW2 := hide (Below.grown (h := HB.out.alloc HB.out.size (.cells #[.slice XB z z] 22)) (hg := hg1) (by have := HB.out.size; simp; omega) (fun g hg => (World.ownsRow.lt HO0.out g hg).1))
    have HK := hide (fun (p : Addr) (hp : p.block < w.heap.size) => (HW2.out.cell hp).trans (HB.out.cell hp).symm)
    have HO2 := hide hown1
    clear hown1 hg1 hat1 hO1 hr1
    go_wp2
    go_step3
    refine ⟨rfl, ?_⟩
    · refine ⟨XA, n' - (2 + z), c' - (2 + z), Bo2, m + 1, cb2, bs ++ [(d'.drop 2).take z], d'.drop (2 + z), _, _, _, _, _, _, _, _, _, _, _, _, _, _, _, _, _, _, _, _, _, _, _, _, _, _, _, _, _, _, _, _, _, _, _, _, _, _, _, _, _, _, _, _, _, rfl, by omega, by omega, ?_, ⟨_, HO2.out, ?_, SubV.snoc hsv hSB⟩, HW2.out, by omega, by omega, ?_, hSX⟩
      · rw [bv_drop]; exact HD2.out.keep fun p hp => HK.out p hp
      · exact RowsV.snoc (HV.out.keep HK.out) ⟨_, _, _, rfl, by rw [bv_take, bv_drop]; exact HBody.out.keep fun p hp => HK.out p hp⟩
      · rw [HJ.out, hN.out]; simp
  · rintro a' w' ⟨A', n', c', Bo, m, cb, bs, d', u1, u6, u7, u8, u9, u10, u11, u12, u13, u14, u15, u16, u17, u18, u19, u20, u21, u22, u23, u24, u25, u26, u27, u28, u29, u30, u31, u32, u33, u34, u35, u36, u37, u38, u39, u40, u41, u42, u43, u44, u45, u46, u47, u48, u49, rfl, hn1, hc1, hr1, hro, hbel, hm, hmn, hJ, hS⟩
    have hl := hide (Rd_len hr1)
    rcases Nat.lt_or_ge n' 1 with q0 | q0
    · obtain rfl : n' = 0 := by omega
      have hz : ((0 : Int) == 0) = true := rfl
      have hd0 : d' = [] := List.eq_nil_of_length_eq_zero (Rd_len hr1)
      have HE : Hid (readD d = (bs, [], 0)) := hide (by rw [hJ, hd0, read_nil]; simp)
      have HR := hide hro
      have HB := hide hbel
      clear hr1 hro hbel hJ hd0 hl
      go_wp2
      simp only [Exit.jump]
      go_ret3
      exact ⟨Bo, m, cb, none, 0, 0, by rw [HE.out]; rfl, by rw [HE.out]; exact HR.out, by rw [HE.out]; exact Reads.none_, Nat.le_refl _, HB.out, Sub.nil _⟩
    rcases Nat.lt_or_ge n' 2 with q1 | q1
    · obtain rfl : n' = 1 := by omega
      have hz : ((1 : Int) == 0) = false := rfl
      have hll := Rd_len hr1
      have HE : Hid (readD d = (bs, d', 3)) := hide (by rw [hJ, read_one (by rintro rfl; simp at hll) (by omega)]; simp)
      have HR := hide hro
      have HB := hide hbel
      have HD := hide hr1
      clear hr1 hro hbel hJ hl hll
      go_wp2
      simp only [Exit.jump]
      go_ret3
      exact ⟨Bo, m, cb, A', 1, c', by rw [HE.out]; rfl, by rw [HE.out]; exact HR.out, by rw [HE.out]; exact HD.out, hc1, HB.out, hS⟩
    have hz : ((n' : Int) == 0) = false := beq_eq_false_iff_ne.2 (by omega)
    have hsl := fun W => run_slice_to (P := Try.prog) 22 5 Try.underlying22 sizeU8 A' n' c' .i64 2 (by omega) (by omega) W
    have htk := hide (hr1.take (q := 2) (by omega))
    have hsm := hbel.size
    have HD := hide hr1
    have HR := hide hro
    have HB := hide hbel
    have HJ := hide hJ
    clear hr1 hro hbel hJ
    go_wp2_with fail
    refine (get_yes A' 2 c' (d'.take 2) _ (by omega) (by omega) (by show Reads _ _ 1 A' 2 (bv (d'.take 2)); rw [bv_take]; exact htk.out.more HB.out.size)).mono ?_
    rintro e w1 ⟨rfl, rfl⟩
    obtain ⟨z, hz2⟩ : ∃ z, numB (d'.take 2) = z := ⟨_, rfl⟩
    have HZ := hide hz2
    have hz3 : z < 65536 := by rw [← hz2]; have := numB_lt (d'.take 2); have h2 : (d'.take 2).length ≤ 2 := List.length_take_le _ _; exact Nat.lt_of_lt_of_le this (Nat.pow_le_pow_right (by omega) h2)
    rw [hz2]
    clear hz2
    by_cases hb1 : z < 1
    · obtain rfl : z = 0 := by omega
      have HE : Hid (readD d = (bs, [], 5)) := hide (by rw [HJ.out, read_bad (by rw [hl.out]; omega) (by unfold bad; rw [HZ.out]; decide)]; simp)
      clear HJ hsl
      go_wp2
      simp only [Exit.jump]
      go_ret3
      exact ⟨Bo, m, cb, none, 0, 0, by rw [HE.out]; rfl, by rw [HE.out]; exact HR.out, by rw [HE.out]; exact Reads.none_, Nat.le_refl _, HB.out, Sub.nil _⟩
    have hb1' : ¬ (z : Int) < 1 := by omega
    by_cases hb2 : 4096 < z
    · have hb2' : (4096 : Int) < (z : Int) := by omega
      have HE : Hid (readD d = (bs, [], 5)) := hide (by rw [HJ.out, read_bad (by rw [hl.out]; omega) (by unfold bad; rw [HZ.out]; exact decide_eq_true (Or.inr hb2))]; simp)
      clear HJ hsl
      go_wp2
      simp only [Exit.jump]
      go_ret3
      exact ⟨Bo, m, cb, none, 0, 0, by rw [HE.out]; rfl, by rw [HE.out]; exact HR.out, by rw [HE.out]; exact Reads.none_, Nat.le_refl _, HB.out, Sub.nil _⟩
    have hb2' : ¬ (4096 : Int) < (z : Int) := by omega
    have HBD : Hid (bad d' = false) := hide (by unfold bad; rw [HZ.out]; exact decide_eq_false (by omega))
    by_cases hs : n' < 2 + z
    · have hs' : (n' : Int) < 2 + (z : Int) := by omega
      have HE : Hid (readD d = (bs, d', 3)) := hide (by rw [HJ.out, read_short (by rw [hl.out]; omega) HBD.out (by rw [hl.out, HZ.out]; exact hs)]; simp)
      clear HJ hsl
      go_wp2
      simp only [Exit.jump]
      go_ret3
      exact ⟨Bo, m, cb, A', n', c', by rw [HE.out]; rfl, by rw [HE.out]; exact HR.out, by rw [HE.out]; exact HD.out, hc1, HB.out, hS⟩
    have hs' : ¬ (n' : Int) < 2 + (z : Int) := by omega
    have hN : Hid (readD d' = ((d'.drop 2).take z :: (readD (d'.drop (2 + z))).1, (readD (d'.drop (2 + z))).2)) := hide (by have h := read_next (d := d') (by rw [hl.out]; omega) HBD.out (by rw [hl.out, HZ.out]; omega); rw [HZ.out] at h; exact h)
    have hs2 : ∀ W, (Instr.slice 22 (.slice A' n' c') (some (.int .i64 2)) (some (.int .i64 (2 + (z : Int)))) (some (.int .i64 (2 + (z : Int))))).run Try.prog W = .ok (.slice (A'.map (·.add 2)) z z) W := fun W => by
      rw [run_slice_lhm W 22 A' n' c' (slice_ht Try.underlying22) .i64 .i64 .i64 2 (2 + (z : Int)) (2 + (z : Int)) (by omega) (by omega) (Int.le_refl _) (by omega), elemU8, run_sizeOf_one 5 sizeU8]
      have e1 : (2 + (z : Int)).toNat = 2 + z := by omega
      have e2 : ¬ 2 + z = 2 := by omega
      simp only [Result.andThen, sliced, e1, show ((2 : Int).toNat) = 2 from rfl, Nat.mul_one, if_neg e2, Nat.add_sub_cancel_left]
    have hs3 : ∀ W, (Instr.slice 22 (.slice A' n' c') (some (.int .i64 (2 + (z : Int)))) none none).run Try.prog W = .ok (.slice (if c' = 2 + z then A' else A'.map (·.add (2 + z))) (n' - (2 + z)) (c' - (2 + z))) W := fun W => by
      have h := run_slice_from (P := Try.prog) 22 5 Try.underlying22 sizeU8 A' n' c' .i64 (2 + (z : Int)) (by omega) (by omega) W
      rw [show (2 + (z : Int)).toNat = 2 + z by omega] at h
      exact h
    have HD2 := hide (Reads.drop_ HD.out hc1 (l := 2 + z) (by omega))
    have HBody := hide (Reads.mid HD.out (l := 2) (z := z) (by omega))
    have hSB := Sub.drop hS 2 (XA := A'.map (·.add 2)) rfl
    generalize A'.map (·.add 2) = XB at hs2 HBody hSB
    obtain ⟨vs, hown, hvs, hsv⟩ := HR.out
    have HV := hide hvs
    have hmm : m ≤ 100000 := by omega
    have hO1 := hown.alloc (.cells #[.slice XB z z] 22)
    have HO0 := hide hown
    have hr1 := one_row w' (.slice XB z z)
    have hSX := Sub.drop hS (if c' = 2 + z then 0 else 2 + z) (XA := if c' = 2 + z then A' else A'.map (·.add (2 + z))) (if_map A' _ (2 + z))
    generalize hXA : (if c' = 2 + z then A' else A'.map (·.add (2 + z))) = XA at hs3 HD2 hSX
    clear hXA hsl hvs hown
    go_wp2_with (at_builtin; (refine wpList_append_any _ rfl (.tmp 40) (.tmp 45) 26 rfl w.heap.size 22 i0 _ 1 24 Try.underlying26 hi hz0 hz1 hz2 rfl (by omega) (.slice Bo m cb) m vs rfl hO1 (w'.heap.size + 1) (some ⟨w'.heap.size, 0, none⟩) 1 1 [.slice XB z z] rfl hr1 (row_one _) ?b1 ?b2 ?b3 ?_))
    case b1 => unfold maxLen; omega
    case b2 => omega
    case b3 => have := HB.out.size; simp; omega
    intro v1 w2 hown1 hg1 hat1
    obtain ⟨Bo2, cb2, rfl⟩ := own_slice hown1
    have HW2 := hide (Below.grown (h := HB.out.alloc HB.out.size (.cells #[.slice XB z z] 22)) (hg := hg1) (by have := HB.out.size; simp; omega) (fun g hg => (World.ownsRow.lt HO0.out g hg).1))
    have HK := hide (fun (p : Addr) (hp : p.block < w.heap.size) => (HW2.out.cell hp).trans (HB.out.cell hp).symm)
    have HO2 := hide hown1
    clear hown1 hg1 hat1 hO1 hr1
    go_wp2
    go_step3
    refine ⟨rfl, ?_, ?_⟩
    · refine ⟨XA, n' - (2 + z), c' - (2 + z), Bo2, m + 1, cb2, bs ++ [(d'.drop 2).take z], d'.drop (2 + z), _, _, _, _, _, _, _, _, _, _, _, _, _, _, _, _, _, _, _, _, _, _, _, _, _, _, _, _, _, _, _, _, _, _, _, _, _, _, _, _, _, _, _, _, _, rfl, by omega, by omega, ?_, ⟨_, HO2.out, ?_, SubV.snoc hsv hSB⟩, HW2.out, by omega, by omega, ?_, hSX⟩
      · rw [bv_drop]; exact HD2.out.keep fun p hp => HK.out p hp
      · exact RowsV.snoc (HV.out.keep HK.out) ⟨_, _, _, rfl, by rw [bv_take, bv_drop]; exact HBody.out.keep fun p hp => HK.out p hp⟩
      · rw [HJ.out, hN.out]; simp
    · show n' - (2 + z) < n'
      omega

end Go.Proofs.Ytgmpcgcmcheelaa
