/- The contracts of env.Right and env.Scrub at the heads' rules. -/
import Derived.Test.YtaibmfahfkoahaaGreatEnvX
namespace Go.Proofs.YtaibmfahfkoahaaGreat
open Go.RowKit
set_option linter.unusedVariables false
structure Rl where
  kind : Nat
  pat : LB
  val : LB
def Rl.v (r : Rl) : Value := .agg #[.int .i64 (r.kind : Int), .string ⟨r.pat.toArray⟩, .string ⟨r.val.toArray⟩]
def r1 : Rl := ⟨1, [42], []⟩
def r2 : Rl := ⟨2, [76, 68, 95, 42], []⟩
def r3 : Rl := ⟨3, [90], [52]⟩
theorem right1 (w : World) : Calls Tryz.prog 20 #[.agg #[.int .i64 1, .string ⟨#[42]⟩, .string ⟨#[]⟩]] w fun e w' => e = .returned (.bool true) ∧ Below w.heap.size w w' := by
  have HB := hide ((Below.refl w.heap.size w).alloc (Nat.le_refl _) (.cells #[.int .i64 1, .string ⟨#[42]⟩, .string ⟨#[]⟩] 38))
  go_enter Tryz.func20, Tryz.ntmps20
  go_wp2_with fail
  go_ret
  exact ⟨rfl, HB.out⟩
theorem right2 (w : World) : Calls Tryz.prog 20 #[.agg #[.int .i64 2, .string ⟨#[76, 68, 95, 42]⟩, .string ⟨#[]⟩]] w fun e w' => e = .returned (.bool true) ∧ Below w.heap.size w w' := by
  have HB := hide ((Below.refl w.heap.size w).alloc (Nat.le_refl _) (.cells #[.int .i64 2, .string ⟨#[76, 68, 95, 42]⟩, .string ⟨#[]⟩] 38))
  go_enter Tryz.func20, Tryz.ntmps20
  go_wp2_with fail
  go_ret
  exact ⟨rfl, HB.out⟩
theorem fz4 : formsP [90] [52] = true := by kernel_rfl
theorem right3 (w : World) : Calls Tryz.prog 20 #[.agg #[.int .i64 3, .string ⟨#[90]⟩, .string ⟨#[52]⟩]] w fun e w' => e = .returned (.bool true) ∧ Below w.heap.size w w' := by
  have HB := hide ((Below.refl w.heap.size w).alloc (Nat.le_refl _) (.cells #[.int .i64 3, .string ⟨#[90]⟩, .string ⟨#[52]⟩] 38))
  have X := hide (fun W => forms_any [90] [52] (by decide) (by decide) W)
  rw [fz4] at X
  go_enter Tryz.func20, Tryz.ntmps20
  go_wp2_with fail
  refine (X.out _).mono ?_
  rintro e w1 ⟨rfl, hb⟩
  have HB1 := hide (below_more HB.out (Nat.le_refl _) hb)
  clear hb
  go_wp2_with fail
  go_ret
  exact ⟨rfl, HB1.out⟩
/-- The boxes of a closure: a kind and a name. -/
def BoxK (qk qn : Nat) (k : Int) (nm : LB) (W : World) : Prop := qk < W.heap.size ∧ qn < W.heap.size ∧ W.cell? ⟨qk, 0, none⟩ = some (.int .i64 k) ∧ W.cell? ⟨qn, 0, none⟩ = some (.string ⟨nm.toArray⟩)
theorem BoxK.keep {qk qn : Nat} {k : Int} {nm : LB} {w W : World} (h : BoxK qk qn k nm w) (hb : Below w.heap.size w W) : BoxK qk qn k nm W := ⟨Nat.lt_of_lt_of_le h.1 hb.size, Nat.lt_of_lt_of_le h.2.1 hb.size, (hb.cell (p := ⟨qk, 0, none⟩) h.1).trans h.2.2.1, (hb.cell (p := ⟨qn, 0, none⟩) h.2.1).trans h.2.2.2⟩
def m1 (nm : LB) : Bool := MatchP [42] nm
def m2 (nm : LB) : Bool := MatchP [76, 68, 95, 42] nm
set_option maxHeartbeats 2000000 in
theorem inner11 (qk qn : Nat) (nm : LB) (w : World) (hB : BoxK qk qn 1 nm w) : Calls Tryz.prog 41 #[.agg #[.int .i64 1, .string ⟨#[42]⟩, .string ⟨#[]⟩], .pointer (some ⟨qk, 0, none⟩), .pointer (some ⟨qn, 0, none⟩)] w fun e w' => e = .returned (.bool (m1 nm)) ∧ Below w.heap.size w w' := by
  obtain ⟨hk, hn, ck, cn⟩ := hB
  have HB := hide ((Below.refl w.heap.size w).alloc (Nat.le_refl _) (.cells #[.int .i64 1, .string ⟨#[42]⟩, .string ⟨#[]⟩] 38))
  have XM : Hid (∀ W, Calls Tryz.prog 42 #[.string ⟨#[42]⟩, .string ⟨nm.toArray⟩] W fun e w' => e = .returned (.bool (m1 nm)) ∧ Below W.heap.size W w') := hide (fun W => Match_any [42] nm W)
  generalize m1 nm = mm at *
  go_enter Tryz.func41, Tryz.ntmps41
  go_wp2_with fail
  refine (right1 _).mono ?_
  rintro e w1 ⟨rfl, hb⟩
  have HB1 := hide (below_more HB.out (Nat.le_refl _) hb)
  have b1 := (Blk.new w 38 #[.int .i64 1, .string ⟨#[42]⟩, .string ⟨#[]⟩]).below hb (by simp)
  have d1 := b1.cell 1
  have d2 := (HB1.out.cell (p := ⟨qn, 0, none⟩) hn).trans cn
  simp only [List.getElem?_toArray, List.getElem?_cons_succ, List.getElem?_cons_zero] at d1
  clear hb b1 ck cn
  go_wp2_with fail
  refine (XM.out _).mono ?_
  rintro e w2 ⟨rfl, hb⟩
  have HB2 := hide (below_more HB1.out (Nat.le_refl _) hb)
  clear hb
  go_wp2_with fail
  go_ret
  exact ⟨rfl, HB2.out⟩
set_option maxHeartbeats 2000000 in
theorem inner12 (qk qn : Nat) (nm : LB) (w : World) (hB : BoxK qk qn 1 nm w) : Calls Tryz.prog 41 #[.agg #[.int .i64 2, .string ⟨#[76, 68, 95, 42]⟩, .string ⟨#[]⟩], .pointer (some ⟨qk, 0, none⟩), .pointer (some ⟨qn, 0, none⟩)] w fun e w' => e = .returned (.bool (false)) ∧ Below w.heap.size w w' := by
  obtain ⟨hk, hn, ck, cn⟩ := hB
  have HB := hide ((Below.refl w.heap.size w).alloc (Nat.le_refl _) (.cells #[.int .i64 2, .string ⟨#[76, 68, 95, 42]⟩, .string ⟨#[]⟩] 38))
  go_enter Tryz.func41, Tryz.ntmps41
  go_wp2_with fail
  go_ret
  exact ⟨rfl, HB.out⟩
set_option maxHeartbeats 2000000 in
theorem inner13 (qk qn : Nat) (nm : LB) (w : World) (hB : BoxK qk qn 1 nm w) : Calls Tryz.prog 41 #[.agg #[.int .i64 3, .string ⟨#[90]⟩, .string ⟨#[52]⟩], .pointer (some ⟨qk, 0, none⟩), .pointer (some ⟨qn, 0, none⟩)] w fun e w' => e = .returned (.bool (false)) ∧ Below w.heap.size w w' := by
  obtain ⟨hk, hn, ck, cn⟩ := hB
  have HB := hide ((Below.refl w.heap.size w).alloc (Nat.le_refl _) (.cells #[.int .i64 3, .string ⟨#[90]⟩, .string ⟨#[52]⟩] 38))
  go_enter Tryz.func41, Tryz.ntmps41
  go_wp2_with fail
  go_ret
  exact ⟨rfl, HB.out⟩
set_option maxHeartbeats 2000000 in
theorem inner21 (qk qn : Nat) (nm : LB) (w : World) (hB : BoxK qk qn 2 nm w) : Calls Tryz.prog 41 #[.agg #[.int .i64 1, .string ⟨#[42]⟩, .string ⟨#[]⟩], .pointer (some ⟨qk, 0, none⟩), .pointer (some ⟨qn, 0, none⟩)] w fun e w' => e = .returned (.bool (false)) ∧ Below w.heap.size w w' := by
  obtain ⟨hk, hn, ck, cn⟩ := hB
  have HB := hide ((Below.refl w.heap.size w).alloc (Nat.le_refl _) (.cells #[.int .i64 1, .string ⟨#[42]⟩, .string ⟨#[]⟩] 38))
  go_enter Tryz.func41, Tryz.ntmps41
  go_wp2_with fail
  go_ret
  exact ⟨rfl, HB.out⟩
set_option maxHeartbeats 2000000 in
theorem inner22 (qk qn : Nat) (nm : LB) (w : World) (hB : BoxK qk qn 2 nm w) : Calls Tryz.prog 41 #[.agg #[.int .i64 2, .string ⟨#[76, 68, 95, 42]⟩, .string ⟨#[]⟩], .pointer (some ⟨qk, 0, none⟩), .pointer (some ⟨qn, 0, none⟩)] w fun e w' => e = .returned (.bool (m2 nm)) ∧ Below w.heap.size w w' := by
  obtain ⟨hk, hn, ck, cn⟩ := hB
  have HB := hide ((Below.refl w.heap.size w).alloc (Nat.le_refl _) (.cells #[.int .i64 2, .string ⟨#[76, 68, 95, 42]⟩, .string ⟨#[]⟩] 38))
  have XM : Hid (∀ W, Calls Tryz.prog 42 #[.string ⟨#[76, 68, 95, 42]⟩, .string ⟨nm.toArray⟩] W fun e w' => e = .returned (.bool (m2 nm)) ∧ Below W.heap.size W w') := hide (fun W => Match_any [76, 68, 95, 42] nm W)
  generalize m2 nm = mm at *
  go_enter Tryz.func41, Tryz.ntmps41
  go_wp2_with fail
  refine (right2 _).mono ?_
  rintro e w1 ⟨rfl, hb⟩
  have HB1 := hide (below_more HB.out (Nat.le_refl _) hb)
  have b1 := (Blk.new w 38 #[.int .i64 2, .string ⟨#[76, 68, 95, 42]⟩, .string ⟨#[]⟩]).below hb (by simp)
  have d1 := b1.cell 1
  have d2 := (HB1.out.cell (p := ⟨qn, 0, none⟩) hn).trans cn
  simp only [List.getElem?_toArray, List.getElem?_cons_succ, List.getElem?_cons_zero] at d1
  clear hb b1 ck cn
  go_wp2_with fail
  refine (XM.out _).mono ?_
  rintro e w2 ⟨rfl, hb⟩
  have HB2 := hide (below_more HB1.out (Nat.le_refl _) hb)
  clear hb
  go_wp2_with fail
  go_ret
  exact ⟨rfl, HB2.out⟩
set_option maxHeartbeats 2000000 in
theorem inner23 (qk qn : Nat) (nm : LB) (w : World) (hB : BoxK qk qn 2 nm w) : Calls Tryz.prog 41 #[.agg #[.int .i64 3, .string ⟨#[90]⟩, .string ⟨#[52]⟩], .pointer (some ⟨qk, 0, none⟩), .pointer (some ⟨qn, 0, none⟩)] w fun e w' => e = .returned (.bool (false)) ∧ Below w.heap.size w w' := by
  obtain ⟨hk, hn, ck, cn⟩ := hB
  have HB := hide ((Below.refl w.heap.size w).alloc (Nat.le_refl _) (.cells #[.int .i64 3, .string ⟨#[90]⟩, .string ⟨#[52]⟩] 38))
  go_enter Tryz.func41, Tryz.ntmps41
  go_wp2_with fail
  go_ret
  exact ⟨rfl, HB.out⟩
def RL : Array Value := #[.int .i64 1, .string ⟨#[42]⟩, .string ⟨#[]⟩, .int .i64 2, .string ⟨#[76, 68, 95, 42]⟩, .string ⟨#[]⟩, .int .i64 3, .string ⟨#[90]⟩, .string ⟨#[52]⟩]
theorem sizeRule : (Tryz.prog.info? 38).map (·.size) = some 3 := by kernel_rfl
theorem rule_at (g1 k q z : Nat) (i : Int) (hi : i = (q : Int)) (hz : z = q * 3) (hq : q < 3) (W : World) : (Instr.indexAt 39 (.slice (some ⟨g1, 0, none⟩) 3 k) (.int .i64 i)).run Tryz.prog W = .ok (.pointer (some ⟨g1, z, none⟩)) W := by
  subst hi hz
  have hE : Tryz.prog.elem 39 = 38 := by simp [Program.elem, Tryz.underlying39]
  rw [run_indexAt_slice W 39 ⟨g1, 0, none⟩ 3 k .i64 (q : Int) (slice_ht Tryz.underlying39), if_pos ⟨by omega, by omega⟩]
  rw [hE, run_sizeOf_n sizeRule W]
  simp only [Result.andThen, Int.toNat_natCast, at_add, Nat.zero_add]
def idxH (h1 h2 h3 : Bool) : Int := if h1 = true then 0 else if h2 = true then 1 else if h3 = true then 2 else -1
set_option maxRecDepth 100000 in
set_option maxHeartbeats 4000000 in
theorem idx_any (qk qn gR c : Nat) (nm : LB) (kk : Int) (h1 h2 h3 : Bool) (w : World) (hR : Blk w gR 38 RL) (hB : BoxK qk qn kk nm w)
    (X1 : ∀ W, BoxK qk qn kk nm W → Calls Tryz.prog 41 #[.agg #[.int .i64 1, .string ⟨#[42]⟩, .string ⟨#[]⟩], .pointer (some ⟨qk, 0, none⟩), .pointer (some ⟨qn, 0, none⟩)] W fun e w' => e = .returned (.bool h1) ∧ Below W.heap.size W w')
    (X2 : ∀ W, BoxK qk qn kk nm W → Calls Tryz.prog 41 #[.agg #[.int .i64 2, .string ⟨#[76, 68, 95, 42]⟩, .string ⟨#[]⟩], .pointer (some ⟨qk, 0, none⟩), .pointer (some ⟨qn, 0, none⟩)] W fun e w' => e = .returned (.bool h2) ∧ Below W.heap.size W w')
    (X3 : ∀ W, BoxK qk qn kk nm W → Calls Tryz.prog 41 #[.agg #[.int .i64 3, .string ⟨#[90]⟩, .string ⟨#[52]⟩], .pointer (some ⟨qk, 0, none⟩), .pointer (some ⟨qn, 0, none⟩)] W fun e w' => e = .returned (.bool h3) ∧ Below W.heap.size W w') :
    Calls Tryz.prog 55 #[.slice (some ⟨gR, 0, none⟩) 3 c, .func (.func 41) #[] #[.pointer (some ⟨qk, 0, none⟩), .pointer (some ⟨qn, 0, none⟩)]] w fun e w' => e = .returned (.int .i64 (idxH h1 h2 h3)) ∧ Below w.heap.size w w' := by
  have Y1 := hide X1
  have Y2 := hide X2
  have Y3 := hide X3
  obtain ⟨R, hE⟩ : ∃ R, idxH h1 h2 h3 = R := ⟨_, rfl⟩
  rw [hE]
  have HE := hide hE
  have HR := hide hR
  have HBX := hide hB
  clear X1 X2 X3 hE hR hB
  go_enter Tryz.func55, Tryz.ntmps55
  go_wp2_with fail
  go_loopw [5, 8] (fun _ u8 wx => ∃ (k : Nat), k ≤ 3 ∧ u8 = .int .i64 (k : Int) ∧ Hid (0 < k → h1 = false) ∧ Hid (1 < k → h2 = false) ∧ Hid (2 < k → h3 = false) ∧ Hid (Below w.heap.size w wx)) (fun _ u8 _ => 3 - (intOf u8).toNat)
  case atStart => exact ⟨0, by omega, rfl, hide (fun h => by omega), hide (fun h => by omega), hide (fun h => by omega), hide (Below.refl _ _)⟩
  case round =>
    obtain ⟨k, hk, rfl, G1, G2, G3, HB⟩ := hrel
    have HR2 := hide (HR.out.below HB.out HR.out.lt)
    have HBX2 := hide (HBX.out.keep HB.out)
    have hgl := HR2.out.lt
    rcases (by omega : k = 0 ∨ k = 1 ∨ k = 2 ∨ k = 3) with rfl | rfl | rfl | rfl
    · have hia := fun W => rule_at gR c 0 0 0 rfl rfl (by omega) W
      have c0 := HR2.out.cell 0
      have c1 := HR2.out.cell 1
      have c2 := HR2.out.cell 2
      simp only [RL, List.getElem?_toArray, List.getElem?_cons_succ, List.getElem?_cons_zero] at c0 c1 c2
      have X := hide (Y1.out _ HBX2.out)
      cases h1 with
      | true =>
        have hRv : Hid (R = 0) := hide (by rw [← HE.out]; unfold idxH; simp)
        obtain rfl := hRv.out
        clear hRv HE
        go_wp2_with fail
        refine X.out.mono ?_
        rintro e w1 ⟨rfl, hb⟩
        have HB1 := hide (below_more HB.out (Nat.le_refl _) hb)
        clear hb
        go_wp2_with fail
        go_ret
        exact ⟨rfl, HB1.out⟩
      | false =>
        go_wp2_with fail
        refine X.out.mono ?_
        rintro e w1 ⟨rfl, hb⟩
        have HB1 := hide (below_more HB.out (Nat.le_refl _) hb)
        clear hb
        go_wp2_with fail
        go_roundw
        case rel => exact ⟨1, by omega, by go_num, hide (fun _ => by first | rfl | trivial), hide (fun h => by omega), hide (fun h => by omega), HB1⟩
        case measure => simp [intOf]
    · have hia := fun W => rule_at gR c 1 3 1 rfl rfl (by omega) W
      have c0 := HR2.out.cell 3
      have c1 := HR2.out.cell 4
      have c2 := HR2.out.cell 5
      simp only [RL, List.getElem?_toArray, List.getElem?_cons_succ, List.getElem?_cons_zero] at c0 c1 c2
      have X := hide (Y2.out _ HBX2.out)
      cases h2 with
      | true =>
        have hRv : Hid (R = 1) := hide (by rw [← HE.out]; unfold idxH; simp [G1.out (by omega)])
        obtain rfl := hRv.out
        clear hRv HE
        go_wp2_with fail
        refine X.out.mono ?_
        rintro e w1 ⟨rfl, hb⟩
        have HB1 := hide (below_more HB.out (Nat.le_refl _) hb)
        clear hb
        go_wp2_with fail
        go_ret
        exact ⟨rfl, HB1.out⟩
      | false =>
        go_wp2_with fail
        refine X.out.mono ?_
        rintro e w1 ⟨rfl, hb⟩
        have HB1 := hide (below_more HB.out (Nat.le_refl _) hb)
        clear hb
        go_wp2_with fail
        go_roundw
        case rel => exact ⟨2, by omega, by go_num, hide (fun _ => G1.out (by omega)), hide (fun _ => by first | rfl | trivial), hide (fun h => by omega), HB1⟩
        case measure => simp [intOf]
    · have hia := fun W => rule_at gR c 2 6 2 rfl rfl (by omega) W
      have c0 := HR2.out.cell 6
      have c1 := HR2.out.cell 7
      have c2 := HR2.out.cell 8
      simp only [RL, List.getElem?_toArray, List.getElem?_cons_succ, List.getElem?_cons_zero] at c0 c1 c2
      have X := hide (Y3.out _ HBX2.out)
      cases h3 with
      | true =>
        have hRv : Hid (R = 2) := hide (by rw [← HE.out]; unfold idxH; simp [G1.out (by omega), G2.out (by omega)])
        obtain rfl := hRv.out
        clear hRv HE
        go_wp2_with fail
        refine X.out.mono ?_
        rintro e w1 ⟨rfl, hb⟩
        have HB1 := hide (below_more HB.out (Nat.le_refl _) hb)
        clear hb
        go_wp2_with fail
        go_ret
        exact ⟨rfl, HB1.out⟩
      | false =>
        go_wp2_with fail
        refine X.out.mono ?_
        rintro e w1 ⟨rfl, hb⟩
        have HB1 := hide (below_more HB.out (Nat.le_refl _) hb)
        clear hb
        go_wp2_with fail
        go_roundw
        case rel => exact ⟨3, by omega, by go_num, hide (fun _ => G1.out (by omega)), hide (fun _ => G2.out (by omega)), hide (fun _ => by first | rfl | trivial), HB1⟩
        case measure => simp [intOf]
    · have hRv : Hid (R = -1) := hide (by rw [← HE.out]; unfold idxH; simp [G1.out (by omega), G2.out (by omega), G3.out (by omega)])
      obtain rfl := hRv.out
      clear hRv HE
      go_wp2_with fail
      go_ret
      exact ⟨rfl, HB.out⟩
theorem idx_ge (h1 h2 h3 : Bool) : decide (0 ≤ idxH h1 h2 h3) = (h1 || h2 || h3) := by cases h1 <;> cases h2 <;> cases h3 <;> rfl
theorem con_any (qk qn gR c : Nat) (h1 h2 h3 : Bool) (w : World)
    (X : Calls Tryz.prog 55 #[.slice (some ⟨gR, 0, none⟩) 3 c, .func (.func 41) #[] #[.pointer (some ⟨qk, 0, none⟩), .pointer (some ⟨qn, 0, none⟩)]] w fun e w' => e = .returned (.int .i64 (idxH h1 h2 h3)) ∧ Below w.heap.size w w') :
    Calls Tryz.prog 40 #[.slice (some ⟨gR, 0, none⟩) 3 c, .func (.func 41) #[] #[.pointer (some ⟨qk, 0, none⟩), .pointer (some ⟨qn, 0, none⟩)]] w fun e w' => e = .returned (.bool (h1 || h2 || h3)) ∧ Below w.heap.size w w' := by
  rw [← idx_ge]
  generalize idxH h1 h2 h3 = R at *
  have Y := hide X
  clear X
  go_enter Tryz.func40, Tryz.ntmps40
  go_wp2_with fail
  refine Y.out.mono ?_
  rintro e w1 ⟨rfl, hb⟩
  have HB1 := hide hb
  clear hb
  go_wp2_with fail
  go_ret
  exact ⟨rfl, HB1.out⟩
/-- The box of the rules. -/
def BoxR (q gR c : Nat) (W : World) : Prop := q < W.heap.size ∧ W.cell? ⟨q, 0, none⟩ = some (.slice (some ⟨gR, 0, none⟩) 3 c) ∧ Blk W gR 38 RL
theorem BoxR.keep {q gR c : Nat} {w W : World} (h : BoxR q gR c w) (hb : Below w.heap.size w W) : BoxR q gR c W := ⟨Nat.lt_of_lt_of_le h.1 hb.size, (hb.cell (p := ⟨q, 0, none⟩) h.1).trans h.2.1, h.2.2.below hb h.2.2.lt⟩
set_option maxHeartbeats 2000000 in
theorem matches1 (q gR c : Nat) (nm : LB) (w : World) (hB : BoxR q gR c w) : Calls Tryz.prog 39 #[.int .i64 1, .string ⟨nm.toArray⟩, .pointer (some ⟨q, 0, none⟩)] w fun e w' => e = .returned (.bool (m1 nm)) ∧ Below w.heap.size w w' := by
  have HB := hide (((Below.refl w.heap.size w).alloc (Nat.le_refl _) (.cells #[.int .i64 1] 3)).alloc (by simp) (.cells #[.string ⟨nm.toArray⟩] 9))
  have HX := hide (hB.keep HB.out)
  obtain ⟨hq, cq, _⟩ := hB
  have HK : Hid (BoxK w.heap.size (w.heap.size + 1) 1 nm ((w.alloc (.cells #[.int .i64 1] 3)).alloc (.cells #[.string ⟨nm.toArray⟩] 9))) := hide (by
    have b1 := (Blk.new w 3 #[.int .i64 1]).alloc (.cells #[.string ⟨nm.toArray⟩] 9)
    have b2 := Blk.new (w.alloc (.cells #[.int .i64 1] 3)) 9 #[.string ⟨nm.toArray⟩]
    rw [show (w.alloc (.cells #[.int .i64 1] 3)).heap.size = w.heap.size + 1 by simp] at b2
    exact ⟨b1.lt, b2.lt, b1.cell 0, b2.cell 0⟩)
  have X := hide (con_any w.heap.size (w.heap.size + 1) gR c (m1 nm) false false _ (idx_any w.heap.size (w.heap.size + 1) gR c nm 1 (m1 nm) false false _ HX.out.2.2 HK.out (fun W h => inner11 _ _ nm W h) (fun W h => inner12 _ _ nm W h) (fun W h => inner13 _ _ nm W h)))
  rw [show (m1 nm || false || false) = m1 nm by simp] at X
  generalize m1 nm = R at *
  go_enter Tryz.func39, Tryz.ntmps39
  go_wp2_with fail
  refine X.out.mono ?_
  rintro e w1 ⟨rfl, hb⟩
  have HB1 := hide (below_more HB.out (Nat.le_refl _) hb)
  clear hb
  go_wp2_with fail
  go_ret
  exact ⟨rfl, HB1.out⟩
set_option maxHeartbeats 2000000 in
theorem matches2 (q gR c : Nat) (nm : LB) (w : World) (hB : BoxR q gR c w) : Calls Tryz.prog 39 #[.int .i64 2, .string ⟨nm.toArray⟩, .pointer (some ⟨q, 0, none⟩)] w fun e w' => e = .returned (.bool (m2 nm)) ∧ Below w.heap.size w w' := by
  have HB := hide (((Below.refl w.heap.size w).alloc (Nat.le_refl _) (.cells #[.int .i64 2] 3)).alloc (by simp) (.cells #[.string ⟨nm.toArray⟩] 9))
  have HX := hide (hB.keep HB.out)
  obtain ⟨hq, cq, _⟩ := hB
  have HK : Hid (BoxK w.heap.size (w.heap.size + 1) 2 nm ((w.alloc (.cells #[.int .i64 2] 3)).alloc (.cells #[.string ⟨nm.toArray⟩] 9))) := hide (by
    have b1 := (Blk.new w 3 #[.int .i64 2]).alloc (.cells #[.string ⟨nm.toArray⟩] 9)
    have b2 := Blk.new (w.alloc (.cells #[.int .i64 2] 3)) 9 #[.string ⟨nm.toArray⟩]
    rw [show (w.alloc (.cells #[.int .i64 2] 3)).heap.size = w.heap.size + 1 by simp] at b2
    exact ⟨b1.lt, b2.lt, b1.cell 0, b2.cell 0⟩)
  have X := hide (con_any w.heap.size (w.heap.size + 1) gR c false (m2 nm) false _ (idx_any w.heap.size (w.heap.size + 1) gR c nm 2 false (m2 nm) false _ HX.out.2.2 HK.out (fun W h => inner21 _ _ nm W h) (fun W h => inner22 _ _ nm W h) (fun W h => inner23 _ _ nm W h)))
  rw [show (false || m2 nm || false) = m2 nm by simp] at X
  generalize m2 nm = R at *
  go_enter Tryz.func39, Tryz.ntmps39
  go_wp2_with fail
  refine X.out.mono ?_
  rintro e w1 ⟨rfl, hb⟩
  have HB1 := hide (below_more HB.out (Nat.le_refl _) hb)
  clear hb
  go_wp2_with fail
  go_ret
  exact ⟨rfl, HB1.out⟩
/-- The box of the rules and the box of the closure over it. -/
def BoxM (q3 q7 gR cR : Nat) (W : World) : Prop := q7 < W.heap.size ∧ W.cell? ⟨q7, 0, none⟩ = some (.func (.func 39) #[] #[.pointer (some ⟨q3, 0, none⟩)]) ∧ BoxR q3 gR cR W
theorem invm_keep {q3 q7 gR cR : Nat} {w W : World} (h : BoxM q3 q7 gR cR w) (hb : Below w.heap.size w W) : BoxM q3 q7 gR cR W := ⟨Nat.lt_of_lt_of_le h.1 hb.size, (hb.cell (p := ⟨q7, 0, none⟩) h.1).trans h.2.1, h.2.2.keep hb⟩
def kmm (p : St) : Bool := m1 p.1 && !m2 p.1
set_option maxHeartbeats 2000000 in
theorem scrub2 (p : St) (q3 q7 gR cR : Nat) (w : World) (hB : BoxM q3 q7 gR cR w) : Calls Tryz.prog 44 #[St.v p, .pointer (some ⟨q7, 0, none⟩)] w fun e w' => e = .returned (.bool (kmm p)) ∧ Below w.heap.size w w' := by
  obtain ⟨a, b⟩ := p
  unfold St.v kmm
  dsimp only
  have HB := hide ((Below.refl w.heap.size w).alloc (Nat.le_refl _) (.cells #[.string ⟨a.toArray⟩, .string ⟨b.toArray⟩] 46))
  have HX := hide (invm_keep hB HB.out)
  obtain ⟨hq, cq, _⟩ := hB
  have Y1 := hide (matches1 q3 gR cR a _ HX.out.2.2)
  have Y2 := hide (fun W h => matches2 q3 gR cR a W h)
  generalize m1 a = b1 at *
  generalize m2 a = b2 at *
  cases b1 with
  | false =>
    go_enter Tryz.func44, Tryz.ntmps44
    go_wp2_with fail
    refine Y1.out.mono ?_
    rintro e w1 ⟨rfl, hb⟩
    have HB1 := hide (below_more HB.out (Nat.le_refl _) hb)
    clear hb
    go_wp2_with fail
    go_ret
    exact ⟨rfl, HB1.out⟩
  | true =>
    go_enter Tryz.func44, Tryz.ntmps44
    go_wp2_with fail
    refine Y1.out.mono ?_
    rintro e w1 ⟨rfl, hb⟩
    have HB1 := hide (below_more HB.out (Nat.le_refl _) hb)
    have HX1 := hide (invm_keep HX.out hb)
    have d0 := HX1.out.2.1
    have d1 := ((Blk.new w 46 #[.string ⟨a.toArray⟩, .string ⟨b.toArray⟩]).below hb (by simp)).cell 0
    simp only [List.getElem?_toArray, List.getElem?_cons_zero] at d1
    clear hb cq
    go_wp2_with fail
    refine (Y2.out _ HX1.out.2.2).mono ?_
    rintro e w2 ⟨rfl, hb⟩
    have HB2 := hide (below_more HB1.out (Nat.le_refl _) hb)
    clear hb
    go_wp2_with fail
    go_ret
    exact ⟨rfl, HB2.out⟩
set_option maxRecDepth 100000 in
set_option maxHeartbeats 8000000 in
theorem selm_any (S : List St) (q3 q7 gR cR : Nat) (A : Option Addr) (n c : Nat) (w : World) (hR : RdS w A n S) (hn : n ≤ 100000) (hI : (BoxM q3 q7 gR cR) w) (hIk : ∀ W W', (BoxM q3 q7 gR cR) W → Below W.heap.size W W' → (BoxM q3 q7 gR cR) W') (hcall : ∀ p W, (BoxM q3 q7 gR cR) W → Calls Tryz.prog 44 #[St.v p, .pointer (some ⟨q7, 0, none⟩)] W fun e w' => e = .returned (.bool (kmm p)) ∧ Below W.heap.size W w') :
    Calls Tryz.prog 43 #[.slice A n c, .func (.func 44) #[] #[.pointer (some ⟨q7, 0, none⟩)]] w fun e w' => ∃ A' n' c', e = .returned (.slice A' n' c') ∧ OwS w.heap.size w' A' n' c' (selP kmm S) ∧ Below w.heap.size w w' := by
  obtain ⟨i0, hi0, hz0, hz1, hz2⟩ := info_parts infoSet
  have HN := hide hR.len
  have HR := hide hR
  have HI := hide hI
  have HIK := hide hIk
  have HCL := hide hcall
  clear hR hI hIk hcall
  go_enter Tryz.func43, Tryz.ntmps43
  go_wp2_with fail
  go_loopw [5, 7, 10] (fun u5 _ u10 wx => ∃ (k m : Nat) (A' : Option Addr) (c' : Nat), k ≤ n ∧ m ≤ k ∧ u10 = .int .i64 (k : Int) ∧ u5 = .slice A' m c' ∧ Hid (OwS w.heap.size wx A' m c' (selP kmm (S.take k))) ∧ Hid (Below w.heap.size w wx) ∧ Hid ((BoxM q3 q7 gR cR) wx)) (fun _ _ u10 _ => n - (intOf u10).toNat)
  case atStart => exact ⟨0, 0, none, 0, Nat.zero_le _, Nat.zero_le _, rfl, rfl, hide (OwS.none_ _ _), hide (Below.refl _ _), HI⟩
  case round =>
    obtain ⟨k, m, A', c', hk, hmk, rfl, rfl, HO, HB, HIx⟩ := hrel
    by_cases hlt : k < n
    · obtain ⟨p, hp⟩ : ∃ p, S[k]? = some p := ⟨_, List.getElem?_eq_getElem (by have := HN.out; omega)⟩
      obtain ⟨g, o, rfl, hg, c0, c1⟩ := set_cells (HR.out.below HB.out) hp
      have hia := fun W => set_at g o n c k (k : Int) rfl hlt W
      have hlt' : (k : Int) < (n : Int) := by omega
      have HNX := hide (sel_next kmm hp)
      obtain ⟨W1, hW1⟩ : ∃ W, wr.alloc (.cells #[.string ⟨p.1.toArray⟩, .string ⟨p.2.toArray⟩] 46) = W := ⟨_, rfl⟩
      have HB1 : Hid (Below w.heap.size w W1) := hide (by rw [← hW1]; exact HB.out.alloc HB.out.size _)
      have HI1 := hide (HIK.out wr W1 HIx.out (by rw [← hW1]; exact (Below.refl _ _).alloc (Nat.le_refl _) _))
      have HO1 : Hid (OwS w.heap.size W1 A' m c' (selP kmm (S.take k))) := hide (by rw [← hW1]; exact World.ownsRow.alloc HO.out _)
      have b1 : Blk W1 wr.heap.size 46 #[.string ⟨p.1.toArray⟩, .string ⟨p.2.toArray⟩] := by rw [← hW1]; exact Blk.new wr 46 _
      have hlt1 := b1.lt
      have B1 := hide b1
      have HW1 := hide hW1
      have XC := hide (HCL.out p W1 HI1.out)
      obtain ⟨kp, hkp⟩ : ∃ b, kmm p = b := ⟨_, rfl⟩
      rw [hkp] at HNX XC
      obtain ⟨pn, pv⟩ := p
      dsimp only at c0 c1 HW1 B1
      unfold St.v at XC
      dsimp only at XC
      clear hp hW1 b1 hkp
      cases kp with
      | false =>
        go_wp2_with fail
        try rw [HW1.out]
        refine XC.out.mono ?_
        rintro e w2 ⟨rfl, hb⟩
        have HB2 := hide (below_more HB1.out (Nat.le_refl _) hb)
        have HO2 := hide (HO1.out.below hb)
        have HI2 := hide (HIK.out _ _ HI1.out hb)
        clear hb c0 c1
        go_wp2_with fail
        go_roundw
        case rel => exact ⟨k + 1, m, A', c', by omega, by omega, by go_num, rfl, hide (by rw [HNX.out, if_neg (by decide), List.append_nil]; exact HO2.out), HB2, HI2⟩
        case measure => simp [intOf]; omega
      | true =>
        go_wp2_with fail
        try rw [HW1.out]
        refine XC.out.mono ?_
        rintro e w2 ⟨rfl, hb⟩
        have HB2 := hide (below_more HB1.out (Nat.le_refl _) hb)
        have HO2 := hide (HO1.out.below hb)
        have HI2 := hide (HIK.out _ _ HI1.out hb)
        obtain ⟨d0, d1, f0, f1⟩ := Blk.two (B1.out.below hb hlt1)
        have hr1 := one_set (x := (pn, pv)) (Blk.new w2 46 #[.string ⟨pn.toArray⟩, .string ⟨pv.toArray⟩])
        have hO2 := World.ownsRow.alloc HO2.out (.cells #[.string ⟨pn.toArray⟩, .string ⟨pv.toArray⟩] 46)
        have hsz := HB2.out.size
        have HI3 := hide (HIK.out _ _ HI2.out ((Below.refl w2.heap.size w2).alloc (Nat.le_refl _) (.cells #[.string ⟨pn.toArray⟩, .string ⟨pv.toArray⟩] 46)))
        clear hb c0 c1
        go_wp2_with (at_builtin; (refine wpList_append_any _ rfl (.tmp 17) (.tmp 19) 42 rfl w.heap.size 46 i0 _ 2 32 Tryz.underlying42 hi0 hz0 hz1 hz2 rfl (by omega) (.slice A' m c') m (pss (selP kmm (S.take k))) rfl hO2 _ (some ⟨w2.heap.size, 0, none⟩) 1 1 (pss [(pn, pv)]) rfl hr1 (pss_one _) ?c1 ?c2 ?c3 ?_))
        case c1 => unfold maxLen; omega
        case c2 => omega
        case c3 => simp; omega
        intro v1 w6 hown1 hg1 hat1
        obtain ⟨A6, c6, rfl⟩ := own_slice hown1
        rw [← pss_append] at hown1
        have HO6 : Hid (OwS w.heap.size w6 A6 (m + 1) c6 (selP kmm (S.take (k + 1)))) := hide (by rw [HNX.out]; first | (rw [if_pos rfl]; exact hown1) | (rw [if_pos trivial]; exact hown1))
        have HB6 : Hid (Below w.heap.size w w6) := hide ((HB2.out.alloc hsz _).grown hg1 (by simp; omega) (fun g hg => (World.ownsRow.lt HO2.out g hg).1))
        have HI6 : Hid ((BoxM q3 q7 gR cR) w6) := hide (by
          exact invm_keep HI.out HB6.out)
        clear hown1 hg1 hat1 hr1 hO2
        go_wp2_with fail
        go_roundw
        case rel => exact ⟨k + 1, m + 1, A6, c6, by omega, by omega, by go_num, rfl, HO6, HB6, HI6⟩
        case measure => simp [intOf]; omega
    · have hlt' : ¬ (k : Int) < (n : Int) := by omega
      obtain rfl : k = n := by omega
      have HOE : Hid (OwS w.heap.size wr A' m c' (selP kmm S)) := hide (by have := HO.out; rwa [List.take_of_length_le (by rw [HN.out]; exact Nat.le_refl _)] at this)
      go_wp2_with fail
      go_ret
      first | exact ⟨A', m, c', rfl, HOE.out, HB.out⟩ | exact ⟨A', ⟨m, c', rfl⟩, HOE.out, HB.out⟩
end Go.Proofs.YtaibmfahfkoahaaGreat
