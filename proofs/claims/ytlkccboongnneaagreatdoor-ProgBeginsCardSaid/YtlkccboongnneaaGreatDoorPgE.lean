/- A child in a box: number, echo, head, counting. -/
import Derived.Test.YtlkccboongnneaaGreatDoorPgD
namespace Go.Proofs.YtlkccboongnneaaGreatDoor
open Go.RowKit
set_option linter.unusedVariables false
/-- The first word's number. -/
noncomputable def numHead : List Bs → Option Int
  | [] => none
  | x :: _ => numOf x
theorem headC_some {ws : List Bs} {v : Int} (h : numHead ws = some v) : headC ws = if 0 ≤ v then v else 10 := by
  cases ws with
  | nil => cases h
  | cons x l => have h' : numOf x = _ := h; unfold headC; dsimp only; rw [h']
theorem headC_none {ws : List Bs} (h : numHead ws = none) : headC ws = 10 := by
  cases ws with
  | nil => rfl
  | cons x l => have h' : numOf x = _ := h; unfold headC; dsimp only; rw [h']
def NumEnd (w : World) (ws : List Bs) (e : Ending) (w' : World) : Prop :=
  Below w.heap.size w w' ∧ ((∃ v, i64R v ∧ numHead ws = some v ∧ e = .returned (.tuple #[.int .i64 v, .bool true])) ∨ (numHead ws = none ∧ e = .returned (.tuple #[.int .i64 0, .bool false])))
set_option maxHeartbeats 1000000 in
theorem number_any (B g : Nat) (p : PR) (s : PS) (w : World) (h : RunAt B g p s w) (hf : FitP p) (hS : Std w) :
    Calls Tryz.prog 60 #[.pointer (some ⟨g, 0, none⟩)] w (NumEnd w p.args.tail) := by
  have X := hide (words_any B g p s w h)
  have hfa := hf.ca
  have HS := hide hS
  clear h hf hS
  go_enter Tryz.func60, Tryz.ntmps60
  go_wp2_with fail
  refine X.out.mono ?_
  rintro e w1 ⟨rfl, A, n, c, rfl, hR, hn, hnc, hA⟩
  have hl : p.args.tail.length = n := by rw [List.length_tail]; omega
  have hm : ∀ x ∈ p.args.tail, x.length ≤ 10000 := fun x hx => hfa x (List.mem_of_mem_tail hx)
  obtain ⟨ws, hws⟩ : ∃ l, p.args.tail = l := ⟨_, rfl⟩
  rw [hws] at hR hl hm
  have HW := hide hws
  clear hws X
  cases ws with
  | nil =>
    have hn0 : n = 0 := hl.symm
    subst hn0
    clear hn hl hR hA hm
    go_wp2_with fail
    go_ret2
    exact ⟨Below.refl _ _, .inr ⟨by rw [HW.out]; rfl, rfl⟩⟩
  | cons x l =>
    have hnb : ((n : Int) == 0) = false := beq_eq_false_iff_ne.2 (by simp at hl; omega)
    have hn1 : 1 ≤ n := by simp at hl; omega
    obtain ⟨b, o, rfl⟩ := hA (by omega)
    have q0 := cell_s hR (k := 0) (x := x) rfl
    have hx1 := hm x (by simp)
    have XP := hide (parse_any ⟨x.toArray⟩ w (by show x.length ≤ _; omega) HS.out)
    clear hn hl hR hA hm
    rw [Nat.add_zero] at q0
    go_wp2_with fail
    with_reducible refine XP.out.mono ?_
    rintro e w2 ⟨hb, ⟨v, hv, he, rfl⟩ | ⟨hno, rfl⟩⟩
    · have HE := hide he
      clear he XP
      go_wp2_with fail
      go_ret2
      exact ⟨hb, .inl ⟨v, hv, by rw [HW.out]; exact numOf_some hv (by simpa using HE.out), rfl⟩⟩
    · have HE := hide hno
      clear hno XP
      go_wp2_with fail
      go_ret2
      exact ⟨hb, .inr ⟨by rw [HW.out]; exact numOf_none (by simpa using HE.out), rfl⟩⟩
/-- The library's variables lie below B. -/
def StB (B : Nat) (w : World) : Prop := ∃ w0, Std w0 ∧ w0.heap.size ≤ B ∧ Below w0.heap.size w0 w
theorem StB.std {B : Nat} {w : World} (h : StB B w) : Std w := by
  obtain ⟨w0, h1, h2, h3⟩ := h
  exact h1.below h3
theorem StB.keep {B : Nat} {w w' : World} (h : StB B w) (hb : Below B w w') : StB B w' := by
  obtain ⟨w0, h1, h2, h3⟩ := h
  exact ⟨w0, h1, h2, h3.trans (hb.mono h2)⟩
theorem StB.of {w : World} (h : Std w) : StB w.heap.size w := ⟨w, h, Nat.le_refl _, Below.refl _ _⟩
theorem StB.more {B C : Nat} {w : World} (h : StB B w) (hC : B ≤ C) : StB C w := by
  obtain ⟨w0, h1, h2, h3⟩ := h
  exact ⟨w0, h1, Nat.le_trans h2 hC, h3⟩
noncomputable def startHeadP (p : PR) : PR := if headC p.args.tail = 0 then { p with count := 0, phase := 4, status := 0 } else { p with count := headC p.args.tail, phase := 1 }
theorem startHeadP_eq {p : PR} {c : Int} (h : headC p.args.tail = c) (h0 : c ≠ 0) : startHeadP p = { p with count := c, phase := 1 } := by unfold startHeadP; rw [h, if_neg h0]
theorem startHeadP_zero {p : PR} (h : headC p.args.tail = 0) : startHeadP p = { p with count := 0, phase := 4, status := 0 } := by unfold startHeadP; rw [if_pos h]
theorem RunAt.up {B g : Nat} {p : PR} {s : PS} {w w' : World} (h : RunAt B g p s w) {b : Nat} (hb : Below b w w') (hw : w.heap.size = b) : RunAt B g p s w' := h.below (hw ▸ hb)
set_option maxHeartbeats 2000000 in
theorem startHead_any (B g : Nat) (p : PR) (s : PS) (w : World) (h : RunAt B g p s w) (hf : FitP p) (hS : StB B w) (hB : B ≤ w.heap.size) :
    Calls Tryz.prog 40 #[.pointer (some ⟨g, 0, none⟩)] w fun e w' => e = .returned (.tuple #[]) ∧ RunAt B g (startHeadP p) s w' ∧ Below B w w' := by
  obtain ⟨⟨c0, c1, c2, c3, c4, c5, c6, c7, c8, c9⟩, f0, f1, f2, f3, f4, f5, f6, f7, f8, f9⟩ := ten h.blk
  have hle := h.le
  have hgl := h.blk.lt
  have H1 := h.co 10
  have HB1 : Hid (Below B w (w.setCell ⟨g, 8, none⟩ (.int .i64 10))) := hide ((Below.refl B w).setCell (by exact hle) _)
  have hz1 : (w.setCell ⟨g, 8, none⟩ (.int .i64 10)).heap.size = w.heap.size := by simp [World.setCell]
  have XN := hide (number_any B g { p with count := 10 } s _ H1 ⟨hf.a, hf.e, hf.f, hf.d, hf.done, hf.ca, hf.st, hf.ph, by unfold i64R; constructor <;> (dsimp only; omega), hf.pr⟩ (hS.keep HB1.out).std)
  obtain ⟨W1, hW1⟩ : ∃ W, w.setCell ⟨g, 8, none⟩ (.int .i64 10) = W := ⟨_, rfl⟩
  rw [hW1] at H1 HB1 hz1 XN
  have HK1 := hide H1
  have hz := hide hz1
  clear h H1 hz1 hS hf
  go_enter Tryz.func40, Tryz.ntmps40
  go_wp2_with fail
  clear hW1
  refine XN.out.mono ?_
  rintro e w2 ⟨hb, hx⟩
  have HK2 := hide (HK1.out.below hb)
  have HB2 := hide (HB1.out.trans (hb.mono (by rw [hz.out]; exact hB)))
  obtain ⟨⟨c0, c1, c2, c3, c4, c5, c6, c7, c8, c9⟩, f0, f1, f2, f3, f4, f5, f6, f7, f8, f9⟩ := ten HK2.out.blk
  dsimp only at c0 c1 c2 c3 c4 c5 c6 c7 c8 c9 hx
  clear hb HB1 HK1 XN hz
  rcases hx with ⟨v, hv, hn, rfl⟩ | ⟨hn, rfl⟩
  · have HN := hide hn
    clear hn
    by_cases h0 : v = 0
    · subst h0
      have X := hide (fun W (h : RunAt B g { p with count := 0, phase := 1 } s W) => end_any B g { p with count := 0, phase := 1 } s 0 W h)
      have HC : Hid (headC p.args.tail = 0) := hide (by rw [headC_some HN.out]; rfl)
      have HB3 := hide ((HB2.out.setCell (p := ⟨g, 8, none⟩) (by exact hle) (.int .i64 0)).setCell (p := ⟨g, 7, none⟩) (by exact hle) (.int .i64 1))
      go_wp2_with fail
      refine (X.out _ ((HK2.out.co 0).ph 1)).mono ?_
      rintro e w4 ⟨rfl, h4, hb4⟩
      have H4 := hide h4
      have HB4 := hide hb4
      clear h4 hb4
      go_wp2_with fail
      go_end0
      refine ⟨rfl, ?_, HB3.out.trans HB4.out⟩
      rw [startHeadP_zero HC.out]
      exact H4.out
    · have hvb : (v == 0) = false := beq_eq_false_iff_ne.2 h0
      have HV : Hid (v ≠ 0) := hide h0
      clear h0
      by_cases hp : 0 ≤ v
      · have HC : Hid (headC p.args.tail = v) := hide (by rw [headC_some HN.out, if_pos hp])
        go_wp2_with fail
        go_end0
        refine ⟨rfl, ?_, (HB2.out.setCell (by exact hle) _).setCell (by exact hle) _⟩
        rw [startHeadP_eq HC.out HV.out]
        exact (HK2.out.co v).ph 1
      · have HC : Hid (headC p.args.tail = 10) := hide (by rw [headC_some HN.out, if_neg hp])
        go_wp2_with fail
        go_end0
        refine ⟨rfl, ?_, HB2.out.setCell (by exact hle) _⟩
        rw [startHeadP_eq HC.out (by decide)]
        exact HK2.out.ph 1
  · have HC : Hid (headC p.args.tail = 10) := hide (headC_none hn)
    clear hn
    go_wp2_with fail
    go_end0
    refine ⟨rfl, ?_, HB2.out.setCell (by exact hle) _⟩
    rw [startHeadP_eq HC.out (by decide)]
    exact HK2.out.ph 1
end Go.Proofs.YtlkccboongnneaaGreatDoor
