/- Link at any record and digest; the law ChainLinks. -/
import Derived.Test.YtkiphaagdckkjaaDoorChH
namespace Go.Proofs.YtkiphaagdckkjaaDoor
open Go.RowKit
set_option linter.unusedVariables false
def lkOk (h : LB) (r : Rec) : Bool := validP r && decide (h.length = 32)
def lkX (h : LB) (r : Rec) : LB := if lkOk h r = true then entP h r else []
def lkY (h : LB) (r : Rec) : LB := if lkOk h r = true then digP h (encP r) else []
def lkE (h : LB) (r : Rec) : Int := if lkOk h r = true then 0 else 2
def RetLink (h : LB) (r : Rec) (w : World) (e : Ending) (w' : World) : Prop := ∃ A n c B k d, e = .returned (.tuple #[.slice A n c, .slice B k d, .int .i64 (lkE h r)]) ∧ Rd w' A n (lkX h r) ∧ Rd w' B k (lkY h r) ∧ Below w.heap.size w w'
theorem ret_no {h : LB} {r : Rec} (hk : lkOk h r = false) {w : World} {e : Ending} {w' : World} (H : RetLinkNo w e w') : RetLink h r w e w' := by
  obtain ⟨rfl, hb⟩ := H
  refine ⟨none, 0, 0, none, 0, 0, by unfold lkE; rw [hk]; rfl, ?_, ?_, hb⟩
  · unfold lkX; rw [hk]; exact Reads.none_
  · unfold lkY; rw [hk]; exact Reads.none_
theorem ret_yes {h : LB} {r : Rec} (hk : lkOk h r = true) {w : World} {e : Ending} {w' : World} (H : RetLinkYes h r w e w') : RetLink h r w e w' := by
  obtain ⟨A, n, c, B, d, rfl, hn, h1, h2, hb⟩ := H
  refine ⟨A, n, c, B, 32, d, by unfold lkE; rw [hk]; rfl, ?_, ?_, hb⟩
  · unfold lkX; rw [hk]; exact h1.rd
  · unfold lkY; rw [hk]; exact h2.rd
theorem link_any (h : LB) (r : Rec) (B A : Option Addr) (m d n c : Nat) (w : World) (hS : Std w) (hT : Tabs w) (hR : Rd w A n r.dig) (hH : Rd w B m h) (hmd : m ≤ d) :
    Calls Tryd.prog 9 #[.slice B m d, Rec.v r A n c] w (RetLink h r w) := by
  have hl := hH.len
  cases hv : validP r with
  | false => exact (link_bad h r B A m d n c hR.len w hS hT hv).mono fun e w' H => ret_no (by unfold lkOk; rw [hv]; rfl) H
  | true =>
    by_cases h32 : m = 32
    · subst h32
      exact (link_ok h r B A d n c hR.len w hS hT hR hv hH hmd).mono fun e w' H => ret_yes (by unfold lkOk; rw [hv, hl]; rfl) H
    · exact (link_off h r B A m d n c hR.len w hS hT hR hv h32).mono fun e w' H => ret_no (by unfold lkOk; rw [hv, Bool.true_and, decide_eq_false_iff_not, hl]; exact h32) H
theorem rlink_any (h : LB) (r : Rec) (B A : Option Addr) (m d n c : Nat) (w : World) (hR : Rd w A n r.dig) (hH : Rd w B m h) (hmd : m ≤ d) :
    Calls Tryd.prog 10 #[.slice B m d, Rec.v r A n c] w (RetLink h r w) := by
  have hl := hH.len
  cases hv : validP r with
  | false => exact (rlink_bad h r B A m d n c hR.len w hv).mono fun e w' H => ret_no (by unfold lkOk; rw [hv]; rfl) H
  | true =>
    by_cases h32 : m = 32
    · subst h32
      exact (rlink_ok h r B A d n c hR.len w hR hv hH hmd).mono fun e w' H => ret_yes (by unfold lkOk; rw [hv, hl]; rfl) H
    · exact (rlink_off h r B A m d n c hR.len w hR hv h32).mono fun e w' H => ret_no (by unfold lkOk; rw [hv, Bool.true_and, decide_eq_false_iff_not, hl]; exact h32) H
set_option maxRecDepth 100000 in
set_option maxHeartbeats 8000000 in
theorem links_law (h : LB) (r : Rec) (B A : Option Addr) (m d n c : Nat) (w : World) (hS : Std w) (hT : Tabs w) (hR : Rd w A n r.dig) (hH : Rd w B m h) (hmd : m ≤ d) (hnc : n ≤ c) :
    Calls Tryd.prog 3 #[.slice B m d, Rec.v r A n c] w fun e w' => e = .returned (.bool true) ∧ Below w.heap.size w w' := by
  obtain ⟨q, op, p, p2, g, al⟩ := r
  have hb := bl_alloc w (.cells (Rec.cs ⟨q, op, p, p2, g, al⟩ A n c) 24)
  have hk := Blk.new w 24 (Rec.cs ⟨q, op, p, p2, g, al⟩ A n c)
  have HS := hide (hS.below hb)
  have HT := hide (hT.below hb)
  have HR := hide (rb hR hb)
  have HH := hide (rb hH hb)
  have HB := hide hb
  have XHD := hide (heads_any _ HS.out HT.out)
  clear hb hS hT hR hH
  have e1 : (w.alloc (.cells (Rec.cs ⟨q, op, p, p2, g, al⟩ A n c) 24)).heap.size = w.heap.size + 1 := by simp
  obtain ⟨W0, hW0⟩ : ∃ W0, w.alloc (.cells (Rec.cs ⟨q, op, p, p2, g, al⟩ A n c) 24) = W0 := ⟨_, rfl⟩
  rw [hW0] at HS HT HR HH HB XHD hk e1
  have XL := hide (link_any h ⟨q, op, p, p2, g, al⟩ B A m d n c W0 HS.out HT.out HR.out HH.out hmd)
  unfold RetLink Rec.v at XL
  have XR := hide (fun W hr hh => rlink_any h ⟨q, op, p, p2, g, al⟩ B A m d n c W hr hh hmd)
  unfold RetLink Rec.v at XR
  dsimp only at XL XR
  unfold Rec.cs Rec.v at *
  dsimp only at *
  obtain ⟨z0, z1, z2, z3, z4, z5⟩ := hk.six
  have hzl := hk.lt
  have HK := hide hk
  clear hk
  obtain ⟨X, hX⟩ : ∃ X, lkX h ⟨q, op, p, p2, g, al⟩ = X := ⟨_, rfl⟩
  obtain ⟨Y, hY⟩ : ∃ Y, lkY h ⟨q, op, p, p2, g, al⟩ = Y := ⟨_, rfl⟩
  obtain ⟨E, hE⟩ : ∃ E, lkE h ⟨q, op, p, p2, g, al⟩ = E := ⟨_, rfl⟩
  rw [hX, hY, hE] at XL XR
  clear hX hY hE
  by_cases k1 : (100 : Int) < (m : Int)
  · clear XL XR HR HH
    go_enter Tryd.func3, Tryd.ntmps3
    go_wp2_with fail
    refine XHD.out.mono ?_
    rintro e1 w1 ⟨rfl, hb1⟩
    have HB1 := hide (below_more HB.out (Nat.le_refl _) hb1)
    clear hb1 XHD
    go_wp2_with fail
    go_ret
    exact ⟨rfl, HB1.out⟩
  by_cases k2 : (1000 : Int) < (p.length : Int)
  · clear XL XR HR HH
    go_enter Tryd.func3, Tryd.ntmps3
    go_wp2_with fail
    refine XHD.out.mono ?_
    rintro e1 w1 ⟨rfl, hb1⟩
    have HB1 := hide (below_more HB.out (Nat.le_refl _) hb1)
    clear hb1 XHD
    go_wp2_with fail
    go_ret
    exact ⟨rfl, HB1.out⟩
  by_cases k3 : (1000 : Int) < (p2.length : Int)
  · clear XL XR HR HH
    go_enter Tryd.func3, Tryd.ntmps3
    go_wp2_with fail
    refine XHD.out.mono ?_
    rintro e1 w1 ⟨rfl, hb1⟩
    have HB1 := hide (below_more HB.out (Nat.le_refl _) hb1)
    clear hb1 XHD
    go_wp2_with fail
    go_ret
    exact ⟨rfl, HB1.out⟩
  by_cases k4 : (100 : Int) < (n : Int)
  · clear XL XR HR HH
    go_enter Tryd.func3, Tryd.ntmps3
    go_wp2_with fail
    refine XHD.out.mono ?_
    rintro e1 w1 ⟨rfl, hb1⟩
    have HB1 := hide (below_more HB.out (Nat.le_refl _) hb1)
    clear hb1 XHD
    go_wp2_with fail
    go_ret
    exact ⟨rfl, HB1.out⟩
  clear XHD
  go_enter Tryd.func3, Tryd.ntmps3
  go_wp2_with fail
  refine XL.out.mono ?_
  rintro e1 w1 ⟨A1, n1, c1, B1, m1, d1, rfl, hr1, hy1, hb1⟩
  have HB1 := hide (below_more HB.out (Nat.le_refl _) hb1)
  have HS1 := hide (HS.out.below hb1)
  have HT1 := hide (HT.out.below hb1)
  have HX1 := hide hr1
  have HY1 := hide hy1
  have hk1 := HK.out.below hb1 HK.out.lt
  have XR1 := hide (XR.out w1 (rb HR.out hb1) (rb HH.out hb1))
  obtain ⟨y0, y1, y2, y3, y4, y5⟩ := hk1.six
  have hyl := hk1.lt
  clear hr1 hy1 hb1 XL XR HK HR HH hk1 z0 z1 z2 z3 z4 z5 hzl HS HT HB
  go_wp2_with fail
  refine XR1.out.mono ?_
  rintro e2 w2 ⟨A2, n2, c2, B2, m2, d2, rfl, hr2, hy2, hb2⟩
  have HB2 := hide (below_more HB1.out (Nat.le_refl _) hb2)
  have HS2 := hide (HS1.out.below hb2)
  have HT2 := hide (HT1.out.below hb2)
  have HX2 := hide (rb HX1.out hb2)
  have HY2 := hide (rb HY1.out hb2)
  have XQ := hide (same_any A1 A2 n1 n2 c1 c2 X X w2 _ _ HX2.out hr2)
  rw [show (X == X) = true from beq_self_eq_true X] at XQ
  have XQ2 := hide (same_any B1 B2 m1 m2 d1 d2 Y Y w2 _ _ HY2.out hy2)
  rw [show (Y == Y) = true from beq_self_eq_true Y] at XQ2
  have hee : (E == E) = true := beq_self_eq_true E
  clear hr2 hy2 hb2 XR1 HX1 HY1 HX2 HY2 HS1 HT1 HB1 y0 y1 y2 y3 y4 y5 hyl
  go_wp2_with fail
  refine XQ.out.mono ?_
  rintro e3 w3 ⟨rfl, rfl⟩
  go_wp2_with fail
  refine XQ2.out.mono ?_
  rintro e4 w4 ⟨rfl, rfl⟩
  clear XQ XQ2
  go_wp2_with fail
  refine (root_any w2).mono ?_
  rintro e5 w5 ⟨rfl, hz5, hb5⟩
  have HB5 := hide (below_more HB2.out (Nat.le_refl _) hb5)
  have HS5 := hide (HS2.out.below hb5)
  have HT5 := hide (HT2.out.below hb5)
  have HZ5 := hide hz5.rd
  clear hz5 hb5 HS2 HT2 HB2
  go_wp2_with fail
  refine (rroot_any w5).mono ?_
  rintro e6 w6 ⟨rfl, hz6, hb6⟩
  have HB6 := hide (below_more HB5.out (Nat.le_refl _) hb6)
  have XZ := hide (same_any _ _ 32 32 32 32 zero32 zero32 w6 _ _ (rb HZ5.out hb6) hz6.rd)
  rw [show (zero32 == zero32) = true from beq_self_eq_true zero32] at XZ
  have XH6 := hide (heads_any w6 (HS5.out.below hb6) (HT5.out.below hb6))
  clear hz6 hb6 HZ5 HS5 HT5 HB5
  go_wp2_with fail
  refine XZ.out.mono ?_
  rintro e7 w7 ⟨rfl, rfl⟩
  clear XZ
  go_wp2_with fail
  refine XH6.out.mono ?_
  rintro e8 w8 ⟨rfl, hb8⟩
  have HB8 := hide (below_more HB6.out (Nat.le_refl _) hb8)
  clear hb8 XH6
  go_wp2_with fail
  go_ret
  exact ⟨rfl, HB8.out⟩
end Go.Proofs.YtkiphaagdckkjaaDoor
