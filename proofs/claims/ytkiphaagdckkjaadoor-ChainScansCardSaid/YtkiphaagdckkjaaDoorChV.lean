/- chain.Scan, chain.Verify, chain.Head. -/
import Derived.Test.YtkiphaagdckkjaaDoorChU
namespace Go.Proofs.YtkiphaagdckkjaaDoor
open Go.RowKit
set_option linter.unusedVariables false
def lenP : List Rec → Nat
  | [] => 0
  | r :: l => 2 + (encP r).length + 32 + lenP l
theorem lenP_append (a b : List Rec) : lenP (a ++ b) = lenP a + lenP b := by
  induction a with
  | nil => simp [lenP]
  | cons r l ih => simp only [List.cons_append, lenP, ih]; omega
theorem scan_lenP (f : Nat) : ∀ (h : LB) (k : Nat) (b : LB), lenP (scanP f h k b).1 = (scanP f h k b).2.2 := by
  induction f with
  | zero => intro h k b; rfl
  | succ f ih =>
    intro h k b
    simp only [scanP]
    cases e : nextP h k b with
    | none => rfl
    | some x =>
      obtain ⟨r, own, n⟩ := x
      obtain ⟨body, h1, h2, h3, h4, h5⟩ := next_some e
      have h6 := (dec_enc h3).2
      dsimp only
      rw [lenP, ih, h6, h5]
theorem at_lenP {bs : LB} {l : List Rec} {e : Nat} {h : LB} (H : AtS bs l e h) : e = lenP l := by
  obtain ⟨h1, h2, h3⟩ := H
  have h4 := scan_lenP bs.length zero32 0 bs
  have h5 := scan_lenP (bs.length - e) h l.length (bs.drop e)
  have h6 : lenP (scanB bs).1 = (scanB bs).2.2 := h4
  rw [h3] at h6
  dsimp only at h6
  rw [lenP_append, h5] at h6
  omega
def headP (bs : LB) (m : Int) : Int × Bool := if m < 0 then (0, false) else if m ≤ ((scanB bs).1.length : Int) then ((lenP ((scanB bs).1.take m.toNat) : Int), true) else (0, false)
def verP (bs : LB) : Bool := ((scanB bs).2.2 : Int) == (bs.length : Int)
theorem head_less {bs : LB} {m : Int} {k e : Nat} (H : HeadAt bs m k e) (hk : (k : Int) < m) : headP bs m = (0, false) := by
  obtain ⟨l, h, h1, h2, h3, h4⟩ := H
  unfold headP
  rw [h3 hk, if_neg (by omega), if_neg (by dsimp only; omega)]
theorem head_whole {bs : LB} {m : Int} {k e : Nat} (H : HeadAt bs m k e) (hk : ¬ (k : Int) < m) : headP bs m = ((e : Int), true) := by
  obtain ⟨l, h, h1, h2, h3, h4⟩ := H
  have h5 := at_lenP h1
  unfold headP
  rw [h1.2.2]
  dsimp only
  rw [if_neg (by omega), if_pos (by rw [List.length_append]; omega), List.take_left' (by omega), h5]
def ScanEnd (bs : LB) (w : World) (e : Ending) (w' : World) : Prop := ∃ O co D dn l, e = .returned (.tuple #[.slice O l.length co, .slice D 32 dn, .int .i64 ((scanB bs).2.2 : Int)]) ∧ OutR w.heap.size w' O l.length co l ∧ l.map RV.r = (scanB bs).1 ∧ OwB w.heap.size w' D 32 dn (scanB bs).2.1 ∧ Below w.heap.size w w'
set_option maxRecDepth 100000 in
set_option maxHeartbeats 2000000 in
theorem scan_any (A : Option Addr) (n c : Nat) (bs : LB) (w : World) (hR : Rd w A n bs) (hnc : n ≤ c) (hn : n ≤ 30000) (hS : Std w) (hT : Tabs w) :
    Calls Tryd.prog 14 #[.slice A n c] w (ScanEnd bs w) := by
  have hb := bl_alloc w (.cells #[.slice none 0 0] 34)
  have hk := Blk.new w 34 #[.slice none 0 0]
  have X := hide (read_scan A n c bs w.heap.size _ (hR.below hb) hnc hn (hS.below hb) (hT.below hb) hk hT.2.2)
  have HB := hide hb
  clear hR hS hT hb hk
  go_enter Tryd.func14, Tryd.ntmps14
  go_wp2_with fail
  refine X.out.mono ?_
  rintro e w1 ⟨D, dn, rfl, h1, O, co, l, h2, h3, h4, h5⟩
  have HB1 := hide (HB.out.trans h5)
  have H1 := hide (own_more h1 (by simp : w.heap.size ≤ _))
  have H3 := hide (h3.more (Nat.le_succ w.heap.size))
  have H4 := hide h4
  have c0 := h2.cell 0
  simp at c0
  have cl := h2.lt
  clear h1 h2 h3 h4 h5 X HB
  obtain ⟨z, hz⟩ : ∃ z, (scanB bs).2.2 = z := ⟨_, rfl⟩
  have HEND : Hid (ScanEnd bs w (.returned (.tuple #[.slice O l.length co, .slice D 32 dn, .int .i64 (z : Int)])) w1) := hide ⟨O, co, D, dn, l, by rw [hz], H3.out, H4.out, H1.out, HB1.out⟩
  rw [hz]
  clear hz HB1 H1 H3 H4
  go_wp2_with fail
  refine bodyPost_ret (v := .tuple #[.slice O l.length co, .slice D 32 dn, .int .i64 (z : Int)]) (by simp only [results, Tryd.results14]; go_simp) rfl HEND.out
set_option maxRecDepth 100000 in
set_option maxHeartbeats 2000000 in
theorem verify_any (A : Option Addr) (n c : Nat) (bs : LB) (w : World) (hR : Rd w A n bs) (hnc : n ≤ c) (hn : n ≤ 30000) (hS : Std w) (hT : Tabs w) :
    Calls Tryd.prog 19 #[.slice A n c] w fun e w' => e = .returned (.bool (verP bs)) ∧ Below w.heap.size w w' := by
  have X := hide (read_verify A n c bs w hR hnc hn hS hT)
  have hl := hR.len
  clear hR hS hT
  obtain ⟨b, hb⟩ : ∃ b, verP bs = b := ⟨_, rfl⟩
  rw [hb]
  unfold verP at hb
  rw [hl] at hb
  unfold ReadV at X
  obtain ⟨z, hz⟩ : ∃ z, (scanB bs).2.2 = z := ⟨_, rfl⟩
  rw [hz] at hb X
  clear hz hl
  go_enter Tryd.func19, Tryd.ntmps19
  go_wp2_with fail
  refine X.out.mono ?_
  rintro e w1 ⟨D, dn, rfl, h1⟩
  have HB1 := hide h1
  clear h1 X
  go_wp2_with fail
  go_ret
  exact ⟨rfl, HB1.out⟩
set_option maxRecDepth 100000 in
set_option maxHeartbeats 2000000 in
theorem head_any (A : Option Addr) (n c : Nat) (bs : LB) (m : Int) (w : World) (hR : Rd w A n bs) (hnc : n ≤ c) (hn : n ≤ 30000) (hS : Std w) (hT : Tabs w) :
    Calls Tryd.prog 16 #[.slice A n c, .int .i64 m] w fun e w' => e = .returned (.tuple #[.int .i64 (headP bs m).1, .bool (headP bs m).2]) ∧ Below w.heap.size w w' := by
  have hb1 := hide (bl_alloc w (.cells #[.int .i64 m] 3))
  by_cases h0 : m < 0
  · have e0 : headP bs m = (0, false) := by unfold headP; rw [if_pos h0]
    rw [e0]
    clear hR hS hT e0
    go_enter Tryd.func16, Tryd.ntmps16
    go_wp2_with fail
    refine bodyPost_ret (v := .tuple #[.int .i64 0, .bool false]) (by simp only [results, Tryd.results16]; go_simp) rfl ⟨rfl, hb1.out⟩
  by_cases h1 : m = 0
  · subst h1
    have e0 : headP bs 0 = (0, true) := by unfold headP; rw [if_neg (by omega), if_pos (by omega)]; rfl
    rw [e0]
    clear hR hS hT e0
    go_enter Tryd.func16, Tryd.ntmps16
    go_wp2_with fail
    refine bodyPost_ret (v := .tuple #[.int .i64 0, .bool true]) (by simp only [results, Tryd.results16]; go_simp) rfl ⟨rfl, hb1.out⟩
  have hb2 : Below w.heap.size w ((w.alloc (.cells #[.int .i64 m] 3)).alloc (.cells #[.int .i64 0] 3)) := hb1.out.alloc (by simp) _
  have k1 := Blk.new w 3 #[.int .i64 m]
  have k2 := k1.below (bl_alloc (w.alloc (.cells #[.int .i64 m] 3)) (.cells #[.int .i64 0] 3)) (by simp)
  have k3 := Blk.new (w.alloc (.cells #[.int .i64 m] 3)) 3 #[.int .i64 0]
  have e1 : (w.alloc (.cells #[.int .i64 m] 3)).heap.size = w.heap.size + 1 := by simp
  rw [e1] at k3
  have hmin : min (w.heap.size + 1) w.heap.size = w.heap.size := by omega
  have X := hide (read_head A n c bs (w.heap.size + 1) w.heap.size m _ (by rw [hmin]; exact hR.below hb2) hnc hn (hS.below hb2) (hT.below hb2) k3 k2 (by omega) (by rw [hmin]; exact hT.2.2) (by omega))
  unfold ReadH at X
  rw [hmin] at X
  have HB := hide hb2
  have hm1 : (m == 0) = false := by rw [beq_eq_false_iff_ne]; exact h1
  clear hR hS hT hb2 k1 k2 k3 e1 hmin hb1
  go_enter Tryd.func16, Tryd.ntmps16
  go_wp2_with fail
  refine X.out.mono ?_
  rintro e w1 ⟨D, dn, k, z, rfl, h2, h3, h4, h5⟩
  have HB1 := hide (HB.out.trans h5)
  have c0 := h3.cell 0
  have d0 := h4.cell 0
  simp at c0 d0
  have cl := h3.lt
  have dl := h4.lt
  have H2 := hide h2
  clear h2 h3 h4 h5 X HB
  by_cases hk : (k : Int) < m
  · have E := hide (head_less H2.out hk)
    clear H2
    go_wp2_with fail
    refine bodyPost_ret (v := .tuple #[.int .i64 0, .bool false]) (by simp only [results, Tryd.results16]; go_simp) rfl ⟨by rw [E.out], HB1.out⟩
  · have E := hide (head_whole H2.out hk)
    clear H2
    go_wp2_with fail
    refine bodyPost_ret (v := .tuple #[.int .i64 (z : Int), .bool true]) (by simp only [results, Tryd.results16]; go_simp) rfl ⟨by rw [E.out], HB1.out⟩
end Go.Proofs.YtkiphaagdckkjaaDoor
