/- chain.Scan, chain.Verify, chain.Head. -/
import Derived.Test.YtbbobffedgcbhaaGreatDoorChT
namespace Go.Proofs.YtbbobffedgcbhaaGreatDoor
open Go.RowKit
set_option linter.unusedVariables false
def lenP : List Rec → Nat
  | [] => 0
  | r :: l => 2 + (encP r).length + 32 + lenP l
theorem lenP_append (a b : List Rec) : lenP (a ++ b) = lenP a + lenP b := by
  induction a with
  | nil => simp [lenP]
  | cons r l ih => simp only [List.cons_append, lenP, ih]; omega
theorem scan_lenP (f : Nat) : ∀ (h : LB) (k : Nat) (b : LB), lenP (scanP f h k b).1 = (scanP f h k b).2.2 := by
  induction f with
  | zero => intro h k b; rfl
  | succ f ih =>
    intro h k b
    simp only [scanP]
    cases e : nextP h k b with
    | none => rfl
    | some x =>
      obtain ⟨r, own, n⟩ := x
      obtain ⟨body, h1, h2, h3, h4, h5⟩ := next_some e
      have h6 := (dec_enc h3).2
      dsimp only
      rw [lenP, ih, h6, h5]
theorem at_lenP {bs : LB} {l : List Rec} {e : Nat} {h : LB} (H : AtS bs l e h) : e = lenP l := by
  obtain ⟨h1, h2, h3⟩ := H
  have h4 := scan_lenP bs.length zero32 0 bs
  have h5 := scan_lenP (bs.length - e) h l.length (bs.drop e)
  have h6 : lenP (scanB bs).1 = (scanB bs).2.2 := h4
  rw [h3] at h6
  dsimp only at h6
  rw [lenP_append, h5] at h6
  omega
def ScanEnd (bs : LB) (w : World) (e : Ending) (w' : World) : Prop := ∃ O co D dn l, e = .returned (.tuple #[.slice O l.length co, .slice D 32 dn, .int .i64 ((scanB bs).2.2 : Int)]) ∧ OutR w.heap.size w' O l.length co l ∧ l.map RV.r = (scanB bs).1 ∧ OwB w.heap.size w' D 32 dn (scanB bs).2.1 ∧ Below w.heap.size w w'
set_option maxRecDepth 100000 in
set_option maxHeartbeats 2000000 in
theorem scan_any (A : Option Addr) (n c : Nat) (bs : LB) (w : World) (hR : Rd w A n bs) (hnc : n ≤ c) (hn : n ≤ 30000) (hS : Std w) (hT : Tabs w) :
    Calls Tryz.prog 20 #[.slice A n c] w (ScanEnd bs w) := by
  have hb := bl_alloc w (.cells #[.slice none 0 0] 31)
  have hk := Blk.new w 31 #[.slice none 0 0]
  have X := hide (read_scan A n c bs w.heap.size _ (hR.below hb) hnc hn (hS.below hb) (hT.below hb) hk hT.2.2)
  have HB := hide hb
  clear hR hS hT hb hk
  go_enter Tryz.func20, Tryz.ntmps20
  go_wp2_with fail
  refine X.out.mono ?_
  rintro e w1 ⟨D, dn, rfl, h1, O, co, l, h2, h3, h4, h5⟩
  have HB1 := hide (HB.out.trans h5)
  have H1 := hide (own_more h1 (by simp : w.heap.size ≤ _))
  have H3 := hide (h3.more (Nat.le_succ w.heap.size))
  have H4 := hide h4
  have c0 := h2.cell 0
  simp at c0
  have cl := h2.lt
  clear h1 h2 h3 h4 h5 X HB
  obtain ⟨z, hz⟩ : ∃ z, (scanB bs).2.2 = z := ⟨_, rfl⟩
  have HEND : Hid (ScanEnd bs w (.returned (.tuple #[.slice O l.length co, .slice D 32 dn, .int .i64 (z : Int)])) w1) := hide ⟨O, co, D, dn, l, by rw [hz], H3.out, H4.out, H1.out, HB1.out⟩
  rw [hz]
  clear hz HB1 H1 H3 H4
  go_wp2_with fail
  refine bodyPost_ret (v := .tuple #[.slice O l.length co, .slice D 32 dn, .int .i64 (z : Int)]) (by simp only [results, Tryz.results20]; go_simp) rfl HEND.out
end Go.Proofs.YtbbobffedgcbhaaGreatDoor
