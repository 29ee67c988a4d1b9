/- audit.Check, Records. -/
import Derived.Test.YtbbobffedgcbhaaGreatDoorAuA
namespace Go.Proofs.YtbbobffedgcbhaaGreatDoor
open Go.RowKit
set_option linter.unusedVariables false
set_option maxRecDepth 100000 in
set_option maxHeartbeats 2000000 in
theorem acheck_any (L : Lg) (A : Option Addr) (n c : Nat) (B : Option Addr) (m k : Nat) (H : Option Addr) (hn hc : Nat) (w : World) (hI : LogIn w L A n c B m k H hn hc) (hS : Std w) (hT : Tabs w) :
    Calls Tryz.prog 14 #[lv L A n c B m k H hn hc] w fun e w' => e = .returned (.bool (okL L)) ∧ Below w.heap.size w w' := by
  have hb := bl_alloc w (.cells (lcs L A n c B m k H hn hc) 26)
  have X := hide (ascan_any L A n c B m k H hn hc _ (hI.below hb) (hS.below hb) (hT.below hb))
  have HB := hide hb
  clear hb hS hT hI
  obtain ⟨s, p, room, dead, arm, seq, hash, stop⟩ := L
  unfold AScan at X
  generalize okL ⟨s, p, room, dead, arm, seq, hash, stop⟩ = OK at *
  unfold lcs lv at *
  dsimp only at *
  go_enter Tryz.func14, Tryz.ntmps14
  go_wp2_with fail
  refine X.out.mono ?_
  rintro e1 w1 (⟨rfl, O, co, l, rfl, _, _, h4⟩ | ⟨rfl, rfl, h4⟩)
  all_goals
    have HB1 := hide (below_more HB.out (Nat.le_refl _) h4)
    clear h4 X
    go_wp2_with fail
    go_ret
    exact ⟨rfl, HB1.out⟩
set_option maxRecDepth 100000 in
set_option maxHeartbeats 2000000 in
theorem arecords_any (L : Lg) (A : Option Addr) (n c : Nat) (B : Option Addr) (m k : Nat) (H : Option Addr) (hn hc : Nat) (w : World) (hI : LogIn w L A n c B m k H hn hc) (hS : Std w) (hT : Tabs w) (hok : okL L = true) :
    Calls Tryz.prog 16 #[lv L A n c B m k H hn hc] w fun e w' => ∃ O co l, e = .returned (.slice O l.length co) ∧ OutR w.heap.size w' O l.length co l ∧ l.map RV.r = (scanB L.s).1 ∧ Below w.heap.size w w' := by
  have hb := bl_alloc w (.cells (lcs L A n c B m k H hn hc) 26)
  have X := hide (ascan_any L A n c B m k H hn hc _ (hI.below hb) (hS.below hb) (hT.below hb))
  have HB := hide hb
  clear hb hS hT hI
  obtain ⟨s, p, room, dead, arm, seq, hash, stop⟩ := L
  unfold AScan at X
  rw [hok] at X
  clear hok
  unfold lcs lv at *
  dsimp only at *
  go_enter Tryz.func16, Tryz.ntmps16
  go_wp2_with fail
  refine X.out.mono ?_
  rintro e1 w1 (⟨_, O, co, l, rfl, h2, h3, h4⟩ | ⟨h, _⟩)
  · have HB1 := hide (below_more HB.out (Nat.le_refl _) h4)
    have HO1 := hide (h2.more HB.out.size)
    have HM1 := hide h3
    obtain ⟨q, hq⟩ : ∃ q, l.length = q := ⟨_, rfl⟩
    have HQ := hide hq
    rw [hq] at HO1 ⊢
    clear h2 h3 h4 X hq
    go_wp2_with fail
    go_ret
    exact ⟨O, co, l, by rw [HQ.out]; rfl, by rw [HQ.out]; exact HO1.out, HM1.out, HB1.out⟩
  · cases h
end Go.Proofs.YtbbobffedgcbhaaGreatDoor
