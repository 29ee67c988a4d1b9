/- proto.Encode: what is refused. -/
import Derived.Test.YtedacfjkbfgikaaPrF
namespace Go.Proofs.Ytedacfjkbfgikaa
open Go.RowKit
set_option linter.unusedVariables false
set_option maxRecDepth 100000 in
set_option maxHeartbeats 4000000 in
theorem enc_no (r : RQ) (D A E F : Option Addr) (dn dc an ac en ec fn fc : Nat) (w : World) (h3 : Reads w w.heap.size 1 D dn (bv r.d)) (h4 : Reads w w.heap.size 1 A an (svs r.args)) (h5 : Reads w w.heap.size 1 E en (svs r.env)) (h6 : Reads w w.heap.size 1 F fn (ivs r.fds))
    (ho : i64ok r.op) (hn : dn ≤ 100000 ∧ an ≤ 1000 ∧ en ≤ 1000 ∧ fn ≤ 100000) (hno : r.ok = false) :
    Calls Try.prog 9 #[r.v D A E F dn dc an ac en ec fn fc] w fun e w' => e = .returned (.tuple #[.slice none 0 0, .int .i64 2]) ∧ Below w.heap.size w w' := by
  have hb := (Below.refl w.heap.size w).alloc (Nat.le_refl _) (.cells (qcs r D A E F dn dc an ac en ec fn fc) 26)
  have hk := Blk.new w 26 (qcs r D A E F dn dc an ac en ec fn fc)
  have XC := hide (check_any r D A E F dn dc an ac en ec fn fc (w.alloc (.cells (qcs r D A E F dn dc an ac en ec fn fc) 26)) ((h3.below hb).more hb.size) ((h4.below hb).more hb.size) ((h5.below hb).more hb.size) ((h6.below hb).more hb.size) ho hn)
  rw [hno] at XC
  unfold qcs at hb hk XC
  unfold RQ.v at XC ⊢
  have HB := hide hb
  have hs := hb.size
  clear h3 h4 h5 h6 hb
  obtain ⟨x0, x1, x2, x3, x4, x5, x6, x7, x8, x9⟩ := blk10 hk
  clear hk
  go_enter Try.func9, Try.ntmps9
  go_wp2_with fail
  refine XC.out.mono ?_
  rintro e w1 ⟨rfl, hb1⟩
  have HB1 := hide (below_more HB.out (Nat.le_refl _) hb1)
  clear XC hb1 HB
  go_wp2_with fail
  refine bodyPost_ret (v := .tuple #[.slice none 0 0, .int .i64 2]) (by simp only [results, Try.results9]; go_simp) rfl ⟨rfl, HB1.out⟩
end Go.Proofs.Ytedacfjkbfgikaa
