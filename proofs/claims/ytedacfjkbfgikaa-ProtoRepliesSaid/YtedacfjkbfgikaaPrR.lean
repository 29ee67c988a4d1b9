/- A reply in a box; the five that write its fields. -/
import Derived.Test.YtedacfjkbfgikaaPrQ
namespace Go.Proofs.Ytedacfjkbfgikaa
open Go.RowKit
set_option linter.unusedVariables false
structure RP where
  err : Int
  h : Int
  h2 : Int
  n : Int
  d : LB
  names : List LB
def RpAt (B gr : Nat) (r : RP) (w : World) : Prop := ∃ D dn dc A an ac, Blk w gr 43 #[.int .i64 r.err, .int .i64 r.h, .int .i64 r.h2, .int .i64 r.n, .slice D dn dc, .slice A an ac] ∧ gr < B ∧
  Reads w B 1 D dn (bv r.d) ∧ Reads w B 1 A an (svs r.names)
theorem RpAt.keep {B gr : Nat} {r : RP} {w w' : World} (h : RpAt B gr r w) (hk : ∀ x, x < B → w'.heap[x]? = w.heap[x]?) : RpAt B gr r w' := by
  obtain ⟨D, dn, dc, A, an, ac, h1, h2, h3, h4⟩ := h
  exact ⟨D, dn, dc, A, an, ac, (hk gr h2).trans h1, h2, reads_kept h3 hk, reads_kept h4 hk⟩
/-- Where a reply is being written. -/
def WP (gf : Nat) (cs : Array Value) (w0 : World) (B g gr : Nat) (r : RP) (bs : LB) (w : World) : Prop := OutAt g B bs w ∧ RpAt B gr r w ∧ B ≤ g ∧ B ≤ w.heap.size ∧ Below B w0 w ∧ Blk w gf 62 cs
theorem WP.below {gf : Nat} {cs : Array Value} {w0 : World} {B g gr : Nat} {r : RP} {bs : LB} {w w' : World} (h : WP gf cs w0 B g gr r bs w) (hb : Below w.heap.size w w') : WP gf cs w0 B g gr r bs w' :=
  ⟨h.1.below hb, h.2.1.keep fun x hx => hb.block x (Nat.lt_of_lt_of_le hx h.2.2.2.1), h.2.2.1, Nat.le_trans h.2.2.2.1 hb.size, h.2.2.2.2.1.trans (hb.mono h.2.2.2.1), h.2.2.2.2.2.below hb h.2.2.2.2.2.lt⟩
theorem WP.add {gf : Nat} {cs : Array Value} {w0 : World} {B g gr : Nat} {r : RP} {bs b : LB} {w w' : World} (h : WP gf cs w0 B g gr r bs w) (ho : OutAt g B (bs ++ b) w') (hk : Ad B g w w') : WP gf cs w0 B g gr r (bs ++ b) w' :=
  ⟨ho, h.2.1.keep fun x hx => hk.block x hx (by have := h.2.2.1; omega), h.2.2.1, Nat.le_trans h.2.2.2.1 hk.size, h.2.2.2.2.1.trans ⟨hk.os, hk.tape, hk.output, hk.size, fun x hx => hk.block x hx (by have := h.2.2.1; omega)⟩, hk.typed gf 62 cs h.2.2.2.2.2 (by decide) (by
    obtain ⟨A, n, c, h1, h2⟩ := h.1
    exact h.2.2.2.2.2.ne_ h1 (by decide))⟩

set_option maxRecDepth 100000 in
set_option maxHeartbeats 4000000 in
theorem wp1_any (gf : Nat) (cs : Array Value) (w0 : World) (B g gr : Nat) (r : RP) (bs : LB) (w : World) (h : WP gf cs w0 B g gr r bs w) (hb0 : bs.length ≤ 500000) (hv1 : -9223372036854775808 ≤ r.n) (hv2 : r.n ≤ 9223372036854775807) :
    Calls Try.prog 75 #[.pointer (some ⟨g, 0, none⟩), .pointer (some ⟨gr, 0, none⟩)] w fun e w' => e = .returned (.tuple #[]) ∧ WP gf cs w0 B g gr r (bs ++ (intP r.n)) w' := by
  have HW := hide h
  obtain ⟨hO, hR, hBg, hBw, -⟩ := h
  obtain ⟨D, dn, dc, A, an, ac, hk, hgr, h3, h4⟩ := hR
  have ci := hk.cell 3
  simp only [List.getElem?_toArray, List.getElem?_cons_succ, List.getElem?_cons_zero] at ci
  have XP := hide (integer_any r.n w hv1 hv2)
  clear hk hO h3 h4
  go_enter Try.func75, Try.ntmps75
  go_wp2_with fail
  with_reducible refine XP.out.mono ?_
  rintro e w1 ⟨A1, c1, rfl, ho, hb⟩
  have HW1 := hide (HW.out.below hb)
  have XA := hide (add_any g B bs A1 4 c1 (intP r.n) w1 HW1.out.1 HW1.out.2.2.2.1 ho.rd (by omega) (by omega) ho.le)
  clear ho hb XP
  go_wp2_with fail
  with_reducible refine XA.out.mono ?_
  rintro e w2 ⟨rfl, ho2, hk2⟩
  have HW2 := hide (HW1.out.add ho2 hk2)
  clear ho2 hk2 XA
  go_wp2_with fail
  go_end0
  exact ⟨rfl, HW2.out⟩

set_option maxRecDepth 100000 in
set_option maxHeartbeats 4000000 in
theorem wp2_any (gf : Nat) (cs : Array Value) (w0 : World) (B g gr : Nat) (r : RP) (bs : LB) (w : World) (h : WP gf cs w0 B g gr r bs w) (hb0 : bs.length ≤ 500000) (hv1 : -9223372036854775808 ≤ r.h) (hv2 : r.h ≤ 9223372036854775807) :
    Calls Try.prog 76 #[.pointer (some ⟨g, 0, none⟩), .pointer (some ⟨gr, 0, none⟩)] w fun e w' => e = .returned (.tuple #[]) ∧ WP gf cs w0 B g gr r (bs ++ (intP r.h)) w' := by
  have HW := hide h
  obtain ⟨hO, hR, hBg, hBw, -⟩ := h
  obtain ⟨D, dn, dc, A, an, ac, hk, hgr, h3, h4⟩ := hR
  have ci := hk.cell 1
  simp only [List.getElem?_toArray, List.getElem?_cons_succ, List.getElem?_cons_zero] at ci
  have XP := hide (integer_any r.h w hv1 hv2)
  clear hk hO h3 h4
  go_enter Try.func76, Try.ntmps76
  go_wp2_with fail
  with_reducible refine XP.out.mono ?_
  rintro e w1 ⟨A1, c1, rfl, ho, hb⟩
  have HW1 := hide (HW.out.below hb)
  have XA := hide (add_any g B bs A1 4 c1 (intP r.h) w1 HW1.out.1 HW1.out.2.2.2.1 ho.rd (by omega) (by omega) ho.le)
  clear ho hb XP
  go_wp2_with fail
  with_reducible refine XA.out.mono ?_
  rintro e w2 ⟨rfl, ho2, hk2⟩
  have HW2 := hide (HW1.out.add ho2 hk2)
  clear ho2 hk2 XA
  go_wp2_with fail
  go_end0
  exact ⟨rfl, HW2.out⟩

set_option maxRecDepth 100000 in
set_option maxHeartbeats 4000000 in
theorem wp3_any (gf : Nat) (cs : Array Value) (w0 : World) (B g gr : Nat) (r : RP) (bs : LB) (w : World) (h : WP gf cs w0 B g gr r bs w) (hb0 : bs.length ≤ 500000) (hv1 : -9223372036854775808 ≤ r.h2) (hv2 : r.h2 ≤ 9223372036854775807) :
    Calls Try.prog 77 #[.pointer (some ⟨g, 0, none⟩), .pointer (some ⟨gr, 0, none⟩)] w fun e w' => e = .returned (.tuple #[]) ∧ WP gf cs w0 B g gr r (bs ++ (intP r.h2)) w' := by
  have HW := hide h
  obtain ⟨hO, hR, hBg, hBw, -⟩ := h
  obtain ⟨D, dn, dc, A, an, ac, hk, hgr, h3, h4⟩ := hR
  have ci := hk.cell 2
  simp only [List.getElem?_toArray, List.getElem?_cons_succ, List.getElem?_cons_zero] at ci
  have XP := hide (integer_any r.h2 w hv1 hv2)
  clear hk hO h3 h4
  go_enter Try.func77, Try.ntmps77
  go_wp2_with fail
  with_reducible refine XP.out.mono ?_
  rintro e w1 ⟨A1, c1, rfl, ho, hb⟩
  have HW1 := hide (HW.out.below hb)
  have XA := hide (add_any g B bs A1 4 c1 (intP r.h2) w1 HW1.out.1 HW1.out.2.2.2.1 ho.rd (by omega) (by omega) ho.le)
  clear ho hb XP
  go_wp2_with fail
  with_reducible refine XA.out.mono ?_
  rintro e w2 ⟨rfl, ho2, hk2⟩
  have HW2 := hide (HW1.out.add ho2 hk2)
  clear ho2 hk2 XA
  go_wp2_with fail
  go_end0
  exact ⟨rfl, HW2.out⟩

set_option maxRecDepth 100000 in
set_option maxHeartbeats 4000000 in
theorem wp4_any (gf : Nat) (cs : Array Value) (w0 : World) (B g gr : Nat) (r : RP) (bs : LB) (w : World) (h : WP gf cs w0 B g gr r bs w) (hb0 : bs.length ≤ 500000) (hv : r.d.length ≤ 100000) :
    Calls Try.prog 78 #[.pointer (some ⟨g, 0, none⟩), .pointer (some ⟨gr, 0, none⟩)] w fun e w' => e = .returned (.tuple #[]) ∧ WP gf cs w0 B g gr r (bs ++ (txtP r.d)) w' := by
  have HW := hide h
  obtain ⟨hO, hR, hBg, hBw, -⟩ := h
  obtain ⟨D, dn, dc, A, an, ac, hk, hgr, h3, h4⟩ := hR
  have ci := hk.cell 4
  simp only [List.getElem?_toArray, List.getElem?_cons_succ, List.getElem?_cons_zero] at ci
  have XP := hide (ptext_any r.d w (by omega))
  have hst := run_string_of (P := Try.prog) w B 22 9 5 D dn dc r.d Try.underlying22 Try.underlying5 Try.underlying9 h3
  clear hk hO h3 h4
  go_enter Try.func78, Try.ntmps78
  go_wp2_with fail
  with_reducible refine XP.out.mono ?_
  rintro e w1 ⟨A1, c1, rfl, ho, hb⟩
  have HW1 := hide (HW.out.below hb)
  have XA := hide (add_any g B bs A1 (2 + r.d.length) c1 (txtP r.d) w1 HW1.out.1 HW1.out.2.2.2.1 ho.rd (by omega) (by omega) ho.le)
  clear ho hb XP
  go_wp2_with fail
  with_reducible refine XA.out.mono ?_
  rintro e w2 ⟨rfl, ho2, hk2⟩
  have HW2 := hide (HW1.out.add ho2 hk2)
  clear ho2 hk2 XA
  go_wp2_with fail
  go_end0
  exact ⟨rfl, HW2.out⟩

set_option maxRecDepth 100000 in
set_option maxHeartbeats 4000000 in
theorem wp5_any (gf : Nat) (cs : Array Value) (w0 : World) (B g gr : Nat) (r : RP) (bs : LB) (w : World) (h : WP gf cs w0 B g gr r bs w) (hb0 : bs.length ≤ 500000) (hv : r.names.length ≤ 100000) (hT : (catP (r.names.map txtP)).length ≤ 500000) :
    Calls Try.prog 79 #[.pointer (some ⟨g, 0, none⟩), .pointer (some ⟨gr, 0, none⟩)] w fun e w' => e = .returned (.tuple #[]) ∧ WP gf cs w0 B g gr r (bs ++ (lstP r.names)) w' := by
  have HW := hide h
  obtain ⟨hO, hR, hBg, hBw, -⟩ := h
  obtain ⟨D, dn, dc, A, an, ac, hk, hgr, h3, h4⟩ := hR
  have ci := hk.cell 5
  simp only [List.getElem?_toArray, List.getElem?_cons_succ, List.getElem?_cons_zero] at ci
  have XP := hide (plist_any r.names A an ac w (h4.more hBw) (by have := bvlen h4; simp [svs] at this; omega) hT)
  clear hk hO h3 h4
  go_enter Try.func79, Try.ntmps79
  go_wp2_with fail
  with_reducible refine XP.out.mono ?_
  rintro e w1 ⟨A1, c1, rfl, ho, hb⟩
  have HW1 := hide (HW.out.below hb)
  have XA := hide (add_any g B bs A1 (1 + (catP (r.names.map txtP)).length) c1 (lstP r.names) w1 HW1.out.1 HW1.out.2.2.2.1 ho.rd (by omega) (by omega) ho.le)
  clear ho hb XP
  go_wp2_with fail
  with_reducible refine XA.out.mono ?_
  rintro e w2 ⟨rfl, ho2, hk2⟩
  have HW2 := hide (HW1.out.add ho2 hk2)
  clear ho2 hk2 XA
  go_wp2_with fail
  go_end0
  exact ⟨rfl, HW2.out⟩
end Go.Proofs.Ytedacfjkbfgikaa
