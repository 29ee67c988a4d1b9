/- A request in a box; the nine that write its fields. -/
import Derived.Test.YtedacfjkbfgikaaPrK
namespace Go.Proofs.Ytedacfjkbfgikaa
open Go.RowKit
set_option linter.unusedVariables false
structure RQ where
  op : Int
  p : LB
  p2 : LB
  h : Int
  n : Int
  fl : Int
  d : LB
  args : List LB
  env : List LB
  fds : List Int
def RqAt (B gr : Nat) (r : RQ) (w : World) : Prop := ∃ D dn dc A an ac E en ec F fn fc, Blk w gr 26 #[.int .i64 r.op, .string ⟨r.p.toArray⟩, .string ⟨r.p2.toArray⟩, .int .i64 r.h, .int .i64 r.n, .int .i64 r.fl, .slice D dn dc, .slice A an ac, .slice E en ec, .slice F fn fc] ∧ gr < B ∧
  Reads w B 1 D dn (bv r.d) ∧ Reads w B 1 A an (svs r.args) ∧ Reads w B 1 E en (svs r.env) ∧ Reads w B 1 F fn (ivs r.fds)
theorem reads_kept {w w' : World} {B n : Nat} {A : Option Addr} {xs : List Value} (h : Reads w B 1 A n xs) (hk : ∀ x, x < B → w'.heap[x]? = w.heap[x]?) : Reads w' B 1 A n xs := h.keep fun p hp => World.cell?_of_block (hk p.block hp)
theorem RqAt.keep {B gr : Nat} {r : RQ} {w w' : World} (h : RqAt B gr r w) (hk : ∀ x, x < B → w'.heap[x]? = w.heap[x]?) : RqAt B gr r w' := by
  obtain ⟨D, dn, dc, A, an, ac, E, en, ec, F, fn, fc, h1, h2, h3, h4, h5, h6⟩ := h
  exact ⟨D, dn, dc, A, an, ac, E, en, ec, F, fn, fc, (hk gr h2).trans h1, h2, reads_kept h3 hk, reads_kept h4 hk, reads_kept h5 hk, reads_kept h6 hk⟩
/-- Where a request is being written. -/
def WI (gf : Nat) (cs : Array Value) (w0 : World) (B g gr : Nat) (r : RQ) (bs : LB) (w : World) : Prop := OutAt g B bs w ∧ RqAt B gr r w ∧ B ≤ g ∧ B ≤ w.heap.size ∧ Below B w0 w ∧ Blk w gf 62 cs
theorem OutAt.lt {B g : Nat} {bs : LB} {w : World} (h : OutAt g B bs w) : g < w.heap.size := by
  obtain ⟨A, n, c, h1, h2⟩ := h
  exact h1.lt
theorem OutAt.below {B g : Nat} {bs : LB} {w w' : World} (h : OutAt g B bs w) (hb : Below w.heap.size w w') : OutAt g B bs w' := by
  obtain ⟨A, n, c, h1, h2⟩ := h
  exact ⟨A, n, c, h1.below hb h1.lt, h2.below hb⟩
theorem WI.below {gf : Nat} {cs : Array Value} {w0 : World} {B g gr : Nat} {r : RQ} {bs : LB} {w w' : World} (h : WI gf cs w0 B g gr r bs w) (hb : Below w.heap.size w w') : WI gf cs w0 B g gr r bs w' :=
  ⟨h.1.below hb, h.2.1.keep fun x hx => hb.block x (Nat.lt_of_lt_of_le hx h.2.2.2.1), h.2.2.1, Nat.le_trans h.2.2.2.1 hb.size, h.2.2.2.2.1.trans (hb.mono h.2.2.2.1), h.2.2.2.2.2.below hb h.2.2.2.2.2.lt⟩
theorem WI.add {gf : Nat} {cs : Array Value} {w0 : World} {B g gr : Nat} {r : RQ} {bs b : LB} {w w' : World} (h : WI gf cs w0 B g gr r bs w) (ho : OutAt g B (bs ++ b) w') (hk : Ad B g w w') : WI gf cs w0 B g gr r (bs ++ b) w' :=
  ⟨ho, h.2.1.keep fun x hx => hk.block x hx (by have := h.2.2.1; omega), h.2.2.1, Nat.le_trans h.2.2.2.1 hk.size, h.2.2.2.2.1.trans ⟨hk.os, hk.tape, hk.output, hk.size, fun x hx => hk.block x hx (by have := h.2.2.1; omega)⟩, hk.typed gf 62 cs h.2.2.2.2.2 (by decide) (by
    obtain ⟨A, n, c, h1, h2⟩ := h.1
    exact h.2.2.2.2.2.ne_ h1 (by decide))⟩
theorem bvlen {w : World} {B n : Nat} {A : Option Addr} {xs : List Value} (h : Reads w B 1 A n xs) : xs.length = n := by have := h.1; omega

set_option maxRecDepth 100000 in
set_option maxHeartbeats 4000000 in
theorem wr1_any (gf : Nat) (cs : Array Value) (w0 : World) (B g gr : Nat) (r : RQ) (bs : LB) (w : World) (h : WI gf cs w0 B g gr r bs w) (hb0 : bs.length ≤ 500000) (hv1 : -9223372036854775808 ≤ r.h) (hv2 : r.h ≤ 9223372036854775807) :
    Calls Try.prog 27 #[.pointer (some ⟨g, 0, none⟩), .pointer (some ⟨gr, 0, none⟩)] w fun e w' => e = .returned (.tuple #[]) ∧ WI gf cs w0 B g gr r (bs ++ (intP r.h)) w' := by
  have HW := hide h
  obtain ⟨hO, hR, hBg, hBw, -⟩ := h
  obtain ⟨D, dn, dc, A, an, ac, E, en, ec, F, fn, fc, hk, hgr, h3, h4, h5, h6⟩ := hR
  have ci := hk.cell 3
  simp only [List.getElem?_toArray, List.getElem?_cons_succ, List.getElem?_cons_zero] at ci
  have XP := hide (integer_any r.h w hv1 hv2)
  clear hk hO h3 h4 h5 h6
  go_enter Try.func27, Try.ntmps27
  go_wp2_with fail
  with_reducible refine XP.out.mono ?_
  rintro e w1 ⟨A1, c1, rfl, ho, hb⟩
  have HW1 := hide (HW.out.below hb)
  have XA := hide (add_any g B bs A1 4 c1 (intP r.h) w1 HW1.out.1 HW1.out.2.2.2.1 ho.rd (by omega) (by omega) ho.le)
  clear ho hb XP
  go_wp2_with fail
  with_reducible refine XA.out.mono ?_
  rintro e w2 ⟨rfl, ho2, hk2⟩
  have HW2 := hide (HW1.out.add ho2 hk2)
  clear ho2 hk2 XA
  go_wp2_with fail
  go_end0
  exact ⟨rfl, HW2.out⟩

set_option maxRecDepth 100000 in
set_option maxHeartbeats 4000000 in
theorem wr2_any (gf : Nat) (cs : Array Value) (w0 : World) (B g gr : Nat) (r : RQ) (bs : LB) (w : World) (h : WI gf cs w0 B g gr r bs w) (hb0 : bs.length ≤ 500000) (hv : r.p.length ≤ 100000) :
    Calls Try.prog 30 #[.pointer (some ⟨g, 0, none⟩), .pointer (some ⟨gr, 0, none⟩)] w fun e w' => e = .returned (.tuple #[]) ∧ WI gf cs w0 B g gr r (bs ++ (txtP r.p)) w' := by
  have HW := hide h
  obtain ⟨hO, hR, hBg, hBw, -⟩ := h
  obtain ⟨D, dn, dc, A, an, ac, E, en, ec, F, fn, fc, hk, hgr, h3, h4, h5, h6⟩ := hR
  have ci := hk.cell 1
  simp only [List.getElem?_toArray, List.getElem?_cons_succ, List.getElem?_cons_zero] at ci
  have XP := hide (ptext_any r.p w (by omega))
  clear hk hO h3 h4 h5 h6
  go_enter Try.func30, Try.ntmps30
  go_wp2_with fail
  with_reducible refine XP.out.mono ?_
  rintro e w1 ⟨A1, c1, rfl, ho, hb⟩
  have HW1 := hide (HW.out.below hb)
  have XA := hide (add_any g B bs A1 (2 + r.p.length) c1 (txtP r.p) w1 HW1.out.1 HW1.out.2.2.2.1 ho.rd (by omega) (by omega) ho.le)
  clear ho hb XP
  go_wp2_with fail
  with_reducible refine XA.out.mono ?_
  rintro e w2 ⟨rfl, ho2, hk2⟩
  have HW2 := hide (HW1.out.add ho2 hk2)
  clear ho2 hk2 XA
  go_wp2_with fail
  go_end0
  exact ⟨rfl, HW2.out⟩

set_option maxRecDepth 100000 in
set_option maxHeartbeats 4000000 in
theorem wr3_any (gf : Nat) (cs : Array Value) (w0 : World) (B g gr : Nat) (r : RQ) (bs : LB) (w : World) (h : WI gf cs w0 B g gr r bs w) (hb0 : bs.length ≤ 500000) (hv : r.p2.length ≤ 100000) :
    Calls Try.prog 32 #[.pointer (some ⟨g, 0, none⟩), .pointer (some ⟨gr, 0, none⟩)] w fun e w' => e = .returned (.tuple #[]) ∧ WI gf cs w0 B g gr r (bs ++ (txtP r.p2)) w' := by
  have HW := hide h
  obtain ⟨hO, hR, hBg, hBw, -⟩ := h
  obtain ⟨D, dn, dc, A, an, ac, E, en, ec, F, fn, fc, hk, hgr, h3, h4, h5, h6⟩ := hR
  have ci := hk.cell 2
  simp only [List.getElem?_toArray, List.getElem?_cons_succ, List.getElem?_cons_zero] at ci
  have XP := hide (ptext_any r.p2 w (by omega))
  clear hk hO h3 h4 h5 h6
  go_enter Try.func32, Try.ntmps32
  go_wp2_with fail
  with_reducible refine XP.out.mono ?_
  rintro e w1 ⟨A1, c1, rfl, ho, hb⟩
  have HW1 := hide (HW.out.below hb)
  have XA := hide (add_any g B bs A1 (2 + r.p2.length) c1 (txtP r.p2) w1 HW1.out.1 HW1.out.2.2.2.1 ho.rd (by omega) (by omega) ho.le)
  clear ho hb XP
  go_wp2_with fail
  with_reducible refine XA.out.mono ?_
  rintro e w2 ⟨rfl, ho2, hk2⟩
  have HW2 := hide (HW1.out.add ho2 hk2)
  clear ho2 hk2 XA
  go_wp2_with fail
  go_end0
  exact ⟨rfl, HW2.out⟩

set_option maxRecDepth 100000 in
set_option maxHeartbeats 4000000 in
theorem wr4_any (gf : Nat) (cs : Array Value) (w0 : World) (B g gr : Nat) (r : RQ) (bs : LB) (w : World) (h : WI gf cs w0 B g gr r bs w) (hb0 : bs.length ≤ 500000) (hv : r.args.length ≤ 100000) (hT : (catP (r.args.map txtP)).length ≤ 500000) :
    Calls Try.prog 33 #[.pointer (some ⟨g, 0, none⟩), .pointer (some ⟨gr, 0, none⟩)] w fun e w' => e = .returned (.tuple #[]) ∧ WI gf cs w0 B g gr r (bs ++ (lstP r.args)) w' := by
  have HW := hide h
  obtain ⟨hO, hR, hBg, hBw, -⟩ := h
  obtain ⟨D, dn, dc, A, an, ac, E, en, ec, F, fn, fc, hk, hgr, h3, h4, h5, h6⟩ := hR
  have ci := hk.cell 7
  simp only [List.getElem?_toArray, List.getElem?_cons_succ, List.getElem?_cons_zero] at ci
  have XP := hide (plist_any r.args A an ac w (h4.more hBw) (by have := bvlen h4; simp [svs] at this; omega) hT)
  clear hk hO h3 h4 h5 h6
  go_enter Try.func33, Try.ntmps33
  go_wp2_with fail
  with_reducible refine XP.out.mono ?_
  rintro e w1 ⟨A1, c1, rfl, ho, hb⟩
  have HW1 := hide (HW.out.below hb)
  have XA := hide (add_any g B bs A1 (1 + (catP (r.args.map txtP)).length) c1 (lstP r.args) w1 HW1.out.1 HW1.out.2.2.2.1 ho.rd (by omega) (by omega) ho.le)
  clear ho hb XP
  go_wp2_with fail
  with_reducible refine XA.out.mono ?_
  rintro e w2 ⟨rfl, ho2, hk2⟩
  have HW2 := hide (HW1.out.add ho2 hk2)
  clear ho2 hk2 XA
  go_wp2_with fail
  go_end0
  exact ⟨rfl, HW2.out⟩

set_option maxRecDepth 100000 in
set_option maxHeartbeats 4000000 in
theorem wr5_any (gf : Nat) (cs : Array Value) (w0 : World) (B g gr : Nat) (r : RQ) (bs : LB) (w : World) (h : WI gf cs w0 B g gr r bs w) (hb0 : bs.length ≤ 500000) (hv : r.env.length ≤ 100000) (hT : (catP (r.env.map txtP)).length ≤ 500000) :
    Calls Try.prog 35 #[.pointer (some ⟨g, 0, none⟩), .pointer (some ⟨gr, 0, none⟩)] w fun e w' => e = .returned (.tuple #[]) ∧ WI gf cs w0 B g gr r (bs ++ (lstP r.env)) w' := by
  have HW := hide h
  obtain ⟨hO, hR, hBg, hBw, -⟩ := h
  obtain ⟨D, dn, dc, A, an, ac, E, en, ec, F, fn, fc, hk, hgr, h3, h4, h5, h6⟩ := hR
  have ci := hk.cell 8
  simp only [List.getElem?_toArray, List.getElem?_cons_succ, List.getElem?_cons_zero] at ci
  have XP := hide (plist_any r.env E en ec w (h5.more hBw) (by have := bvlen h5; simp [svs] at this; omega) hT)
  clear hk hO h3 h4 h5 h6
  go_enter Try.func35, Try.ntmps35
  go_wp2_with fail
  with_reducible refine XP.out.mono ?_
  rintro e w1 ⟨A1, c1, rfl, ho, hb⟩
  have HW1 := hide (HW.out.below hb)
  have XA := hide (add_any g B bs A1 (1 + (catP (r.env.map txtP)).length) c1 (lstP r.env) w1 HW1.out.1 HW1.out.2.2.2.1 ho.rd (by omega) (by omega) ho.le)
  clear ho hb XP
  go_wp2_with fail
  with_reducible refine XA.out.mono ?_
  rintro e w2 ⟨rfl, ho2, hk2⟩
  have HW2 := hide (HW1.out.add ho2 hk2)
  clear ho2 hk2 XA
  go_wp2_with fail
  go_end0
  exact ⟨rfl, HW2.out⟩

set_option maxRecDepth 100000 in
set_option maxHeartbeats 4000000 in
theorem wr6_any (gf : Nat) (cs : Array Value) (w0 : World) (B g gr : Nat) (r : RQ) (bs : LB) (w : World) (h : WI gf cs w0 B g gr r bs w) (hb0 : bs.length ≤ 500000) (hv : r.fds.length ≤ 100000) (hT : (catP (r.fds.map intP)).length ≤ 500000) (hv64 : ∀ x ∈ r.fds, -9223372036854775808 ≤ x ∧ x ≤ 9223372036854775807) :
    Calls Try.prog 36 #[.pointer (some ⟨g, 0, none⟩), .pointer (some ⟨gr, 0, none⟩)] w fun e w' => e = .returned (.tuple #[]) ∧ WI gf cs w0 B g gr r (bs ++ (numsP r.fds)) w' := by
  have HW := hide h
  obtain ⟨hO, hR, hBg, hBw, -⟩ := h
  obtain ⟨D, dn, dc, A, an, ac, E, en, ec, F, fn, fc, hk, hgr, h3, h4, h5, h6⟩ := hR
  have ci := hk.cell 9
  simp only [List.getElem?_toArray, List.getElem?_cons_succ, List.getElem?_cons_zero] at ci
  have XP := hide (pnums_any r.fds F fn fc w (h6.more hBw) (by have := bvlen h6; simp [ivs] at this; omega) hT hv64)
  clear hk hO h3 h4 h5 h6
  go_enter Try.func36, Try.ntmps36
  go_wp2_with fail
  with_reducible refine XP.out.mono ?_
  rintro e w1 ⟨A1, c1, rfl, ho, hb⟩
  have HW1 := hide (HW.out.below hb)
  have XA := hide (add_any g B bs A1 (1 + (catP (r.fds.map intP)).length) c1 (numsP r.fds) w1 HW1.out.1 HW1.out.2.2.2.1 ho.rd (by omega) (by omega) ho.le)
  clear ho hb XP
  go_wp2_with fail
  with_reducible refine XA.out.mono ?_
  rintro e w2 ⟨rfl, ho2, hk2⟩
  have HW2 := hide (HW1.out.add ho2 hk2)
  clear ho2 hk2 XA
  go_wp2_with fail
  go_end0
  exact ⟨rfl, HW2.out⟩

set_option maxRecDepth 100000 in
set_option maxHeartbeats 4000000 in
theorem wr7_any (gf : Nat) (cs : Array Value) (w0 : World) (B g gr : Nat) (r : RQ) (bs : LB) (w : World) (h : WI gf cs w0 B g gr r bs w) (hb0 : bs.length ≤ 500000) (hv1 : -9223372036854775808 ≤ r.fl) (hv2 : r.fl ≤ 9223372036854775807) :
    Calls Try.prog 38 #[.pointer (some ⟨g, 0, none⟩), .pointer (some ⟨gr, 0, none⟩)] w fun e w' => e = .returned (.tuple #[]) ∧ WI gf cs w0 B g gr r (bs ++ (intP r.fl)) w' := by
  have HW := hide h
  obtain ⟨hO, hR, hBg, hBw, -⟩ := h
  obtain ⟨D, dn, dc, A, an, ac, E, en, ec, F, fn, fc, hk, hgr, h3, h4, h5, h6⟩ := hR
  have ci := hk.cell 5
  simp only [List.getElem?_toArray, List.getElem?_cons_succ, List.getElem?_cons_zero] at ci
  have XP := hide (integer_any r.fl w hv1 hv2)
  clear hk hO h3 h4 h5 h6
  go_enter Try.func38, Try.ntmps38
  go_wp2_with fail
  with_reducible refine XP.out.mono ?_
  rintro e w1 ⟨A1, c1, rfl, ho, hb⟩
  have HW1 := hide (HW.out.below hb)
  have XA := hide (add_any g B bs A1 4 c1 (intP r.fl) w1 HW1.out.1 HW1.out.2.2.2.1 ho.rd (by omega) (by omega) ho.le)
  clear ho hb XP
  go_wp2_with fail
  with_reducible refine XA.out.mono ?_
  rintro e w2 ⟨rfl, ho2, hk2⟩
  have HW2 := hide (HW1.out.add ho2 hk2)
  clear ho2 hk2 XA
  go_wp2_with fail
  go_end0
  exact ⟨rfl, HW2.out⟩

set_option maxRecDepth 100000 in
set_option maxHeartbeats 4000000 in
theorem wr8_any (gf : Nat) (cs : Array Value) (w0 : World) (B g gr : Nat) (r : RQ) (bs : LB) (w : World) (h : WI gf cs w0 B g gr r bs w) (hb0 : bs.length ≤ 500000) (hv1 : -9223372036854775808 ≤ r.n) (hv2 : r.n ≤ 9223372036854775807) :
    Calls Try.prog 39 #[.pointer (some ⟨g, 0, none⟩), .pointer (some ⟨gr, 0, none⟩)] w fun e w' => e = .returned (.tuple #[]) ∧ WI gf cs w0 B g gr r (bs ++ (intP r.n)) w' := by
  have HW := hide h
  obtain ⟨hO, hR, hBg, hBw, -⟩ := h
  obtain ⟨D, dn, dc, A, an, ac, E, en, ec, F, fn, fc, hk, hgr, h3, h4, h5, h6⟩ := hR
  have ci := hk.cell 4
  simp only [List.getElem?_toArray, List.getElem?_cons_succ, List.getElem?_cons_zero] at ci
  have XP := hide (integer_any r.n w hv1 hv2)
  clear hk hO h3 h4 h5 h6
  go_enter Try.func39, Try.ntmps39
  go_wp2_with fail
  with_reducible refine XP.out.mono ?_
  rintro e w1 ⟨A1, c1, rfl, ho, hb⟩
  have HW1 := hide (HW.out.below hb)
  have XA := hide (add_any g B bs A1 4 c1 (intP r.n) w1 HW1.out.1 HW1.out.2.2.2.1 ho.rd (by omega) (by omega) ho.le)
  clear ho hb XP
  go_wp2_with fail
  with_reducible refine XA.out.mono ?_
  rintro e w2 ⟨rfl, ho2, hk2⟩
  have HW2 := hide (HW1.out.add ho2 hk2)
  clear ho2 hk2 XA
  go_wp2_with fail
  go_end0
  exact ⟨rfl, HW2.out⟩

set_option maxRecDepth 100000 in
set_option maxHeartbeats 4000000 in
theorem wr9_any (gf : Nat) (cs : Array Value) (w0 : World) (B g gr : Nat) (r : RQ) (bs : LB) (w : World) (h : WI gf cs w0 B g gr r bs w) (hb0 : bs.length ≤ 500000) (hv : r.d.length ≤ 100000) :
    Calls Try.prog 40 #[.pointer (some ⟨g, 0, none⟩), .pointer (some ⟨gr, 0, none⟩)] w fun e w' => e = .returned (.tuple #[]) ∧ WI gf cs w0 B g gr r (bs ++ (txtP r.d)) w' := by
  have HW := hide h
  obtain ⟨hO, hR, hBg, hBw, -⟩ := h
  obtain ⟨D, dn, dc, A, an, ac, E, en, ec, F, fn, fc, hk, hgr, h3, h4, h5, h6⟩ := hR
  have ci := hk.cell 6
  simp only [List.getElem?_toArray, List.getElem?_cons_succ, List.getElem?_cons_zero] at ci
  have XP := hide (ptext_any r.d w (by omega))
  have hst := run_string_of (P := Try.prog) w B 22 9 5 D dn dc r.d Try.underlying22 Try.underlying5 Try.underlying9 h3
  clear hk hO h3 h4 h5 h6
  go_enter Try.func40, Try.ntmps40
  go_wp2_with fail
  with_reducible refine XP.out.mono ?_
  rintro e w1 ⟨A1, c1, rfl, ho, hb⟩
  have HW1 := hide (HW.out.below hb)
  have XA := hide (add_any g B bs A1 (2 + r.d.length) c1 (txtP r.d) w1 HW1.out.1 HW1.out.2.2.2.1 ho.rd (by omega) (by omega) ho.le)
  clear ho hb XP
  go_wp2_with fail
  with_reducible refine XA.out.mono ?_
  rintro e w2 ⟨rfl, ho2, hk2⟩
  have HW2 := hide (HW1.out.add ho2 hk2)
  clear ho2 hk2 XA
  go_wp2_with fail
  go_end0
  exact ⟨rfl, HW2.out⟩
end Go.Proofs.Ytedacfjkbfgikaa
