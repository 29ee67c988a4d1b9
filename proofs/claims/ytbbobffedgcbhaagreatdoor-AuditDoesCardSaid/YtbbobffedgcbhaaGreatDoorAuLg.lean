/- How a log that came in is opened. -/
import Derived.Test.YtbbobffedgcbhaaGreatDoorFinBase
import Derived.Test.YtbbobffedgcbhaaGreatDoorAuA
namespace Go.Proofs.YtbbobffedgcbhaaGreatDoor
open Go.ChangeShapes Go.WideShapes Go.ChangeAt Go.RowKit
set_option linter.unusedVariables false
theorem cDsk : Tryz.prog.cellsOf 24 = 5 := by kernel_rfl
set_option maxRecDepth 100000 in
/-- The disk in a log. -/
theorem dsk_of {H : Type} {enc : TypeId × Value → H} {W : World} {base : Nat} {spare : Nat → Bool} {held : Bool} {fuel : Nat} {cs : List Value} {x : DataW H × List MemPlace}
    (h : DataW.trod enc Tryz.prog W base spare held fuel 24 cs = some x) :
    ∃ (A : Option Addr) (n c : Nat) (s : LB) (B : Option Addr) (m k : Nat) (p : LB) (room : Int) (dead : Bool) (arm : Int), cs = [.slice A n c, .slice B m k, .int .i64 room, .bool dead, .int .i64 arm] ∧ Rd W A n s ∧ n ≤ c ∧ Rd W B m p ∧ m ≤ k ∧ i64R arm := by
  obtain ⟨xs, n, _, _, hlen, hxl, hf⟩ := DataW.trod_struct Tryz.underlying24 h
  have hl : cs.length = 5 := hlen.trans cDsk
  have hx4 : xs.length = 5 := hxl
  match cs, hl, xs, hx4 with
  | [v0, v1, v2, v3, v4], _, [y0, y1, y2, y3, y4], _ =>
    have f0 := hf 0 _ rfl
    have f1 := hf 1 _ rfl
    have f2 := hf 2 _ rfl
    have f3 := hf 3 _ rfl
    have f4 := hf 4 _ rfl
    have k1 : Tryz.prog.cellsOf 22 = 1 := by kernel_rfl
    have k2 : Tryz.prog.cellsOf 3 = 1 := by kernel_rfl
    have k3 : Tryz.prog.cellsOf 4 = 1 := by kernel_rfl
    simp [k1, k2, k3] at f0 f1 f2 f3 f4
    obtain ⟨A, n, c, s, rfl, hr, hl1, hm1⟩ := bytes_of_trod Tryz.underlying22 Tryz.underlying5 (by kernel_rfl) f0
    obtain ⟨B, m, k, p, rfl, hp, hl2, hm2⟩ := bytes_of_trod Tryz.underlying22 Tryz.underlying5 (by kernel_rfl) f1
    obtain ⟨q, e2, _, wq⟩ := DataW.trod_int Tryz.underlying3 f2
    obtain ⟨b, e3, _⟩ := DataW.trod_bool Tryz.underlying4 f3
    obtain ⟨o, e4, _, wo⟩ := DataW.trod_int Tryz.underlying3 f4
    injection e2 with e2
    injection e3 with e3
    injection e4 with e4
    subst e2; subst e3; subst e4
    exact ⟨A, n, c, s, B, m, k, p, q, b, o, rfl, hr, hl1, hp, hl2, i64R_of wo⟩
set_option maxRecDepth 100000 in
theorem log_of {H : Type} {enc : TypeId × Value → H} {W : World} {base : Nat} {sp : Nat → Bool} {held : Bool} {v : Value} {d : DataW H} {pl : List MemPlace}
    (hval : Value.okWide Tryz.prog W .any base 26 v) (h : DataW.Trod enc Tryz.prog W 0 sp held 26 v d pl) :
    ∃ (L : Lg) (A : Option Addr) (n c : Nat) (B : Option Addr) (m k : Nat) (H' : Option Addr) (hn hc : Nat), v = lv L A n c B m k H' hn hc ∧ Rd W A n L.s ∧ n ≤ c ∧ Rd W B m L.p ∧ m ≤ k ∧ Rd W H' hn L.hash ∧ hn ≤ hc ∧ i64R L.arm := by
  obtain ⟨cells, rfl, hsize⟩ := okWide_struct Tryz.underlying26 hval
  have h5 : cells.size = 8 := hsize.trans (by kernel_rfl)
  obtain ⟨fuel, hf⟩ := h
  obtain ⟨xs, m, _, _, _, hxs, hat⟩ := DataW.trod_struct Tryz.underlying26 hf
  match cells, h5 with
  | ⟨[v0, v1, v2, v3, v4, v5, v6, v7]⟩, _ =>
    match xs, hxs with
    | [y0, y1, y2, y3], _ =>
      have f0 := hat 0 _ rfl
      have f1 := hat 1 _ rfl
      have f2 := hat 2 _ rfl
      have f3 := hat 3 _ rfl
      have k1 : Tryz.prog.cellsOf 22 = 1 := by kernel_rfl
      have k2 : Tryz.prog.cellsOf 3 = 1 := by kernel_rfl
      have k3 : Tryz.prog.cellsOf 4 = 1 := by kernel_rfl
      simp [Value.cells, k1, k2, k3, cDsk] at f0 f1 f2 f3
      obtain ⟨A, n, c, s, B, m', k, p, room, dead, arm, e0, hr, hl1, hp, hl2, wa⟩ := dsk_of f0
      injection e0 with a0 e0
      injection e0 with a1 e0
      injection e0 with a2 e0
      injection e0 with a3 e0
      injection e0 with a4 e0
      subst a0; subst a1; subst a2; subst a3; subst a4
      obtain ⟨q, e1, _, wq⟩ := DataW.trod_int Tryz.underlying3 f1
      obtain ⟨H', hn, hc, hs, rfl, hh, hl3, _⟩ := bytes_of_trod Tryz.underlying22 Tryz.underlying5 (by kernel_rfl) f2
      obtain ⟨b, e3, _⟩ := DataW.trod_bool Tryz.underlying4 f3
      injection e1 with e1
      injection e3 with e3
      subst e1; subst e3
      exact ⟨⟨s, p, room, dead, arm, q, hs, b⟩, A, n, c, B, m', k, H', hn, hc, rfl, hr, hl1, hp, hl2, hh, hl3, wa⟩
end Go.Proofs.YtbbobffedgcbhaaGreatDoor
