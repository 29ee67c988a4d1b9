/- How a child that came in is opened. -/
import Derived.Test.YtlkccboongnneaaGreatDoorFinBaseP
import Derived.Test.YtlkccboongnneaaGreatDoorPgA
import Derived.Deep.Strs
namespace Go.Proofs.YtlkccboongnneaaGreatDoor
open Go.ChangeShapes Go.WideShapes Go.ChangeAt Go.RowKit
open Go.Deep (open_strs)
set_option linter.unusedVariables false
theorem rd_of_strs {W : World} {a : Addr} {len m : Nat} {Sx : Nat → ByteArray} (hl : len ≤ m) (hc : ∀ i, i < m → W.cell? (a.add i) = some (.string (Sx i)) ∧ (Sx i).size ≤ maxLen) :
    Reads W W.heap.size 1 (some a) len (svs ((List.range len).map fun i => (Sx i).data.toList)) := by
  refine ⟨by simp [svs], fun hn => ⟨a, rfl, ?_, ?_⟩⟩
  · have := World.block_lt_of_cell? W _ (hc 0 (by omega)).1
    rwa [block_of_add] at this
  · intro j u hj
    have hjl : j < len := by
      rcases Nat.lt_or_ge j len with h | h
      · exact h
      · rw [List.getElem?_eq_none (by simp [svs]; omega)] at hj; cases hj
    rw [(hc j (by omega)).1, ← hj]
    simp [svs, sv, hjl]
theorem cStr : Tryz.prog.cellsOf 9 = 1 := by kernel_rfl
theorem cInt : Tryz.prog.cellsOf 3 = 1 := by kernel_rfl
theorem strs_of_trod {H : Type} {enc : TypeId × Value → H} {W : World} {base : Nat} {spare : Nat → Bool} {held : Bool} {fuel : Nat} {v : Value} {x : DataW H × List MemPlace}
    (hf : DataW.trod enc Tryz.prog W base spare held fuel 22 [v] = some x) : ∃ A n c ks, v = .slice A n c ∧ Reads W W.heap.size 1 A n (svs ks) := by
  rcases open_strs Tryz.underlying22 Tryz.underlying9 cStr hf with ⟨hcs, _⟩ | ⟨y, l, cc, m, Sx, hcs, _, hl, hm, hmm, hd, hcell⟩
  · injection hcs with hcs
    exact ⟨none, 0, 0, [], hcs, Reads.none_⟩
  · injection hcs with hcs
    have hlm : l ≤ m := by rw [hmm]; split <;> omega
    exact ⟨some y, l, cc, _, hcs, rd_of_strs (W := W) hlm hcell⟩
theorem ints_of_trod {H : Type} {enc : TypeId × Value → H} {W : World} {base : Nat} {spare : Nat → Bool} {held : Bool} {fuel : Nat} {v : Value} {x : DataW H × List MemPlace}
    (hf : DataW.trod enc Tryz.prog W base spare held fuel 23 [v] = some x) : ∃ A n c zs, v = .slice A n c ∧ Reads W W.heap.size 1 A n (ivs zs) := by
  rcases open_ints Tryz.underlying23 Tryz.underlying3 cInt hf with ⟨hcs, _⟩ | ⟨y, l, cc, zs, hcs, _, hl, hm, hz, hd, hcell, hwz⟩
  · injection hcs with hcs
    exact ⟨none, 0, 0, [], hcs, Reads.none_⟩
  · injection hcs with hcs
    have hlz : l ≤ zs.length := by rw [hz]; split <;> omega
    refine ⟨some y, l, cc, zs.take l, hcs, ⟨by simp [ivs]; omega, fun hn => ⟨y, rfl, ?_, ?_⟩⟩⟩
    · have := World.block_lt_of_cell? W _ (hcell 0 (by omega))
      rwa [block_of_add] at this
    · intro j u hj
      have hjl : j < l := by
        rcases Nat.lt_or_ge j l with h | h
        · exact h
        · rw [List.getElem?_eq_none (by simp [ivs]; omega)] at hj; cases hj
      have hg : zs[j]? = some (zs.getD j 0) := by rw [List.getD_eq_getElem?_getD, List.getElem?_eq_getElem (by omega)]; rfl
      rw [hcell j (by omega), ← hj]
      unfold ivs
      rw [List.getElem?_map, List.getElem?_take, if_pos hjl, hg]; rfl
set_option maxRecDepth 100000 in
theorem proc_of {H : Type} {enc : TypeId × Value → H} {W : World} {base : Nat} {sp : Nat → Bool} {held : Bool} {v : Value} {d : DataW H} {p : List MemPlace}
    (hval : Value.okWide Tryz.prog W .any base 26 v) (h : DataW.Trod enc Tryz.prog W 0 sp held 26 v d p) :
    ∃ (p : PR) (s : PS), v = .agg #[.int .i64 p.pid, .string ⟨p.prog.toArray⟩, .slice s.A s.an s.ac, .slice s.E s.en s.ec, .slice s.F s.fn s.fc, .bool p.done, .int .i64 p.status, .int .i64 p.phase, .int .i64 p.count, .slice s.D s.dn s.dc] ∧ InP W W.heap.size p s ∧ (i64R p.status ∧ i64R p.phase ∧ i64R p.count) := by
  obtain ⟨cells, rfl, hsize⟩ := okWide_struct Tryz.underlying26 hval
  have h5 : cells.size = 10 := hsize.trans (by kernel_rfl)
  obtain ⟨fuel, hf⟩ := h
  obtain ⟨xs, m, _, _, _, hxs, hat⟩ := DataW.trod_struct Tryz.underlying26 hf
  match cells, h5 with
  | ⟨[v0, v1, v2, v3, v4, v5, v6, v7, v8, v9]⟩, _ =>
    match xs, hxs with
    | [y0, y1, y2, y3, y4, y5, y6, y7, y8, y9], _ =>
      have f0 := hat 0 _ rfl
      have f1 := hat 1 _ rfl
      have f2 := hat 2 _ rfl
      have f3 := hat 3 _ rfl
      have f4 := hat 4 _ rfl
      have f5 := hat 5 _ rfl
      have f6 := hat 6 _ rfl
      have f7 := hat 7 _ rfl
      have f8 := hat 8 _ rfl
      have f9 := hat 9 _ rfl
      have k1 : Tryz.prog.cellsOf 24 = 1 := by kernel_rfl
      have k2 : Tryz.prog.cellsOf 3 = 1 := by kernel_rfl
      have k3 : Tryz.prog.cellsOf 22 = 1 := by kernel_rfl
      have k4 : Tryz.prog.cellsOf 23 = 1 := by kernel_rfl
      have k5 : Tryz.prog.cellsOf 4 = 1 := by kernel_rfl
      simp [Value.cells, k1, k2, k3, k4, k5, cStr] at f0 f1 f2 f3 f4 f5 f6 f7 f8 f9
      obtain ⟨o, e0, _, wo⟩ := DataW.trod_int Tryz.underlying3 f0
      obtain ⟨s, e1, _, ws⟩ := DataW.trod_string Tryz.underlying9 f1
      obtain ⟨bb, e5, _⟩ := DataW.trod_bool Tryz.underlying4 f5
      obtain ⟨st, e6, _, wst⟩ := DataW.trod_int Tryz.underlying3 f6
      obtain ⟨ph, e7, _, wph⟩ := DataW.trod_int Tryz.underlying3 f7
      obtain ⟨co, e8, _, wco⟩ := DataW.trod_int Tryz.underlying3 f8
      injection e0 with e0
      injection e1 with e1
      injection e5 with e5
      injection e6 with e6
      injection e7 with e7
      injection e8 with e8
      subst e0; subst e1; subst e5; subst e6; subst e7; subst e8
      obtain ⟨A, an, ac, ks, rfl, hr2⟩ := strs_of_trod f2
      obtain ⟨E, en, ec, ks2, rfl, hr3⟩ := strs_of_trod f3
      obtain ⟨F, fn, fc, zs, rfl, hr4⟩ := ints_of_trod f4
      obtain ⟨D, dn, dc, dg, rfl, hr, hl, hm⟩ := bytes_of_trod Tryz.underlying24 Tryz.underlying5 (by kernel_rfl) f9
      exact ⟨⟨o, s.data.toList, ks, ks2, zs, bb, st, ph, co, dg⟩, ⟨A, an, ac, E, en, ec, F, fn, fc, D, dn, dc⟩, rfl, ⟨hr2, hr3, hr4, hr⟩, i64R_of wst, i64R_of wph, i64R_of wco⟩
end Go.Proofs.YtlkccboongnneaaGreatDoor
