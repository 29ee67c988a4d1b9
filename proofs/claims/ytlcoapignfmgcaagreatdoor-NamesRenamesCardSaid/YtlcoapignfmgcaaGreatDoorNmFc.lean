/- How a file system that came in is opened. -/
import Derived.Test.YtlcoapignfmgcaaGreatDoorFinBase
import Derived.Test.YtlcoapignfmgcaaGreatDoorGb
import Derived.Deep.Slices
import Derived.Deep.Fields
namespace Go.Proofs.YtlcoapignfmgcaaGreatDoor
open Go.ChangeShapes Go.WideShapes Go.ChangeAt Go.RowKit
open Go.Deep (open_slice)
set_option linter.unusedVariables false
theorem cNm : Tryz.prog.cellsOf 59 = 2 := by kernel_rfl
theorem cNd : Tryz.prog.cellsOf 28 = 6 := by kernel_rfl
theorem rows_at {α : Type} {W : World} {a : Addr} (size : Nat) (enc : α → List Value) (P : α → Prop) (all : List α → List Value) (h0 : all [] = []) (hc : ∀ x l, all (x :: l) = enc x ++ all l) (hs : ∀ x, (enc x).length = size) :
    ∀ (n o : Nat), (∀ i, i < n → ∃ q : α, P q ∧ ∀ j u, (enc q)[j]? = some u → W.cell? (a.add ((o + i) * size + j)) = some u) →
    ∃ l : List α, l.length = n ∧ (∀ x ∈ l, P x) ∧ ∀ j u, (all l)[j]? = some u → W.cell? (a.add (o * size + j)) = some u
  | 0, o, h => ⟨[], rfl, (fun x hx => nomatch hx), fun j u hj => by rw [h0] at hj; simp at hj⟩
  | n + 1, o, h => by
    obtain ⟨q, hk, hq⟩ := h 0 (by omega)
    obtain ⟨l, hl, hk2, hc2⟩ := rows_at size enc P all h0 hc hs n (o + 1) (fun i hi => by
      obtain ⟨q, hk, hq⟩ := h (i + 1) (by omega)
      exact ⟨q, hk, fun j u hj => by rw [show o + 1 + i = o + (i + 1) by omega]; exact hq j u hj⟩)
    refine ⟨q :: l, by simp [hl], fun x hx => ?_, fun j u hj => ?_⟩
    · rcases List.mem_cons.1 hx with rfl | h
      · exact hk
      · exact hk2 x h
    rw [hc] at hj
    rcases Nat.lt_or_ge j size with h | h
    · rw [List.getElem?_append_left (by rw [hs]; exact h)] at hj
      exact hq j u hj
    · rw [List.getElem?_append_right (by rw [hs]; exact h), hs] at hj
      have := hc2 (j - size) u hj
      rwa [show (o + 1) * size + (j - size) = o * size + j by rw [Nat.add_mul, Nat.one_mul]; omega] at this
set_option maxRecDepth 100000 in
/-- One name. -/
theorem nm_of {H : Type} {enc : TypeId × Value → H} {W : World} {base : Nat} {spare : Nat → Bool} {held : Bool} {fuel : Nat} {cs : List Value} {x : DataW H × List MemPlace}
    (h : DataW.trod enc Tryz.prog W base spare held fuel 59 cs = some x) : ∃ y : NM, cs = [.string ⟨y.name.toArray⟩, .int .i64 y.node] := by
  obtain ⟨xs, n, _, _, hlen, hxl, hf⟩ := DataW.trod_struct Tryz.underlying59 h
  have hl : cs.length = 2 := hlen.trans cNm
  have hx4 : xs.length = 2 := hxl
  match cs, hl, xs, hx4 with
  | [v0, v1], _, [y0, y1], _ =>
    have f0 := hf 0 _ rfl
    have f1 := hf 1 _ rfl
    have k2 : Tryz.prog.cellsOf 3 = 1 := by kernel_rfl
    have k3 : Tryz.prog.cellsOf 9 = 1 := by kernel_rfl
    simp [k2, k3] at f0 f1
    obtain ⟨s, e0, _, ws⟩ := DataW.trod_string Tryz.underlying9 f0
    obtain ⟨o, e1, _, wo⟩ := DataW.trod_int Tryz.underlying3 f1
    injection e0 with e0
    injection e1 with e1
    subst e0; subst e1
    exact ⟨⟨s.data.toList, o⟩, rfl⟩
set_option maxRecDepth 100000 in
theorem names_of_trod {H : Type} {enc : TypeId × Value → H} {W : World} {base : Nat} {spare : Nat → Bool} {held : Bool} {fuel : Nat} {v : Value} {x : DataW H × List MemPlace}
    (hf : DataW.trod enc Tryz.prog W base spare held fuel 26 [v] = some x) : ∃ A n c l, v = .slice A n c ∧ Reads W W.heap.size 2 A n (ncs l) ∧ n ≤ c ∧ c ≤ maxLen := by
  rcases open_slice Tryz.underlying26 hf with ⟨hcs, _⟩ | ⟨y, l, cc, m, n', D, Pl, hcs, _, hl, hm, hmm, hd, hcell⟩
  · injection hcs with hcs
    exact ⟨none, 0, 0, [], hcs, Reads.none_, Nat.le_refl _, Nat.zero_le _⟩
  · injection hcs with hcs
    have hlm : l ≤ m := by rw [hmm]; split <;> omega
    obtain ⟨L, hL, _, hc⟩ := rows_at (W := W) (a := y) 2 (fun y : NM => [.string ⟨y.name.toArray⟩, .int .i64 y.node]) (fun _ => True) ncs rfl (fun _ _ => rfl) (fun _ => rfl) l 0 (fun i hi => by
      obtain ⟨cs', hc, ht⟩ := hcell i (by omega)
      rw [cNm] at hc
      obtain ⟨_, hcl, hat⟩ := World.cells?_some hc
      obtain ⟨q, rfl⟩ := nm_of ht
      refine ⟨q, trivial, fun j u hj => ?_⟩
      have hj4 : j < 2 := by
        rcases Nat.lt_or_ge j 2 with h | h
        · exact h
        · rw [List.getElem?_eq_none (by rw [hcl]; exact h)] at hj; cases hj
      have := hat j hj4
      rw [add_of_add] at this
      rw [Nat.zero_add, this, hj])
    refine ⟨some y, l, cc, L, hcs, ⟨by rw [ncs_length, hL], fun hn => ⟨y, rfl, ?_, fun j u hj => ?_⟩⟩, hl, hm⟩
    · have h0 : 0 < (ncs L).length := by rw [ncs_length]; omega
      have := World.block_lt_of_cell? W _ (hc 0 _ (List.getElem?_eq_getElem h0))
      rwa [block_of_add] at this
    · have := hc j u hj
      rwa [Nat.zero_mul, Nat.zero_add] at this
set_option maxRecDepth 100000 in
/-- One node. -/
theorem nd_of {H : Type} {enc : TypeId × Value → H} {W : World} {base : Nat} {spare : Nat → Bool} {held : Bool} {fuel : Nat} {cs : List Value} {x : DataW H × List MemPlace}
    (h : DataW.trod enc Tryz.prog W base spare held fuel 28 cs = some x) : ∃ q : DV, cs = q.cs ∧ DVok W W.heap.size q ∧ q.dn ≤ q.dc := by
  obtain ⟨xs, n, _, _, hlen, hxl, hf⟩ := DataW.trod_struct Tryz.underlying28 h
  have hl : cs.length = 6 := hlen.trans cNd
  have hx4 : xs.length = 6 := hxl
  match cs, hl, xs, hx4 with
  | [v0, v1, v2, v3, v4, v5], _, [y0, y1, y2, y3, y4, y5], _ =>
    have f0 := hf 0 _ rfl
    have f1 := hf 1 _ rfl
    have f2 := hf 2 _ rfl
    have f3 := hf 3 _ rfl
    have f4 := hf 4 _ rfl
    have f5 := hf 5 _ rfl
    have k1 : Tryz.prog.cellsOf 25 = 1 := by kernel_rfl
    have k2 : Tryz.prog.cellsOf 3 = 1 := by kernel_rfl
    have k3 : Tryz.prog.cellsOf 9 = 1 := by kernel_rfl
    have k4 : Tryz.prog.cellsOf 26 = 1 := by kernel_rfl
    simp [k1, k2, k3, k4] at f0 f1 f2 f3 f4 f5
    obtain ⟨q0, e0, _, w0⟩ := DataW.trod_int Tryz.underlying3 f0
    obtain ⟨q1, e1, _, w1⟩ := DataW.trod_int Tryz.underlying3 f1
    obtain ⟨q2, e2, _, w2⟩ := DataW.trod_int Tryz.underlying3 f2
    obtain ⟨s, e5, _, ws⟩ := DataW.trod_string Tryz.underlying9 f5
    injection e0 with e0
    injection e1 with e1
    injection e2 with e2
    injection e5 with e5
    subst e0; subst e1; subst e2; subst e5
    obtain ⟨D, dn, dc, dg, rfl, hr, hl, hm⟩ := bytes_of_trod Tryz.underlying25 Tryz.underlying5 (by kernel_rfl) f3
    obtain ⟨M, mn, mc, ms, rfl, hr2, hl2, hm2⟩ := names_of_trod f4
    exact ⟨⟨⟨q0, q1, q2, dg, ms, s.data.toList⟩, D, dn, dc, M, mn, mc⟩, rfl, ⟨hr, hr2⟩, hl⟩
set_option maxRecDepth 100000 in
theorem nodes_of_trod {H : Type} {enc : TypeId × Value → H} {W : World} {base : Nat} {spare : Nat → Bool} {held : Bool} {fuel : Nat} {v : Value} {x : DataW H × List MemPlace}
    (hf : DataW.trod enc Tryz.prog W base spare held fuel 22 [v] = some x) : ∃ A n c l, v = .slice A n c ∧ FsR W W.heap.size A n l ∧ (∀ x ∈ l, x.dn ≤ x.dc) ∧ n ≤ c ∧ c ≤ maxLen := by
  rcases open_slice Tryz.underlying22 hf with ⟨hcs, _⟩ | ⟨y, l, cc, m, n', D, Pl, hcs, _, hl, hm, hmm, hd, hcell⟩
  · injection hcs with hcs
    exact ⟨none, 0, 0, [], hcs, ⟨Reads.none_, fun x hx => nomatch hx⟩, (fun x hx => nomatch hx), Nat.le_refl _, Nat.zero_le _⟩
  · injection hcs with hcs
    have hlm : l ≤ m := by rw [hmm]; split <;> omega
    obtain ⟨L, hL, hK, hc⟩ := rows_at (W := W) (a := y) 6 DV.cs (fun q => DVok W W.heap.size q ∧ q.dn ≤ q.dc) dcs rfl (fun _ _ => rfl) (fun _ => rfl) l 0 (fun i hi => by
      obtain ⟨cs', hc, ht⟩ := hcell i (by omega)
      rw [cNd] at hc
      obtain ⟨_, hcl, hat⟩ := World.cells?_some hc
      obtain ⟨q, rfl, hk⟩ := nd_of ht
      refine ⟨q, hk, fun j u hj => ?_⟩
      have hj4 : j < 6 := by
        rcases Nat.lt_or_ge j 6 with h | h
        · exact h
        · rw [List.getElem?_eq_none (by rw [hcl]; exact h)] at hj; cases hj
      have := hat j hj4
      rw [add_of_add] at this
      rw [Nat.zero_add, this, hj])
    refine ⟨some y, l, cc, L, hcs, ⟨⟨by rw [dcs_length, hL], fun hn => ⟨y, rfl, ?_, fun j u hj => ?_⟩⟩, fun x hx => (hK x hx).1⟩, fun x hx => (hK x hx).2, hl, hm⟩
    · have h0 : 0 < (dcs L).length := by rw [dcs_length]; omega
      have := World.block_lt_of_cell? W _ (hc 0 _ (List.getElem?_eq_getElem h0))
      rwa [block_of_add] at this
    · have := hc j u hj
      rwa [Nat.zero_mul, Nat.zero_add] at this
set_option maxRecDepth 100000 in
theorem fs_of {H : Type} {enc : TypeId × Value → H} {W : World} {base : Nat} {sp : Nat → Bool} {held : Bool} {v : Value} {d : DataW H} {p : List MemPlace}
    (hval : Value.okWide Tryz.prog W .any base 24 v) (h : DataW.Trod enc Tryz.prog W 0 sp held 24 v d p) :
    ∃ L n c l, v = .agg #[.slice L n c] ∧ FsR W W.heap.size L n l ∧ (∀ x ∈ l, x.dn ≤ x.dc) ∧ n ≤ c ∧ c ≤ maxLen := by
  obtain ⟨cells, rfl, hsize⟩ := okWide_struct Tryz.underlying24 hval
  have h5 : cells.size = 1 := hsize.trans (by kernel_rfl)
  obtain ⟨fuel, hf⟩ := h
  obtain ⟨xs, m, _, _, _, hxs, hat⟩ := DataW.trod_struct Tryz.underlying24 hf
  match cells, h5 with
  | ⟨[v0]⟩, _ =>
    match xs, hxs with
    | [y0], _ =>
      have f0 := hat 0 _ rfl
      have k1 : Tryz.prog.cellsOf 22 = 1 := by kernel_rfl
      simp [Value.cells, k1] at f0
      obtain ⟨A, n, c, l, rfl, h1, h2, h3, h4⟩ := nodes_of_trod f0
      exact ⟨A, n, c, l, rfl, h1, h2, h3, h4⟩
end Go.Proofs.YtlcoapignfmgcaaGreatDoor
