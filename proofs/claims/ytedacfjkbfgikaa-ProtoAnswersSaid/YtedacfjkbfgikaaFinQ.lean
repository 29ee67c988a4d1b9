/- How a request and a reply that came in are opened. -/
import Derived.Test.YtedacfjkbfgikaaFinSn
import Derived.Test.YtedacfjkbfgikaaPrSm
namespace Go.Proofs.Ytedacfjkbfgikaa
open Go.ChangeShapes Go.WideShapes Go.ChangeAt Go.RowKit
open Go.Deep (open_strs)
set_option linter.unusedVariables false
theorem strs_of_trod {H : Type} {enc : TypeId × Value → H} {W : World} {base : Nat} {spare : Nat → Bool} {held : Bool} {fuel : Nat} {v : Value} {x : DataW H × List MemPlace}
    (hf : DataW.trod enc Try.prog W base spare held fuel 23 [v] = some x) : ∃ A n c ks, v = .slice A n c ∧ Reads W W.heap.size 1 A n (svs ks) ∧ n ≤ c ∧ c ≤ maxLen := by
  rcases open_strs Try.underlying23 Try.underlying9 cStr hf with ⟨hcs, _⟩ | ⟨y, l, cc, m, Sx, hcs, _, hl, hm, hmm, hd, hcell⟩
  · injection hcs with hcs
    exact ⟨none, 0, 0, [], hcs, Reads.none_, Nat.le_refl _, Nat.zero_le _⟩
  · injection hcs with hcs
    have hlm : l ≤ m := by rw [hmm]; split <;> omega
    obtain ⟨h1, h2⟩ := rd_of_strs (W := W) hlm hcell
    exact ⟨some y, l, cc, _, hcs, h1, hl, hm⟩
theorem ints_of_trod {H : Type} {enc : TypeId × Value → H} {W : World} {base : Nat} {spare : Nat → Bool} {held : Bool} {fuel : Nat} {v : Value} {x : DataW H × List MemPlace}
    (hf : DataW.trod enc Try.prog W base spare held fuel 24 [v] = some x) : ∃ A n c zs, v = .slice A n c ∧ Reads W W.heap.size 1 A n (ivs zs) ∧ n ≤ c ∧ c ≤ maxLen := by
  rcases open_ints Try.underlying24 Try.underlying3 cInt hf with ⟨hcs, _⟩ | ⟨y, l, cc, zs, hcs, _, hl, hm, hz, hd, hcell, hwz⟩
  · injection hcs with hcs
    exact ⟨none, 0, 0, [], hcs, Reads.none_, Nat.le_refl _, Nat.zero_le _⟩
  · injection hcs with hcs
    have hlz : l ≤ zs.length := by rw [hz]; split <;> omega
    refine ⟨some y, l, cc, zs.take l, hcs, ⟨by simp [ivs]; omega, fun hn => ⟨y, rfl, ?_, ?_⟩⟩, hl, hm⟩
    · have := World.block_lt_of_cell? W _ (hcell 0 (by omega))
      rwa [block_of_add] at this
    · intro j u hj
      have hjl : j < l := by
        rcases Nat.lt_or_ge j l with h | h
        · exact h
        · rw [List.getElem?_eq_none (by simp [ivs]; omega)] at hj; cases hj
      have hg : zs[j]? = some (zs.getD j 0) := by rw [List.getD_eq_getElem?_getD, List.getElem?_eq_getElem (by omega)]; rfl
      rw [hcell j (by omega), ← hj]
      unfold ivs
      rw [List.getElem?_map, List.getElem?_take, if_pos hjl, hg]; rfl
set_option maxRecDepth 100000 in
theorem req_of {H : Type} {enc : TypeId × Value → H} {W : World} {base : Nat} {sp : Nat → Bool} {held : Bool} {v : Value} {d : DataW H} {p : List MemPlace}
    (hval : Value.okWide Try.prog W .any base 26 v) (h : DataW.Trod enc Try.prog W 0 sp held 26 v d p) :
    ∃ (r : RQ) (D A E F : Option Addr) (dn dc an ac en ec fn fc : Nat), v = r.v D A E F dn dc an ac en ec fn fc ∧ RdQ W r D A E F dn dc an ac en ec fn fc ∧ i64ok r.op := by
  obtain ⟨cells, rfl, hsize⟩ := okWide_struct Try.underlying26 hval
  have h5 : cells.size = 10 := hsize.trans (by kernel_rfl)
  obtain ⟨fuel, hf⟩ := h
  obtain ⟨xs, m, _, _, _, hxs, hat⟩ := DataW.trod_struct Try.underlying26 hf
  match cells, h5 with
  | ⟨[v0, v1, v2, v3, v4, v5, v6, v7, v8, v9]⟩, _ =>
    match xs, hxs with
    | [y0, y1, y2, y3, y4, y5, y6, y7, y8, y9], _ =>
      have f0 := hat 0 _ rfl
      have f1 := hat 1 _ rfl
      have f2 := hat 2 _ rfl
      have f3 := hat 3 _ rfl
      have f4 := hat 4 _ rfl
      have f5 := hat 5 _ rfl
      have f6 := hat 6 _ rfl
      have f7 := hat 7 _ rfl
      have f8 := hat 8 _ rfl
      have f9 := hat 9 _ rfl
      have k1 : Try.prog.cellsOf 22 = 1 := by kernel_rfl
      have k2 : Try.prog.cellsOf 3 = 1 := by kernel_rfl
      have k3 : Try.prog.cellsOf 23 = 1 := by kernel_rfl
      have k4 : Try.prog.cellsOf 24 = 1 := by kernel_rfl
      simp [Value.cells, k1, k2, k3, k4, cStr] at f0 f1 f2 f3 f4 f5 f6 f7 f8 f9
      obtain ⟨o, e0, _, wo⟩ := DataW.trod_int Try.underlying3 f0
      obtain ⟨s, e1, _, ws⟩ := DataW.trod_string Try.underlying9 f1
      obtain ⟨s2, e2, _, ws2⟩ := DataW.trod_string Try.underlying9 f2
      obtain ⟨hh, e3, _, wh⟩ := DataW.trod_int Try.underlying3 f3
      obtain ⟨n, e4, _, wn⟩ := DataW.trod_int Try.underlying3 f4
      obtain ⟨fl, e5, _, wf⟩ := DataW.trod_int Try.underlying3 f5
      injection e0 with e0
      injection e1 with e1
      injection e2 with e2
      injection e3 with e3
      injection e4 with e4
      injection e5 with e5
      subst e0; subst e1; subst e2; subst e3; subst e4; subst e5
      obtain ⟨D, dn, dc, dg, rfl, hr, hl, hm⟩ := bytes_of_trod Try.underlying22 Try.underlying5 (by kernel_rfl) f6
      obtain ⟨A, an, ac, ks, rfl, hr2, hl2, hm2⟩ := strs_of_trod f7
      obtain ⟨E, en, ec, ks2, rfl, hr3, hl3, hm3⟩ := strs_of_trod f8
      obtain ⟨F, fn, fc, zs, rfl, hr4, hl4, hm4⟩ := ints_of_trod f9
      exact ⟨⟨o, s.data.toList, s2.data.toList, hh, n, fl, dg, ks, ks2, zs⟩, D, A, E, F, dn, dc, an, ac, en, ec, fn, fc, rfl, ⟨hr, hr2, hr3, hr4⟩, i64R_of wo⟩
set_option maxRecDepth 100000 in
theorem rep_of {H : Type} {enc : TypeId × Value → H} {W : World} {base : Nat} {sp : Nat → Bool} {held : Bool} {v : Value} {d : DataW H} {p : List MemPlace}
    (hval : Value.okWide Try.prog W .any base 43 v) (h : DataW.Trod enc Try.prog W 0 sp held 43 v d p) :
    ∃ (r : RP) (D A : Option Addr) (dn dc an ac : Nat), v = r.v D A dn dc an ac ∧ Rd W D dn r.d ∧ Reads W W.heap.size 1 A an (svs r.names) ∧ i64ok r.err := by
  obtain ⟨cells, rfl, hsize⟩ := okWide_struct Try.underlying43 hval
  have h5 : cells.size = 6 := hsize.trans (by kernel_rfl)
  obtain ⟨fuel, hf⟩ := h
  obtain ⟨xs, m, _, _, _, hxs, hat⟩ := DataW.trod_struct Try.underlying43 hf
  match cells, h5 with
  | ⟨[v0, v1, v2, v3, v4, v5]⟩, _ =>
    match xs, hxs with
    | [y0, y1, y2, y3, y4, y5], _ =>
      have f0 := hat 0 _ rfl
      have f1 := hat 1 _ rfl
      have f2 := hat 2 _ rfl
      have f3 := hat 3 _ rfl
      have f4 := hat 4 _ rfl
      have f5 := hat 5 _ rfl
      have k1 : Try.prog.cellsOf 22 = 1 := by kernel_rfl
      have k2 : Try.prog.cellsOf 3 = 1 := by kernel_rfl
      have k3 : Try.prog.cellsOf 23 = 1 := by kernel_rfl
      have k4 : Try.prog.cellsOf 29 = 1 := by kernel_rfl
      simp [Value.cells, k1, k2, k3, k4] at f0 f1 f2 f3 f4 f5
      obtain ⟨o, e0, _, wo⟩ := DataW.trod_int Try.underlying29 f0
      obtain ⟨hh, e1, _, wh⟩ := DataW.trod_int Try.underlying3 f1
      obtain ⟨h2, e2, _, wh2⟩ := DataW.trod_int Try.underlying3 f2
      obtain ⟨n, e3, _, wn⟩ := DataW.trod_int Try.underlying3 f3
      injection e0 with e0
      injection e1 with e1
      injection e2 with e2
      injection e3 with e3
      subst e0; subst e1; subst e2; subst e3
      obtain ⟨D, dn, dc, dg, rfl, hr, hl, hm⟩ := bytes_of_trod Try.underlying22 Try.underlying5 (by kernel_rfl) f4
      obtain ⟨A, an, ac, ks, rfl, hr2, hl2, hm2⟩ := strs_of_trod f5
      exact ⟨⟨o, hh, h2, n, dg, ks⟩, D, A, dn, dc, an, ac, rfl, hr, hr2, i64R_of wo⟩
end Go.Proofs.Ytedacfjkbfgikaa
