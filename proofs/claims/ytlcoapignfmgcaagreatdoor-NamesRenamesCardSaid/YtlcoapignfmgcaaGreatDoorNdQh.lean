/- The document's Parent, Where, All and New; Same at a root. -/
import Derived.Test.YtlcoapignfmgcaaGreatDoorNdQg
namespace Go.Proofs.YtlcoapignfmgcaaGreatDoor
open Go.RowKit
set_option linter.unusedVariables false
theorem rd_lenT {w : World} {B n : Nat} {A : Option Addr} {ks : List Bs} (h : Reads w B 1 A n (svs ks)) : ks.length = n := by have := h.1; rw [svs_length] at this; omega
theorem row_cell {w : World} {B n : Nat} {A : Option Addr} {ks : List Bs} (h : Reads w B 1 A n (svs ks)) {k : Nat} {x : Bs} (hx : ks[k]? = some x) : ∃ g o, A = some ⟨g, o, none⟩ ∧ g < B ∧ w.cell? ⟨g, o + k, none⟩ = some (.string ⟨x.toArray⟩) := by
  obtain ⟨hk, e⟩ := List.getElem?_eq_some_iff.1 hx
  have hn := rd_lenT h
  obtain ⟨g, o, rfl, hg, hc⟩ := cells_of h (by omega) (by rw [svs_length]; omega)
  refine ⟨g, o, rfl, hg, ?_⟩
  have := hc k _ (svs_get ks k hk)
  rw [e] at this
  exact this
theorem int_cell {w : World} {B n : Nat} {A : Option Addr} {zs : List Int} (h : Reads w B 1 A n (iv zs)) {k : Nat} {z : Int} (hx : zs[k]? = some z) : ∃ g o, A = some ⟨g, o, none⟩ ∧ g < B ∧ w.cell? ⟨g, o + k, none⟩ = some (.int .i64 z) := by
  obtain ⟨hk, e⟩ := List.getElem?_eq_some_iff.1 hx
  have hn : zs.length = n := by have := h.1; rw [iv_length] at this; omega
  obtain ⟨g, o, rfl, hg, hc⟩ := cells_of h (by omega) (by rw [iv_length]; omega)
  exact ⟨g, o, rfl, hg, hc k _ (iv_at hx)⟩
set_option maxRecDepth 100000 in
set_option maxHeartbeats 8000000 in
theorem rparent_any (L : Option Addr) (n c : Nat) (l : List DV) (m : Int) (w : World) (hF : FsR w w.heap.size L n l) (hB : FewB l) :
    Calls Tryz.prog 64 #[.agg #[.slice L n c], .int .i64 m] w fun e w' => e = .returned (.tuple #[.int .i64 (parentP (nds l) m).1, .string ⟨(parentP (nds l) m).2.1.toArray⟩, .bool (parentP (nds l) m).2.2]) ∧ Below w.heap.size w w' := by
  have HX : Hid (Blk (w.alloc (.cells #[.slice L n c] 24)) w.heap.size 24 #[.slice L n c]) := hide (Blk.new w _ _)
  have HB : Hid (Below w.heap.size w (w.alloc (.cells #[.slice L n c] 24))) := hide (on_alloc _ _)
  have XD := hide (rfind_any L n c l m (w.alloc (.cells #[.slice L n c] 24)) ((hF.below HB.out).more HB.out.size) hB)
  have HQB := hide (fun (h : checkB (nds l) = true) => wk_bound hB h)
  obtain ⟨P, hP⟩ : ∃ P, parentP (nds l) m = P := ⟨_, rfl⟩
  rw [hP]
  have HP : Hid (P = (pDir (fndR (nds l) m), pName (fndR (nds l) m), (fndR (nds l) m).isSome)) := hide (by rw [← hP, parent_of])
  clear hF hB hP
  have k0 := one_ HX.out
  go_enter Tryz.func64, Tryz.ntmps64
  go_wp2_with fail
  refine XD.out.mono ?_
  rintro e w3 ⟨gw, r, rfl, hb, hcase⟩
  have HB3 := hide (HB.out.trans (hb.mono HB.out.size))
  clear hb XD k0 HX HB
  rcases hcase with ⟨rfl, hf⟩ | ⟨i, x, rfl, hf, hx, hws⟩
  · have hPe : P = (0, [], false) := by rw [HP.out, hf]; rfl
    subst hPe
    clear hf
    go_wp2_with fail
    refine bodyPost_ret (v := .tuple #[.int .i64 0, .string ⟨#[]⟩, .bool false]) (by simp only [results, Tryz.results64]; go_simp) rfl ⟨rfl, HB3.out⟩
  · have hPe : P = (x.dir, x.name, true) := by rw [HP.out, hf]; rfl
    subst hPe
    obtain ⟨A1, c1, A2, c2, A3, c3, A4, c4, hR⟩ := hws
    have hil := (List.getElem?_eq_some_iff.1 hx).1
    obtain ⟨g1, o1, rfl, hg1, d1⟩ := int_cell (k := i) (z := x.dir) (Reads.of_own hR.r1) (by rw [List.getElem?_map, hx]; rfl)
    obtain ⟨g2, o2, rfl, hg2, d2⟩ := row_cell (k := i) (x := x.name) (Ow.rd hR.r2) (by rw [List.getElem?_map, hx]; rfl)
    have e1 := hR.box.cell 1
    have e2 := hR.box.cell 2
    have el := hR.box.lt
    simp only [List.getElem?_toArray, List.getElem?_cons_succ, List.getElem?_cons_zero] at e1 e2
    obtain ⟨q, hq⟩ : ∃ q, (WK (nds l)).length = q := ⟨_, rfl⟩
    rw [hq] at hil e1 e2
    have hi1 : ¬ ((i : Int) < 0) := by omega
    have hi0 : (0 : Int) ≤ (i : Int) := by omega
    have hiq : (i : Int) < (q : Int) := by omega
    clear hf hx hR hq
    go_wp2_with fail
    go_quiet (fail)
    go_wp2_with fail
    refine bodyPost_ret (v := .tuple #[.int .i64 x.dir, .string ⟨x.name.toArray⟩, .bool true]) (by simp only [results, Tryz.results64]; go_simp) rfl ⟨rfl, bl_drewN HB3.out⟩
end Go.Proofs.YtlcoapignfmgcaaGreatDoor
