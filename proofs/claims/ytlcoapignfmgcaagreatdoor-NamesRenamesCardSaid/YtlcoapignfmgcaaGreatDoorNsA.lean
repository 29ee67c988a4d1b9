/- The document's changed, at; a name's place by a walk. -/
import Derived.Test.YtlcoapignfmgcaaGreatDoorNrC
namespace Go.Proofs.YtlcoapignfmgcaaGreatDoor
open Go.RowKit
set_option linter.unusedVariables false
theorem may_rem {m : Int} (h0 : 0 ≤ m) (h7 : m ≤ 7) : (m.tmod 4 != 3) = !(decide (m % 4 = 3)) := by
  have hm : m = 0 ∨ m = 1 ∨ m = 2 ∨ m = 3 ∨ m = 4 ∨ m = 5 ∨ m = 6 ∨ m = 7 := by omega
  rcases hm with rfl | rfl | rfl | rfl | rfl | rfl | rfl | rfl <;> decide
set_option maxRecDepth 100000 in
set_option maxHeartbeats 4000000 in
theorem rchanged_c (L : Option Addr) (n c : Nat) (l : List DV) (m : Nat) (w : World) (hF : FsR w w.heap.size L n l) (hm : m < n) (h7 : 0 ≤ (ndAt (nds l) (m : Int)).mode ∧ (ndAt (nds l) (m : Int)).mode ≤ 7) :
    Calls Tryz.prog 38 #[.agg #[.slice L n c], .int .i64 (m : Int)] w fun e w' => e = .returned (.int .i64 (writableP (nds l) (m : Int))) ∧ Below w.heap.size w w' := by
  obtain ⟨g, o, x, rfl, hg, hx, hok, hc⟩ := hF.at_ hm
  have HX : Hid (Blk (w.alloc (.cells #[.slice (some ⟨g, o, none⟩) n c] 24)) w.heap.size 24 #[.slice (some ⟨g, o, none⟩) n c]) := hide (Blk.new w _ _)
  have HBW : Hid (Below w.heap.size w (w.alloc (.cells #[.slice (some ⟨g, o, none⟩) n c] 24))) := hide (on_alloc _ _)
  obtain ⟨d0, d1, d2, d3, d4, d5⟩ := NdCells.below hc hg HBW.out
  unfold writableP
  rw [nds_at hx] at h7 ⊢
  have hbt := may_rem h7.1 h7.2
  have i1 := fun W => nd_at g o n c m (m : Int) rfl hm W
  have k0 := one_ HX.out
  have hwr : IntKind.i64.wrap (x.r.mode.tmod 4) = x.r.mode.tmod 4 := by
    have h0 := h7.1
    have h1 := h7.2
    have hmm : x.r.mode = 0 ∨ x.r.mode = 1 ∨ x.r.mode = 2 ∨ x.r.mode = 3 ∨ x.r.mode = 4 ∨ x.r.mode = 5 ∨ x.r.mode = 6 ∨ x.r.mode = 7 := by omega
    rcases hmm with e | e | e | e | e | e | e | e <;> rw [e] <;> decide
  clear hx hok hc hF h7
  have HB2 := hide (HBW.out.alloc HBW.out.size (.cells #[Value.int .i64 x.r.kind, .int .i64 x.r.mode, .int .i64 x.r.links, .slice x.D x.dn x.dc, .slice x.M x.mn x.mc, .string ⟨x.r.to.toArray⟩] 28))
  by_cases hk : x.r.kind = 2
  · have hkb : (x.r.kind != 2) = false := by rw [hk]; rfl
    by_cases hl : x.r.links = 0
    · have hlb : (x.r.links == 0) = true := by rw [hl]; rfl
      rw [if_pos hk, if_pos hl]
      clear hk hl
      go_enter Tryz.func38, Tryz.ntmps38
      go_wp2_with fail
      go_ret
      exact ⟨rfl, HB2.out⟩
    · have hlb : (x.r.links == 0) = false := beq_eq_false_iff_ne.2 hl
      by_cases hm4 : x.r.mode % 4 = 3
      · rw [decide_eq_true hm4] at hbt
        rw [if_pos hk, if_neg hl, if_pos hm4]
        clear hk hl hm4
        go_enter Tryz.func38, Tryz.ntmps38
        go_wp2_with fail
        go_ret
        exact ⟨rfl, HB2.out⟩
      · rw [decide_eq_false hm4] at hbt
        rw [if_pos hk, if_neg hl, if_neg hm4]
        clear hk hl hm4
        go_enter Tryz.func38, Tryz.ntmps38
        go_wp2_with fail
        go_ret
        exact ⟨rfl, HB2.out⟩
  · have hkb : (x.r.kind != 2) = true := bne_iff_ne.2 hk
    rw [if_neg hk]
    clear hk
    go_enter Tryz.func38, Tryz.ntmps38
    go_wp2_with fail
    go_ret
    exact ⟨rfl, HB2.out⟩
/-- A name's place in a row of names. -/
def atP (t : List NM) (s : List UInt8) : Int := if foundP t s then (findP t s : Int) else -1
theorem at_here {t : List NM} {s : List UInt8} (hs : sortedP t) {i : Nat} (hi : i < t.length) (e : nmAt t i = s) : atP t s = (i : Int) := by
  have hp := find_place hs s
  have hq : PlaceOf t s i := by
    refine ⟨by omega, fun j hj => by rw [← e]; exact sorted_at hs hj hi, fun j hj hjl hn => ?_⟩
    rcases Nat.lt_or_ge i j with h | h
    · have h1 := sorted_at hs h hjl
      rw [e] at h1
      exact blt_irrefl _ (blt_trans h1 hn)
    · obtain rfl : i = j := by omega
      rw [e] at hn
      exact blt_irrefl _ hn
  have hf : findP t s = i := place_one hp hq
  have hfo : foundP t s = true := by
    unfold foundP
    rw [hf, e, decide_eq_true hi, Bool.true_and, beq_iff_eq]
    exact (cmp_zero s s).2 rfl
  unfold atP
  rw [hfo, if_pos rfl, hf]
theorem at_none {t : List NM} {s : List UInt8} (h : ∀ j, j < t.length → nmAt t j ≠ s) : atP t s = -1 := by
  unfold atP
  have hf : foundP t s = false := by
    unfold foundP
    by_cases hl : findP t s < t.length
    · rw [decide_eq_true hl, Bool.true_and, beq_eq_false_iff_ne]
      exact fun e => h _ hl ((cmp_zero _ _).1 e)
    · rw [decide_eq_false hl, Bool.false_and]
  rw [hf]
  rfl
set_option maxRecDepth 100000 in
set_option maxHeartbeats 8000000 in
theorem rat_c (L : Option Addr) (n c : Nat) (l : List DV) (m : Nat) (s : List UInt8) (w : World) (hF : FsR w w.heap.size L n l) (hB : FewB l) (hm : m < n) (hs : sortedP (ndAt (nds l) (m : Int)).names) :
    Calls Tryz.prog 39 #[.agg #[.slice L n c], .int .i64 (m : Int), .string ⟨s.toArray⟩] w fun e w' => e = .returned (.int .i64 (atP (ndAt (nds l) (m : Int)).names s)) ∧ Below w.heap.size w w' := by
  obtain ⟨g, o, x, rfl, hg, hx, hok, hc⟩ := hF.at_ hm
  obtain ⟨W1, hW1⟩ : ∃ W, w.alloc (.cells #[.slice (some ⟨g, o, none⟩) n c] 24) = W := ⟨_, rfl⟩
  have h1 : Blk W1 w.heap.size 24 #[.slice (some ⟨g, o, none⟩) n c] := by rw [← hW1]; exact Blk.new w _ _
  have b1 : Below w.heap.size w W1 := by rw [← hW1]; exact on_alloc _ _
  have HM := hide (fun (W : World) (hW : Below w.heap.size w W) => (hok.n.below hW).more hW.size)
  have HMN := hide (few_mn hF hB x (List.mem_of_getElem? hx))
  have HNL := hide hok.nl
  obtain ⟨d0, d1, d2, d3, d4, d5⟩ := NdCells.below hc hg b1
  rw [nds_at hx] at hs ⊢
  have HS := hide hs
  have i1 := fun W => nd_at g o n c m (m : Int) rfl hm W
  obtain ⟨R, hR⟩ : ∃ R, atP x.r.names s = R := ⟨_, rfl⟩
  have HR := hide hR
  rw [hR]
  have HB := hide b1
  have k0 := one_ h1
  clear hx hok hc hF hB h1 b1 hs hR
  go_enter Tryz.func39, Tryz.ntmps39
  go_wp2_with (rw [hW1])
  clear hW1 k0 d0 d1 d2 d3 d4 d5 i1
  go_loopw [8] (fun u8 wx => ∃ i : Nat, i ≤ x.mn ∧ u8 = .int .i64 (i : Int) ∧ Hid (∀ j, j < i → nmAt x.r.names j ≠ s) ∧ Hid (Below w.heap.size w wx)) (fun i _ => x.mn - (intOf i).toNat)
  case atStart => exact ⟨0, Nat.zero_le _, rfl, hide (fun j h => by omega), HB⟩
  case round =>
    clear HB
    obtain ⟨i, hi, rfl, HJ, HBJ⟩ := hrel
    have hmx := HMN.out
    by_cases hin : i < x.mn
    · have hlt : (i : Int) < (x.mn : Int) := by omega
      obtain ⟨g', o', y, hM, hg', hy, n0, n1⟩ := nm_cells (HM.out wr HBJ.out) hin
      rw [hM]
      have i2 := fun W => nm_at g' o' x.mn x.mc i (i : Int) rfl hin W
      have HY := hide (nmAt_get hy)
      obtain ⟨ys, hys⟩ : ∃ ys, y.name = ys := ⟨_, rfl⟩
      rw [hys] at HY n0
      clear hy hM hys n1
      by_cases he : ys = s
      · subst he
        have hRe : R = (i : Int) := by rw [← HR.out]; exact at_here HS.out (by rw [HNL.out]; omega) HY.out
        subst hRe
        clear HR
        go_wp2_with fail
        go_ret
        exact ⟨rfl, HBJ.out⟩
      · have hne : (ys == s) = false := beq_eq_false_iff_ne.2 he
        have HJ1 : Hid (∀ j, j < i + 1 → nmAt x.r.names j ≠ s) := hide (fun j hj => by
          rcases Nat.lt_or_ge j i with h | h
          · exact HJ.out j h
          · obtain rfl : j = i := by omega
            rw [HY.out]; exact he)
        clear he
        go_wp2_with fail
        go_roundw
        case rel => exact ⟨i + 1, by omega, by go_num, HJ1, HBJ⟩
        case measure => simp [intOf]; omega
    · have hlt : ¬ ((i : Int) < (x.mn : Int)) := by omega
      have hie : i = x.mn := by omega
      have hRe : R = -1 := by rw [← HR.out]; exact at_none (fun j hj => HJ.out j (by rw [HNL.out] at hj; omega))
      subst hRe
      clear HR
      go_wp2_with fail
      go_ret
      exact ⟨rfl, HBJ.out⟩
end Go.Proofs.YtlcoapignfmgcaaGreatDoor
