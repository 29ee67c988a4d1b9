/- The document's find, Parent, Where and All. -/
import Derived.Test.YtlcoapignfmgcaaGreatDoorNdQf
import Derived.Test.YtlcoapignfmgcaaGreatDoorNtA
namespace Go.Proofs.YtlcoapignfmgcaaGreatDoor
open Go.RowKit
set_option linter.unusedVariables false
/-- The node that find comes to. -/
def fndR (l : List ND) (m : Int) : Option ST := if checkB l = true then fndN m (WK l) else none
theorem fndR_out {l : List ND} {m : Int} (h : m < 0 ∨ (l.length : Int) ≤ m) : fndR l m = none := by
  unfold fndR
  by_cases hc : checkB l = true
  · rw [if_pos hc]
    unfold fndN
    rw [List.find?_eq_none]
    intro x hx
    have := (one_of hc).node_in hx
    simp
    omega
  · rw [if_neg hc]
theorem parent_of (l : List ND) (m : Int) : parentP l m = (pDir (fndR l m), pName (fndR l m), (fndR l m).isSome) := by
  unfold parentP fndR
  cases hc : checkB l with
  | false => rfl
  | true => rfl
theorem where_of (l : List ND) (m : Int) : whereP l m = if m = 0 ∧ checkB l = true then ([47], true) else (wText (fndR l m), (fndR l m).isSome) := by
  unfold whereP fndR
  cases hc : checkB l with
  | false => simp; rfl
  | true =>
    by_cases h0 : m = 0
    · simp [h0]
    · simp [h0]; exact ⟨rfl, rfl⟩
def FindEnd (l : List ND) (F : Value) (m : Int) (w : World) (e : Ending) (w' : World) : Prop :=
  ∃ gw r, e = .returned (.tuple #[.pointer (some ⟨gw, 0, none⟩), .int .i64 r]) ∧ Below w.heap.size w w' ∧ ((r = -1 ∧ fndR l m = none) ∨ ∃ (i : Nat) (x : ST), r = (i : Int) ∧ fndR l m = some x ∧ (WK l)[i]? = some x ∧ WSs w.heap.size gw F (WK l) w')
theorem ws_new {B g : Nat} {F : Value} {V : World} (h : Blk V g 113 #[F, .slice none 0 0, .slice none 0 0, .slice none 0 0, .slice none 0 0]) (hB : B ≤ V.heap.size) : WSs B g F [] V :=
  ⟨none, 0, none, 0, none, 0, none, 0, h, World.ownsRow_nil _ _ _ _, World.ownsRow_nil _ _ _ _, World.ownsRow_nil _ _ _ _, World.ownsRow_nil _ _ _ _, fun b hb => (by cases hb), fun b hb => (by cases hb), hB⟩
set_option maxRecDepth 100000 in
set_option maxHeartbeats 16000000 in
theorem rfind_any (L : Option Addr) (n c : Nat) (l : List DV) (m : Int) (w : World) (hF : FsR w w.heap.size L n l) (hB : FewB l) :
    Calls Tryz.prog 80 #[.agg #[.slice L n c], .int .i64 m] w (FindEnd (nds l) (.slice L n c) m w) := by
  have hl := hF.len
  have hln : (nds l).length = n := by rw [nds_length, hl]
  obtain ⟨W1, hW1⟩ : ∃ W, w.alloc (.cells #[.slice L n c] 24) = W := ⟨_, rfl⟩
  have b1 : Below w.heap.size w W1 := by rw [← hW1]; exact on_alloc _ _
  have k1 : Blk W1 w.heap.size 24 #[.slice L n c] := by rw [← hW1]; exact Blk.new w _ _
  have s1 : W1.heap.size = w.heap.size + 1 := by rw [← hW1]; simp
  obtain ⟨W2, hW2⟩ : ∃ W, W1.alloc (.cells #[.slice L n c, .slice none 0 0, .slice none 0 0, .slice none 0 0, .slice none 0 0] 113) = W := ⟨_, rfl⟩
  have b2 : Below W1.heap.size W1 W2 := by rw [← hW2]; exact on_alloc _ _
  have k2 : Blk W2 (w.heap.size + 1) 113 #[.slice L n c, .slice none 0 0, .slice none 0 0, .slice none 0 0, .slice none 0 0] := by rw [← hW2, ← s1]; exact Blk.new W1 _ _
  have bA : Below w.heap.size w W2 := b1.trans (b2.mono (by omega))
  have HWS := hide (ws_new (B := w.heap.size) k2 bA.size)
  have HK := hide (k1.below b2 (by omega))
  have HB := hide bA
  have HFS := hide (fun (V : World) (hV : Below w.heap.size w V) => hF.below hV)
  have HFEW := hide hB
  have HLN := hide hln
  have XC := hide (rcheck_any L n c l W2 ((hF.below bA).more bA.size) hB)
  have HEN : Hid (∀ (gw : Nat) (w' : World), Below w.heap.size w w' → fndR (nds l) m = none → FindEnd (nds l) (.slice L n c) m w (.returned (.tuple #[.pointer (some ⟨gw, 0, none⟩), .int .i64 (-1)])) w') := hide (fun gw w' h1 h2 => ⟨gw, -1, rfl, h1, .inl ⟨rfl, h2⟩⟩)
  have HES : Hid (∀ (gw i : Nat) (x : ST) (w' : World), Below w.heap.size w w' → fndR (nds l) m = some x → (WK (nds l))[i]? = some x → WSs w.heap.size gw (.slice L n c) (WK (nds l)) w' → FindEnd (nds l) (.slice L n c) m w (.returned (.tuple #[.pointer (some ⟨gw, 0, none⟩), .int .i64 (i : Int)])) w') := hide (fun gw i x w' h1 h2 h3 h4 => ⟨gw, (i : Int), rfl, h1, .inr ⟨i, x, rfl, h2, h3, h4⟩⟩)
  have k0 := one_ k1
  have k9 := one_ HK.out
  have kl := HK.out.lt
  clear hF hB hl hln b1 k1 b2 k2 bA
  go_enter Tryz.func80, Tryz.ntmps80
  by_cases c1 : m < 0
  · have HN := hide (fndR_out (l := nds l) (m := m) (.inl c1))
    go_wp2_with fail
    refine bodyPost_ret (v := .tuple #[.pointer (some ⟨w.heap.size + 1, 0, none⟩), .int .i64 (-1)]) (by simp only [results, Tryz.results80]; go_simp) rfl (HEN.out _ _ HB.out HN.out)
  by_cases c2 : (n : Int) ≤ m
  · have HN := hide (fndR_out (l := nds l) (m := m) (.inr (by rw [HLN.out]; exact c2)))
    go_wp2_with fail
    refine bodyPost_ret (v := .tuple #[.pointer (some ⟨w.heap.size + 1, 0, none⟩), .int .i64 (-1)]) (by simp only [results, Tryz.results80]; go_simp) rfl (HEN.out _ _ HB.out HN.out)
  go_wp2_with fail
  refine XC.out.mono ?_
  rintro e w3 ⟨rfl, hb⟩
  have HWS := hide (HWS.out.below hb)
  have HB := hide (HB.out.trans (hb.mono HB.out.size))
  clear hb XC k0 k9 kl hW1 hW2
  cases hck : checkB (nds l) with
  | false =>
    have HN : Hid (fndR (nds l) m = none) := hide (by unfold fndR; rw [if_neg (by rw [hck]; simp)])
    clear hck
    go_wp2_with fail
    refine bodyPost_ret (v := .tuple #[.pointer (some ⟨w.heap.size + 1, 0, none⟩), .int .i64 (-1)]) (by simp only [results, Tryz.results80]; go_simp) rfl (HEN.out _ _ HB.out HN.out)
  | true =>
    have HCK := hide hck
    clear hck
    have HN : Hid (fndR (nds l) m = fndN m (WK (nds l))) := hide (by unfold fndR; rw [if_pos HCK.out])
    have HWB : Hid ((WK (nds l)).length ≤ 100000) := hide (wk_bound HFEW.out HCK.out)
    have hcf := checkB_facts HCK.out
    have hz : ((0 : Nat) : Int) = 0 := rfl
    have XW := hide (rwalk_any (B0 := w.heap.size) (B := w.heap.size) (gw := w.heap.size + 1) (n := n) (c := c) (L := L) (l := l) hcf.2.2.2.2.2.1 HFEW.out.each (Nat.le_refl _) (by omega) n 0 [] [] [] w3 (by have h := hcf.2.2.2.2.2.2; rwa [HLN.out] at h) (by have := hcf.1; have := HLN.out; omega) rfl (by have h1 := HFEW.out.n; have h2 := HLN.out; rw [nds_length] at h2; simp; omega) (by have h := HWB.out; unfold WK at h; rw [HLN.out] at h; simpa using h) (HFS.out _ HB.out) HWS.out)
    have HWKE : Hid (wk (nds l) n [] 0 = WK (nds l)) := hide (by unfold WK; rw [HLN.out])
    rw [show ((0 : Nat) : Int) = 0 from rfl, show ([] ++ wk (nds l) n [] 0 : List ST) = WK (nds l) from HWKE.out] at XW
    clear hcf HWKE
    go_wp2_with fail
    with_reducible refine XW.out.mono ?_
    rintro e w4 ⟨rfl, hws, hb⟩
    have HB := hide (HB.out.trans hb)
    have HWK := hide hws
    obtain ⟨A1, c1', A2, c2', A3, c3, A4, c4, hR⟩ := hws
    obtain ⟨q, hq⟩ : ∃ q, (WK (nds l)).length = q := ⟨_, rfl⟩
    have HQ := hide hq
    rw [hq] at hR
    have e4 := hR.box.cell 4
    have el := hR.box.lt
    have HR4 := hide (Reads.of_own hR.r4)
    simp only [List.getElem?_toArray, List.getElem?_cons_succ, List.getElem?_cons_zero] at e4
    have hqb : q ≤ 100000 := by have := HWB.out; omega
    clear hb hR hq XW HWS
    go_wp2_with fail
    go_loopw [7] (fun u7 wx => ∃ i : Nat, i ≤ q ∧ u7 = .int .i64 (i : Int) ∧ Hid (((WK (nds l)).take i).all (goN m) = true) ∧ Hid (w4 = wx)) (fun i _ => q - (intOf i).toNat)
    case atStart => exact ⟨0, Nat.zero_le _, rfl, hide rfl, hide (by trivial)⟩
    case round =>
      obtain ⟨i, hi, rfl, HA, HW⟩ := hrel
      obtain rfl := HW.out
      by_cases hin : i < q
      · have hlt : (i : Int) < (q : Int) := by omega
        obtain ⟨x, hx⟩ : ∃ x, (WK (nds l))[i]? = some x := ⟨_, List.getElem?_eq_getElem (by have := HQ.out; omega)⟩
        obtain ⟨g, o, rfl, hg, hcc⟩ := cells_of HR4.out (by omega) (by rw [iv_length, List.length_map]; have := HQ.out; omega)
        have hcell := hcc i _ (iv_at (z := x.node) (by rw [List.getElem?_map, hx]; rfl))
        have hie : (0 : Int) ≤ (i : Int) := by omega
        have HX := hide hx
        clear hx hcc
        by_cases hxm : x.node = m
        · have hxb : (x.node == m) = true := beq_iff_eq.2 hxm
          have HS : Hid (fndR (nds l) m = some x) := hide (by
            rw [HN.out]
            obtain ⟨h1, h2⟩ := List.getElem?_eq_some_iff.1 HX.out
            conv => lhs; rw [← List.take_append_drop i (WK (nds l)), List.drop_eq_getElem_cons h1, h2]
            have h3 := fnd_none HA.out
            unfold fndN at h3 ⊢
            rw [List.find?_append, h3, List.find?_cons, hxb]
            rfl)
          clear hxm
          go_wp2_with fail
          refine bodyPost_ret (v := .tuple #[.pointer (some ⟨w.heap.size + 1, 0, none⟩), .int .i64 (i : Int)]) (by simp only [results, Tryz.results80]; go_simp) rfl (HES.out _ _ _ _ HB.out HS.out HX.out HWK.out)
        · have hxb : (x.node == m) = false := beq_eq_false_iff_ne.2 hxm
          have HA2 : Hid (((WK (nds l)).take (i + 1)).all (goN m) = true) := hide (by
            obtain ⟨h1, h2⟩ := List.getElem?_eq_some_iff.1 HX.out
            rw [List.take_succ_eq_append_getElem h1, h2, List.all_append, HA.out]
            simp [goN, hxm])
          clear hxm
          go_wp2_with fail
          go_roundw
          case rel => exact ⟨i + 1, by omega, by go_num, HA2, hide (by trivial)⟩
          case measure => simp [intOf]; omega
      · have hlt : ¬ (i : Int) < (q : Int) := by omega
        have HS : Hid (fndR (nds l) m = none) := hide (by
          rw [HN.out]
          have h := HA.out
          rw [List.take_of_length_le (by have := HQ.out; omega)] at h
          exact fnd_none h)
        go_wp2_with fail
        refine bodyPost_ret (v := .tuple #[.pointer (some ⟨w.heap.size + 1, 0, none⟩), .int .i64 (-1)]) (by simp only [results, Tryz.results80]; go_simp) rfl (HEN.out _ _ HB.out HS.out)
end Go.Proofs.YtlcoapignfmgcaaGreatDoor
