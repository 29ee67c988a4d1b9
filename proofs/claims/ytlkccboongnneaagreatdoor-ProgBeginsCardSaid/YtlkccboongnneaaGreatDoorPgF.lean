/- A child in a box: echo, head, counting. -/
import Derived.Test.YtlkccboongnneaaGreatDoorPgE
namespace Go.Proofs.YtlkccboongnneaaGreatDoor
open Go.RowKit
set_option linter.unusedVariables false
set_option maxHeartbeats 2000000 in
theorem startEcho_any (B g : Nat) (p : PR) (s : PS) (w : World) (h : RunAt B g p s w) (hB : B ≤ w.heap.size) (hj : (Lib.join p.args.tail [32]).length ≤ 400000) :
    Calls Tryz.prog 38 #[.pointer (some ⟨g, 0, none⟩)] w fun e w' => e = .returned (.tuple #[]) ∧ (∃ s', RunAt B g { p with buf := Lib.join p.args.tail [32] ++ [10], phase := 3 } s' w') ∧ Below B w w' := by
  have X := hide (words_any B g p s w h)
  have H := hide h
  have hle := h.le
  clear h
  go_enter Tryz.func38, Tryz.ntmps38
  go_wp2_with fail
  refine X.out.mono ?_
  rintro e w1 ⟨rfl, A, n, c, rfl, hR, hn, hnc, hA⟩
  have XJ := hide (join_row 32 A n c p.args.tail w hR hnc hA (by omega))
  clear X hR hn hnc hA
  go_wp2_with fail
  refine XJ.out.mono ?_
  rintro e w2 ⟨rfl, hb⟩
  have H2 := hide (H.out.below hb)
  have HB2 : Hid (Below B w w2) := hide (hb.mono hB)
  have hB2 : B ≤ w2.heap.size := Nat.le_trans hB hb.size
  obtain ⟨J, hJ⟩ : ∃ l, Lib.join p.args.tail [32] = l := ⟨_, rfl⟩
  rw [hJ] at hj ⊢
  have HJ := hide hJ
  clear XJ hb hJ
  obtain ⟨W3, D, dn, dc, hcv, hdn, hod, hb3⟩ := conv_od (J ++ [10]) w2
  rw [← catB] at hcv
  have H3 := hide (H2.out.below hb3)
  have HB3 : Hid (Below B w W3) := hide (HB2.out.trans (hb3.mono hB2))
  have HD := hide (hod.more hB2)
  obtain ⟨⟨c0, c1, c2, c3, c4, c5, c6, c7, c8, c9⟩, f0, f1, f2, f3, f4, f5, f6, f7, f8, f9⟩ := ten H3.out.blk
  clear hod hb3 hdn H2 H HB2
  go_wp2_with fail
  go_end0
  refine ⟨rfl, ?_, (HB3.out.setCell (by exact hle) _).setCell (by exact hle) _⟩
  rw [HJ.out]
  exact ⟨_, (H3.out.bf HD.out).ph 3⟩
theorem bytesOf_map (bs : Bs) : Lib.bytesOf (bs.map fun b => (b.toNat : Int)) = bs := by
  simp [Lib.bytesOf, List.map_map, Function.comp_def]
theorem cells_b {w : World} {B n : Nat} {ad : Addr} {bs : Bs} (h : Reads w B 1 (some ad) n (bv bs)) : (bs.map fun b => (b.toNat : Int)).length = n ∧ ∀ i, i < n → w.cell? (ad.add i) = some (.int .u8 ((bs.map fun b => (b.toNat : Int)).getD i 0)) := by
  have hl : bs.length = n := by have := h.1; simp [bv] at this; exact this
  refine ⟨by simpa using hl, fun i hi => ?_⟩
  obtain ⟨ad', e, _, hc⟩ := h.2 (by omega)
  injection e with e
  subst e
  have hib : i < bs.length := by omega
  have := hc i (.int .u8 (bs[i].toNat : Int)) (by simp [bv, hib])
  rw [this]
  simp [List.getD, hib]
theorem count_ten (a : Addr) (n c b2 d : Nat) (bs : Bs) (w : World) (hR : Reads w w.heap.size 1 (some a) n (bv bs)) (hc : w.cell? ⟨b2, 0, none⟩ = some (.int .u8 10)) :
    Calls Tryz.prog 62 #[.slice (some a) n c, .slice (some ⟨b2, 0, none⟩) 1 d] w fun e w' => e = .returned (.int .i64 (linesIn bs : Int)) ∧ w = w' := by
  obtain ⟨h1, h2⟩ := cells_b hR
  refine (Any.bytes_Count_one_at Tryz.laysSlB13 a n c b2 0 d _ 10 w h1 h2 hc).mono ?_
  rintro e w' ⟨rfl, rfl⟩
  refine ⟨?_, rfl⟩
  rw [bytesOf_map]
  rfl
/-- A number that is counted on. -/
theorem cnt_le (bs : Bs) : linesIn bs ≤ bs.length := List.count_le_length
set_option maxHeartbeats 2000000 in
theorem count_any (B g : Nat) (p : PR) (s : PS) (D : Option Addr) (dn dc : Nat) (bs : Bs) (w : World) (h : RunAt B g p s w) (hD : Reads w w.heap.size 1 D dn (bv bs)) (h1 : 1 ≤ dn) (hn : dn ≤ 400000) (hc : i64R p.count) (hB : B ≤ w.heap.size) (hm : ∀ x ∈ p.args, x.length ≤ 10000) :
    Calls Tryz.prog 48 #[.pointer (some ⟨g, 0, none⟩), .slice D dn dc] w fun e w' => e = .returned (.tuple #[]) ∧ RunAt B g { p with count := countP p bs } s w' ∧ Below B w w' := by
  have X := hide (words_any B g p s w h)
  have H := hide h
  have hle := h.le
  have hbl : bs.length = dn := by have := hD.1; simp [bv] at this; exact this
  have HBL := hide hbl
  have HD := hide hD
  obtain ⟨ad, rfl⟩ := rd_some hD (by omega)
  have hli := cnt_le bs
  unfold i64R at hc
  obtain ⟨cn, hcn⟩ : ∃ c, p.count = c := ⟨_, rfl⟩
  rw [hcn] at hc
  have HCN := hide hcn
  obtain ⟨M, hM⟩ : ∃ M : Int, min (max cn 0) 1099511627776 = M := ⟨_, rfl⟩
  have hM0 : 0 ≤ M ∧ M ≤ 1099511627776 := by omega
  have HM := hide hM
  obtain ⟨li, hli2⟩ : ∃ l, linesIn bs = l := ⟨_, rfl⟩
  have HLI := hide hli2
  have hli3 : li ≤ dn := by omega
  clear h hD hbl hcn hli hli2
  go_enter Tryz.func48, Tryz.ntmps48
  go_wp2_with fail
  refine X.out.mono ?_
  rintro e w1 ⟨rfl, A, n, c, rfl, hR, hn2, hnc, hA⟩
  have hl : p.args.tail.length = n := by rw [List.length_tail]; omega
  have hmx : ∀ x ∈ p.args.tail, x.length ≤ 10000 := fun x hx => hm x (List.mem_of_mem_tail hx)
  obtain ⟨ws, hws⟩ : ∃ l, p.args.tail = l := ⟨_, rfl⟩
  rw [hws] at hR hl hmx
  have HW := hide hws
  clear hws X hm
  have HF : ∀ k : Nat, (if ws.head? = some [45, 108] then (li : Int) else (dn : Int)) = (k : Int) → countP p bs = M + k := by
    intro k hk
    unfold countP
    rw [HCN.out, HM.out, HW.out, HLI.out, HBL.out, hk]
  have HF' := hide HF
  clear HF
  obtain ⟨⟨c0, c1, c2, c3, c4, c5, c6, c7, c8, c9⟩, f0, f1, f2, f3, f4, f5, f6, f7, f8, f9⟩ := ten H.out.blk
  rw [HCN.out] at c8
  have hcase : (cn ≤ 0 ∧ M = 0) ∨ (0 < cn ∧ cn ≤ 1099511627776 ∧ M = cn) ∨ (1099511627776 < cn ∧ M = 1099511627776) := by have := HM.out; omega
  clear HM hM0
  cases ws with
  | nil =>
    have hn0 : n = 0 := hl.symm
    subst hn0
    have HK := hide (HF'.out dn (by simp))
    clear hn2 hl hR hA hmx HF' hnc
    rcases hcase with ⟨d1, rfl⟩ | ⟨d1, d2, rfl⟩ | ⟨d1, rfl⟩
    · skip
      go_wp2_with fail
      go_end0
      refine ⟨rfl, ?_, (Below.refl B w).setCell (by exact hle) _⟩
      rw [HK.out]
      (try rw [Int.zero_add])
      exact H.out.co _
    · skip
      go_wp2_with fail
      go_end0
      refine ⟨rfl, ?_, (Below.refl B w).setCell (by exact hle) _⟩
      rw [HK.out]
      (try rw [Int.zero_add])
      exact H.out.co _
    · skip
      go_wp2_with fail
      go_end0
      refine ⟨rfl, ?_, (Below.refl B w).setCell (by exact hle) _⟩
      rw [HK.out]
      (try rw [Int.zero_add])
      exact H.out.co _
  | cons x l =>
    have hn1 : 1 ≤ n := by simp at hl; omega
    obtain ⟨b, o, rfl⟩ := hA (by omega)
    have q0 := cell_s hR (k := 0) (x := x) rfl
    have hx1 := hmx x (by simp)
    clear hn2 hl hR hA hmx
    rw [Nat.add_zero] at q0
    by_cases hx : x = [45, 108]
    · subst hx
      have HK := hide (HF'.out li (by simp))
      clear HF'
      have XC := hide (fun W (hW : Reads W W.heap.size 1 (some ad) dn (bv bs)) b2 d hb2 => count_ten ad dn dc b2 d bs W hW hb2)
      have HA := hide (HD.out.alloc (Nat.le_refl _) (.cells #[.int .u8 10] 5))
      have HH := hide (H.out.below ((Below.refl _ _).alloc (Nat.le_refl _) (.cells #[.int .u8 10] 5)))
      have hsz : g < w.heap.size := H.out.blk.lt
      rcases hcase with ⟨d1, rfl⟩ | ⟨d1, d2, rfl⟩ | ⟨d1, rfl⟩
      · go_wp2_with fail
        have hcell : (w.alloc (.cells #[.int .u8 10] 5)).cell? ⟨w.heap.size, 0, none⟩ = some (.int .u8 10) := by
          simp
        refine (XC.out _ (HA.out.more (by simp)) _ _ hcell).mono ?_
        rintro e w3 ⟨he3, hw3⟩
        subst he3
        subst hw3
        obtain ⟨⟨c0, c1, c2, c3, c4, c5, c6, c7, c8, c9⟩, f0, f1, f2, f3, f4, f5, f6, f7, f8, f9⟩ := ten HH.out.blk
        rw [HCN.out] at c8
        rw [HLI.out]
        clear XC
        go_wp2_with fail
        go_end0
        refine ⟨rfl, ?_, ?_⟩
        · rw [HK.out]
          (try rw [Int.zero_add])
          exact (H.out.co _).below ((Below.refl _ _).alloc (Nat.le_refl _) _)
        · exact ((Below.refl B w).setCell (by exact hle) _).alloc (by simp [World.setCell]; exact hB) _
      · go_wp2_with fail
        have hcell : (w.alloc (.cells #[.int .u8 10] 5)).cell? ⟨w.heap.size, 0, none⟩ = some (.int .u8 10) := by
          simp
        refine (XC.out _ (HA.out.more (by simp)) _ _ hcell).mono ?_
        rintro e w3 ⟨he3, hw3⟩
        subst he3
        subst hw3
        obtain ⟨⟨c0, c1, c2, c3, c4, c5, c6, c7, c8, c9⟩, f0, f1, f2, f3, f4, f5, f6, f7, f8, f9⟩ := ten HH.out.blk
        rw [HCN.out] at c8
        rw [HLI.out]
        clear XC
        go_wp2_with fail
        go_end0
        refine ⟨rfl, ?_, ?_⟩
        · rw [HK.out]
          (try rw [Int.zero_add])
          exact (H.out.co _).below ((Below.refl _ _).alloc (Nat.le_refl _) _)
        · exact ((Below.refl B w).setCell (by exact hle) _).alloc (by simp [World.setCell]; exact hB) _
      · go_wp2_with fail
        have hcell : (w.alloc (.cells #[.int .u8 10] 5)).cell? ⟨w.heap.size, 0, none⟩ = some (.int .u8 10) := by
          simp
        refine (XC.out _ (HA.out.more (by simp)) _ _ hcell).mono ?_
        rintro e w3 ⟨he3, hw3⟩
        subst he3
        subst hw3
        obtain ⟨⟨c0, c1, c2, c3, c4, c5, c6, c7, c8, c9⟩, f0, f1, f2, f3, f4, f5, f6, f7, f8, f9⟩ := ten HH.out.blk
        rw [HCN.out] at c8
        rw [HLI.out]
        clear XC
        go_wp2_with fail
        go_end0
        refine ⟨rfl, ?_, ?_⟩
        · rw [HK.out]
          (try rw [Int.zero_add])
          exact (H.out.co _).below ((Below.refl _ _).alloc (Nat.le_refl _) _)
        · exact ((Below.refl B w).setCell (by exact hle) _).alloc (by simp [World.setCell]; exact hB) _
    · have hxb : (x == [45, 108]) = false := by simpa using hx
      have HK := hide (HF'.out dn (by simp [hx]))
      clear HF' hx
      rcases hcase with ⟨d1, rfl⟩ | ⟨d1, d2, rfl⟩ | ⟨d1, rfl⟩
      · skip
        go_wp2_with fail
        go_end0
        refine ⟨rfl, ?_, (Below.refl B w).setCell (by exact hle) _⟩
        rw [HK.out]
        (try rw [Int.zero_add])
        exact H.out.co _
      · skip
        go_wp2_with fail
        go_end0
        refine ⟨rfl, ?_, (Below.refl B w).setCell (by exact hle) _⟩
        rw [HK.out]
        (try rw [Int.zero_add])
        exact H.out.co _
      · skip
        go_wp2_with fail
        go_end0
        refine ⟨rfl, ?_, (Below.refl B w).setCell (by exact hle) _⟩
        rw [HK.out]
        (try rw [Int.zero_add])
        exact H.out.co _
end Go.Proofs.YtlkccboongnneaaGreatDoor
