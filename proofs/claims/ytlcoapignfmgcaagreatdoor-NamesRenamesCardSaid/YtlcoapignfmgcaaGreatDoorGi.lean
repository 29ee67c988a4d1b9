/- Contracts of names.first, has, writable, search, lookup, absent, isDir. Contracts of names.search, lookup, absent, isDir, writable. -/
import Derived.Test.YtlcoapignfmgcaaGreatDoorGg
import Derived.Test.YtlcoapignfmgcaaGreatDoorGh
namespace Go.Proofs.YtlcoapignfmgcaaGreatDoor
open Go.RowKit
set_option linter.unusedVariables false
theorem ret_i {e : Ending} {a b : Int} (h : e = .returned (.int .i64 a)) (h1 : a = b) : e = .returned (.int .i64 b) := by rw [h, h1]
/-- Ints as cells. -/
def ivs (l : List Int) : List Value := l.map fun (k : Int) => .int .i64 k
theorem ivs_length (l : List Int) : (ivs l).length = l.length := by simp [ivs]
theorem ri_cells {w : World} {B n : Nat} {A : Option Addr} {ks : List Int} (h : Reads w B 1 A n (ivs ks)) (h0 : 0 < n) :
    ∃ g o, A = some ⟨g, o, none⟩ ∧ g < B ∧ ∀ j (hj : j < ks.length), w.cell? ⟨g, o + j, none⟩ = some (.int .i64 ks[j]) := by
  have hl : ks.length = n := by have := h.1; rw [ivs_length] at this; omega
  obtain ⟨g, o, rfl, hg, hc⟩ := cells_of h h0 (by rw [ivs_length]; omega)
  exact ⟨g, o, rfl, hg, fun j hj => hc j _ (by simp [ivs, hj])⟩
theorem sizeInt : (Tryz.prog.info? 3).map (·.size) = some 1 := by kernel_rfl
theorem sizeErr : (Tryz.prog.info? 32).map (·.size) = some 1 := by kernel_rfl
theorem int_at (g o n c q : Nat) (i : Int) (hi : i = (q : Int)) (hq : q < n) (W : World) : (Instr.indexAt 85 (.slice (some ⟨g, o, none⟩) n c) (.int .i64 i)).run Tryz.prog W = .ok (.pointer (some ⟨g, o + q, none⟩)) W := by
  subst hi
  have hE : Tryz.prog.elem 85 = 3 := by simp [Program.elem, Tryz.underlying85]
  rw [run_indexAt_slice W 85 ⟨g, o, none⟩ n c .i64 (q : Int) (slice_ht Tryz.underlying85), if_pos ⟨by omega, by omega⟩]
  rw [hE, run_sizeOf_one 3 sizeInt]
  simp only [Result.andThen, Int.toNat_natCast, at_add, Nat.mul_one]
theorem err_at (g o n c q : Nat) (i : Int) (hi : i = (q : Int)) (hq : q < n) (W : World) : (Instr.indexAt 89 (.slice (some ⟨g, o, none⟩) n c) (.int .i64 i)).run Tryz.prog W = .ok (.pointer (some ⟨g, o + q, none⟩)) W := by
  subst hi
  have hE : Tryz.prog.elem 89 = 32 := by simp [Program.elem, Tryz.underlying89]
  rw [run_indexAt_slice W 89 ⟨g, o, none⟩ n c .i64 (q : Int) (slice_ht Tryz.underlying89), if_pos ⟨by omega, by omega⟩]
  rw [hE, run_sizeOf_one 32 sizeErr]
  simp only [Result.andThen, Int.toNat_natCast, at_add, Nat.mul_one]
set_option maxRecDepth 100000 in
set_option maxHeartbeats 2000000 in
theorem first_any (es : List Int) (A : Option Addr) (n c : Nat) (B : Nat) (w : World) (hA : Reads w B 1 A n (ivs es)) (hn : n ≤ 1000) :
    Calls Tryz.prog 30 #[.slice A n c] w fun e w' => e = .returned (.int .i64 (firstP es)) ∧ w = w' := by
  have hl : es.length = n := by have := hA.1; rw [ivs_length] at this; omega
  have HL := hide hl
  have HA := hide hA
  clear hA hl
  go_enter Tryz.func30, Tryz.ntmps30
  go_wp2_with fail
  go_loopw [7] (fun u7 wx => ∃ k : Nat, k ≤ n ∧ u7 = .int .i64 (k : Int) ∧ wx = w ∧ Hid (firstP es = firstP (es.drop k))) (fun u7 _ => n - (intOf u7).toNat)
  case atStart => exact ⟨0, Nat.zero_le _, rfl, rfl, hide rfl⟩
  case round =>
    obtain ⟨k, hk, rfl, rfl, HN⟩ := hrel
    by_cases hlt : k < n
    · obtain ⟨g, o, rfl, hg, hc⟩ := ri_cells HA.out (by omega)
      have hkl : k < es.length := by have := HL.out; omega
      have hck := hc k hkl
      have hia := fun W => err_at g o n c k (k : Int) rfl hlt W
      have hlt' : (k : Int) < (n : Int) := by omega
      have HN1 : Hid (firstP es = if es[k] = 0 then firstP (es.drop (k + 1)) else es[k]) := hide (by rw [HN.out, List.drop_eq_getElem_cons hkl]; rfl)
      clear HN hc
      generalize es[k] = x at *
      by_cases h0 : x = 0
      · subst h0
        have HN2 : Hid (firstP es = firstP (es.drop (k + 1))) := hide (by rw [HN1.out, if_pos rfl])
        clear HN1
        go_wp2_with fail
        go_roundw
        case rel => exact ⟨k + 1, by omega, by go_num, by first | rfl | trivial, HN2⟩
        case measure => simp [intOf]; omega
      · have HN2 : Hid (firstP es = x) := hide (by rw [HN1.out, if_neg h0])
        have hx0 : (x == 0) = false := by simpa using h0
        clear HN1 h0
        go_wp2_with fail
        go_ret
        exact ⟨by rw [HN2.out]; rfl, by first | rfl | trivial⟩
    · have hlt' : ¬ (k : Int) < (n : Int) := by omega
      have HE : Hid (firstP es = 0) := hide (by rw [HN.out, List.drop_of_length_le (by have := HL.out; omega)]; rfl)
      clear HN
      go_wp2_with fail
      go_ret
      exact ⟨by rw [HE.out]; rfl, by first | rfl | trivial⟩
theorem inB_iff {l : List ND} {i : Int} : inB l i = true ↔ 0 ≤ i ∧ i < (l.length : Int) := by unfold inB; simp
set_option maxRecDepth 100000 in
set_option maxHeartbeats 4000000 in
theorem has_c (L : Option Addr) (n c : Nat) (l : List DV) (is : List Int) (A : Option Addr) (m k : Nat) (w : World) (hF : FsR w w.heap.size L n l) (hB : FewB l) (hA : Reads w w.heap.size 1 A m (ivs is)) (hm : m ≤ 1000) :
    Calls Tryz.prog 28 #[.agg #[.slice L n c], .slice A m k] w fun e w' => e = .returned (.bool (hasP (nds l) is)) ∧ Below w.heap.size w w' := by
  have hl := hF.len
  have hln : (nds l).length = n := by rw [nds_length, hl]
  have HX : Hid (Blk (w.alloc (.cells #[.slice L n c] 24)) w.heap.size 24 #[.slice L n c]) := hide (Blk.new w _ _)
  have hb := on_alloc w (.cells #[.slice L n c] 24)
  have HBW := hide hb
  have XC := hide (check_any L n c l (w.alloc (.cells #[.slice L n c] 24)) ((hF.below hb).more hb.size) hB)
  have HA := hide (hA.below hb)
  have hml : is.length = m := by have := hA.1; rw [ivs_length] at this; omega
  have HML := hide hml
  have HLN := hide hln
  have hn1 : n ≤ 100 := by have := hB.n; omega
  have HR : Hid (hasP (nds l) is = ((is.drop 0).all (inB (nds l)) && checkB (nds l))) := hide rfl
  have k0 := one_ HX.out
  clear hF hB hA hb hl hln hml
  generalize hasP (nds l) is = R at *
  go_enter Tryz.func28, Tryz.ntmps28
  go_wp2_with fail
  generalize w.alloc (.cells #[.slice L n c] 24) = W1 at *
  go_loopw [9] (fun u9 wx => ∃ q : Nat, q ≤ m ∧ u9 = .int .i64 (q : Int) ∧ wx = W1 ∧ Hid (R = ((is.drop q).all (inB (nds l)) && checkB (nds l)))) (fun u9 _ => m - (intOf u9).toNat)
  case atStart => exact ⟨0, Nat.zero_le _, rfl, rfl, HR⟩
  case round =>
    clear HR
    obtain ⟨q, hq, rfl, rfl, HN⟩ := hrel
    by_cases hlt : q < m
    · obtain ⟨g, o, rfl, hg, hc⟩ := ri_cells HA.out (by omega)
      have hql : q < is.length := by have := HML.out; omega
      have hck := hc q hql
      have hia := fun W => int_at g o m k q (q : Int) rfl hlt W
      have hlt' : (q : Int) < (m : Int) := by omega
      have HN1 : Hid (R = (inB (nds l) is[q] && ((is.drop (q + 1)).all (inB (nds l)) && checkB (nds l)))) := hide (by rw [HN.out, List.drop_eq_getElem_cons hql, List.all_cons, Bool.and_assoc])
      clear HN hc
      generalize is[q] = x at *
      by_cases h0 : x < 0
      · have HN2 : Hid (R = false) := hide (by rw [HN1.out]; unfold inB; rw [decide_eq_false (by omega)]; rfl)
        clear HN1
        go_wp2_with fail
        go_ret
        exact ⟨by rw [HN2.out] <;> rfl, HBW.out⟩
      by_cases h1 : (n : Int) ≤ x
      · have HN2 : Hid (R = false) := hide (by rw [HN1.out]; unfold inB; rw [HLN.out, decide_eq_false (p := x < (n : Int)) (by omega), Bool.and_false, Bool.false_and])
        clear HN1
        go_wp2_with fail
        go_ret
        exact ⟨by rw [HN2.out] <;> rfl, HBW.out⟩
      · have HN2 : Hid (R = ((is.drop (q + 1)).all (inB (nds l)) && checkB (nds l))) := hide (by rw [HN1.out]; unfold inB; rw [HLN.out, decide_eq_true (p := 0 ≤ x) (by omega), decide_eq_true (p := x < (n : Int)) (by omega)]; rfl)
        clear HN1
        go_wp2_with fail
        go_roundw
        case rel => exact ⟨q + 1, by omega, by go_num, by first | rfl | trivial, HN2⟩
        case measure => simp [intOf]; omega
    · have hlt' : ¬ (q : Int) < (m : Int) := by omega
      have HE : Hid (R = checkB (nds l)) := hide (by rw [HN.out, List.drop_of_length_le (by have := HML.out; omega)]; rfl)
      clear HN
      go_wp2_with fail
      refine XC.out.mono ?_
      rintro e w2 ⟨rfl, hb2⟩
      have HB2 := hide (HBW.out.trans (hb2.mono HBW.out.size))
      clear hb2
      go_wp2_with fail
      go_ret
      exact ⟨by rw [HE.out]; rfl, HB2.out⟩
end Go.Proofs.YtlcoapignfmgcaaGreatDoor
namespace Go.Proofs.YtlcoapignfmgcaaGreatDoor
open Go.RowKit
set_option linter.unusedVariables false
theorem few_mn {w : World} {B n : Nat} {L : Option Addr} {l : List DV} (hF : FsR w B L n l) (hB : FewB l) : ∀ x ∈ l, x.mn ≤ 1000 := fun x hx => by
  have h1 := (hB.each x hx).n
  have h2 := (hF.ok x hx).nl
  omega
set_option maxRecDepth 100000 in
set_option maxHeartbeats 4000000 in
theorem search_c (L : Option Addr) (n c : Nat) (l : List DV) (m : Nat) (s : List UInt8) (w : World) (hF : FsR w w.heap.size L n l) (hB : ∀ x ∈ l, x.mn ≤ 1000) (hm : m < n) :
    Calls Tryz.prog 60 #[.agg #[.slice L n c], .int .i64 (m : Int), .string ⟨s.toArray⟩] w fun e w' => e = .returned (.tuple #[.int .i64 (findP (ndAt (nds l) (m : Int)).names s : Int), .bool (foundP (ndAt (nds l) (m : Int)).names s)]) ∧ Below w.heap.size w w' := by
  obtain ⟨g, o, x, rfl, hg, hx, hok, hc⟩ := hF.at_ hm
  have HX : Hid (Blk (w.alloc (.cells #[.slice (some ⟨g, o, none⟩) n c] 24)) w.heap.size 24 #[.slice (some ⟨g, o, none⟩) n c]) := hide (Blk.new w _ _)
  have HBW : Hid (Below w.heap.size w (w.alloc (.cells #[.slice (some ⟨g, o, none⟩) n c] 24))) := hide (on_alloc _ _)
  obtain ⟨d0, d1, d2, d3, d4, d5⟩ := NdCells.below hc hg HBW.out
  have hmx : x.mn ≤ 1000 := hB x (List.mem_of_getElem? hx)
  have XS := hide (search_any x.r.names s x.M x.mn x.mc (w.alloc (.cells #[.slice (some ⟨g, o, none⟩) n c] 24)) ((hok.n.below HBW.out).more HBW.out.size) hmx)
  rw [nds_at hx]
  generalize findP x.r.names s = F at *
  generalize foundP x.r.names s = G at *
  have i1 := fun W => nd_at g o n c m (m : Int) rfl hm W
  have k0 := one_ HX.out
  clear hx hok hc hF hB hmx
  go_enter Tryz.func60, Tryz.ntmps60
  go_wp2_with fail
  refine XS.out.mono ?_
  rintro e w4 ⟨rfl, hb4⟩
  have HB4 := hide (HBW.out.trans (hb4.mono HBW.out.size))
  clear hb4 XS d0 d1 d2 d3 d4 d5 k0 i1
  go_wp2_with fail
  refine bodyPost_ret (v := .tuple #[.int .i64 (F : Int), .bool G]) (by simp only [results, Tryz.results60]; go_simp) rfl ⟨rfl, HB4.out⟩
set_option maxRecDepth 100000 in
set_option maxHeartbeats 4000000 in
theorem lookup_c (L : Option Addr) (n c : Nat) (l : List DV) (m : Nat) (s : List UInt8) (w : World) (hF : FsR w w.heap.size L n l) (hB : FewB l) (hm : m < n) (hs : sortedP (ndAt (nds l) (m : Int)).names) :
    Calls Tryz.prog 43 #[.agg #[.slice L n c], .int .i64 (m : Int), .string ⟨s.toArray⟩] w fun e w' => e = .returned (.tuple #[.int .i64 (lkP (nds l) (m : Int) s).1, .bool (lkP (nds l) (m : Int) s).2]) ∧ Below w.heap.size w w' := by
  have HX : Hid (Blk (w.alloc (.cells #[.slice L n c] 24)) w.heap.size 24 #[.slice L n c]) := hide (Blk.new w _ _)
  have HBW : Hid (Below w.heap.size w (w.alloc (.cells #[.slice L n c] 24))) := hide (on_alloc _ _)
  have XS := hide (search_c L n c l m s (w.alloc (.cells #[.slice L n c] 24)) ((hF.below HBW.out).more HBW.out.size) (few_mn hF hB) hm)
  have HF := hide hF
  have HSP := hide (lk_found hs (s := s))
  generalize lkP (nds l) (m : Int) s = R at *
  obtain ⟨t, ht⟩ : ∃ t, (ndAt (nds l) (m : Int)).names = t := ⟨_, rfl⟩
  have HT := hide ht
  rw [ht] at XS HSP
  have k0 := one_ HX.out
  clear hF hB hs ht
  obtain ⟨F, hFF⟩ : ∃ F, findP t s = F := ⟨_, rfl⟩
  obtain ⟨G, hG⟩ : ∃ F, foundP t s = F := ⟨_, rfl⟩
  rw [hFF, hG] at XS HSP
  clear hFF hG
  go_enter Tryz.func43, Tryz.ntmps43
  go_wp2_with fail
  refine XS.out.mono ?_
  rintro e w4 ⟨rfl, hb4⟩
  have HB4 := hide (HBW.out.trans (hb4.mono HBW.out.size))
  have HX4 := hide (HX.out.below hb4 HX.out.lt)
  clear hb4 XS k0 HX HBW
  have k0 := one_ HX4.out
  rcases HSP.out with ⟨hg2, y, hy, hfy⟩ | ⟨hg2, hfy⟩
  · subst hg2
    subst hfy
    obtain ⟨g, o, x, rfl, hg, hx, hok, hc⟩ := HF.out.at_ hm
    obtain ⟨d0, d1, d2, d3, d4, d5⟩ := NdCells.below hc hg HB4.out
    have i1 := fun W => nd_at g o n c m (m : Int) rfl hm W
    have hxt : x.r.names = t := by rw [← HT.out, nds_at hx]
    have hFl : F < x.mn := by have := (List.getElem?_eq_some_iff.1 hy).1; have := hok.nl; rw [hxt] at this; omega
    obtain ⟨g', o', y', hM, hg', hy', n0, n1⟩ := nm_cells (hok.n.below HB4.out) hFl
    obtain rfl : y = y' := by rw [hxt, hy] at hy'; injection hy'
    have i2 := fun W => nm_at g' o' x.mn x.mc F (F : Int) rfl hFl W
    rw [hM] at d4
    clear hy hy' HSP hM hx hok hc hxt
    go_wp2_with fail
    refine bodyPost_ret (v := .tuple #[.int .i64 y.node, .bool true]) (by simp only [results, Tryz.results43]; go_simp) rfl ⟨rfl, HB4.out⟩
  · subst hg2
    subst hfy
    clear HSP
    go_wp2_with fail
    refine bodyPost_ret (v := .tuple #[.int .i64 0, .bool false]) (by simp only [results, Tryz.results43]; go_simp) rfl ⟨rfl, HB4.out⟩
set_option maxRecDepth 100000 in
set_option maxHeartbeats 4000000 in
theorem absent_c (L : Option Addr) (n c : Nat) (l : List DV) (m : Nat) (s : List UInt8) (w : World) (hF : FsR w w.heap.size L n l) (hB : FewB l) (hm : m < n) (hs : sortedP (ndAt (nds l) (m : Int)).names) :
    Calls Tryz.prog 33 #[.agg #[.slice L n c], .int .i64 (m : Int), .string ⟨s.toArray⟩] w fun e w' => e = .returned (.int .i64 (absentP (nds l) (m : Int) s)) ∧ Below w.heap.size w w' := by
  have HX : Hid (Blk (w.alloc (.cells #[.slice L n c] 24)) w.heap.size 24 #[.slice L n c]) := hide (Blk.new w _ _)
  have HBW : Hid (Below w.heap.size w (w.alloc (.cells #[.slice L n c] 24))) := hide (on_alloc _ _)
  have XS := hide (lookup_c L n c l m s (w.alloc (.cells #[.slice L n c] 24)) ((hF.below HBW.out).more HBW.out.size) hB hm hs)
  unfold absentP
  generalize lkP (nds l) (m : Int) s = R at *
  obtain ⟨k, b⟩ := R
  dsimp only at XS
  have k0 := one_ HX.out
  clear hF hB hs
  cases b
  all_goals
    go_enter Tryz.func33, Tryz.ntmps33
    go_wp2_with fail
    refine XS.out.mono ?_
    rintro e w4 ⟨rfl, hb4⟩
    have HB4 := hide (HBW.out.trans (hb4.mono HBW.out.size))
    clear hb4 XS k0 HX HBW
    go_wp2_with fail
    go_ret
    exact ⟨rfl, HB4.out⟩
set_option maxRecDepth 100000 in
set_option maxHeartbeats 4000000 in
theorem isdir_c (L : Option Addr) (n c : Nat) (l : List DV) (m : Nat) (w : World) (hF : FsR w w.heap.size L n l) (hm : m < n) :
    Calls Tryz.prog 42 #[.agg #[.slice L n c], .int .i64 (m : Int)] w fun e w' => e = .returned (.bool ((ndAt (nds l) (m : Int)).kind == 2)) ∧ Below w.heap.size w w' := by
  obtain ⟨g, o, x, rfl, hg, hx, hok, hc⟩ := hF.at_ hm
  have HX : Hid (Blk (w.alloc (.cells #[.slice (some ⟨g, o, none⟩) n c] 24)) w.heap.size 24 #[.slice (some ⟨g, o, none⟩) n c]) := hide (Blk.new w _ _)
  have HBW : Hid (Below w.heap.size w (w.alloc (.cells #[.slice (some ⟨g, o, none⟩) n c] 24))) := hide (on_alloc _ _)
  obtain ⟨d0, d1, d2, d3, d4, d5⟩ := NdCells.below hc hg HBW.out
  rw [nds_at hx]
  have i1 := fun W => nd_at g o n c m (m : Int) rfl hm W
  have k0 := one_ HX.out
  clear hx hok hc hF
  go_enter Tryz.func42, Tryz.ntmps42
  go_wp2_with fail
  go_ret
  exact ⟨rfl, HBW.out⟩
theorem may_and {m : Int} (h0 : 0 ≤ m) (h7 : m ≤ 7) : (bits BinOp.and IntKind.i64 m 3 != 3) = !(decide (m % 4 = 3)) := by
  have hm : m = 0 ∨ m = 1 ∨ m = 2 ∨ m = 3 ∨ m = 4 ∨ m = 5 ∨ m = 6 ∨ m = 7 := by omega
  rcases hm with rfl | rfl | rfl | rfl | rfl | rfl | rfl | rfl <;> decide
set_option maxRecDepth 100000 in
set_option maxHeartbeats 4000000 in
theorem writable_c (L : Option Addr) (n c : Nat) (l : List DV) (m : Nat) (w : World) (hF : FsR w w.heap.size L n l) (hm : m < n) (h7 : 0 ≤ (ndAt (nds l) (m : Int)).mode ∧ (ndAt (nds l) (m : Int)).mode ≤ 7) :
    Calls Tryz.prog 32 #[.agg #[.slice L n c], .int .i64 (m : Int)] w fun e w' => e = .returned (.int .i64 (writableP (nds l) (m : Int))) ∧ Below w.heap.size w w' := by
  obtain ⟨g, o, x, rfl, hg, hx, hok, hc⟩ := hF.at_ hm
  have HX : Hid (Blk (w.alloc (.cells #[.slice (some ⟨g, o, none⟩) n c] 24)) w.heap.size 24 #[.slice (some ⟨g, o, none⟩) n c]) := hide (Blk.new w _ _)
  have HBW : Hid (Below w.heap.size w (w.alloc (.cells #[.slice (some ⟨g, o, none⟩) n c] 24))) := hide (on_alloc _ _)
  obtain ⟨d0, d1, d2, d3, d4, d5⟩ := NdCells.below hc hg HBW.out
  unfold writableP
  rw [nds_at hx] at h7 ⊢
  have hbt := may_and h7.1 h7.2
  have i1 := fun W => nd_at g o n c m (m : Int) rfl hm W
  have k0 := one_ HX.out
  clear hx hok hc hF h7
  have HB2 := hide (HBW.out.alloc HBW.out.size (.cells #[Value.int .i64 x.r.kind, .int .i64 x.r.mode, .int .i64 x.r.links, .slice x.D x.dn x.dc, .slice x.M x.mn x.mc, .string ⟨x.r.to.toArray⟩] 28))
  by_cases hk : x.r.kind = 2
  · have hkb : (x.r.kind != 2) = false := by rw [hk]; rfl
    by_cases hl : x.r.links = 0
    · have hlb : (x.r.links == 0) = true := by rw [hl]; rfl
      rw [if_pos hk, if_pos hl]
      clear hk hl
      go_enter Tryz.func32, Tryz.ntmps32
      go_wp2_with fail
      go_ret
      exact ⟨rfl, HB2.out⟩
    · have hlb : (x.r.links == 0) = false := beq_eq_false_iff_ne.2 hl
      by_cases hm4 : x.r.mode % 4 = 3
      · rw [decide_eq_true hm4] at hbt
        rw [if_pos hk, if_neg hl, if_pos hm4]
        clear hk hl hm4
        go_enter Tryz.func32, Tryz.ntmps32
        go_wp2_with fail
        go_ret
        exact ⟨rfl, HB2.out⟩
      · rw [decide_eq_false hm4] at hbt
        rw [if_pos hk, if_neg hl, if_neg hm4]
        clear hk hl hm4
        go_enter Tryz.func32, Tryz.ntmps32
        go_wp2_with fail
        go_ret
        exact ⟨rfl, HB2.out⟩
  · have hkb : (x.r.kind != 2) = true := bne_iff_ne.2 hk
    rw [if_neg hk]
    clear hk
    go_enter Tryz.func32, Tryz.ntmps32
    go_wp2_with fail
    go_ret
    exact ⟨rfl, HB2.out⟩
end Go.Proofs.YtlcoapignfmgcaaGreatDoor
