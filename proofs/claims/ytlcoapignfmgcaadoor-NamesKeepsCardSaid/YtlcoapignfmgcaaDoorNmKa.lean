/- The document's Few with its own bounds. -/
import Derived.Test.YtlcoapignfmgcaaDoorNmHb
namespace Go.Proofs.YtlcoapignfmgcaaDoor
open Go.RowKit
set_option linter.unusedVariables false
structure FewN6 (x : DV) : Prop where
  d : x.r.data.length ≤ 5000
  tt : x.r.to.length ≤ 600
  n : x.r.names.length ≤ 100
  nm : ∀ y ∈ x.r.names, y.name.length ≤ 300
structure FewB6 (l : List DV) : Prop where
  n : l.length ≤ 60
  each : ∀ x ∈ l, FewN6 x
  all : upto l l.length ≤ 200
def FewEnd6 (w : World) (l : List DV) (e : Ending) (w' : World) : Prop := ∃ f, e = .returned (.bool f) ∧ (f = true → FewB6 l) ∧ Below w.heap.size w w'
theorem FewEnd6.no {w : World} {l : List DV} {e : Ending} {w' : World} (h : e = .returned (.bool false)) (hb : Below w.heap.size w w') : FewEnd6 w l e w' := ⟨false, h, (fun h => by cases h), hb⟩
set_option maxRecDepth 100000 in
set_option maxHeartbeats 8000000 in
theorem few6_any (L : Option Addr) (n c : Nat) (l : List DV) (w : World) (hF : FsR w w.heap.size L n l) (hn : n ≤ maxLen) :
    Calls Tryd.prog 5 #[.agg #[.slice L n c]] w (FewEnd6 w l) := by
  have hl := hF.len
  have HX : Hid (Blk (w.alloc (.cells #[.slice L n c] 24)) w.heap.size 24 #[.slice L n c]) := hide (Blk.new w _ _)
  have HB : Hid (Below w.heap.size w (w.alloc (.cells #[.slice L n c] 24))) := hide (on_alloc _ _)
  have HF := hide hF
  have HL := hide hl
  clear hF hl
  by_cases h60 : n ≤ 60
  · have h60b : ¬ ((60 : Int) < (n : Int)) := by omega
    go_enter Tryd.func5, Tryd.ntmps5
    go_wp2_with fail
    go_loopw [3, 4] (fun u3 u4 wx => ∃ i m : Nat, i ≤ n ∧ m ≤ i * 100 ∧ u3 = .int .i64 (m : Int) ∧ u4 = .int .i64 (i : Int) ∧ Hid (m = upto l i) ∧ Hid (∀ j x, j < i → l[j]? = some x → FewN6 x) ∧ Hid (Below w.heap.size w wx) ∧ Hid (Blk wx w.heap.size 24 #[.slice L n c])) (fun _ i _ => n - (intOf i).toNat)
    case atStart => exact ⟨0, 0, Nat.zero_le _, by omega, rfl, rfl, hide rfl, hide (fun j x hj => absurd hj (by omega)), HB, HX⟩
    case round =>
      clear HX HB
      obtain ⟨i, m, hi, hm, rfl, rfl, HM, HA, HB, HX⟩ := hrel
      have k0 := one_ HX.out
      by_cases hin : i < n
      · have hlt : (i : Int) < (n : Int) := by omega
        obtain ⟨g, o, x, rfl, hg, hx, hok, hc⟩ := HF.out.at_ hin
        have HC0 := hide hc
        obtain ⟨d0, d1, d2, d3, d4, d5⟩ := NdCells.below hc hg HB.out
        clear hc
        have hok2 := hok.below HB.out
        have HOK := hide hok2
        have HXI := hide hx
        have dl := hok.dl
        have nl := hok.nl
        have i1 := fun W => nd_at g o n c i (i : Int) rfl hin W
        have HBX : Hid (Blk (wr.alloc (.cells #[Value.int .i64 x.r.kind, .int .i64 x.r.mode, .int .i64 x.r.links, .slice x.D x.dn x.dc, .slice x.M x.mn x.mc, .string ⟨x.r.to.toArray⟩] 37)) wr.heap.size 37 #[Value.int .i64 x.r.kind, .int .i64 x.r.mode, .int .i64 x.r.links, .slice x.D x.dn x.dc, .slice x.M x.mn x.mc, .string ⟨x.r.to.toArray⟩]) := hide (Blk.new wr _ _)
        have HX2 := hide (HX.out.alloc (.cells #[Value.int .i64 x.r.kind, .int .i64 x.r.mode, .int .i64 x.r.links, .slice x.D x.dn x.dc, .slice x.M x.mn x.mc, .string ⟨x.r.to.toArray⟩] 37))
        have HB2 := hide (HB.out.alloc HB.out.size (.cells #[Value.int .i64 x.r.kind, .int .i64 x.r.mode, .int .i64 x.r.links, .slice x.D x.dn x.dc, .slice x.M x.mn x.mc, .string ⟨x.r.to.toArray⟩] 37))
        have HOK2 := hide (HOK.out.below (((Below.refl w.heap.size wr)).alloc HB.out.size (.cells #[Value.int .i64 x.r.kind, .int .i64 x.r.mode, .int .i64 x.r.links, .slice x.D x.dn x.dc, .slice x.M x.mn x.mc, .string ⟨x.r.to.toArray⟩] 37)))
        have h2 : g < wr.heap.size := Nat.lt_of_lt_of_le hg HB.out.size
        clear hx hok hok2 HC0 HOK
        by_cases c1 : x.dn ≤ 5000
        · have c1b : ¬ ((5000 : Int) < (x.dn : Int)) := by omega
          by_cases c2 : x.r.to.length ≤ 600
          · have c2b : ¬ ((600 : Int) < (x.r.to.length : Int)) := by omega
            by_cases c3 : x.mn ≤ 100
            · have c3b : ¬ ((100 : Int) < (x.mn : Int)) := by omega
              go_wp2_with fail
              obtain ⟨WC, hWC⟩ : ∃ W, wr.alloc (.cells #[Value.int .i64 x.r.kind, .int .i64 x.r.mode, .int .i64 x.r.links, .slice x.D x.dn x.dc, .slice x.M x.mn x.mc, .string ⟨x.r.to.toArray⟩] 37) = W := ⟨_, rfl⟩
              rw [hWC] at HBX HX2 HB2 HOK2 ⊢
              clear hWC HX HB d0 d1 d2 d3 d4 d5 k0
              obtain ⟨e0, e1, e2, e3, e4, e5⟩ := six HBX.out
              go_loopw [6] (fun u wx => ∃ k : Nat, k ≤ x.mn ∧ u = .int .i64 (k : Int) ∧ Hid (∀ j y, j < k → x.r.names[j]? = some y → y.name.length ≤ 300) ∧ WC = wx) (fun i _ => x.mn - (intOf i).toNat)
              case atStart => exact ⟨0, Nat.zero_le _, rfl, hide (fun j y hj => absurd hj (by omega)), rfl⟩
              case round =>
                obtain ⟨k, hk, rfl, HK, rfl⟩ := hrel
                by_cases hkn : k < x.mn
                · have hklt : (k : Int) < (x.mn : Int) := by omega
                  obtain ⟨g', o', y, hM, hg', hy, n0, n1⟩ := nm_cells HOK2.out.n hkn
                  have HY := hide hy
                  have i2 := fun W => nm_at g' o' x.mn x.mc k (k : Int) rfl hkn W
                  rw [hM] at e4
                  by_cases c4 : y.name.length ≤ 300
                  · have c4b : ¬ ((300 : Int) < (y.name.length : Int)) := by omega
                    clear hy
                    go_wp2_with fail
                    go_roundw
                    case rel =>
                      refine ⟨k + 1, by omega, by go_num, hide (fun j z hj hz => ?_), by first | exact trivial | rfl⟩
                      rcases Nat.lt_or_ge j k with h | h
                      · exact HK.out j z h hz
                      · obtain rfl : j = k := by omega
                        rw [HY.out] at hz; injection hz with hz; subst hz; exact c4
                    case measure => simp [intOf]; omega
                  · have c4b : (300 : Int) < (y.name.length : Int) := by omega
                    clear hy
                    go_wp2_with fail
                    go_ret
                    exact FewEnd6.no rfl HB2.out
                · have hklt : ¬ ((k : Int) < (x.mn : Int)) := by omega
                  have HKN : Hid (∀ y ∈ x.r.names, y.name.length ≤ 300) := hide (fun y hy => by
                    obtain ⟨j, hj⟩ := List.mem_iff_getElem?.1 hy
                    have hjl : j < x.r.names.length := (List.getElem?_eq_some_iff.1 hj).1
                    exact HK.out j y (by omega) hj)
                  clear HK
                  go_wp2_with fail
                  go_roundw
                  case rel =>
                    refine ⟨i + 1, m + x.mn, by omega, by omega, by go_num, by go_num, hide (by rw [upto_succ HXI.out, ← HM.out, nl]), hide (fun j z hj hz => ?_), HB2, HX2⟩
                    rcases Nat.lt_or_ge j i with h | h
                    · exact HA.out j z h hz
                    · obtain rfl : j = i := by omega
                      have hxi := HXI.out
                      rw [hxi] at hz; injection hz with hz; subst hz
                      exact ⟨by omega, c2, by omega, HKN.out⟩
                  case measure => simp [intOf]; omega
            · have c3b : ((100 : Int) < (x.mn : Int)) := by omega
              go_wp2_with fail
              go_ret
              exact FewEnd6.no rfl HB2.out
          · have c2b : ((600 : Int) < (x.r.to.length : Int)) := by omega
            go_wp2_with fail
            go_ret
            exact FewEnd6.no rfl HB2.out
        · have c1b : ((5000 : Int) < (x.dn : Int)) := by omega
          go_wp2_with fail
          go_ret
          exact FewEnd6.no rfl HB2.out
      · have hlt : ¬ ((i : Int) < (n : Int)) := by omega
        obtain rfl : i = n := by omega
        by_cases c5 : m ≤ 200
        · have c5b : (m : Int) ≤ 200 := by omega
          go_wp2_with fail
          go_ret
          refine ⟨true, rfl, fun _ => ⟨by rw [HL.out]; omega, fun z hz => ?_, by rw [HL.out, ← HM.out]; omega⟩, HB.out⟩
          obtain ⟨j, hj⟩ := List.mem_iff_getElem?.1 hz
          have hjl : j < l.length := (List.getElem?_eq_some_iff.1 hj).1
          exact HA.out j z (by have := HL.out; omega) hj
        · have c5b : ¬ ((m : Int) ≤ 200) := by omega
          go_wp2_with fail
          go_ret
          exact FewEnd6.no rfl HB.out
  · have h60b : (60 : Int) < (n : Int) := by omega
    have k0 := one_ HX.out
    go_enter Tryd.func5, Tryd.ntmps5
    go_wp2_with fail
    go_ret
    exact FewEnd6.no rfl HB.out
end Go.Proofs.YtlcoapignfmgcaaDoor
