/- A child in a box: head; a row with one byte put for another. -/
import Derived.Test.YtlkccboongnneaaGreatDoorPgF
namespace Go.Proofs.YtlkccboongnneaaGreatDoor
open Go.RowKit
set_option linter.unusedVariables false
def headP (p : PR) (d : Bs) : PR := { p with count := max p.count 0 - headN p d, buf := d.take (headN p d), phase := if max p.count 0 - headN p d = 0 then 3 else 2 }
theorem headP_eq {p : PR} {d : Bs} {n : Nat} {c f : Int} (h1 : headN p d = n) (h2 : max p.count 0 - n = c) (h3 : (if c = 0 then (3 : Int) else 2) = f) : headP p d = { p with count := c, buf := d.take n, phase := f } := by
  unfold headP
  rw [h1, h2, h3]
set_option maxHeartbeats 4000000 in
theorem head_any (B g : Nat) (p : PR) (s : PS) (D : Option Addr) (dn dc : Nat) (bs : Bs) (w : World) (h : RunAt B g p s w) (hD : Od B w D dn dc bs) (h1 : 1 ≤ dn) (hn : dn ≤ 400000) (hc : i64R p.count) (hB : B ≤ w.heap.size) :
    Calls Tryz.prog 49 #[.pointer (some ⟨g, 0, none⟩), .slice D dn dc] w fun e w' => e = .returned (.tuple #[]) ∧ (∃ s', RunAt B g (headP p bs) s' w') ∧ Below B w w' := by
  have H := hide h
  have hle := h.le
  have hbl : bs.length = dn := by have := hD.rd.1; simp [bv] at this; exact this
  have hdc := hD.le
  have HD := hide hD
  obtain ⟨ad, rfl⟩ := rd_some hD.rd (by omega)
  unfold i64R at hc
  obtain ⟨cn, hcn⟩ : ∃ c, p.count = c := ⟨_, rfl⟩
  rw [hcn] at hc
  have HCN := hide hcn
  have hN : headN p bs = (min (max cn 0) dn).toNat := by unfold headN; rw [hcn, hbl]; omega
  have HN := hide hN
  have HBL := hide hbl
  obtain ⟨⟨c0, c1, c2, c3, c4, c5, c6, c7, c8, c9⟩, f0, f1, f2, f3, f4, f5, f6, f7, f8, f9⟩ := ten h.blk
  rw [hcn] at c8
  have hcase : cn ≤ 0 ∨ (0 < cn ∧ cn ≤ dn) ∨ (0 < cn ∧ (dn : Int) < cn) := by omega
  clear h hD hbl hcn hN
  go_enter Tryz.func49, Tryz.ntmps49
  rcases hcase with d1 | ⟨d1, d2⟩ | ⟨d1, d2⟩
  · skip
    have hmx : max cn 0 = 0 := by omega
    have hmn : min (0 : Int) (dn : Int) = 0 := by omega
    have HK : Hid (headP p bs = { p with count := 0, buf := bs.take 0, phase := 3 }) := hide (headP_eq (by rw [HN.out]; omega) (by rw [HCN.out]; omega) (by rfl))
    have hs : ∀ W, (Instr.slice 24 (.slice (some ad) dn dc) none (some (.int .i64 (0))) none).run Tryz.prog W = .ok (.slice (some ad) 0 dc) W := fun W => by
      have := run_slice_to 24 5 Tryz.underlying24 sizeU8 (some ad) dn dc .i64 (0) (by omega) (by omega) W
      simpa using this
    have H1 := H.out.co (0)
    have hb1 : Below B w (w.setCell ⟨g, 8, none⟩ (.int .i64 (0))) := (Below.refl B w).setCell (by exact hle) _
    have hB1 : B ≤ (w.setCell ⟨g, 8, none⟩ (.int .i64 (0))).heap.size := by simp [World.setCell]; exact hB
    have hr := (HD.out.set H.out.blk (by decide) 8 (.int .i64 (0))).rd.take (q := 0) (by omega)
    rw [← bv_take] at hr
    have XC := hide (Dk.list_any (some ad) 0 dc (bs.take 0) _ hr (by omega))
    have HH1 := hide H1
    have HB1 := hide hb1
    have HZ1 := hide hB1
    clear H1 hb1 hB1 hr H HD hc HN
    go_wp2_with fail
    refine XC.out.mono ?_
    rintro e w2 ⟨A', c', rfl, ho, hb⟩
    have H2 := hide (HH1.out.below hb)
    have HB2 := hide (HB1.out.trans (hb.mono HZ1.out))
    have HO := hide (Od.more (Od.of ho) HZ1.out)
    have XP := hide (pass_any B g { p with count := 0 } s A' 0 c' (bs.take 0) w2 H2.out HO.out)
    clear ho hb XC HH1 HB1 HZ1
    go_wp2_with fail
    refine XP.out.mono ?_
    rintro e w3 ⟨rfl, ⟨s', h3⟩, hb3⟩
    have H3 := hide h3
    have HB3 := hide (HB2.out.trans hb3)
    obtain ⟨⟨c0, c1, c2, c3, c4, c5, c6, c7, c8, c9⟩, f0, f1, f2, f3, f4, f5, f6, f7, f8, f9⟩ := ten h3.blk
    dsimp only at c8
    clear h3 hb3 XP H2 HB2 HO
    go_wp2_with fail
    go_end0
    refine ⟨rfl, ?_, HB3.out.setCell (by exact hle) _⟩
    rw [HK.out]
    exact ⟨_, H3.out.ph 3⟩
  · obtain ⟨cm, hcm⟩ : ∃ m : Nat, cn = m := ⟨cn.toNat, by omega⟩
    subst hcm
    have hmx : max (cm : Int) 0 = cm := by omega
    have hmn : min (cm : Int) (dn : Int) = cm := by omega
    have HK : Hid (headP p bs = { p with count := 0, buf := bs.take cm, phase := 3 }) := hide (headP_eq (by rw [HN.out]; omega) (by rw [HCN.out]; omega) (by rfl))
    have hs : ∀ W, (Instr.slice 24 (.slice (some ad) dn dc) none (some (.int .i64 (cm : Int))) none).run Tryz.prog W = .ok (.slice (some ad) cm dc) W := fun W => by
      have := run_slice_to 24 5 Tryz.underlying24 sizeU8 (some ad) dn dc .i64 (cm : Int) (by omega) (by omega) W
      simpa using this
    have H1 := H.out.co (0)
    have hb1 : Below B w (w.setCell ⟨g, 8, none⟩ (.int .i64 (0))) := (Below.refl B w).setCell (by exact hle) _
    have hB1 : B ≤ (w.setCell ⟨g, 8, none⟩ (.int .i64 (0))).heap.size := by simp [World.setCell]; exact hB
    have hr := (HD.out.set H.out.blk (by decide) 8 (.int .i64 (0))).rd.take (q := cm) (by omega)
    rw [← bv_take] at hr
    have XC := hide (Dk.list_any (some ad) cm dc (bs.take cm) _ hr (by omega))
    have HH1 := hide H1
    have HB1 := hide hb1
    have HZ1 := hide hB1
    clear H1 hb1 hB1 hr H HD hc HN
    go_wp2_with fail
    refine XC.out.mono ?_
    rintro e w2 ⟨A', c', rfl, ho, hb⟩
    have H2 := hide (HH1.out.below hb)
    have HB2 := hide (HB1.out.trans (hb.mono HZ1.out))
    have HO := hide (Od.more (Od.of ho) HZ1.out)
    have XP := hide (pass_any B g { p with count := 0 } s A' cm c' (bs.take cm) w2 H2.out HO.out)
    clear ho hb XC HH1 HB1 HZ1
    go_wp2_with fail
    refine XP.out.mono ?_
    rintro e w3 ⟨rfl, ⟨s', h3⟩, hb3⟩
    have H3 := hide h3
    have HB3 := hide (HB2.out.trans hb3)
    obtain ⟨⟨c0, c1, c2, c3, c4, c5, c6, c7, c8, c9⟩, f0, f1, f2, f3, f4, f5, f6, f7, f8, f9⟩ := ten h3.blk
    dsimp only at c8
    clear h3 hb3 XP H2 HB2 HO
    go_wp2_with fail
    go_end0
    refine ⟨rfl, ?_, HB3.out.setCell (by exact hle) _⟩
    rw [HK.out]
    exact ⟨_, H3.out.ph 3⟩
  · skip
    have hmx : max cn 0 = cn := by omega
    have hmn : min cn (dn : Int) = dn := by omega
    have hwr : wrap64 (cn - (dn : Int)) = cn - (dn : Int) := by unfold wrap64; omega
    have HK : Hid (headP p bs = { p with count := cn - (dn : Int), buf := bs.take dn, phase := 2 }) := hide (headP_eq (by rw [HN.out]; omega) (by rw [HCN.out]; omega) (by rw [if_neg (by omega)]))
    have hs : ∀ W, (Instr.slice 24 (.slice (some ad) dn dc) none (some (.int .i64 ((dn : Nat)))) none).run Tryz.prog W = .ok (.slice (some ad) dn dc) W := fun W => by
      have := run_slice_to 24 5 Tryz.underlying24 sizeU8 (some ad) dn dc .i64 ((dn : Nat)) (by omega) (by omega) W
      simpa using this
    have H1 := H.out.co (cn - (dn : Int))
    have hb1 : Below B w (w.setCell ⟨g, 8, none⟩ (.int .i64 (cn - (dn : Int)))) := (Below.refl B w).setCell (by exact hle) _
    have hB1 : B ≤ (w.setCell ⟨g, 8, none⟩ (.int .i64 (cn - (dn : Int)))).heap.size := by simp [World.setCell]; exact hB
    have hr := (HD.out.set H.out.blk (by decide) 8 (.int .i64 (cn - (dn : Int)))).rd.take (q := dn) (by omega)
    rw [← bv_take] at hr
    have XC := hide (Dk.list_any (some ad) dn dc (bs.take dn) _ hr (by omega))
    have HH1 := hide H1
    have HB1 := hide hb1
    have HZ1 := hide hB1
    clear H1 hb1 hB1 hr H HD hc HN
    go_wp2_with fail
    refine XC.out.mono ?_
    rintro e w2 ⟨A', c', rfl, ho, hb⟩
    have H2 := hide (HH1.out.below hb)
    have HB2 := hide (HB1.out.trans (hb.mono HZ1.out))
    have HO := hide (Od.more (Od.of ho) HZ1.out)
    have XP := hide (pass_any B g { p with count := cn - (dn : Int) } s A' dn c' (bs.take dn) w2 H2.out HO.out)
    clear ho hb XC HH1 HB1 HZ1
    go_wp2_with fail
    refine XP.out.mono ?_
    rintro e w3 ⟨rfl, ⟨s', h3⟩, hb3⟩
    have H3 := hide h3
    have HB3 := hide (HB2.out.trans hb3)
    obtain ⟨⟨c0, c1, c2, c3, c4, c5, c6, c7, c8, c9⟩, f0, f1, f2, f3, f4, f5, f6, f7, f8, f9⟩ := ten h3.blk
    dsimp only at c8
    clear h3 hb3 XP H2 HB2 HO
    have hzb : (cn - (dn : Int) == 0) = false := beq_eq_false_iff_ne.2 (by omega)
    go_wp2_with fail
    go_end0
    refine ⟨rfl, ?_, HB3.out⟩
    rw [HK.out]
    exact ⟨_, H3.out⟩
end Go.Proofs.YtlkccboongnneaaGreatDoor
