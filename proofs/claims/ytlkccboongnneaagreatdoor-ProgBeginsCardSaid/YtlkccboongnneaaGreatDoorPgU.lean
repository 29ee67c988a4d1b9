/- A child in a box: what a read does. -/
import Derived.Test.YtlkccboongnneaaGreatDoorPgT
namespace Go.Proofs.YtlkccboongnneaaGreatDoor
open Go.RowKit
set_option linter.unusedVariables false
theorem readP_end {p : PR} (h : p.prog ≠ nWc) : readP p [] = { p with phase := 4 } := by unfold readP; rw [if_pos rfl, if_neg h]
theorem readP_wc {p : PR} (h : p.prog = nWc) : readP p [] = { p with buf := Lib.itoa p.count ++ [10], phase := 3 } := by unfold readP; rw [if_pos rfl, if_pos h]
theorem readP_count {p : PR} {d : Bs} (hd : d ≠ []) (h : p.prog = nWc) : readP p d = { p with count := countP p d } := by unfold readP; rw [if_neg hd, if_pos h]
theorem readP_head {p : PR} {d : Bs} (hd : d ≠ []) (h : p.prog = nHead) : readP p d = headP p d := by unfold readP; rw [if_neg hd, if_neg (by rw [h]; decide), if_pos h]; rfl
theorem readP_pass {p : PR} {d : Bs} (hd : d ≠ []) (h1 : p.prog ≠ nWc) (h2 : p.prog ≠ nHead) : readP p d = { p with buf := passP p d, phase := 2 } := by unfold readP; rw [if_neg hd, if_neg h1, if_neg h2]
set_option maxRecDepth 100000 in
set_option maxHeartbeats 8000000 in
theorem read_any (B g : Nat) (p : PR) (s : PS) (D : Option Addr) (dn dc : Nat) (bs : Bs) (w : World) (h : RunAt B g p s w) (hD : Od B w D dn dc bs) (hn : dn ≤ 400000) (hB : B ≤ w.heap.size) (hf : FitP p) (hS : StB B w) :
    Calls Tryz.prog 30 #[.pointer (some ⟨g, 0, none⟩), .int .i64 0, .slice D dn dc] w fun e w' => e = .returned (.tuple #[]) ∧ (∃ s', RunAt B g (readP p bs) s' w') ∧ Below B w w' := by
  have hle := h.le
  have hbl : bs.length = dn := by have := hD.rd.1; simp [bv] at this; exact this
  have H := hide h
  have HD := hide hD
  have HF := hide hf
  have HS := hide hS
  have HBL := hide hbl
  obtain ⟨⟨c0, c1, c2, c3, c4, c5, c6, c7, c8, c9⟩, f0, f1, f2, f3, f4, f5, f6, f7, f8, f9⟩ := ten h.blk
  by_cases h0 : dn = 0
  · subst h0
    obtain rfl := List.eq_nil_of_length_eq_zero hbl
    by_cases hw : p.prog = nWc
    · have HW := hide (readP_wc hw)
      have c1' : w.cell? ⟨g, 1, none⟩ = some (.string ⟨#[119, 99]⟩) := by rw [c1, hw]; rfl
      obtain ⟨cn, hcn⟩ : ∃ c, p.count = c := ⟨_, rfl⟩
      rw [hcn] at c8
      have XD := hide (dec_any cn w (by rw [← hcn]; exact hf.co) hS.std)
      have hil := itoa_len cn (by rw [← hcn]; exact hf.co)
      have HCN := hide hcn
      clear h hD hf hS hbl c1 hw hcn
      go_enter Tryz.func30, Tryz.ntmps30
      go_wp2_with fail
      refine XD.out.mono ?_
      rintro e w2 ⟨rfl, hb⟩
      obtain ⟨J, hJ⟩ : ∃ l, Lib.itoa cn = l := ⟨_, rfl⟩
      rw [hJ] at hil ⊢
      have HJ := hide hJ
      have H2 := hide (H.out.below hb)
      have HB2 : Hid (Below B w w2) := hide (hb.mono hB)
      have hB2 : B ≤ w2.heap.size := Nat.le_trans hB hb.size
      clear hb hJ XD
      obtain ⟨W3, D3, dn3, dc3, hcv, hdn, hod, hb3⟩ := conv_od (J ++ [10]) w2
      rw [← catB] at hcv
      have H3 := hide (H2.out.below hb3)
      have HB3 : Hid (Below B w W3) := hide (HB2.out.trans (hb3.mono hB2))
      have HO3 := hide (hod.more hB2)
      obtain ⟨⟨c0, c1, c2, c3, c4, c5, c6, c7, c8, c9⟩, f0, f1, f2, f3, f4, f5, f6, f7, f8, f9⟩ := ten H3.out.blk
      clear hod hb3 hdn H2 H HB2
      go_wp2_with fail
      go_end0
      refine ⟨rfl, ?_, (HB3.out.setCell (by exact hle) _).setCell (by exact hle) _⟩
      rw [HW.out, show Lib.itoa p.count = J from by rw [HCN.out]; exact HJ.out]
      exact ⟨_, (H3.out.bf HO3.out).ph 3⟩
    · have HW := hide (readP_end hw)
      have hwb : (p.prog == [119, 99]) = false := by simpa [nWc] using hw
      clear h hD hf hS hbl hw
      go_enter Tryz.func30, Tryz.ntmps30
      go_wp2_with fail
      go_end0
      refine ⟨rfl, ?_, (Below.refl B w).setCell (by exact hle) _⟩
      rw [HW.out]
      exact ⟨_, H.out.ph 4⟩
  · have hz : ((dn : Int) == 0) = false := beq_eq_false_iff_ne.2 (by omega)
    have hne : bs ≠ [] := by intro e; rw [e] at hbl; exact h0 hbl.symm
    by_cases hw : p.prog = nWc
    · have HW := hide (readP_count hne hw)
      have c1' : w.cell? ⟨g, 1, none⟩ = some (.string ⟨#[119, 99]⟩) := by rw [c1, hw]; rfl
      have X := hide (count_any B g p s D dn dc bs w h hD.rd (by omega) hn hf.co hB hf.ca)
      clear h hD hf hS hbl hw c1 hne
      go_enter Tryz.func30, Tryz.ntmps30
      go_wp2_with fail
      refine X.out.mono ?_
      rintro e w2 ⟨rfl, h2, hb2⟩
      have H2 := hide h2
      have HB2 := hide hb2
      clear h2 hb2 X
      go_wp2_with fail
      go_end0
      refine ⟨rfl, ?_, HB2.out⟩
      rw [HW.out]
      exact ⟨_, H2.out⟩
    · have hwb : (p.prog == [119, 99]) = false := by simpa [nWc] using hw
      by_cases hh : p.prog = nHead
      · have HW := hide (readP_head hne hh)
        have c1' : w.cell? ⟨g, 1, none⟩ = some (.string ⟨#[104, 101, 97, 100]⟩) := by rw [c1, hh]; rfl
        have X := hide (head_any B g p s D dn dc bs w h hD (by omega) hn hf.co hB)
        clear h hD hf hS hbl hw c1 hne hwb hh
        go_enter Tryz.func30, Tryz.ntmps30
        go_wp2_with fail
        refine X.out.mono ?_
        rintro e w2 ⟨rfl, h2, hb2⟩
        have H2 := hide h2
        have HB2 := hide hb2
        clear h2 hb2 X
        go_wp2_with fail
        go_end0
        refine ⟨rfl, ?_, HB2.out⟩
        rw [HW.out]
        exact H2.out
      · have HW := hide (readP_pass hne hw hh)
        have hhb : (p.prog == [104, 101, 97, 100]) = false := by simpa [nHead] using hh
        by_cases ht : p.prog = nTr
        · have c1' : w.cell? ⟨g, 1, none⟩ = some (.string ⟨#[116, 114]⟩) := by rw [c1, ht]; rfl
          have X := hide (tbytes_any B g p s w h hf)
          have HT := hide ht
          clear h hD hf hS hbl hw c1 hne hwb hh hhb ht
          go_enter Tryz.func30, Tryz.ntmps30
          go_wp2_with fail
          refine X.out.mono ?_
          rintro e w1 ⟨⟨nn, rfl⟩, ⟨a, b, hab, rfl⟩ | ⟨hab, rfl⟩⟩
          · have HP : Hid (passP p bs = swap a b bs) := hide (by unfold passP; rw [if_pos HT.out, hab])
            clear hab X
            obtain ⟨ad, rfl⟩ := rd_some HD.out.rd (by omega)
            have hdc := HD.out.le
            have HB1 : Hid (Below B w (w.drewN nn)) := hide (bdr B w nn)
            have H1 : Hid (RunAt B g p s (w.drewN nn)) := hide (H.out.below (bdr _ w nn))
            have HD1 : Hid (Od B (w.drewN nn) (some ad) dn dc bs) := hide (HD.out.below (bdr _ w nn))
            have hB1 : B ≤ (w.drewN nn).heap.size := hB
            obtain ⟨w1, hw1⟩ : ∃ W, w.drewN nn = W := ⟨_, rfl⟩
            rw [hw1] at HB1 H1 HD1 hB1 ⊢
            clear hw1 H HD c0 c1' c2 c3 c4 c5 c6 c7 c8 c9 f0 f1 f2 f3 f4 f5 f6 f7 f8 f9
            obtain ⟨W2, hW2⟩ : ∃ W, (w1.alloc (.cells #[.int .u8 (a.toNat : Int)] 5)).alloc (.cells #[.int .u8 (b.toNat : Int)] 5) = W := ⟨_, rfl⟩
            have hbb : Below w1.heap.size w1 W2 := by rw [← hW2]; exact ((Below.refl _ _).alloc (Nat.le_refl _) _).alloc (by simp) _
            have q1 : W2.cell? ⟨w1.heap.size, 0, none⟩ = some (.int .u8 (a.toNat : Int)) := by
              rw [← hW2]
              exact ((Blk.new w1 5 #[.int .u8 (a.toNat : Int)]).alloc _).cell 0
            have q2 : W2.cell? ⟨w1.heap.size + 1, 0, none⟩ = some (.int .u8 (b.toNat : Int)) := by
              rw [← hW2]
              have := (Blk.new (w1.alloc (.cells #[.int .u8 (a.toNat : Int)] 5)) 5 #[.int .u8 (b.toNat : Int)]).cell 0
              rw [World.size_alloc] at this
              exact this
            have hsz : W2.heap.size = w1.heap.size + 2 := by rw [← hW2]; simp
            have XR := hide (replaceAll_any a b ad dn dc w1.heap.size (w1.heap.size + 1) bs W2 (HD1.out.below hbb).rd (by omega) hn hdc q1 q2 (by omega) (by omega))
            have H2 := hide (H1.out.below hbb)
            have HB2 : Hid (Below B w W2) := hide (HB1.out.trans (hbb.mono hB1))
            have hB2 : B ≤ W2.heap.size := by omega
            rw [← hW2] at XR
            have HW2 := hide hW2
            clear hbb q1 q2 hsz H1 HD1 HB1 hW2
            go_wp2_with fail
            refine XR.out.mono ?_
            rw [HW2.out]
            rintro e w3 ⟨D3, dc3, rfl, hO, hb3⟩
            have HO := hide (hO.more hB2)
            have H3 := hide (H2.out.below hb3)
            have HB3 := hide (HB2.out.trans (hb3.mono hB2))
            have XP := hide (pass_any B g p s D3 dn dc3 (swap a b bs) w3 H3.out HO.out)
            clear hO hb3 XR HB2 H2 HW2
            go_wp2_with fail
            refine XP.out.mono ?_
            rintro e w4 ⟨rfl, ⟨s4, h4⟩, hb4⟩
            have H4 := hide h4
            have HB4 := hide (HB3.out.trans hb4)
            clear h4 hb4 XP
            go_wp2_with fail
            go_end0
            refine ⟨rfl, ?_, HB4.out⟩
            rw [HW.out, HP.out]
            exact ⟨_, H4.out⟩
          · have HP : Hid (passP p bs = bs) := hide (by unfold passP; rw [if_pos HT.out, hab])
            have H1 : Hid (RunAt B g p s (w.drewN nn)) := hide (H.out.below (bdr _ w nn))
            have HD1 : Hid (Od B (w.drewN nn) D dn dc bs) := hide (HD.out.below (bdr _ w nn))
            have XP := hide (pass_any B g p s D dn dc bs _ H1.out HD1.out)
            clear hab X H HD
            go_wp2_with fail
            refine XP.out.mono ?_
            rintro e w4 ⟨rfl, ⟨s4, h4⟩, hb4⟩
            have H4 := hide h4
            have HB4 := hide ((bdr B w nn).trans hb4)
            clear h4 hb4 XP
            go_wp2_with fail
            go_end0
            refine ⟨rfl, ?_, HB4.out⟩
            rw [HW.out, HP.out]
            exact ⟨_, H4.out⟩
        · have htb : (p.prog == [116, 114]) = false := by simpa [nTr] using ht
          have HP : Hid (passP p bs = bs) := hide (by unfold passP; rw [if_neg ht])
          have XP := hide (pass_any B g p s D dn dc bs w h hD)
          clear h hD hf hS hbl hw hne hh ht
          go_enter Tryz.func30, Tryz.ntmps30
          go_wp2_with fail
          refine XP.out.mono ?_
          rintro e w4 ⟨rfl, ⟨s4, h4⟩, hb4⟩
          have H4 := hide h4
          have HB4 := hide hb4
          clear h4 hb4 XP
          go_wp2_with fail
          go_end0
          refine ⟨rfl, ?_, HB4.out⟩
          rw [HW.out, HP.out]
          exact ⟨_, H4.out⟩
end Go.Proofs.YtlkccboongnneaaGreatDoor
