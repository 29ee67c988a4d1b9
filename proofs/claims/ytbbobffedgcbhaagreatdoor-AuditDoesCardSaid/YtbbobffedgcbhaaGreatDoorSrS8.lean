/- The reference's contract: Sum. -/
import Derived.Test.YtbbobffedgcbhaaGreatDoorSrB8
namespace Go.Proofs.YtbbobffedgcbhaaGreatDoor
open Go.RowKit
set_option linter.unusedVariables false
set_option maxRecDepth 10000 in
set_option maxHeartbeats 4000000 in
theorem rsum_any (A : Option Addr) (n c : Nat) (bs : List UInt8) (w : World) (hr : Rd w A n bs) (hn : n ≤ 100000) :
    Calls Tryz.prog 75 #[.slice A n c] w (RetSum w bs) := by
  obtain ⟨i0, hi, hz0, hz1, hz2⟩ := info_parts info5
  have HRD := hide hr
  have HL := hide hr.len
  clear hr
  go_enter Tryz.func75, Tryz.ntmps75
  go_wp2_with fail
  refine (rstart_any _).mono ?_
  rintro e w1 ⟨rfl, rfl⟩
  have HS1 := hide (Blk.new w 143 (wv firstS.list).toArray)
  go_wp2_with fail
  refine (rpad_any A n c bs _ ((HRD.out.alloc (Nat.le_refl _) _).more (by simp)) hn).mono ?_
  rintro e w2 ⟨Ap, np, cp, rfl, hcp, hop, hbp⟩
  obtain ⟨P, hP⟩ : ∃ P, padL bs = P := ⟨_, rfl⟩
  obtain ⟨q, hq⟩ : ∃ q, blocksN n = q := ⟨_, rfl⟩
  have hpl : P.length = 64 * q := by rw [← hP, padL_length, HL.out, hq]
  have hnp : np = 64 * q := by
    have h := hop.1
    rw [hP, bv_length, hpl] at h
    omega
  have hq2 : 64 * q ≤ 200000 := by rw [← hq]; unfold blocksN; omega
  subst hnp
  rw [hP] at hop
  have HPE := hide hP
  have HPL := hide hpl
  have HQE : Hid (sumL bs = stateBytes (compN firstS P q)) := hide (by rw [sumL, hP, HL.out, hq])
  have HOP := hide (Reads.of_own hop)
  have HB2 := hide (below_more (bl_alloc w (.cells (wv firstS.list).toArray 143)) (Nat.le_refl _) hbp)
  have HS2 := hide (HS1.out.below hbp HS1.out.lt)
  have hgl : w.heap.size < w2.heap.size := by have := hbp.size; simp at this; omega
  clear hop hbp hP hq hpl HS1
  go_wp2_with fail
  go_loopw [3, 5] (fun u3 u5 wx => ∃ (j g c' : Nat), j ≤ q ∧ u5 = .int .i64 ((64 * j : Nat) : Int) ∧ u3 = .slice (some ⟨g, 0, none⟩) 8 c' ∧ w.heap.size ≤ g ∧ Blk wx g 143 (wv (compN firstS P j).list).toArray ∧ Below w2.heap.size w2 wx) (fun _ u5 _ => 64 * q - (intOf u5).toNat)
  case atStart => exact ⟨0, w.heap.size, 8, Nat.zero_le _, rfl, rfl, Nat.le_refl _, HS2.out, Below.refl _ _⟩
  case round =>
    clear HS2
    obtain ⟨j, g, c', hj, rfl, rfl, hg, hblk, hbe⟩ := hrel
    obtain ⟨S, hS⟩ : ∃ S, compN firstS P j = S := ⟨_, rfl⟩
    have hok : S.ok := by rw [← hS]; exact compN_ok firstS_ok _ _
    rw [hS] at hblk
    have HSE := hide hS
    have HOK := hide hok
    have HBK := hide hblk
    have HBE := hide hbe
    have hszx := hbe.size
    have hgx := hblk.lt
    clear hS hok hblk hbe
    by_cases hlt : j < q
    · have hsl := fun W => run_slice_mid Ap (64 * q) cp (64 * j) (64 * j + 64) 64 hcp rfl (by omega) (by omega) W
      have hmid := Reads.mid (Reads.below HOP.out HBE.out) (l := 64 * j) (z := 64) (by omega)
      rw [← bv_drop, ← bv_take] at hmid
      have HMID := hide (hmid.more hszx)
      have HRS : Hid (Reads wr wr.heap.size 1 (some ⟨g, 0, none⟩) 8 (wv S.list)) := hide ⟨rfl, fun _ => ⟨_, rfl, hgx, fun j u hu => by rw [at_add, Nat.zero_add, HBK.out.cell j, ← hu]; simp⟩⟩
      generalize Ap.map (·.add (64 * j)) = XA at hsl HMID
      obtain ⟨i, hi64⟩ : ∃ i, 64 * j = i := ⟨_, rfl⟩
      have hi1 : i + 64 ≤ 200000 := by omega
      have hi2 : i < 64 * q := by omega
      have HI := hide hi64
      rw [hi64] at hsl HMID ⊢
      rw [show ((i + 64 : Nat) : Int) = (i : Int) + 64 by omega] at hsl
      have hlt2 : (i : Int) < ((64 * q : Nat) : Int) := by omega
      have hcd : 64 ≤ cp - i := by omega
      clear hmid hi64
      go_wp2_with fail
      refine (rblock_yes (some ⟨g, 0, none⟩) XA c' (cp - i) S _ _ HRS.out HOK.out HMID.out hcd).mono ?_
      rintro e w4 ⟨g4, c4, rfl, hg4, hb4, hbb4⟩
      have HB4 := hide hb4
      have HBB4 := hide (below_more HBE.out (Nat.le_refl _) hbb4)
      have hg4' : w.heap.size ≤ g4 := by omega
      clear hb4 hbb4 hsl
      go_wp2_with fail
      go_roundw
      case rel =>
        refine ⟨j + 1, g4, c4, by omega, ?_, rfl, hg4', ?_, HBB4.out⟩
        · rw [show 64 * (j + 1) = i + 64 by have := HI.out; omega]; go_num
        · rw [compN, HSE.out, HI.out]; exact HB4.out
      case measure => simp [intOf]; omega
    · obtain rfl : j = q := by omega
      have HB3 := hide (below_more HB2.out (by omega) HBE.out)
      have hlt2 : ¬ ((64 * j : Nat) : Int) < ((64 * j : Nat) : Int) := by omega
      have HSE2 : Hid (sumL bs = stateBytes S) := hide (by rw [HQE.out, HSE.out])
      clear hj hlt HOP HQE HSE
      obtain ⟨wo, rfl⟩ : ∃ wo : World, wo = wr := ⟨_, rfl⟩
      go_wp2_with fail
      go_loopw [6, 7] (fun u5 u6 wx => ∃ (k : Nat) (A : Option Addr) (c : Nat), k ≤ 8 ∧ u6 = .int .i64 k ∧ u5 = .slice A (4 * k) c ∧ wx.ownsRow wo.heap.size 5 1 (.slice A (4 * k) c) (4 * k) (bv ((S.list.take k).flatMap fun x => be 4 x)) ∧ Below wo.heap.size wo wx) (fun _ i _ => 8 - (intOf i).toNat)
      case atStart => exact ⟨0, none, 0, Nat.zero_le _, rfl, rfl, World.ownsRow_nil _ _ _ _, Below.refl _ _⟩
      case round =>
        obtain ⟨k, A3, c3, hk8, rfl, rfl, ho, hbe⟩ := hrel
        have HO := hide ho
        have HBX := hide hbe
        have hszw := hbe.size
        clear ho hbe
        by_cases hlt : k < 8
        · obtain ⟨x, hx⟩ : ∃ x, S.list[k]? = some x := ⟨_, List.getElem?_eq_getElem (by simp [St.list]; omega)⟩
          have hxl : x < 4294967296 := HOK.out x (List.mem_of_getElem? hx)
          have hcx : wr.cell? ⟨g, k, none⟩ = some (.int .u32 x) := cellW (HBK.out.below HBX.out hgx) hx
          have e1 : IntKind.u64.wrap (x : Int) = (x : Int) := by simp [IntKind.wrap, IntKind.bits, IntKind.signed]; omega
          have htk : (S.list.take (k + 1)).flatMap (fun x => be 4 x) = (S.list.take k).flatMap (fun x => be 4 x) ++ be 4 x := by
            obtain ⟨hkl, hkx⟩ := List.getElem?_eq_some_iff.1 hx
            rw [List.take_succ_eq_append_getElem hkl, hkx]
            simp
          have HTK := hide htk
          clear hx htk
          go_wp2_with fail
          refine (rput_yes x 4 _ (by omega) (by omega) (by omega)).mono ?_
          rintro e w5 ⟨v5, rfl, ho5, hb5⟩
          obtain ⟨A5, c5, rfl⟩ := own_slice ho5
          have HR5 := hide (Reads.of_own ho5)
          have HO' := hide (own_below HO.out hb5)
          have HB5 := hide (below_more HBX.out (Nat.le_refl _) hb5)
          clear ho5 hb5 hcx
          go_wp2_with (at_builtin; (refine wpList_append_any _ rfl (.tmp 31) (.tmp 37) 22 rfl wo.heap.size 5 i0 _ 1 1 Tryz.underlying22 hi hz0 hz1 hz2 rfl (by omega) (.slice A3 (4 * k) c3) (4 * k) _ rfl HO'.out w5.heap.size A5 4 c5 (bv (be 4 x)) rfl HR5.out (bv_one _) ?a1 ?a2 ?a3 ?_))
          case a1 => unfold maxLen; omega
          case a2 => omega
          case a3 => have := HB5.out.size; omega
          intro v6 w6 hown1 hg1' hat1
          obtain ⟨A6, c6, rfl⟩ := own_slice hown1
          have HO6 := hide hown1
          have HB6 := hide (Below.grown (h := HB5.out) (hg := hg1') HB5.out.size (fun g hg => (World.ownsRow.lt HO'.out g hg).1))
          clear hown1 hg1' hat1
          go_wp2_with fail
          clear e1
          go_roundw
          case rel =>
            refine ⟨k + 1, A6, c6, by omega, by go_num, by rw [show 4 * k + 4 = 4 * (k + 1) by omega], ?_, HB6.out⟩
            have h := HO6.out
            rw [← bv_append, ← HTK.out, show 4 * k + 4 = 4 * (k + 1) by omega] at h
            exact h
          case measure => simp [intOf]; omega
        · obtain rfl : k = 8 := by omega
          clear hk8 hlt
          have HO8 : Hid (wr.ownsRow w.heap.size 5 1 (.slice A3 32 c3) 32 (bv (sumL bs))) := hide (by rw [HSE2.out]; exact own_more HO.out (by have := HB3.out.size; omega))
          have HB8 := hide (below_more HB3.out (Nat.le_refl _) HBX.out)
          go_wp2_with fail
          go_ret
          exact ⟨A3, c3, rfl, HO8.out, HB8.out⟩
end Go.Proofs.YtbbobffedgcbhaaGreatDoor
