/- The document's within. -/
import Derived.Test.YtlcoapignfmgcaaGreatDoorNdQh
import Derived.Test.YtlcoapignfmgcaaGreatDoorNsD
namespace Go.Proofs.YtlcoapignfmgcaaGreatDoor
open Go.RowKit
set_option linter.unusedVariables false
set_option maxRecDepth 100000 in
set_option maxHeartbeats 8000000 in
theorem rwithin_c (L : Option Addr) (n c : Nat) (X : List DV) (b k : Int) (w : World) (hF : FsR w w.heap.size L n X) (hB : FewB X) :
    Calls Tryz.prog 49 #[.agg #[.slice L n c], .int .i64 b, .int .i64 k] w fun e w' => e = .returned (.bool (upP (nds X) (n + 1) b k)) ∧ Below w.heap.size w w' := by
  have hl := hF.len
  have hn100 : n ≤ 100 := by have := hB.n; omega
  obtain ⟨W1, hW1⟩ : ∃ W, w.alloc (.cells #[.slice L n c] 24) = W := ⟨_, rfl⟩
  have h1 : Blk W1 w.heap.size 24 #[.slice L n c] := by rw [← hW1]; exact Blk.new w _ _
  have b1 : Below w.heap.size w W1 := by rw [← hW1]; exact on_alloc _ _
  have HX := hide h1
  have HB := hide b1
  have HP := hide (fun (W : World) (hW : Below w.heap.size w W) (z : Int) => rparent_any L n c X z W ((hF.below hW).more hW.size) hB)
  obtain ⟨R, hR⟩ : ∃ R, upP (nds X) (n + 1) b k = R := ⟨_, rfl⟩
  rw [hR]
  have HR : Hid (R = upP (nds X) (n + 1) b k) := hide hR.symm
  have k0 := one_ h1
  clear hF hB h1 b1 hR hl
  go_enter Tryz.func49, Tryz.ntmps49
  go_wp2_with (rw [hW1])
  clear hW1 k0
  go_loopw [1, 7, 8, 9, 10] (fun u1 u7 u8 u9 u10 wx => ∃ (i : Nat) (z : Int), i ≤ n + 1 ∧ u7 = .int .i64 (i : Int) ∧ u1 = .int .i64 z ∧ Hid (R = upP (nds X) (n + 1 - i) z k) ∧ Hid (Blk wx w.heap.size 24 #[.slice L n c]) ∧ Hid (Below w.heap.size w wx)) (fun _ i _ _ _ _ => n + 1 - (intOf i).toNat)
  case atStart => exact ⟨0, b, Nat.zero_le _, rfl, rfl, HR, HX, HB⟩
  case round =>
    clear HR HX HB
    obtain ⟨i, z, hi, rfl, rfl, HRI, HXI, HBI⟩ := hrel
    have k0 := one_ HXI.out
    by_cases hin : i ≤ n
    · have hle : (i : Int) ≤ (n : Int) := by omega
      have HRU : Hid (R = if z = k then true else if (parentP (nds X) z).2.2 = true then upP (nds X) (n - i) (parentP (nds X) z).1 k else false) := hide (by rw [HRI.out, show n + 1 - i = (n - i) + 1 by omega, upP])
      have XP := hide (HP.out wr HBI.out z)
      obtain ⟨P, hPP⟩ : ∃ P, parentP (nds X) z = P := ⟨_, rfl⟩
      rw [hPP] at XP HRU
      obtain ⟨p, nm, ok⟩ := P
      dsimp only at XP HRU
      clear HRI hPP
      by_cases hz : z = k
      · subst hz
        have hRe : R = true := by rw [HRU.out, if_pos rfl]
        subst hRe
        clear HRU XP
        go_wp2_with fail
        go_ret
        exact ⟨rfl, HBI.out⟩
      · have hzb : (z == k) = false := beq_eq_false_iff_ne.2 hz
        have HZ := hide hz
        clear hz
        go_wp2_with fail
        refine XP.out.mono ?_
        rintro e w3 ⟨rfl, hb3⟩
        have HX3 := hide (HXI.out.below hb3 HXI.out.lt)
        have HB3 := hide (HBI.out.trans (hb3.mono HBI.out.size))
        clear hb3 XP k0 HXI HBI
        cases ok with
        | false =>
          have hRe : R = false := by rw [HRU.out, if_neg HZ.out]; rfl
          subst hRe
          clear HRU
          go_wp2_with fail
          go_ret
          exact ⟨rfl, HB3.out⟩
        | true =>
          have HRN : Hid (R = upP (nds X) (n + 1 - (i + 1)) p k) := hide (by rw [HRU.out, if_neg HZ.out, if_pos rfl, show n + 1 - (i + 1) = n - i by omega])
          clear HRU
          go_wp2_with fail
          go_roundw
          case rel => exact ⟨i + 1, p, by omega, by go_num, rfl, HRN, HX3, HB3⟩
          case measure => simp [intOf]; omega
    · have hle : ¬ ((i : Int) ≤ (n : Int)) := by omega
      have hRe : R = false := by rw [HRI.out, show n + 1 - i = 0 by omega]; rfl
      subst hRe
      clear HRI
      go_wp2_with fail
      go_ret
      exact ⟨rfl, HBI.out⟩
end Go.Proofs.YtlcoapignfmgcaaGreatDoor
