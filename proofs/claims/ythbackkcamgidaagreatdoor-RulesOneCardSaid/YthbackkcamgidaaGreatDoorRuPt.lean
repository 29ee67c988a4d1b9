/- Print. -/
import Derived.Test.YthbackkcamgidaaGreatDoorRuCh
namespace Go.Proofs.YthbackkcamgidaaGreatDoor
open Go Go.RowKit
set_option linter.unusedVariables false
def printP (P : PL) : LB := if checkP P = true then writeU P else []
set_option maxRecDepth 100000 in
set_option maxHeartbeats 8000000 in
theorem print_any (P : PL) (s : RS) (w : World) (hP : PolR s P w) (hm : Sm P) (hS : StdR w) :
    Calls Tryz.prog 18 #[polV s P] w fun e w' => e = .returned (.string ⟨(printP P).toArray⟩) ∧ Below w.heap.size w w' := by
  obtain ⟨z, hz⟩ : ∃ z, w.heap.size = z := ⟨_, rfl⟩
  have hk0 := Blk.new w 26 #[.string ⟨P.root.toArray⟩, .slice s.RA s.rn s.rc, .slice s.EA s.en s.ec]
  have hb0 := (Below.refl z w).alloc (by omega) (.cells #[.string ⟨P.root.toArray⟩, .slice s.RA s.rn s.rc, .slice s.EA s.en s.ec] 26)
  have hs0 : (w.alloc (.cells #[.string ⟨P.root.toArray⟩, .slice s.RA s.rn s.rc, .slice s.EA s.en s.ec] 26)).heap.size = z + 1 := by simp [hz]
  rw [hz] at hk0
  have HP := hide hP
  have HM := hide hm
  have HS := hide hS
  clear hP hm hS
  obtain ⟨b, hb⟩ : ∃ b, checkP P = b := ⟨_, rfl⟩
  have HC : Hid (printP P = if b = true then writeU P else []) := hide (by unfold printP; rw [hb])
  show Calls Tryz.prog 18 #[.agg #[.string ⟨P.root.toArray⟩, .slice s.RA s.rn s.rc, .slice s.EA s.en s.ec]] w _
  go_enter Tryz.func18, Tryz.ntmps18
  refine wp_seq ?_
  go_upto_region 1 with (fail)
  obtain ⟨W0, hW0⟩ : ∃ W0, w.alloc (.cells #[.string ⟨P.root.toArray⟩, .slice s.RA s.rn s.rc, .slice s.EA s.en s.ec] 26) = W0 := ⟨_, rfl⟩
  rw [hW0] at hk0 hb0 hs0 ⊢
  clear hW0
  have HK := hide hk0
  have HB := hide hb0
  have c1 := hk0.cell 1
  have c2 := hk0.cell 2
  have c0 := hk0.cell 0
  have hPw := HP.out.below (by rw [hz]; exact hb0)
  have HSw := hide (HS.out.below (by rw [hz]; exact hb0))
  have XC := hide (check_any P s W0 hPw HM.out HSw.out)
  have HPw := hide hPw
  rw [hb] at XC
  clear hk0 hb0 hPw hb
  unfold polV at XC
  go_wp2_with fail
  refine XC.out.mono ?_
  rintro e w1 ⟨rfl, hb1⟩
  have HB1 := hide (HB.out.trans (hb1.mono (by omega : z ≤ W0.heap.size)))
  have hk1 := HK.out.below hb1 (by omega)
  have HP1 := hide (HPw.out.below hb1)
  have HS1 := hide (HSw.out.below hb1)
  have hs1 : z + 1 ≤ w1.heap.size := by have := hb1.size; omega
  clear hb1 HB HK HPw HSw XC c0 c1 c2
  cases b with
  | false =>
    clear hk1
    go_wp2_with fail
    go_ret
    exact ⟨by rw [HC.out]; rfl, by rw [hz]; exact HB1.out⟩
  | true =>
    have XW := hide (write_any P s w1 HP1.out HM.out HS1.out)
    unfold polV at XW
    have c0 := hk1.cell 0
    have c1 := hk1.cell 1
    have c2 := hk1.cell 2
    clear hk1
    go_wp2_with fail
    refine XW.out.mono ?_
    rintro e w2 ⟨rfl, hb2⟩
    have HB2 := hide (HB1.out.trans (hb2.mono (by omega : z ≤ w1.heap.size)))
    clear hb2
    go_wp2_with fail
    go_ret
    exact ⟨by rw [HC.out]; rfl, by rw [hz]; exact HB2.out⟩
end Go.Proofs.YthbackkcamgidaaGreatDoor
