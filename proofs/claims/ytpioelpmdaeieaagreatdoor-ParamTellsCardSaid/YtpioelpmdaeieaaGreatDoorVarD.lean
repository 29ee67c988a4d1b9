/- The contracts of Get, Length. -/
import Derived.Test.YtpioelpmdaeieaaGreatDoorVarC
namespace Go.Proofs.YtpioelpmdaeieaaGreatDoor
open Go.RowKit
set_option linter.unusedVariables false
def valAt (l : List Vr) (k : Nat) : LB := match l[k]? with
  | some x => x.value
  | none => []
theorem found_lt {l : List Vr} {s : LB} (h : foundP l s = true) : findP l s < l.length := by
  unfold foundP at h
  rw [Bool.and_eq_true, decide_eq_true_eq] at h
  exact h.1
def hasP (l : List Vr) (s : LB) : Bool := foundP l s && checkP l
def getP (l : List Vr) (s : LB) : LB := if hasP l s = true then valAt l (findP l s) else []
set_option maxHeartbeats 4000000 in
theorem get_any (l : List Vr) (hs : ∀ x ∈ l, x.name.length ≤ 100000) (s : LB) (A : Option Addr) (n c : Nat) (w : World) (hR : RdV w A n l) (hn : n ≤ 1000) : Calls Tryz.prog 9 #[.slice A n c, .string ⟨s.toArray⟩] w fun e w' => e = .returned (.tuple #[.string ⟨(getP l s).toArray⟩, .bool (hasP l s)]) ∧ Below w.heap.size w w' := by
  have XF := hide (find_any l s A n c w hR hn)
  have XC := hide (fun W (h : RdV W A n l) => check_any l hs A n c W h hn)
  have hl := hR.len
  have HR := hide hR
  have HL := hide hl
  have HLT := hide (fun h => found_lt (l := l) (s := s) h)
  obtain ⟨G, hG⟩ : ∃ G, getP l s = G := ⟨_, rfl⟩
  obtain ⟨H, hH⟩ : ∃ H, hasP l s = H := ⟨_, rfl⟩
  have HG := hide hG
  have HH := hide hH
  have HHE : Hid (hasP l s = (foundP l s && checkP l)) := hide rfl
  have HGE : Hid (getP l s = if hasP l s = true then valAt l (findP l s) else []) := hide rfl
  rw [hG, hH]
  clear hR hl hG hH hs
  generalize foundP l s = fo at *
  generalize findP l s = k at *
  generalize checkP l = ck at *
  cases fo with
  | false =>
    have HE1 : Hid (H = false) := hide (by rw [← HH.out, HHE.out]; rfl)
    have HE2 : Hid (G = []) := hide (by rw [← HG.out, HGE.out, HHE.out]; rfl)
    rw [HE1.out, HE2.out]
    go_enter Tryz.func9, Tryz.ntmps9
    go_wp2_with fail
    refine XF.out.mono ?_
    rintro e w1 ⟨rfl, hb⟩
    have HB := hide hb
    clear hb
    go_wp2_with fail
    refine bodyPost_ret (v := .tuple #[.string ⟨#[]⟩, .bool false]) (by simp only [results, Tryz.results9]; go_simp) rfl ⟨rfl, HB.out⟩
  | true =>
    have hk := HLT.out rfl
    cases ck with
    | false =>
      have HE1 : Hid (H = false) := hide (by rw [← HH.out, HHE.out]; rfl)
      have HE2 : Hid (G = []) := hide (by rw [← HG.out, HGE.out, HHE.out]; rfl)
      rw [HE1.out, HE2.out]
      clear hk
      go_enter Tryz.func9, Tryz.ntmps9
      go_wp2_with fail
      refine XF.out.mono ?_
      rintro e w1 ⟨rfl, hb⟩
      have HB := hide hb
      have HR1 := hide (HR.out.below hb)
      clear hb
      go_wp2_with fail
      refine (XC.out _ HR1.out).mono ?_
      rintro e w2 ⟨rfl, hb⟩
      have HB2 := hide (below_more HB.out (Nat.le_refl _) hb)
      clear hb
      go_wp2_with fail
      refine bodyPost_ret (v := .tuple #[.string ⟨#[]⟩, .bool false]) (by simp only [results, Tryz.results9]; go_simp) rfl ⟨rfl, HB2.out⟩
    | true =>
      obtain ⟨x, hx⟩ : ∃ x, l[k]? = some x := ⟨_, List.getElem?_eq_getElem hk⟩
      have HE1 : Hid (H = true) := hide (by rw [← HH.out, HHE.out]; rfl)
      have HE2 : Hid (G = x.value) := hide (by rw [← HG.out, HGE.out, HHE.out]; unfold valAt; rw [hx]; rfl)
      rw [HE1.out, HE2.out]
      have HX := hide hx
      have hkn : k < n := by have := HL.out; omega
      clear hk hx
      go_enter Tryz.func9, Tryz.ntmps9
      go_wp2_with fail
      refine XF.out.mono ?_
      rintro e w1 ⟨rfl, hb⟩
      have HB := hide hb
      have HR1 := hide (HR.out.below hb)
      clear hb
      go_wp2_with fail
      refine (XC.out _ HR1.out).mono ?_
      rintro e w2 ⟨rfl, hb⟩
      have HB2 := hide (below_more HB.out (Nat.le_refl _) hb)
      obtain ⟨g, o, rfl, hg, q0, q1, q2⟩ := var_cells (HR1.out.below hb) HX.out
      have hia := fun W => var_at g o n c k (k : Int) rfl hkn W
      clear hb
      go_wp2_with fail
      refine bodyPost_ret (v := .tuple #[.string ⟨x.value.toArray⟩, .bool true]) (by simp only [results, Tryz.results9]; go_simp) rfl ⟨rfl, HB2.out⟩
end Go.Proofs.YtpioelpmdaeieaaGreatDoor
