/- (*node.step).path. -/
import Derived.Test.YtnhfpaobocbieaaNdP
namespace Go.Proofs.Ytnhfpaobocbieaa
open Go.RowKit
set_option linter.unusedVariables false
def lenOf : Value → Nat
  | .slice _ n _ => n
  | _ => 0
theorem StC.inv {V : World} {O : Nat → Prop} {p : Option Addr} {us : List (List UInt8)} (h : StC V O p us) :
    (p = none ∧ us = []) ∨ ∃ (g : Nat) (up : Option Addr) (us' : List (List UInt8)) (d : Int) (nm : List UInt8) (nd : Int), p = some ⟨g, 0, none⟩ ∧ us = us' ++ [nm] ∧ Blk V g 64 #[.pointer up, .int .i64 d, .string ⟨nm.toArray⟩, .int .i64 nd] ∧ StC V O up us' := by
  cases h with
  | nil => exact .inl ⟨rfl, rfl⟩
  | cons h hn t => exact .inr ⟨_, _, _, _, _, _, rfl, rfl, h, t⟩
set_option maxRecDepth 100000 in
set_option maxHeartbeats 8000000 in
theorem path_any (O : Nat → Prop) (p : Option Addr) (us : List (List UInt8)) (w : World) (hC : StC w O p us) (hu : us.length ≤ 1000000) (hj : (Lib.join us [47]).length ≤ 1000000) :
    Calls Try.prog 36 #[.pointer p] w fun e w' => e = .returned (.string ⟨(47 :: Lib.join us [47]).toArray⟩) ∧ Below w.heap.size w w' := by
  have HC := hide hC
  obtain ⟨J, hJ⟩ : ∃ J, Lib.join us [47] = J := ⟨_, rfl⟩
  rw [hJ] at hj ⊢
  have HJ := hide hJ
  obtain ⟨i0, hi, hz0, hz1, hz2⟩ := info_parts infoStr
  clear hC hJ
  go_enter Try.func36, Try.ntmps36
  go_wp2_with fail
  go_loopw [0, 3] (fun u0 u3 wx => ∃ (q : Option Addr) (us' ks : List Bs) (A : Option Addr) (m c : Nat), u0 = .pointer q ∧ u3 = .slice A m c ∧ m ≤ us.length ∧ Hid (StC w O q us') ∧ Hid (Ow w.heap.size wx A m c ks) ∧ Hid (us = us' ++ ks.reverse) ∧ Hid (Below w.heap.size w wx)) (fun _ u3 _ => us.length - lenOf u3)
  case atStart => exact ⟨p, us, [], none, 0, 0, rfl, rfl, Nat.zero_le _, HC, hide (Ow.none_ _ _), hide (by simp), hide (Below.refl _ _)⟩
  case round =>
    obtain ⟨q, us', ks, A, m, c, rfl, rfl, hm, HS, HO, HU, HB⟩ := hrel
    rcases HS.out.inv with ⟨rfl, hus⟩ | ⟨g, up, us2, d, nm, nd, rfl, hus, hblk, hst⟩
    · have HKS : Hid (us = ks.reverse) := hide (by rw [HU.out, hus]; rfl)
      clear hus
      have XR := hide (rev_row HO.out (by omega))
      go_wp2_with fail
      refine XR.out.mono ?_
      rintro e w2 ⟨rfl, ho, hb⟩
      have HO2 := hide ho
      have HB2 : Hid (Below w.heap.size w w2) := hide (HB.out.trans (hb.mono (by have := HB.out.size; omega)))
      have XJ := hide (join_row 47 A m c ks.reverse w2 ho.rd ho.addr.1 ho.addr.2 (by rw [← HKS.out, HJ.out]; exact hj))
      rw [← HKS.out, HJ.out] at XJ
      clear ho hb XR
      go_wp2_with fail
      refine XJ.out.mono ?_
      rintro e w3 ⟨rfl, hb⟩
      have HB3 := hide (HB2.out.trans (hb.mono HB2.out.size))
      clear hb XJ
      go_wp2_with fail
      go_ret
      refine ⟨?_, HB3.out⟩
      show Ending.returned (.string ((⟨#[47]⟩ : ByteArray) ++ ⟨J.toArray⟩)) = _
      exact ret_str (by apply ByteArray.ext; simp)
    · have HUS := hide hus
      have hb2 := hblk.below HB.out hblk.lt
      have s0 := hb2.cell 0
      have s2 := hb2.cell 2
      have s9 := hb2.lt
      simp only [List.getElem?_toArray, List.getElem?_cons_zero, List.getElem?_cons_succ] at s0 s2
      have hml : m + 1 ≤ us.length := by
        have h1 := congrArg List.length HU.out
        have h2 := HO.out.len
        rw [hus] at h1
        simp at h1
        omega
      have HST := hide hst
      have hr1 := one_str wr nm
      have hsz := HB.out.size
      have hO1 := HO.out.alloc (.cells #[.string ⟨nm.toArray⟩] 9)
      have HSB : Hid (∀ V, Below w.heap.size w V → V.cell? ⟨g, 0, none⟩ = some (.pointer up) ∧ g < V.heap.size) := hide (fun V hV => by
        have h := hblk.below hV hblk.lt
        exact ⟨h.cell 0, h.lt⟩)
      clear hus hblk hb2 hst
      go_wp2_with (at_builtin; (refine wpList_append_any _ rfl (.tmp 10) (.tmp 16) 32 rfl w.heap.size 9 i0 _ 1 16 Try.underlying32 hi hz0 hz1 hz2 rfl (by omega) (.slice A m c) m (svs ks) rfl hO1 (wr.heap.size + 1) (some ⟨wr.heap.size, 0, none⟩) 1 1 (svs [nm]) rfl hr1 (svs_one _) ?c1 ?c2 ?c3 ?_))
      case c1 => unfold maxLen; omega
      case c2 => omega
      case c3 => simp; omega
      intro v1 w6 hown1 hg1 hat1
      obtain ⟨A2, c2, rfl, O2, W2⟩ := ow_next' HO.out hown1 hg1 HB.out (Nat.le_refl _)
      have HO6 := hide O2
      have HB6 := hide W2
      obtain ⟨z0, z9⟩ := HSB.out w6 W2
      clear hown1 hg1 hat1 O2 W2 hr1 hO1 s0 s2 s9
      go_wp2_with fail
      go_roundw
      case rel => exact ⟨up, us2, ks ++ [nm], A2, m + 1, c2, rfl, rfl, hml, HST, HO6, hide (by rw [HU.out, HUS.out]; simp), HB6⟩
      case measure => simp [lenOf]; omega
end Go.Proofs.Ytnhfpaobocbieaa
