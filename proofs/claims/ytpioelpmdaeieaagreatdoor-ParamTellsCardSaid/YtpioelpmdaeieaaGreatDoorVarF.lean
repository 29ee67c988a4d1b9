/- The contracts of slices.Clone and clone.List at variables. -/
import Derived.Test.YtpioelpmdaeieaaGreatDoorVarE
import Derived.Lib.AppendStr
namespace Go.Proofs.YtpioelpmdaeieaaGreatDoor
open Go.RowKit
set_option linter.unusedVariables false
def OwV (B : Nat) (w : World) (A : Option Addr) (n c : Nat) (l : List Vr) : Prop := w.ownsRow B 42 3 (.slice A n c) n (vvs l)
theorem OwV.rd {B : Nat} {w : World} {A : Option Addr} {n c : Nat} {l : List Vr} (h : OwV B w A n c l) : RdV w A n l := Reads.of_own h
theorem OwV.below {B : Nat} {w w' : World} {A : Option Addr} {n c : Nat} {l : List Vr} (h : OwV B w A n c l) (hb : Below w.heap.size w w') : OwV B w' A n c l := own_below h hb
set_option maxRecDepth 100000 in
set_option maxHeartbeats 4000000 in
theorem sclone_any (l : List Vr) (A : Option Addr) (n c : Nat) (w : World) (hR : RdV w A n l) (h0 : 0 < n) (hn : n ≤ 1000) : Calls Tryz.prog 52 #[.slice A n c] w fun e w' => ∃ A' c', e = .returned (.slice A' n c') ∧ OwV w.heap.size w' A' n c' l ∧ Below w.heap.size w w' := by
  obtain ⟨i0, hi, hz0, hz1, hz2⟩ := info_parts infoVar
  have hl := hR.len
  obtain ⟨x, hx⟩ : ∃ x, l[0]? = some x := ⟨_, List.getElem?_eq_getElem (by omega)⟩
  obtain ⟨g, o, rfl, hg, q0, q1, q2⟩ := var_cells hR hx
  clear hx q0 q1 q2
  have hnil := fun (W : World) => Lib.run_eql_slice_nil (P := Tryz.prog) W 22 42 (some ⟨g, o, none⟩) n c 0 0 Tryz.underlying22
  have hown0 : (w.alloc (.cells #[] 42)).ownsRow w.heap.size 42 3 (.slice (some ⟨w.heap.size, 0, none⟩) 0 0) 0 [] := by
    refine ⟨rfl, .inr ⟨w.heap.size, 0, #[], rfl, Nat.le_refl _, ?_⟩⟩
    exact ⟨Blk.new w 42 #[], Nat.le_refl _, by simp [maxLen], by simp, by simp⟩
  have hb0 := (Below.refl w.heap.size w).alloc (Nat.le_refl _) (.cells #[] 42)
  have hr0 := Reads.alloc hR (Nat.le_refl _) (.cells #[] 42)
  go_enter Tryz.func52, Tryz.ntmps52
  go_wp2_with (at_builtin; (refine wpList_append_any _ rfl (.tmp 5) (.tmp 6) 22 rfl w.heap.size 42 i0 _ 3 40 Tryz.underlying22 hi hz0 hz1 hz2 rfl (by omega) (.slice (some ⟨w.heap.size, 0, none⟩) 0 0) 0 [] rfl hown0 w.heap.size (some ⟨g, o, none⟩) n c (vvs l) rfl hr0 (vvs_one l) ?c1 ?c2 ?c3 ?_))
  case c1 => unfold maxLen; omega
  case c2 => omega
  case c3 => simp
  intro v1 w1 hown1 hg1 hat1
  obtain ⟨A', c', rfl⟩ := own_slice hown1
  go_wp2
  go_ret
  exact ⟨A', c', by simp, by unfold OwV; simpa using hown1, hb0.grown hg1 (by simp) (fun g hg => by simp [Value.ownBlock] at hg; omega)⟩
theorem list_any (l : List Vr) (A : Option Addr) (n c : Nat) (w : World) (hR : RdV w A n l) (hn : n ≤ 1000) : Calls Tryz.prog 36 #[.slice A n c] w fun e w' => ∃ A' c', e = .returned (.slice A' n c') ∧ OwV w.heap.size w' A' n c' l ∧ Below w.heap.size w w' := by
  by_cases h0 : n = 0
  · subst h0
    have hl : l = [] := List.eq_nil_of_length_eq_zero hR.len
    subst hl
    clear hR
    go_enter Tryz.func36, Tryz.ntmps36
    go_wp2
    go_ret
    exact ⟨none, 0, rfl, World.ownsRow_nil _ _ _ _, Below.refl _ _⟩
  · have hz : ((n : Int) == 0) = false := beq_eq_false_iff_ne.2 (by omega)
    have X := hide (sclone_any l A n c w hR (by omega) hn)
    clear hR
    go_enter Tryz.func36, Tryz.ntmps36
    go_wp2_with fail
    refine X.out.mono ?_
    rintro e w1 ⟨A', c', rfl, hO, hb⟩
    have HO := hide hO
    have HB := hide hb
    clear hO hb
    go_wp2_with fail
    go_ret
    exact ⟨A', c', rfl, HO.out, HB.out⟩
end Go.Proofs.YtpioelpmdaeieaaGreatDoor
