/- Variables in memory; valid; the comparing closure of find. -/
import Derived.Test.YtpioelpmdaeieaaGreatDoorVarN
namespace Go.Proofs.YtpioelpmdaeieaaGreatDoor
open Go.RowKit
set_option linter.unusedVariables false
structure Vr where
  name : LB
  value : LB
  exp : Bool
def Vr.v (x : Vr) : Value := .agg #[.string ⟨x.name.toArray⟩, .string ⟨x.value.toArray⟩, .bool x.exp]
def vv (x : Vr) : List Value := [sv x.name, sv x.value, .bool x.exp]
def vvs : List Vr → List Value
  | [] => []
  | p :: r => vv p ++ vvs r
theorem vvs_length (l : List Vr) : (vvs l).length = l.length * 3 := by
  induction l with
  | nil => rfl
  | cons p r ih => simp [vvs, vv, ih]; omega
theorem vvs_append (a b : List Vr) : vvs (a ++ b) = vvs a ++ vvs b := by
  induction a with
  | nil => rfl
  | cons p r ih => simp [vvs, ih]
theorem vvs_one (l : List Vr) : ∀ u ∈ vvs l, u.oneCell' = true := by
  induction l with
  | nil => simp [vvs]
  | cons p r ih =>
    intro u hu
    simp only [vvs, List.mem_append] at hu
    rcases hu with hu | hu
    · simp only [vv, sv, List.mem_cons, List.not_mem_nil, or_false] at hu
      rcases hu with rfl | rfl | rfl <;> rfl
    · exact ih u hu
theorem vvs_at : ∀ (l : List Vr) (k j : Nat) (h : k < l.length), j < 3 → (vvs l)[k * 3 + j]? = (vv l[k])[j]?
  | p :: r, 0, j, h, hj => by
    simp only [vvs, Nat.zero_mul, Nat.zero_add]
    rw [List.getElem?_append_left (by simp [vv]; omega)]
    rfl
  | p :: r, k + 1, j, h, hj => by
    simp only [vvs]
    rw [List.getElem?_append_right (by simp [vv]; omega)]
    have := vvs_at r k j (by simpa using h) hj
    simp only [vv, List.length_cons, List.length_nil] at this ⊢
    rw [show (k + 1) * 3 + j - (0 + 1 + 1 + 1) = k * 3 + j by omega, this]
    rfl
theorem infoVar : (Tryz.prog.info? 42).map (fun i => (i.zero, i.size, i.bytes)) = some (some (.agg #[.string ⟨#[]⟩, .string ⟨#[]⟩, .bool false]), 3, 40) := by kernel_rfl
theorem sizeVar : (Tryz.prog.info? 42).map (·.size) = some 3 := by kernel_rfl
def RdV (w : World) (A : Option Addr) (n : Nat) (l : List Vr) : Prop := Reads w w.heap.size 3 A n (vvs l)
theorem RdV.below {w w' : World} {A : Option Addr} {n : Nat} {l : List Vr} (h : RdV w A n l) (hb : Below w.heap.size w w') : RdV w' A n l := (Reads.below h hb).more hb.size
theorem RdV.len {w : World} {A : Option Addr} {n : Nat} {l : List Vr} (h : RdV w A n l) : l.length = n := by have := h.1; rw [vvs_length] at this; omega
/-- May a variable be? -/
def validP (x : Vr) : Bool := nameP x.name && x.value.length ≤ 1024 && !(decide (0 ≤ Lib.indexByte x.value 0))
set_option maxHeartbeats 4000000 in
theorem valid_any (x : Vr) (hn : x.name.length ≤ 100000) (w : World) : Calls Tryz.prog 40 #[x.v] w fun e w' => e = .returned (.bool (validP x)) ∧ Below w.heap.size w w' := by
  obtain ⟨nm, vl, ex⟩ := x
  obtain ⟨R, hR⟩ : ∃ R, validP ⟨nm, vl, ex⟩ = R := ⟨_, rfl⟩
  rw [hR]
  unfold validP at hR
  dsimp only at hR hn
  unfold Vr.v
  dsimp only
  have X1 := hide (fun W => name_any nm W hn)
  have X2 := hide (fun W => ixb_l vl 0 W)
  obtain ⟨q, hq⟩ : ∃ q, nameP nm = q := ⟨_, rfl⟩
  rw [hq] at X1 hR
  obtain ⟨z, hz⟩ : ∃ z, Lib.indexByte vl 0 = z := ⟨_, rfl⟩
  rw [hz] at X2 hR
  have HR := hide hR
  obtain ⟨W1, hW1⟩ : ∃ W, w.alloc (.cells #[.string ⟨nm.toArray⟩, .string ⟨vl.toArray⟩, .bool ex] 42) = W := ⟨_, rfl⟩
  have hB1 : Below w.heap.size w W1 := by rw [← hW1]; exact (Below.refl _ _).alloc (Nat.le_refl _) _
  have HB1 := hide hB1
  have hs1 : w.heap.size < W1.heap.size := by rw [← hW1]; simp
  have c2 : W1.cell? ⟨w.heap.size, 1, none⟩ = some (.string ⟨vl.toArray⟩) := by rw [← hW1]; exact (Blk.new w 42 #[.string ⟨nm.toArray⟩, .string ⟨vl.toArray⟩, .bool ex]).cell 1
  have c1 : W1.cell? ⟨w.heap.size, 0, none⟩ = some (.string ⟨nm.toArray⟩) := by rw [← hW1]; exact (Blk.new w 42 #[.string ⟨nm.toArray⟩, .string ⟨vl.toArray⟩, .bool ex]).cell 0
  have HC2 := hide c2
  clear hq hz hR hB1 c2
  cases q with
  | false =>
    have HE : Hid (R = false) := hide (by rw [← HR.out]; rfl)
    clear HR X2
    go_enter Tryz.func40, Tryz.ntmps40
    go_wp2_with fail
    try rw [hW1]
    refine (X1.out _).mono ?_
    rintro e w2 ⟨rfl, hb⟩
    have HB2 := hide (below_more HB1.out (Nat.le_refl _) hb)
    clear hb hW1
    go_wp2_with fail
    go_ret
    exact ⟨ret_bool HE.out.symm, HB2.out⟩
  | true =>
    go_enter Tryz.func40, Tryz.ntmps40
    go_wp2_with fail
    try rw [hW1]
    refine (X1.out _).mono ?_
    rintro e w2 ⟨rfl, hb⟩
    have c2 := (hb.cell (p := ⟨w.heap.size, 1, none⟩) hs1).trans HC2.out
    have HB2 := hide (below_more HB1.out (Nat.le_refl _) hb)
    clear hb hW1
    by_cases hl : vl.length ≤ 1024
    · have kl : (vl.length : Int) ≤ 1024 := by omega
      go_wp2_with fail
      refine (X2.out _).mono ?_
      rintro e w3 ⟨rfl, rfl⟩
      by_cases hz0 : 0 ≤ z
      · have kz : ¬ z < 0 := by omega
        have HE : Hid (R = false) := hide (by rw [← HR.out]; simp [hz0])
        clear HR
        go_wp2_with fail
        go_ret
        exact ⟨by first | exact ret_bool HE.out.symm | exact ret_bool ((decide_eq_false (by omega)).trans HE.out.symm) | exact ret_bool ((decide_eq_true (by omega)).trans HE.out.symm), HB2.out⟩
      · have kz : z < 0 := by omega
        have HE : Hid (R = true) := hide (by rw [← HR.out]; simp [hl]; omega)
        clear HR
        go_wp2_with fail
        go_ret
        exact ⟨by first | exact ret_bool HE.out.symm | exact ret_bool ((decide_eq_false (by omega)).trans HE.out.symm) | exact ret_bool ((decide_eq_true (by omega)).trans HE.out.symm), HB2.out⟩
    · have kl : ¬ (vl.length : Int) ≤ 1024 := by omega
      have HE : Hid (R = false) := hide (by rw [← HR.out]; simp [hl])
      clear HR
      go_wp2_with fail
      go_ret
      exact ⟨ret_bool HE.out.symm, HB2.out⟩
set_option maxHeartbeats 1000000 in
theorem cmp_any (x : Vr) (s : LB) (w : World) : Calls Tryz.prog 50 #[x.v, .string ⟨s.toArray⟩] w fun e w' => e = .returned (.int .i64 (Lib.compareBytes x.name s)) ∧ Below w.heap.size w w' := by
  obtain ⟨nm, vl, ex⟩ := x
  unfold Vr.v
  dsimp only
  have X := hide (fun W => Any.strings_Compare Tryz.lays106 ⟨nm.toArray⟩ ⟨s.toArray⟩ W)
  change Hid (∀ W, Calls _ _ _ W fun e w' => e = .returned (.int .i64 (Lib.compareBytes nm s)) ∧ w' = W) at X
  generalize Lib.compareBytes nm s = r at *
  have HB := hide ((Below.refl w.heap.size w).alloc (Nat.le_refl _) (.cells #[.string ⟨nm.toArray⟩, .string ⟨vl.toArray⟩, .bool ex] 42))
  go_enter Tryz.func50, Tryz.ntmps50
  go_wp2_with fail
  refine (X.out _).mono ?_
  rintro e w1 ⟨rfl, rfl⟩
  go_wp2_with fail
  go_ret
  exact ⟨rfl, HB.out⟩
end Go.Proofs.YtpioelpmdaeieaaGreatDoor
