/- slices.IndexFunc over operations. -/
import Derived.Test.YthbackkcamgidaaGreatDoorRuW
import Derived.Test.YthbackkcamgidaaGreatDoorRuS2
namespace Go.Proofs.YthbackkcamgidaaGreatDoor
open Go.RowKit
set_option linter.unusedVariables false
def idxO (nm : LB) : List Int → Option Nat
  | [] => none
  | o :: r => if (wordO o == nm) = true then some 0 else (idxO nm r).map (· + 1)
def idxZ : Option Nat → Int
  | some k => k
  | none => -1
theorem idx_drop (nm : LB) (l : List Int) (i : Nat) (h : i < l.length) : (idxO nm (l.drop i)).map (· + i) = if (wordO l[i] == nm) = true then some i else (idxO nm (l.drop (i + 1))).map (· + (i + 1)) := by
  rw [List.drop_eq_getElem_cons h, idxO]
  split
  · simp
  · rw [Option.map_map]
    congr 1
    funext x
    simp [Function.comp]; omega
theorem idx_none : ∀ {nm : LB} {l : List Int}, idxO nm l = none → l.dropWhile (fun o => !(wordO o == nm)) = []
  | nm, [], _ => rfl
  | nm, o :: r, h => by
    unfold idxO at h
    split at h
    · cases h
    · rename_i h1
      rw [List.dropWhile_cons_of_pos (by simpa using h1)]
      exact idx_none (Option.map_eq_none_iff.1 h)
theorem idx_some : ∀ {nm : LB} {l : List Int} {k : Nat}, idxO nm l = some k → ∃ o, l[k]? = some o ∧ l.dropWhile (fun o => !(wordO o == nm)) = o :: l.drop (k + 1)
  | nm, [], k, h => by cases h
  | nm, o :: r, k, h => by
    unfold idxO at h
    split at h
    · rename_i h1
      injection h with h
      subst h
      exact ⟨o, rfl, by rw [List.dropWhile_cons_of_neg (by simpa using h1)]; rfl⟩
    · rename_i h1
      obtain ⟨j, hj, rfl⟩ := Option.map_eq_some_iff.1 h
      obtain ⟨o', h2, h3⟩ := idx_some hj
      exact ⟨o', by simpa using h2, by rw [List.dropWhile_cons_of_pos (by simpa using h1), h3]; rfl⟩
set_option maxHeartbeats 2000000 in
theorem ops1_any (o : Int) (nm : LB) (g : Nat) (w : World) (h : StdR w) (hb : w.cell? ⟨g, 0, none⟩ = some (.string ⟨nm.toArray⟩)) : Calls Tryz.prog 27 #[.int .i64 o, .pointer (some ⟨g, 0, none⟩)] w fun e w' => e = .returned (.bool (wordO o == nm)) ∧ ∃ q, w' = w.drewN q := by
  have XW := hide (fun q => word_any o (w.drewN q) (h.below (below_drewN (Below.refl _ _) q)))
  clear h
  generalize wordO o = x at *
  obtain ⟨r, hr⟩ : ∃ r, (x == nm) = r := ⟨_, rfl⟩
  rw [hr]
  go_enter Tryz.func27, Tryz.ntmps27
  go_wp2_with fail
  go_quiet ((go_at_call 28; first | with_reducible exact quiet_left (XW.out _) | with_reducible exact quiet_add_left (XW.out _)))
  go_wp2_with fail
  go_ret
  exact ⟨rfl, nq, rfl⟩
set_option maxHeartbeats 4000000 in
theorem idx_any (l : List Int) (nm : LB) (A : Option Addr) (n c g : Nat) (w : World) (hS : StdR w) (hA : Reads w w.heap.size 1 A n (ivs l)) (hn : n ≤ 1000) (hb : w.cell? ⟨g, 0, none⟩ = some (.string ⟨nm.toArray⟩)) :
    Calls Tryz.prog 26 #[.slice A n c, .func (.func 27) #[] #[.pointer (some ⟨g, 0, none⟩)]] w fun e w' => e = .returned (.int .i64 (idxZ (idxO nm l))) ∧ ∃ q, w' = w.drewN q := by
  have hl : l.length = n := by have := hA.1; rw [ivs_length] at this; omega
  have HA := hide hA
  have X := hide (fun o q => ops1_any o nm g (w.drewN q) (hS.below (below_drewN (Below.refl _ _) q)) hb)
  obtain ⟨R, hR⟩ : ∃ R, idxZ (idxO nm l) = R := ⟨_, rfl⟩
  rw [hR]
  have HR := hide hR
  clear hA hR hS hb
  go_enter Tryz.func26, Tryz.ntmps26
  go_wp2_with fail
  go_loopw [5, 8] (fun _ u8 wx => ∃ (i q : Nat), i ≤ n ∧ u8 = .int .i64 i ∧ wx = w.drewN q ∧ Hid (R = idxZ ((idxO nm (l.drop i)).map (· + i)))) (fun _ u8 _ => n - (intOf u8).toNat)
  case atStart => exact ⟨0, 0, Nat.zero_le _, rfl, rfl, hide (by rw [← HR.out]; simp)⟩
  case round =>
    obtain ⟨i, q, hi, rfl, rfl, HX⟩ := hrel
    by_cases hlt : i < n
    · obtain ⟨g1, o1, rfl, hg, hc1⟩ := cells_of HA.out (by omega) (by rw [ivs_length]; omega)
      have hcell : (w.drewN q).cell? ⟨g1, o1 + i, none⟩ = some (.int .i64 (l[i]'(by omega))) := hc1 i _ (ivs_get l i (by omega))
      have HD := hide (HX.out.trans (congrArg idxZ (idx_drop nm l i (by omega))))
      have hi1 : (i : Int) < (n : Int) := by omega
      have hi0 : (0 : Int) ≤ (i : Int) := by omega
      have kw : IntKind.i64.wrap ((i : Int) + 1) = (i : Int) + 1 := by simp [IntKind.wrap, IntKind.bits, IntKind.signed]; omega
      generalize l[i]'(by omega) = o at *
      have XO := hide (X.out o q)
      clear hc1 HX
      cases hq : (wordO o == nm) with
      | true =>
        rw [hq] at XO
        have HR2 : Hid (R = (i : Int)) := hide (by rw [HD.out, hq]; rfl)
        clear hq HD
        go_wp2_with fail
        refine XO.out.mono ?_
        rintro e w1 ⟨rfl, m, rfl⟩
        go_wp2_with fail
        go_ret
        exact ⟨by rw [HR2.out]; rfl, q + m, by simp [World.drewN]⟩
      | false =>
        rw [hq] at XO
        have HR2 : Hid (R = idxZ ((idxO nm (l.drop (i + 1))).map (· + (i + 1)))) := hide (by rw [HD.out, hq]; rfl)
        clear hq HD
        go_wp2_with fail
        refine XO.out.mono ?_
        rintro e w1 ⟨rfl, m, rfl⟩
        go_wp2_with fail
        go_roundw
        case rel => exact ⟨i + 1, q + m, by omega, by go_num, by simp [World.drewN], HR2⟩
        case measure => simp [intOf]; omega
    · obtain rfl : i = n := by omega
      have HR2 : Hid (R = -1) := hide (by rw [HX.out, List.drop_of_length_le (by omega)]; rfl)
      clear HX
      go_wp2_with fail
      go_ret
      exact ⟨by rw [HR2.out]; rfl, q, rfl⟩
end Go.Proofs.YthbackkcamgidaaGreatDoor
