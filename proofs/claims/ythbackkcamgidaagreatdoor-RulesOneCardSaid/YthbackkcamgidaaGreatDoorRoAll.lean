/- RulesOne: for every input the law returns true and leaves its arguments as they were; the card, tied by the given tie. The constants of heads. Numbers and Texts at equal rows. heads. The document's Same at equal policies. The law of remarks. The law of one policy. The law of one policy: the walk. What the rows' lists give, and the witness's world. -/
import Derived.Test.YthbackkcamgidaaGreatDoorRuPt
import Derived.Test.YthbackkcamgidaaGreatDoorRows
import Derived.WalkKit
import Derived.ProofKit
import Derived.OpenShut
import Derived.ShutString
import Derived.ChangeOld
import Derived.LaidMore
import Derived.LaidHandle
import Derived.Lib.LaidTab
import Derived.Lib.SmallJoins
import Derived.Stop.LaidErr
import Derived.Stop.Joined
import Derived.Deep.Strs
import Derived.Lay
import Derived.HandedShaped
import Derived.Shelf.Vars
import Derived.Test.YthbackkcamgidaaGreatDoorCards
import Derived.Test.YthbackkcamgidaaGreatDoorTie
namespace Go.Proofs.YthbackkcamgidaaGreatDoor
open Go Go.RowKit
set_option linter.unusedVariables false
def tA : LB := [114, 111, 111, 116, 32, 47, 104, 111, 109, 101, 10, 35, 32, 97, 32, 114, 101, 109, 97, 114, 107, 10, 97, 108, 108, 111, 119, 32, 111, 112, 101, 110, 44, 115, 116, 97, 116, 32, 47, 104, 111, 109, 101, 47, 42, 42, 32, 35, 32, 109, 111, 114, 101, 10, 10, 100, 101, 110, 121, 32, 115, 112, 97, 119, 110, 32, 47, 98, 105, 110, 47, 42, 32, 97, 114, 103, 115, 32, 114, 109, 32, 46, 46, 46, 10, 101, 110, 118, 32, 107, 101, 101, 112, 32, 65, 32, 66, 42, 10, 101, 110, 118, 32, 115, 101, 116, 32, 67, 61, 100, 10]
def tB : LB := [97, 108, 108, 111, 119, 32, 111, 112, 101, 110, 32, 47, 10, 97, 108, 108, 111, 119, 32, 102, 108, 121, 32, 47]
def tC : LB := [97, 108, 108, 111, 119, 32, 111, 112, 101, 110, 32, 47, 10, 114, 111, 111, 116, 32, 47]
def tD : LB := [114, 111, 111, 116, 32, 47, 104, 111, 109, 101, 10, 97, 108, 108, 111, 119, 32, 111, 112, 101, 110, 44, 115, 116, 97, 116, 32, 47, 104, 111, 109, 101, 47, 42, 42, 10, 100, 101, 110, 121, 32, 115, 112, 97, 119, 110, 32, 47, 98, 105, 110, 47, 42, 32, 97, 114, 103, 115, 32, 114, 109, 32, 46, 46, 46, 10, 101, 110, 118, 32, 107, 101, 101, 112, 32, 65, 10, 101, 110, 118, 32, 107, 101, 101, 112, 32, 66, 42, 10, 101, 110, 118, 32, 115, 101, 116, 32, 67, 61, 100, 10]
def PA : PL := ⟨[47, 104, 111, 109, 101], [⟨true, [1, 10], [47, 104, 111, 109, 101, 47, 42, 42], false, [], false⟩, ⟨false, [7], [47, 98, 105, 110, 47, 42], true, [[114, 109]], true⟩], [⟨1, [65], []⟩, ⟨1, [66, 42], []⟩, ⟨3, [67], [100]⟩]⟩
set_option maxRecDepth 100000 in
theorem hA : parseU tA = (PA, 0) := by kernel_rfl
set_option maxRecDepth 100000 in
theorem hB : parseU tB = (pz, 2) := by kernel_rfl
set_option maxRecDepth 100000 in
theorem hC : parseU tC = (pz, 2) := by kernel_rfl
theorem hO : opsU [111, 112, 101, 110, 44, 115, 116, 97, 116] = some [1, 10] := by kernel_rfl
theorem hN : opsU [115, 116, 97, 116, 44, 111, 112, 101, 110] = none := by kernel_rfl
set_option maxRecDepth 100000 in
theorem hCk : checkP PA = true := by kernel_rfl
set_option maxRecDepth 100000 in
theorem hPt : writeU PA = tD := by kernel_rfl
end Go.Proofs.YthbackkcamgidaaGreatDoor
namespace Go.Proofs.YthbackkcamgidaaGreatDoor
open Go Go.RowKit
set_option linter.unusedVariables false
set_option maxHeartbeats 1000000 in
theorem texts_eq (ks : List LB) (A B : Option Addr) (n c m d : Nat) (w : World) (hA : Reads w w.heap.size 1 A n (svs ks)) (hB : Reads w w.heap.size 1 B m (svs ks)) (hn : n ≤ 1000000) :
    Calls Tryz.prog 32 #[.slice A n c, .slice B m d] w fun e w' => e = .returned (.bool true) ∧ Below w.heap.size w w' := by
  have h1 := rd_len hA
  have h2 := rd_len hB
  subst h1
  subst h2
  have HA := hide hA
  have HB := hide hB
  clear hA hB
  go_enter Tryz.func32, Tryz.ntmps32
  go_wp2_with fail
  go_loopw [5] (fun u5 wx => ∃ (k : Nat), k ≤ ks.length ∧ u5 = .int .i64 k ∧ Hid (Below w.heap.size w wx)) (fun i _ => ks.length - (intOf i).toNat)
  case atStart => exact ⟨0, Nat.zero_le _, rfl, hide (Below.refl _ _)⟩
  case round =>
    obtain ⟨k, hkl, rfl, HW⟩ := hrel
    by_cases hlt : k < ks.length
    · obtain ⟨g, o, rfl, hg, hc1⟩ := cells_of (HA.out.below HW.out) (by omega) (by rw [svs_length]; omega)
      obtain ⟨g2, o2, rfl, hg2, hc2⟩ := cells_of (HB.out.below HW.out) (by omega) (by rw [svs_length]; omega)
      have hcell := hc1 k _ (svs_get ks k hlt)
      have hcell2 := hc2 k _ (svs_get ks k hlt)
      generalize ks[k] = x at *
      unfold sv at hcell hcell2
      have hi1 : (k : Int) < (ks.length : Int) := by omega
      have hi0 : (0 : Int) ≤ (k : Int) := by omega
      have hx : (x != x) = false := by simp
      clear hc1 hc2
      go_wp2_with fail
      go_quiet (fail)
      go_wp2_with fail
      go_roundw
      case rel => exact ⟨k + 1, by omega, by go_num, hide (below_drewN HW.out _)⟩
      case measure => simp [intOf]; omega
    · obtain rfl : k = ks.length := by omega
      go_wp2_with fail
      go_ret
      exact ⟨rfl, HW.out⟩
set_option maxHeartbeats 1000000 in
theorem numbers_eq (ks : List Int) (A B : Option Addr) (n c m d : Nat) (w : World) (hA : Reads w w.heap.size 1 A n (ivs ks)) (hB : Reads w w.heap.size 1 B m (ivs ks)) (hn : n ≤ 1000000) :
    Calls Tryz.prog 14 #[.slice A n c, .slice B m d] w fun e w' => e = .returned (.bool true) ∧ Below w.heap.size w w' := by
  have h1 : n = ks.length := by have := hA.1; rw [ivs_length] at this; omega
  have h2 : m = ks.length := by have := hB.1; rw [ivs_length] at this; omega
  subst h1
  subst h2
  have HA := hide hA
  have HB := hide hB
  clear hA hB
  go_enter Tryz.func14, Tryz.ntmps14
  go_wp2_with fail
  go_loopw [5] (fun u5 wx => ∃ (k : Nat), k ≤ ks.length ∧ u5 = .int .i64 k ∧ Hid (Below w.heap.size w wx)) (fun i _ => ks.length - (intOf i).toNat)
  case atStart => exact ⟨0, Nat.zero_le _, rfl, hide (Below.refl _ _)⟩
  case round =>
    obtain ⟨k, hkl, rfl, HW⟩ := hrel
    by_cases hlt : k < ks.length
    · obtain ⟨g, o, rfl, hg, hc1⟩ := cells_of (HA.out.below HW.out) (by omega) (by rw [ivs_length]; omega)
      obtain ⟨g2, o2, rfl, hg2, hc2⟩ := cells_of (HB.out.below HW.out) (by omega) (by rw [ivs_length]; omega)
      have hcell := hc1 k _ (ivs_get ks k hlt)
      have hcell2 := hc2 k _ (ivs_get ks k hlt)
      generalize ks[k] = x at *
      have hi1 : (k : Int) < (ks.length : Int) := by omega
      have hi0 : (0 : Int) ≤ (k : Int) := by omega
      have hx : (x != x) = false := by simp
      clear hc1 hc2
      go_wp2_with fail
      go_quiet (fail)
      go_wp2_with fail
      go_roundw
      case rel => exact ⟨k + 1, by omega, by go_num, hide (below_drewN HW.out _)⟩
      case measure => simp [intOf]; omega
    · obtain rfl : k = ks.length := by omega
      go_wp2_with fail
      go_ret
      exact ⟨rfl, HW.out⟩
end Go.Proofs.YthbackkcamgidaaGreatDoor
namespace Go.Proofs.YthbackkcamgidaaGreatDoor
open Go Go.RowKit
set_option linter.unusedVariables false
theorem PolR.bel {s : RS} {P : PL} {w w' : World} {z : Nat} (h : PolR s P w) (hb : Below z w w') (hz : w.heap.size ≤ z) : PolR s P w' := h.below (hb.mono hz)
theorem box_new (W : World) (s : RS) (P : PL) : Blk (W.alloc (.cells #[.string ⟨P.root.toArray⟩, .slice s.RA s.rn s.rc, .slice s.EA s.en s.ec] 26)) W.heap.size 26 #[.string ⟨P.root.toArray⟩, .slice s.RA s.rn s.rc, .slice s.EA s.en s.ec] := Blk.new W _ _
theorem smA : Sm PA := ⟨by decide, by decide, by decide, by decide, by decide⟩
theorem pA (w : World) (hS : StdR w) : Calls Tryz.prog 9 #[.string ⟨tA.toArray⟩] w (PaEnd w (PA, 0)) := hA ▸ Parse_any tA (by decide) w hS
theorem pB (w : World) (hS : StdR w) : Calls Tryz.prog 9 #[.string ⟨tB.toArray⟩] w (PaEnd w (pz, 2)) := hB ▸ Parse_any tB (by decide) w hS
theorem pC (w : World) (hS : StdR w) : Calls Tryz.prog 9 #[.string ⟨tC.toArray⟩] w (PaEnd w (pz, 2)) := hC ▸ Parse_any tC (by decide) w hS
theorem prA (s : RS) (w : World) (hP : PolR s PA w) (hS : StdR w) : Calls Tryz.prog 18 #[polV s PA] w fun e w' => e = .returned (.string ⟨List.toArray [114, 111, 111, 116, 32, 47, 104, 111, 109, 101, 10, 97, 108, 108, 111, 119, 32, 111, 112, 101, 110, 44, 115, 116, 97, 116, 32, 47, 104, 111, 109, 101, 47, 42, 42, 10, 100, 101, 110, 121, 32, 115, 112, 97, 119, 110, 32, 47, 98, 105, 110, 47, 42, 32, 97, 114, 103, 115, 32, 114, 109, 32, 46, 46, 46, 10, 101, 110, 118, 32, 107, 101, 101, 112, 32, 65, 10, 101, 110, 118, 32, 107, 101, 101, 112, 32, 66, 42, 10, 101, 110, 118, 32, 115, 101, 116, 32, 67, 61, 100, 10]⟩) ∧ Below w.heap.size w w' := by
  have h := print_any PA s w hP smA hS
  have e : printP PA = [114, 111, 111, 116, 32, 47, 104, 111, 109, 101, 10, 97, 108, 108, 111, 119, 32, 111, 112, 101, 110, 44, 115, 116, 97, 116, 32, 47, 104, 111, 109, 101, 47, 42, 42, 10, 100, 101, 110, 121, 32, 115, 112, 97, 119, 110, 32, 47, 98, 105, 110, 47, 42, 32, 97, 114, 103, 115, 32, 114, 109, 32, 46, 46, 46, 10, 101, 110, 118, 32, 107, 101, 101, 112, 32, 65, 10, 101, 110, 118, 32, 107, 101, 101, 112, 32, 66, 42, 10, 101, 110, 118, 32, 115, 101, 116, 32, 67, 61, 100, 10] := by unfold printP; rw [if_pos hCk, hPt]; rfl
  rw [e] at h
  exact h
theorem ckA (s : RS) (w : World) (hP : PolR s PA w) (hS : StdR w) : Calls Tryz.prog 16 #[polV s PA] w fun e w' => e = .returned (.bool true) ∧ Below w.heap.size w w' := by
  have h := check_any PA s w hP smA hS
  rw [hCk] at h
  exact h
theorem opA (w : World) (hS : StdR w) : Calls Tryz.prog 11 #[.string ⟨#[111, 112, 101, 110, 44, 115, 116, 97, 116]⟩] w fun e w' => ∃ A n c, e = .returned (.tuple #[.slice A n c, .bool true]) ∧ Reads w' w'.heap.size 1 A n (ivs [1, 10]) ∧ Below w.heap.size w w' := by
  have h := ops_any [111, 112, 101, 110, 44, 115, 116, 97, 116] (by decide) w hS
  unfold OpsEnd at h
  rw [hO] at h
  refine Calls.mono h ?_
  rintro e w' ⟨hb, A, n, c, he, ho⟩
  exact ⟨A, n, c, he, Reads.of_own ho, hb⟩
theorem opB (w : World) (hS : StdR w) : Calls Tryz.prog 11 #[.string ⟨#[115, 116, 97, 116, 44, 111, 112, 101, 110]⟩] w fun e w' => e = .returned (.tuple #[.slice none 0 0, .bool false]) ∧ Below w.heap.size w w' := by
  have h := ops_any [115, 116, 97, 116, 44, 111, 112, 101, 110] (by decide) w hS
  unfold OpsEnd at h
  rw [hN] at h
  refine Calls.mono h ?_
  rintro e w' ⟨hb, he⟩
  exact ⟨he, hb⟩
theorem pA2 (w : World) (hS : StdR w) : Calls Tryz.prog 9 #[.string ⟨tA.toArray⟩] w fun e w' => ∃ RA rc L EA ec, e = .returned (.tuple #[.agg #[.string ⟨#[47, 104, 111, 109, 101]⟩, .slice RA 2 rc, .slice EA 3 ec], .int .i64 0]) ∧ PolR ⟨RA, 2, rc, L, EA, 3, ec⟩ PA w' ∧ Below w.heap.size w w' := by
  refine (pA w hS).mono ?_
  rintro e w1 ⟨hb1, ⟨RA, rn, rc, L, EA, en, ec⟩, rfl, hpo⟩
  have hpr := hpo.r
  have h1 : rn = 2 := hpr.rn_.symm
  have h2 : en = 3 := hpr.en_.symm
  subst h1
  subst h2
  exact ⟨RA, rc, L, EA, ec, rfl, hpr, hb1⟩
theorem pz2 {w : World} {k : Nat} {e : Ending} {w' : World} (h : PaEnd w (pz, k) e w') : ∃ RA rc EA ec, e = .returned (.tuple #[.agg #[.string ⟨#[]⟩, .slice RA 0 rc, .slice EA 0 ec], .int .i64 (k : Int)]) ∧ Below w.heap.size w w' := by
  obtain ⟨hb1, ⟨RA, rn, rc, L, EA, en, ec⟩, rfl, hpo⟩ := h
  have hpr := hpo.r
  have h1 : rn = 0 := hpr.rn_.symm
  have h2 : en = 0 := hpr.en_.symm
  subst h1
  subst h2
  exact ⟨RA, rc, EA, ec, rfl, hb1⟩
theorem lit_int (W : World) (ks : List Int) : Reads (W.alloc (.cells (ivs ks).toArray 3)) (W.alloc (.cells (ivs ks).toArray 3)).heap.size 1 (some ⟨W.heap.size, 0, none⟩) ks.length (ivs ks) := by
  refine ⟨by simp [ivs], fun _ => ⟨_, rfl, by simp, ?_⟩⟩
  intro j u hu
  rw [at_add, Nat.zero_add, (Blk.new W 3 (ivs ks).toArray).cell j]
  simpa using hu
set_option maxRecDepth 100000 in
set_option maxHeartbeats 16000000 in
theorem heads_any (w : World) (hS : StdR w) : Calls Tryz.prog 8 #[] w fun e w' => e = .returned (.bool true) ∧ Below w.heap.size w w' := by
  obtain ⟨z, hz⟩ : ∃ z, w.heap.size = z := ⟨_, rfl⟩
  have HS := hide hS
  clear hS
  go_enter Tryz.func8, Tryz.ntmps8
  go_wp2_with fail
  refine (pA2 w HS.out).mono ?_
  rintro e w1 ⟨RA, rc, L, EA, ec, rfl, hpr, hb1⟩
  -- the policy's box
  have hba := (Below.refl w1.heap.size w1).alloc (Nat.le_refl _) (.cells #[.string ⟨#[47, 104, 111, 109, 101]⟩, .slice RA 2 rc, .slice EA 3 ec] 26)
  have hs1 : z ≤ w1.heap.size := by have := hb1.size; omega
  have HB1 := hide (show Below z w (w1.alloc (.cells #[.string ⟨#[47, 104, 111, 109, 101]⟩, .slice RA 2 rc, .slice EA 3 ec] 26)) from (show Below z w w1 from hz ▸ hb1).trans (hba.mono hs1))
  have HP1 := hide (hpr.below hba)
  have HK1 := hide (Blk.new w1 26 #[.string ⟨#[47, 104, 111, 109, 101]⟩, .slice RA 2 rc, .slice EA 3 ec])
  have HS1 := hide (HS.out.below (by rw [hz]; exact HB1.out))
  have hg1 : w1.heap.size < (w1.alloc (.cells #[.string ⟨#[47, 104, 111, 109, 101]⟩, .slice RA 2 rc, .slice EA 3 ec] 26)).heap.size := by simp
  clear hb1 hpr hba HS
  generalize hgA : w1.heap.size = g at *
  go_wp2_with fail
  obtain ⟨W1, hW1⟩ : ∃ W, w1.alloc (.cells #[.string ⟨#[47, 104, 111, 109, 101]⟩, .slice RA 2 rc, .slice EA 3 ec] 26) = W := ⟨_, rfl⟩
  rw [hW1] at HB1 HP1 HK1 HS1 hg1 ⊢
  clear hW1 hgA
  refine (pB W1 HS1.out).mono ?_
  intro e w2 hend
  obtain ⟨RB, rb, EB, eb, rfl, hb2⟩ := pz2 hend
  clear hend
  have hba := hb2.trans ((Below.refl W1.heap.size w2).alloc hb2.size (.cells #[.string ⟨#[]⟩, .slice RB 0 rb, .slice EB 0 eb] 26))
  have HB2 := hide (HB1.out.trans (hba.mono (by omega : z ≤ W1.heap.size)))
  have HP2 := hide (HP1.out.below hba)
  have HK2 := hide (HK1.out.below hba hg1)
  have HS2 := hide (HS1.out.below hba)
  have hg2 : g < (w2.alloc (.cells #[.string ⟨#[]⟩, .slice RB 0 rb, .slice EB 0 eb] 26)).heap.size := by have := hba.size; omega
  clear hba hb2 HB1 HP1 HK1 HS1 hg1
  go_wp2_with fail
  obtain ⟨W2, hW2⟩ : ∃ W, w2.alloc (.cells #[.string ⟨#[]⟩, .slice RB 0 rb, .slice EB 0 eb] 26) = W := ⟨_, rfl⟩
  rw [hW2] at HB2 HP2 HK2 HS2 hg2 ⊢
  clear hW2
  generalize w2.heap.size = gb at *
  refine (pC W2 HS2.out).mono ?_
  intro e w3 hend
  obtain ⟨RC, rcc, EC, ecc, rfl, hb3⟩ := pz2 hend
  clear hend
  have hba := hb3.trans ((Below.refl W2.heap.size w3).alloc hb3.size (.cells #[.string ⟨#[]⟩, .slice RC 0 rcc, .slice EC 0 ecc] 26))
  have HB3 := hide (HB2.out.trans (hba.mono (by omega : z ≤ W2.heap.size)))
  have HP3 := hide (HP2.out.below hba)
  have HK3 := hide (HK2.out.below hba hg2)
  have HS3 := hide (HS2.out.below hba)
  have hg3 : g < (w3.alloc (.cells #[.string ⟨#[]⟩, .slice RC 0 rcc, .slice EC 0 ecc] 26)).heap.size := by have := hba.size; omega
  clear hba hb3 HB2 HP2 HK2 HS2 hg2
  go_wp2_with fail
  obtain ⟨W3, hW3⟩ : ∃ W, w3.alloc (.cells #[.string ⟨#[]⟩, .slice RC 0 rcc, .slice EC 0 ecc] 26) = W := ⟨_, rfl⟩
  rw [hW3] at HB3 HP3 HK3 HS3 hg3 ⊢
  clear hW3
  generalize w3.heap.size = gc at *
  refine (opA W3 HS3.out).mono ?_
  rintro e w4 ⟨LA, ln, lc, rfl, hrl, hb4⟩
  obtain rfl : ln = 2 := by have := hrl.1; simpa [ivs] using this.symm
  have HB4 := hide (HB3.out.trans (hb4.mono (by omega : z ≤ W3.heap.size)))
  have HP4 := hide (HP3.out.below hb4)
  have HK4 := hide (HK3.out.below hb4 hg3)
  have HS4 := hide (HS3.out.below hb4)
  have HL4 := hide hrl
  have hg4 : g < w4.heap.size := by have := hb4.size; omega
  clear hb4 hrl HB3 HP3 HK3 HS3 hg3
  go_wp2_with fail
  refine (opB w4 HS4.out).mono ?_
  rintro e w5 ⟨rfl, hb5⟩
  have HB5 := hide (HB4.out.trans (hb5.mono (by omega : z ≤ w4.heap.size)))
  have HP5 := hide (HP4.out.below hb5)
  have hk5 := HK4.out.below hb5 hg4
  have HS5 := hide (HS4.out.below hb5)
  have HL5 := hide ((HL4.out.below hb5).more hb5.size)
  have hg5 : g < w5.heap.size := by have := hb5.size; omega
  clear hb5 HB4 HP4 HK4 HS4 HL4 hg4
  have c0 := hk5.cell 0
  have c1 := hk5.cell 1
  have c2 := hk5.cell 2
  have HK5 := hide hk5
  -- the policy's rows
  have hLl : L.length = 2 := by have := congrArg List.length HP5.out.eq; rw [List.length_map] at this; exact this
  obtain ⟨x0, x1, rfl⟩ : ∃ x0 x1, L = [x0, x1] := by
    match L, hLl with
    | [a, b], _ => exact ⟨a, b, rfl⟩
  have hx1 : x1.r = ⟨false, [7], [47, 98, 105, 110, 47, 42], true, [[114, 109]], true⟩ := by
    have := HP5.out.eq
    simp only [List.map_cons, List.map_nil, PA, List.cons.injEq] at this
    exact this.2.1
  obtain ⟨ga, oa, hAe, hga, hca⟩ := ru_cells HP5.out.rules (k := 1) (x := x1) rfl
  obtain ⟨ge, oe, hEe, hge, hce⟩ := en_cells HP5.out.env (k := 2) (x := ⟨3, [67], [100]⟩) rfl
  dsimp only at hAe hEe
  have hxa : x1.an = 1 := by
    have h := (HP5.out.ok x1 (by simp)).2.1
    rw [hx1] at h
    simpa [svs] using h.symm
  have r3 : w5.cell? ⟨ga, oa + 6 + 3, none⟩ = some (.bool true) := by have := hca 3 (.bool x1.r.wi) rfl; rw [hx1] at this; exact this
  have r4 : w5.cell? ⟨ga, oa + 6 + 4, none⟩ = some (.slice x1.A 1 x1.ac) := by have := hca 4 (.slice x1.A x1.an x1.ac) rfl; rw [hxa] at this; exact this
  have r5 : w5.cell? ⟨ga, oa + 6 + 5, none⟩ = some (.bool true) := by have := hca 5 (.bool x1.r.mo) rfl; rw [hx1] at this; exact this
  have s2 : w5.cell? ⟨ge, oe + 6 + 2, none⟩ = some (.string ⟨#[100]⟩) := hce 2 _ rfl
  have hia : ∀ W, (Instr.indexAt 23 (.slice (some ⟨ga, oa, none⟩) 2 rc) (.int .i64 1)).run Tryz.prog W = .ok (.pointer (some ⟨ga, oa + 6, none⟩)) W := fun W => ru_at ga oa 2 rc 1 1 rfl (by omega) W
  have hib : ∀ W, (Instr.indexAt 24 (.slice (some ⟨ge, oe, none⟩) 3 ec) (.int .i64 2)).run Tryz.prog W = .ok (.pointer (some ⟨ge, oe + 6, none⟩)) W := fun W => en_at ge oe 3 ec 2 2 rfl (by omega) W
  subst hAe
  subst hEe
  clear hca hce hx1 hxa hLl hk5
  have XN := hide (numbers_eq [1, 10])
  go_wp2_with fail
  have hba := (Below.refl w5.heap.size w5).alloc (Nat.le_refl _) (.cells (ivs [1, 10]).toArray 3)
  have hlr := lit_int w5 [1, 10]
  have hla := (HL5.out.below hba).more hba.size
  have HB6 := hide (HB5.out.trans (hba.mono (by have := HB5.out.size; omega : z ≤ w5.heap.size)))
  have HP6 := hide (HP5.out.below hba)
  have HK6 := hide (HK5.out.below hba hg5)
  have HS6 := hide (HS5.out.below hba)
  have hg6 : g < (w5.alloc (.cells (ivs [1, 10]).toArray 3)).heap.size := by have := hba.size; omega
  refine (XN.out LA _ 2 lc 2 2 (w5.alloc (.cells (ivs [1, 10]).toArray 3)) hla hlr (by omega)).mono ?_
  rintro e w6 ⟨rfl, hb6⟩
  have HB7 := hide (HB6.out.trans (hb6.mono (by have := HB6.out.size; omega)))
  have HP7 := hide (HP6.out.below hb6)
  have hk7 := HK6.out.below hb6 hg6
  have HS7 := hide (HS6.out.below hb6)
  have hg7 : g < w6.heap.size := by have := hb6.size; omega
  have HK7 := hide hk7
  clear hba hlr hla hb6 HB5 HP5 HK5 HS5 HL5 HB6 HP6 HK6 HS6 hg6 hg5 c0 c1 c2 r3 r4 r5 s2 hia hib
  have c0 := hk7.cell 0
  have c1 := hk7.cell 1
  have c2 := hk7.cell 2
  clear hk7
  have XC := hide (ckA _ w6 HP7.out HS7.out)
  unfold polV at XC
  dsimp only [PA] at XC
  go_wp2_with fail
  refine XC.out.mono ?_
  rintro e w7 ⟨rfl, hb7⟩
  have HB8 := hide (HB7.out.trans (hb7.mono (by have := HB7.out.size; omega)))
  have HP8 := hide (HP7.out.below hb7)
  have hk8 := HK7.out.below hb7 hg7
  have HS8 := hide (HS7.out.below hb7)
  clear hb7 HB7 HP7 HK7 HS7 hg7 c0 c1 c2 XC
  have c0 := hk8.cell 0
  have c1 := hk8.cell 1
  have c2 := hk8.cell 2
  clear hk8
  have XP := hide (prA _ w7 HP8.out HS8.out)
  unfold polV at XP
  dsimp only [PA] at XP
  go_wp2_with fail
  refine XP.out.mono ?_
  rintro e w8 ⟨rfl, hb8⟩
  have HB9 := hide (HB8.out.trans (hb8.mono (by have := HB8.out.size; omega)))
  clear hb8 c0 c1 c2 XP
  go_wp2_with fail
  go_ret
  exact ⟨rfl, by rw [hz]; exact HB9.out⟩
end Go.Proofs.YthbackkcamgidaaGreatDoor
namespace Go.Proofs.YthbackkcamgidaaGreatDoor
open Go Go.RowKit
set_option linter.unusedVariables false
section
variable {P : Program} {md : Region.Mode} {Q : Exit → Act → World → Prop} {S : World → Prop} {L : List Nat}
theorem wpAnyK_two {l : List Oper} {i j : Nat} {o o' : Oper} {fuel : Nat} {listed : Array Bool} {a : Act} {w : World} (hr : Region.ready md l.toArray listed = [i, j]) (ho : l[i]? = some o) (ho' : l[j]? = some o') (hi' : l.toArray[i]? = l[i]?) (hj' : l.toArray[j]? = l[j]?)
    (h : ∀ K' : Act → World → Prop, Shut (∀ a' w', (S w → i ∉ L → S w') → wpAnyK P md l.toArray Q S L fuel (listed.setIfInBounds i true) a' w' → K' a' w') → if Region.wanted o (yielded l.toArray a.tmps) = true then Oper.wp P o a w K' Q else K' (a.put o.dst undef) w)
    (h' : ∀ K' : Act → World → Prop, Shut (∀ a' w', (S w → j ∉ L → S w') → wpAnyK P md l.toArray Q S L fuel (listed.setIfInBounds j true) a' w' → K' a' w') → if Region.wanted o' (yielded l.toArray a.tmps) = true then Oper.wp P o' a w K' Q else K' (a.put o'.dst undef) w) :
    wpAnyK P md l.toArray Q S L (fuel + 1) listed a w := by
  refine ⟨fun h0 => (by rw [hr] at h0; cases h0), fun k hk => ?_⟩
  rw [hr] at hk
  rcases (by simpa using hk : k = i ∨ k = j) with rfl | rfl
  · exact wpOp_step (hi'.trans ho) (fun K' hK => h K' (fun a w hS hW => hK a w ⟨hS, hW⟩))
  · exact wpOp_step (hj'.trans ho') (fun K' hK => h' K' (fun a w hS hW => hK a w ⟨hS, hW⟩))
end
theorem cell_far {W : World} {p : Addr} {v : Value} {b : Nat} (h : W.cell? p = some v) (hne : p.block ≠ b) (u0 u1 u2 u3 u4 u5 : Value) : ((((((W.setCell ⟨b, 0, none⟩ u0).setCell ⟨b, 1, none⟩ u1).setCell ⟨b, 2, none⟩ u2).setCell ⟨b, 3, none⟩ u3).setCell ⟨b, 4, none⟩ u4).setCell ⟨b, 5, none⟩ u5).cell? p = some v :=
  (World.cell?_of_block ((Below.heap_setCell _ ⟨b, 5, none⟩ _ p.block hne).trans ((Below.heap_setCell _ ⟨b, 4, none⟩ _ p.block hne).trans ((Below.heap_setCell _ ⟨b, 3, none⟩ _ p.block hne).trans ((Below.heap_setCell _ ⟨b, 2, none⟩ _ p.block hne).trans ((Below.heap_setCell _ ⟨b, 1, none⟩ _ p.block hne).trans (Below.heap_setCell _ ⟨b, 0, none⟩ _ p.block hne))))))).trans h
theorem blk_six {W : World} {b : Nat} {t : TypeId} {x0 x1 x2 x3 x4 x5 : Value} (h : Blk W b t #[x0, x1, x2, x3, x4, x5]) (u0 u1 u2 u3 u4 u5 : Value) : Blk ((((((W.setCell ⟨b, 0, none⟩ u0).setCell ⟨b, 1, none⟩ u1).setCell ⟨b, 2, none⟩ u2).setCell ⟨b, 3, none⟩ u3).setCell ⟨b, 4, none⟩ u4).setCell ⟨b, 5, none⟩ u5) b t #[u0, u1, u2, u3, u4, u5] :=
  (((((h.set_ 0 u0).set_ 1 u1).set_ 2 u2).set_ 3 u3).set_ 4 u4).set_ 5 u5
theorem blk_six_far {W : World} {b c : Nat} {t : TypeId} {cs : Array Value} (h : Blk W c t cs) (hne : c ≠ b) (u0 u1 u2 u3 u4 u5 : Value) : Blk ((((((W.setCell ⟨b, 0, none⟩ u0).setCell ⟨b, 1, none⟩ u1).setCell ⟨b, 2, none⟩ u2).setCell ⟨b, 3, none⟩ u3).setCell ⟨b, 4, none⟩ u4).setCell ⟨b, 5, none⟩ u5) c t cs :=
  (((((h.far hne u0).far hne u1).far hne u2).far hne u3).far hne u4).far hne u5
theorem below_six {W W1 : World} {b z : Nat} (h : Below z W W1) (hb : z ≤ b) (u0 u1 u2 u3 u4 u5 : Value) : Below z W ((((((W1.setCell ⟨b, 0, none⟩ u0).setCell ⟨b, 1, none⟩ u1).setCell ⟨b, 2, none⟩ u2).setCell ⟨b, 3, none⟩ u3).setCell ⟨b, 4, none⟩ u4).setCell ⟨b, 5, none⟩ u5) :=
  (((((h.setCell (p := ⟨b, 0, none⟩) hb u0).setCell (p := ⟨b, 1, none⟩) hb u1).setCell (p := ⟨b, 2, none⟩) hb u2).setCell (p := ⟨b, 3, none⟩) hb u3).setCell (p := ⟨b, 4, none⟩) hb u4).setCell (p := ⟨b, 5, none⟩) hb u5
theorem cell_up {W : World} {p : Addr} {v : Value} (o : Obj) (h : W.cell? p = some v) : (W.alloc o).cell? p = some v := (World.cell?_alloc_lt W _ p (World.block_lt_of_cell? W p h)).trans h
set_option maxRecDepth 100000 in
set_option maxHeartbeats 32000000 in
theorem rsame_any (P : PL) (s t : RS) (w : World) (hp : PolR s P w) (hq : PolR t P w) (hm : Lo P) :
    Calls Tryz.prog 13 #[polV s P, polV t P] w fun e w' => e = .returned (.bool true) ∧ Below w.heap.size w w' := by
  obtain ⟨pr, pu, pe⟩ := P
  unfold polV
  obtain ⟨z, hz⟩ : ∃ z, w.heap.size = z := ⟨_, rfl⟩
  obtain ⟨RA, rn, rc, L, EA, en, ec⟩ := s
  obtain ⟨RB, rm, rd, L', EB, em, ed⟩ := t
  obtain rfl : rm = rn := by have h1 := hp.rn_; have h2 := hq.rn_; dsimp only at h1 h2; omega
  obtain rfl : em = en := by have h1 := hp.en_; have h2 := hq.en_; dsimp only at h1 h2; omega
  have hprn := hp.rn_
  have hpen := hp.en_
  have hml := hm.nr
  have hml2 := hm.ne
  dsimp only at hprn hpen hml hml2 ⊢
  have hk1 := (Blk.new w 26 #[.string ⟨pr.toArray⟩, .slice RA rm rc, .slice EA em ec]).alloc (.cells #[.string ⟨pr.toArray⟩, .slice RB rm rd, .slice EB em ed] 26)
  have hk2 := Blk.new (w.alloc (.cells #[.string ⟨pr.toArray⟩, .slice RA rm rc, .slice EA em ec] 26)) 26 #[.string ⟨pr.toArray⟩, .slice RB rm rd, .slice EB em ed]
  have hbe := ((Below.refl z w).alloc (by omega) (.cells #[.string ⟨pr.toArray⟩, .slice RA rm rc, .slice EA em ec] 26)).alloc (by simp; omega) (.cells #[.string ⟨pr.toArray⟩, .slice RB rm rd, .slice EB em ed] 26)
  rw [World.size_alloc] at hk2
  rw [hz] at hk1 hk2
  have hs0 : ((w.alloc (.cells #[.string ⟨pr.toArray⟩, .slice RA rm rc, .slice EA em ec] 26)).alloc (.cells #[.string ⟨pr.toArray⟩, .slice RB rm rd, .slice EB em ed] 26)).heap.size = z + 2 := by simp [hz]
  have HP := hide hp
  have HQ := hide hq
  have HM := hide hm
  clear hp hq hm
  go_enter Tryz.func13, Tryz.ntmps13
  refine wp_seq ?_
  go_upto_region 1 with (fail)
  obtain ⟨W0, hW0⟩ : ∃ W, (w.alloc (.cells #[.string ⟨pr.toArray⟩, .slice RA rm rc, .slice EA em ec] 26)).alloc (.cells #[.string ⟨pr.toArray⟩, .slice RB rm rd, .slice EB em ed] 26) = W := ⟨_, rfl⟩
  rw [hW0] at hk1 hk2 hbe hs0 ⊢
  clear hW0
  have HB := hide hbe
  have HK1 := hide hk1
  have HK2 := hide hk2
  have c0 := hk1.cell 0
  have c1 := hk1.cell 1
  have c2 := hk1.cell 2
  have d0 := hk2.cell 0
  have d1 := hk2.cell 1
  have d2 := hk2.cell 2
  have e0 : (pr != pr) = false := by simp
  have e1 : ((rm : Int) != (rm : Int)) = false := by simp
  have e2 : ((em : Int) != (em : Int)) = false := by simp
  clear hk1 hk2 hbe
  go_wp2_with fail
  clear c0 c1 c2 d0 d1 d2 e0 e1 e2
  go_loopw [5] (fun u5 wx => ∃ i : Nat, i ≤ rm ∧ u5 = .int .i64 i ∧ Hid (Below (z + 2) W0 wx)) (fun u5 _ => rm - (intOf u5).toNat)
  case atStart => exact ⟨0, Nat.zero_le _, rfl, hide (Below.refl _ _)⟩
  case round =>
    obtain ⟨i, hin, rfl, HBW⟩ := hrel
    have hsx := HBW.out.size
    have hka := HK1.out.below HBW.out (by omega)
    have hkb := HK2.out.below HBW.out (by omega)
    have HZ := hide (HB.out.trans (HBW.out.mono (by omega : z ≤ z + 2)))
    have hpw := HP.out.below (by rw [hz]; exact HZ.out)
    have hqw := HQ.out.below (by rw [hz]; exact HZ.out)
    have ca1 := hka.cell 1
    by_cases hlt : i < rm
    · have hl1 : L.length = rm := by have := congrArg List.length hpw.eq; rw [List.length_map] at this; dsimp only at this; omega
      have hl2 : L'.length = rm := by have := congrArg List.length hqw.eq; rw [List.length_map] at this; dsimp only at this; omega
      obtain ⟨x, hx⟩ : ∃ x, L[i]? = some x := ⟨_, List.getElem?_eq_getElem (by omega)⟩
      obtain ⟨y, hy⟩ : ∃ y, L'[i]? = some y := ⟨_, List.getElem?_eq_getElem (by omega)⟩
      have hxm := List.mem_of_getElem? hx
      have hym := List.mem_of_getElem? hy
      have hxy : x.r = y.r := by
        have e1 : (L.map RV.r)[i]? = some x.r := by rw [List.getElem?_map, hx]; rfl
        have e2 : (L'.map RV.r)[i]? = some y.r := by rw [List.getElem?_map, hy]; rfl
        have e3 : L.map RV.r = L'.map RV.r := hpw.eq.trans hqw.eq.symm
        rw [e3, e2] at e1
        injection e1 with e1
        exact e1.symm
      obtain ⟨g, o, hAe, hg, hc⟩ := ru_cells hpw.rules hx
      obtain ⟨g', o', hBe, hg', hc'⟩ := ru_cells hqw.rules hy
      dsimp only at hAe hBe
      subst hAe
      subst hBe
      have hrw := hpw.rwl HM.out
      have hrw' := hqw.rwl HM.out
      have hsm1 := hrw.sm x hxm
      have hsm2 := hrw'.sm y hym
      have HRA := hide (hrw.ok x hxm)
      have HRB := hide (hrw'.ok y hym)
      obtain ⟨⟨al, ops, path, wi, args, mo⟩, O, on, oc, A, an, ac⟩ := x
      obtain ⟨r', O', on', oc', A', an', ac'⟩ := y
      dsimp only at hxy
      subst hxy
      dsimp only at HRA HRB hsm1 hsm2
      have r0 : wr.cell? ⟨g, o + i * 6, none⟩ = some (.bool al) := hc 0 _ rfl
      have r1 : wr.cell? ⟨g, o + i * 6 + 1, none⟩ = some (.slice O on oc) := hc 1 _ rfl
      have r2 : wr.cell? ⟨g, o + i * 6 + 2, none⟩ = some (.string ⟨path.toArray⟩) := hc 2 _ rfl
      have r3 : wr.cell? ⟨g, o + i * 6 + 3, none⟩ = some (.bool wi) := hc 3 _ rfl
      have r4 : wr.cell? ⟨g, o + i * 6 + 4, none⟩ = some (.slice A an ac) := hc 4 _ rfl
      have r5 : wr.cell? ⟨g, o + i * 6 + 5, none⟩ = some (.bool mo) := hc 5 _ rfl
      have s0 : wr.cell? ⟨g', o' + i * 6, none⟩ = some (.bool al) := hc' 0 _ rfl
      have s1 : wr.cell? ⟨g', o' + i * 6 + 1, none⟩ = some (.slice O' on' oc') := hc' 1 _ rfl
      have s2 : wr.cell? ⟨g', o' + i * 6 + 2, none⟩ = some (.string ⟨path.toArray⟩) := hc' 2 _ rfl
      have s3 : wr.cell? ⟨g', o' + i * 6 + 3, none⟩ = some (.bool wi) := hc' 3 _ rfl
      have s4 : wr.cell? ⟨g', o' + i * 6 + 4, none⟩ = some (.slice A' an' ac') := hc' 4 _ rfl
      have s5 : wr.cell? ⟨g', o' + i * 6 + 5, none⟩ = some (.bool mo) := hc' 5 _ rfl
      have hia := fun W => ru_at g o rm rc i (i : Int) rfl hlt W
      have hib := fun W => ru_at g' o' rm rd i (i : Int) rfl hlt W
      have hlt' : (i : Int) < (rm : Int) := by omega
      have kw : IntKind.i64.wrap ((i : Int) + 1) = (i : Int) + 1 := by simp [IntKind.wrap, IntKind.bits, IntKind.signed]; omega
      have cb1 := hkb.cell 1
      simp only [List.getElem?_toArray, List.getElem?_cons_succ, List.getElem?_cons_zero] at ca1 cb1
      clear hc hc' hx hy hxm hym hpw hqw hrw hrw' hl1 hl2 hka hkb hg hg'
      go_wp2_with fail
      refine wp_region_K (fun V => V.cell? ⟨z, 1, none⟩ = some (.slice (some ⟨g, o, none⟩) rm rc) ∧ V.cell? ⟨z + 1, 1, none⟩ = some (.slice (some ⟨g', o', none⟩) rm rd) ∧ (V.cell? ⟨g, o + i * 6, none⟩ = some (.bool al) ∧ V.cell? ⟨g, o + i * 6 + 1, none⟩ = some (.slice O on oc) ∧ V.cell? ⟨g, o + i * 6 + 2, none⟩ = some (.string ⟨path.toArray⟩) ∧ V.cell? ⟨g, o + i * 6 + 3, none⟩ = some (.bool wi) ∧ V.cell? ⟨g, o + i * 6 + 4, none⟩ = some (.slice A an ac) ∧ V.cell? ⟨g, o + i * 6 + 5, none⟩ = some (.bool mo)) ∧
        V.cell? ⟨g', o' + i * 6, none⟩ = some (.bool al) ∧ V.cell? ⟨g', o' + i * 6 + 1, none⟩ = some (.slice O' on' oc') ∧ V.cell? ⟨g', o' + i * 6 + 2, none⟩ = some (.string ⟨path.toArray⟩) ∧ V.cell? ⟨g', o' + i * 6 + 3, none⟩ = some (.bool wi) ∧ V.cell? ⟨g', o' + i * 6 + 4, none⟩ = some (.slice A' an' ac') ∧ V.cell? ⟨g', o' + i * 6 + 5, none⟩ = some (.bool mo)) [13] rfl ⟨ca1, cb1, ⟨r0, r1, r2, r3, r4, r5⟩, s0, s1, s2, s3, s4, s5⟩ (fun hHeld => ?_)
      refine wpAnyK_takeF (i := 0) (v := ?_) rfl rfl (by kernel_rfl) (fun _ _ _ h => h) (Or.inl ⟨by rfl, ?_⟩) ?_
      rotate_left
      · (intro V hV; (try dsimp only at hV); go_simp; with_reducible rfl)
      try simp only [Act.put, List.setIfInBounds_toArray, List.set_cons_zero, List.set_cons_succ]
      refine wpAnyK_take (i := 1) (v := ?_) rfl rfl (by kernel_rfl) (fun _ _ _ h => h) (Or.inl ⟨by rfl, ?_⟩) (by assumption) ?_
      rotate_left
      · (intro V hV; (try dsimp only at hV); go_simp; with_reducible rfl)
      try simp only [Act.put, List.setIfInBounds_toArray, List.set_cons_zero, List.set_cons_succ]
      refine wpAnyK_takeF (i := 2) (v := ?_) rfl rfl (by kernel_rfl) (fun _ _ _ h => h) (Or.inl ⟨by rfl, ?_⟩) ?_
      rotate_left
      · (intro V hV; (try dsimp only at hV); go_simp; with_reducible rfl)
      try simp only [Act.put, List.setIfInBounds_toArray, List.set_cons_zero, List.set_cons_succ]
      refine wpAnyK_take (i := 3) (v := ?_) rfl rfl (by kernel_rfl) (fun _ _ _ h => h) (Or.inl ⟨by rfl, ?_⟩) (by assumption) ?_
      rotate_left
      · (intro V hV; (try dsimp only at hV); go_simp; with_reducible rfl)
      try simp only [Act.put, List.setIfInBounds_toArray, List.set_cons_zero, List.set_cons_succ]
      refine wpAnyK_take (i := 4) (v := ?_) rfl rfl (by kernel_rfl) (fun _ _ _ h => h) (Or.inl ⟨by rfl, ?_⟩) (by assumption) ?_
      rotate_left
      · (intro V hV; (try dsimp only at hV); go_simp; with_reducible rfl)
      try simp only [Act.put, List.setIfInBounds_toArray, List.set_cons_zero, List.set_cons_succ]
      refine wpAnyK_takeF (i := 5) (v := ?_) rfl rfl (by kernel_rfl) (fun _ _ _ h => h) (Or.inl ⟨by rfl, ?_⟩) ?_
      rotate_left
      · (intro V hV; (try dsimp only at hV); go_simp; with_reducible rfl)
      try simp only [Act.put, List.setIfInBounds_toArray, List.set_cons_zero, List.set_cons_succ]
      refine wpAnyK_take (i := 6) (v := ?_) rfl rfl (by kernel_rfl) (fun _ _ _ h => h) (Or.inl ⟨by rfl, ?_⟩) (by assumption) ?_
      rotate_left
      · (intro V hV; (try dsimp only at hV); go_simp; with_reducible rfl)
      try simp only [Act.put, List.setIfInBounds_toArray, List.set_cons_zero, List.set_cons_succ]
      refine wpAnyK_takeF (i := 7) (v := ?_) rfl rfl (by kernel_rfl) (fun _ _ _ h => h) (Or.inl ⟨by rfl, ?_⟩) ?_
      rotate_left
      · (intro V hV; (try dsimp only at hV); go_simp; with_reducible rfl)
      try simp only [Act.put, List.setIfInBounds_toArray, List.set_cons_zero, List.set_cons_succ]
      refine wpAnyK_take (i := 8) (v := ?_) rfl rfl (by kernel_rfl) (fun _ _ _ h => h) (Or.inl ⟨by rfl, ?_⟩) (by assumption) ?_
      rotate_left
      · (intro V hV; (try dsimp only at hV); go_simp; with_reducible rfl)
      try simp only [Act.put, List.setIfInBounds_toArray, List.set_cons_zero, List.set_cons_succ]
      refine wpAnyK_take (i := 9) (v := ?_) rfl rfl (by kernel_rfl) (fun _ _ _ h => h) (Or.inl ⟨by rfl, ?_⟩) (by assumption) ?_
      rotate_left
      · (intro V hV; (try dsimp only at hV); go_simp; with_reducible rfl)
      try simp only [Act.put, List.setIfInBounds_toArray, List.set_cons_zero, List.set_cons_succ]
      have HZD := hide (below_drewN HZ.out 1)
      have HWD := hide (below_drewN HBW.out 1)
      change Hid (Below z w wr.drew) at HZD
      change Hid (Below (z + 2) W0 wr.drew) at HWD
      have hsd : wr.drew.heap.size = wr.heap.size := rfl
      have HRA1 := hide (show Reads wr.drew wr.drew.heap.size 1 O on (ivs ops) ∧ Reads wr.drew wr.drew.heap.size 1 A an (svs args) from ⟨HRA.out.1.drewN 1, HRA.out.2.drewN 1⟩)
      have HRB1 := hide (show Reads wr.drew wr.drew.heap.size 1 O' on' (ivs ops) ∧ Reads wr.drew wr.drew.heap.size 1 A' an' (svs args) from ⟨HRB.out.1.drewN 1, HRB.out.2.drewN 1⟩)
      clear ca1 cb1 r0 r1 r2 r3 r4 r5 s0 s1 s2 s3 s4 s5 HRA HRB HZ HBW hia hib
      generalize wr.drew = V at *
      rw [← hsd] at hsx
      clear hsd
      obtain ⟨m, hm0⟩ : ∃ m, V.heap.size = m := ⟨_, rfl⟩
      rw [hm0] at hsx
      obtain ⟨h0, h1, ⟨h2, h3, h4, h5, h6, h7⟩, h8, h9, h10, h11, h12, h13⟩ := hHeld
      have HH := hide (⟨h0, h1, ⟨h2, h3, h4, h5, h6, h7⟩, h8, h9, h10, h11, h12, h13⟩ : _ ∧ _ ∧ (_ ∧ _ ∧ _ ∧ _ ∧ _ ∧ _) ∧ _ ∧ _ ∧ _ ∧ _ ∧ _ ∧ _)
      refine wpAnyK_two (i := 10) (j := 11) (by kernel_rfl) rfl rfl rfl rfl (fun K hK => ?_) (fun K hK => ?_)
      · go_simp
        refine hK.out _ _ (fun _ _ => ⟨cell_up _ h0, cell_up _ h1, ⟨cell_up _ h2, cell_up _ h3, cell_up _ h4, cell_up _ h5, cell_up _ h6, cell_up _ h7⟩, cell_up _ h8, cell_up _ h9, cell_up _ h10, cell_up _ h11, cell_up _ h12, cell_up _ h13⟩) ?_
        clear hK K
        simp only [List.setIfInBounds_toArray]
        refine wpAnyK_step (i := 11) (by kernel_rfl) rfl rfl (fun K hK => ?_)
        go_simp
        refine hK.out _ _ (fun _ _ => ⟨cell_up _ (cell_up _ h0), cell_up _ (cell_up _ h1), ⟨cell_up _ (cell_up _ h2), cell_up _ (cell_up _ h3), cell_up _ (cell_up _ h4), cell_up _ (cell_up _ h5), cell_up _ (cell_up _ h6), cell_up _ (cell_up _ h7)⟩, cell_up _ (cell_up _ h8), cell_up _ (cell_up _ h9), cell_up _ (cell_up _ h10), cell_up _ (cell_up _ h11), cell_up _ (cell_up _ h12), cell_up _ (cell_up _ h13)⟩) ?_
        clear hK K
        simp only [List.setIfInBounds_toArray]
        have hz1 := (Blk.new V 40 #[.bool false, .slice none 0 0, .string ⟨#[]⟩, .bool false, .slice none 0 0, .bool false]).alloc (.cells #[.bool false, .slice none 0 0, .string ⟨#[]⟩, .bool false, .slice none 0 0, .bool false] 40)
        have hz2 := Blk.new (V.alloc (.cells #[.bool false, .slice none 0 0, .string ⟨#[]⟩, .bool false, .slice none 0 0, .bool false] 40)) 40 #[.bool false, .slice none 0 0, .string ⟨#[]⟩, .bool false, .slice none 0 0, .bool false]
        have hvb := ((Below.refl V.heap.size V).alloc (Nat.le_refl _) (.cells #[.bool false, .slice none 0 0, .string ⟨#[]⟩, .bool false, .slice none 0 0, .bool false] 40)).alloc (by simp) (.cells #[.bool false, .slice none 0 0, .string ⟨#[]⟩, .bool false, .slice none 0 0, .bool false] 40)
        rw [World.size_alloc] at hz2
        rw [hm0] at hz1 hz2 hvb
        obtain ⟨V2, hV2⟩ : ∃ V2, (V.alloc (.cells #[.bool false, .slice none 0 0, .string ⟨#[]⟩, .bool false, .slice none 0 0, .bool false] 40)).alloc (.cells #[.bool false, .slice none 0 0, .string ⟨#[]⟩, .bool false, .slice none 0 0, .bool false] 40) = V2 := ⟨_, rfl⟩
        have hs2 : V2.heap.size = m + 2 := by rw [← hV2]; simp [hm0]
        have gz : z < m := by omega
        have gz1 : z + 1 < m := by omega
        have gg : g < m := by have := World.block_lt_of_cell? V _ h2; rw [hm0] at this; exact this
        have gg' : g' < m := by have := World.block_lt_of_cell? V _ h8; rw [hm0] at this; exact this
        have q0 := cell_up (.cells #[.bool false, .slice none 0 0, .string ⟨#[]⟩, .bool false, .slice none 0 0, .bool false] 40) (cell_up (.cells #[.bool false, .slice none 0 0, .string ⟨#[]⟩, .bool false, .slice none 0 0, .bool false] 40) h0)
        have q1 := cell_up (.cells #[.bool false, .slice none 0 0, .string ⟨#[]⟩, .bool false, .slice none 0 0, .bool false] 40) (cell_up (.cells #[.bool false, .slice none 0 0, .string ⟨#[]⟩, .bool false, .slice none 0 0, .bool false] 40) h1)
        have q2 := cell_up (.cells #[.bool false, .slice none 0 0, .string ⟨#[]⟩, .bool false, .slice none 0 0, .bool false] 40) (cell_up (.cells #[.bool false, .slice none 0 0, .string ⟨#[]⟩, .bool false, .slice none 0 0, .bool false] 40) h2)
        have q3 := cell_up (.cells #[.bool false, .slice none 0 0, .string ⟨#[]⟩, .bool false, .slice none 0 0, .bool false] 40) (cell_up (.cells #[.bool false, .slice none 0 0, .string ⟨#[]⟩, .bool false, .slice none 0 0, .bool false] 40) h3)
        have q4 := cell_up (.cells #[.bool false, .slice none 0 0, .string ⟨#[]⟩, .bool false, .slice none 0 0, .bool false] 40) (cell_up (.cells #[.bool false, .slice none 0 0, .string ⟨#[]⟩, .bool false, .slice none 0 0, .bool false] 40) h4)
        have q5 := cell_up (.cells #[.bool false, .slice none 0 0, .string ⟨#[]⟩, .bool false, .slice none 0 0, .bool false] 40) (cell_up (.cells #[.bool false, .slice none 0 0, .string ⟨#[]⟩, .bool false, .slice none 0 0, .bool false] 40) h5)
        have q6 := cell_up (.cells #[.bool false, .slice none 0 0, .string ⟨#[]⟩, .bool false, .slice none 0 0, .bool false] 40) (cell_up (.cells #[.bool false, .slice none 0 0, .string ⟨#[]⟩, .bool false, .slice none 0 0, .bool false] 40) h6)
        have q7 := cell_up (.cells #[.bool false, .slice none 0 0, .string ⟨#[]⟩, .bool false, .slice none 0 0, .bool false] 40) (cell_up (.cells #[.bool false, .slice none 0 0, .string ⟨#[]⟩, .bool false, .slice none 0 0, .bool false] 40) h7)
        have q8 := cell_up (.cells #[.bool false, .slice none 0 0, .string ⟨#[]⟩, .bool false, .slice none 0 0, .bool false] 40) (cell_up (.cells #[.bool false, .slice none 0 0, .string ⟨#[]⟩, .bool false, .slice none 0 0, .bool false] 40) h8)
        have q9 := cell_up (.cells #[.bool false, .slice none 0 0, .string ⟨#[]⟩, .bool false, .slice none 0 0, .bool false] 40) (cell_up (.cells #[.bool false, .slice none 0 0, .string ⟨#[]⟩, .bool false, .slice none 0 0, .bool false] 40) h9)
        have q10 := cell_up (.cells #[.bool false, .slice none 0 0, .string ⟨#[]⟩, .bool false, .slice none 0 0, .bool false] 40) (cell_up (.cells #[.bool false, .slice none 0 0, .string ⟨#[]⟩, .bool false, .slice none 0 0, .bool false] 40) h10)
        have q11 := cell_up (.cells #[.bool false, .slice none 0 0, .string ⟨#[]⟩, .bool false, .slice none 0 0, .bool false] 40) (cell_up (.cells #[.bool false, .slice none 0 0, .string ⟨#[]⟩, .bool false, .slice none 0 0, .bool false] 40) h11)
        have q12 := cell_up (.cells #[.bool false, .slice none 0 0, .string ⟨#[]⟩, .bool false, .slice none 0 0, .bool false] 40) (cell_up (.cells #[.bool false, .slice none 0 0, .string ⟨#[]⟩, .bool false, .slice none 0 0, .bool false] 40) h12)
        have q13 := cell_up (.cells #[.bool false, .slice none 0 0, .string ⟨#[]⟩, .bool false, .slice none 0 0, .bool false] 40) (cell_up (.cells #[.bool false, .slice none 0 0, .string ⟨#[]⟩, .bool false, .slice none 0 0, .bool false] 40) h13)
        rw [hV2] at hz1 hz2 hvb q0 q1 q2 q3 q4 q5 q6 q7 q8 q9 q10 q11 q12 q13 ⊢
        have HQQ := hide (⟨q0, q1, ⟨q2, q3, q4, q5, q6, q7⟩, q8, q9, q10, q11, q12, q13⟩ : _ ∧ _ ∧ (_ ∧ _ ∧ _ ∧ _ ∧ _ ∧ _) ∧ _ ∧ _ ∧ _ ∧ _ ∧ _ ∧ _)
        have HV2 := hide hvb
        have HZ1 := hide hz1
        have HZ2 := hide hz2
        have k0 := hz1.cell 0
        have k1 := hz1.cell 1
        have k2 := hz1.cell 2
        have k3 := hz1.cell 3
        have k4 := hz1.cell 4
        have k5 := hz1.cell 5
        have l0 := hz1.frozen 0
        have l1 := hz1.frozen 1
        have l2 := hz1.frozen 2
        have l3 := hz1.frozen 3
        have l4 := hz1.frozen 4
        have l5 := hz1.frozen 5
        clear hz1 hz2 hvb hV2 q0 q1 q2 q3 q4 q5 q6 q7 q8 q9 q10 q11 q12 q13 h0 h1 h2 h3 h4 h5 h6 h7 h8 h9 h10 h11 h12 h13
        refine wpAnyK_step (i := 12) (by kernel_rfl) rfl rfl (fun K hK => ?_)
        go_simp
        obtain ⟨q0, q1, ⟨q2, q3, q4, q5, q6, q7⟩, q8, q9, q10, q11, q12, q13⟩ := HQQ.out
        refine hK.out _ _ (fun _ _ => ⟨cell_far q0 (by show z ≠ m; omega) _ _ _ _ _ _, cell_far q1 (by show z + 1 ≠ m; omega) _ _ _ _ _ _, ⟨cell_far q2 (by show g ≠ m; omega) _ _ _ _ _ _, cell_far q3 (by show g ≠ m; omega) _ _ _ _ _ _, cell_far q4 (by show g ≠ m; omega) _ _ _ _ _ _, cell_far q5 (by show g ≠ m; omega) _ _ _ _ _ _, cell_far q6 (by show g ≠ m; omega) _ _ _ _ _ _, cell_far q7 (by show g ≠ m; omega) _ _ _ _ _ _⟩, cell_far q8 (by show g' ≠ m; omega) _ _ _ _ _ _, cell_far q9 (by show g' ≠ m; omega) _ _ _ _ _ _, cell_far q10 (by show g' ≠ m; omega) _ _ _ _ _ _, cell_far q11 (by show g' ≠ m; omega) _ _ _ _ _ _, cell_far q12 (by show g' ≠ m; omega) _ _ _ _ _ _, cell_far q13 (by show g' ≠ m; omega) _ _ _ _ _ _⟩) ?_
        clear hK K q0 q1 q2 q3 q4 q5 q6 q7 q8 q9 q10 q11 q12 q13 k0 k1 k2 k3 k4 k5 l0 l1 l2 l3 l4 l5 HQQ
        simp only [List.setIfInBounds_toArray]
        have hv3 := below_six HV2.out (show m ≤ m by omega) (.bool al) (.slice O on oc) (.string ⟨path.toArray⟩) (.bool wi) (.slice A an ac) (.bool mo)
        have hf3 := blk_six HZ1.out (.bool al) (.slice O on oc) (.string ⟨path.toArray⟩) (.bool wi) (.slice A an ac) (.bool mo)
        have hg3 := blk_six_far HZ2.out (show m + 1 ≠ m by omega) (.bool al) (.slice O on oc) (.string ⟨path.toArray⟩) (.bool wi) (.slice A an ac) (.bool mo)
        obtain ⟨V3, hV3⟩ : ∃ V3, ((((((V2.setCell ⟨m, 0, none⟩ (.bool al)).setCell ⟨m, 1, none⟩ (.slice O on oc)).setCell ⟨m, 2, none⟩ (.string ⟨path.toArray⟩)).setCell ⟨m, 3, none⟩ (.bool wi)).setCell ⟨m, 4, none⟩ (.slice A an ac)).setCell ⟨m, 5, none⟩ (.bool mo)) = V3 := ⟨_, rfl⟩
        have hs3 : V3.heap.size = m + 2 := by rw [← hV3]; simp [hs2]
        rw [hV3] at hv3 hf3 hg3 ⊢
        have HV3 := hide hv3
        have HF3 := hide hf3
        have HG3 := hide hg3
        clear hv3 hf3 hg3 hV3 HV2 HZ1 HZ2 hs2
        have k0 := HG3.out.cell 0
        have k1 := HG3.out.cell 1
        have k2 := HG3.out.cell 2
        have k3 := HG3.out.cell 3
        have k4 := HG3.out.cell 4
        have k5 := HG3.out.cell 5
        have l0 := HG3.out.frozen 0
        have l1 := HG3.out.frozen 1
        have l2 := HG3.out.frozen 2
        have l3 := HG3.out.frozen 3
        have l4 := HG3.out.frozen 4
        have l5 := HG3.out.frozen 5
        refine wpAnyK_step (i := 13) (by kernel_rfl) rfl rfl (fun K hK => ?_)
        go_simp
        refine hK.out _ _ (fun _ h => absurd (by simp) h) ?_
        clear hK K k0 k1 k2 k3 k4 k5 l0 l1 l2 l3 l4 l5
        simp only [List.setIfInBounds_toArray]
        have hv4 := below_six HV3.out (show m ≤ m + 1 by omega) (.bool al) (.slice O' on' oc') (.string ⟨path.toArray⟩) (.bool wi) (.slice A' an' ac') (.bool mo)
        have hf4 := blk_six_far HF3.out (show m ≠ m + 1 by omega) (.bool al) (.slice O' on' oc') (.string ⟨path.toArray⟩) (.bool wi) (.slice A' an' ac') (.bool mo)
        have hg4 := blk_six HG3.out (.bool al) (.slice O' on' oc') (.string ⟨path.toArray⟩) (.bool wi) (.slice A' an' ac') (.bool mo)
        obtain ⟨V4, hV4⟩ : ∃ V4, ((((((V3.setCell ⟨m + 1, 0, none⟩ (.bool al)).setCell ⟨m + 1, 1, none⟩ (.slice O' on' oc')).setCell ⟨m + 1, 2, none⟩ (.string ⟨path.toArray⟩)).setCell ⟨m + 1, 3, none⟩ (.bool wi)).setCell ⟨m + 1, 4, none⟩ (.slice A' an' ac')).setCell ⟨m + 1, 5, none⟩ (.bool mo)) = V4 := ⟨_, rfl⟩
        have hs4 : V4.heap.size = m + 2 := by rw [← hV4]; simp [hs3]
        rw [hV4] at hv4 hf4 hg4 ⊢
        have HV4 := hide hv4
        have HF4 := hide hf4
        have HG4 := hide hg4
        clear hv4 hf4 hg4 hV4 HV3 HF3 HG3 hs3 HH
        refine wpAnyK_done (by kernel_rfl) ?_ _
        (try simp only [Exit.then])
        have HWV := hide (HWD.out.trans (HV4.out.mono (by omega : z + 2 ≤ m)))
        have hra := HRA1.out.1.below (HV4.out.mono (by omega : V.heap.size ≤ m))
        have hrb := HRB1.out.1.below (HV4.out.mono (by omega : V.heap.size ≤ m))
        have hrc := HRA1.out.2.below (HV4.out.mono (by omega : V.heap.size ≤ m))
        have hrd := HRB1.out.2.below (HV4.out.mono (by omega : V.heap.size ≤ m))
        have XN := hide (numbers_eq ops O O' on oc on' oc' V4 (hra.more (by omega)) (hrb.more (by omega)) (by omega))
        have XT := hide (fun W (hB : Below V4.heap.size V4 W) => texts_eq args A A' an ac an' ac' W (((hrc.more (by omega : V.heap.size ≤ V4.heap.size)).below hB).more hB.size) (((hrd.more (by omega : V.heap.size ≤ V4.heap.size)).below hB).more hB.size) (by omega))
        have t0 : (al != al) = false := by simp
        have t1 : (path != path) = false := by simp
        have t2 : (wi != wi) = false := by simp
        have t3 : (mo != mo) = false := by simp
        have k0 := HF4.out.cell 0
        have k1 := HF4.out.cell 1
        have k2 := HF4.out.cell 2
        have k3 := HF4.out.cell 3
        have k4 := HF4.out.cell 4
        have k5 := HF4.out.cell 5
        have l0 := HG4.out.cell 0
        have l1 := HG4.out.cell 1
        have l2 := HG4.out.cell 2
        have l3 := HG4.out.cell 3
        have l4 := HG4.out.cell 4
        have l5 := HG4.out.cell 5
        clear hra hrb hrc hrd HRA1 HRB1 HV4 HWD HZD
        go_wp2_with fail
        refine XN.out.mono ?_
        rintro e V5 ⟨rfl, hb5⟩
        have hf5 := HF4.out.below hb5 (by omega)
        have hg5 := HG4.out.below hb5 (by omega)
        have HWX := hide (HWV.out.trans (hb5.mono (by omega : z + 2 ≤ V4.heap.size)))
        have XT5 := hide (XT.out V5 hb5)
        have hs5 : z + 2 ≤ V5.heap.size := by have := hb5.size; omega
        clear k0 k1 k2 k3 k4 k5 l0 l1 l2 l3 l4 l5 hb5 XN XT HF4 HG4 HWV
        have k4 := hf5.cell 4
        have l4 := hg5.cell 4
        clear hf5 hg5
        go_wp2_with fail
        refine XT5.out.mono ?_
        rintro e V6 ⟨rfl, hb6⟩
        have HWY := hide (HWX.out.trans (hb6.mono hs5))
        clear k4 l4 hb6 XT5 HWX t0 t1 t2 t3
        go_wp2_with fail
        go_roundw
        case rel => exact ⟨i + 1, by omega, by go_num, HWY⟩
        case measure => simp [intOf]; omega
      · go_simp
        refine hK.out _ _ (fun _ _ => ⟨cell_up _ h0, cell_up _ h1, ⟨cell_up _ h2, cell_up _ h3, cell_up _ h4, cell_up _ h5, cell_up _ h6, cell_up _ h7⟩, cell_up _ h8, cell_up _ h9, cell_up _ h10, cell_up _ h11, cell_up _ h12, cell_up _ h13⟩) ?_
        clear hK K
        simp only [List.setIfInBounds_toArray]
        refine wpAnyK_step (i := 10) (by kernel_rfl) rfl rfl (fun K hK => ?_)
        go_simp
        refine hK.out _ _ (fun _ _ => ⟨cell_up _ (cell_up _ h0), cell_up _ (cell_up _ h1), ⟨cell_up _ (cell_up _ h2), cell_up _ (cell_up _ h3), cell_up _ (cell_up _ h4), cell_up _ (cell_up _ h5), cell_up _ (cell_up _ h6), cell_up _ (cell_up _ h7)⟩, cell_up _ (cell_up _ h8), cell_up _ (cell_up _ h9), cell_up _ (cell_up _ h10), cell_up _ (cell_up _ h11), cell_up _ (cell_up _ h12), cell_up _ (cell_up _ h13)⟩) ?_
        clear hK K
        simp only [List.setIfInBounds_toArray]
        have hz1 := (Blk.new V 40 #[.bool false, .slice none 0 0, .string ⟨#[]⟩, .bool false, .slice none 0 0, .bool false]).alloc (.cells #[.bool false, .slice none 0 0, .string ⟨#[]⟩, .bool false, .slice none 0 0, .bool false] 40)
        have hz2 := Blk.new (V.alloc (.cells #[.bool false, .slice none 0 0, .string ⟨#[]⟩, .bool false, .slice none 0 0, .bool false] 40)) 40 #[.bool false, .slice none 0 0, .string ⟨#[]⟩, .bool false, .slice none 0 0, .bool false]
        have hvb := ((Below.refl V.heap.size V).alloc (Nat.le_refl _) (.cells #[.bool false, .slice none 0 0, .string ⟨#[]⟩, .bool false, .slice none 0 0, .bool false] 40)).alloc (by simp) (.cells #[.bool false, .slice none 0 0, .string ⟨#[]⟩, .bool false, .slice none 0 0, .bool false] 40)
        rw [World.size_alloc] at hz2
        rw [hm0] at hz1 hz2 hvb
        obtain ⟨V2, hV2⟩ : ∃ V2, (V.alloc (.cells #[.bool false, .slice none 0 0, .string ⟨#[]⟩, .bool false, .slice none 0 0, .bool false] 40)).alloc (.cells #[.bool false, .slice none 0 0, .string ⟨#[]⟩, .bool false, .slice none 0 0, .bool false] 40) = V2 := ⟨_, rfl⟩
        have hs2 : V2.heap.size = m + 2 := by rw [← hV2]; simp [hm0]
        have gz : z < m := by omega
        have gz1 : z + 1 < m := by omega
        have gg : g < m := by have := World.block_lt_of_cell? V _ h2; rw [hm0] at this; exact this
        have gg' : g' < m := by have := World.block_lt_of_cell? V _ h8; rw [hm0] at this; exact this
        have q0 := cell_up (.cells #[.bool false, .slice none 0 0, .string ⟨#[]⟩, .bool false, .slice none 0 0, .bool false] 40) (cell_up (.cells #[.bool false, .slice none 0 0, .string ⟨#[]⟩, .bool false, .slice none 0 0, .bool false] 40) h0)
        have q1 := cell_up (.cells #[.bool false, .slice none 0 0, .string ⟨#[]⟩, .bool false, .slice none 0 0, .bool false] 40) (cell_up (.cells #[.bool false, .slice none 0 0, .string ⟨#[]⟩, .bool false, .slice none 0 0, .bool false] 40) h1)
        have q2 := cell_up (.cells #[.bool false, .slice none 0 0, .string ⟨#[]⟩, .bool false, .slice none 0 0, .bool false] 40) (cell_up (.cells #[.bool false, .slice none 0 0, .string ⟨#[]⟩, .bool false, .slice none 0 0, .bool false] 40) h2)
        have q3 := cell_up (.cells #[.bool false, .slice none 0 0, .string ⟨#[]⟩, .bool false, .slice none 0 0, .bool false] 40) (cell_up (.cells #[.bool false, .slice none 0 0, .string ⟨#[]⟩, .bool false, .slice none 0 0, .bool false] 40) h3)
        have q4 := cell_up (.cells #[.bool false, .slice none 0 0, .string ⟨#[]⟩, .bool false, .slice none 0 0, .bool false] 40) (cell_up (.cells #[.bool false, .slice none 0 0, .string ⟨#[]⟩, .bool false, .slice none 0 0, .bool false] 40) h4)
        have q5 := cell_up (.cells #[.bool false, .slice none 0 0, .string ⟨#[]⟩, .bool false, .slice none 0 0, .bool false] 40) (cell_up (.cells #[.bool false, .slice none 0 0, .string ⟨#[]⟩, .bool false, .slice none 0 0, .bool false] 40) h5)
        have q6 := cell_up (.cells #[.bool false, .slice none 0 0, .string ⟨#[]⟩, .bool false, .slice none 0 0, .bool false] 40) (cell_up (.cells #[.bool false, .slice none 0 0, .string ⟨#[]⟩, .bool false, .slice none 0 0, .bool false] 40) h6)
        have q7 := cell_up (.cells #[.bool false, .slice none 0 0, .string ⟨#[]⟩, .bool false, .slice none 0 0, .bool false] 40) (cell_up (.cells #[.bool false, .slice none 0 0, .string ⟨#[]⟩, .bool false, .slice none 0 0, .bool false] 40) h7)
        have q8 := cell_up (.cells #[.bool false, .slice none 0 0, .string ⟨#[]⟩, .bool false, .slice none 0 0, .bool false] 40) (cell_up (.cells #[.bool false, .slice none 0 0, .string ⟨#[]⟩, .bool false, .slice none 0 0, .bool false] 40) h8)
        have q9 := cell_up (.cells #[.bool false, .slice none 0 0, .string ⟨#[]⟩, .bool false, .slice none 0 0, .bool false] 40) (cell_up (.cells #[.bool false, .slice none 0 0, .string ⟨#[]⟩, .bool false, .slice none 0 0, .bool false] 40) h9)
        have q10 := cell_up (.cells #[.bool false, .slice none 0 0, .string ⟨#[]⟩, .bool false, .slice none 0 0, .bool false] 40) (cell_up (.cells #[.bool false, .slice none 0 0, .string ⟨#[]⟩, .bool false, .slice none 0 0, .bool false] 40) h10)
        have q11 := cell_up (.cells #[.bool false, .slice none 0 0, .string ⟨#[]⟩, .bool false, .slice none 0 0, .bool false] 40) (cell_up (.cells #[.bool false, .slice none 0 0, .string ⟨#[]⟩, .bool false, .slice none 0 0, .bool false] 40) h11)
        have q12 := cell_up (.cells #[.bool false, .slice none 0 0, .string ⟨#[]⟩, .bool false, .slice none 0 0, .bool false] 40) (cell_up (.cells #[.bool false, .slice none 0 0, .string ⟨#[]⟩, .bool false, .slice none 0 0, .bool false] 40) h12)
        have q13 := cell_up (.cells #[.bool false, .slice none 0 0, .string ⟨#[]⟩, .bool false, .slice none 0 0, .bool false] 40) (cell_up (.cells #[.bool false, .slice none 0 0, .string ⟨#[]⟩, .bool false, .slice none 0 0, .bool false] 40) h13)
        rw [hV2] at hz1 hz2 hvb q0 q1 q2 q3 q4 q5 q6 q7 q8 q9 q10 q11 q12 q13 ⊢
        have HQQ := hide (⟨q0, q1, ⟨q2, q3, q4, q5, q6, q7⟩, q8, q9, q10, q11, q12, q13⟩ : _ ∧ _ ∧ (_ ∧ _ ∧ _ ∧ _ ∧ _ ∧ _) ∧ _ ∧ _ ∧ _ ∧ _ ∧ _ ∧ _)
        have HV2 := hide hvb
        have HZ1 := hide hz1
        have HZ2 := hide hz2
        have k0 := hz2.cell 0
        have k1 := hz2.cell 1
        have k2 := hz2.cell 2
        have k3 := hz2.cell 3
        have k4 := hz2.cell 4
        have k5 := hz2.cell 5
        have l0 := hz2.frozen 0
        have l1 := hz2.frozen 1
        have l2 := hz2.frozen 2
        have l3 := hz2.frozen 3
        have l4 := hz2.frozen 4
        have l5 := hz2.frozen 5
        clear hz1 hz2 hvb hV2 q0 q1 q2 q3 q4 q5 q6 q7 q8 q9 q10 q11 q12 q13 h0 h1 h2 h3 h4 h5 h6 h7 h8 h9 h10 h11 h12 h13
        refine wpAnyK_step (i := 12) (by kernel_rfl) rfl rfl (fun K hK => ?_)
        go_simp
        obtain ⟨q0, q1, ⟨q2, q3, q4, q5, q6, q7⟩, q8, q9, q10, q11, q12, q13⟩ := HQQ.out
        refine hK.out _ _ (fun _ _ => ⟨cell_far q0 (by show z ≠ m + 1; omega) _ _ _ _ _ _, cell_far q1 (by show z + 1 ≠ m + 1; omega) _ _ _ _ _ _, ⟨cell_far q2 (by show g ≠ m + 1; omega) _ _ _ _ _ _, cell_far q3 (by show g ≠ m + 1; omega) _ _ _ _ _ _, cell_far q4 (by show g ≠ m + 1; omega) _ _ _ _ _ _, cell_far q5 (by show g ≠ m + 1; omega) _ _ _ _ _ _, cell_far q6 (by show g ≠ m + 1; omega) _ _ _ _ _ _, cell_far q7 (by show g ≠ m + 1; omega) _ _ _ _ _ _⟩, cell_far q8 (by show g' ≠ m + 1; omega) _ _ _ _ _ _, cell_far q9 (by show g' ≠ m + 1; omega) _ _ _ _ _ _, cell_far q10 (by show g' ≠ m + 1; omega) _ _ _ _ _ _, cell_far q11 (by show g' ≠ m + 1; omega) _ _ _ _ _ _, cell_far q12 (by show g' ≠ m + 1; omega) _ _ _ _ _ _, cell_far q13 (by show g' ≠ m + 1; omega) _ _ _ _ _ _⟩) ?_
        clear hK K q0 q1 q2 q3 q4 q5 q6 q7 q8 q9 q10 q11 q12 q13 k0 k1 k2 k3 k4 k5 l0 l1 l2 l3 l4 l5 HQQ
        simp only [List.setIfInBounds_toArray]
        have hv3 := below_six HV2.out (show m ≤ m + 1 by omega) (.bool al) (.slice O on oc) (.string ⟨path.toArray⟩) (.bool wi) (.slice A an ac) (.bool mo)
        have hf3 := blk_six HZ2.out (.bool al) (.slice O on oc) (.string ⟨path.toArray⟩) (.bool wi) (.slice A an ac) (.bool mo)
        have hg3 := blk_six_far HZ1.out (show m ≠ m + 1 by omega) (.bool al) (.slice O on oc) (.string ⟨path.toArray⟩) (.bool wi) (.slice A an ac) (.bool mo)
        obtain ⟨V3, hV3⟩ : ∃ V3, ((((((V2.setCell ⟨m + 1, 0, none⟩ (.bool al)).setCell ⟨m + 1, 1, none⟩ (.slice O on oc)).setCell ⟨m + 1, 2, none⟩ (.string ⟨path.toArray⟩)).setCell ⟨m + 1, 3, none⟩ (.bool wi)).setCell ⟨m + 1, 4, none⟩ (.slice A an ac)).setCell ⟨m + 1, 5, none⟩ (.bool mo)) = V3 := ⟨_, rfl⟩
        have hs3 : V3.heap.size = m + 2 := by rw [← hV3]; simp [hs2]
        rw [hV3] at hv3 hf3 hg3 ⊢
        have HV3 := hide hv3
        have HF3 := hide hf3
        have HG3 := hide hg3
        clear hv3 hf3 hg3 hV3 HV2 HZ1 HZ2 hs2
        have k0 := HG3.out.cell 0
        have k1 := HG3.out.cell 1
        have k2 := HG3.out.cell 2
        have k3 := HG3.out.cell 3
        have k4 := HG3.out.cell 4
        have k5 := HG3.out.cell 5
        have l0 := HG3.out.frozen 0
        have l1 := HG3.out.frozen 1
        have l2 := HG3.out.frozen 2
        have l3 := HG3.out.frozen 3
        have l4 := HG3.out.frozen 4
        have l5 := HG3.out.frozen 5
        refine wpAnyK_step (i := 13) (by kernel_rfl) rfl rfl (fun K hK => ?_)
        go_simp
        refine hK.out _ _ (fun _ h => absurd (by simp) h) ?_
        clear hK K k0 k1 k2 k3 k4 k5 l0 l1 l2 l3 l4 l5
        simp only [List.setIfInBounds_toArray]
        have hv4 := below_six HV3.out (show m ≤ m by omega) (.bool al) (.slice O' on' oc') (.string ⟨path.toArray⟩) (.bool wi) (.slice A' an' ac') (.bool mo)
        have hf4 := blk_six_far HF3.out (show m + 1 ≠ m by omega) (.bool al) (.slice O' on' oc') (.string ⟨path.toArray⟩) (.bool wi) (.slice A' an' ac') (.bool mo)
        have hg4 := blk_six HG3.out (.bool al) (.slice O' on' oc') (.string ⟨path.toArray⟩) (.bool wi) (.slice A' an' ac') (.bool mo)
        obtain ⟨V4, hV4⟩ : ∃ V4, ((((((V3.setCell ⟨m, 0, none⟩ (.bool al)).setCell ⟨m, 1, none⟩ (.slice O' on' oc')).setCell ⟨m, 2, none⟩ (.string ⟨path.toArray⟩)).setCell ⟨m, 3, none⟩ (.bool wi)).setCell ⟨m, 4, none⟩ (.slice A' an' ac')).setCell ⟨m, 5, none⟩ (.bool mo)) = V4 := ⟨_, rfl⟩
        have hs4 : V4.heap.size = m + 2 := by rw [← hV4]; simp [hs3]
        rw [hV4] at hv4 hf4 hg4 ⊢
        have HV4 := hide hv4
        have HF4 := hide hf4
        have HG4 := hide hg4
        clear hv4 hf4 hg4 hV4 HV3 HF3 HG3 hs3 HH
        refine wpAnyK_done (by kernel_rfl) ?_ _
        (try simp only [Exit.then])
        have HWV := hide (HWD.out.trans (HV4.out.mono (by omega : z + 2 ≤ m)))
        have hra := HRA1.out.1.below (HV4.out.mono (by omega : V.heap.size ≤ m))
        have hrb := HRB1.out.1.below (HV4.out.mono (by omega : V.heap.size ≤ m))
        have hrc := HRA1.out.2.below (HV4.out.mono (by omega : V.heap.size ≤ m))
        have hrd := HRB1.out.2.below (HV4.out.mono (by omega : V.heap.size ≤ m))
        have XN := hide (numbers_eq ops O O' on oc on' oc' V4 (hra.more (by omega)) (hrb.more (by omega)) (by omega))
        have XT := hide (fun W (hB : Below V4.heap.size V4 W) => texts_eq args A A' an ac an' ac' W (((hrc.more (by omega : V.heap.size ≤ V4.heap.size)).below hB).more hB.size) (((hrd.more (by omega : V.heap.size ≤ V4.heap.size)).below hB).more hB.size) (by omega))
        have t0 : (al != al) = false := by simp
        have t1 : (path != path) = false := by simp
        have t2 : (wi != wi) = false := by simp
        have t3 : (mo != mo) = false := by simp
        have k0 := HF4.out.cell 0
        have k1 := HF4.out.cell 1
        have k2 := HF4.out.cell 2
        have k3 := HF4.out.cell 3
        have k4 := HF4.out.cell 4
        have k5 := HF4.out.cell 5
        have l0 := HG4.out.cell 0
        have l1 := HG4.out.cell 1
        have l2 := HG4.out.cell 2
        have l3 := HG4.out.cell 3
        have l4 := HG4.out.cell 4
        have l5 := HG4.out.cell 5
        clear hra hrb hrc hrd HRA1 HRB1 HV4 HWD HZD
        go_wp2_with fail
        refine XN.out.mono ?_
        rintro e V5 ⟨rfl, hb5⟩
        have hf5 := HF4.out.below hb5 (by omega)
        have hg5 := HG4.out.below hb5 (by omega)
        have HWX := hide (HWV.out.trans (hb5.mono (by omega : z + 2 ≤ V4.heap.size)))
        have XT5 := hide (XT.out V5 hb5)
        have hs5 : z + 2 ≤ V5.heap.size := by have := hb5.size; omega
        clear k0 k1 k2 k3 k4 k5 l0 l1 l2 l3 l4 l5 hb5 XN XT HF4 HG4 HWV
        have k4 := hf5.cell 4
        have l4 := hg5.cell 4
        clear hf5 hg5
        go_wp2_with fail
        refine XT5.out.mono ?_
        rintro e V6 ⟨rfl, hb6⟩
        have HWY := hide (HWX.out.trans (hb6.mono hs5))
        clear k4 l4 hb6 XT5 HWX t0 t1 t2 t3
        go_wp2_with fail
        go_roundw
        case rel => exact ⟨i + 1, by omega, by go_num, HWY⟩
        case measure => simp [intOf]; omega
    · obtain rfl : i = rm := by omega
      have hlt' : ¬ (i : Int) < (i : Int) := by omega
      simp only [List.getElem?_toArray, List.getElem?_cons_succ, List.getElem?_cons_zero] at ca1
      clear hka hkb hpw hqw
      go_wp2_with fail
      clear ca1 hlt hlt'
      go_loopw [8] (fun u8 wx => ∃ k : Nat, k ≤ em ∧ u8 = .int .i64 k ∧ Hid (Below (z + 2) W0 wx)) (fun u8 _ => em - (intOf u8).toNat)
      case atStart => exact ⟨0, Nat.zero_le _, rfl, HBW⟩
      case round =>
        clear HBW HZ hsx
        obtain ⟨k, hkn, rfl, HBX⟩ := hrel
        have hsx := HBX.out.size
        have hka := HK1.out.below HBX.out (by omega)
        have hkb := HK2.out.below HBX.out (by omega)
        have HZ := hide (HB.out.trans (HBX.out.mono (by omega : z ≤ z + 2)))
        have hpw := HP.out.below (by rw [hz]; exact HZ.out)
        have hqw := HQ.out.below (by rw [hz]; exact HZ.out)
        have ca2 := hka.cell 2
        have cb2 := hkb.cell 2
        simp only [List.getElem?_toArray, List.getElem?_cons_succ, List.getElem?_cons_zero] at ca2 cb2
        by_cases hlt : k < em
        · obtain ⟨x, hx⟩ : ∃ x, pe[k]? = some x := ⟨_, List.getElem?_eq_getElem (by omega)⟩
          obtain ⟨g, o, hAe, hg, hc⟩ := en_cells hpw.env hx
          obtain ⟨g', o', hBe, hg', hc'⟩ := en_cells hqw.env hx
          dsimp only at hAe hBe
          subst hAe
          subst hBe
          have r0 : wr.cell? ⟨g, o + k * 3, none⟩ = some (.int .i64 x.k) := hc 0 _ rfl
          have r1 : wr.cell? ⟨g, o + k * 3 + 1, none⟩ = some (.string ⟨x.pat.toArray⟩) := hc 1 _ rfl
          have r2 : wr.cell? ⟨g, o + k * 3 + 2, none⟩ = some (.string ⟨x.val.toArray⟩) := hc 2 _ rfl
          have s0 : wr.cell? ⟨g', o' + k * 3, none⟩ = some (.int .i64 x.k) := hc' 0 _ rfl
          have s1 : wr.cell? ⟨g', o' + k * 3 + 1, none⟩ = some (.string ⟨x.pat.toArray⟩) := hc' 1 _ rfl
          have s2 : wr.cell? ⟨g', o' + k * 3 + 2, none⟩ = some (.string ⟨x.val.toArray⟩) := hc' 2 _ rfl
          have hia := fun W => en_at g o em ec k (k : Int) rfl hlt W
          have hib := fun W => en_at g' o' em ed k (k : Int) rfl hlt W
          have hlt' : (k : Int) < (em : Int) := by omega
          have kw : IntKind.i64.wrap ((k : Int) + 1) = (k : Int) + 1 := by simp [IntKind.wrap, IntKind.bits, IntKind.signed]; omega
          have hgt : Tryz.prog.eqGuardType Tryz.prog.depth 42 = false := by kernel_rfl
          have hq := neq_en x x
          rw [(eqE_iff x x).2 rfl] at hq
          have hq' : ∀ W, (binOp .neq 42 (.agg #[.int .i64 x.k, .string ⟨x.pat.toArray⟩, .string ⟨x.val.toArray⟩]) (.agg #[.int .i64 x.k, .string ⟨x.pat.toArray⟩, .string ⟨x.val.toArray⟩])).run Tryz.prog W = .ok (.bool false) W := hq
          clear hc hc' hx hpw hqw hka hkb hq hg hg'
          go_wp2_with fail
          go_quiet (fail)
          have HB2 := hide (below_drewN HBX.out nq)
          clear r0 r1 r2 s0 s1 s2 hq' hia hib ca2 cb2 HBX HZ
          generalize wr.drewN nq = wq at *
          go_wp2_with fail
          go_roundw
          case rel => exact ⟨k + 1, by omega, by go_num, HB2⟩
          case measure => simp [intOf]; omega
        · obtain rfl : k = em := by omega
          have hlt' : ¬ (k : Int) < (k : Int) := by omega
          clear hpw hqw hka hkb cb2
          go_wp2_with fail
          go_ret
          exact ⟨rfl, HZ.out⟩
end Go.Proofs.YthbackkcamgidaaGreatDoor
namespace Go.Proofs.YthbackkcamgidaaGreatDoor
open Go Go.RowKit
set_option linter.unusedVariables false
theorem ix_str (l : LB) (i : Nat) (c : UInt8) (hc : l[i]? = some c) (W : World) : (Instr.index 9 (.string ⟨l.toArray⟩) (.int .i64 (i : Int))).run Tryz.prog W = .ok (.int .u8 (c.toNat : Int)) W := by
  obtain ⟨hi, he⟩ := List.getElem?_eq_some_iff.1 hc
  rw [run_index_string (P := Tryz.prog) W 9 _ .i64 (i : Int) Tryz.underlying9, dif_pos ⟨by omega, by show (i : Int) < ((l.length : Nat) : Int); omega⟩]
  simp only [Int.toNat_natCast]
  rw [← he]
  rfl
theorem parsed_lo {s : LB} : Lo (parse0 s).1 := by
  rcases run_num (rowsU s) 0 p0 true with h | ⟨_, _, h⟩
  · exact (parsed_right (s := s) (q := (parse0 s).1) (Prod.ext rfl h)).lo
  · have : (parse0 s).1 = pz := h
    rw [this]
    exact ⟨by decide, by decide, fun r hr => by cases hr⟩
set_option maxRecDepth 100000 in
set_option maxHeartbeats 16000000 in
theorem remarks_b (s r : LB) (w : World) (hS : StdR w) : Calls Tryz.prog 7 #[.string ⟨s.toArray⟩, .string ⟨r.toArray⟩] w fun e w' => e = .returned (.bool true) ∧ Below w.heap.size w w' := by
  have XH := hide (fun W h => heads_any W h)
  have HS := hide hS
  clear hS
  go_enter Tryz.func7, Tryz.ntmps7
  by_cases h1 : 4000 < s.length
  · have g1 : (4000 : Int) < (s.length : Int) := by omega
    go_wp2_with fail
    refine (XH.out w HS.out).mono ?_
    rintro e w1 ⟨rfl, hb⟩
    go_wp2_with fail
    go_ret
    exact ⟨rfl, hb⟩
  have g1 : decide ((4000 : Int) < (s.length : Int)) = false := decide_eq_false (by omega)
  by_cases h2 : 100 < r.length
  · have g2 : (100 : Int) < (r.length : Int) := by omega
    go_wp2_with fail
    refine (XH.out w HS.out).mono ?_
    rintro e w1 ⟨rfl, hb⟩
    go_wp2_with fail
    go_ret
    exact ⟨rfl, hb⟩
  have g2 : decide ((100 : Int) < (r.length : Int)) = false := decide_eq_false (by omega)
  go_wp2_with fail
  go_loopw [5] (fun u5 wx => ∃ i : Nat, i ≤ r.length ∧ u5 = .int .i64 i ∧ wx = w ∧ Hid (∀ j, j < i → r[j]? ≠ some 10)) (fun u5 _ => r.length - (intOf u5).toNat)
  case atStart => exact ⟨0, Nat.zero_le _, rfl, rfl, hide (fun j h => absurd h (by omega))⟩
  case round =>
    obtain ⟨i, hin, rfl, rfl, HN⟩ := hrel
    by_cases hlt : i < r.length
    · obtain ⟨c, hc⟩ : ∃ c, r[i]? = some c := ⟨_, List.getElem?_eq_getElem hlt⟩
      have hix := ix_str r i c hc
      have hlt' : (i : Int) < (r.length : Int) := by omega
      have kw : IntKind.i64.wrap ((i : Int) + 1) = (i : Int) + 1 := by simp [IntKind.wrap, IntKind.bits, IntKind.signed]; omega
      by_cases h10 : c = 10
      · subst h10
        have hix' : ∀ W, (Instr.index 9 (.string ⟨r.toArray⟩) (.int .i64 (i : Int))).run Tryz.prog W = .ok (.int .u8 10) W := hix
        clear hix hc
        go_wp2_with fail
        refine (XH.out _ HS.out).mono ?_
        rintro e w1 ⟨rfl, hb⟩
        go_wp2_with fail
        go_ret
        exact ⟨rfl, hb⟩
      · have k10 : ((c.toNat : Int) == 10) = false := beq_eq_false_iff_ne.2 (fun h => h10 (by
          apply UInt8.toNat_inj.1
          show c.toNat = 10
          omega))
        have HN2 : Hid (∀ j, j < i + 1 → r[j]? ≠ some 10) := hide (fun j hj => by
          rcases Nat.lt_or_ge j i with h | h
          · exact HN.out j h
          · obtain rfl : j = i := by omega
            rw [hc]
            intro h
            injection h with h
            exact h10 h)
        clear hc h10
        go_wp2_with fail
        go_roundw
        case rel => exact ⟨i + 1, by omega, by go_num, (by first | rfl | trivial), HN2⟩
        case measure => simp [intOf]; omega
    · obtain rfl : i = r.length := by omega
      have hlt' : ¬ (r.length : Int) < (r.length : Int) := by omega
      have hr : (10 : UInt8) ∉ r := fun h => by
        obtain ⟨k, hk, e⟩ := List.getElem_of_mem h
        exact HN.out k hk (by rw [List.getElem?_eq_getElem hk, e])
      obtain ⟨t, ht⟩ : ∃ t : LB, (35 :: r ++ 10 :: (32 :: 9 :: 10 :: (s ++ 32 :: 35 :: r ++ 10 :: []))) = t := ⟨_, rfl⟩
      have hP := parse_remarks s r hr
      rw [ht] at hP
      have htl : t.length ≤ 8192 := by rw [← ht]; simp; omega
      have e1 : parseU s = parse0 s := by unfold parseU; rw [if_neg (by omega)]
      have e2 : parseU t = parse0 t := by unfold parseU; rw [if_neg (by omega)]
      have hlo : Lo (parse0 s).1 := parsed_lo
      have hnb : (parse0 s).2 ≤ 4001 := by
        have h1 := splitC_le 10 s
        have h2 : (rowsU s).length = (splitC 10 s).length := by unfold rowsU linesU; rw [List.length_map]
        rcases run_num (rowsU s) 0 p0 true with h | ⟨_, h, _⟩
        · have : (parse0 s).2 = 0 := h
          omega
        · have : (parse0 s).2 ≤ 0 + (rowsU s).length := h
          omega
      have X1 := hide (fun W h => Parse_any s (by omega) W h)
      have X2 := hide (fun W h => Parse_any t (by omega) W h)
      rw [e1] at X1
      rw [e2, hP] at X2
      have HC : Hid (((((((⟨#[35]⟩ : ByteArray) ++ ⟨r.toArray⟩) ++ ⟨#[10, 32, 9, 10]⟩) ++ ⟨s.toArray⟩) ++ ⟨#[32, 35]⟩) ++ ⟨r.toArray⟩) ++ ⟨#[10]⟩ = ⟨t.toArray⟩) := hide (by
        rw [← ht]; apply ByteArray.ext; simp)
      obtain ⟨R, hR⟩ : ∃ R, parse0 s = R := ⟨_, rfl⟩
      rw [hR] at X1 X2 hlo hnb
      obtain ⟨P, n⟩ := R
      dsimp only at X1 X2 hlo hnb
      have HLO := hide hlo
      have hza : ¬ 9223372036854775807 < 1 + r.length := by omega
      have hzb : ¬ 9223372036854775807 < 1 + r.length + 4 := by omega
      have hzc : ¬ 9223372036854775807 < 1 + r.length + 4 + s.length := by omega
      have hzd : ¬ 9223372036854775807 < 1 + r.length + 4 + s.length + 2 := by omega
      have hze : ¬ 9223372036854775807 < 1 + r.length + 4 + s.length + 2 + r.length := by omega
      have hzf : ¬ 9223372036854775807 < 1 + r.length + 4 + s.length + 2 + r.length + 1 := by omega
      clear hr hP htl e1 e2 hlo hR HN ht
      go_wp2_with fail
      refine (X1.out _ HS.out).mono ?_
      rintro e w1 ⟨hb1, s1, rfl, hpo⟩
      obtain ⟨RA, rn, rc, L, EA, en, ec⟩ := s1
      unfold polV
      dsimp only
      have hba := hb1.trans ((Below.refl wr.heap.size w1).alloc hb1.size (.cells #[.string ⟨P.root.toArray⟩, .slice RA rn rc, .slice EA en ec] 26))
      have hbx := (Below.refl w1.heap.size w1).alloc (Nat.le_refl _) (.cells #[.string ⟨P.root.toArray⟩, .slice RA rn rc, .slice EA en ec] 26)
      have HB1 := hide hba
      have HP1 := hide (hpo.r.below hbx)
      have HK1 := hide (Blk.new w1 26 #[.string ⟨P.root.toArray⟩, .slice RA rn rc, .slice EA en ec])
      have HS1 := hide (HS.out.below hba)
      have hg1 : w1.heap.size < (w1.alloc (.cells #[.string ⟨P.root.toArray⟩, .slice RA rn rc, .slice EA en ec] 26)).heap.size := by simp
      have hz1 : wr.heap.size ≤ (w1.alloc (.cells #[.string ⟨P.root.toArray⟩, .slice RA rn rc, .slice EA en ec] 26)).heap.size := hba.size
      obtain ⟨z, hz⟩ : ∃ z, wr.heap.size = z := ⟨_, rfl⟩
      rw [hz] at HB1 hz1
      clear hb1 hpo hba hbx X1
      generalize hgA : w1.heap.size = g at *
      go_wp2_with fail
      obtain ⟨W1, hW1⟩ : ∃ W, w1.alloc (.cells #[.string ⟨P.root.toArray⟩, .slice RA rn rc, .slice EA en ec] 26) = W := ⟨_, rfl⟩
      rw [hW1] at HB1 HP1 HK1 HS1 hg1 hz1 ⊢
      clear hW1 hgA
      rw [HC.out]
      refine (X2.out W1 HS1.out).mono ?_
      rintro e w2 ⟨hb2, ⟨RB, rm, rd, L', EB, em, ed⟩, rfl, hpo2⟩
      unfold polV
      dsimp only
      have hba := hb2.trans ((Below.refl W1.heap.size w2).alloc hb2.size (.cells #[.string ⟨P.root.toArray⟩, .slice RB rm rd, .slice EB em ed] 26))
      have hbx := (Below.refl w2.heap.size w2).alloc (Nat.le_refl _) (.cells #[.string ⟨P.root.toArray⟩, .slice RB rm rd, .slice EB em ed] 26)
      have HB2 := hide (HB1.out.trans (hba.mono hz1))
      have HP2 := hide (HP1.out.below hba)
      have HQ2 := hide (hpo2.r.below hbx)
      have hk2 := HK1.out.below hba hg1
      have hl2 := Blk.new w2 26 #[.string ⟨P.root.toArray⟩, .slice RB rm rd, .slice EB em ed]
      have HS2 := hide (HS1.out.below hba)
      have XS := hide (rsame_any P _ _ _ HP2.out HQ2.out HLO.out)
      unfold polV at XS
      dsimp only at XS
      have c0 := hk2.cell 0
      have c1 := hk2.cell 1
      have c2 := hk2.cell 2
      clear hb2 hpo2 hba hbx hk2 hl2 X2 HB1 HP1 HK1 HS1 hg1 HC HP2 HQ2
      by_cases hn : n = 0
      · subst hn
        have hz2 : z ≤ (w2.alloc (.cells #[.string ⟨P.root.toArray⟩, .slice RB rm rd, .slice EB em ed] 26)).heap.size := hz ▸ HB2.out.size
        simp only [if_true, Int.natCast_zero]
        go_wp2_with fail
        refine XS.out.mono ?_
        rintro e w3 ⟨rfl, hb3⟩
        have HB3 := hide (HB2.out.trans (hb3.mono hz2))
        have HS3 := hide (HS2.out.below hb3)
        clear hb3 XS c0 c1 c2
        go_wp2_with fail
        refine (XH.out w3 HS3.out).mono ?_
        rintro e w4 ⟨rfl, hb4⟩
        have HB4 := hide (HB3.out.trans (hb4.mono (by have := HB3.out.size; omega)))
        go_wp2_with fail
        go_ret
        first | exact ⟨rfl, by rw [hz]; exact HB4.out⟩ | exact ⟨rfl, HB4.out⟩
      · have hz2 : z ≤ (w2.alloc (.cells #[.string ⟨P.root.toArray⟩, .slice RB rm rd, .slice EB em ed] 26)).heap.size := hz ▸ HB2.out.size
        rw [if_neg hn]
        have k0 : ((n : Int) != 0) = true := by simp; omega
        have k1 : IntKind.i64.wrap ((n : Int) + 2) = (n : Int) + 2 := by simp [IntKind.wrap, IntKind.bits, IntKind.signed]; omega
        have k2 : (((n + 2 : Nat) : Int) == (n : Int) + 2) = true := by simp
        have k3 : ((n : Int) + 2 == (n : Int) + 2) = true := by simp
        clear hn XS c0 c1 c2
        go_wp2_with fail
        refine (XH.out _ HS2.out).mono ?_
        rintro e w4 ⟨rfl, hb4⟩
        have HB4 := hide (HB2.out.trans (hb4.mono (by omega)))
        go_wp2_with fail
        go_ret
        first | exact ⟨rfl, by rw [hz]; exact HB4.out⟩ | exact ⟨rfl, HB4.out⟩
end Go.Proofs.YthbackkcamgidaaGreatDoor
namespace Go.Proofs.YthbackkcamgidaaGreatDoor
open Go Go.RowKit
set_option linter.unusedVariables false
def cnt10 (s : LB) : Nat := (s.filter fun c => c == 10).length
theorem split_cnt : ∀ s : LB, (splitC 10 s).length = cnt10 s + 1
  | [] => by rw [splitC]; rfl
  | x :: r => by
    have ih := split_cnt r
    by_cases hx : x = 10
    · subst hx
      rw [splitC, if_pos rfl, List.length_cons, ih]
      simp [cnt10]
    · rw [splitC_tail 10 x r hx, ih]
      simp [cnt10, hx]
theorem cnt_take {s : LB} {i : Nat} {c : UInt8} (h : s[i]? = some c) : cnt10 (s.take (i + 1)) = cnt10 (s.take i) + (if c = 10 then 1 else 0) := by
  rw [take_snoc' h]
  unfold cnt10
  rw [List.filter_append, List.length_append]
  congr 1
  by_cases hc : c = 10
  · subst hc; rfl
  · rw [if_neg hc]; simp [hc]
theorem cnt_le (s : LB) : cnt10 s ≤ s.length := List.length_filter_le _ _
theorem one_num (s : LB) (h : (parseU s).2 ≠ 0) : 1 ≤ (parseU s).2 ∧ (parseU s).2 ≤ 1 + cnt10 s ∧ (parseU s).1 = pz := by
  unfold parseU at h ⊢
  by_cases hl : 8192 < s.length
  · rw [if_pos hl]
    exact ⟨Nat.le_refl _, by show 1 ≤ _; omega, rfl⟩
  · rw [if_neg hl] at h ⊢
    have hr : (rowsU s).length = cnt10 s + 1 := by unfold rowsU linesU; rw [List.length_map, split_cnt]
    rcases run_num (rowsU s) 0 p0 true with h1 | ⟨h1, h2, h3⟩
    · exact absurd h1 h
    · have e1 : (parse0 s).2 ≤ 0 + (rowsU s).length := h2
      have e2 : 0 < (parse0 s).2 := h1
      exact ⟨e2, by omega, h3⟩
theorem rooted_len {p : LB} (h : rootedU p = true) : p.length ≤ 256 := by
  unfold rootedU at h
  rw [Bool.and_eq_true, Bool.and_eq_true, decide_eq_true_iff] at h
  have h3 := h.2.2
  unfold checkU at h3
  by_cases h1 : p = []
  · subst h1; simp
  · rw [if_neg h1] at h3
    by_cases h2 : 256 < p.length
    · rw [if_pos h2] at h3; omega
    · omega
theorem rightE_len {e : EU} (h : rightE e = true) : e.pat.length ≤ 256 ∧ e.val.length ≤ 256 := by
  unfold rightE at h
  split at h
  · rw [Bool.and_eq_true, Bool.and_eq_true, decide_eq_true_iff, decide_eq_true_iff, beq_iff_eq] at h
    rw [h.2.2]
    exact ⟨h.2.1, by simp⟩
  · split at h
    · unfold formsU parseP settingP at h
      split at h
      · rename_i q hq
        split at hq
        · rename_i hs
          rw [Bool.and_eq_true, Bool.and_eq_true, Bool.and_eq_true, decide_eq_true_iff, decide_eq_true_iff] at hs
          have := hs.2.2.1
          rw [List.length_append, List.length_cons] at this
          omega
        · cases hq
      · cases h
    · cases h
theorem RightP.sm {P : PL} (h : RightP P) : Sm P := by
  obtain ⟨h0, _, h1, h2, h3, h4⟩ := h
  refine ⟨by omega, by omega, by have := rooted_len h0; omega, fun r hr => ?_, fun e he => by have := rightE_len (h4 e he).1; omega⟩
  obtain ⟨_, g1, _, g4, g5, g6⟩ := h3 r hr
  refine ⟨by have := g4.len; omega, by omega, ?_⟩
  cases hw : r.wi with
  | false => rw [(g5 hw).1]; simp
  | true =>
    obtain ⟨_, k1, k2, _⟩ := g6 hw
    exact ⟨by omega, fun a ha => by have := (k2 a ha).1; omega⟩
theorem polR_zero (w : World) : PolR ⟨none, 0, 0, [], none, 0, 0⟩ pz w := (PolO.zero 0 w).r
theorem lo_zero : Lo pz := ⟨by decide, by decide, fun r hr => by cases hr⟩
end Go.Proofs.YthbackkcamgidaaGreatDoor
namespace Go.Proofs.YthbackkcamgidaaGreatDoor
open Go Go.RowKit
set_option linter.unusedVariables false
set_option maxRecDepth 100000 in
set_option maxHeartbeats 16000000 in
theorem one_b (s : LB) (w : World) (hS : StdR w) : Calls Tryz.prog 6 #[.string ⟨s.toArray⟩] w fun e w' => e = .returned (.bool true) ∧ Below w.heap.size w w' := by
  have XH := hide (fun W h => heads_any W h)
  have HS := hide hS
  clear hS
  go_enter Tryz.func6, Tryz.ntmps6
  by_cases h1 : 9000 < s.length
  · have g1 : (9000 : Int) < (s.length : Int) := by omega
    go_wp2_with fail
    refine (XH.out w HS.out).mono ?_
    rintro e w1 ⟨rfl, hb⟩
    go_wp2_with fail
    go_ret
    exact ⟨rfl, hb⟩
  have g1 : ¬ (9000 : Int) < (s.length : Int) := by omega
  have hon := one_num s
  have hpr : (parseU s).2 = 0 → RightP (parseU s).1 := by
    intro h
    unfold parseU at h ⊢
    by_cases hl : 8192 < s.length
    · rw [if_pos hl] at h; cases h
    · rw [if_neg hl] at h ⊢
      exact parsed_right (s := s) (Prod.ext rfl h)
  have X1 := hide (fun W h => Parse_any s (by omega) W h)
  obtain ⟨R, hR⟩ : ∃ R, parseU s = R := ⟨_, rfl⟩
  rw [hR] at X1 hon hpr
  obtain ⟨P, n⟩ := R
  dsimp only at hon hpr X1
  have HON := hide hon
  have HPR := hide hpr
  clear hR hon hpr
  go_wp2_with fail
  refine (X1.out _ HS.out).mono ?_
  rintro e w1 ⟨hb1, ⟨RA, rn, rc, L, EA, en, ec⟩, rfl, hpo⟩
  unfold polV
  dsimp only
  obtain ⟨z, hz⟩ : ∃ z, w.heap.size = z := ⟨_, rfl⟩
  have hba := hb1.trans ((Below.refl w.heap.size w1).alloc hb1.size (.cells #[.string ⟨P.root.toArray⟩, .slice RA rn rc, .slice EA en ec] 26))
  have hbx := (Below.refl w1.heap.size w1).alloc (Nat.le_refl _) (.cells #[.string ⟨P.root.toArray⟩, .slice RA rn rc, .slice EA en ec] 26)
  have HB1 := hide hba
  have HP1 := hide (hpo.r.below hbx)
  have HK1 := hide (Blk.new w1 26 #[.string ⟨P.root.toArray⟩, .slice RA rn rc, .slice EA en ec])
  have HS1 := hide (HS.out.below hba)
  have hg1 : w1.heap.size < (w1.alloc (.cells #[.string ⟨P.root.toArray⟩, .slice RA rn rc, .slice EA en ec] 26)).heap.size := by simp
  have hz1 : w.heap.size ≤ (w1.alloc (.cells #[.string ⟨P.root.toArray⟩, .slice RA rn rc, .slice EA en ec] 26)).heap.size := hba.size
  rw [hz] at HB1 hz1
  clear hb1 hpo hba hbx X1
  generalize hgA : w1.heap.size = g at *
  by_cases hn : n = 0
  · subst hn
    have hR := HPR.out rfl
    have k0 : (((0 : Nat) : Int) != 0) = false := rfl
    have k0' : ((0 : Int) != 0) = false := rfl
    have hck : checkP P = true := (checkP_iff P).2 hR
    have hpt : printP P = writeU P := by unfold printP; rw [if_pos hck]
    have hback := right_back hR
    have hsm := hR.sm
    have hlo := hR.lo
    have XPt := hide (fun s W h1 h2 => print_any P s W h1 hsm h2)
    have XCk := hide (fun s W h1 h2 => check_any P s W h1 hsm h2)
    rw [hpt] at XPt
    rw [hck] at XCk
    have hwl : (writeU P).length ≤ 10000000 := part_len hsm (List.Sublist.refl _)
    have XP2 := hide (fun W h => Parse_any (writeU P) (by omega) W h)
    have HE : Hid ((writeU P).length ≤ 8192 → parseU (writeU P) = (P, 0)) := hide (fun h => by unfold parseU; rw [if_neg (by omega), hback])
    have HLO := hide hlo
    generalize writeU P = t at *
    clear hR hck hpt hback hsm hlo HPR HON
    go_wp2_with fail
    obtain ⟨W1, hW1⟩ : ∃ W, w1.alloc (.cells #[.string ⟨P.root.toArray⟩, .slice RA rn rc, .slice EA en ec] 26) = W := ⟨_, rfl⟩
    rw [hW1] at HB1 HP1 HK1 HS1 hg1 hz1 ⊢
    clear hW1 hgA
    have x1 := XPt.out _ W1 HP1.out HS1.out
    unfold polV at x1
    refine x1.mono ?_
    rintro e w2 ⟨rfl, hb2⟩
    have HB2 := hide (HB1.out.trans (hb2.mono hz1))
    have HP2 := hide (HP1.out.below hb2)
    have hk2 := HK1.out.below hb2 hg1
    have HS2 := hide (HS1.out.below hb2)
    have hg2 : g < w2.heap.size := by have := hb2.size; omega
    have hz2 : z ≤ w2.heap.size := by have := hb2.size; omega
    clear hb2 HB1 HP1 HK1 HS1 hg1 hz1 x1 XPt
    have HK2 := hide hk2
    have c0 := hk2.cell 0
    have c1 := hk2.cell 1
    have c2 := hk2.cell 2
    clear hk2
    have x2 := XCk.out _ w2 HP2.out HS2.out
    unfold polV at x2
    have X2 := hide x2
    clear x2
    go_wp2_with fail
    refine X2.out.mono ?_
    rintro e w3 ⟨rfl, hb3⟩
    have HB3 := hide (HB2.out.trans (hb3.mono hz2))
    have HP3 := hide (HP2.out.below hb3)
    have hk3 := HK2.out.below hb3 hg2
    have HS3 := hide (HS2.out.below hb3)
    have hg3 : g < w3.heap.size := by have := hb3.size; omega
    have hz3 : z ≤ w3.heap.size := by have := hb3.size; omega
    clear hb3 HB2 HP2 HK2 HS2 hg2 hz2 X2 c0 c1 c2
    have HK3 := hide hk3
    have c0 := hk3.cell 0
    have c1 := hk3.cell 1
    have c2 := hk3.cell 2
    clear hk3
    by_cases ht : 8192 < t.length
    · have k1 : (8192 : Int) < (t.length : Int) := by omega
      have x3 := XCk.out _ w3 HP3.out HS3.out
      unfold polV at x3
      have X3 := hide x3
      clear x3
      go_wp2_with fail
      refine X3.out.mono ?_
      rintro e w4 ⟨rfl, hb4⟩
      have HB4 := hide (HB3.out.trans (hb4.mono hz3))
      have HS4 := hide (HS3.out.below hb4)
      have hz4 : z ≤ w4.heap.size := by have := hb4.size; omega
      clear hb4 c0 c1 c2 X3
      go_wp2_with fail
      refine (XH.out w4 HS4.out).mono ?_
      rintro e w5 ⟨rfl, hb5⟩
      have HB5 := hide (HB4.out.trans (hb5.mono hz4))
      go_wp2_with fail
      go_ret
      first | exact ⟨rfl, by rw [hz]; exact HB5.out⟩ | exact ⟨rfl, HB5.out⟩
    · have k1 : ¬ (8192 : Int) < (t.length : Int) := by omega
      have k1' : decide ((8192 : Int) < (t.length : Int)) = false := decide_eq_false k1
      have X4 := hide (fun W h => XP2.out W h)
      rw [HE.out (by omega)] at X4
      clear XP2 HE
      go_wp2_with fail
      refine (X4.out w3 HS3.out).mono ?_
      rintro e w4 ⟨hb4, ⟨RB, rm, rd, L', EB, em, ed⟩, rfl, hpo2⟩
      unfold polV
      dsimp only
      have hba := hb4.trans ((Below.refl w3.heap.size w4).alloc hb4.size (.cells #[.string ⟨P.root.toArray⟩, .slice RB rm rd, .slice EB em ed] 26))
      have hbx := (Below.refl w4.heap.size w4).alloc (Nat.le_refl _) (.cells #[.string ⟨P.root.toArray⟩, .slice RB rm rd, .slice EB em ed] 26)
      have HB5 := hide (HB3.out.trans (hba.mono hz3))
      have HP5 := hide (HP3.out.below hba)
      have HQ5 := hide (hpo2.r.below hbx)
      have hk5 := HK3.out.below hba hg3
      have HS5 := hide (HS3.out.below hba)
      have hz5 : z ≤ (w4.alloc (.cells #[.string ⟨P.root.toArray⟩, .slice RB rm rd, .slice EB em ed] 26)).heap.size := by have := hba.size; omega
      have XS := hide (rsame_any P _ _ _ HP5.out HQ5.out HLO.out)
      unfold polV at XS
      dsimp only at XS
      clear hb4 hpo2 hba hbx HB3 HP3 HK3 HS3 hg3 HP5 HQ5 c0 c1 c2
      have c0 := hk5.cell 0
      have c1 := hk5.cell 1
      have c2 := hk5.cell 2
      clear hk5
      go_wp2_with fail
      refine XS.out.mono ?_
      rintro e w6 ⟨rfl, hb6⟩
      have HB6 := hide (HB5.out.trans (hb6.mono hz5))
      have HS6 := hide (HS5.out.below hb6)
      clear hb6 XS c0 c1 c2
      go_wp2_with fail
      refine (XH.out w6 HS6.out).mono ?_
      rintro e w7 ⟨rfl, hb7⟩
      have HB7 := hide (HB6.out.trans (hb7.mono (by have := HB6.out.size; omega)))
      go_wp2_with fail
      go_ret
      first | exact ⟨rfl, by rw [hz]; exact HB7.out⟩ | exact ⟨rfl, HB7.out⟩
  · obtain ⟨hn1, hn2, hp⟩ := HON.out hn
    subst hp
    have k0 : ((n : Int) != 0) = true := by simp; omega
    have HLN := hide (show n ≤ 1 + cnt10 s from hn2)
    have hcl := cnt_le s
    clear HON HPR hn hn2
    go_wp2_with fail
    obtain ⟨W1, hW1⟩ : ∃ W, w1.alloc (.cells #[.string ⟨pz.root.toArray⟩, .slice RA rn rc, .slice EA en ec] 26) = W := ⟨_, rfl⟩
    try rw [hW1] at HB1 HP1 HK1 HS1 hg1 hz1
    try rw [hW1]
    clear hW1 hgA
    have hk1 := HK1.out
    go_loopw [5, 6] (fun u5 u6 wx => ∃ i : Nat, i ≤ s.length ∧ u6 = .int .i64 i ∧ u5 = .int .i64 (1 + (cnt10 (s.take i) : Int)) ∧ Hid (Below z w wx) ∧ Hid (PolR ⟨RA, rn, rc, L, EA, en, ec⟩ pz wx) ∧ Hid (Blk wx g 26 #[.string ⟨pz.root.toArray⟩, .slice RA rn rc, .slice EA en ec])) (fun _ u6 _ => s.length - (intOf u6).toNat)
    case atStart => exact ⟨0, Nat.zero_le _, rfl, rfl, HB1, HP1, hide hk1⟩
    case round =>
      clear hk1 HB1 HP1 HK1 HS1 hg1 hz1
      obtain ⟨i, hin, rfl, rfl, HB, HP, HK⟩ := hrel
      have hctl : cnt10 (s.take i) ≤ 9000 := by have := cnt_le (s.take i); rw [List.length_take] at this; omega
      by_cases hlt : i < s.length
      · obtain ⟨c, hc⟩ : ∃ c, s[i]? = some c := ⟨_, List.getElem?_eq_getElem hlt⟩
        have hix := ix_str s i c hc
        have hct := cnt_take hc
        have hlt' : (i : Int) < (s.length : Int) := by omega
        have kw : IntKind.i64.wrap ((i : Int) + 1) = (i : Int) + 1 := by simp [IntKind.wrap, IntKind.bits, IntKind.signed]; omega
        have kw2 : IntKind.i64.wrap (1 + (cnt10 (s.take i) : Int) + 1) = 1 + (cnt10 (s.take i) : Int) + 1 := by simp [IntKind.wrap, IntKind.bits, IntKind.signed]; omega
        by_cases h10 : c = 10
        · subst h10
          have hix' : ∀ W, (Instr.index 9 (.string ⟨s.toArray⟩) (.int .i64 (i : Int))).run Tryz.prog W = .ok (.int .u8 10) W := hix
          rw [if_pos rfl] at hct
          have HCT := hide hct
          clear hix hc hct
          generalize hq : cnt10 (s.take i) = q at *
          clear hq
          go_wp2_with fail
          go_roundw
          case rel => exact ⟨i + 1, by omega, by go_num, by rw [HCT.out]; go_num, HB, HP, HK⟩
          case measure => simp [intOf]; omega
        · have k10 : ((c.toNat : Int) == 10) = false := beq_eq_false_iff_ne.2 (fun h => h10 (by
            apply UInt8.toNat_inj.1
            show c.toNat = 10
            omega))
          rw [if_neg h10] at hct
          have HCT := hide hct
          clear hc h10 hct
          generalize hq : cnt10 (s.take i) = q at *
          clear hq
          go_wp2_with fail
          go_roundw
          case rel => exact ⟨i + 1, by omega, by go_num, by rw [HCT.out]; go_num, HB, HP, HK⟩
          case measure => simp [intOf]; omega
      · obtain rfl : i = s.length := by omega
        have hlt' : ¬ (s.length : Int) < (s.length : Int) := by omega
        rw [List.take_length] at *
        have k2 : (1 : Int) ≤ (n : Int) := by omega
        have k3 : (n : Int) ≤ 1 + (cnt10 s : Int) := by have := HLN.out; omega
        have hsz : z ≤ wr.heap.size := by have := HB.out.size; omega
        have XS := hide (rsame_any pz _ _ wr HP.out (polR_zero wr) lo_zero)
        have HSX := hide (HS.out.below (by rw [hz]; exact HB.out))
        unfold polV at XS
        dsimp only at XS
        have c0 := HK.out.cell 0
        have c1 := HK.out.cell 1
        have c2 := HK.out.cell 2
        generalize cnt10 s = q at *
        go_wp2_with fail
        refine XS.out.mono ?_
        rintro e w6 ⟨rfl, hb6⟩
        have HB6 := hide (HB.out.trans (hb6.mono hsz))
        have HS6 := hide (HSX.out.below hb6)
        clear hb6 XS c0 c1 c2
        go_wp2_with fail
        refine (XH.out w6 HS6.out).mono ?_
        rintro e w7 ⟨rfl, hb7⟩
        have HB7 := hide (HB6.out.trans (hb7.mono (by have := HB6.out.size; omega)))
        go_wp2_with fail
        go_ret
        first | exact ⟨rfl, by rw [hz]; exact HB7.out⟩ | exact ⟨rfl, HB7.out⟩
end Go.Proofs.YthbackkcamgidaaGreatDoor
namespace Go.Proofs.YthbackkcamgidaaGreatDoor
open Go.ChangeShapes Go.WideShapes Go.ChangeAt Go.RowKit
open Go.ChangeMaps (open_string shut_string)
set_option linter.unusedVariables false
theorem own : ownKnob Tryz.prog.godebug = none := by kernel_rfl
theorem laidOut : laidOutB Tryz.prog = true := by kernel_rfl
theorem ge : Tryz.prog.globalNamed "errors.errorType" = some 1 := by kernel_rfl
theorem gw : Tryz.prog.globalNamed "turnkey/record.words" = some 0 := by kernel_rfl
theorem gtw : (Tryz.prog.globals[0]?).map (·.type) = some 77 := by kernel_rfl
theorem cStr : Tryz.prog.cellsOf 9 = 1 := by kernel_rfl
theorem cWds : Tryz.prog.cellsOf 77 = 15 := by kernel_rfl
theorem rtR : (Tryz.prog.cutTypes.find? (·.1 == "internal/reflectlite.rtype")).map (·.2) = some 122 := by kernel_rfl
theorem oneRow : ((List.range 197).filter fun t => Tryz.prog.rowNamed t [101, 114, 114, 111, 114]) = [60] := by kernel_rfl
theorem tySize : Tryz.prog.types.size = 197 := by kernel_rfl
abbrev laidAll : List (String × DataW Unit) := [("unicode/utf8.acceptRanges", Rows.laid_unicode_utf8_acceptRanges), ("errors.errorType", Rows.laid_errors_errorType), ("turnkey/record.words", Rows.laid_turnkey_record_words), ("unicode/utf8.first", Rows.laid_unicode_utf8_first)]
theorem wds_data : (Rows.laid_turnkey_record_words : DataW Unit) = .agg (((List.range 15).map (fun j : Nat => wordO (j : Int))).map fun z => .lit (.string z)) := by rfl
theorem cells_of_strs {H : Type} {enc : TypeId × Value → H} {P : Program} {w : World} {base : Nat} {sp : Nat → Bool} {held : Bool} {fuel : Nat} {t e : TypeId} {n : Nat} {cs : List Value} {zs : List (List UInt8)} {p : List MemPlace}
    (ht : P.underlying t = some (.array n e)) (he : P.underlying e = some .string) (hce : P.cellsOf e = 1) (hct : P.cellsOf t = n)
    (h : DataW.trod enc P w base sp held fuel t cs = some (.agg (zs.map fun z => .lit (.string z)), p)) : cs = zs.map fun z => Value.string ⟨z.toArray⟩ := by
  cases fuel with
  | zero => simp [DataW.trod] at h
  | succ fuel =>
    simp only [DataW.trod, ht, hce, hct, Nat.mul_one] at h
    split at h
    · rename_i hl
      obtain ⟨xs, hm, hx⟩ := Option.map_eq_some_iff.1 h
      have hxs : xs.map (·.1) = zs.map fun z => (DataW.lit (.string z) : DataW H) := by
        have := congrArg Prod.fst hx
        simpa using this
      have hxl : xs.length = n := by simpa using Lib.mapM_length hm
      have hzl : zs.length = n := by
        have := congrArg List.length hxs
        simp at this
        omega
      apply List.ext_getElem?
      intro i
      by_cases hi : i < n
      · obtain ⟨b, hb, hf⟩ := Lib.mapM_at hm i i (by simp [hi])
        have h2 : (xs.map (·.1))[i]? = some b.1 := by simp [hb]
        rw [hxs] at h2
        simp only [List.getElem?_map, Option.map_eq_some_iff] at h2
        obtain ⟨z, hz, hzb⟩ := h2
        have hzz : zs[i]? = some z := hz
        have h1 : cs[i]? = some (.string ⟨z.toArray⟩) := by
          obtain ⟨z', hc, hb', _⟩ := DataW.trod_string he hf
          rw [hb'] at hzb
          have hzz' : z = z'.data.toList := by simpa using hzb
          have := congrArg (·[0]?) hc
          simp [List.getElem?_drop] at this
          rw [this, hzz']
        simp [h1, hzz]
      · rw [List.getElem?_eq_none (by omega), List.getElem?_eq_none (by simp; omega)]
    · cases h
theorem std_of_shape {W : World} (h : W.ShapedOpen Tryz.prog) : Std W :=
  cell_of_shapedOpen_int (g := 4) (t := 3) (zero := #[.int .i64 0]) (k := .i64) h (of_decide_eq_true (by kernel_rfl)) (by kernel_rfl) rfl (by kernel_rfl) (by kernel_rfl) Tryz.underlying3
theorem stdr_of {W : World} (hs : W.ShapedOpen Tryz.prog) (h : laidMetH Tryz.prog laidAll W) : StdR W := by
  have h' : laidMet Tryz.prog [("unicode/utf8.acceptRanges", Rows.laid_unicode_utf8_acceptRanges), ("turnkey/record.words", Rows.laid_turnkey_record_words), ("unicode/utf8.first", Rows.laid_unicode_utf8_first)] W ∧ handlesMet Tryz.prog [("errors.errorType", Rows.laid_errors_errorType)] W := h
  obtain ⟨hp, hh⟩ := h'
  refine ⟨std_of_shape hs, ?_, ?_⟩
  · obtain ⟨name, u, ty, e1, e2, e3, e4, e5⟩ := hh _ (List.mem_singleton.2 rfl)
    have en : name = [101, 114, 114, 111, 114] := (Option.some.inj e1).symm
    subst en
    obtain rfl := Option.some.inj (rtR.symm.trans e2)
    have hm : ty ∈ (List.range 197).filter fun t => Tryz.prog.rowNamed t [101, 114, 114, 111, 114] := List.mem_filter.2 ⟨List.mem_range.2 (by rw [← tySize]; exact e3), e4⟩
    rw [oneRow] at hm
    obtain rfl := List.mem_singleton.1 hm
    have hty : typeHandle Tryz.prog 60 = .pointer (some ⟨5, 60, none⟩) := by kernel_rfl
    rw [hty] at e5
    show W.cell? _ = _
    simpa using World.var?_cell ge e5 0
  · obtain ⟨ps, ⟨g', t', cs, fuel, p, q, hg', ht', hvar, hd, _, _⟩, _⟩ := hp.tail
    obtain rfl := Option.some.inj (gw.symm.trans hg')
    obtain rfl := Option.some.inj (gtw.symm.trans ht')
    rw [wds_data] at hd
    have hc := cells_of_strs Tryz.underlying77 Tryz.underlying9 cStr cWds hd
    intro k hk
    have h0 := World.var?_cell gw hvar k
    rw [h0]
    have : cs[k]? = cs.toList[k]? := by simp
    rw [this, hc, List.getElem?_map, List.getElem?_map, List.getElem?_range hk]
    rfl
abbrev doorSteps : Nat := 31
theorem laidMet_over {P : Program} {w0 : World} {laid : List (String × DataW Unit)} (args : Array Value) (hf : w0.layFits P laid [] = true) (hi : w0.layIfaces P laid (w0.layVars P laid) = true) :
    laidMet P laid ((w0.layVars P laid).forCall (fun _ _ => 0) ⟨#[], args, []⟩).memory := by
  have e1 : (laid.filter fun x => (laid.map (·.1)).contains x.1) = laid := List.filter_eq_self.2 fun x hx => List.contains_iff_mem.2 (List.mem_map.2 ⟨x, hx, rfl⟩)
  have e2 : (laid.filter fun x => !(laid.map (·.1)).contains x.1) = [] := List.filter_eq_nil_iff.2 fun x hx => by rw [List.contains_iff_mem.2 (List.mem_map.2 ⟨x, hx, rfl⟩)]; simp
  have h : laidMet P laid (w0.layVars P laid) := laidMet_layVars (w0 := w0) (laid.map (·.1)) [] (by rw [e1]) (by rw [e1]; exact hf) (by rw [e1]; exact hi) (by rw [e2]; exact LaidIn.none)
  exact h.of_heap (by simp [World.memory, World.forCall, Input.heap])
/-- The plain data among what is laid. -/
abbrev laidPlain : List (String × DataW Unit) := laidAll.filter fun x => x.2.handleName?.isNone
noncomputable def doorW (os : Os) : World := (World.doorLaid Tryz.prog doorSteps os).layVars Tryz.prog laidPlain
theorem doorW_os (os : Os) : (doorW os).os = os := World.layVars_os _ _ _
theorem door_met (os : Os) (args : Array Value) : laidMetH Tryz.prog laidAll ((doorW os).forCall (fun _ _ => 0) ⟨#[], args, []⟩).memory :=
  laidMetH_of_parts3 (fuel := 8) (laidMet_over _ (by kernel_rfl) (by kernel_rfl)) (by kernel_rfl) (by kernel_rfl)
section
variable {H : Type} {enc : TypeId × Value → H}
/-- The contract is handed the world's shape besides. -/
theorem handed_shaped {a : Assume} {C : Checked} {os : Os} {f : FuncId} {fn : Func} {s : ChangeSpec} {apart fresh handsOn again : Bool} {X : World → Array Value → Prop}
    (hX : ∀ (w w' : World) (args : Array Value), w.heap = w'.heap → X w args → X w' args)
    (own : ownKnob C.prog.godebug = none) (started : os.Started) (noInit : C.prog.inits.idxOf? f = none) (hfn : C.prog.funcs[f]? = some fn)
    (witness : ∃ (w : World) (tape : Tape) (i : Input), w.os = os ∧ (w.forCall tape i).Shaped C.prog ∧ i.vars = [] ∧ Input.okWide C.prog (w.forCall tape i) .any w.heap.size f i ∧
      ((s.pre enc C.prog fn [] apart (w.forCall tape i).memory i.args ∧ X (w.forCall tape i).memory i.args) ∧ sizedMet enc C.prog fn (OpenSpec.ofChange s) apart (w.forCall tape i).memory i.args) ∧ a.holds C.prog (lone (Frame.enter C.prog f i.args .normal) [] (w.forCall tape i)))
    (contract : ∀ (W : World) (base : Nat) (args : Array Value) (ds gs : List (DataW H)) (before : List MemPlace),
      (∀ (j : Nat) t v, fn.params[j]? = some t → args[j]? = some v → Value.okWide C.prog W .any base t v) →
      DataW.Whole enc C.prog fn.params.toList s.vars apart W args.toList ds gs before → W.ShapedOpen C.prog → X W args →
      Calls C.prog f args W fun e W' => ∃ v, e = .returned v ∧ s.post enc C.prog fn apart fresh handsOn again W args v W') :
    ReturnsInHanded a C os f .any (fun w args => (s.pre enc C.prog fn [] apart w args ∧ X w args) ∧ sizedMet enc C.prog fn (OpenSpec.ofChange s) apart w args) (s.post enc C.prog fn apart fresh handsOn again) := by
  refine returnsInHanded_of_calls own started noInit witness ?_
  intro w tape i _ hsh _ hok hpre _
  obtain ⟨_, _, _, fn', hfn', _, _, _, _, hval⟩ := hok
  obtain rfl : fn' = fn := Option.some.inj (hfn'.symm.trans hfn)
  obtain ⟨⟨⟨ds, gs, before, hw, _⟩, hx⟩, _⟩ := hpre
  refine (contract (w.forCall tape i) w.heap.size i.args ds gs before hval (hw.of_heap (by rfl)) hsh (hX _ _ _ (by rfl) hx)).mono ?_
  rintro e W' ⟨v, rfl, hp⟩
  exact ChangeSpec.post_blind hp
end
end Go.Proofs.YthbackkcamgidaaGreatDoor
namespace Go.Proofs.YthbackkcamgidaaGreatDoor
open Go.ChangeShapes Go.WideShapes Go.ChangeAt Go.RowKit
open Go.ChangeMaps (open_string shut_string)
set_option linter.unusedVariables false

set_option maxRecDepth 100000 in
theorem rulesOne_lifted (os : Os) (started : os.Started) (H : Type) (enc : TypeId × Value → H) :
    ReturnsInHanded {} Tryz.checked os 6 .any (fun w args => (Rows.rulesOneSpec.pre enc Tryz.prog Tryz.f6 [] false w args ∧ laidMetH Tryz.prog laidAll w) ∧ sizedMet enc Tryz.prog Tryz.f6 (OpenSpec.ofChange Rows.rulesOneSpec) false w args)
      (Rows.rulesOneSpec.post enc Tryz.prog Tryz.f6 false true false false) := by
  refine handed_shaped (C := Tryz.checked) (X := fun w _ => laidMetH Tryz.prog laidAll w) (fun _ _ _ hh h => h.of_heap hh) own started (by kernel_rfl) Tryz.func6
    (ChangeSpec.witness_shaped (enc := enc) (C := Tryz.checked) (os := os) (X := fun w _ => laidMetH Tryz.prog laidAll w) false (doorW os) #[.string ⟨#[]⟩] 8 (doorW_os os) (World.shaped_of_RefB (by kernel_rfl) (by kernel_rfl)) (by kernel_rfl) (by kernel_rfl) (by kernel_rfl) (door_met os _)) ?_
  intro W base args ds gs before hval0 hW hSh hL
  have hval : ∀ (j : Nat) t v, Tryz.f6.params[j]? = some t → args[j]? = some v → Value.okWide Tryz.prog W .any base t v := hval0
  have hW' := hW
  obtain ⟨p, q, hA0, hV, rfl, hfz, hnd⟩ := hW
  have hA : DataW.TrodAll enc Tryz.prog W 0 (fun _ => true) true Tryz.f6.params.toList args.toList ds p := hA0
  rw [Tryz.params6] at hA hval
  obtain ⟨v0, vs0, d0, ds0, p0, q0, hargs, rfl, rfl, h0, r0⟩ := trodAll_cons hA
  obtain ⟨rfl, rfl, rfl⟩ := trodAll_nil r0
  obtain rfl : args = #[v0] := by cases args; simp_all
  obtain ⟨rfl, rfl⟩ := trodVars_none hV
  obtain ⟨a0, rfl, rfl, rfl, w0⟩ := open_string Tryz.underlying9 (hval 0 9 v0 rfl rfl) h0
  clear hA0 hval0
  have hS := stdr_of hSh hL
  refine ((show Calls Tryz.prog 6 #[.string a0] W _ from one_b a0.data.toList W hS)).mono fun e W' ⟨he, bel⟩ => ?_
  subst he
  exact ⟨_, rfl, _, _, _, [], _, [], hW', trodAll_mk1 (shut_bool Tryz.underlying4 _), (trodAll_cons_mk (shut_string Tryz.underlying9 w0) trodAll_mk0), rfl, bel.frame _, fun h => by cases h⟩

theorem rulesOne_over : Rows.RulesOneSaid :=
  OpenClaim.holds_of_wide 6 Tryz.f6 rfl rfl rfl rfl rfl rfl rfl ⟨rfl, rfl, rfl, rfl, rfl⟩ rfl rfl rfl rfl rfl (by kernel_rfl) Tryz.func6 (by kernel_rfl)
    (of_decide_eq_true (by kernel_rfl)) (by unfold Func.isWrapper; first | (rw [if_pos (by decide +kernel)]; kernel_rfl) | (rw [if_neg (by decide +kernel)]; exact ⟨rfl, rfl⟩))
    (fun os started H enc _ => rulesOne_lifted os started H enc)
theorem rulesOne_plain (f : FuncId) (fn : Func) (hf : Tryz.pinned.checked.prog.funcNamed "turnkey/turnkeylaw12.RulesOne" = some f) (hfn : Tryz.pinned.checked.prog.funcs[f]? = some fn) :
    true = Tryz.pinned.checked.prog.looks [] ∧ ∀ (j : Nat) t, fn.params[j]? = some t → Tryz.pinned.checked.prog.wantsStandIn t = false := by
  obtain rfl : f = 6 := Option.some.inj ((show Tryz.prog.funcNamed "turnkey/turnkeylaw12.RulesOne" = some 6 by kernel_rfl).symm.trans hf) |>.symm
  obtain rfl : fn = Tryz.f6 := (Option.some.inj (Tryz.func6.symm.trans hfn)).symm
  refine ⟨by kernel_rfl, fun j t ht => ?_⟩
  rw [Tryz.params6] at ht
  have hm : t ∈ [9] := by simpa using Array.mem_of_getElem? ht
  have hall : ([9].all fun u => !Tryz.prog.wantsStandIn u) = true := by kernel_rfl
  exact (show Tryz.prog.wantsStandIn t = false by simpa using List.all_eq_true.1 hall t hm)
theorem rulesOne_card : Rows.RulesOneCardSaid :=
  Claim7.holds_tied_plain_at .later [] _ _ _ _ rulesOne_over (fun _ h => by cases h) (by kernel_rfl) (fun _ h => by cases h) rulesOne_row_tie rfl ⟨rfl, rfl⟩ (by kernel_rfl) rfl rulesOne_plain (by kernel_rfl)
#print axioms rulesOne_card
end Go.Proofs.YthbackkcamgidaaGreatDoor
