/- The contracts of record.text and of clone.List at bytes. -/
import Derived.Test.YtbbobffedgcbhaaGreatDoorRecA
import Derived.Test.YtbbobffedgcbhaaGreatDoorGr
import Derived.BigQuiet
import Derived.Deep.QuietTactic
namespace Go.Proofs.YtbbobffedgcbhaaGreatDoor
open Go.RowKit
set_option linter.unusedVariables false
theorem below_drewN {B : Nat} {a w : World} (h : Below B a w) : ∀ n, Below B a (w.drewN n) := fun n => ⟨h.os, h.tape, h.output, h.size, h.block⟩
theorem add_add_ (a : Addr) (l j : Nat) : (a.add l).add j = a.add (l + j) := by
  unfold Addr.add
  by_cases h : l = 0 <;> by_cases k : j = 0 <;> simp [h, k, Nat.add_assoc]
theorem reads_from {w : World} {B n l c : Nat} {A : Option Addr} {xs : List Value} (h : Reads w B 1 A n xs) (hl : l ≤ n) (hc : n ≤ c) : Reads w B 1 (if c = l then A else A.map (·.add l)) (n - l) (xs.drop l) := by
  refine ⟨by rw [List.length_drop, h.1]; omega, fun h0 => ?_⟩
  obtain ⟨ad, rfl, hb, hcl⟩ := h.2 (by omega)
  rw [if_neg (by omega)]
  refine ⟨ad.add l, rfl, by rw [block_of_add]; exact hb, fun j u hj => ?_⟩
  rw [List.getElem?_drop] at hj
  have := hcl (l + j) u hj
  rw [← this, add_add_]
theorem rb {w w' : World} {A : Option Addr} {n : Nat} {xs : List Value} (h : Reads w w.heap.size 1 A n xs) (hb : Below w.heap.size w w') : Reads w' w'.heap.size 1 A n xs := (h.below hb).more hb.size
def from_ (c l : Nat) (A : Option Addr) : Option Addr := if c = l then A else A.map (·.add l)
theorem rd_from {w : World} {n l c : Nat} {A : Option Addr} {bs : LB} (h : Rd w A n bs) (hl : l ≤ n) (hc : n ≤ c) : Rd w (from_ c l A) (n - l) (bs.drop l) := by
  unfold Rd
  rw [bv_drop]
  exact reads_from h hl hc
theorem rd_to {w : World} {n l : Nat} {A : Option Addr} {bs : LB} (h : Rd w A n bs) (hl : l ≤ n) : Rd w A l (bs.take l) := by
  unfold Rd
  rw [bv_take]
  exact h.take hl
theorem sl_to (A : Option Addr) (n c q : Nat) (k : IntKind) (h : Int) (hh : h = (q : Int)) (hq : q ≤ c) (W : World) : (Instr.slice 22 (.slice A n c) none (some (.int k h)) none).run Tryz.prog W = .ok (.slice A q c) W := by
  subst hh
  rw [run_slice_to 22 5 Tryz.underlying22 sizeU8 A n c k (q : Int) (by omega) (by omega) W, Int.toNat_natCast]
theorem sl_from (A : Option Addr) (n c q : Nat) (k : IntKind) (h : Int) (hh : h = (q : Int)) (hq : q ≤ n) (W : World) : (Instr.slice 22 (.slice A n c) (some (.int k h)) none none).run Tryz.prog W = .ok (.slice (from_ c q A) (n - q) (c - q)) W := by
  subst hh
  rw [run_slice_from 22 5 Tryz.underlying22 sizeU8 A n c k (q : Int) (by omega) (by omega) W, Int.toNat_natCast]
  rfl
theorem conv_str {w : World} {A : Option Addr} {n c : Nat} {bs : LB} (h : Rd w A n bs) : (convert 22 9 (.slice A n c)).run Tryz.prog w = .ok (.string ⟨bs.toArray⟩) w :=
  run_string_of w w.heap.size 22 9 5 A n c bs Tryz.underlying22 Tryz.underlying5 Tryz.underlying9 h
def tOk (b : LB) : Bool := (takeT b).isSome
def tP (b : LB) : LB := ((takeT b).getD ([], [])).1
def tR (b : LB) : LB := ((takeT b).getD ([], [])).2
theorem take_short {b : LB} (h : b.length < 2) : takeT b = none := by unfold takeT; rw [if_pos h]
theorem take_lack {b : LB} (h : ¬ b.length < 2) (h2 : (b.drop 2).length < numB (b.take 2)) : takeT b = none := by unfold takeT; rw [if_neg h, if_pos h2]
theorem take_has {b : LB} (h : ¬ b.length < 2) (h2 : ¬ (b.drop 2).length < numB (b.take 2)) : takeT b = some ((b.drop 2).take (numB (b.take 2)), (b.drop 2).drop (numB (b.take 2))) := by unfold takeT; rw [if_neg h, if_neg h2]
set_option maxRecDepth 100000 in
set_option maxHeartbeats 4000000 in
theorem text_any (A : Option Addr) (n c : Nat) (bs : LB) (w : World) (hr : Rd w A n bs) (hnc : n ≤ c) (hn : n ≤ 1000000) :
    Calls Tryz.prog 78 #[.slice A n c] w fun e w' => ∃ A' n' c', e = .returned (.tuple #[.string ⟨(tP bs).toArray⟩, .slice A' n' c', .bool (tOk bs)]) ∧ Rd w' A' n' (tR bs) ∧ n' ≤ c' ∧ n' ≤ n ∧ Below w.heap.size w w' := by
  have hl := hr.len
  by_cases h2 : n < 2
  · have e0 := take_short (b := bs) (by omega)
    have k2 : (n : Int) < 2 := by omega
    unfold tP tR tOk
    rw [e0]
    clear hr hl e0
    go_enter Tryz.func78, Tryz.ntmps78
    go_wp2_with fail
    refine bodyPost_ret (v := .tuple #[.string ⟨#[]⟩, .slice none 0 0, .bool false]) (by simp only [results, Tryz.results78]; go_simp) rfl ⟨none, 0, 0, rfl, Reads.none_, Nat.le_refl _, by omega, Below.refl _ _⟩
  · have k2 : ¬ (n : Int) < 2 := by omega
    have hc2 : ¬ (c : Int) < 2 := by omega
    have s1 := fun W => sl_to A n c 2 .i64 2 rfl (by omega) W
    have s2 := fun W => sl_from A n c 2 .i64 2 rfl (by omega) W
    have XG := hide (get_yes A 2 c (bs.take 2) w (by omega) (by omega) (rd_to hr (by omega)))
    have HR2 := hide (rd_from hr (l := 2) (by omega) hnc)
    obtain ⟨A2, hA2⟩ : ∃ x, from_ c 2 A = x := ⟨_, rfl⟩
    rw [hA2] at s2 HR2
    obtain ⟨n2, hn2⟩ : ∃ x, n - 2 = x := ⟨_, rfl⟩
    rw [hn2] at s2 HR2
    obtain ⟨c2, hc2'⟩ : ∃ x, c - 2 = x := ⟨_, rfl⟩
    rw [hc2'] at s2
    obtain ⟨q, hq⟩ : ∃ q, numB (bs.take 2) = q := ⟨_, rfl⟩
    have hq2 : q < 65536 := by
      have := numB_lt (bs.take 2)
      rw [hq, List.length_take] at this
      have h3 : min 2 bs.length = 2 := by omega
      rw [h3] at this
      exact this
    have hlen2 : n2 ≤ c2 := by omega
    have hn2n : n2 ≤ n := by omega
    have hld : (bs.drop 2).length = n2 := by rw [List.length_drop]; omega
    rw [hq] at XG
    have wq : IntKind.i64.wrap (q : Int) = (q : Int) := by simp [IntKind.wrap, IntKind.bits, IntKind.signed]; omega
    by_cases h3 : n2 < q
    · have e0 := take_lack (b := bs) (by omega) (by rw [hld, hq]; exact h3)
      have k3 : (n2 : Int) < (q : Int) := by omega
      unfold tP tR tOk
      rw [e0]
      clear hr hl e0 hA2 hn2 hc2' hq hld
      go_enter Tryz.func78, Tryz.ntmps78
      go_wp2_with fail
      with_reducible refine XG.out.mono ?_
      rintro e w1 ⟨rfl, rfl⟩
      go_wp2_with fail
      refine bodyPost_ret (v := .tuple #[.string ⟨#[]⟩, .slice none 0 0, .bool false]) (by simp only [results, Tryz.results78]; go_simp) rfl ⟨none, 0, 0, rfl, Reads.none_, Nat.le_refl _, by omega, Below.refl _ _⟩
    · have e0 := take_has (b := bs) (by omega) (by rw [hld, hq]; exact h3)
      rw [hq] at e0
      have k3 : ¬ (n2 : Int) < (q : Int) := by omega
      have s3 := fun W => sl_to A2 n2 c2 q .u64 (q : Int) rfl (by omega) W
      have s4 := fun W => sl_from A2 n2 c2 q .u64 (q : Int) rfl (by omega) W
      have hcv := fun (m : Nat) => conv_str (w := w.drewN m) (A := A2) (n := q) (c := c2) (bs := (bs.drop 2).take q) (rd_to HR2.out (by omega))
      have HRE := hide (rd_from HR2.out (l := q) (by omega) hlen2)
      have hle : n2 - q ≤ c2 - q := by omega
      have hle2 : n2 - q ≤ n := by omega
      unfold tP tR tOk
      rw [e0]
      dsimp only [Option.getD, Option.isSome]
      generalize (bs.drop 2).take q = bp at *
      generalize (bs.drop 2).drop q = br at *
      generalize from_ c2 q A2 = A3 at *
      generalize n2 - q = n3 at *
      generalize c2 - q = c3 at *
      clear hr hl e0 hA2 hn2 hc2' hq hld HR2
      go_enter Tryz.func78, Tryz.ntmps78
      go_wp2_with fail
      with_reducible refine XG.out.mono ?_
      rintro e w1 ⟨rfl, rfl⟩
      go_wp2_with fail
      go_quiet (fail)
      go_wp2_with fail
      refine bodyPost_ret (v := .tuple #[.string ⟨bp.toArray⟩, .slice A3 n3 c3, .bool true]) (by simp only [results, Tryz.results78]; go_simp) rfl ⟨A3, n3, c3, rfl, HRE.out, hle, hle2, below_drewN (Below.refl _ _) _⟩
end Go.Proofs.YtbbobffedgcbhaaGreatDoor
