/- proto.input: take, number. -/
import Derived.Test.YtedacfjkbfgikaaPrL
import Derived.Test.YtedacfjkbfgikaaGet
import Derived.Test.YtedacfjkbfgikaaDkClone
namespace Go.Proofs.Ytedacfjkbfgikaa
open Go.RowKit
set_option linter.unusedVariables false
theorem add_add_ (a : Addr) (l j : Nat) : (a.add l).add j = a.add (l + j) := by
  unfold Addr.add
  by_cases h : l = 0 <;> by_cases k : j = 0 <;> simp [h, k, Nat.add_assoc]
theorem reads_from {w : World} {B n l c : Nat} {A : Option Addr} {xs : List Value} (h : Reads w B 1 A n xs) (hl : l ≤ n) (hc : n ≤ c) : Reads w B 1 (if c = l then A else A.map (·.add l)) (n - l) (xs.drop l) := by
  refine ⟨by rw [List.length_drop, h.1]; omega, fun h0 => ?_⟩
  obtain ⟨ad, rfl, hb, hcl⟩ := h.2 (by omega)
  rw [if_neg (by omega)]
  refine ⟨ad.add l, rfl, by rw [block_of_add]; exact hb, fun j u hj => ?_⟩
  rw [List.getElem?_drop] at hj
  have := hcl (l + j) u hj
  rw [← this, add_add_]
def from_ (c l : Nat) (A : Option Addr) : Option Addr := if c = l then A else A.map (·.add l)
theorem rd_from {w : World} {B n l c : Nat} {A : Option Addr} {bs : LB} (h : Reads w B 1 A n (bv bs)) (hl : l ≤ n) (hc : n ≤ c) : Reads w B 1 (from_ c l A) (n - l) (bv (bs.drop l)) := by
  rw [bv_drop]
  exact reads_from h hl hc
theorem rd_to {w : World} {B n l : Nat} {A : Option Addr} {bs : LB} (h : Reads w B 1 A n (bv bs)) (hl : l ≤ n) : Reads w B 1 A l (bv (bs.take l)) := by
  rw [bv_take]
  exact h.take hl
theorem sl_to (A : Option Addr) (n c q : Nat) (k : IntKind) (h : Int) (hh : h = (q : Int)) (hq : q ≤ c) (W : World) : (Instr.slice 22 (.slice A n c) none (some (.int k h)) none).run Try.prog W = .ok (.slice A q c) W := by
  subst hh
  rw [run_slice_to 22 5 Try.underlying22 sizeU8 A n c k (q : Int) (by omega) (by omega) W, Int.toNat_natCast]
theorem sl_from (A : Option Addr) (n c q : Nat) (k : IntKind) (h : Int) (hh : h = (q : Int)) (hq : q ≤ n) (W : World) : (Instr.slice 22 (.slice A n c) (some (.int k h)) none none).run Try.prog W = .ok (.slice (from_ c q A) (n - q) (c - q)) W := by
  subst hh
  rw [run_slice_from 22 5 Try.underlying22 sizeU8 A n c k (q : Int) (by omega) (by omega) W, Int.toNat_natCast]
  rfl
theorem Reads.set1 {w : World} {B : Nat} {A : Option Addr} {n : Nat} {xs : List UInt8} (h : Reads w B 1 A n (bv xs)) {p : Addr} {v0 : Value} (hp : w.cell? p = some v0) (hv : ∀ z, v0 ≠ .int .u8 z) (u : Value) : Reads (w.setCell p u) B 1 A n (bv xs) := by
  refine ⟨h.1, fun h0 => ?_⟩
  obtain ⟨ad, e, hb, hc⟩ := h.2 h0
  refine ⟨ad, e, hb, fun j y hj => ?_⟩
  rw [World.cell?_setCell_other w p (ad.add j) u ?_]
  · exact hc j y hj
  · intro e2
    have h1 := hc j y hj
    rw [← e2, hp] at h1
    have hm := List.mem_of_getElem? hj
    simp only [bv, List.mem_map] at hm
    obtain ⟨b, _, rfl⟩ := hm
    injection h1 with h1
    exact hv _ h1
/-- Only the block g and new ones have changed. -/
structure Fr (g : Nat) (w w' : World) : Prop where
  size : w.heap.size ≤ w'.heap.size
  block : ∀ x, x < w.heap.size → x ≠ g → w'.heap[x]? = w.heap[x]?
  os : w'.os = w.os
  tape : w'.tape = w.tape
  output : w'.output = w.output
theorem Fr.refl (g : Nat) (w : World) : Fr g w w := ⟨Nat.le_refl _, fun _ _ _ => rfl, rfl, rfl, rfl⟩
theorem Fr.trans {g : Nat} {a b c : World} (h : Fr g a b) (k : Fr g b c) : Fr g a c := ⟨Nat.le_trans h.1 k.1, fun x hx hn => (k.2 x (Nat.lt_of_lt_of_le hx h.1) hn).trans (h.2 x hx hn), k.os.trans h.os, k.tape.trans h.tape, k.output.trans h.output⟩
theorem Fr.set_ (g i : Nat) (w : World) (u : Value) : Fr g w (w.setCell ⟨g, i, none⟩ u) := ⟨by simp, fun x hx hn => Below.heap_setCell w ⟨g, i, none⟩ u x hn, rfl, rfl, rfl⟩
theorem Fr.of_below {g : Nat} {a b : World} (h : Below a.heap.size a b) : Fr g a b := ⟨h.size, fun x hx _ => h.block x hx, h.os, h.tape, h.output⟩
/-- What is left to be read. -/
def InAt (B g : Nat) (st : St) (w : World) : Prop := ∃ A n c, Blk w g 72 #[.slice A n c, .bool st.2] ∧ Reads w B 1 A n (bv st.1) ∧ n ≤ c ∧ n ≤ 1000000 ∧ g < B ∧ B ≤ w.heap.size
theorem InAt.set0 {B g : Nat} {w : World} {u v : Value} {xs : LB} {A : Option Addr} {n : Nat} (hb : Blk w g 72 #[u, v]) (hr : Reads w B 1 A n (bv xs)) (i : Nat) (hu : ∀ z, u ≠ .int .u8 z) (hv : ∀ z, v ≠ .int .u8 z) (x : Value) (hi : i < 2) : Reads (w.setCell ⟨g, i, none⟩ x) B 1 A n (bv xs) := by
  have h := hb.cell i
  match i, hi with
  | 0, _ => exact hr.set1 h hu x
  | 1, _ => exact hr.set1 h hv x
set_option maxRecDepth 100000 in
set_option maxHeartbeats 4000000 in
theorem take_any (B g n : Nat) (st : St) (w : World) (h : InAt B g st w) (hn : n ≤ 1000000) :
    Calls Try.prog 93 #[.pointer (some ⟨g, 0, none⟩), .int .i64 (n : Int)] w fun e w' => ∃ A' n' c', e = .returned (.slice A' n' c') ∧ n' ≤ c' ∧ Rd w' A' n' (takeS n st).1 ∧ InAt B g (takeS n st).2 w' ∧ Fr g w w' := by
  obtain ⟨bs, sh⟩ := st
  obtain ⟨A, m, c, hk, hr, hmc, hm, hgB, hBw⟩ := h
  have hlen : bs.length = m := by simpa [bv] using hr.1
  dsimp only at hk hr hlen
  have HK := hide hk
  have HR := hide hr
  have c0 := hk.cell 0
  have c1 := hk.cell 1
  have f0 := hk.frozen 0
  have f1 := hk.frozen 1
  simp only [List.getElem?_toArray, List.getElem?_cons_succ, List.getElem?_cons_zero] at c0 c1
  clear hk hr
  cases sh with
  | true =>
    go_enter Try.func93, Try.ntmps93
    go_wp2_with fail
    go_ret
    refine ⟨none, 0, 0, rfl, Nat.le_refl _, Reads.none_, ⟨A, m, c, by simpa [takeS] using HK.out.set_ 1 (.bool true), by simpa [takeS] using InAt.set0 HK.out HR.out 1 (by simp) (by simp) (.bool true) (by omega), hmc, hm, hgB, by simpa using hBw⟩, Fr.set_ g 1 w _⟩
  | false =>
    by_cases hlt : m < n
    · have hl1 : (m : Int) < (n : Int) := by omega
      go_enter Try.func93, Try.ntmps93
      go_wp2_with fail
      go_ret
      have hs : takeS n (bs, false) = ([], (bs, true)) := by simp [takeS, hlen, hlt]
      rw [hs]
      refine ⟨none, 0, 0, rfl, Nat.le_refl _, Reads.none_, ⟨A, m, c, by simpa using HK.out.set_ 1 (.bool true), InAt.set0 HK.out HR.out 1 (by simp) (by simp) (.bool true) (by omega), hmc, hm, hgB, by simpa using hBw⟩, Fr.set_ g 1 w _⟩
    · have hl1 : ¬ (m : Int) < (n : Int) := by omega
      have hs1 := fun W => sl_to A m c n .i64 (n : Int) rfl (by omega) W
      have hs2 := fun W => sl_from A m c n .i64 (n : Int) rfl (by omega) W
      go_enter Try.func93, Try.ntmps93
      go_wp2_with fail
      go_ret
      have hs : takeS n (bs, false) = (bs.take n, (bs.drop n, false)) := by simp [takeS, hlen, hlt]
      rw [hs]
      refine ⟨A, n, c, rfl, by omega, (InAt.set0 HK.out (rd_to HR.out (by omega)) 0 (by simp) (by simp) _ (by omega)).more (by simpa using hBw), ⟨from_ c n A, m - n, c - n, by simpa using HK.out.set_ 0 _, InAt.set0 HK.out (rd_from HR.out (by omega) hmc) 0 (by simp) (by simp) _ (by omega), by omega, by omega, hgB, by simpa using hBw⟩, Fr.set_ g 0 w _⟩
end Go.Proofs.Ytedacfjkbfgikaa
