/- proto.each: what the fields that are used do, one behind the other. -/
import Derived.Test.YtedacfjkbfgikaaMore
import Derived.Test.YtedacfjkbfgikaaPrP
import Derived.Laws.EntriesVeiled
namespace Go.Proofs.Ytedacfjkbfgikaa
open Go.RowKit
set_option linter.unusedVariables false
/-- A field: its bit, its closure. -/
structure FV where
  which : Int
  fn : Nat
  caps : Array Value
def FV.cs (f : FV) : List Value := [.int .i64 f.which, .func (.func f.fn) #[] f.caps]
def fcs : List FV → List Value
  | [] => []
  | f :: l => f.cs ++ fcs l
theorem fcs_length (l : List FV) : (fcs l).length = l.length * 2 := by
  induction l with
  | nil => rfl
  | cons x l ih => rw [fcs, List.length_append, ih, List.length_cons, show x.cs.length = 2 from rfl]; omega
theorem fcs_at : ∀ (l : List FV) (k j : Nat) (h : k < l.length), j < 2 → (fcs l)[k * 2 + j]? = (l[k].cs)[j]?
  | x :: l, 0, j, h, hj => by
    simp only [fcs, Nat.zero_mul, Nat.zero_add]
    rw [List.getElem?_append_left (by rw [show x.cs.length = 2 from rfl]; omega)]
    rfl
  | x :: l, k + 1, j, h, hj => by
    simp only [fcs]
    rw [List.getElem?_append_right (by rw [show x.cs.length = 2 from rfl]; omega)]
    have := fcs_at l k j (by simpa using h) hj
    rw [show x.cs.length = 2 from rfl, show (k + 1) * 2 + j - 2 = k * 2 + j by omega, this]
    rfl
theorem cells_of {w : World} {B size n : Nat} {A : Option Addr} {xs : List Value} (h : Reads w B size A n xs) (h0 : 0 < n) (hx : 0 < xs.length) : ∃ g o, A = some ⟨g, o, none⟩ ∧ g < B ∧ ∀ j u, xs[j]? = some u → w.cell? ⟨g, o + j, none⟩ = some u := by
  obtain ⟨ad, rfl, hb, hc⟩ := h.2 h0
  have h00 := hc 0 xs[0] (List.getElem?_eq_getElem hx)
  rw [add_zero_] at h00
  have hs : ad = ⟨ad.block, ad.off, none⟩ := by
    obtain ⟨b, o, s⟩ := ad
    cases s with
    | none => rfl
    | some x =>
      unfold World.cell? at h00
      split at h00 <;> simp at h00
  refine ⟨ad.block, ad.off, by rw [← hs], hb, fun j u hj => ?_⟩
  have := hc j u hj
  rw [hs, at_add] at this
  exact this
theorem sizeFld : (Try.prog.info? 62).map (·.size) = some 2 := by kernel_rfl
theorem run_sizeOf_n {P : Program} {e : TypeId} {n : Nat} (hs : (P.info? e).map (·.size) = some n) (W : World) : (sizeOf e).run P W = .ok n W := by
  obtain ⟨i, hi, h1⟩ := Option.map_eq_some_iff.1 hs
  simp [sizeOf, typeInfo, hi, h1]
theorem fld_at (g1 o m k q : Nat) (i : Int) (hi : i = (q : Int)) (hq : q < m) (W : World) : (Instr.indexAt 66 (.slice (some ⟨g1, o, none⟩) m k) (.int .i64 i)).run Try.prog W = .ok (.pointer (some ⟨g1, o + q * 2, none⟩)) W := by
  subst hi
  have hE : Try.prog.elem 66 = 62 := by simp [Program.elem, Try.underlying66]
  rw [run_indexAt_slice W 66 ⟨g1, o, none⟩ m k .i64 (q : Int) (slice_ht Try.underlying66), if_pos ⟨by omega, by omega⟩]
  rw [hE, run_sizeOf_n sizeFld W]
  simp [Result.andThen, Addr.add]
theorem fld_cells {w : World} {B n : Nat} {A : Option Addr} {l : List FV} (h : Reads w B 2 A n (fcs l)) {k : Nat} {x : FV} (hp : l[k]? = some x) : ∃ g o, A = some ⟨g, o, none⟩ ∧ g < B ∧ w.cell? ⟨g, o + k * 2, none⟩ = some (.int .i64 x.which) ∧ w.cell? ⟨g, o + k * 2 + 1, none⟩ = some (.func (.func x.fn) #[] x.caps) := by
  obtain ⟨hk, he⟩ := List.getElem?_eq_some_iff.1 hp
  have hn : l.length = n := by have := h.1; rw [fcs_length] at this; omega
  obtain ⟨g, o, rfl, hg, hc⟩ := cells_of h (by omega) (by rw [fcs_length]; omega)
  refine ⟨g, o, rfl, hg, ?_, ?_⟩
  · exact hc (k * 2 + 0) _ (by rw [fcs_at l k 0 hk (by omega), he]; rfl)
  · exact hc (k * 2 + 1) _ (by rw [fcs_at l k 1 hk (by omega), he]; rfl)
set_option maxRecDepth 100000 in
set_option maxHeartbeats 4000000 in
theorem each_any (u : Int) (fs : List FV) (A : Option Addr) (n c : Nat) (w : World) (Inv : Nat → World → Prop) (hn : n ≤ 1000) (hlen : fs.length = n)
    (hrow : ∀ k W, Inv k W → Reads W W.heap.size 2 A n (fcs fs)) (h0 : Inv 0 w) (hal : ∀ k W o, Inv k W → Inv k (W.alloc o))
    (hyes : ∀ k x, fs[k]? = some x → ¬ (bits .and .i64 u x.which) = 0 → ∀ W, Inv k W → Calls Try.prog x.fn x.caps W fun e w' => e = .returned (.tuple #[]) ∧ Inv (k + 1) w')
    (hen : ∀ x ∈ fs, ∀ W, (callFunc x.fn x.caps).run Try.prog W = .ok (.enter x.fn x.caps) W)
    (hno : ∀ k x, fs[k]? = some x → (bits .and .i64 u x.which) = 0 → ∀ W, Inv k W → Inv (k + 1) W) :
    Calls Try.prog 25 #[.int .i64 u, .slice A n c] w fun e w' => e = .returned (.tuple #[]) ∧ Inv n w' := by
  have HROW := hide hrow
  have H0 := hide h0
  have HAL := hide hal
  have HYES := hide hyes
  have HNO := hide hno
  have HLEN := hide hlen
  have HEN := hide hen
  clear hrow h0 hal hyes hno hlen hen
  go_enter Try.func25, Try.ntmps25
  go_wp2_with fail
  go_loopw [8] (fun u8 wx => ∃ i : Nat, i ≤ n ∧ u8 = .int .i64 (i : Int) ∧ Hid (Inv i wx)) (fun i _ => n - (intOf i).toNat)
  case atStart => exact ⟨0, Nat.zero_le _, rfl, H0⟩
  case round =>
    obtain ⟨i, hi, rfl, HI⟩ := hrel
    by_cases hlt : i < n
    · have hlt1 : (i : Int) < (n : Int) := by omega
      have hx : fs[i]? = some (fs[i]'(by rw [HLEN.out]; exact hlt)) := List.getElem?_eq_getElem _
      obtain ⟨x, hxe⟩ : ∃ x, fs[i]'(by rw [HLEN.out]; exact hlt) = x := ⟨_, rfl⟩
      rw [hxe] at hx
      clear hxe
      have HX := hide hx
      obtain ⟨g, o, rfl, hg, a0, a1⟩ := fld_cells (HROW.out i wr HI.out) hx
      obtain ⟨wh, fn, caps⟩ := x
      dsimp only at a0 a1
      have i1 := fun W => fld_at g o n c i (i : Int) rfl hlt W
      have v1 : IntKind.i64.wrap ((i : Int) + 1) = (i : Int) + 1 := by simp [IntKind.wrap, IntKind.bits, IntKind.signed]; omega
      have HI2 := hide (HAL.out i wr (.cells #[.int .i64 wh, .func (.func fn) #[] caps] 62) HI.out)
      clear hx
      by_cases hb : bits .and .i64 u wh = 0
      · have HI3 := hide (HNO.out i _ HX.out hb _ HI2.out)
        go_wp2_with fail
        clear v1 i1 a0 a1
        go_roundw
        case rel => exact ⟨i + 1, by omega, by go_num, HI3⟩
        case measure => simp [intOf]; omega
      · have XC := hide (HYES.out i _ HX.out hb _ HI2.out)
        have hen := HEN.out _ (List.mem_of_getElem? HX.out)
        dsimp only at hen
        go_wp2_with fail
        refine XC.out.mono ?_
        rintro e1 w1 ⟨rfl, h1⟩
        have HI3 := hide h1
        clear h1 XC i1 a0 a1
        go_wp2_with fail
        clear v1
        go_roundw
        case rel => exact ⟨i + 1, by omega, by go_num, HI3⟩
        case measure => simp [intOf]; omega
    · obtain rfl : i = n := by omega
      have hlt1 : ¬ (i : Int) < (i : Int) := by omega
      go_wp2_with fail
      first
        | (refine bodyPost_ret (results_none rfl _ _ _) rfl ?_; exact ⟨rfl, HI.out⟩)
        | (go_end0; exact ⟨rfl, HI.out⟩)
end Go.Proofs.Ytedacfjkbfgikaa
