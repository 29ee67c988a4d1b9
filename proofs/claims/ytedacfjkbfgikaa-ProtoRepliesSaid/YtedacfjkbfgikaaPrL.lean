/- proto.list: of texts, of integers. -/
import Derived.Test.YtedacfjkbfgikaaPrA
import Derived.Test.YtedacfjkbfgikaaStrs
namespace Go.Proofs.Ytedacfjkbfgikaa
open Go.RowKit
set_option linter.unusedVariables false
def ivs (l : List Int) : List Value := l.map fun v => .int .i64 v
theorem catP_append (a b : List LB) : catP (a ++ b) = catP a ++ catP b := by
  induction a with
  | nil => rfl
  | cons x a ih => simp only [List.cons_append, catP, ih, List.append_assoc]
theorem catP_take {α : Type} (e : α → LB) (l : List α) (k : Nat) (x : α) (hx : l[k]? = some x) : catP ((l.take (k + 1)).map e) = catP ((l.take k).map e) ++ e x := by
  rw [List.take_add_one, hx, List.map_append, catP_append]
  simp [catP]
theorem catP_le {α : Type} (e : α → LB) (l : List α) (k : Nat) : (catP ((l.take k).map e)).length ≤ (catP (l.map e)).length := by
  conv => rhs; rw [← List.take_append_drop k l, List.map_append, catP_append, List.length_append]
  exact Nat.le_add_right _ _
theorem catP_in {α : Type} (e : α → LB) (l : List α) (k : Nat) (x : α) (hx : l[k]? = some x) : (e x).length ≤ (catP (l.map e)).length := by
  have h1 := catP_le e l (k + 1)
  rw [catP_take e l k x hx, List.length_append] at h1
  omega
theorem put1 (n : Nat) (w : World) (hn : n < 18446744073709551616) : Calls Try.prog 90 #[.int .u64 (n : Int), .int .i64 1] w fun e w' => ∃ A c, e = .returned (.slice A 1 c) ∧ OwB w.heap.size w' A 1 c (be 1 n) ∧ Below w.heap.size w w' := put_ow n 1 w (by omega) (by omega) hn
theorem txt_len (s : LB) : (txtP s).length = 2 + s.length := by simp [txtP, be_length]
theorem int_len (v : Int) : (intP v).length = 4 := by simp [intP, be_length]
theorem fn_enter {f : FuncId} {fn : Func} {c : Code} (hf : Try.prog.funcs[f]? = some fn) (hname : (fn.name == "runtime.NumGoroutine") = false) (hb : fn.body = some c) (args : Array Value) (w : World) :
    (callFunc f args).run Try.prog w = .ok (.enter f args) w := by
  have h1 : fn.name ≠ "runtime.NumGoroutine" := by simpa using hname
  simp [callFunc, hf, h1, hb]

set_option maxRecDepth 100000 in
set_option maxHeartbeats 4000000 in
theorem plist_any (l : List LB) (A : Option Addr) (n c : Nat) (w : World) (hr : Reads w w.heap.size 1 A n (svs l)) (hn : n ≤ 100000) (hT : (catP (l.map txtP)).length ≤ 500000) :
    Calls Try.prog 34 #[.slice A n c, .func (.func 31) #[] #[]] w fun e w' => ∃ A' c', e = .returned (.slice A' (1 + (catP (l.map txtP)).length) c') ∧ OwB w.heap.size w' A' (1 + (catP (l.map txtP)).length) c' (be 1 l.length ++ catP (l.map txtP)) ∧ Below w.heap.size w w' := by
  obtain ⟨i0, hi, hz0, hz1, hz2⟩ := info_parts infoU8
  have hlen : l.length = n := by have := hr.1; simpa [svs] using this
  have hw : IntKind.u64.wrap (n : Int) = (n : Int) := by simp [IntKind.wrap, IntKind.bits, IntKind.signed]; omega
  have XP := hide (put1 n w (by omega))
  have HR := hide hr
  have HL := hide hlen
  have HT := hide hT
  have hsl : Try.prog.elem 23 = 9 := by simp [Program.elem, Try.underlying23]
  clear hr hT
  go_enter Try.func34, Try.ntmps34
  go_wp2_with fail
  with_reducible refine XP.out.mono ?_
  rintro e w1 ⟨A1, c1, rfl, ho, hb⟩
  have HI0 : Hid (OwB w.heap.size w1 A1 1 c1 (be 1 n)) := hide ho
  have HB0 := hide hb
  clear ho hb XP hw
  go_wp2_with fail
  go_loopw [5, 14] (fun s5 s14 wx => ∃ i : Nat, i ≤ n ∧ s14 = .int .i64 (i : Int) ∧ ∃ A2 c2, s5 = .slice A2 (1 + (catP ((l.take i).map txtP)).length) c2 ∧ Hid (OwB w.heap.size wx A2 (1 + (catP ((l.take i).map txtP)).length) c2 (be 1 n ++ catP ((l.take i).map txtP))) ∧ Hid (Below w.heap.size w wx)) (fun _ i _ => n - (intOf i).toNat)
  case atStart => exact ⟨0, Nat.zero_le _, rfl, A1, c1, rfl, by simpa [catP] using HI0, HB0⟩
  case round =>
    obtain ⟨i, hi', rfl, A2, c2, rfl, HI, HB⟩ := hrel
    by_cases hlt : i < n
    · have hlt1 : (i : Int) < (n : Int) := by omega
      obtain ⟨ad, u, rfl, hab, hu, hcell⟩ := (HR.out.below HB.out).at_ hlt
      obtain ⟨x, hx⟩ : ∃ x, l[i]? = some x := ⟨l[i]'(by rw [HL.out]; exact hlt), List.getElem?_eq_getElem _⟩
      have hux : u = .string ⟨x.toArray⟩ := by
        have h := hu
        simp only [svs, List.getElem?_map, hx, Option.map_some, Option.some.injEq] at h
        exact h.symm
      subst hux
      have HX := hide hx
      have HC := hide (catP_take txtP l i x hx)
      have hcl := catP_le txtP l (i + 1)
      rw [HC.out, List.length_append] at hcl
      have hT := HT.out
      have hxl := catP_in txtP l i x hx

      have hen := fun W => fn_enter Try.func31 (by kernel_rfl) rfl #[.string ⟨x.toArray⟩] W
      have XI := hide (ptext_any x wr (by have := txt_len x; omega))
      have hbd : (catP ((l.take i).map txtP)).length + (2 + x.length) ≤ 500000 := by rw [txt_len] at hcl; omega
      have v1 : IntKind.i64.wrap ((i : Int) + 1) = (i : Int) + 1 := by simp [IntKind.wrap, IntKind.bits, IntKind.signed]; omega
      generalize hL : (catP ((l.take i).map txtP)).length = L at *
      clear hx hu hT
      go_wp2_with fail
      refine XI.out.mono ?_
      rintro e3 w3 ⟨A3, c3, rfl, ho3, hb3⟩
      have hbase : w.heap.size ≤ w3.heap.size := Nat.le_trans HB.out.size hb3.size
      have HI3 : Hid (OwB w.heap.size w3 A2 (1 + L) c2 (be 1 n ++ catP ((l.take i).map txtP))) := hide (HI.out.below hb3)
      have HB3 : Hid (Below w.heap.size w w3) := hide (HB.out.trans (hb3.mono HB.out.size))
      have HO3 := hide ho3
      clear ho3 hb3 XI hen hcell
      go_wp2_with (at_builtin; (refine wpList_append_any _ rfl (.tmp 18) (.tmp 21) 22 rfl w.heap.size 5 i0 _ 1 1 Try.underlying22 hi hz0 hz1 hz2 rfl (by omega) (.slice A2 (1 + L) c2) (1 + L) (bv (be 1 n ++ catP ((l.take i).map txtP))) rfl (by exact HI3.out) _ A3 (2 + x.length) c3 (bv (txtP x)) rfl (by exact HO3.out.rd) (bv_one _) ?c1 ?c2 ?c3 ?_))
      case c1 => unfold maxLen; omega
      case c2 => omega
      case c3 => exact hbase
      intro v9 w9 hown9 hg9 hat9
      obtain ⟨A9, k9, rfl⟩ := own_slice hown9
      rw [← bv_append, List.append_assoc] at hown9
      simp only [← List.map_take] at hown9
      rw [← HC.out] at hown9
      have hL2 : (catP ((l.take (i + 1)).map txtP)).length = L + (2 + x.length) := by rw [HC.out, List.length_append, hL, txt_len]
      have HI9 : Hid (OwB w.heap.size w9 A9 (1 + (catP ((l.take (i + 1)).map txtP)).length) k9 (be 1 n ++ catP ((l.take (i + 1)).map txtP))) := hide (by rw [hL2, ← Nat.add_assoc]; exact hown9)
      have HB9 : Hid (Below w.heap.size w w9) := hide (HB3.out.grown hg9 hbase (fun g hg => (World.ownsRow.lt HI3.out g hg).1))
      have HL2 := hide hL2
      clear hown9 hg9 hat9 HI3 HB3 HO3 hL2
      go_wp2_with fail
      go_roundw
      case rel => exact ⟨i + 1, by omega, by go_num, A9, k9, by rw [HL2.out]; congr 1 <;> omega, HI9, HB9⟩
      case measure => simp [intOf]; omega
    · obtain rfl : i = n := by omega
      have hlt1 : ¬ (i : Int) < (i : Int) := by omega
      have hall : l.take i = l := List.take_of_length_le (by rw [HL.out]; exact Nat.le_refl _)
      rw [hall] at HI ⊢
      go_wp2_with fail
      go_ret
      exact ⟨A2, c2, rfl, by first | exact HI.out | (rw [HL.out]; exact HI.out), HB.out⟩

set_option maxRecDepth 100000 in
set_option maxHeartbeats 4000000 in
theorem pnums_any (l : List Int) (A : Option Addr) (n c : Nat) (w : World) (hr : Reads w w.heap.size 1 A n (ivs l)) (hn : n ≤ 100000) (hT : (catP (l.map intP)).length ≤ 500000) (hw64 : ∀ x ∈ l, -9223372036854775808 ≤ x ∧ x ≤ 9223372036854775807) :
    Calls Try.prog 37 #[.slice A n c, .func (.func 29) #[] #[]] w fun e w' => ∃ A' c', e = .returned (.slice A' (1 + (catP (l.map intP)).length) c') ∧ OwB w.heap.size w' A' (1 + (catP (l.map intP)).length) c' (be 1 l.length ++ catP (l.map intP)) ∧ Below w.heap.size w w' := by
  obtain ⟨i0, hi, hz0, hz1, hz2⟩ := info_parts infoU8
  have hlen : l.length = n := by have := hr.1; simpa [ivs] using this
  have hw : IntKind.u64.wrap (n : Int) = (n : Int) := by simp [IntKind.wrap, IntKind.bits, IntKind.signed]; omega
  have XP := hide (put1 n w (by omega))
  have HR := hide hr
  have HL := hide hlen
  have HT := hide hT
  have hsl : Try.prog.elem 24 = 3 := by simp [Program.elem, Try.underlying24]
  clear hr hT
  go_enter Try.func37, Try.ntmps37
  go_wp2_with fail
  with_reducible refine XP.out.mono ?_
  rintro e w1 ⟨A1, c1, rfl, ho, hb⟩
  have HI0 : Hid (OwB w.heap.size w1 A1 1 c1 (be 1 n)) := hide ho
  have HB0 := hide hb
  clear ho hb XP hw
  go_wp2_with fail
  go_loopw [5, 14] (fun s5 s14 wx => ∃ i : Nat, i ≤ n ∧ s14 = .int .i64 (i : Int) ∧ ∃ A2 c2, s5 = .slice A2 (1 + (catP ((l.take i).map intP)).length) c2 ∧ Hid (OwB w.heap.size wx A2 (1 + (catP ((l.take i).map intP)).length) c2 (be 1 n ++ catP ((l.take i).map intP))) ∧ Hid (Below w.heap.size w wx)) (fun _ i _ => n - (intOf i).toNat)
  case atStart => exact ⟨0, Nat.zero_le _, rfl, A1, c1, rfl, by simpa [catP] using HI0, HB0⟩
  case round =>
    obtain ⟨i, hi', rfl, A2, c2, rfl, HI, HB⟩ := hrel
    by_cases hlt : i < n
    · have hlt1 : (i : Int) < (n : Int) := by omega
      obtain ⟨ad, u, rfl, hab, hu, hcell⟩ := (HR.out.below HB.out).at_ hlt
      obtain ⟨x, hx⟩ : ∃ x, l[i]? = some x := ⟨l[i]'(by rw [HL.out]; exact hlt), List.getElem?_eq_getElem _⟩
      have hux : u = .int .i64 x := by
        have h := hu
        simp only [ivs, List.getElem?_map, hx, Option.map_some, Option.some.injEq] at h
        exact h.symm
      subst hux
      have HX := hide hx
      have HC := hide (catP_take intP l i x hx)
      have hcl := catP_le intP l (i + 1)
      rw [HC.out, List.length_append] at hcl
      have hT := HT.out
      have hxl := catP_in intP l i x hx
      obtain ⟨hx1, hx2⟩ := hw64 x (List.mem_of_getElem? hx)
      have hen := fun W => fn_enter Try.func29 (by kernel_rfl) rfl #[.int .i64 x] W
      have XI := hide (integer_any x wr hx1 hx2)
      have hbd : (catP ((l.take i).map intP)).length + 4 ≤ 500000 := by rw [int_len] at hcl; omega
      have v1 : IntKind.i64.wrap ((i : Int) + 1) = (i : Int) + 1 := by simp [IntKind.wrap, IntKind.bits, IntKind.signed]; omega
      generalize hL : (catP ((l.take i).map intP)).length = L at *
      clear hx hu hT
      go_wp2_with fail
      refine XI.out.mono ?_
      rintro e3 w3 ⟨A3, c3, rfl, ho3, hb3⟩
      have hbase : w.heap.size ≤ w3.heap.size := Nat.le_trans HB.out.size hb3.size
      have HI3 : Hid (OwB w.heap.size w3 A2 (1 + L) c2 (be 1 n ++ catP ((l.take i).map intP))) := hide (HI.out.below hb3)
      have HB3 : Hid (Below w.heap.size w w3) := hide (HB.out.trans (hb3.mono HB.out.size))
      have HO3 := hide ho3
      clear ho3 hb3 XI hen hcell
      go_wp2_with (at_builtin; (refine wpList_append_any _ rfl (.tmp 18) (.tmp 21) 22 rfl w.heap.size 5 i0 _ 1 1 Try.underlying22 hi hz0 hz1 hz2 rfl (by omega) (.slice A2 (1 + L) c2) (1 + L) (bv (be 1 n ++ catP ((l.take i).map intP))) rfl (by exact HI3.out) _ A3 4 c3 (bv (intP x)) rfl (by exact HO3.out.rd) (bv_one _) ?c1 ?c2 ?c3 ?_))
      case c1 => unfold maxLen; omega
      case c2 => omega
      case c3 => exact hbase
      intro v9 w9 hown9 hg9 hat9
      obtain ⟨A9, k9, rfl⟩ := own_slice hown9
      rw [← bv_append, List.append_assoc] at hown9
      simp only [← List.map_take] at hown9
      rw [← HC.out] at hown9
      have hL2 : (catP ((l.take (i + 1)).map intP)).length = L + 4 := by rw [HC.out, List.length_append, hL, int_len]
      have HI9 : Hid (OwB w.heap.size w9 A9 (1 + (catP ((l.take (i + 1)).map intP)).length) k9 (be 1 n ++ catP ((l.take (i + 1)).map intP))) := hide (by rw [hL2, ← Nat.add_assoc]; exact hown9)
      have HB9 : Hid (Below w.heap.size w w9) := hide (HB3.out.grown hg9 hbase (fun g hg => (World.ownsRow.lt HI3.out g hg).1))
      have HL2 := hide hL2
      clear hown9 hg9 hat9 HI3 HB3 HO3 hL2
      go_wp2_with fail
      go_roundw
      case rel => exact ⟨i + 1, by omega, by go_num, A9, k9, by rw [HL2.out]; congr 1 <;> omega, HI9, HB9⟩
      case measure => simp [intOf]; omega
    · obtain rfl : i = n := by omega
      have hlt1 : ¬ (i : Int) < (i : Int) := by omega
      have hall : l.take i = l := List.take_of_length_le (by rw [HL.out]; exact Nat.le_refl _)
      rw [hall] at HI ⊢
      go_wp2_with fail
      go_ret
      exact ⟨A2, c2, rfl, by first | exact HI.out | (rw [HL.out]; exact HI.out), HB.out⟩
end Go.Proofs.Ytedacfjkbfgikaa
