/- What starts a program: a map of functions. -/
import Derived.Test.YtlkccboongnneaaGreatDoorPgU
import Derived.Maps.OwnSet
import Derived.Outline
namespace Go.Proofs.YtlkccboongnneaaGreatDoor
open Go.RowKit
open Go.Maps
set_option linter.unusedVariables false
theorem wpList_insert_own {H : Type} {P : Program} (w : World) {ops : Array Oper} {rest : List Oper} {o : Oper} {a : Act} {Q : Exit → Act → World → Prop}
    (hg : o.guard = none) (m x v : Operand) (t : TypeId) (hop : o.op = Op.insert t m x v)
    (k e : TypeId) (K : Keyed P k) (ht : P.underlying t = some (.map k e)) (R : Value → Option (DataW H × List MemPlace)) (b n : Nat) (D : DataW H)
    (hm : a.eval m = .map (some b)) (hown : w.ownsMap P k R b n D) (hn : n < maxLen) (key val : Value) (kl : Lit) (hx : a.eval x = key) (hv : a.eval v = val) (hkey : keyOf P k key = some kl)
    (d : DataW H) (ps : List MemPlace) (hval : R val = some (d, ps))
    (hK : ∀ w', w'.ownsMap P k R b (n + 1) (D.put kl d) → w.grownBy w' (some b) → wpList P ops Q rest (a.put o.dst undef) w') :
    wpList P ops Q (o :: rest) a w := by
  refine wpList_plain hg fun K' hK' => ?_
  obtain ⟨w', hrun, r1, r2⟩ := hown.update K ht hn hkey hval
  unfold Oper.wp
  simp [execOp, hop, hm, hx, hv, hrun, Result.andThen]
  exact hK' _ _ (hK w' r1 r2)
/-- How a function's value reads: as its number. -/
def fnElem (v : Value) : Option (DataW Unit × List MemPlace) := match v with
  | .func (.func f) a c => if a.size = 0 ∧ c.size = 0 then some (.lit (.int .i64 f), []) else some (.nil, [])
  | _ => some (.nil, [])
theorem keyS : Keyed Tryz.prog 9 := string_keyed Tryz.underlying9
theorem key_of (l : Bs) (h : l.length ≤ maxLen) : keyOf Tryz.prog 9 (.string ⟨l.toArray⟩) = some (.string l) := by
  have := WideMaps.keyOf_string_mk (P := Tryz.prog) (s := ⟨l.toArray⟩) Tryz.underlying9 h
  simpa using this
def prgD : DataW Unit := ((((((((((DataW.map []).put (.string [116, 114, 117, 101]) (.lit (.int .i64 36))).put (.string [102, 97, 108, 115, 101]) (.lit (.int .i64 37))).put (.string [101, 99, 104, 111]) (.lit (.int .i64 38))).put (.string [99, 97, 116]) (.lit (.int .i64 39))).put (.string [119, 99]) (.lit (.int .i64 39))).put (.string [104, 101, 97, 100]) (.lit (.int .i64 40))).put (.string [116, 114]) (.lit (.int .i64 41))).put (.string [101, 110, 118]) (.lit (.int .i64 42))).put (.string [102, 97, 105, 108]) (.lit (.int .i64 43))).put (.string [121, 101, 115]) (.lit (.int .i64 44))
set_option maxRecDepth 100000 in
set_option maxHeartbeats 4000000 in
theorem starts_any (w : World) :
    Calls Tryz.prog 25 #[] w fun e w' => e = .returned (.map (some w.heap.size)) ∧ w'.ownsMap Tryz.prog 9 fnElem w.heap.size 10 prgD ∧ Below w.heap.size w w' := by
  have hmm := @run_makeMap Tryz.prog
  have h0 := World.ownsMap_made w Tryz.prog 9 fnElem
  have b0 := (Below.refl w.heap.size w).alloc (Nat.le_refl _) (.map #[] 0)
  have s0 : w.heap.size ≤ (w.alloc (.map #[] 0)).heap.size := b0.size
  go_enter Tryz.func25, Tryz.ntmps25
  go_wp2_with (refine wpList_insert_own _ rfl _ _ _ 63 rfl 9 61 keyS Tryz.underlying63 fnElem w.heap.size 0 _ rfl h0 (by unfold maxLen; omega) _ (.func (.func 36) #[] #[]) (.string [116, 114, 117, 101]) rfl rfl (key_of [116, 114, 117, 101] (by decide)) _ [] rfl ?_)
  intro w1 h1 g1
  have b1 := b0.grown g1 s0 (fun j hj => by cases hj; exact Nat.le_refl _)
  have s1 : w.heap.size ≤ w1.heap.size := b1.size
  refine wpList_insert_own _ rfl _ _ _ 63 rfl 9 61 keyS Tryz.underlying63 fnElem w.heap.size 1 _ rfl h1 (by unfold maxLen; omega) _ (.func (.func 37) #[] #[]) (.string [102, 97, 108, 115, 101]) rfl rfl (key_of [102, 97, 108, 115, 101] (by decide)) _ [] rfl ?_
  intro w2 h2 g2
  have b2 := b1.grown g2 s1 (fun j hj => by cases hj; exact Nat.le_refl _)
  have s2 : w.heap.size ≤ w2.heap.size := b2.size
  refine wpList_insert_own _ rfl _ _ _ 63 rfl 9 61 keyS Tryz.underlying63 fnElem w.heap.size 2 _ rfl h2 (by unfold maxLen; omega) _ (.func (.func 38) #[] #[]) (.string [101, 99, 104, 111]) rfl rfl (key_of [101, 99, 104, 111] (by decide)) _ [] rfl ?_
  intro w3 h3 g3
  have b3 := b2.grown g3 s2 (fun j hj => by cases hj; exact Nat.le_refl _)
  have s3 : w.heap.size ≤ w3.heap.size := b3.size
  refine wpList_insert_own _ rfl _ _ _ 63 rfl 9 61 keyS Tryz.underlying63 fnElem w.heap.size 3 _ rfl h3 (by unfold maxLen; omega) _ (.func (.func 39) #[] #[]) (.string [99, 97, 116]) rfl rfl (key_of [99, 97, 116] (by decide)) _ [] rfl ?_
  intro w4 h4 g4
  have b4 := b3.grown g4 s3 (fun j hj => by cases hj; exact Nat.le_refl _)
  have s4 : w.heap.size ≤ w4.heap.size := b4.size
  refine wpList_insert_own _ rfl _ _ _ 63 rfl 9 61 keyS Tryz.underlying63 fnElem w.heap.size 4 _ rfl h4 (by unfold maxLen; omega) _ (.func (.func 39) #[] #[]) (.string [119, 99]) rfl rfl (key_of [119, 99] (by decide)) _ [] rfl ?_
  intro w5 h5 g5
  have b5 := b4.grown g5 s4 (fun j hj => by cases hj; exact Nat.le_refl _)
  have s5 : w.heap.size ≤ w5.heap.size := b5.size
  refine wpList_insert_own _ rfl _ _ _ 63 rfl 9 61 keyS Tryz.underlying63 fnElem w.heap.size 5 _ rfl h5 (by unfold maxLen; omega) _ (.func (.func 40) #[] #[]) (.string [104, 101, 97, 100]) rfl rfl (key_of [104, 101, 97, 100] (by decide)) _ [] rfl ?_
  intro w6 h6 g6
  have b6 := b5.grown g6 s5 (fun j hj => by cases hj; exact Nat.le_refl _)
  have s6 : w.heap.size ≤ w6.heap.size := b6.size
  refine wpList_insert_own _ rfl _ _ _ 63 rfl 9 61 keyS Tryz.underlying63 fnElem w.heap.size 6 _ rfl h6 (by unfold maxLen; omega) _ (.func (.func 41) #[] #[]) (.string [116, 114]) rfl rfl (key_of [116, 114] (by decide)) _ [] rfl ?_
  intro w7 h7 g7
  have b7 := b6.grown g7 s6 (fun j hj => by cases hj; exact Nat.le_refl _)
  have s7 : w.heap.size ≤ w7.heap.size := b7.size
  refine wpList_insert_own _ rfl _ _ _ 63 rfl 9 61 keyS Tryz.underlying63 fnElem w.heap.size 7 _ rfl h7 (by unfold maxLen; omega) _ (.func (.func 42) #[] #[]) (.string [101, 110, 118]) rfl rfl (key_of [101, 110, 118] (by decide)) _ [] rfl ?_
  intro w8 h8 g8
  have b8 := b7.grown g8 s7 (fun j hj => by cases hj; exact Nat.le_refl _)
  have s8 : w.heap.size ≤ w8.heap.size := b8.size
  refine wpList_insert_own _ rfl _ _ _ 63 rfl 9 61 keyS Tryz.underlying63 fnElem w.heap.size 8 _ rfl h8 (by unfold maxLen; omega) _ (.func (.func 43) #[] #[]) (.string [102, 97, 105, 108]) rfl rfl (key_of [102, 97, 105, 108] (by decide)) _ [] rfl ?_
  intro w9 h9 g9
  have b9 := b8.grown g9 s8 (fun j hj => by cases hj; exact Nat.le_refl _)
  have s9 : w.heap.size ≤ w9.heap.size := b9.size
  refine wpList_insert_own _ rfl _ _ _ 63 rfl 9 61 keyS Tryz.underlying63 fnElem w.heap.size 9 _ rfl h9 (by unfold maxLen; omega) _ (.func (.func 44) #[] #[]) (.string [121, 101, 115]) rfl rfl (key_of [121, 101, 115] (by decide)) _ [] rfl ?_
  intro w10 h10 g10
  have b10 := b9.grown g10 s9 (fun j hj => by cases hj; exact Nat.le_refl _)
  have s10 : w.heap.size ≤ w10.heap.size := b10.size
  have HO : Hid (w10.ownsMap Tryz.prog 9 fnElem w.heap.size 10 prgD) := hide h10
  have HB := hide b10
  clear h0 b0 s0 h1 b1 s1 h2 b2 s2 h3 b3 s3 h4 b4 s4 h5 b5 s5 h6 b6 s6 h7 b7 s7 h8 b8 s8 h9 b9 s9 h10 b10 s10 g1 g2 g3 g4 g5 g6 g7 g8 g9 g10
  go_wp2_with fail
  go_ret
  exact ⟨rfl, HO.out, HB.out⟩
/-- The function that starts a program. -/
def prgF (l : Bs) : Option Nat := if l = [116, 114, 117, 101] then some 36 else if l = [102, 97, 108, 115, 101] then some 37 else if l = [101, 99, 104, 111] then some 38 else if l = [99, 97, 116] then some 39 else if l = [119, 99] then some 39 else if l = [104, 101, 97, 100] then some 40 else if l = [116, 114] then some 41 else if l = [101, 110, 118] then some 42 else if l = [102, 97, 105, 108] then some 43 else if l = [121, 101, 115] then some 44 else none
theorem prgD_eq : prgD = .map [(.string [99, 97, 116], .lit (.int .i64 39)), (.string [101, 99, 104, 111], .lit (.int .i64 38)), (.string [101, 110, 118], .lit (.int .i64 42)), (.string [102, 97, 105, 108], .lit (.int .i64 43)), (.string [102, 97, 108, 115, 101], .lit (.int .i64 37)), (.string [104, 101, 97, 100], .lit (.int .i64 40)), (.string [116, 114], .lit (.int .i64 41)), (.string [116, 114, 117, 101], .lit (.int .i64 36)), (.string [119, 99], .lit (.int .i64 39)), (.string [121, 101, 115], .lit (.int .i64 44))] := by
  rfl
theorem prg_look (l : Bs) : (prgF l = none ∧ prgD.atKey (.string l) .nil = .nil ∧ Maps.has prgD (.string l) = false) ∨ (∃ f, prgF l = some f ∧ prgD.atKey (.string l) .nil = .lit (.int .i64 f) ∧ Maps.has prgD (.string l) = true) := by
  rw [prgD_eq]
  by_cases h1 : l = [116, 114, 117, 101]
  · subst h1; exact .inr ⟨36, rfl, rfl, rfl⟩
  by_cases h2 : l = [102, 97, 108, 115, 101]
  · subst h2; exact .inr ⟨37, rfl, rfl, rfl⟩
  by_cases h3 : l = [101, 99, 104, 111]
  · subst h3; exact .inr ⟨38, rfl, rfl, rfl⟩
  by_cases h4 : l = [99, 97, 116]
  · subst h4; exact .inr ⟨39, rfl, rfl, rfl⟩
  by_cases h5 : l = [119, 99]
  · subst h5; exact .inr ⟨39, rfl, rfl, rfl⟩
  by_cases h6 : l = [104, 101, 97, 100]
  · subst h6; exact .inr ⟨40, rfl, rfl, rfl⟩
  by_cases h7 : l = [116, 114]
  · subst h7; exact .inr ⟨41, rfl, rfl, rfl⟩
  by_cases h8 : l = [101, 110, 118]
  · subst h8; exact .inr ⟨42, rfl, rfl, rfl⟩
  by_cases h9 : l = [102, 97, 105, 108]
  · subst h9; exact .inr ⟨43, rfl, rfl, rfl⟩
  by_cases h10 : l = [121, 101, 115]
  · subst h10; exact .inr ⟨44, rfl, rfl, rfl⟩
  refine .inl ⟨by unfold prgF; simp [h1, h2, h3, h4, h5, h6, h7, h8, h9, h10], ?_, ?_⟩
  · simp [DataW.atKey, Lit.sameKey, Ne.symm h1, Ne.symm h2, Ne.symm h3, Ne.symm h4, Ne.symm h5, Ne.symm h6, Ne.symm h7, Ne.symm h8, Ne.symm h9, Ne.symm h10]
  · simp [Maps.has, Lit.sameKey, Ne.symm h1, Ne.symm h2, Ne.symm h3, Ne.symm h4, Ne.symm h5, Ne.symm h6, Ne.symm h7, Ne.symm h8, Ne.symm h9, Ne.symm h10]
theorem zeroF (w : World) : (zeroValue 61).run Tryz.prog w = .ok .nilFunc w := by kernel_rfl
/-- Looking a program up. -/
theorem look_any (l : Bs) (hl : l.length ≤ maxLen) (b : Nat) (w : World) (h : w.ownsMap Tryz.prog 9 fnElem b 10 prgD) :
    (prgF l = none ∧ ∃ v, (Instr.lookup 63 (.map (some b)) (.string ⟨l.toArray⟩) true).run Tryz.prog w = .ok (.tuple #[v, .bool false]) w) ∨
    (∃ f, prgF l = some f ∧ (Instr.lookup 63 (.map (some b)) (.string ⟨l.toArray⟩) true).run Tryz.prog w = .ok (.tuple #[.func (.func f) #[] #[], .bool true]) w) := by
  obtain ⟨v, ps, hrun, hv⟩ := h.look_ok keyS Tryz.underlying63 (zeroF w) (zd := .nil) (zp := []) rfl (key_of l hl)
  rcases prg_look l with ⟨h1, h2, h3⟩ | ⟨f, h1, h2, h3⟩
  · rw [h3] at hrun
    exact .inl ⟨h1, v, hrun⟩
  · rw [h3] at hrun
    rw [h2] at hv
    refine .inr ⟨f, h1, ?_⟩
    have : v = .func (.func f) #[] #[] := by
      unfold fnElem at hv
      split at hv
      · rename_i g a c
        split at hv
        · rename_i hz
          obtain rfl : a = #[] := Array.size_eq_zero_iff.1 hz.1
          obtain rfl : c = #[] := Array.size_eq_zero_iff.1 hz.2
          obtain rfl : g = f := by simp at hv; exact Int.ofNat.inj (by simpa using hv.1)
          rfl
        · simp at hv
      · simp at hv
    rw [this] at hrun
    exact hrun
set_option maxHeartbeats 1000000 in
theorem known_any (l : Bs) (hl : l.length ≤ maxLen) (w : World) :
    Calls Tryz.prog 11 #[.string ⟨l.toArray⟩] w fun e w' => e = .returned (.bool (prgF l).isSome) ∧ Below w.heap.size w w' := by
  go_enter Tryz.func11, Tryz.ntmps11
  go_wp2_with fail
  refine (starts_any w).mono ?_
  rintro e w1 ⟨rfl, ho, hb⟩
  have HB := hide hb
  clear hb
  rcases look_any l hl w.heap.size w1 ho with ⟨hF, v, hrun⟩ | ⟨f, hF, hrun⟩
  · have HF := hide hF
    clear hF ho
    go_wp2_with fail
    go_ret
    exact ⟨by rw [HF.out]; rfl, HB.out⟩
  · have HF := hide hF
    clear hF ho
    go_wp2_with fail
    go_ret
    exact ⟨by rw [HF.out]; rfl, HB.out⟩
end Go.Proofs.YtlkccboongnneaaGreatDoor
