/- 'clear' of a part of a block that is known whole. -/
import Derived.Test.YtbbobffedgcbhaaGreatDoorShaT
import Derived.Test.YtbbobffedgcbhaaGreatDoorGr
import Derived.Lib.SliceRun
namespace Go.Proofs.YtbbobffedgcbhaaGreatDoor
open Go.RowKit
set_option linter.unusedVariables false
theorem splice_cons (cur : List Value) (off : Nat) (v : Value) (vs : List Value) (h : off < cur.length) : splice (cur.set off v) (off + 1) vs = splice cur off (v :: vs) := by
  have e1 : (cur.set off v).take (off + 1) = cur.take off ++ [v] := by
    rw [List.take_succ_eq_append_getElem (by simpa using h), List.take_set_of_le (Nat.le_refl _)]
    simp
  have e2 : (cur.set off v).drop (off + 1 + vs.length) = cur.drop (off + (v :: vs).length) := by
    rw [List.drop_set_of_lt (by omega)]
    congr 1
    simp; omega
  simp only [splice, e1, e2, List.append_assoc, List.cons_append, List.nil_append]
theorem Blk.setCells {t g : Nat} : ∀ (vs : List Value) (off : Nat) (cur : List Value) (w : World), Blk w g t cur.toArray → off + vs.length ≤ cur.length → Blk (w.setCells g off vs) g t (splice cur off vs).toArray
  | [], off, cur, w, h, _ => by simpa [World.setCells, splice] using h
  | v :: vs, off, cur, w, h, hl => by
    simp only [List.length_cons] at hl
    have h1 := h.set_ off v
    rw [List.setIfInBounds_toArray] at h1
    have := Blk.setCells vs (off + 1) (cur.set off v) _ h1 (by rw [List.length_set]; omega)
    rw [splice_cons cur off v vs (by omega)] at this
    exact this
theorem below_setCells' {B g : Nat} {w0 : World} (hg : B ≤ g) : ∀ (vs : List Value) (off : Nat) (w : World), Below B w0 w → Below B w0 (w.setCells g off vs)
  | [], _, _, h => h
  | v :: vs, off, w, h => below_setCells' hg vs (off + 1) _ (h.setCell (p := ⟨g, off, none⟩) hg v)
theorem wpList_clear_row {P : Program} {w : World} {ops : Array Oper} {rest : List Oper} {o : Oper} {a : Act} {Q : Exit → Act → World → Prop} (hgd : o.guard = none) (s : Operand) (t e : TypeId) (z : Value)
    (ho : o.op = .call { callee := .builtin .clear, args := #[s], argTypes := #[t] }) (ht : P.underlying t = some (.slice e)) (hv : ∀ w, (zeroValue e).run P w = .ok z w) (hz : z.cells = #[z]) (h1 : z.oneCell' = true)
    (A : Option Addr) (n c : Nat) (hs : a.eval s = .slice A n c) (g off T : Nat) (cur : List Value) (hg : Blk w g T cur.toArray) (hfit : off + n ≤ cur.length) (hA : 0 < n → A = some ⟨g, off, none⟩)
    (B : Nat) (w0 : World) (hb : Below B w0 w) (hBg : B ≤ g)
    (h : ∀ w', Hid (Blk w' g T (splice cur off (List.replicate n z)).toArray) → Below B w0 w' → wpList P ops Q rest (a.put o.dst (.tuple #[])) w') : wpList P ops Q (o :: rest) a w := by
  refine wpList_plain hgd fun K hK => ?_
  rcases Nat.eq_zero_or_pos n with h0 | h0
  · subst h0
    have hrun : (Builtin.clear_ #[t] o.type #[.slice A 0 c]).run P w = .ok (.tuple #[]) w := by
      cases A <;> simp [Builtin.clear_, run_underlying ht]
    unfold Oper.wp
    simp [execOp, ho, resolve, invoke, builtin, hs, hrun, Result.andThen]
    exact hK _ _ (h w (hide (by simpa [splice] using hg)) hb)
  · obtain rfl := hA h0
    have hrun := Lib.run_clear_slice (P := P) w t e o.type z ht hv hz h1 g off n c h0 (fun j hj => by rw [hg.cell]; simp; omega) (fun j hj => hg.frozen _)
    unfold Oper.wp
    simp [execOp, ho, resolve, invoke, builtin, hs, hrun, Result.andThen]
    exact hK _ _ (h _ (Blk.setCells _ off cur w hg (by simpa using hfit)) (below_setCells' hBg _ off w hb))
theorem zeroU8 : ∀ w, (zeroValue 5).run Tryz.prog w = .ok (.int .u8 0) w := fun w => by kernel_rfl
/-- The pieces of a message. -/
def Row1 (w : World) (B : Nat) (v : Value) (b : List UInt8) : Prop := ∃ A n c, v = .slice A n c ∧ n ≤ c ∧ Reads w B 1 A n (bv b)
def RowsV (w : World) (B : Nat) (vs : List Value) (bs : List (List UInt8)) : Prop := vs.length = bs.length ∧ ∀ (j : Nat) v b, vs[j]? = some v → bs[j]? = some b → Row1 w B v b
theorem RowsV.keep {w w' : World} {B : Nat} {vs : List Value} {bs : List (List UInt8)} (h : RowsV w B vs bs) (hk : ∀ p : Addr, p.block < B → w'.cell? p = w.cell? p) : RowsV w' B vs bs :=
  ⟨h.1, fun j v b h1 h2 => by obtain ⟨A, n, c, e, hc, hr⟩ := h.2 j v b h1 h2; exact ⟨A, n, c, e, hc, hr.keep hk⟩⟩
theorem Reads.drop_ {w : World} {B n c : Nat} {A : Option Addr} {xs : List Value} (h : Reads w B 1 A n xs) (hc : n ≤ c) {l : Nat} (hl : l ≤ n) : Reads w B 1 (if c = l then A else A.map (·.add l)) (n - l) (xs.drop l) := by
  refine ⟨by rw [List.length_drop, h.1]; omega, fun h0 => ?_⟩
  obtain ⟨ad, e, hb, hc'⟩ := h.2 (by omega)
  rw [if_neg (by omega), e]
  refine ⟨ad.add l, rfl, by rw [block_of_add]; exact hb, fun j u hj => ?_⟩
  rw [add_of_add]
  rw [List.getElem?_drop] at hj
  exact hc' _ _ hj
theorem sizeU32 : (Tryz.prog.info? 143).map (·.size) = some 1 := by kernel_rfl
/-- The first words lie where the program's first variable is. -/
def FirstAt (w : World) : Prop := ∀ t, t < 8 → w.cell? ⟨3, t, none⟩ = some (.int .u32 (firstL.getD t 0 : Nat))
theorem FirstAt.keep {w w' : World} (h : FirstAt w) (hk : ∀ p : Addr, p.block = 3 → w'.cell? p = w.cell? p) : FirstAt w' := fun t ht => (hk _ rfl).trans (h t ht)
theorem KeysAt.keep {w w' : World} (h : KeysAt w) (hk : ∀ p : Addr, p.block = 5 → w'.cell? p = w.cell? p) : KeysAt w' := fun t ht => (hk _ rfl).trans (h t ht)
/-- What a sum holds when it has taken in m. -/
def SumAt (w : World) (g : Nat) (wr : World) (m : List UInt8) : Prop :=
  Blk wr g 146 (wv (stateL m).list).toArray ∧ (∃ blk : List UInt8, blk.length = 64 ∧ blk.take (m.length % 64) = restL m ∧ Blk wr (g + 1) 147 (bv blk).toArray) ∧ Below g w wr
theorem splice_bv (blk x : List UInt8) (f : Nat) : splice (bv blk) f (bv x) = bv (blk.take f ++ (x ++ blk.drop (f + x.length))) := by
  simp [splice, bv, List.map_take, List.map_drop]
end Go.Proofs.YtbbobffedgcbhaaGreatDoor
