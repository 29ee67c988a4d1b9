/- Rows of texts; strings.Join. -/
import Derived.Test.YthbackkcamgidaaGreatDoorMore
import Derived.Lib.Strings
namespace Go.Proofs.YthbackkcamgidaaGreatDoor
open Go.RowKit
set_option linter.unusedVariables false
abbrev Bs := List UInt8
theorem bs_of (s : ByteArray) : ∃ l : Bs, s = ⟨l.toArray⟩ := ⟨s.data.toList, by cases s; simp⟩
def sv (k : Bs) : Value := .string ⟨k.toArray⟩
def svs (ks : List Bs) : List Value := ks.map sv
theorem svs_length (ks : List Bs) : (svs ks).length = ks.length := by simp [svs]
theorem svs_append (a b : List Bs) : svs (a ++ b) = svs a ++ svs b := by simp [svs]
theorem svs_one (ks : List Bs) : ∀ u ∈ svs ks, u.oneCell' = true := by
  intro u hu
  simp only [svs, List.mem_map] at hu
  obtain ⟨b, _, rfl⟩ := hu
  rfl
theorem svs_get (ks : List Bs) (j : Nat) (h : j < ks.length) : (svs ks)[j]? = some (sv ks[j]) := by simp [svs, h]
theorem infoStr : (Tryz.prog.info? 9).map (fun i => (i.zero, i.size, i.bytes)) = some (some (.string ⟨#[]⟩), 1, 16) := by kernel_rfl
theorem sizeStr : (Tryz.prog.info? 9).map (·.size) = some 1 := by kernel_rfl
/-- A row of texts of the call's own. -/
def Ow (B : Nat) (w : World) (A : Option Addr) (n c : Nat) (ks : List Bs) : Prop := w.ownsRow B 9 1 (.slice A n c) n (svs ks)
theorem Ow.len {B : Nat} {w : World} {A : Option Addr} {n c : Nat} {ks : List Bs} (h : Ow B w A n c ks) : ks.length = n := by have := h.1; rw [svs_length] at this; omega
theorem Ow.rd {B : Nat} {w : World} {A : Option Addr} {n c : Nat} {ks : List Bs} (h : Ow B w A n c ks) : Reads w w.heap.size 1 A n (svs ks) := Reads.of_own h
theorem Ow.below {B : Nat} {w w' : World} {A : Option Addr} {n c : Nat} {ks : List Bs} (h : Ow B w A n c ks) (hb : Below w.heap.size w w') : Ow B w' A n c ks := own_below h hb
theorem Ow.more {B C : Nat} {w : World} {A : Option Addr} {n c : Nat} {ks : List Bs} (h : Ow B w A n c ks) (hB : C ≤ B) : Ow C w A n c ks := own_more h hB
theorem Ow.alloc {B : Nat} {w : World} {A : Option Addr} {n c : Nat} {ks : List Bs} (h : Ow B w A n c ks) (o : Obj) : Ow B (w.alloc o) A n c ks := World.ownsRow.alloc h o
theorem Ow.none_ (B : Nat) (w : World) : Ow B w none 0 0 [] := World.ownsRow_nil _ _ _ _

theorem one_str (W : World) (x : Bs) : Reads (W.alloc (.cells #[.string ⟨x.toArray⟩] 9)) (W.heap.size + 1) 1 (some ⟨W.heap.size, 0, none⟩) 1 (svs [x]) := by
  refine ⟨rfl, fun _ => ⟨_, rfl, by simp, ?_⟩⟩
  intro j u hu
  match j with
  | 0 =>
    simp only [svs, sv, List.map_cons, List.map_nil, List.getElem?_cons_zero, Option.some.injEq] at hu
    subst hu
    rw [add_zero_]
    exact (Blk.new W 9 #[.string ⟨x.toArray⟩]).cell 0
  | j + 1 => simp [svs] at hu
theorem ow_next {B : Nat} {w wr w2 : World} {A : Option Addr} {n c : Nat} {ks : List Bs} {x : Bs} {v1 : Value} {o : Obj} (h : Ow B wr A n c ks) (h1 : w2.ownsRow B 9 1 v1 (n + 1) (svs ks ++ svs [x])) (hg : (wr.alloc o).grownBy w2 (Value.slice A n c).ownBlock) {g : Nat} {t : TypeId} {cs : Array Value} (hb : Blk wr g t cs) (hgB : g < B) (hw : Below w.heap.size w wr) (hCB : w.heap.size ≤ B) :
    ∃ A' c', v1 = .slice A' (n + 1) c' ∧ Ow B w2 A' (n + 1) c' (ks ++ [x]) ∧ Blk w2 g t cs ∧ Below w.heap.size w w2 := by
  obtain ⟨A', c', rfl⟩ := own_slice h1
  refine ⟨A', c', rfl, by unfold Ow; rw [svs_append]; exact h1, Blk.grown (hb.alloc o) hg ?_, ?_⟩
  · intro e
    have := (World.ownsRow.lt h g e.symm).1
    omega
  · exact Below.grown (h := hw.alloc hw.size o) (hg := hg) (by have := hw.size; simp; omega) (fun g hg => by have := (World.ownsRow.lt h g hg).1; omega)
theorem ow_next' {B : Nat} {w wr w2 : World} {A : Option Addr} {n c : Nat} {ks : List Bs} {x : Bs} {v1 : Value} {o : Obj} (h : Ow B wr A n c ks) (h1 : w2.ownsRow B 9 1 v1 (n + 1) (svs ks ++ svs [x])) (hg : (wr.alloc o).grownBy w2 (Value.slice A n c).ownBlock) (hw : Below w.heap.size w wr) (hCB : w.heap.size ≤ B) :
    ∃ A' c', v1 = .slice A' (n + 1) c' ∧ Ow B w2 A' (n + 1) c' (ks ++ [x]) ∧ Below w.heap.size w w2 := by
  obtain ⟨A', c', rfl⟩ := own_slice h1
  exact ⟨A', c', rfl, by unfold Ow; rw [svs_append]; exact h1, Below.grown (h := hw.alloc hw.size o) (hg := hg) (by have := hw.size; simp; omega) (fun g hg => by have := (World.ownsRow.lt h g hg).1; omega)⟩
theorem ow_drop {B : Nat} {w : World} {A : Option Addr} {q c : Nat} {ks : List Bs} (h : Ow B w A (q + 1) c ks) : Ow B w A q c ks.dropLast ∧ q ≤ c ∧ ∃ g, A = some ⟨g, 0, none⟩ ∧ w.cell? ⟨g, q, none⟩ = some (.string ⟨(ks.getLastD []).toArray⟩) := by
  have hl := h.len
  obtain ⟨h1, h2⟩ := h
  rcases h2 with ⟨hv, _⟩ | ⟨g, cap, cur, hv, hb, hh, hnc, hmx, hsz, htk⟩
  · cases hv
  · injection hv with e1 e2 e3
    subst e1; subst e3
    refine ⟨⟨by rw [svs_length, List.length_dropLast, hl]; omega, .inr ⟨g, c, cur, rfl, hb, hh, by omega, hmx, hsz, ?_⟩⟩, by omega, g, rfl, ?_⟩
    · have e : svs ks.dropLast = (svs ks).take q := by
        unfold svs; rw [List.dropLast_eq_take, hl, List.map_take]; rfl
      rw [e, ← htk, List.take_take]
      congr 1
      omega
    · rw [cell_of_row w g q cur 9 (0, 0) hh]
      have hq : q < ks.length := by omega
      have e := svs_get ks q hq
      rw [← htk, List.getElem?_take, if_pos (by omega), Array.getElem?_toList] at e
      rw [e]
      have e2 : ks.getLastD [] = ks[q] := by
        rw [List.getLastD_eq_getLast?, List.getLast?_eq_getElem?, hl]; simp [hq]
      rw [e2]; rfl
theorem Ow.addr {B : Nat} {w : World} {A : Option Addr} {n c : Nat} {ks : List Bs} (h : Ow B w A n c ks) : n ≤ c ∧ (0 < n → ∃ g o, A = some ⟨g, o, none⟩) := by
  rcases h.2 with ⟨hv, h0⟩ | ⟨g, cap, cur, hv, hb, hh, hnc, hmx, hsz, htk⟩
  · injection hv with e1 e2 e3; subst h0; exact ⟨Nat.zero_le _, fun h => absurd h (by omega)⟩
  · injection hv with e1 e2 e3; subst e3; exact ⟨hnc, fun _ => ⟨g, 0, e1⟩⟩
end Go.Proofs.YthbackkcamgidaaGreatDoor
