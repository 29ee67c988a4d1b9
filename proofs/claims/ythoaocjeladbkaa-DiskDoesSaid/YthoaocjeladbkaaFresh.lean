/- append onto a fresh row that has no room: nothing that was there is written. -/
import Derived.Test.YthoaocjeladbkaaAppend
import Derived.Test.YthoaocjeladbkaaClone
namespace Go.Proofs.Ythoaocjeladbkaa
open Go.RowKit
section
variable {P : Program} (w : World)
theorem run_append_fresh_eq (t ty e : TypeId) (i : TypeInfo) (ht : P.underlying t = some (.slice e)) (hi : P.info? e = some i)
    (ad : Addr) (x : Value) (m c : Nat) (A : Option Addr) (hx : x = .slice A m c) (hm : 0 < m) (hbytes : m * i.bytes ≤ 140737488355328) :
    (Builtin.append_ #[t, t] ty #[.slice (some ad) 0 0, x]).run P w = (Builtin.append_ #[t, t] ty #[.slice none 0 0, x]).run P w := by
  subst hx
  have h2 : ¬ (281474976710656 < m * i.bytes) := by omega
  have h4 : Builtin.nextslicecap m 0 = m := by unfold Builtin.nextslicecap; rw [if_pos (by omega)]
  have h5 : ¬ m = 0 := by omega
  simp [Builtin.append_, run_underlying ht, sizeOf, typeInfo, hi, Builtin.lenOf, Builtin.firstCells, loadCells, loadCellsFrom, h2, h4, h5]
/-- What an append of m cells onto a row without room leaves. -/
def Fresh (e : TypeId) (size : Nat) (w w' : World) (D : Option Addr) (v' : Value) (m : Nat) (news : List Value) : Prop :=
  (m = 0 ∧ news = [] ∧ v' = .slice D 0 0 ∧ w' = w) ∨ (0 < m ∧ w'.ownsRow w.heap.size e size v' m news ∧ Below w.heap.size w w')
theorem run_append_fresh (t ty e : TypeId) (i : TypeInfo) (z : Value) (size bytes : Nat) (ht : P.underlying t = some (.slice e)) (hi : P.info? e = some i) (hz : i.zero = some z)
    (hsize : i.size = size) (hby : i.bytes = bytes) (hzs : z.cells.size = size) (hsz : 0 < size) (D : Option Addr)
    (B : Nat) (A : Option Addr) (m c : Nat) (news : List Value) (hr : Reads w B size A m news) (h1 : ∀ u ∈ news, u.oneCell' = true)
    (h63 : m ≤ maxLen) (hbytes : m * bytes ≤ 140737488355328) :
    ∃ v' w', (Builtin.append_ #[t, t] ty #[.slice D 0 0, .slice A m c]).run P w = .ok v' w' ∧ Fresh e size w w' D v' m news := by
  rcases Nat.eq_zero_or_pos m with h0 | h0
  · subst h0
    have hn : news = [] := List.eq_nil_of_length_eq_zero (by simpa using hr.1)
    refine ⟨.slice D 0 0, w, ?_, .inl ⟨rfl, hn, rfl, rfl⟩⟩
    rcases A with _ | a <;> rcases D with _ | d <;> simp [Builtin.append_, run_underlying ht, sizeOf, typeInfo, hi, Builtin.lenOf, Builtin.firstCells, loadCells, loadCellsFrom, storeCells]
  · have key : ∃ v' w', (Builtin.append_ #[t, t] ty #[.slice none 0 0, .slice A m c]).run P w = .ok v' w' ∧ Fresh e size w w' D v' m news := by
      obtain ⟨v', w', hrun, h2, h3, h4⟩ := run_append_any (P := P) w w.heap.size t ty e i z size bytes ht hi hz hsize hby hzs hsz (.slice none 0 0) 0 [] (World.ownsRow_nil _ _ _ _) B A m c news hr h1 (by omega) (by simpa using hbytes) (Nat.le_refl _)
      refine ⟨v', w', hrun, .inr ⟨h0, by simpa using h2, ?_⟩⟩
      exact (Below.refl w.heap.size w).grown h3 (Nat.le_refl _) (fun g hg => by simp [Value.ownBlock] at hg)
    rcases D with _ | d
    · exact key
    · obtain ⟨v', w', hrun, hF⟩ := key
      refine ⟨v', w', ?_, hF.imp (fun h => absurd h.1 (by omega)) id⟩
      rw [run_append_fresh_eq w t ty e i ht hi d _ m c A rfl h0 (by rw [hby]; exact hbytes), hrun]
theorem wp_append_fresh {o : Oper} {a : Act} {K : Act → World → Prop} {Q : Exit → Act → World → Prop} (s x : Operand) (t : TypeId)
    (ho : o.op = .call { callee := .builtin .append, args := #[s, x], argTypes := #[t, t] })
    (e : TypeId) (i : TypeInfo) (z : Value) (size bytes : Nat) (ht : P.underlying t = some (.slice e)) (hi : P.info? e = some i) (hz : i.zero = some z)
    (hsize : i.size = size) (hby : i.bytes = bytes) (hzs : z.cells.size = size) (hsz : 0 < size)
    (D : Option Addr) (hs : a.eval s = .slice D 0 0)
    (B : Nat) (A : Option Addr) (m c : Nat) (news : List Value) (hx : a.eval x = .slice A m c) (hr : Reads w B size A m news) (h1 : ∀ u ∈ news, u.oneCell' = true)
    (h63 : m ≤ maxLen) (hbytes : m * bytes ≤ 140737488355328)
    (h : ∀ v' w', Fresh e size w w' D v' m news → K (a.put o.dst v') w') : o.wp P a w K Q := by
  obtain ⟨v', w', hrun, h2⟩ := run_append_fresh (P := P) w t o.type e i z size bytes ht hi hz hsize hby hzs hsz D B A m c news hr h1 h63 hbytes
  unfold Oper.wp execOp
  simp only [ho, resolve, invoke, builtin, Sem.run_bind, Sem.run_pure, Result.andThen_ok, List.map_toArray, List.map_cons, List.map_nil, hs, hx, hrun]
  exact h v' w' h2
theorem step_append_fresh {ops : Array Oper} {o : Oper} {a : Act} {K : Act → World → Prop} {Q : Exit → Act → World → Prop} {E : Prop} (hgd : o.guard = none) (s x : Operand) (t : TypeId)
    (ho : o.op = .call { callee := .builtin .append, args := #[s, x], argTypes := #[t, t] })
    (e : TypeId) (i : TypeInfo) (z : Value) (size bytes : Nat) (ht : P.underlying t = some (.slice e)) (hi : P.info? e = some i) (hz : i.zero = some z)
    (hsize : i.size = size) (hby : i.bytes = bytes) (hzs : z.cells.size = size) (hsz : 0 < size)
    (D : Option Addr) (hs : a.eval s = .slice D 0 0)
    (B : Nat) (A : Option Addr) (m c : Nat) (news : List Value) (hx : a.eval x = .slice A m c) (hr : Reads w B size A m news) (h1 : ∀ u ∈ news, u.oneCell' = true)
    (h63 : m ≤ maxLen) (hbytes : m * bytes ≤ 140737488355328)
    (h : ∀ v' w', Fresh e size w w' D v' m news → K (a.put o.dst v') w') :
    if Region.wanted o (yielded ops a.tmps) = true then Oper.wp P o a w K Q else E := by
  have hw : Region.wanted o (yielded ops a.tmps) = true := by simp [Region.wanted, hgd]
  rw [if_pos hw]
  exact wp_append_fresh w s x t ho e i z size bytes ht hi hz hsize hby hzs hsz D hs B A m c news hx hr h1 h63 hbytes h
theorem wpList_append_fresh {ops : Array Oper} {rest : List Oper} {o : Oper} {a : Act} {Q : Exit → Act → World → Prop} (hgd : o.guard = none) (s x : Operand) (t : TypeId)
    (ho : o.op = .call { callee := .builtin .append, args := #[s, x], argTypes := #[t, t] })
    (e : TypeId) (i : TypeInfo) (z : Value) (size bytes : Nat) (ht : P.underlying t = some (.slice e)) (hi : P.info? e = some i) (hz : i.zero = some z)
    (hsize : i.size = size) (hby : i.bytes = bytes) (hzs : z.cells.size = size) (hsz : 0 < size)
    (D : Option Addr) (hs : a.eval s = .slice D 0 0)
    (B : Nat) (A : Option Addr) (m c : Nat) (news : List Value) (hx : a.eval x = .slice A m c) (hr : Reads w B size A m news) (h1 : ∀ u ∈ news, u.oneCell' = true)
    (h63 : m ≤ maxLen) (hbytes : m * bytes ≤ 140737488355328)
    (h : ∀ v' w', Fresh e size w w' D v' m news → wpList P ops Q rest (a.put o.dst v') w') : wpList P ops Q (o :: rest) a w :=
  wpList_plain hgd fun _ hK => wp_append_fresh w s x t ho e i z size bytes ht hi hz hsize hby hzs hsz D hs B A m c news hx hr h1 h63 hbytes fun v' w' h2 => hK _ _ (h v' w' h2)
end
/-- A row of bytes that was made at or above B, or holds nothing. -/
def Rz (B : Nat) (w : World) (A : Option Addr) (n c : Nat) (bs : List UInt8) : Prop := (n = 0 ∧ bs = [] ∧ c = 0) ∨ w.ownsRow B 5 1 (.slice A n c) n (bv bs)
theorem Rz.rd {B : Nat} {w : World} {A : Option Addr} {n c : Nat} {bs : List UInt8} (h : Rz B w A n c bs) : Rd w A n bs := by
  rcases h with ⟨rfl, rfl, _⟩ | h
  · exact Reads.none_
  · exact Reads.of_own h
theorem Rz.below {B : Nat} {w w' : World} {A : Option Addr} {n c : Nat} {bs : List UInt8} (h : Rz B w A n c bs) (hb : Below w.heap.size w w') : Rz B w' A n c bs := h.imp id fun h => own_below h hb
theorem Rz.set_ {B : Nat} {w : World} {A : Option Addr} {n c : Nat} {bs : List UInt8} (h : Rz B w A n c bs) {p : Addr} {t : TypeId} {cs : Array Value} (hg : Blk w p.block t cs) (hne : 5 ≠ t) (u : Value) : Rz B (w.setCell p u) A n c bs := h.imp id fun h => own_set_blk h hg hne u
theorem Rz.alloc {B : Nat} {w : World} {A : Option Addr} {n c : Nat} {bs : List UInt8} (h : Rz B w A n c bs) (o : Obj) : Rz B (w.alloc o) A n c bs := h.imp id fun h => World.ownsRow.alloc h o
theorem Rz.more {B C : Nat} {w : World} {A : Option Addr} {n c : Nat} {bs : List UInt8} (h : Rz B w A n c bs) (hB : C ≤ B) : Rz C w A n c bs := h.imp id fun h => own_more h hB
/-- What an append leaves, in one form: a row, and nothing below the old size changed. -/
theorem Fresh.out {w w' : World} {D : Option Addr} {v' : Value} {m : Nat} {bs : List UInt8} (h : Fresh 5 1 w w' D v' m (bv bs)) : ∃ A' c', v' = .slice A' m c' ∧ Rz w.heap.size w' A' m c' bs ∧ Below w.heap.size w w' := by
  rcases h with ⟨rfl, hn, rfl, rfl⟩ | ⟨h0, ho, hb⟩
  · refine ⟨D, 0, rfl, .inl ⟨rfl, ?_, rfl⟩, Below.refl _ _⟩
    have h := congrArg List.length hn
    rw [bv_length] at h
    exact List.eq_nil_of_length_eq_zero h
  · obtain ⟨A', c', rfl⟩ := own_slice ho
    exact ⟨A', c', rfl, .inr ho, hb⟩
theorem Rz.caps {B : Nat} {w : World} {A : Option Addr} {n c : Nat} {bs : List UInt8} (h : Rz B w A n c bs) : n ≤ c ∧ c ≤ maxLen := by
  rcases h with ⟨rfl, _, rfl⟩ | h
  · exact ⟨Nat.le_refl _, Nat.zero_le _⟩
  · rcases h.2 with ⟨hv, h0⟩ | ⟨g, cap, cur, hv, _, _, h1, h2, _⟩
    · injection hv with e1 e2 e3; subst e3; subst h0; exact ⟨Nat.le_refl _, Nat.zero_le _⟩
    · injection hv with e1 e2 e3; subst e3; exact ⟨h1, h2⟩
theorem step_fresh_u8 {ops : Array Oper} {o : Oper} {a : Act} {K : Act → World → Prop} {Q : Exit → Act → World → Prop} {E : Prop} (w w0 : World) (hk : Below w0.heap.size w0 w) (hgd : o.guard = none) (s x : Operand)
    (ho : o.op = .call { callee := .builtin .append, args := #[s, x], argTypes := #[22, 22] }) (hs : ∃ D, a.eval s = .slice D 0 0)
    (B : Nat) (A : Option Addr) (m c : Nat) (bs : List UInt8) (hx : a.eval x = .slice A m c) (hr : Reads w B 1 A m (bv bs)) (hm : m ≤ 100000000)
    (h : ∀ A' c' w', Rz w0.heap.size w' A' m c' bs → Below w.heap.size w w' → Below w0.heap.size w0 w' → K (a.put o.dst (.slice A' m c')) w') :
    if Region.wanted o (yielded ops a.tmps) = true then Oper.wp Try.prog o a w K Q else E := by
  obtain ⟨i0, hi, hz0, hz1, hz2⟩ := info_parts infoU8
  obtain ⟨D, hs⟩ := hs
  refine step_append_fresh (P := Try.prog) w hgd s x 22 ho 5 i0 _ 1 1 Try.underlying22 hi hz0 hz1 hz2 rfl (Nat.lt_succ_self 0) D hs B A m c (bv bs) hx hr (bv_one _) (by unfold maxLen; omega) (by omega) ?_
  intro v' w' hF
  obtain ⟨A', c', rfl, hR, hb⟩ := hF.out
  exact h A' c' w' (hR.more hk.size) hb (below_more hk (Nat.le_refl _) hb)
end Go.Proofs.Ythoaocjeladbkaa
