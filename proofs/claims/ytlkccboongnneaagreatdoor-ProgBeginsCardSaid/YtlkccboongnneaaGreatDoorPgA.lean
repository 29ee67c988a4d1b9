/- clone.List at texts and at integers; a child in memory. -/
import Derived.Test.YtlkccboongnneaaGreatDoorPgS
import Derived.Test.YtlkccboongnneaaGreatDoorPgM
import Derived.Test.YtlkccboongnneaaGreatDoorMemK
import Derived.Test.YtlkccboongnneaaGreatDoorDkClone
import Derived.Lib.Hide
namespace Go.Proofs.YtlkccboongnneaaGreatDoor
open Go.RowKit
set_option linter.unusedVariables false
def ivs (l : List Int) : List Value := l.map fun (k : Int) => .int .i64 k
theorem ivs_length (l : List Int) : (ivs l).length = l.length := by simp [ivs]
theorem ivs_one (l : List Int) : ∀ u ∈ ivs l, u.oneCell' = true := by
  intro u hu
  simp only [ivs, List.mem_map] at hu
  obtain ⟨b, _, rfl⟩ := hu
  rfl
theorem infoInt : (Tryz.prog.info? 3).map (fun i => (i.zero, i.size, i.bytes)) = some (some (.int .i64 0), 1, 8) := by kernel_rfl
def Oi (B : Nat) (w : World) (A : Option Addr) (n c : Nat) (l : List Int) : Prop := w.ownsRow B 3 1 (.slice A n c) n (ivs l)
def Ob (B : Nat) (w : World) (A : Option Addr) (n c : Nat) (l : Bs) : Prop := w.ownsRow B 5 1 (.slice A n c) n (bv l)
theorem rd_lenS {w : World} {B n : Nat} {A : Option Addr} {ks : List Bs} (h : Reads w B 1 A n (svs ks)) : n = ks.length := by have := h.1; rw [svs_length] at this; omega
theorem rd_lenI {w : World} {B n : Nat} {A : Option Addr} {ks : List Int} (h : Reads w B 1 A n (ivs ks)) : n = ks.length := by have := h.1; rw [ivs_length] at this; omega
theorem rd_some {w : World} {B n : Nat} {A : Option Addr} {xs : List Value} (h : Reads w B 1 A n xs) (h0 : 0 < n) : ∃ ad, A = some ad := by
  obtain ⟨ad, h1, _⟩ := h.2 h0
  exact ⟨ad, h1⟩
set_option maxRecDepth 100000 in
set_option maxHeartbeats 4000000 in
theorem tclone_any (l : List Bs) (ad : Addr) (n c : Nat) (w : World) (hR : Reads w w.heap.size 1 (some ad) n (svs l)) (hn : n ≤ 1000000) : Calls Tryz.prog 56 #[.slice (some ad) n c] w fun e w' => ∃ A' c', e = .returned (.slice A' n c') ∧ Ow w.heap.size w' A' n c' l ∧ Below w.heap.size w w' := by
  obtain ⟨i0, hi, hz0, hz1, hz2⟩ := info_parts infoStr
  have hnil := fun (W : World) => Lib.run_eql_slice_nil (P := Tryz.prog) W 22 9 (some ad) n c 0 0 Tryz.underlying22
  have hown0 : (w.alloc (.cells #[] 9)).ownsRow w.heap.size 9 1 (.slice (some ⟨w.heap.size, 0, none⟩) 0 0) 0 [] := by
    refine ⟨rfl, .inr ⟨w.heap.size, 0, #[], rfl, Nat.le_refl _, ?_⟩⟩
    exact ⟨Blk.new w 9 #[], Nat.le_refl _, by simp [maxLen], by simp, by simp⟩
  have hb0 := (Below.refl w.heap.size w).alloc (Nat.le_refl _) (.cells #[] 9)
  have hr0 := Reads.alloc hR (Nat.le_refl _) (.cells #[] 9)
  go_enter Tryz.func56, Tryz.ntmps56
  go_wp2_with (at_builtin; (refine wpList_append_any _ rfl (.tmp 5) (.tmp 6) 22 rfl w.heap.size 9 i0 _ 1 16 Tryz.underlying22 hi hz0 hz1 hz2 rfl (by omega) (.slice (some ⟨w.heap.size, 0, none⟩) 0 0) 0 [] rfl hown0 w.heap.size (some ad) n c (svs l) rfl hr0 (svs_one l) ?c1 ?c2 ?c3 ?_))
  case c1 => unfold maxLen; omega
  case c2 => omega
  case c3 => simp
  intro v1 w1 hown1 hg1 hat1
  obtain ⟨A', c', rfl⟩ := own_slice hown1
  go_wp2
  go_ret
  exact ⟨A', c', by simp, by unfold Ow; simpa using hown1, hb0.grown hg1 (by simp) (fun g hg => by simp [Value.ownBlock] at hg; omega)⟩
theorem tlist_any (l : List Bs) (A : Option Addr) (n c : Nat) (w : World) (hR : Reads w w.heap.size 1 A n (svs l)) (hn : n ≤ 1000000) : Calls Tryz.prog 34 #[.slice A n c] w fun e w' => ∃ A' c', e = .returned (.slice A' n c') ∧ Ow w.heap.size w' A' n c' l ∧ Below w.heap.size w w' := by
  by_cases h0 : n = 0
  · subst h0
    have hl : l = [] := List.eq_nil_of_length_eq_zero (rd_lenS hR).symm
    subst hl
    clear hR
    go_enter Tryz.func34, Tryz.ntmps34
    go_wp2
    go_ret
    exact ⟨none, 0, rfl, World.ownsRow_nil _ _ _ _, Below.refl _ _⟩
  · have hz : ((n : Int) == 0) = false := beq_eq_false_iff_ne.2 (by omega)
    obtain ⟨ad, rfl⟩ := rd_some hR (by omega)
    have X := hide (tclone_any l ad n c w hR hn)
    clear hR
    go_enter Tryz.func34, Tryz.ntmps34
    go_wp2_with fail
    refine X.out.mono ?_
    rintro e w1 ⟨A', c', rfl, hO, hb⟩
    have HO := hide hO
    have HB := hide hb
    clear hO hb
    go_wp2_with fail
    go_ret
    exact ⟨A', c', rfl, HO.out, HB.out⟩
set_option maxRecDepth 100000 in
set_option maxHeartbeats 4000000 in
theorem iclone_any (l : List Int) (ad : Addr) (n c : Nat) (w : World) (hR : Reads w w.heap.size 1 (some ad) n (ivs l)) (hn : n ≤ 1000000) : Calls Tryz.prog 57 #[.slice (some ad) n c] w fun e w' => ∃ A' c', e = .returned (.slice A' n c') ∧ Oi w.heap.size w' A' n c' l ∧ Below w.heap.size w w' := by
  obtain ⟨i0, hi, hz0, hz1, hz2⟩ := info_parts infoInt
  have hnil := fun (W : World) => Lib.run_eql_slice_nil (P := Tryz.prog) W 23 3 (some ad) n c 0 0 Tryz.underlying23
  have hown0 : (w.alloc (.cells #[] 3)).ownsRow w.heap.size 3 1 (.slice (some ⟨w.heap.size, 0, none⟩) 0 0) 0 [] := by
    refine ⟨rfl, .inr ⟨w.heap.size, 0, #[], rfl, Nat.le_refl _, ?_⟩⟩
    exact ⟨Blk.new w 3 #[], Nat.le_refl _, by simp [maxLen], by simp, by simp⟩
  have hb0 := (Below.refl w.heap.size w).alloc (Nat.le_refl _) (.cells #[] 3)
  have hr0 := Reads.alloc hR (Nat.le_refl _) (.cells #[] 3)
  go_enter Tryz.func57, Tryz.ntmps57
  go_wp2_with (at_builtin; (refine wpList_append_any _ rfl (.tmp 5) (.tmp 6) 23 rfl w.heap.size 3 i0 _ 1 8 Tryz.underlying23 hi hz0 hz1 hz2 rfl (by omega) (.slice (some ⟨w.heap.size, 0, none⟩) 0 0) 0 [] rfl hown0 w.heap.size (some ad) n c (ivs l) rfl hr0 (ivs_one l) ?c1 ?c2 ?c3 ?_))
  case c1 => unfold maxLen; omega
  case c2 => omega
  case c3 => simp
  intro v1 w1 hown1 hg1 hat1
  obtain ⟨A', c', rfl⟩ := own_slice hown1
  go_wp2
  go_ret
  exact ⟨A', c', by simp, by unfold Oi; simpa using hown1, hb0.grown hg1 (by simp) (fun g hg => by simp [Value.ownBlock] at hg; omega)⟩
theorem ilist_any (l : List Int) (A : Option Addr) (n c : Nat) (w : World) (hR : Reads w w.heap.size 1 A n (ivs l)) (hn : n ≤ 1000000) : Calls Tryz.prog 35 #[.slice A n c] w fun e w' => ∃ A' c', e = .returned (.slice A' n c') ∧ Oi w.heap.size w' A' n c' l ∧ Below w.heap.size w w' := by
  by_cases h0 : n = 0
  · subst h0
    have hl : l = [] := List.eq_nil_of_length_eq_zero (rd_lenI hR).symm
    subst hl
    clear hR
    go_enter Tryz.func35, Tryz.ntmps35
    go_wp2
    go_ret
    exact ⟨none, 0, rfl, World.ownsRow_nil _ _ _ _, Below.refl _ _⟩
  · have hz : ((n : Int) == 0) = false := beq_eq_false_iff_ne.2 (by omega)
    obtain ⟨ad, rfl⟩ := rd_some hR (by omega)
    have X := hide (iclone_any l ad n c w hR hn)
    clear hR
    go_enter Tryz.func35, Tryz.ntmps35
    go_wp2_with fail
    refine X.out.mono ?_
    rintro e w1 ⟨A', c', rfl, hO, hb⟩
    have HO := hide hO
    have HB := hide hb
    clear hO hb
    go_wp2_with fail
    go_ret
    exact ⟨A', c', rfl, HO.out, HB.out⟩
/-- Where a child's slices lie. -/
structure PS where
  A : Option Addr
  an : Nat
  ac : Nat
  E : Option Addr
  en : Nat
  ec : Nat
  F : Option Addr
  fn : Nat
  fc : Nat
  D : Option Addr
  dn : Nat
  dc : Nat
/-- A child's cells. -/
def PR.cells (p : PR) (s : PS) : Array Value := #[.int .i64 p.pid, .string ⟨p.prog.toArray⟩, .slice s.A s.an s.ac, .slice s.E s.en s.ec, .slice s.F s.fn s.fc, .bool p.done, .int .i64 p.status, .int .i64 p.phase, .int .i64 p.count, .slice s.D s.dn s.dc]
def PR.v (p : PR) (s : PS) : Value := .agg (p.cells s)
/-- A child that can be read. -/
structure InP (w : World) (B : Nat) (p : PR) (s : PS) : Prop where
  a : Reads w B 1 s.A s.an (svs p.args)
  e : Reads w B 1 s.E s.en (svs p.env)
  f : Reads w B 1 s.F s.fn (ivs p.fds)
  d : Reads w B 1 s.D s.dn (bv p.buf)
/-- A row of bytes in a block of the call's own (also one that []byte(text) has made). -/
structure Od (B : Nat) (w : World) (D : Option Addr) (n c : Nat) (l : Bs) : Prop where
  rd : Reads w w.heap.size 1 D n (bv l)
  le : n ≤ c
  at_ : n ≠ 0 → ∃ ad cs m, D = some ad ∧ B ≤ ad.block ∧ w.heap[ad.block]? = some (.cells cs 5 m)
theorem Od.of {B : Nat} {w : World} {D : Option Addr} {n c : Nat} {l : Bs} (h : Ob B w D n c l) : Od B w D n c l := by
  refine ⟨Reads.of_own h, ?_, fun h0 => ?_⟩
  · rcases h.2 with ⟨hv, h0⟩ | ⟨g, cap, cur, hv, hb, hh, hnc, hmx, hsz, htk⟩
    · omega
    · injection hv with e1 e2 e3; subst e3; exact hnc
  · rcases h.2 with ⟨hv, h1⟩ | ⟨g, cap, cur, hv, hb, hh, hnc, hmx, hsz, htk⟩
    · exact absurd h1 h0
    · injection hv with e1 e2 e3; subst e1; exact ⟨_, _, _, rfl, hb, hh⟩
theorem Od.keep {B C : Nat} {w w' : World} {D : Option Addr} {n c : Nat} {l : Bs} (h : Od B w D n c l) (hs : w.heap.size ≤ w'.heap.size) (hC : C ≤ B) (hk : ∀ b cs m, B ≤ b → w.heap[b]? = some (.cells cs 5 m) → w'.heap[b]? = w.heap[b]?) : Od C w' D n c l := by
  by_cases h0 : n = 0
  · exact ⟨⟨h.rd.1, fun h => absurd h (by omega)⟩, h.le, fun h => absurd h0 h⟩
  · obtain ⟨ad, cs, m, rfl, hb, hh⟩ := h.at_ h0
    obtain ⟨ad', e, hlt, hc⟩ := h.rd.2 (by omega)
    injection e with e
    subst e
    have hb' := hk _ _ _ hb hh
    refine ⟨⟨h.rd.1, fun _ => ⟨ad, rfl, by omega, fun j u hj => ?_⟩⟩, h.le, fun _ => ⟨ad, cs, m, rfl, by omega, hb'.trans hh⟩⟩
    rw [← hc j u hj]
    exact World.cell?_of_block (by rw [show (ad.add j).block = ad.block from by unfold Addr.add; split <;> rfl]; exact hb')
theorem Od.below {B : Nat} {w w' : World} {D : Option Addr} {n c : Nat} {l : Bs} (h : Od B w D n c l) (hb : Below w.heap.size w w') : Od B w' D n c l :=
  h.keep hb.size (Nat.le_refl _) fun b cs m _ hh => hb.block b (by
    rcases Nat.lt_or_ge b w.heap.size with h | h
    · exact h
    · rw [Array.getElem?_eq_none h] at hh; cases hh)
theorem Od.more {B C : Nat} {w : World} {D : Option Addr} {n c : Nat} {l : Bs} (h : Od B w D n c l) (hC : C ≤ B) : Od C w D n c l := h.keep (Nat.le_refl _) hC fun _ _ _ _ _ => rfl
theorem Od.far {B : Nat} {w : World} {D : Option Addr} {n c : Nat} {l : Bs} (h : Od B w D n c l) {q : Addr} (hq : q.block < B) (u : Value) : Od B (w.setCell q u) D n c l :=
  h.keep (by simp [World.setCell]) (Nat.le_refl _) fun b _ _ hb _ => Below.heap_setCell w q u b (by omega)
theorem Od.set {B g : Nat} {w : World} {D : Option Addr} {n c : Nat} {l : Bs} (h : Od B w D n c l) {t : TypeId} {cs : Array Value} (hg : Blk w g t cs) (ht : 5 ≠ t) (k : Nat) (u : Value) : Od B (w.setCell ⟨g, k, none⟩ u) D n c l :=
  h.keep (by simp [World.setCell]) (Nat.le_refl _) fun b cs' m _ hh => Below.heap_setCell w _ u b (by
    intro e
    have e' : b = g := e
    subst e'
    unfold Blk at hg
    rw [hg] at hh
    injection hh with hh
    injection hh with _ h2
    exact ht h2.symm)
theorem Od.none_ (B : Nat) (w : World) (c : Nat) : Od B w none 0 c [] := ⟨⟨rfl, fun h => absurd h (by omega)⟩, Nat.zero_le _, fun h => absurd rfl h⟩
/-- A child whose slices are its own. -/
structure OwP (B : Nat) (w : World) (p : PR) (s : PS) : Prop where
  a : Ow B w s.A s.an s.ac p.args
  e : Ow B w s.E s.en s.ec p.env
  f : Oi B w s.F s.fn s.fc p.fds
  d : Od B w s.D s.dn s.dc p.buf
structure FitP (p : PR) : Prop where
  a : p.args.length ≤ 1000
  e : p.env.length ≤ 1000
  f : p.fds.length ≤ 1000
  d : p.buf.length ≤ 500000
  done : p.done = false
  ca : ∀ x ∈ p.args, x.length ≤ 10000
  st : i64R p.status
  ph : i64R p.phase
  co : i64R p.count
  pr : p.prog.length ≤ 1000000
theorem InP.below {w w' : World} {B : Nat} {p : PR} {s : PS} (h : InP w B p s) (hb : Below B w w') : InP w' B p s := ⟨h.a.below hb, h.e.below hb, h.f.below hb, h.d.below hb⟩
theorem InP.more {w : World} {B C : Nat} {p : PR} {s : PS} (h : InP w B p s) (hb : B ≤ C) : InP w C p s := ⟨h.a.more hb, h.e.more hb, h.f.more hb, h.d.more hb⟩
theorem OwP.below {B : Nat} {w w' : World} {p : PR} {s : PS} (h : OwP B w p s) (hb : Below w.heap.size w w') : OwP B w' p s := ⟨own_below h.a hb, own_below h.e hb, own_below h.f hb, h.d.below hb⟩
theorem OwP.more {B C : Nat} {w : World} {p : PR} {s : PS} (h : OwP B w p s) (hb : C ≤ B) : OwP C w p s := ⟨own_more h.a hb, own_more h.e hb, own_more h.f hb, h.d.more hb⟩
theorem OwP.in_ {B : Nat} {w : World} {p : PR} {s : PS} (h : OwP B w p s) : InP w w.heap.size p s := ⟨Reads.of_own h.a, Reads.of_own h.e, Reads.of_own h.f, h.d.rd⟩
theorem OwP.far {B : Nat} {w : World} {p : PR} {s : PS} (h : OwP B w p s) {q : Addr} (hq : q.block < B) (u : Value) : OwP B (w.setCell q u) p s := ⟨own_far h.a hq u, own_far h.e hq u, own_far h.f hq u, h.d.far hq u⟩
end Go.Proofs.YtlkccboongnneaaGreatDoor
