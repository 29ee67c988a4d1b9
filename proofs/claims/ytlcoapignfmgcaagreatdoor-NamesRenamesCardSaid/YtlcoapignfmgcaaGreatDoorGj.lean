/- A file system of the call's own in memory. The contract of slices.Clone at bytes. clone.List at bytes, for disks. clone.List at bytes and at names. clone.Node. clone.Each at nodes, clone.Fs. clone.Each at nodes, clone.Fs: the walks. -/
import Derived.Test.YtlcoapignfmgcaaGreatDoorGb
import Derived.Test.YtlcoapignfmgcaaGreatDoorGa
import Derived.Deep.DeepMust
import Derived.Lib.Hide
import Derived.Test.YtlcoapignfmgcaaGreatDoorGh
import Derived.Laws.MakeOwn
namespace Go.Proofs.YtlcoapignfmgcaaGreatDoor
open Go.RowKit
set_option linter.unusedVariables false
/-- A row that does not lie in a block. -/
def Off (A : Option Addr) (n : Nat) (g : Nat) : Prop := 0 < n → ∀ ad, A = some ad → ad.block ≠ g
theorem Off.nil (n : Nat) (g : Nat) : Off none n g := fun _ _ h => by cases h
theorem Off.zero (A : Option Addr) (g : Nat) : Off A 0 g := fun h => absurd h (by omega)
/-- A row that lies above. -/
def Lo (A : Option Addr) (n : Nat) (B : Nat) : Prop := 0 < n → ∀ ad, A = some ad → B ≤ ad.block
theorem Lo.zero (A : Option Addr) (B : Nat) : Lo A 0 B := fun h => absurd h (by omega)
theorem Lo.less {A : Option Addr} {n B C : Nat} (h : Lo A n B) (hC : C ≤ B) : Lo A n C := fun hn ad e => Nat.le_trans hC (h hn ad e)
theorem Lo.off {A : Option Addr} {n B g : Nat} (h : Lo A n B) (hg : g < B) : Off A n g := fun hn ad e he => by have := h hn ad e; omega
theorem lo_own {w : World} {base : Nat} {t : TypeId} {size n c : Nat} {A : Option Addr} {xs : List Value} (h : w.ownsRow base t size (.slice A n c) n xs) : Lo A n base := by
  intro hn ad e
  rcases h.2 with ⟨hv, h0⟩ | ⟨g', cap, cur, hv, hb, _⟩
  · omega
  · injection hv with e1 e2 e3
    rw [e1] at e
    injection e with e
    subst e
    exact hb
theorem own_cap {w : World} {base : Nat} {t : TypeId} {size n c : Nat} {A : Option Addr} {xs : List Value} (h : w.ownsRow base t size (.slice A n c) n xs) : n ≤ c := by
  rcases h.2 with ⟨hv, h0⟩ | ⟨g', cap, cur, hv, hb, _, h1, _⟩
  · omega
  · injection hv with e1 e2 e3
    omega
theorem Reads.far {w : World} {B size n : Nat} {A : Option Addr} {xs : List Value} (h : Reads w B size A n xs) {p : Addr} (ho : Off A n p.block) (u : Value) : Reads (w.setCell p u) B size A n xs := by
  refine ⟨h.1, fun hn => ?_⟩
  obtain ⟨ad, e, hb, hc⟩ := h.2 hn
  refine ⟨ad, e, hb, fun j v hv => ?_⟩
  rw [World.cell?_setCell_other _ _ _ _ (by
    intro he
    have := congrArg Addr.block he
    rw [block_of_add] at this
    exact ho hn ad e this.symm)]
  exact hc j v hv
/-- The nodes lie in a row of one's own, what they point to in other blocks. -/
structure OF (B : Nat) (w : World) (L : Option Addr) (n c : Nat) (X : List DV) : Prop where
  own : w.ownsRow B 28 6 (.slice L n c) n (dcs X)
  ok : ∀ x ∈ X, DVok w w.heap.size x
  off : ∀ a, L = some a → ∀ x ∈ X, Off x.D x.dn a.block ∧ Off x.M x.mn a.block
  lo : ∀ x ∈ X, Lo x.D x.dn B ∧ Lo x.M x.mn B ∧ x.dn ≤ x.dc ∧ x.mn ≤ x.mc
section
variable {B : Nat} {w w' : World} {L : Option Addr} {n c : Nat} {X : List DV}
theorem OF.len (h : OF B w L n c X) : X.length = n := by have := h.own.1; rw [dcs_length] at this; omega
theorem OF.fs (h : OF B w L n c X) : FsR w w.heap.size L n X := ⟨Reads.of_own h.own, h.ok⟩
theorem OF.below (h : OF B w L n c X) (hb : Below w.heap.size w w') : OF B w' L n c X :=
  ⟨own_below h.own hb, fun x hx => ((h.ok x hx).below hb).more hb.size, h.off, h.lo⟩
theorem OF.less {C : Nat} (h : OF B w L n c X) (hC : C ≤ B) : OF C w L n c X := ⟨own_more h.own hC, h.ok, h.off, fun x hx => ⟨(h.lo x hx).1.less hC, (h.lo x hx).2.1.less hC, (h.lo x hx).2.2⟩⟩
theorem OF.none_ (B : Nat) (w : World) : OF B w none 0 0 [] := ⟨World.ownsRow_nil _ _ _ _, (fun x hx => by cases hx), (fun a h => by cases h), (fun x hx => by cases hx)⟩
theorem OF.addr (h : OF B w L n c X) (hn : 0 < n) : ∃ g, L = some ⟨g, 0, none⟩ ∧ B ≤ g ∧ g < w.heap.size := by
  obtain ⟨g, cap, cur, e, hb, hh, _⟩ := h.own.2.resolve_left (fun ⟨e, h0⟩ => by omega)
  injection e with e1 e2 e3
  refine ⟨g, e1, hb, ?_⟩
  rcases Nat.lt_or_ge g w.heap.size with q | q
  · exact q
  · rw [Array.getElem?_eq_none q] at hh; cases hh
/-- A list with one in another's place, cell by cell. -/
theorem dcs_set : ∀ (X : List DV) (k j : Nat) (x' : DV) (v : Value) (hk : k < X.length), j < 6 → x'.cs = (X[k].cs).set j v → dcs (X.set k x') = (dcs X).set (k * 6 + j) v
  | x :: X, 0, j, x', v, hk, hj, e => by
    rw [List.set_cons_zero, dcs, dcs, e, Nat.zero_mul, Nat.zero_add, List.set_append, if_pos (by rw [DV.cs_length]; exact hj)]
    rfl
  | x :: X, k + 1, j, x', v, hk, hj, e => by
    rw [List.set_cons_succ, dcs, dcs, dcs_set X k j x' v (by simpa using hk) hj e, List.set_append, if_neg (by rw [DV.cs_length]; omega), DV.cs_length]
    rw [show (k + 1) * 6 + j - 6 = k * 6 + j by omega]
theorem OF.put {g : Nat} (h : OF B w (some ⟨g, 0, none⟩) n c X) {k j : Nat} {x' : DV} {v : Value} (hk : k < n) (hj : j < 6) (e : ∀ x, X[k]? = some x → x'.cs = x.cs.set j v)
    (hok : DVok w w.heap.size x') (ho : Off x'.D x'.dn g ∧ Off x'.M x'.mn g) (hlo : Lo x'.D x'.dn B ∧ Lo x'.M x'.mn B ∧ x'.dn ≤ x'.dc ∧ x'.mn ≤ x'.mc) : OF B (w.setCell ⟨g, k * 6 + j, none⟩ v) (some ⟨g, 0, none⟩) n c (X.set k x') := by
  have hl := h.len
  have hkl : k < X.length := by omega
  have key : ∀ x, DVok w w.heap.size x → Off x.D x.dn g ∧ Off x.M x.mn g → DVok (w.setCell ⟨g, k * 6 + j, none⟩ v) (w.setCell ⟨g, k * 6 + j, none⟩ v).heap.size x := fun x hx hof => by
    have hs : (w.setCell ⟨g, k * 6 + j, none⟩ v).heap.size = w.heap.size := by simp
    rw [hs]
    exact ⟨Reads.far hx.d (p := ⟨g, k * 6 + j, none⟩) hof.1 v, Reads.far hx.n (p := ⟨g, k * 6 + j, none⟩) hof.2 v⟩
  have memset : ∀ x ∈ X.set k x', x ∈ X ∨ x = x' := fun x hx => List.mem_or_eq_of_mem_set hx
  refine ⟨?_, fun x hx => ?_, fun a ha x hx => ?_, fun x hx => ?_⟩
  · rw [dcs_set X k j x' v hkl hj (e _ (List.getElem?_eq_getElem hkl))]
    exact (World.ownsRow.stored h.own (k * 6 + j) v).1
  · rcases memset x hx with hx | rfl
    · exact key x (h.ok x hx) (h.off _ rfl x hx)
    · exact key _ hok ho
  · injection ha with ha
    subst ha
    rcases memset x hx with hx | rfl
    · exact h.off _ rfl x hx
    · exact ho
  · rcases memset x hx with hx | rfl
    · exact h.lo x hx
    · exact hlo
/-- A store below. -/
theorem OF.far (h : OF B w L n c X) {p : Addr} (hp : p.block < B) (u : Value) : OF B (w.setCell p u) L n c X := by
  refine ⟨own_far h.own hp u, fun x hx => ?_, h.off, h.lo⟩
  have hs : (w.setCell p u).heap.size = w.heap.size := by simp
  rw [hs]
  exact ⟨Reads.far (h.ok x hx).d ((h.lo x hx).1.off hp) u, Reads.far (h.ok x hx).n ((h.lo x hx).2.1.off hp) u⟩
end
end Go.Proofs.YtlcoapignfmgcaaGreatDoor
namespace Go.Proofs.YtlcoapignfmgcaaGreatDoor
open Go.RowKit
set_option linter.unusedVariables false

theorem sizeU8 : (Tryz.prog.info? 5).map (·.size) = some 1 := by kernel_rfl
theorem infoU8 : (Tryz.prog.info? 5).map (fun i => (i.zero, i.size, i.bytes)) = some (some (.int .u8 0), 1, 1) := by kernel_rfl

set_option maxHeartbeats 400000 in
theorem sclone_any (ad : Addr) (n c : Nat) (bs : List UInt8) (w : World) (hr : Rd w (some ad) n bs) (hn : n ≤ 1000000) :
    Calls Tryz.prog 65 #[.slice (some ad) n c] w fun e w' => ∃ v, e = .returned v ∧ w'.ownsRow w.heap.size 5 1 v n (bv bs) ∧ Below w.heap.size w w' := by
  obtain ⟨i0, hi, hz0, hz1, hz2⟩ := info_parts infoU8
  have hnil := fun (W : World) => Lib.run_eql_slice_nil (P := Tryz.prog) W 25 5 (some ad) n c 0 0 Tryz.underlying25
  have hown0 : (w.alloc (.cells #[] 5)).ownsRow w.heap.size 5 1 (.slice (some ⟨w.heap.size, 0, none⟩) 0 0) 0 [] :=
    Blk.own (cap := 0) (Blk.new w 5 #[]) (Nat.le_refl _) (Nat.zero_le _) rfl
  have hb0 := (Below.refl w.heap.size w).alloc (Nat.le_refl _) (.cells #[] 5)
  have hr0 := hr.alloc (Nat.le_refl _) (.cells #[] 5)
  go_enter Tryz.func65, Tryz.ntmps65
  go_wp2_with (at_builtin; (refine wpList_append_any _ rfl (.tmp 5) (.tmp 6) 25 rfl w.heap.size 5 i0 _ 1 1 Tryz.underlying25 hi hz0 hz1 hz2 rfl (by omega) (.slice (some ⟨w.heap.size, 0, none⟩) 0 0) 0 [] rfl hown0 w.heap.size (some ad) n c (bv bs) rfl hr0 (bv_one bs) ?c1 ?c2 ?c3 ?_))
  case c1 => unfold maxLen; omega
  case c2 => omega
  case c3 => simp
  intro v1 w1 hown1 hg1 hat1
  go_wp2
  go_ret
  refine ⟨v1, rfl, by simpa using hown1, hb0.grown hg1 (by simp) (fun g hg => by simp [Value.ownBlock] at hg; omega)⟩
end Go.Proofs.YtlcoapignfmgcaaGreatDoor
namespace Go.Proofs.YtlcoapignfmgcaaGreatDoor.Dk
open Go.RowKit
set_option linter.unusedVariables false
set_option maxHeartbeats 400000 in
theorem list_any (A : Option Addr) (n c : Nat) (bs : List UInt8) (w : World) (hr : Rd w A n bs) (hn : n ≤ 1000000) :
    Calls Tryz.prog 52 #[.slice A n c] w fun e w' => ∃ A' c', e = .returned (.slice A' n c') ∧ w'.ownsRow w.heap.size 5 1 (.slice A' n c') n (bv bs) ∧ Below w.heap.size w w' := by
  by_cases h0 : n = 0
  · subst h0
    have hz : ((0 : Int) == 0) = true := rfl
    have hbs : bs = [] := List.eq_nil_of_length_eq_zero hr.len
    subst hbs
    go_enter Tryz.func52, Tryz.ntmps52
    go_wp2
    go_ret
    exact ⟨none, 0, rfl, World.ownsRow_nil _ _ _ _, Below.refl _ _⟩
  · have hz : ((n : Int) == 0) = false := beq_eq_false_iff_ne.2 (by omega)
    obtain ⟨ad, rfl, _, _⟩ := hr.get (k := 0) (by omega)
    go_enter Tryz.func52, Tryz.ntmps52
    go_wp2_with fail
    refine (sclone_any ad n c bs w hr hn).mono ?_
    rintro e w1 ⟨v, rfl, hown, hb⟩
    obtain ⟨A', c', rfl⟩ := own_slice hown
    go_wp2
    go_ret
    exact ⟨A', c', rfl, hown, hb⟩
end Go.Proofs.YtlcoapignfmgcaaGreatDoor.Dk
namespace Go.Proofs.YtlcoapignfmgcaaGreatDoor
open Go.RowKit
set_option linter.unusedVariables false
theorem infoName : (Tryz.prog.info? 59).map (fun i => (i.zero, i.size, i.bytes)) = some (some (.agg #[.string ⟨#[]⟩, .int .i64 0]), 2, 24) := by kernel_rfl
theorem ncs_one (l : List NM) : ∀ u ∈ ncs l, u.oneCell' = true := by
  induction l with
  | nil => intro u h; cases h
  | cons x l ih =>
    intro u h
    rw [ncs] at h
    rcases List.mem_append.1 h with h | h
    · simp only [List.mem_cons, List.not_mem_nil, or_false] at h
      rcases h with rfl | rfl <;> rfl
    · exact ih u h
/-- A row of names of one's own. -/
def On (B : Nat) (w : World) (A : Option Addr) (n c : Nat) (l : List NM) : Prop := w.ownsRow B 59 2 (.slice A n c) n (ncs l)
set_option maxRecDepth 100000 in
set_option maxHeartbeats 4000000 in
theorem nclone_any (l : List NM) (ad : Addr) (n c : Nat) (w : World) (hR : Reads w w.heap.size 2 (some ad) n (ncs l)) (hn : n ≤ 1000000) : Calls Tryz.prog 71 #[.slice (some ad) n c] w fun e w' => ∃ A' c', e = .returned (.slice A' n c') ∧ On w.heap.size w' A' n c' l ∧ Below w.heap.size w w' := by
  obtain ⟨i0, hi, hz0, hz1, hz2⟩ := info_parts infoName
  have hnil := fun (W : World) => Lib.run_eql_slice_nil (P := Tryz.prog) W 26 59 (some ad) n c 0 0 Tryz.underlying26
  have hown0 : (w.alloc (.cells #[] 59)).ownsRow w.heap.size 59 2 (.slice (some ⟨w.heap.size, 0, none⟩) 0 0) 0 [] := by
    refine ⟨rfl, .inr ⟨w.heap.size, 0, #[], rfl, Nat.le_refl _, ?_⟩⟩
    exact ⟨Blk.new w 59 #[], Nat.le_refl _, by simp [maxLen], by simp, by simp⟩
  have hb0 := (Below.refl w.heap.size w).alloc (Nat.le_refl _) (.cells #[] 59)
  have hr0 := Reads.alloc hR (Nat.le_refl _) (.cells #[] 59)
  go_enter Tryz.func71, Tryz.ntmps71
  go_wp2_with (at_builtin; (refine wpList_append_any _ rfl (.tmp 5) (.tmp 6) 26 rfl w.heap.size 59 i0 _ 2 24 Tryz.underlying26 hi hz0 hz1 hz2 rfl (by omega) (.slice (some ⟨w.heap.size, 0, none⟩) 0 0) 0 [] rfl hown0 w.heap.size (some ad) n c (ncs l) rfl hr0 (ncs_one l) ?c1 ?c2 ?c3 ?_))
  case c1 => unfold maxLen; omega
  case c2 => omega
  case c3 => simp
  intro v1 w1 hown1 hg1 hat1
  obtain ⟨A', c', rfl⟩ := own_slice hown1
  go_wp2
  go_ret
  exact ⟨A', c', by simp, by unfold On; simpa using hown1, hb0.grown hg1 (by simp) (fun g hg => by simp [Value.ownBlock] at hg; omega)⟩
theorem rd_someN {w : World} {B n size : Nat} {A : Option Addr} {xs : List Value} (h : Reads w B size A n xs) (h0 : 0 < n) : ∃ ad, A = some ad := by
  obtain ⟨ad, h1, _⟩ := h.2 h0
  exact ⟨ad, h1⟩
theorem nlist_any (l : List NM) (A : Option Addr) (n c : Nat) (w : World) (hR : Reads w w.heap.size 2 A n (ncs l)) (hn : n ≤ 1000000) : Calls Tryz.prog 59 #[.slice A n c] w fun e w' => ∃ A' c', e = .returned (.slice A' n c') ∧ On w.heap.size w' A' n c' l ∧ Below w.heap.size w w' := by
  by_cases h0 : n = 0
  · subst h0
    have hl : l = [] := List.eq_nil_of_length_eq_zero (by have := hR.1; rw [ncs_length] at this; omega)
    subst hl
    clear hR
    go_enter Tryz.func59, Tryz.ntmps59
    go_wp2
    go_ret
    exact ⟨none, 0, rfl, World.ownsRow_nil _ _ _ _, Below.refl _ _⟩
  · have hz : ((n : Int) == 0) = false := beq_eq_false_iff_ne.2 (by omega)
    obtain ⟨ad, rfl⟩ := rd_someN hR (by omega)
    have X := hide (nclone_any l ad n c w hR hn)
    clear hR
    go_enter Tryz.func59, Tryz.ntmps59
    go_wp2_with fail
    refine X.out.mono ?_
    rintro e w1 ⟨A', c', rfl, hO, hb⟩
    have HO := hide hO
    have HB := hide hb
    clear hO hb
    go_wp2_with fail
    go_ret
    exact ⟨A', c', rfl, HO.out, HB.out⟩
end Go.Proofs.YtlcoapignfmgcaaGreatDoor
namespace Go.Proofs.YtlcoapignfmgcaaGreatDoor
open Go.RowKit
set_option linter.unusedVariables false
/-- The six cells of a node in a block. -/
theorem sixN {w : World} {g : Nat} {t : TypeId} {a b c d e f : Value} (H : Blk w g t #[a, b, c, d, e, f]) :
    (w.cell? ⟨g, 0, none⟩ = some a ∧ w.cell? ⟨g, 1, none⟩ = some b ∧ w.cell? ⟨g, 2, none⟩ = some c ∧ w.cell? ⟨g, 3, none⟩ = some d ∧ w.cell? ⟨g, 4, none⟩ = some e ∧ w.cell? ⟨g, 5, none⟩ = some f) ∧
    w.frozen? ⟨g, 0, none⟩ = false ∧ w.frozen? ⟨g, 1, none⟩ = false ∧ w.frozen? ⟨g, 2, none⟩ = false ∧ w.frozen? ⟨g, 3, none⟩ = false ∧ w.frozen? ⟨g, 4, none⟩ = false ∧ w.frozen? ⟨g, 5, none⟩ = false :=
  ⟨⟨H.cell 0, H.cell 1, H.cell 2, H.cell 3, H.cell 4, H.cell 5⟩, H.frozen 0, H.frozen 1, H.frozen 2, H.frozen 3, H.frozen 4, H.frozen 5⟩
set_option maxRecDepth 100000 in
set_option maxHeartbeats 8000000 in
theorem cnode_any (x : DV) (w : World) (hI : DVok w w.heap.size x) (hn : x.dn ≤ 1000000 ∧ x.mn ≤ 1000000) :
    Calls Tryz.prog 34 #[.agg x.cs.toArray] w fun e w' => ∃ D' dc' M' mc', e = .returned (.agg (DV.cs ⟨x.r, D', x.dn, dc', M', x.mn, mc'⟩).toArray) ∧ w'.ownsRow w.heap.size 5 1 (.slice D' x.dn dc') x.dn (bv x.r.data) ∧ On w.heap.size w' M' x.mn mc' x.r.names ∧ Below w.heap.size w w' := by
  obtain ⟨⟨kind, mode, links, data, names, to_⟩, D, dn, dc, M, mn, mc⟩ := x
  obtain ⟨n1, n2⟩ := hn
  obtain ⟨hd, hm⟩ := hI
  unfold DV.cs
  dsimp only at *
  go_enter Tryz.func34, Tryz.ntmps34
  go_wp2_with fail
  generalize hW1 : ((w.alloc (.cells #[Value.int .i64 kind, .int .i64 mode, .int .i64 links, .slice D dn dc, .slice M mn mc, .string ⟨to_.toArray⟩] 28)).alloc (.cells #[Value.int .i64 0, .int .i64 0, .int .i64 0, .slice none 0 0, .slice none 0 0, .string ⟨#[]⟩] 28)) = W1
  have hP : Blk W1 w.heap.size 28 #[Value.int .i64 kind, .int .i64 mode, .int .i64 links, .slice D dn dc, .slice M mn mc, .string ⟨to_.toArray⟩] := by rw [← hW1]; exact (Blk.new w 28 _).alloc _
  have hQ : Blk W1 (w.heap.size + 1) 28 #[Value.int .i64 0, .int .i64 0, .int .i64 0, .slice none 0 0, .slice none 0 0, .string ⟨#[]⟩] := by
    rw [← hW1]
    have h1 := Blk.new (w.alloc (.cells #[Value.int .i64 kind, .int .i64 mode, .int .i64 links, .slice D dn dc, .slice M mn mc, .string ⟨to_.toArray⟩] 28)) 28 #[Value.int .i64 0, .int .i64 0, .int .i64 0, .slice none 0 0, .slice none 0 0, .string ⟨#[]⟩]
    simpa only [World.size_alloc] using h1
  have hb0 : Below w.heap.size w W1 := by rw [← hW1]; exact ((Below.refl _ _).alloc (Nat.le_refl _) _).alloc (by simp) _
  have hz : w.heap.size + 2 ≤ W1.heap.size := by rw [← hW1]; simp
  have HD := hide (hd.below hb0)
  have HM := hide (hm.below hb0)
  clear hW1 hd hm
  obtain ⟨⟨a0, a1, a2, a3, a4, a5⟩, f0, f1, f2, f3, f4, f5⟩ := sixN hP
  refine wp_region_K (fun V => V.cell? ⟨w.heap.size, 3, none⟩ = some (.slice D dn dc) ∧ V.cell? ⟨w.heap.size, 4, none⟩ = some (.slice M mn mc)) [7, 9] rfl ⟨a3, a4⟩ (fun hHeld => ?_)
  refine wpAnyK_take (i := 0) (v := ?_) rfl rfl (by kernel_rfl) (fun _ _ _ h => h) (Or.inl ⟨by rfl, ?_⟩) (by assumption) ?_
  rotate_left
  · (intro V hV; (try dsimp only at hV); go_simp; with_reducible rfl)
  try simp only [Act.put, List.setIfInBounds_toArray, List.set_cons_zero, List.set_cons_succ]
  refine wpAnyK_take (i := 1) (v := ?_) rfl rfl (by kernel_rfl) (fun _ _ _ h => h) (Or.inl ⟨by rfl, ?_⟩) (by assumption) ?_
  rotate_left
  · (intro V hV; (try dsimp only at hV); go_simp; with_reducible rfl)
  try simp only [Act.put, List.setIfInBounds_toArray, List.set_cons_zero, List.set_cons_succ]
  refine wpAnyK_take (i := 3) (v := ?_) rfl rfl (by kernel_rfl) (fun _ _ _ h => h) (Or.inl ⟨by rfl, ?_⟩) (by assumption) ?_
  rotate_left
  · (intro V hV; (try dsimp only at hV); go_simp; with_reducible rfl)
  try simp only [Act.put, List.setIfInBounds_toArray, List.set_cons_zero, List.set_cons_succ]
  refine wpAnyK_take (i := 4) (v := ?_) rfl rfl (by kernel_rfl) (fun _ _ _ h => h) (Or.inl ⟨by rfl, ?_⟩) (by assumption) ?_
  rotate_left
  · (intro V hV; (try dsimp only at hV); go_simp; with_reducible rfl)
  try simp only [Act.put, List.setIfInBounds_toArray, List.set_cons_zero, List.set_cons_succ]
  have hP0 := hide (hP.drew)
  have hQ0 := hide (hQ.drew)
  have HD0 := hide (HD.out.below ((Below.refl w.heap.size W1).drew))
  have HM0 := hide (HM.out.below ((Below.refl w.heap.size W1).drew))
  have HB0 := hide (hb0.drew)
  have hz0 : w.heap.size + 2 ≤ W1.drew.heap.size := hz
  clear a0 a1 a2 a3 a4 a5 f0 f1 f2 f3 f4 f5 hP hQ HD HM hb0 hz
  refine wpAnyK_step (i := 2) (by kernel_rfl) rfl rfl (fun K hK => ?_)
  go_simp
  refine (Dk.list_any D dn dc data _ (by exact HD0.out.more (by omega)) n1).mono ?_
  rintro e w1 ⟨D', dcx, rfl, hO, hb⟩
  have hP1 := hide (Blk.below (h := (by exact hP0.out)) (hb := hb) (by omega))
  have hQ1 := hide (Blk.below (h := (by exact hQ0.out)) (hb := hb) (by omega))
  have HM1 := hide (HM0.out.below (hb.mono (by omega)))
  have HB1 := hide (HB0.out.trans (hb.mono (by omega)))
  have hz1 : w.heap.size + 2 ≤ w1.heap.size := Nat.le_trans hz0 hb.size
  have HOD1 := hide (own_more (base' := w.heap.size + 2) hO (by omega))
  obtain ⟨⟨a0, a1, a2, a3, a4, a5⟩, -⟩ := sixN hP1.out
  refine hK.out _ _ (fun _ _ => ⟨a3, a4⟩) ?_
  clear hK K a0 a1 a2 a3 a4 a5 hO hb hP0 hQ0 HD0 HM0 HB0 hz0
  simp only [List.setIfInBounds_toArray]
  refine wpAnyK_takeF (i := 6) (v := ?_) rfl rfl (by kernel_rfl) (fun _ _ _ h => h) (Or.inl ⟨by rfl, ?_⟩) ?_
  rotate_left
  · (intro V hV; go_simp; with_reducible rfl)
  try simp only [Act.put, List.setIfInBounds_toArray, List.set_cons_zero, List.set_cons_succ]
  refine wpAnyK_step (i := 5) (by kernel_rfl) rfl rfl (fun K hK => ?_)
  go_simp
  refine (nlist_any names M mn mc _ (by exact HM1.out.more (by omega)) n2).mono ?_
  rintro e w2 ⟨M', mcx, rfl, hO, hb⟩
  have hP2 := hide (Blk.below (h := (by exact hP1.out)) (hb := hb) (by omega))
  have hQ2 := hide (Blk.below (h := (by exact hQ1.out)) (hb := hb) (by omega))
  have HB2 := hide (HB1.out.trans (hb.mono (by omega)))
  have hz2 : w.heap.size + 2 ≤ w2.heap.size := Nat.le_trans hz1 hb.size
  have HOD2 := hide (own_below (by exact HOD1.out) hb)
  have HOM2 := hide (own_more (base' := w.heap.size + 2) hO (by omega))
  obtain ⟨⟨a0, a1, a2, a3, a4, a5⟩, -⟩ := sixN hP2.out
  refine hK.out _ _ (fun _ _ => ⟨a3, a4⟩) ?_
  clear hK K a0 a1 a2 a3 a4 a5 hO hb hP1 hQ1 HM1 HB1 hz1 HOD1 hHeld
  simp only [List.setIfInBounds_toArray]
  obtain ⟨⟨m0, m1, m2, m3, m4, m5⟩, k0, k1, k2, k3, k4, k5⟩ := sixN hP2.out
  obtain ⟨⟨i0, i1, i2, i3, i4, i5⟩, j0, j1, j2, j3, j4, j5⟩ := sixN hQ2.out
  have hu1 : w.heap.size < w2.heap.size := by omega
  have hu2 : w.heap.size + 1 < w2.heap.size := by omega
  refine wpAnyK_step (i := 7) (by kernel_rfl) rfl rfl (fun K hK => ?_)
  go_simp
  refine hK.out _ _ (fun _ h => absurd (by decide) h) ?_
  clear hK K
  simp only [List.setIfInBounds_toArray]
  refine wpAnyK_takeF (i := 8) (v := ?_) rfl rfl (by kernel_rfl) (fun _ _ _ h => h) (Or.inl ⟨by rfl, ?_⟩) ?_
  rotate_left
  · (intro V hV; go_simp; with_reducible rfl)
  try simp only [Act.put, List.setIfInBounds_toArray, List.set_cons_zero, List.set_cons_succ]
  refine wpAnyK_step (i := 9) (by kernel_rfl) rfl rfl (fun K hK => ?_)
  go_simp
  refine hK.out _ _ (fun _ h => absurd (by decide) h) ?_
  clear hK K
  simp only [List.setIfInBounds_toArray]
  refine wpAnyK_done (by kernel_rfl) ?_ _
  go_wp2_with fail
  refine bodyPost_ret (v := .agg #[.int .i64 kind, .int .i64 mode, .int .i64 links, .slice D' dn dcx, .slice M' mn mcx, .string ⟨to_.toArray⟩]) (by simp only [results, Tryz.results34]; go_simp) rfl ⟨D', dcx, M', mcx, rfl, ?_, ?_, ?_⟩
  · refine own_more (base := w.heap.size + 2) ?_ (by omega)
    repeat (refine own_far ?_ (by simp) _)
    exact HOD2.out
  · refine own_more (base := w.heap.size + 2) ?_ (by omega)
    repeat (refine own_far ?_ (by simp) _)
    exact HOM2.out
  · repeat (refine Below.setCell ?_ (by simp) _)
    exact HB2.out
end Go.Proofs.YtlcoapignfmgcaaGreatDoor
namespace Go.Proofs.YtlcoapignfmgcaaGreatDoor
open Go.RowKit
set_option linter.unusedVariables false
def dv0 : DV := ⟨nd0, none, 0, 0, none, 0, 0⟩
theorem infoNodeZ : (Tryz.prog.info? 28).map (fun i => (i.zero, i.size, i.bytes)) = some (some (.agg #[.int .i64 0, .int .i64 0, .int .i64 0, .slice none 0 0, .slice none 0 0, .string ⟨#[]⟩]), 6, 88) := by kernel_rfl
def zN : Array Value := #[.int .i64 0, .int .i64 0, .int .i64 0, .slice none 0 0, .slice none 0 0, .string ⟨#[]⟩]
theorem nodes_make (n : Nat) (hn : n ≤ 1000) (W : World) : (Instr.makeSlice 22 (.int .i64 (n : Int)) (.int .i64 (n : Int))).run Tryz.prog W = .ok (.slice (some ⟨W.heap.size, 0, none⟩) n n) (W.alloc (.cells (madeCells zN (n * 6)) 28)) := by
  obtain ⟨i, hi, hz0, hz1, hz2⟩ := info_parts infoNodeZ
  have := run_make_rowN (P := Tryz.prog) 22 28 i _ Tryz.underlying22 hi hz0 .i64 .i64 n n (Nat.le_refl _) (by rw [hz2]; omega) (by omega) W
  rw [this, hz1]
  rfl
theorem made_dcs (n : Nat) : (madeCells zN (n * 6)).toList = dcs (List.replicate n dv0) := by
  apply List.ext_getElem?
  intro i
  by_cases hi : i < n * 6
  · have h1 := dcs_at (List.replicate n dv0) (i / 6) (i % 6) (by simp; omega) (by omega)
    rw [show i / 6 * 6 + i % 6 = i by omega] at h1
    rw [h1, List.getElem_replicate]
    have h2 : (madeCells zN (n * 6))[i]? = some (zN[i % 6]!) := by
      unfold madeCells
      simp [hi]
      rfl
    rw [Array.getElem?_toList, h2]
    have h6 : i % 6 < 6 := by omega
    generalize i % 6 = j at *
    match j, h6 with
    | 0, _ => rfl
    | 1, _ => rfl
    | 2, _ => rfl
    | 3, _ => rfl
    | 4, _ => rfl
    | 5, _ => rfl
  · rw [List.getElem?_eq_none (by rw [Array.length_toList, size_madeCells]; omega), List.getElem?_eq_none (by rw [dcs_length]; simp; omega)]
theorem made_nodes {B : Nat} {W : World} (n : Nat) (hn : n ≤ 1000) (hB : B ≤ W.heap.size) : OF B (W.alloc (.cells (madeCells zN (n * 6)) 28)) (some ⟨W.heap.size, 0, none⟩) n n (List.replicate n dv0) := by
  refine ⟨?_, fun x hx => ?_, fun a ha x hx => ?_, fun x hx => ?_⟩
  · refine ⟨by rw [dcs_length]; simp, .inr ⟨W.heap.size, n, madeCells zN (n * 6), rfl, hB, Blk.new W _ _, Nat.le_refl _, by unfold maxLen; omega, size_madeCells _ _, ?_⟩⟩
    rw [made_dcs, List.take_of_length_le (by rw [dcs_length]; simp)]
  · rw [List.eq_of_mem_replicate hx]
    exact ⟨Reads.none_, Reads.none_⟩
  · rw [List.eq_of_mem_replicate hx]
    exact ⟨Off.zero _ _, Off.zero _ _⟩
  · rw [List.eq_of_mem_replicate hx]
    exact ⟨Lo.zero _ _, Lo.zero _ _, Nat.le_refl _, Nat.le_refl _⟩
section
variable {B : Nat} {w w' : World} {n c : Nat} {X : List DV} {g : Nat}
theorem getset {α : Type} {X : List α} {k : Nat} {y x : α} (hk : k < X.length) : (X.set k y)[k]? = some x ↔ y = x := by
  rw [List.getElem?_set_self hk]
  simp
/-- A node laid over another. -/
theorem OF.fill (h : OF B w (some ⟨g, 0, none⟩) n c X) {k : Nat} (hk : k < n) {y : DV} (hok : DVok w w.heap.size y) (ho : Off y.D y.dn g ∧ Off y.M y.mn g) (hlo : Lo y.D y.dn B ∧ Lo y.M y.mn B ∧ y.dn ≤ y.dc ∧ y.mn ≤ y.mc) :
    OF B ((((((w.setCell ⟨g, k * 6, none⟩ (.int .i64 y.r.kind)).setCell ⟨g, k * 6 + 1, none⟩ (.int .i64 y.r.mode)).setCell ⟨g, k * 6 + 2, none⟩ (.int .i64 y.r.links)).setCell ⟨g, k * 6 + 3, none⟩ (.slice y.D y.dn y.dc)).setCell ⟨g, k * 6 + 4, none⟩ (.slice y.M y.mn y.mc)).setCell ⟨g, k * 6 + 5, none⟩ (.string ⟨y.r.to.toArray⟩)) (some ⟨g, 0, none⟩) n c (X.set k y) := by
  have hl := h.len
  have hkl : k < X.length := by omega
  obtain ⟨x, hx⟩ : ∃ x, X[k]? = some x := ⟨_, List.getElem?_eq_getElem hkl⟩
  have hxm := List.mem_of_getElem? hx
  have hxo := h.ok x hxm
  have hxf := h.off _ rfl x hxm
  have hxl := h.lo x hxm
  obtain ⟨⟨k0, m0, l0, d0, n0, t0⟩, D0, dn0, dc0, M0, mn0, mc0⟩ := x
  obtain ⟨⟨k1, m1, l1, d1, n1, t1⟩, D1, dn1, dc1, M1, mn1, mc1⟩ := y
  dsimp only at *
  have keep : ∀ {v : World} {D M : Option Addr} {dn dc mn mc : Nat} {r : ND} (p : Addr) (u : Value), p.block = g → DVok v v.heap.size ⟨r, D, dn, dc, M, mn, mc⟩ → Off D dn g ∧ Off M mn g → DVok (v.setCell p u) (v.setCell p u).heap.size ⟨r, D, dn, dc, M, mn, mc⟩ := fun {v D M dn dc mn mc r} p u hp hx ho => by
    have hs : (v.setCell p u).heap.size = v.heap.size := by simp
    rw [hs]
    subst hp
    exact ⟨Reads.far hx.d ho.1 u, Reads.far hx.n ho.2 u⟩
  have s0 := h.put (j := 0) (x' := ⟨⟨k1, m0, l0, d0, n0, t0⟩, D0, dn0, dc0, M0, mn0, mc0⟩) (v := .int .i64 k1) hk (by omega) (fun x' hx' => by rw [hx] at hx'; injection hx' with hx'; subst hx'; rfl) ⟨hxo.d, hxo.n⟩ hxf hxl
  have o0 := keep ⟨g, k * 6 + 0, none⟩ (.int .i64 k1) rfl hxo hxf
  have q0 := keep ⟨g, k * 6 + 0, none⟩ (.int .i64 k1) rfl hok ho
  have s1 := s0.put (j := 1) (x' := ⟨⟨k1, m1, l0, d0, n0, t0⟩, D0, dn0, dc0, M0, mn0, mc0⟩) (v := .int .i64 m1) hk (by omega) (fun x' hx' => by rw [getset hkl] at hx'; subst hx'; rfl) ⟨o0.d, o0.n⟩ hxf hxl
  have o1 := keep ⟨g, k * 6 + 1, none⟩ (.int .i64 m1) rfl o0 hxf
  have q1 := keep ⟨g, k * 6 + 1, none⟩ (.int .i64 m1) rfl q0 ho
  rw [List.set_set] at s1
  have s2 := s1.put (j := 2) (x' := ⟨⟨k1, m1, l1, d0, n0, t0⟩, D0, dn0, dc0, M0, mn0, mc0⟩) (v := .int .i64 l1) hk (by omega) (fun x' hx' => by rw [getset hkl] at hx'; subst hx'; rfl) ⟨o1.d, o1.n⟩ hxf hxl
  have o2 := keep ⟨g, k * 6 + 2, none⟩ (.int .i64 l1) rfl o1 hxf
  have q2 := keep ⟨g, k * 6 + 2, none⟩ (.int .i64 l1) rfl q1 ho
  rw [List.set_set] at s2
  have s3 := s2.put (j := 3) (x' := ⟨⟨k1, m1, l1, d1, n0, t0⟩, D1, dn1, dc1, M0, mn0, mc0⟩) (v := .slice D1 dn1 dc1) hk (by omega) (fun x' hx' => by rw [getset hkl] at hx'; subst hx'; rfl) ⟨q2.d, o2.n⟩ ⟨ho.1, hxf.2⟩ ⟨hlo.1, hxl.2.1, hlo.2.2.1, hxl.2.2.2⟩
  have q3 := keep ⟨g, k * 6 + 3, none⟩ (.slice D1 dn1 dc1) rfl q2 ho
  rw [List.set_set] at s3
  have s4 := s3.put (j := 4) (x' := ⟨⟨k1, m1, l1, d1, n1, t0⟩, D1, dn1, dc1, M1, mn1, mc1⟩) (v := .slice M1 mn1 mc1) hk (by omega) (fun x' hx' => by rw [getset hkl] at hx'; subst hx'; rfl) ⟨q3.d, q3.n⟩ ho hlo
  have q4 := keep ⟨g, k * 6 + 4, none⟩ (.slice M1 mn1 mc1) rfl q3 ho
  rw [List.set_set] at s4
  have s5 := s4.put (j := 5) (x' := ⟨⟨k1, m1, l1, d1, n1, t1⟩, D1, dn1, dc1, M1, mn1, mc1⟩) (v := .string ⟨t1.toArray⟩) hk (by omega) (fun x' hx' => by rw [getset hkl] at hx'; subst hx'; rfl) ⟨q4.d, q4.n⟩ ho hlo
  rw [List.set_set] at s5
  exact s5
end
end Go.Proofs.YtlcoapignfmgcaaGreatDoor
namespace Go.Proofs.YtlcoapignfmgcaaGreatDoor
open Go.RowKit
set_option linter.unusedVariables false
theorem set_app {α : Type} {Y : List α} {k n : Nat} (hY : Y.length = k) (hk : k < n) (d y : α) : (Y ++ List.replicate (n - k) d).set k y = (Y ++ [y]) ++ List.replicate (n - (k + 1)) d := by
  subst hY
  rw [List.set_append, if_neg (by omega), Nat.sub_self, show n - Y.length = (n - (Y.length + 1)) + 1 by omega, List.replicate_succ, List.set_cons_zero, List.append_assoc]
  rfl
/-- Nodes that are not too long. -/
def SmallV (l : List DV) : Prop := l.length ≤ 1000 ∧ ∀ x ∈ l, x.dn ≤ 1000000 ∧ x.mn ≤ 1000000
theorem nd_at0 (g m k q : Nat) (i : Int) (hi : i = (q : Int)) (hq : q < m) (W : World) : (Instr.indexAt 22 (.slice (some ⟨g, 0, none⟩) m k) (.int .i64 i)).run Tryz.prog W = .ok (.pointer (some ⟨g, q * 6, none⟩)) W := by
  have := nd_at g 0 m k q i hi hq W
  rwa [Nat.zero_add] at this
theorem OF.cells {B : Nat} {w : World} {g n c : Nat} {X : List DV} (h : OF B w (some ⟨g, 0, none⟩) n c X) {k : Nat} {x : DV} (hx : X[k]? = some x) :
    (w.cell? ⟨g, k * 6, none⟩ = some (.int .i64 x.r.kind) ∧ w.cell? ⟨g, k * 6 + 1, none⟩ = some (.int .i64 x.r.mode) ∧ w.cell? ⟨g, k * 6 + 2, none⟩ = some (.int .i64 x.r.links) ∧ w.cell? ⟨g, k * 6 + 3, none⟩ = some (.slice x.D x.dn x.dc) ∧ w.cell? ⟨g, k * 6 + 4, none⟩ = some (.slice x.M x.mn x.mc) ∧ w.cell? ⟨g, k * 6 + 5, none⟩ = some (.string ⟨x.r.to.toArray⟩)) ∧
    ∀ j, w.frozen? ⟨g, j, none⟩ = false := by
  have hl := h.len
  obtain ⟨hk, hx⟩ := List.getElem?_eq_some_iff.1 hx
  have key : ∀ j, j < 6 → w.cell? ⟨g, k * 6 + j, none⟩ = x.cs[j]? := fun j hj => by
    rw [World.ownsRow.cellAt h.own (k * 6 + j) (by omega), dcs_at X k j hk hj, hx]
  exact ⟨⟨key 0 (by omega), key 1 (by omega), key 2 (by omega), key 3 (by omega), key 4 (by omega), key 5 (by omega)⟩, fun j => World.ownsRow.frozenAt h.own j⟩
set_option maxRecDepth 100000 in
set_option maxHeartbeats 8000000 in
theorem each_any (L : Option Addr) (n c : Nat) (l : List DV) (w : World) (hF : FsR w w.heap.size L n l) (hs : SmallV l) :
    Calls Tryz.prog 55 #[.slice L n c, .func (.func 34) #[] #[]] w fun e w' => ∃ L' c' X, e = .returned (.slice L' n c') ∧ OF w.heap.size w' L' n c' X ∧ X.map (·.r) = l.map (·.r) ∧ SmallV X ∧ Below w.heap.size w w' := by
  have hl := hF.len
  by_cases h0 : n = 0
  · subst h0
    have hz : ((0 : Int) == 0) = true := rfl
    obtain rfl := List.eq_nil_of_length_eq_zero hl
    clear hF hl
    go_enter Tryz.func55, Tryz.ntmps55
    go_wp2_with fail
    go_ret
    exact ⟨none, 0, [], rfl, OF.none_ _ _, rfl, hs, Below.refl _ _⟩
  have hz : ((n : Int) == 0) = false := beq_eq_false_iff_ne.2 (by omega)
  have hn1 : n ≤ 1000 := by have := hs.1; omega
  have hmk := fun W => nodes_make n hn1 W
  have HF := hide hF
  have HS := hide hs
  have HL := hide hl
  have HO := hide (made_nodes (W := w) n hn1 (Nat.le_refl _))
  have HB := hide ((Below.refl w.heap.size w).alloc (Nat.le_refl _) (.cells (madeCells zN (n * 6)) 28))
  clear hF hs hl
  go_enter Tryz.func55, Tryz.ntmps55
  go_wp2_with fail
  go_loopw [16] (fun u16 wx => ∃ (k : Nat) (Y : List DV), k ≤ n ∧ u16 = .int .i64 (k : Int) ∧ Hid (OF w.heap.size wx (some ⟨w.heap.size, 0, none⟩) n n (Y ++ List.replicate (n - k) dv0)) ∧ Hid (Y.length = k) ∧ Hid (Y.map (·.r) = (l.take k).map (·.r)) ∧ Hid (∀ x ∈ Y, x.dn ≤ 1000000 ∧ x.mn ≤ 1000000) ∧ Hid (Below w.heap.size w wx)) (fun u16 _ => n - (intOf u16).toNat)
  case atStart => exact ⟨0, [], Nat.zero_le _, rfl, hide (by simpa using HO.out), hide rfl, hide rfl, hide (fun x hx => by cases hx), HB⟩
  case round =>
    clear HO HB
    obtain ⟨k, Y, hk, rfl, HO, HY, HR, HN, HB⟩ := hrel
    by_cases hlt : k < n
    · obtain ⟨g, o, x, rfl, hg, hx, hok, c0, c1, c2, c3, c4, c5⟩ := (HF.out.below HB.out).at_ hlt
      have hxn := HS.out.2 x (List.mem_of_getElem? hx)
      have hia := fun W => nd_at g o n c k (k : Int) rfl hlt W
      have hib := fun W => nd_at0 w.heap.size n n k (k : Int) rfl hlt W
      have hlt' : (k : Int) < (n : Int) := by omega
      go_wp2_with fail
      have hgr : wr.heap.size < (wr.alloc (.cells #[.int .i64 x.r.kind, .int .i64 x.r.mode, .int .i64 x.r.links, .slice x.D x.dn x.dc, .slice x.M x.mn x.mc, .string ⟨x.r.to.toArray⟩] 28)).heap.size := by simp
      have hbA := (Below.refl wr.heap.size wr).alloc (Nat.le_refl _) (.cells #[.int .i64 x.r.kind, .int .i64 x.r.mode, .int .i64 x.r.links, .slice x.D x.dn x.dc, .slice x.M x.mn x.mc, .string ⟨x.r.to.toArray⟩] 28)
      have hsz := HB.out.size
      have XC := hide (cnode_any x _ (((hok.more hsz).below hbA).more (Nat.le_of_lt hgr)) hxn)
      have HO2 := hide (HO.out.below hbA)
      have HB2 := hide (HB.out.trans (hbA.mono hsz))
      have hgw : w.heap.size < (wr.alloc (.cells #[.int .i64 x.r.kind, .int .i64 x.r.mode, .int .i64 x.r.links, .slice x.D x.dn x.dc, .slice x.M x.mn x.mc, .string ⟨x.r.to.toArray⟩] 28)).heap.size := by omega
      clear hbA hok c0 c1 c2 c3 c4 c5 HO HB hgr
      generalize wr.alloc (.cells #[.int .i64 x.r.kind, .int .i64 x.r.mode, .int .i64 x.r.links, .slice x.D x.dn x.dc, .slice x.M x.mn x.mc, .string ⟨x.r.to.toArray⟩] 28) = W2 at *
      refine XC.out.mono ?_
      rintro e w3 ⟨D', dc', M', mc', rfl, hd, hm, hb⟩
      have HO3 := hide (HO2.out.below hb)
      have HB3 := hide (HB2.out.trans (hb.mono (by omega)))
      have HK : Hid (DVok w3 w3.heap.size ⟨x.r, D', x.dn, dc', M', x.mn, mc'⟩) := hide ⟨Reads.of_own hd, Reads.of_own hm⟩
      have HF1 := hide ((lo_own hd).off hgw)
      have HF2 := hide ((lo_own hm).off hgw)
      have HN1 := hide (own_cap hd)
      have HN2 := hide (own_cap hm)
      have HL1 := hide ((lo_own hd).less (Nat.le_of_lt hgw))
      have HL2 := hide ((lo_own hm).less (Nat.le_of_lt hgw))
      have hXk : (Y ++ List.replicate (n - k) dv0)[k]? = some dv0 := by
        rw [List.getElem?_append_right (by have := HY.out; omega), List.getElem?_replicate, if_pos (by have := HY.out; omega)]
      obtain ⟨⟨c0, c1, c2, c3, c4, c5⟩, hfz⟩ := HO3.out.cells hXk
      have hgw3 : w.heap.size < w3.heap.size := by have := hb.size; omega
      clear hd hm hb XC HO2 HB2
      unfold DV.cs
      go_wp2_with fail
      have HO4 := hide (HO3.out.fill hlt HK.out ⟨HF1.out, HF2.out⟩ ⟨HL1.out, HL2.out, HN1.out, HN2.out⟩)
      have hb6 : ∀ (v : World) (j : Nat) (u : Value), Below w.heap.size w v → Below w.heap.size w (v.setCell ⟨w.heap.size, j, none⟩ u) := fun v j u hv => hv.setCell (p := ⟨w.heap.size, j, none⟩) (Nat.le_refl _) u
      refine ⟨⟨k + 1, Y ++ [⟨x.r, D', x.dn, dc', M', x.mn, mc'⟩], by omega, by go_num, hide ?_, hide (by rw [List.length_append, HY.out]; rfl), hide ?_, hide (fun y hy => ?_), hide ?_⟩, by simp [intOf]; omega⟩
      · have h := HO4.out
        rw [set_app HY.out hlt] at h
        exact h
      · rw [List.map_append, HR.out]
        obtain ⟨h1, h2⟩ := List.getElem?_eq_some_iff.1 hx
        rw [List.take_succ_eq_append_getElem h1, List.map_append, h2]
        rfl
      · rcases List.mem_append.1 hy with hy | hy
        · exact HN.out y hy
        · rw [List.mem_singleton.1 hy]; exact hxn
      · exact hb6 _ _ _ (hb6 _ _ _ (hb6 _ _ _ (hb6 _ _ _ (hb6 _ _ _ (hb6 _ _ _ HB3.out)))))
    · obtain rfl : k = n := by omega
      have hlt' : ¬ (k : Int) < (k : Int) := by omega
      have HO5 : Hid (OF w.heap.size wr (some ⟨w.heap.size, 0, none⟩) k k Y) := hide (by have h := HO.out; rw [Nat.sub_self] at h; simpa using h)
      clear HO
      go_wp2_with fail
      go_ret
      exact ⟨some ⟨w.heap.size, 0, none⟩, k, rfl, Y, HO5.out, by rw [HR.out, List.take_of_length_le (by have := HL.out; omega)], ⟨by have := HY.out; omega, HN.out⟩, HB.out⟩
set_option maxRecDepth 100000 in
set_option maxHeartbeats 4000000 in
theorem fs_any (L : Option Addr) (n c : Nat) (l : List DV) (w : World) (hF : FsR w w.heap.size L n l) (hs : SmallV l) :
    Calls Tryz.prog 27 #[.agg #[.slice L n c]] w fun e w' => ∃ L' c' X, e = .returned (.agg #[.slice L' n c']) ∧ OF w.heap.size w' L' n c' X ∧ X.map (·.r) = l.map (·.r) ∧ SmallV X ∧ Below w.heap.size w w' := by
  have hb0 := ((Below.refl w.heap.size w).alloc (Nat.le_refl _) (.cells #[.slice L n c] 24)).alloc (by simp) (.cells #[.slice none 0 0] 24)
  have hb1 := Blk.new w 24 #[.slice L n c]
  have hb2 := Blk.new (w.alloc (.cells #[.slice L n c] 24)) 24 #[.slice none 0 0]
  have hsz : ((w.alloc (.cells #[.slice L n c] 24)).alloc (.cells #[.slice none 0 0] 24)).heap.size = w.heap.size + 2 := by simp
  have hs1 : (w.alloc (.cells #[.slice L n c] 24)).heap.size = w.heap.size + 1 := by simp
  rw [hs1] at hb2
  have HB1 := hide (hb1.alloc (.cells #[.slice none 0 0] 24))
  have HB2 := hide hb2
  have HB0 := hide hb0
  have X1 := hide (each_any L n c l _ ((hF.below hb0).more (show w.heap.size ≤ ((w.alloc (.cells #[.slice L n c] 24)).alloc (.cells #[.slice none 0 0] 24)).heap.size by rw [hsz]; omega)) hs)
  have HZ := hide hsz
  clear hF hb0 hb1 hb2 hsz hs1
  go_enter Tryz.func27, Tryz.ntmps27
  go_wp2_with fail
  generalize (w.alloc (.cells #[.slice L n c] 24)).alloc (.cells #[.slice none 0 0] 24) = W1 at *
  refine X1.out.mono ?_
  rintro e w2 ⟨L', c', X, rfl, hO, hR, hX, hb⟩
  have HO := hide hO
  have HB := hide hb
  have hz := HZ.out
  have p1 := HB1.out.below hb (by omega)
  have p2 := HB2.out.below hb (by omega)
  have a1 := p1.cell 0
  have b1 := p1.frozen 0
  have a2 := p2.cell 0
  have b2 := p2.frozen 0
  have hl2 := p2.lt
  clear hO hb X1 p1 p2 HB1 HB2
  go_wp2_with fail
  refine bodyPost_ret (v := .agg #[.slice L' n c']) (by simp only [results, Tryz.results27]; go_simp) rfl ⟨L', c', X, rfl, ?_, hR, hX, ?_⟩
  · refine OF.less (B := W1.heap.size) ?_ (by omega)
    refine OF.far ?_ (by show w.heap.size + 1 < W1.heap.size; omega) _
    refine OF.far ?_ (by show w.heap.size < W1.heap.size; omega) _
    exact HO.out
  · exact ((HB0.out.trans (HB.out.mono (by omega))).setCell (p := ⟨w.heap.size, 0, none⟩) (Nat.le_refl _) _).setCell (p := ⟨w.heap.size + 1, 0, none⟩) (by show w.heap.size ≤ w.heap.size + 1; omega) _
end Go.Proofs.YtlcoapignfmgcaaGreatDoor
