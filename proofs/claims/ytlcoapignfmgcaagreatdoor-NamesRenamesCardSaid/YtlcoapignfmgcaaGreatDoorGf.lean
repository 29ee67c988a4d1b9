/- Rows of texts; strings.Join. The path of a step. (*node.step).path. The visit of node.Where. node.New. How long the paths of the walk are. -/
import Derived.Test.YtlcoapignfmgcaaGreatDoorGe
import Derived.Lib.Join
import Derived.Lib.Strings
import Derived.Sort.OwnSorted
namespace Go.Proofs.YtlcoapignfmgcaaGreatDoor
open Go.RowKit
set_option linter.unusedVariables false
theorem bs_of (s : ByteArray) : ∃ l : Bs, s = ⟨l.toArray⟩ := ⟨s.data.toList, by cases s; simp⟩
def sv (k : Bs) : Value := .string ⟨k.toArray⟩
def svs (ks : List Bs) : List Value := ks.map sv
theorem svs_length (ks : List Bs) : (svs ks).length = ks.length := by simp [svs]
theorem svs_append (a b : List Bs) : svs (a ++ b) = svs a ++ svs b := by simp [svs]
theorem svs_one (ks : List Bs) : ∀ u ∈ svs ks, u.oneCell' = true := by
  intro u hu
  simp only [svs, List.mem_map] at hu
  obtain ⟨b, _, rfl⟩ := hu
  rfl
theorem svs_get (ks : List Bs) (j : Nat) (h : j < ks.length) : (svs ks)[j]? = some (sv ks[j]) := by simp [svs, h]
theorem infoStr : (Tryz.prog.info? 9).map (fun i => (i.zero, i.size, i.bytes)) = some (some (.string ⟨#[]⟩), 1, 16) := by kernel_rfl
theorem sizeStr : (Tryz.prog.info? 9).map (·.size) = some 1 := by kernel_rfl
/-- A row of texts of the call's own. -/
def Ow (B : Nat) (w : World) (A : Option Addr) (n c : Nat) (ks : List Bs) : Prop := w.ownsRow B 9 1 (.slice A n c) n (svs ks)
theorem Ow.len {B : Nat} {w : World} {A : Option Addr} {n c : Nat} {ks : List Bs} (h : Ow B w A n c ks) : ks.length = n := by have := h.1; rw [svs_length] at this; omega
theorem Ow.rd {B : Nat} {w : World} {A : Option Addr} {n c : Nat} {ks : List Bs} (h : Ow B w A n c ks) : Reads w w.heap.size 1 A n (svs ks) := Reads.of_own h
theorem Ow.below {B : Nat} {w w' : World} {A : Option Addr} {n c : Nat} {ks : List Bs} (h : Ow B w A n c ks) (hb : Below w.heap.size w w') : Ow B w' A n c ks := own_below h hb
theorem Ow.more {B C : Nat} {w : World} {A : Option Addr} {n c : Nat} {ks : List Bs} (h : Ow B w A n c ks) (hB : C ≤ B) : Ow C w A n c ks := own_more h hB
theorem Ow.alloc {B : Nat} {w : World} {A : Option Addr} {n c : Nat} {ks : List Bs} (h : Ow B w A n c ks) (o : Obj) : Ow B (w.alloc o) A n c ks := World.ownsRow.alloc h o
theorem Ow.none_ (B : Nat) (w : World) : Ow B w none 0 0 [] := World.ownsRow_nil _ _ _ _

theorem one_str (W : World) (x : Bs) : Reads (W.alloc (.cells #[.string ⟨x.toArray⟩] 9)) (W.heap.size + 1) 1 (some ⟨W.heap.size, 0, none⟩) 1 (svs [x]) := by
  refine ⟨rfl, fun _ => ⟨_, rfl, by simp, ?_⟩⟩
  intro j u hu
  match j with
  | 0 =>
    simp only [svs, sv, List.map_cons, List.map_nil, List.getElem?_cons_zero, Option.some.injEq] at hu
    subst hu
    rw [add_zero_]
    exact (Blk.new W 9 #[.string ⟨x.toArray⟩]).cell 0
  | j + 1 => simp [svs] at hu
theorem ow_next {B : Nat} {w wr w2 : World} {A : Option Addr} {n c : Nat} {ks : List Bs} {x : Bs} {v1 : Value} {o : Obj} (h : Ow B wr A n c ks) (h1 : w2.ownsRow B 9 1 v1 (n + 1) (svs ks ++ svs [x])) (hg : (wr.alloc o).grownBy w2 (Value.slice A n c).ownBlock) {g : Nat} {t : TypeId} {cs : Array Value} (hb : Blk wr g t cs) (hgB : g < B) (hw : Below w.heap.size w wr) (hCB : w.heap.size ≤ B) :
    ∃ A' c', v1 = .slice A' (n + 1) c' ∧ Ow B w2 A' (n + 1) c' (ks ++ [x]) ∧ Blk w2 g t cs ∧ Below w.heap.size w w2 := by
  obtain ⟨A', c', rfl⟩ := own_slice h1
  refine ⟨A', c', rfl, by unfold Ow; rw [svs_append]; exact h1, Blk.grown (hb.alloc o) hg ?_, ?_⟩
  · intro e
    have := (World.ownsRow.lt h g e.symm).1
    omega
  · exact Below.grown (h := hw.alloc hw.size o) (hg := hg) (by have := hw.size; simp; omega) (fun g hg => by have := (World.ownsRow.lt h g hg).1; omega)
theorem ow_next' {B : Nat} {w wr w2 : World} {A : Option Addr} {n c : Nat} {ks : List Bs} {x : Bs} {v1 : Value} {o : Obj} (h : Ow B wr A n c ks) (h1 : w2.ownsRow B 9 1 v1 (n + 1) (svs ks ++ svs [x])) (hg : (wr.alloc o).grownBy w2 (Value.slice A n c).ownBlock) (hw : Below w.heap.size w wr) (hCB : w.heap.size ≤ B) :
    ∃ A' c', v1 = .slice A' (n + 1) c' ∧ Ow B w2 A' (n + 1) c' (ks ++ [x]) ∧ Below w.heap.size w w2 := by
  obtain ⟨A', c', rfl⟩ := own_slice h1
  exact ⟨A', c', rfl, by unfold Ow; rw [svs_append]; exact h1, Below.grown (h := hw.alloc hw.size o) (hg := hg) (by have := hw.size; simp; omega) (fun g hg => by have := (World.ownsRow.lt h g hg).1; omega)⟩
theorem ow_drop {B : Nat} {w : World} {A : Option Addr} {q c : Nat} {ks : List Bs} (h : Ow B w A (q + 1) c ks) : Ow B w A q c ks.dropLast ∧ q ≤ c ∧ ∃ g, A = some ⟨g, 0, none⟩ ∧ w.cell? ⟨g, q, none⟩ = some (.string ⟨(ks.getLastD []).toArray⟩) := by
  have hl := h.len
  obtain ⟨h1, h2⟩ := h
  rcases h2 with ⟨hv, _⟩ | ⟨g, cap, cur, hv, hb, hh, hnc, hmx, hsz, htk⟩
  · cases hv
  · injection hv with e1 e2 e3
    subst e1; subst e3
    refine ⟨⟨by rw [svs_length, List.length_dropLast, hl]; omega, .inr ⟨g, c, cur, rfl, hb, hh, by omega, hmx, hsz, ?_⟩⟩, by omega, g, rfl, ?_⟩
    · have e : svs ks.dropLast = (svs ks).take q := by
        unfold svs; rw [List.dropLast_eq_take, hl, List.map_take]; rfl
      rw [e, ← htk, List.take_take]
      congr 1
      omega
    · rw [cell_of_row w g q cur 9 (0, 0) hh]
      have hq : q < ks.length := by omega
      have e := svs_get ks q hq
      rw [← htk, List.getElem?_take, if_pos (by omega), Array.getElem?_toList] at e
      rw [e]
      have e2 : ks.getLastD [] = ks[q] := by
        rw [List.getLastD_eq_getLast?, List.getLast?_eq_getElem?, hl]; simp [hq]
      rw [e2]; rfl
theorem Ow.addr {B : Nat} {w : World} {A : Option Addr} {n c : Nat} {ks : List Bs} (h : Ow B w A n c ks) : n ≤ c ∧ (0 < n → ∃ g o, A = some ⟨g, o, none⟩) := by
  rcases h.2 with ⟨hv, h0⟩ | ⟨g, cap, cur, hv, hb, hh, hnc, hmx, hsz, htk⟩
  · injection hv with e1 e2 e3; subst h0; exact ⟨Nat.zero_le _, fun h => absurd h (by omega)⟩
  · injection hv with e1 e2 e3; subst e3; exact ⟨hnc, fun _ => ⟨g, 0, e1⟩⟩
end Go.Proofs.YtlcoapignfmgcaaGreatDoor
namespace Go.Proofs.YtlcoapignfmgcaaGreatDoor
open Go.RowKit
set_option linter.unusedVariables false
theorem total_n (ks : List Bs) (sep : UInt8) : ks.length ≤ (Lib.join ks [sep]).length + 1 := by
  cases ks with
  | nil => simp
  | cons x r => rw [Lib.join_cons, List.length_append, Lib.joinTail_length]; simp; omega
theorem join_row (sep : UInt8) (A : Option Addr) (n c : Nat) (ks : List Bs) (w : World) (hR : Reads w w.heap.size 1 A n (svs ks)) (hc : n ≤ c) (hA : 0 < n → ∃ g o, A = some ⟨g, o, none⟩) (ht : (Lib.join ks [sep]).length ≤ 1000000) :
    Calls Tryz.prog 91 #[.slice A n c, .string ⟨#[sep]⟩] w fun e w' => e = .returned (.string ⟨(Lib.join ks [sep]).toArray⟩) ∧ Below w.heap.size w w' := by
  have hl : ks.length = n := by have := hR.1; rw [svs_length] at this; omega
  rcases Nat.eq_zero_or_pos n with h0 | h0
  · subst h0
    obtain rfl := List.eq_nil_of_length_eq_zero hl
    refine (Any.strings_Join_none Tryz.lays156 Tryz.Builder_Extra_156 A c ⟨#[sep]⟩ w).mono ?_
    rintro e w' ⟨rfl, rfl⟩
    exact ⟨rfl, Below.refl _ _⟩
  · obtain ⟨g, o, rfl⟩ := hA h0
    obtain ⟨ad, e1, hb, hcl⟩ := hR.2 h0
    injection e1 with e1
    subst e1
    have hlx : (ks.map fun k => (⟨k.toArray⟩ : ByteArray)).length = n := by rw [List.length_map, hl]
    have hmm : (ks.map fun k => (⟨k.toArray⟩ : ByteArray)).map (fun x => x.data.toList) = ks := by simp [List.map_map, Function.comp_def]
    have h := Any.strings_Join Tryz.lays156 Tryz.Builder_Extra_156 g o c (ks.map fun k => (⟨k.toArray⟩ : ByteArray)) ⟨#[sep]⟩ w ?_ hb (by rw [hlx]; have := total_n ks sep; omega) (by rw [hlx]; exact hc) (by rw [hmm]; show (Lib.join ks [sep]).length ≤ _; omega)
    · rw [hlx, hmm] at h
      exact h
    · intro j x hj
      rw [List.getElem?_map] at hj
      have hjl : j < ks.length := by
        rcases Nat.lt_or_ge j ks.length with h | h
        · exact h
        · rw [List.getElem?_eq_none h] at hj; cases hj
      rw [List.getElem?_eq_getElem hjl] at hj
      simp only [Option.map_some, Option.some.injEq] at hj
      subst hj
      have := hcl j _ (svs_get ks j hjl)
      rw [at_add] at this
      exact this

open Go.Sort in
theorem grow_none (w : World) : grow w #[] = w := by simp [grow]
open Go.Sort in
theorem rev_row {B : Nat} {w : World} {A : Option Addr} {n c : Nat} {ks : List Bs} (h : Ow B w A n c ks) (hn : n ≤ 1000000) :
    Calls Tryz.prog 90 #[.slice A n c] w fun e w' => e = .returned (.tuple #[]) ∧ Ow B w' A n c ks.reverse ∧ Below (min B w.heap.size) w w' := by
  have hl := h.len
  rcases h.2 with ⟨hv, h0⟩ | ⟨g, cap, cur, hv, hb, hh, hnc, hmx, hsz, htk⟩
  · injection hv with e1 e2 e3
    subst e2
    obtain rfl := List.eq_nil_of_length_eq_zero hl
    refine (Any.slices_Reverse_string_empty Tryz.laysNm217 A c w).mono ?_
    rintro e w' ⟨rfl, rfl⟩
    exact ⟨rfl, h, Below.refl _ _⟩
  · injection hv with e1 e2 e3
    subst e1; subst e3
    have hks : svs ks = ks.map encStr := rfl
    have ht : cur.toList.take ks.length = ks.map encStr := by rw [← hks, hl]; simpa using htk
    have hR := Any.slices_Reverse_string Tryz.laysNm217 g 0 c ks w (holds_of_block hh ht) (by omega)
    rw [hl] at hR
    refine hR.mono ?_
    rintro e w' ⟨rfl, q, rfl⟩
    have o := ownsRow_sorted (n := q) (os := #[]) (ts := ks.reverse) (ss := ks) (by simp) hb hh (by omega) hmx hsz
    have gr := grownBy_sorted (w := w) (g := g) (n := q) (os := #[]) ks.reverse.toArray
    rw [grow_none] at o gr
    rw [hl] at o
    refine ⟨rfl, o, ?_⟩
    exact Below.grown (h := Below.refl _ w) (hg := gr) (by omega) (fun k hk => by injection hk with hk; omega)
end Go.Proofs.YtlcoapignfmgcaaGreatDoor
namespace Go.Proofs.YtlcoapignfmgcaaGreatDoor
open Go.RowKit
set_option linter.unusedVariables false
def lenOf : Value → Nat
  | .slice _ n _ => n
  | _ => 0
theorem StC.inv {V : World} {O : Nat → Prop} {p : Option Addr} {us : List (List UInt8)} (h : StC V O p us) :
    (p = none ∧ us = []) ∨ ∃ (g : Nat) (up : Option Addr) (us' : List (List UInt8)) (d : Int) (nm : List UInt8) (nd : Int), p = some ⟨g, 0, none⟩ ∧ us = us' ++ [nm] ∧ Blk V g 104 #[.pointer up, .int .i64 d, .string ⟨nm.toArray⟩, .int .i64 nd] ∧ StC V O up us' := by
  cases h with
  | nil => exact .inl ⟨rfl, rfl⟩
  | cons h hn t => exact .inr ⟨_, _, _, _, _, _, rfl, rfl, h, t⟩
set_option maxRecDepth 100000 in
set_option maxHeartbeats 8000000 in
theorem path_any (O : Nat → Prop) (p : Option Addr) (us : List (List UInt8)) (w : World) (hC : StC w O p us) (hu : us.length ≤ 1000000) (hj : (Lib.join us [47]).length ≤ 1000000) :
    Calls Tryz.prog 77 #[.pointer p] w fun e w' => e = .returned (.string ⟨(47 :: Lib.join us [47]).toArray⟩) ∧ Below w.heap.size w w' := by
  have HC := hide hC
  obtain ⟨J, hJ⟩ : ∃ J, Lib.join us [47] = J := ⟨_, rfl⟩
  rw [hJ] at hj ⊢
  have HJ := hide hJ
  obtain ⟨i0, hi, hz0, hz1, hz2⟩ := info_parts infoStr
  clear hC hJ
  go_enter Tryz.func77, Tryz.ntmps77
  go_wp2_with fail
  go_loopw [0, 3] (fun u0 u3 wx => ∃ (q : Option Addr) (us' ks : List Bs) (A : Option Addr) (m c : Nat), u0 = .pointer q ∧ u3 = .slice A m c ∧ m ≤ us.length ∧ Hid (StC w O q us') ∧ Hid (Ow w.heap.size wx A m c ks) ∧ Hid (us = us' ++ ks.reverse) ∧ Hid (Below w.heap.size w wx)) (fun _ u3 _ => us.length - lenOf u3)
  case atStart => exact ⟨p, us, [], none, 0, 0, rfl, rfl, Nat.zero_le _, HC, hide (Ow.none_ _ _), hide (by simp), hide (Below.refl _ _)⟩
  case round =>
    obtain ⟨q, us', ks, A, m, c, rfl, rfl, hm, HS, HO, HU, HB⟩ := hrel
    rcases HS.out.inv with ⟨rfl, hus⟩ | ⟨g, up, us2, d, nm, nd, rfl, hus, hblk, hst⟩
    · have HKS : Hid (us = ks.reverse) := hide (by rw [HU.out, hus]; rfl)
      clear hus
      have XR := hide (rev_row HO.out (by omega))
      go_wp2_with fail
      refine XR.out.mono ?_
      rintro e w2 ⟨rfl, ho, hb⟩
      have HO2 := hide ho
      have HB2 : Hid (Below w.heap.size w w2) := hide (HB.out.trans (hb.mono (by have := HB.out.size; omega)))
      have XJ := hide (join_row 47 A m c ks.reverse w2 ho.rd ho.addr.1 ho.addr.2 (by rw [← HKS.out, HJ.out]; exact hj))
      rw [← HKS.out, HJ.out] at XJ
      clear ho hb XR
      go_wp2_with fail
      refine XJ.out.mono ?_
      rintro e w3 ⟨rfl, hb⟩
      have HB3 := hide (HB2.out.trans (hb.mono HB2.out.size))
      clear hb XJ
      go_wp2_with fail
      go_ret
      refine ⟨?_, HB3.out⟩
      show Ending.returned (.string ((⟨#[47]⟩ : ByteArray) ++ ⟨J.toArray⟩)) = _
      exact ret_str (by apply ByteArray.ext; simp)
    · have HUS := hide hus
      have hb2 := hblk.below HB.out hblk.lt
      have s0 := hb2.cell 0
      have s2 := hb2.cell 2
      have s9 := hb2.lt
      simp only [List.getElem?_toArray, List.getElem?_cons_zero, List.getElem?_cons_succ] at s0 s2
      have hml : m + 1 ≤ us.length := by
        have h1 := congrArg List.length HU.out
        have h2 := HO.out.len
        rw [hus] at h1
        simp at h1
        omega
      have HST := hide hst
      have hr1 := one_str wr nm
      have hsz := HB.out.size
      have hO1 := HO.out.alloc (.cells #[.string ⟨nm.toArray⟩] 9)
      have HSB : Hid (∀ V, Below w.heap.size w V → V.cell? ⟨g, 0, none⟩ = some (.pointer up) ∧ g < V.heap.size) := hide (fun V hV => by
        have h := hblk.below hV hblk.lt
        exact ⟨h.cell 0, h.lt⟩)
      clear hus hblk hb2 hst
      go_wp2_with (at_builtin; (refine wpList_append_any _ rfl (.tmp 10) (.tmp 16) 111 rfl w.heap.size 9 i0 _ 1 16 Tryz.underlying111 hi hz0 hz1 hz2 rfl (by omega) (.slice A m c) m (svs ks) rfl hO1 (wr.heap.size + 1) (some ⟨wr.heap.size, 0, none⟩) 1 1 (svs [nm]) rfl hr1 (svs_one _) ?c1 ?c2 ?c3 ?_))
      case c1 => unfold maxLen; omega
      case c2 => omega
      case c3 => simp; omega
      intro v1 w6 hown1 hg1 hat1
      obtain ⟨A2, c2, rfl, O2, W2⟩ := ow_next' HO.out hown1 hg1 HB.out (Nat.le_refl _)
      have HO6 := hide O2
      have HB6 := hide W2
      obtain ⟨z0, z9⟩ := HSB.out w6 W2
      clear hown1 hg1 hat1 O2 W2 hr1 hO1 s0 s2 s9
      go_wp2_with fail
      go_roundw
      case rel => exact ⟨up, us2, ks ++ [nm], A2, m + 1, c2, rfl, rfl, hml, HST, HO6, hide (by rw [HU.out, HUS.out]; simp), HB6⟩
      case measure => simp [lenOf]; omega
end Go.Proofs.YtlcoapignfmgcaaGreatDoor
namespace Go.Proofs.YtlcoapignfmgcaaGreatDoor
open Go.RowKit
set_option linter.unusedVariables false
/-- The path of a step. -/
def pathP (x : ST) : List UInt8 := 47 :: Lib.join (x.up ++ [x.name]) [47]
def SmallS (x : ST) : Prop := (x.up ++ [x.name]).length ≤ 1000000 ∧ (Lib.join (x.up ++ [x.name]) [47]).length ≤ 1000000
def goN (m : Int) (x : ST) : Bool := !(x.node == m)
def fndN (m : Int) (s : List ST) : Option ST := s.find? fun x => x.node == m
theorem fnd_none {m : Int} {s : List ST} (h : s.all (goN m) = true) : fndN m s = none := by
  unfold fndN
  rw [List.find?_eq_none]
  intro x hx
  have := List.all_eq_true.1 h x hx
  unfold goN at this
  simpa using this
theorem fnd_snoc {m : Int} {s : List ST} (h : s.all (goN m) = true) (x : ST) : fndN m (s ++ [x]) = if x.node = m then some x else none := by
  have h1 := fnd_none h
  unfold fndN at h1 ⊢
  rw [List.find?_append, h1, List.find?_cons, List.find?_nil]
  by_cases hx : x.node = m
  · rw [if_pos hx]; simp [hx]
  · rw [if_neg hx, show (x.node == m) = false from beq_eq_false_iff_ne.2 hx]
    rfl
def wText (o : Option ST) : List UInt8 := match o with | some x => pathP x | none => []
/-- What the visit of Where keeps. -/
structure JW (rn rw_ rf : Nat) (m : Int) (s : List ST) (O : Nat → Prop) (V : World) : Prop where
  o : ∀ k, O k ↔ k = rw_ ∨ k = rf
  n : Blk V rn 3 #[.int .i64 m]
  w : Blk V rw_ 9 #[.string ⟨(wText (fndN m s)).toArray⟩]
  f : Blk V rf 4 #[.bool (fndN m s).isSome]
  n1 : rn ≠ rw_
  n2 : rn ≠ rf
  n3 : rw_ ≠ rf
theorem JW.below {rn rw_ rf : Nat} {m : Int} {s : List ST} {O : Nat → Prop} {V V' : World} (h : JW rn rw_ rf m s O V) (hb : Below V.heap.size V V') : JW rn rw_ rf m s O V' :=
  ⟨h.o, h.n.below hb h.n.lt, h.w.below hb h.w.lt, h.f.below hb h.f.lt, h.n1, h.n2, h.n3⟩
theorem JW.lt {rn rw_ rf : Nat} {m : Int} {s : List ST} {O : Nat → Prop} {V : World} (h : JW rn rw_ rf m s O V) : ∀ k, O k → k < V.heap.size := fun k hk => by
  rcases (h.o k).1 hk with rfl | rfl
  · exact h.w.lt
  · exact h.f.lt
set_option maxRecDepth 100000 in
set_option maxHeartbeats 8000000 in
theorem visitW (rn rw_ rf : Nat) (m : Int) (n N : Nat) : Visit SmallS N n 76 #[.pointer (some ⟨rn, 0, none⟩), .pointer (some ⟨rw_, 0, none⟩), .pointer (some ⟨rf, 0, none⟩)] (goN m) (JW rn rw_ rf m) := by
  intro s O V g up x hJ hs _ hP _ _ hG hn hC
  have hS : StC V O (some ⟨g, 0, none⟩) (x.up ++ [x.name]) := .cons hG hn hC
  have XP := hide (fun V' (hV : Below V.heap.size V V') => path_any O (some ⟨g, 0, none⟩) (x.up ++ [x.name]) V' (StC.kp (Kp.of hV) hS) hP.1 hP.2)
  have HN := hide (fnd_none hs)
  have HF := hide (fnd_snoc hs x)
  have HJ := hide hJ
  have a0 := one_ hJ.n
  have a1 := one_ hJ.f
  rw [HN.out] at a1
  have kg := hG.cell 3
  have gl := hG.lt
  simp only [List.getElem?_toArray, List.getElem?_cons_zero, List.getElem?_cons_succ] at kg
  simp only [Option.isSome_none] at a1
  change Calls Tryz.prog _ #[.pointer (some ⟨g, 0, none⟩), .pointer (some ⟨rn, 0, none⟩), .pointer (some ⟨rw_, 0, none⟩), .pointer (some ⟨rf, 0, none⟩)] V _
  clear hJ hs hP hG hn hC hS
  obtain ⟨xd, xn, xo, xu⟩ := x
  dsimp only at *
  by_cases hx : xo = m
  · subst hx
    have HG : Hid (goN xo ⟨xd, xn, xo, xu⟩ = false) := hide (by simp [goN])
    rw [HG.out]
    rw [if_pos rfl] at HF
    go_enter Tryz.func76, Tryz.ntmps76
    go_wp2_with fail
    go_quiet (fail)
    go_wp2_with fail
    refine (XP.out _ (bl_drewN (Below.refl _ _))).mono ?_
    rintro e w3 ⟨rfl, hb⟩
    have hb3 : Below V.heap.size V w3 := ⟨hb.os, hb.tape, hb.output, hb.size, hb.block⟩
    clear hb XP
    have J := HJ.out
    obtain ⟨P, hP⟩ : ∃ P, (47 :: Lib.join (xu ++ [xn]) [47] : List UInt8) = P := ⟨_, rfl⟩
    rw [hP]
    have bw := J.w.below hb3 J.w.lt
    have bf := J.f.below hb3 J.f.lt
    have bn := J.n.below hb3 J.n.lt
    obtain ⟨w4, hw4⟩ : ∃ W, w3.setCell ⟨rw_, 0, none⟩ (.string ⟨P.toArray⟩) = W := ⟨_, rfl⟩
    have bw4 : Blk w4 rw_ 9 #[.string ⟨P.toArray⟩] := by rw [← hw4]; exact bw.set_ 0 _
    have bf4 := bf.far (p := ⟨rw_, 0, none⟩) (fun h => J.n3 h.symm) (.string ⟨P.toArray⟩)
    have bn4 := bn.far (p := ⟨rw_, 0, none⟩) J.n1 (.string ⟨P.toArray⟩)
    rw [hw4] at bf4 bn4
    obtain ⟨w5, hw5⟩ : ∃ W, w4.setCell ⟨rf, 0, none⟩ (.bool true) = W := ⟨_, rfl⟩
    have bf5 : Blk w5 rf 4 #[.bool true] := by rw [← hw5]; exact bf4.set_ 0 _
    have bw5 := bw4.far (p := ⟨rf, 0, none⟩) J.n3 (.bool true)
    have bn5 := bn4.far (p := ⟨rf, 0, none⟩) J.n2 (.bool true)
    rw [hw5] at bw5 bn5
    have HEND : Hid (JW rn rw_ rf xo (s ++ [(⟨xd, xn, xo, xu⟩ : ST)]) O w5 ∧ Kp O O V w5) := hide (by
      refine ⟨⟨J.o, bn5, by rw [HF.out]; show Blk w5 rw_ _ #[.string ⟨(47 :: Lib.join (xu ++ [xn]) [47]).toArray⟩]; rw [hP]; exact bw5, by rw [HF.out]; exact bf5, J.n1, J.n2, J.n3⟩, ?_⟩
      refine (Kp.of hb3).trans ⟨by rw [← hw5, ← hw4]; rfl, by rw [← hw5, ← hw4]; rfl, by rw [← hw5, ← hw4]; rfl, by rw [← hw5, ← hw4]; simp, fun k hk hn => ⟨?_, hn⟩⟩
      rw [← hw5, ← hw4, Below.heap_setCell _ _ _ _ (fun h => hn ((J.o k).2 (.inr h))), Below.heap_setCell _ _ _ _ (fun h => hn ((J.o k).2 (.inl h)))])
    have s0 := one_ bw
    have s1 := bw.frozen 0
    have s2 := bw.lt
    have s3 := one_ bf4
    have s4 := bf4.frozen 0
    have s5 := bf4.lt
    have s6 := one_ bf5
    clear J bw bf bn bw4 bf4 bn4 bf5 bw5 bn5 hb3 hP a0 a1 kg
    go_wp2_with fail
    go_ret
    exact ⟨rfl, O, HEND.out.1, HEND.out.2⟩
  · have hx2 : (xo == m) = false := beq_eq_false_iff_ne.2 hx
    have HG : Hid (goN m ⟨xd, xn, xo, xu⟩ = true) := hide (by simp [goN, hx])
    rw [HG.out]
    rw [if_neg hx] at HF
    clear hx
    go_enter Tryz.func76, Tryz.ntmps76
    go_wp2_with fail
    go_quiet (fail)
    go_wp2_with fail
    go_ret
    have J := HJ.out
    refine ⟨rfl, O, ⟨J.o, J.n.drewN _, ?_, ?_, J.n1, J.n2, J.n3⟩, ⟨rfl, rfl, rfl, Nat.le_refl _, fun k _ hk => ⟨rfl, hk⟩⟩⟩
    · rw [HF.out]
      have := J.w.drewN
      rw [HN.out] at this
      exact this _
    · rw [HF.out]
      have := J.f.drewN
      rw [HN.out] at this
      exact this _
end Go.Proofs.YtlcoapignfmgcaaGreatDoor
namespace Go.Proofs.YtlcoapignfmgcaaGreatDoor
open Go.RowKit
set_option linter.unusedVariables false
def rootV : DV := ⟨⟨2, 7, 1, [], [], []⟩, none, 0, 0, none, 0, 0⟩
theorem root_ok (w : World) (B : Nat) : DVok w B rootV := ⟨Reads.none_, Reads.none_⟩
set_option maxRecDepth 100000 in
set_option maxHeartbeats 4000000 in
theorem new_any (w : World) : Calls Tryz.prog 57 #[] w fun e w' => e = .returned (.agg #[.slice (some ⟨w.heap.size + 1, 0, none⟩) 1 1]) ∧ FsR w' w'.heap.size (some ⟨w.heap.size + 1, 0, none⟩) 1 [rootV] ∧ Below w.heap.size w w' := by
  go_enter Tryz.func57, Tryz.ntmps57
  go_wp2_with fail
  obtain ⟨W2, hW2⟩ : ∃ W, ((w.alloc (.cells #[.slice (some ⟨w.heap.size + 1, 0, none⟩) 1 1] 24)).alloc (.cells rootV.cs.toArray 28)) = W := ⟨_, rfl⟩
  have h1 : Blk W2 w.heap.size 24 #[.slice (some ⟨w.heap.size + 1, 0, none⟩) 1 1] := by rw [← hW2]; exact (Blk.new w _ _).alloc _
  have h2 : Blk W2 (w.heap.size + 1) 28 rootV.cs.toArray := by
    have := Blk.new (w.alloc (.cells #[.slice (some ⟨w.heap.size + 1, 0, none⟩) 1 1] 24)) 28 rootV.cs.toArray
    rw [hW2] at this
    simpa using this
  have hb : Below w.heap.size w W2 := by rw [← hW2]; exact (on_alloc w _).trans ((on_alloc _ _).mono (by simp))
  have HEND : Hid (FsR W2 W2.heap.size (some ⟨w.heap.size + 1, 0, none⟩) 1 [rootV] ∧ Below w.heap.size w W2) := hide ⟨⟨⟨rfl, fun _ => ⟨_, rfl, h2.lt, fun j u hj => by
    rw [at_add, Nat.zero_add, h2.cell j]
    simpa [dcs] using hj⟩⟩, fun x hx => by
      obtain rfl := List.mem_singleton.1 hx
      exact root_ok _ _⟩, hb⟩
  have k0 := one_ h1
  unfold rootV DV.cs at hW2
  dsimp only at hW2
  rw [show (([] : List UInt8).toArray) = #[] from rfl] at hW2
  clear h1 h2 hb
  rw [hW2]
  refine bodyPost_ret (v := .agg #[.slice (some ⟨w.heap.size + 1, 0, none⟩) 1 1]) (by simp only [results, Tryz.results57]; go_simp) rfl ⟨rfl, HEND.out⟩
end Go.Proofs.YtlcoapignfmgcaaGreatDoor
namespace Go.Proofs.YtlcoapignfmgcaaGreatDoor
set_option linter.unusedVariables false
theorem up_of {l : List ND} (hn : ∀ d ∈ l, ∀ y ∈ d.names, y.name.length ≤ 300) : ∀ (k : Nat) (us : List (List UInt8)) (d : Int), (∀ z ∈ us, z.length ≤ 300) → ∀ x ∈ wk l k us d, x.up.length + 1 ≤ us.length + k ∧ ∀ z ∈ x.up ++ [x.name], z.length ≤ 300
  | 0, us, d, hu, x, hx => by cases hx
  | k + 1, us, d, hu, x, hx => by
    rw [wk_succ] at hx
    obtain ⟨y, hy, hxy⟩ := List.mem_flatMap.1 hx
    have hyn : y.name.length ≤ 300 := hn _ (ndAt_mem hy).2 y hy
    unfold wkN at hxy
    rcases List.mem_cons.1 hxy with rfl | hxy
    · refine ⟨by show us.length + 1 ≤ _; omega, fun z hz => ?_⟩
      rcases List.mem_append.1 hz with hz | hz
      · exact hu z hz
      · rw [List.mem_singleton.1 hz]; exact hyn
    · split at hxy
      · have := up_of hn k (us ++ [y.name]) y.node (fun z hz => by
          rcases List.mem_append.1 hz with hz | hz
          · exact hu z hz
          · rw [List.mem_singleton.1 hz]; exact hyn) x hxy
        rw [List.length_append, List.length_singleton] at this
        exact ⟨by omega, this.2⟩
      · cases hxy
theorem join_small : ∀ (ks : List (List UInt8)), (∀ z ∈ ks, z.length ≤ 300) → (Lib.join ks [47]).length ≤ ks.length * 301
  | [], _ => by simp [Lib.join]
  | x :: t, h => by
    have hx := h x (List.mem_cons_self ..)
    rw [Lib.join_cons, List.length_append, List.length_cons]
    have ht : ∀ (t : List (List UInt8)), (∀ z ∈ t, z.length ≤ 300) → (Lib.joinTail [47] t).length ≤ t.length * 301 := by
      intro t
      induction t with
      | nil => intro _; exact Nat.le_refl _
      | cons y r ih =>
        intro hr
        have h1 := hr y (List.mem_cons_self ..)
        have h2 := ih (fun z hz => hr z (List.mem_cons_of_mem _ hz))
        have e : Lib.joinTail [47] (y :: r) = ([47] ++ y) ++ Lib.joinTail [47] r := by simp [Lib.joinTail]
        have e2 : (y :: r).length = r.length + 1 := rfl
        have e3 : ([47] ++ y : List UInt8).length = y.length + 1 := rfl
        rw [e, List.length_append, e2, e3]
        omega
    have := ht t (fun z hz => h z (List.mem_cons_of_mem _ hz))
    omega
theorem small_wk {l : List DV} (hB : FewB l) {n : Nat} (hn : n ≤ 100) : ∀ x ∈ wk (nds l) n [] 0, SmallS x := fun x hx => by
  have h := up_of (l := nds l) (fun d hd y hy => by
    unfold nds at hd
    obtain ⟨z, hz, rfl⟩ := List.mem_map.1 hd
    exact (hB.each z hz).nm y hy) n [] 0 (fun z hz => by cases hz) x hx
  have h2 := join_small _ h.2
  have h1 := h.1
  simp only [List.length_nil] at h1
  unfold SmallS
  rw [List.length_append, List.length_singleton] at h2 ⊢
  omega
end Go.Proofs.YtlcoapignfmgcaaGreatDoor
