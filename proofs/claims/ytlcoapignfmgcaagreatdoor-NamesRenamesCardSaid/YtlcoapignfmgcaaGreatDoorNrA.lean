/- The document's known, file; a copy in memory. -/
import Derived.Test.YtlcoapignfmgcaaGreatDoorNmHb
namespace Go.Proofs.YtlcoapignfmgcaaGreatDoor
open Go.RowKit
set_option linter.unusedVariables false
theorem has_two (l : List ND) (k : Int) : hasP l [k, k] = hasP l [k] := by
  unfold hasP
  simp only [List.all_cons, List.all_nil, Bool.and_true, Bool.and_self]
theorem has_eq (l : List ND) (a b : Int) : hasP l [a, b] = (inB l a && inB l b && checkB l) := by
  unfold hasP
  simp only [List.all_cons, List.all_nil, Bool.and_true]
set_option maxRecDepth 100000 in
set_option maxHeartbeats 8000000 in
theorem rknown_c (L : Option Addr) (n c : Nat) (l : List DV) (a b : Int) (w : World) (hF : FsR w w.heap.size L n l) (hB : FewB l) :
    Calls Tryz.prog 36 #[.agg #[.slice L n c], .int .i64 a, .int .i64 b] w fun e w' => e = .returned (.bool (hasP (nds l) [a, b])) ∧ Below w.heap.size w w' := by
  have hl := hF.len
  have hln : (nds l).length = n := by rw [nds_length, hl]
  obtain ⟨W1, hW1⟩ : ∃ W, w.alloc (.cells #[.slice L n c] 24) = W := ⟨_, rfl⟩
  have h1 : Blk W1 w.heap.size 24 #[.slice L n c] := by rw [← hW1]; exact Blk.new w _ _
  have b1 : Below w.heap.size w W1 := by rw [← hW1]; exact on_alloc _ _
  have XC := hide (rcheck_any L n c l W1 ((hF.below b1).more b1.size) hB)
  have HR : Hid (hasP (nds l) [a, b] = (inB (nds l) a && inB (nds l) b && checkB (nds l))) := hide (has_eq _ _ _)
  have HI : Hid (∀ x, inB (nds l) x = (decide (0 ≤ x) && decide (x < (n : Int)))) := hide (fun x => by unfold inB; rw [hln])
  generalize hasP (nds l) [a, b] = R at *
  obtain ⟨ck, hck⟩ : ∃ x, checkB (nds l) = x := ⟨_, rfl⟩
  rw [hck] at XC HR
  have HB := hide b1
  have k0 := one_ h1
  clear hF hB h1 b1 hck hl hln
  by_cases ha0 : 0 ≤ a
  · by_cases ha1 : a < (n : Int)
    · have ea : inB (nds l) a = true := by rw [HI.out, decide_eq_true ha0, decide_eq_true ha1]; rfl
      by_cases hb0 : 0 ≤ b
      · by_cases hb1 : b < (n : Int)
        · have eb : inB (nds l) b = true := by rw [HI.out, decide_eq_true hb0, decide_eq_true hb1]; rfl
          have hRe : R = ck := by rw [HR.out, ea, eb]; rfl
          subst hRe
          clear HR HI ea eb
          go_enter Tryz.func36, Tryz.ntmps36
          go_wp2_with (rw [hW1])
          refine XC.out.mono ?_
          rintro e w2 ⟨rfl, hb2⟩
          have HB2 := hide (HB.out.trans (hb2.mono HB.out.size))
          clear hb2 k0 HB XC hW1
          cases R with
          | true =>
            go_wp2_with fail
            go_ret
            exact ⟨rfl, HB2.out⟩
          | false =>
            go_wp2_with fail
            go_ret
            exact ⟨rfl, HB2.out⟩
        · have hRe : R = false := by rw [HR.out, HI.out b, decide_eq_false hb1]; simp
          subst hRe
          clear HR HI XC
          go_enter Tryz.func36, Tryz.ntmps36
          go_wp2_with (rw [hW1])
          go_ret
          exact ⟨rfl, HB.out⟩
      · have hRe : R = false := by rw [HR.out, HI.out b, decide_eq_false hb0]; simp
        subst hRe
        clear HR HI XC
        go_enter Tryz.func36, Tryz.ntmps36
        go_wp2_with (rw [hW1])
        go_ret
        exact ⟨rfl, HB.out⟩
    · have hRe : R = false := by rw [HR.out, HI.out a, decide_eq_false ha1]; simp
      subst hRe
      clear HR HI XC
      go_enter Tryz.func36, Tryz.ntmps36
      go_wp2_with (rw [hW1])
      go_ret
      exact ⟨rfl, HB.out⟩
  · have hRe : R = false := by rw [HR.out, HI.out a, decide_eq_false ha0]; simp
    subst hRe
    clear HR HI XC
    go_enter Tryz.func36, Tryz.ntmps36
    go_wp2_with (rw [hW1])
    go_ret
    exact ⟨rfl, HB.out⟩
/-- Is a node a file? -/
def rfileP (l : List ND) (k : Int) : Int := if (ndAt l k).kind = 2 then 23 else if (ndAt l k).kind = 3 then 32 else 0
theorem fileP_eq (l : List ND) (k : Int) : fileP l k = if hasP l [k] then rfileP l k else 2 := rfl
set_option maxRecDepth 100000 in
set_option maxHeartbeats 8000000 in
theorem rfile_c (L : Option Addr) (n c : Nat) (l : List DV) (m : Nat) (w : World) (hF : FsR w w.heap.size L n l) (hm : m < n) :
    Calls Tryz.prog 51 #[.agg #[.slice L n c], .int .i64 (m : Int)] w fun e w' => e = .returned (.int .i64 (rfileP (nds l) (m : Int))) ∧ Below w.heap.size w w' := by
  obtain ⟨W1, hW1⟩ : ∃ W, w.alloc (.cells #[.slice L n c] 24) = W := ⟨_, rfl⟩
  have h1 : Blk W1 w.heap.size 24 #[.slice L n c] := by rw [← hW1]; exact Blk.new w _ _
  have b1 : Below w.heap.size w W1 := by rw [← hW1]; exact on_alloc _ _
  obtain ⟨g, o, x, rfl, hg, hx, hok, hc⟩ := hF.at_ hm
  obtain ⟨d0, -, -, -, -, -⟩ := NdCells.below hc hg b1
  have i1 := fun W => nd_at g o n c m (m : Int) rfl hm W
  have HR : Hid (rfileP (nds l) (m : Int) = if x.r.kind = 2 then 23 else if x.r.kind = 3 then 32 else 0) := hide (by unfold rfileP; rw [nds_at hx])
  generalize rfileP (nds l) (m : Int) = R at *
  have HB := hide b1
  have k0 := one_ h1
  obtain ⟨kd, hkd⟩ : ∃ k, x.r.kind = k := ⟨_, rfl⟩
  rw [hkd] at d0 HR
  clear hF h1 b1 hx hok hc hkd
  by_cases e2 : kd = 2
  · subst e2
    have hRe : R = 23 := by rw [HR.out]; rfl
    subst hRe
    clear HR
    go_enter Tryz.func51, Tryz.ntmps51
    go_wp2_with (rw [hW1])
    go_ret
    exact ⟨rfl, HB.out⟩
  · have e2b : (kd == 2) = false := beq_eq_false_iff_ne.2 e2
    by_cases e3 : kd = 3
    · subst e3
      have hRe : R = 32 := by rw [HR.out]; rfl
      subst hRe
      clear HR
      go_enter Tryz.func51, Tryz.ntmps51
      go_wp2_with (rw [hW1])
      go_ret
      exact ⟨rfl, HB.out⟩
    · have e3b : (kd == 3) = false := beq_eq_false_iff_ne.2 e3
      have hRe : R = 0 := by rw [HR.out, if_neg e2, if_neg e3]
      subst hRe
      clear HR
      go_enter Tryz.func51, Tryz.ntmps51
      go_wp2_with (rw [hW1])
      go_ret
      exact ⟨rfl, HB.out⟩
/-- A row that lies below. -/
def Hi (A : Option Addr) (n : Nat) (B : Nat) : Prop := 0 < n → ∀ ad, A = some ad → ad.block < B
theorem hi_of {w : World} {size n : Nat} {A : Option Addr} {xs : List Value} {B : Nat} (h : Reads w B size A n xs) : Hi A n B := fun hn ad e => by
  obtain ⟨ad', h1, h2, _⟩ := h.2 hn
  rw [e] at h1; injection h1 with h1; subst h1; exact h2
theorem Hi.off {A : Option Addr} {n B g : Nat} (h : Hi A n B) (hg : B ≤ g) : Off A n g := fun hn ad e he => by have := h hn ad e; omega
/-- A copy: the nodes and their names in memory of its own, the data where it lay. -/
structure OG (B C : Nat) (w : World) (L : Option Addr) (n c : Nat) (X : List DV) : Prop where
  own : w.ownsRow C 28 6 (.slice L n c) n (dcs X)
  ok : ∀ x ∈ X, DVok w w.heap.size x
  lo : ∀ x ∈ X, Lo x.M x.mn C
  hi : ∀ x ∈ X, Hi x.D x.dn B
  off : ∀ a, L = some a → ∀ x ∈ X, Off x.M x.mn a.block
  cap : ∀ x ∈ X, x.mn ≤ x.mc
section
variable {B C : Nat} {w w' : World} {L : Option Addr} {n c : Nat} {X : List DV}
theorem OG.len (h : OG B C w L n c X) : X.length = n := by have := h.own.1; rw [dcs_length] at this; omega
theorem OG.fs (h : OG B C w L n c X) : FsR w w.heap.size L n X := ⟨Reads.of_own h.own, h.ok⟩
theorem OG.below (h : OG B C w L n c X) (hb : Below w.heap.size w w') : OG B C w' L n c X :=
  ⟨own_below h.own hb, fun x hx => ((h.ok x hx).below hb).more hb.size, h.lo, h.hi, h.off, h.cap⟩
theorem OG.less {E : Nat} (h : OG B C w L n c X) (hE : E ≤ C) : OG B E w L n c X := ⟨own_more h.own hE, h.ok, fun x hx => (h.lo x hx).less hE, h.hi, h.off, h.cap⟩
theorem OG.none_ (B C : Nat) (w : World) : OG B C w none 0 0 [] := ⟨World.ownsRow_nil _ _ _ _, (fun x hx => by cases hx), (fun x hx => by cases hx), (fun x hx => by cases hx), (fun a h => by cases h), (fun x hx => by cases hx)⟩
theorem OG.addr (h : OG B C w L n c X) (hn : 0 < n) : ∃ g, L = some ⟨g, 0, none⟩ ∧ C ≤ g ∧ g < w.heap.size := by
  obtain ⟨g, cap, cur, e, hb, hh, _⟩ := h.own.2.resolve_left (fun ⟨e, h0⟩ => by omega)
  injection e with e1 e2 e3
  refine ⟨g, e1, hb, ?_⟩
  rcases Nat.lt_or_ge g w.heap.size with q | q
  · exact q
  · rw [Array.getElem?_eq_none q] at hh; cases hh
/-- Nothing of a copy lies in the caller's boxes. -/
theorem OG.offB (h : OG B C w L n c X) {g : Nat} (h1 : B ≤ g) (h2 : g < C) : Off L n g ∧ ∀ x ∈ X, Off x.D x.dn g ∧ Off x.M x.mn g := by
  refine ⟨fun hn ad e => ?_, fun x hx => ⟨(h.hi x hx).off h1, (h.lo x hx).off h2⟩⟩
  obtain ⟨g', e', hb, _⟩ := h.addr hn
  rw [e] at e'; injection e' with e'; subst e'
  show g' ≠ g; omega
theorem OG.far (h : OG B C w L n c X) {p : Addr} (h1 : B ≤ p.block) (h2 : p.block < C) (u : Value) : OG B C (w.setCell p u) L n c X := by
  refine ⟨own_far h.own h2 u, fun x hx => ?_, h.lo, h.hi, h.off, h.cap⟩
  have hs : (w.setCell p u).heap.size = w.heap.size := by simp
  rw [hs]
  exact ⟨Reads.far (h.ok x hx).d ((h.hi x hx).off h1) u, Reads.far (h.ok x hx).n ((h.lo x hx).off h2) u⟩
theorem OG.aside (h : OG B C w L n c X) {p : Addr} {t : TypeId} {cs : Array Value} (hp : Blk w p.block t cs) (hne : 28 ≠ t) (h1 : B ≤ p.block) (ho : ∀ x ∈ X, Off x.M x.mn p.block) (u : Value) : OG B C (w.setCell p u) L n c X := by
  refine ⟨own_set_blk h.own hp hne u, fun x hx => ?_, h.lo, h.hi, h.off, h.cap⟩
  have hs : (w.setCell p u).heap.size = w.heap.size := by simp
  rw [hs]
  exact ⟨Reads.far (h.ok x hx).d ((h.hi x hx).off h1) u, Reads.far (h.ok x hx).n (ho x hx) u⟩
/-- A cell of a node is stored: what can be read behind it. -/
theorem OG.setfs {g : Nat} (h : OG B C w (some ⟨g, 0, none⟩) n c X) (hBC : B ≤ C) {k j : Nat} {x' : DV} {v : Value} (hk : k < n) (hj : j < 6) (e : ∀ x, X[k]? = some x → x'.cs = x.cs.set j v)
    (hok : DVok w w.heap.size x') (ho : Off x'.D x'.dn g ∧ Off x'.M x'.mn g) : FsR (w.setCell ⟨g, k * 6 + j, none⟩ v) (w.setCell ⟨g, k * 6 + j, none⟩ v).heap.size (some ⟨g, 0, none⟩) n (X.set k x') := by
  have hl := h.len
  have hkl : k < X.length := by omega
  have hgC : C ≤ g := by
    obtain ⟨g', e', hb, _⟩ := h.addr (by omega)
    injection e' with e'; injection e' with e' _; omega
  have hs : (w.setCell ⟨g, k * 6 + j, none⟩ v).heap.size = w.heap.size := by simp
  have key : ∀ x, DVok w w.heap.size x → Off x.D x.dn g ∧ Off x.M x.mn g → DVok (w.setCell ⟨g, k * 6 + j, none⟩ v) (w.setCell ⟨g, k * 6 + j, none⟩ v).heap.size x := fun x hx hof => by
    rw [hs]
    exact ⟨Reads.far hx.d (p := ⟨g, k * 6 + j, none⟩) hof.1 v, Reads.far hx.n (p := ⟨g, k * 6 + j, none⟩) hof.2 v⟩
  refine ⟨?_, fun x hx => ?_⟩
  · rw [dcs_set X k j x' v hkl hj (e _ (List.getElem?_eq_getElem hkl))]
    exact Reads.of_own (World.ownsRow.stored h.own (k * 6 + j) v).1
  · rcases List.mem_or_eq_of_mem_set hx with hx | rfl
    · exact key x (h.ok x hx) ⟨(h.hi x hx).off (by omega), h.off _ rfl x hx⟩
    · exact key _ hok ho
/-- The same, still a copy. -/
theorem OG.set_ {g : Nat} (h : OG B C w (some ⟨g, 0, none⟩) n c X) (hBC : B ≤ C) {k j : Nat} {x' : DV} {v : Value} (hk : k < n) (hj : j < 6) (e : ∀ x, X[k]? = some x → x'.cs = x.cs.set j v)
    (hok : DVok w w.heap.size x') (ho : Off x'.M x'.mn g) (hlo : Lo x'.M x'.mn C) (hhi : Hi x'.D x'.dn B) (hcp : x'.mn ≤ x'.mc) : OG B C (w.setCell ⟨g, k * 6 + j, none⟩ v) (some ⟨g, 0, none⟩) n c (X.set k x') := by
  have hl := h.len
  have hkl : k < X.length := by omega
  have hgC : C ≤ g := by
    obtain ⟨g', e', hb, _⟩ := h.addr (by omega)
    injection e' with e'; injection e' with e' _; omega
  have hf := h.setfs hBC hk hj e hok ⟨hhi.off (by omega), ho⟩
  have memset : ∀ x ∈ X.set k x', x ∈ X ∨ x = x' := fun x hx => List.mem_or_eq_of_mem_set hx
  refine ⟨?_, hf.ok, fun x hx => ?_, fun x hx => ?_, fun a ha x hx => ?_, fun x hx => ?_⟩
  · rw [dcs_set X k j x' v hkl hj (e _ (List.getElem?_eq_getElem hkl))]
    exact (World.ownsRow.stored h.own (k * 6 + j) v).1
  · rcases memset x hx with hx | rfl
    · exact h.lo x hx
    · exact hlo
  · rcases memset x hx with hx | rfl
    · exact h.hi x hx
    · exact hhi
  · injection ha with ha
    subst ha
    rcases memset x hx with hx | rfl
    · exact h.off _ rfl x hx
    · exact ho
  · rcases memset x hx with hx | rfl
    · exact h.cap x hx
    · exact hcp
theorem OG.push {L' : Option Addr} {c' : Nat} {y : DV} (h : OG B C w L n c X) (hBC : B ≤ C) (hy : DVok w w.heap.size y) (hyo : ∀ a, L = some a → Off y.M y.mn a.block) (hyl : Lo y.M y.mn C) (hyh : Hi y.D y.dn B) (hyc : y.mn ≤ y.mc)
    (hown : w'.ownsRow C 28 6 (.slice L' (n + 1) c') (n + 1) (dcs X ++ y.cs)) (hg : w.grownBy w' (Value.slice L n c).ownBlock)
    (hat : (Value.slice L' (n + 1) c').ownBlock = (Value.slice L n c).ownBlock ∨ (Value.slice L' (n + 1) c').ownBlock = some w.heap.size) (hLC : ∀ a, L = some a → C ≤ a.block) : OG B C w' L' (n + 1) c' (X ++ [y]) := by
  have key : ∀ x, DVok w w.heap.size x → (∀ a, L = some a → Off x.M x.mn a.block) → Hi x.D x.dn B → DVok w' w'.heap.size x := fun x hx ho hh =>
    ⟨hx.d.off_grown (fun a ha => hh.off (Nat.le_trans hBC (hLC a ha))) hg, hx.n.off_grown (fun a ha => ho a ha) hg⟩
  have koff : ∀ x, DVok w w.heap.size x → (∀ a, L = some a → Off x.M x.mn a.block) → ∀ a, L' = some a → Off x.M x.mn a.block := fun x hx ho a ha => by
    subst ha
    rcases hat with e | e
    · cases L with
      | none => simp [Value.ownBlock] at e
      | some b =>
        have e' : a.block = b.block := by simpa [Value.ownBlock] using e
        rw [e']
        exact ho b rfl
    · have e' : a.block = w.heap.size := by simpa [Value.ownBlock] using e
      rw [e']
      exact off_of hx.n (Nat.le_refl _)
  have hap : dcs (X ++ [y]) = dcs X ++ y.cs := by
    clear hown hg hat key koff hyl hyo hy h
    induction X with
    | nil => simp [dcs]
    | cons a t ih => simp [dcs, ih]
  refine ⟨by rw [hap]; exact hown, fun x hx => ?_, fun x hx => ?_, fun x hx => ?_, fun a ha x hx => ?_, fun x hx => ?_⟩
  · rcases List.mem_append.1 hx with hx | hx
    · exact key x (h.ok x hx) (fun a ha => h.off a ha x hx) (h.hi x hx)
    · rw [List.mem_singleton.1 hx]; exact key y hy hyo hyh
  · rcases List.mem_append.1 hx with hx | hx
    · exact h.lo x hx
    · rw [List.mem_singleton.1 hx]; exact hyl
  · rcases List.mem_append.1 hx with hx | hx
    · exact h.hi x hx
    · rw [List.mem_singleton.1 hx]; exact hyh
  · rcases List.mem_append.1 hx with hx | hx
    · exact koff x (h.ok x hx) (fun a ha => h.off a ha x hx) a ha
    · rw [List.mem_singleton.1 hx]; exact koff y hy hyo a ha
  · rcases List.mem_append.1 hx with hx | hx
    · exact h.cap x hx
    · rw [List.mem_singleton.1 hx]; exact hyc
end
end Go.Proofs.YtlcoapignfmgcaaGreatDoor
