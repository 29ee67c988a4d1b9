/- The five that read a reply's fields; each over them, and over those that write. -/
import Derived.Test.YtedacfjkbfgikaaPrRt
import Derived.Test.YtedacfjkbfgikaaPrDb
import Derived.Test.YtedacfjkbfgikaaPrF
namespace Go.Proofs.Ytedacfjkbfgikaa
open Go.RowKit
set_option linter.unusedVariables false
def pcs (r : RP) (D A : Option Addr) (dn dc an ac : Nat) : Array Value := #[.int .i64 r.err, .int .i64 r.h, .int .i64 r.h2, .int .i64 r.n, .slice D dn dc, .slice A an ac]
theorem pcs_no (r : RP) (D A : Option Addr) (dn dc an ac : Nat) : ∀ v ∈ (pcs r D A dn dc an ac).toList, ∀ z, v ≠ .int .u8 z := by
  intro v hv z e
  subst e
  simp [pcs] at hv
/-- A reply in a box of its own, its rows behind B. -/
def DpAt (B gr : Nat) (r : RP) (w : World) : Prop := ∃ D dn dc A an ac, Blk w gr 43 (pcs r D A dn dc an ac) ∧
  w.ownsRow B 5 1 (.slice D dn dc) dn (bv r.d) ∧ w.ownsRow B 9 1 (.slice A an ac) an (svs r.names)
def RE (gf : Nat) (cs : Array Value) (w0 : World) (b B g gi gr : Nat) (q : RP × St) (w : World) : Prop := InAt B g q.2 w ∧ Blk w gi 70 #[.pointer (some ⟨g, 0, none⟩)] ∧ DpAt B gr q.1 w ∧ Below b w0 w ∧ gi < B ∧ gr < B ∧ b ≤ g ∧ b ≤ gr ∧ Blk w gf 62 cs
theorem DpAt.lt {B gr : Nat} {r : RP} {w : World} (h : DpAt B gr r w) : gr < w.heap.size := by
  obtain ⟨D, dn, dc, A, an, ac, h1, -⟩ := h
  exact h1.lt
theorem DpAt.fr {B gr g : Nat} {r : RP} {w w' : World} (h : DpAt B gr r w) (hf : Fr g w w') (hg : g < B) (hne : gr ≠ g) : DpAt B gr r w' := by
  obtain ⟨D, dn, dc, A, an, ac, h1, h2, h3⟩ := h
  have hk : ∀ x, B ≤ x → x < w.heap.size → w'.heap[x]? = w.heap[x]? := fun x hx hl => hf.block x hl (by omega)
  exact ⟨D, dn, dc, A, an, ac, (hf.block gr h1.lt hne).trans h1, own_at h2 hk, own_at h3 hk⟩
theorem DpAt.ne {B gr : Nat} {r : RP} {w : World} (h : DpAt B gr r w) {g' : Nat} {t : TypeId} {cs : Array Value} (hk : Blk w g' t cs) (ht : t ≠ 43) : g' ≠ gr := by
  obtain ⟨D, dn, dc, A, an, ac, h1, -⟩ := h
  exact hk.ne_ h1 ht
theorem DpAt.ne_in {B B' gr g : Nat} {r : RP} {st : St} {w : World} (h : DpAt B gr r w) (hi : InAt B' g st w) : gr ≠ g := by
  obtain ⟨D, dn, dc, A, an, ac, h1, -⟩ := h
  exact hi.ne h1 (by decide)
theorem RE.fr {gf : Nat} {cs : Array Value} {w0 : World} {b B g gi gr : Nat} {r : RP} {st st' : St} {w w' : World} (h : RE gf cs w0 b B g gi gr (r, st) w) (hi : InAt B g st' w') (hf : Fr g w w') (hbw : b ≤ w.heap.size) : RE gf cs w0 b B g gi gr (r, st') w' := by
  obtain ⟨h1, h2, h3, h4, h5, h6, h7, h8, h9⟩ := h
  have hne := h3.ne_in h1
  have hni := h1.ne h2 (by decide)
  exact ⟨hi, (hf.block gi h2.lt hni).trans h2, h3.fr hf h1.lt.1 hne, h4.trans ⟨hf.os, hf.tape, hf.output, hf.size, fun x hx => hf.block x (by omega) (by omega)⟩, h5, h6, h7, h8, (hf.block gf h9.lt (h1.ne h9 (by decide))).trans h9⟩
theorem RE.bw {gf : Nat} {cs : Array Value} {w0 : World} {b B g gi gr : Nat} {q : RP × St} {w : World} (h : RE gf cs w0 b B g gi gr q w) : b ≤ w.heap.size := by
  have h1 := h.1.lt
  have h2 := h.2.2.2.2.2.2.1
  omega
theorem RE.alloc {gf : Nat} {cs : Array Value} {w0 : World} {b B g gi gr : Nat} {q : RP × St} {w : World} (h : RE gf cs w0 b B g gi gr q w) (o : Obj) : RE gf cs w0 b B g gi gr q (w.alloc o) :=
  h.fr (h.1.keep (fun x hx => Below.heap_alloc w o x (by have := h.1.lt; omega)) (by simp)) (Fr.of_below ((Below.refl _ w).alloc (Nat.le_refl _) o)) h.bw
theorem RE.set_ {gf : Nat} {cs : Array Value} {w0 : World} {b B g gi gr : Nat} {r r' : RP} {st : St} {w : World} (h : RE gf cs w0 b B g gi gr (r, st) w) (i : Nat) (u : Value) (hi : i < 6)
    (hr : ∀ D dn dc A an ac, Blk w gr 43 (pcs r D A dn dc an ac) → w.ownsRow B 5 1 (.slice D dn dc) dn (bv r.d) → w.ownsRow B 9 1 (.slice A an ac) an (svs r.names) →
      ∃ D' dn' dc' A' an' ac', (pcs r D A dn dc an ac).setIfInBounds i u = pcs r' D' A' dn' dc' an' ac' ∧ w.ownsRow B 5 1 (.slice D' dn' dc') dn' (bv r'.d) ∧ w.ownsRow B 9 1 (.slice A' an' ac') an' (svs r'.names)) :
    RE gf cs w0 b B g gi gr (r', st) (w.setCell ⟨gr, i, none⟩ u) := by
  obtain ⟨h1, h2, h3, h4, h5, h6, h7, h8, h9⟩ := h
  have hne := h3.ne_in h1
  have hni := h3.ne h2 (by decide)
  have hnf := h3.ne h9 (by decide)
  obtain ⟨D, dn, dc, A, an, ac, k1, k2, k3⟩ := h3
  obtain ⟨D', dn', dc', A', an', ac', m1, m2, m3⟩ := hr D dn dc A an ac k1 k2 k3
  obtain ⟨IA, In, Ic, n1, n2, n3, n4, n5, n6⟩ := h1
  refine ⟨⟨IA, In, Ic, n1.far (p := ⟨gr, i, none⟩) (fun e => hne e.symm) u, reads_blk n2 k1 (pcs_no _ _ _ _ _ _ _) i u (by simpa [pcs] using hi), n3, n4, n5, by simpa using n6⟩, h2.far (p := ⟨gr, i, none⟩) hni u, ⟨D', dn', dc', A', an', ac', m1 ▸ k1.set_ i u, own_far m2 (by exact h6) u, own_far m3 (by exact h6) u⟩, h4.setCell (by exact h8) u, h5, h6, h7, h8, h9.far (p := ⟨gr, i, none⟩) hnf u⟩

set_option maxRecDepth 100000 in
set_option maxHeartbeats 4000000 in
theorem re1_any (gf : Nat) (cs : Array Value) (w0 : World) (b B g gi gr : Nat) (r : RP) (st : St) (w : World) (h : RE gf cs w0 b B g gi gr (r, st) w) :
    Calls Try.prog 85 #[.pointer (some ⟨gi, 0, none⟩), .pointer (some ⟨gr, 0, none⟩)] w fun e w' => e = .returned (.tuple #[]) ∧ RE gf cs w0 b B g gi gr (rpN (r, st)) w' := by
  have HW := hide h
  have ci := h.2.1.cell 0
  simp only [List.getElem?_toArray, List.getElem?_cons_zero] at ci
  have XP := hide (iint_any B g st w h.1)
  unfold rpN
  dsimp only
  generalize intS st = q at *
  obtain ⟨x, st'⟩ := q
  dsimp only at XP ⊢
  clear h
  go_enter Try.func85, Try.ntmps85
  go_wp2_with fail
  with_reducible refine XP.out.mono ?_
  rintro e w1 ⟨rfl, hin, hfr⟩
  have HW1 := hide (HW.out.fr hin hfr HW.out.bw)
  obtain ⟨D, dn, dc, A, an, ac, hk, -⟩ := HW1.out.2.2.1
  have ck := hk.cell 3
  have fk := hk.frozen 3
  unfold pcs at ck
  simp only [List.getElem?_toArray, List.getElem?_cons_succ, List.getElem?_cons_zero] at ck
  clear hk hin hfr XP ci
  go_wp2_with fail
  go_end0
  refine ⟨rfl, ?_⟩
  refine HW1.out.set_ 3 _ (by omega) ?_
  intro D dn dc A an ac _ k2 k3
  exact ⟨D, dn, dc, A, an, ac, rfl, k2, k3⟩

set_option maxRecDepth 100000 in
set_option maxHeartbeats 4000000 in
theorem re2_any (gf : Nat) (cs : Array Value) (w0 : World) (b B g gi gr : Nat) (r : RP) (st : St) (w : World) (h : RE gf cs w0 b B g gi gr (r, st) w) :
    Calls Try.prog 86 #[.pointer (some ⟨gi, 0, none⟩), .pointer (some ⟨gr, 0, none⟩)] w fun e w' => e = .returned (.tuple #[]) ∧ RE gf cs w0 b B g gi gr (rpH (r, st)) w' := by
  have HW := hide h
  have ci := h.2.1.cell 0
  simp only [List.getElem?_toArray, List.getElem?_cons_zero] at ci
  have XP := hide (iint_any B g st w h.1)
  unfold rpH
  dsimp only
  generalize intS st = q at *
  obtain ⟨x, st'⟩ := q
  dsimp only at XP ⊢
  clear h
  go_enter Try.func86, Try.ntmps86
  go_wp2_with fail
  with_reducible refine XP.out.mono ?_
  rintro e w1 ⟨rfl, hin, hfr⟩
  have HW1 := hide (HW.out.fr hin hfr HW.out.bw)
  obtain ⟨D, dn, dc, A, an, ac, hk, -⟩ := HW1.out.2.2.1
  have ck := hk.cell 1
  have fk := hk.frozen 1
  unfold pcs at ck
  simp only [List.getElem?_toArray, List.getElem?_cons_succ, List.getElem?_cons_zero] at ck
  clear hk hin hfr XP ci
  go_wp2_with fail
  go_end0
  refine ⟨rfl, ?_⟩
  refine HW1.out.set_ 1 _ (by omega) ?_
  intro D dn dc A an ac _ k2 k3
  exact ⟨D, dn, dc, A, an, ac, rfl, k2, k3⟩

set_option maxRecDepth 100000 in
set_option maxHeartbeats 4000000 in
theorem re3_any (gf : Nat) (cs : Array Value) (w0 : World) (b B g gi gr : Nat) (r : RP) (st : St) (w : World) (h : RE gf cs w0 b B g gi gr (r, st) w) :
    Calls Try.prog 87 #[.pointer (some ⟨gi, 0, none⟩), .pointer (some ⟨gr, 0, none⟩)] w fun e w' => e = .returned (.tuple #[]) ∧ RE gf cs w0 b B g gi gr (rpH2 (r, st)) w' := by
  have HW := hide h
  have ci := h.2.1.cell 0
  simp only [List.getElem?_toArray, List.getElem?_cons_zero] at ci
  have XP := hide (iint_any B g st w h.1)
  unfold rpH2
  dsimp only
  generalize intS st = q at *
  obtain ⟨x, st'⟩ := q
  dsimp only at XP ⊢
  clear h
  go_enter Try.func87, Try.ntmps87
  go_wp2_with fail
  with_reducible refine XP.out.mono ?_
  rintro e w1 ⟨rfl, hin, hfr⟩
  have HW1 := hide (HW.out.fr hin hfr HW.out.bw)
  obtain ⟨D, dn, dc, A, an, ac, hk, -⟩ := HW1.out.2.2.1
  have ck := hk.cell 2
  have fk := hk.frozen 2
  unfold pcs at ck
  simp only [List.getElem?_toArray, List.getElem?_cons_succ, List.getElem?_cons_zero] at ck
  clear hk hin hfr XP ci
  go_wp2_with fail
  go_end0
  refine ⟨rfl, ?_⟩
  refine HW1.out.set_ 2 _ (by omega) ?_
  intro D dn dc A an ac _ k2 k3
  exact ⟨D, dn, dc, A, an, ac, rfl, k2, k3⟩

set_option maxRecDepth 100000 in
set_option maxHeartbeats 4000000 in
theorem re4_any (gf : Nat) (cs : Array Value) (w0 : World) (b B g gi gr : Nat) (r : RP) (st : St) (w : World) (h : RE gf cs w0 b B g gi gr (r, st) w) :
    Calls Try.prog 88 #[.pointer (some ⟨gi, 0, none⟩), .pointer (some ⟨gr, 0, none⟩)] w fun e w' => e = .returned (.tuple #[]) ∧ RE gf cs w0 b B g gi gr (rpD (r, st)) w' := by
  have HW := hide h
  have ci := h.2.1.cell 0
  simp only [List.getElem?_toArray, List.getElem?_cons_zero] at ci
  have XP := hide (idata_any B g st w h.1)
  unfold rpD
  dsimp only
  generalize txtS st = q at *
  obtain ⟨x, st'⟩ := q
  dsimp only at XP ⊢
  clear h
  go_enter Try.func88, Try.ntmps88
  go_wp2_with fail
  with_reducible refine XP.out.mono ?_
  rintro e w1 ⟨A9, n9, c9, rfl, ho, hin, hfr⟩
  have HW1 := hide (HW.out.fr hin hfr HW.out.bw)
  obtain ⟨D, dn, dc, A, an, ac, hk, -⟩ := HW1.out.2.2.1
  have ck := hk.cell 4
  have fk := hk.frozen 4
  unfold pcs at ck
  simp only [List.getElem?_toArray, List.getElem?_cons_succ, List.getElem?_cons_zero] at ck
  have HO := hide (own_more ho HW.out.1.lt.2)
  clear ho
  clear hk hin hfr XP ci
  go_wp2_with fail
  go_end0
  refine ⟨rfl, ?_⟩
  refine HW1.out.set_ 4 _ (by omega) ?_
  intro D dn dc A an ac _ k2 k3
  exact ⟨A9, n9, c9, A, an, ac, rfl, HO.out, k3⟩

set_option maxRecDepth 100000 in
set_option maxHeartbeats 4000000 in
theorem re5_any (gf : Nat) (cs : Array Value) (w0 : World) (b B g gi gr : Nat) (r : RP) (st : St) (w : World) (h : RE gf cs w0 b B g gi gr (r, st) w) :
    Calls Try.prog 89 #[.pointer (some ⟨gi, 0, none⟩), .pointer (some ⟨gr, 0, none⟩)] w fun e w' => e = .returned (.tuple #[]) ∧ RE gf cs w0 b B g gi gr (rpS (r, st)) w' := by
  have HW := hide h
  have ci := h.2.1.cell 0
  simp only [List.getElem?_toArray, List.getElem?_cons_zero] at ci
  have XP := hide (ptexts_any B g st w h.1)
  unfold rpS
  dsimp only
  generalize listS txtS st = q at *
  obtain ⟨x, st'⟩ := q
  dsimp only at XP ⊢
  clear h
  go_enter Try.func89, Try.ntmps89
  go_wp2_with fail
  with_reducible refine XP.out.mono ?_
  rintro e w1 ⟨A9, n9, c9, rfl, ho, hin, hfr⟩
  have HW1 := hide (HW.out.fr hin hfr HW.out.bw)
  obtain ⟨D, dn, dc, A, an, ac, hk, -⟩ := HW1.out.2.2.1
  have ck := hk.cell 5
  have fk := hk.frozen 5
  unfold pcs at ck
  simp only [List.getElem?_toArray, List.getElem?_cons_succ, List.getElem?_cons_zero] at ck
  have HO := hide (own_more ho HW.out.1.lt.2)
  clear ho
  clear hk hin hfr XP ci
  go_wp2_with fail
  go_end0
  refine ⟨rfl, ?_⟩
  refine HW1.out.set_ 5 _ (by omega) ?_
  intro D dn dc A an ac _ k2 k3
  exact ⟨D, dn, dc, A9, n9, c9, rfl, k2, HO.out⟩
def bitsP : List Int := [1, 2, 4, 1024, 2048]
def fvsW (g gr : Nat) : List FV := [⟨1, 75, capsQ g gr⟩, ⟨2, 76, capsQ g gr⟩, ⟨4, 77, capsQ g gr⟩, ⟨1024, 78, capsQ g gr⟩, ⟨2048, 79, capsQ g gr⟩]
def rowW (g gr : Nat) : Array Value := #[.int .i64 1, .func (.func 75) #[] (capsQ g gr), .int .i64 2, .func (.func 76) #[] (capsQ g gr), .int .i64 4, .func (.func 77) #[] (capsQ g gr), .int .i64 1024, .func (.func 78) #[] (capsQ g gr), .int .i64 2048, .func (.func 79) #[] (capsQ g gr)]
theorem rowW_eq (g gr : Nat) : fcs (fvsW g gr) = (rowW g gr).toList := rfl
theorem bit_atW (g gr k : Nat) (hk : k < (fvsW g gr).length) : (fvsW g gr)[k].which = bitsP.getD k 0 := by
  have h9 : k < 5 := hk
  rcases (show k = 0 ∨ k = 1 ∨ k = 2 ∨ k = 3 ∨ k = 4 by omega) with rfl | rfl | rfl | rfl | rfl <;> rfl
theorem enW75 (g gr : Nat) (W : World) : (callFunc 75 (capsQ g gr)).run Try.prog W = .ok (.enter 75 (capsQ g gr)) W := fn_enter Try.func75 (by kernel_rfl) rfl (capsQ g gr) W
theorem enW76 (g gr : Nat) (W : World) : (callFunc 76 (capsQ g gr)).run Try.prog W = .ok (.enter 76 (capsQ g gr)) W := fn_enter Try.func76 (by kernel_rfl) rfl (capsQ g gr) W
theorem enW77 (g gr : Nat) (W : World) : (callFunc 77 (capsQ g gr)).run Try.prog W = .ok (.enter 77 (capsQ g gr)) W := fn_enter Try.func77 (by kernel_rfl) rfl (capsQ g gr) W
theorem enW78 (g gr : Nat) (W : World) : (callFunc 78 (capsQ g gr)).run Try.prog W = .ok (.enter 78 (capsQ g gr)) W := fn_enter Try.func78 (by kernel_rfl) rfl (capsQ g gr) W
theorem enW79 (g gr : Nat) (W : World) : (callFunc 79 (capsQ g gr)).run Try.prog W = .ok (.enter 79 (capsQ g gr)) W := fn_enter Try.func79 (by kernel_rfl) rfl (capsQ g gr) W
def fvsR (g gr : Nat) : List FV := [⟨1, 85, capsQ g gr⟩, ⟨2, 86, capsQ g gr⟩, ⟨4, 87, capsQ g gr⟩, ⟨1024, 88, capsQ g gr⟩, ⟨2048, 89, capsQ g gr⟩]
def rowR (g gr : Nat) : Array Value := #[.int .i64 1, .func (.func 85) #[] (capsQ g gr), .int .i64 2, .func (.func 86) #[] (capsQ g gr), .int .i64 4, .func (.func 87) #[] (capsQ g gr), .int .i64 1024, .func (.func 88) #[] (capsQ g gr), .int .i64 2048, .func (.func 89) #[] (capsQ g gr)]
theorem rowR_eq (g gr : Nat) : fcs (fvsR g gr) = (rowR g gr).toList := rfl
theorem bit_atR (g gr k : Nat) (hk : k < (fvsR g gr).length) : (fvsR g gr)[k].which = bitsP.getD k 0 := by
  have h9 : k < 5 := hk
  rcases (show k = 0 ∨ k = 1 ∨ k = 2 ∨ k = 3 ∨ k = 4 by omega) with rfl | rfl | rfl | rfl | rfl <;> rfl
theorem enR85 (g gr : Nat) (W : World) : (callFunc 85 (capsQ g gr)).run Try.prog W = .ok (.enter 85 (capsQ g gr)) W := fn_enter Try.func85 (by kernel_rfl) rfl (capsQ g gr) W
theorem enR86 (g gr : Nat) (W : World) : (callFunc 86 (capsQ g gr)).run Try.prog W = .ok (.enter 86 (capsQ g gr)) W := fn_enter Try.func86 (by kernel_rfl) rfl (capsQ g gr) W
theorem enR87 (g gr : Nat) (W : World) : (callFunc 87 (capsQ g gr)).run Try.prog W = .ok (.enter 87 (capsQ g gr)) W := fn_enter Try.func87 (by kernel_rfl) rfl (capsQ g gr) W
theorem enR88 (g gr : Nat) (W : World) : (callFunc 88 (capsQ g gr)).run Try.prog W = .ok (.enter 88 (capsQ g gr)) W := fn_enter Try.func88 (by kernel_rfl) rfl (capsQ g gr) W
theorem enR89 (g gr : Nat) (W : World) : (callFunc 89 (capsQ g gr)).run Try.prog W = .ok (.enter 89 (capsQ g gr)) W := fn_enter Try.func89 (by kernel_rfl) rfl (capsQ g gr) W
theorem fldP_bit (k : Nat) : (fldP.getD k (0, id)).1 = bitsP.getD k 0 := by
  match k with
  | 0 | 1 | 2 | 3 | 4 => rfl
  | k + 5 => rfl
theorem noR (u : Int) (q : RP × St) (k : Nat) (HB : bits .and .i64 u (bitsP.getD k 0) = 0) : dcP u q (k + 1) = dcP u q k := by
  rw [dcP, fldP_bit, on_no HB]
theorem yesR (u : Int) (q : RP × St) (k : Nat) (HB : ¬ bits .and .i64 u (bitsP.getD k 0) = 0) : dcP u q (k + 1) = (fldP.getD k (0, id)).2 (dcP u q k) := by
  rw [dcP, fldP_bit, on_yes HB]
theorem eachR_any (gf : Nat) (w0 : World) (b B g gi gr : Nat) (u : Int) (q : RP × St) (w : World) (h : RE gf (rowR gi gr) w0 b B g gi gr q w) :
    Calls Try.prog 25 #[.int .i64 u, .slice (some ⟨gf, 0, none⟩) 5 5] w fun e w' => e = .returned (.tuple #[]) ∧ RE gf (rowR gi gr) w0 b B g gi gr (dcP u q 5) w' := by
  refine each_any u (fvsR gi gr) (some ⟨gf, 0, none⟩) 5 5 w (fun k W => RE gf (rowR gi gr) w0 b B g gi gr (dcP u q k) W) (by omega) rfl
    (fun k W hW => by rw [rowR_eq]; exact row_reads hW.2.2.2.2.2.2.2.2 5 rfl)
    h
    (fun k W o' hW => hW.alloc o')
    (fun k x hx hbit W hW => ?_)
    (fun x hx W => ?_)
    (fun k x hx hbit W hW => ?_)
  · obtain ⟨hk, rfl⟩ := List.getElem?_eq_some_iff.1 hx
    have HB : Hid (¬ bits .and .i64 u (bitsP.getD k 0) = 0) := hide (by rw [← bit_atR gi gr k hk]; exact hbit)
    clear hbit hx
    rw [yesR u q k HB.out]
    have h9 : k < 5 := hk
    clear HB
    generalize dcP u q k = p at *
    obtain ⟨r, st⟩ := p
    rcases (show k = 0 ∨ k = 1 ∨ k = 2 ∨ k = 3 ∨ k = 4 by omega) with rfl | rfl | rfl | rfl | rfl
    · exact re1_any gf (rowR gi gr) w0 b B g gi gr r st W hW
    · exact re2_any gf (rowR gi gr) w0 b B g gi gr r st W hW
    · exact re3_any gf (rowR gi gr) w0 b B g gi gr r st W hW
    · exact re4_any gf (rowR gi gr) w0 b B g gi gr r st W hW
    · exact re5_any gf (rowR gi gr) w0 b B g gi gr r st W hW
  · simp only [fvsR, List.mem_cons, List.mem_nil_iff, or_false] at hx
    rcases hx with rfl | rfl | rfl | rfl | rfl
    · exact enR85 gi gr W
    · exact enR86 gi gr W
    · exact enR87 gi gr W
    · exact enR88 gi gr W
    · exact enR89 gi gr W
  · obtain ⟨hk, rfl⟩ := List.getElem?_eq_some_iff.1 hx
    have HB : Hid (bits .and .i64 u (bitsP.getD k 0) = 0) := hide (by rw [← bit_atR gi gr k hk]; exact hbit)
    clear hbit hx
    rw [noR u q k HB.out]
    exact hW
theorem noW (u : Int) (r : RP) (k : Nat) (hk : k < 5) (HB : Hid (bits .and .i64 u (bitsP.getD k 0) = 0)) : catP ((encR u r).take (k + 1)) = catP ((encR u r).take k) := by
  rcases (show k = 0 ∨ k = 1 ∨ k = 2 ∨ k = 3 ∨ k = 4 by omega) with rfl | rfl | rfl | rfl | rfl
  · rw [catP_next (encR u r) 0 (on u 1 _ []) rfl, on_no (u := u) (k := 1) HB.out, List.append_nil]
  · rw [catP_next (encR u r) 1 (on u 2 _ []) rfl, on_no (u := u) (k := 2) HB.out, List.append_nil]
  · rw [catP_next (encR u r) 2 (on u 4 _ []) rfl, on_no (u := u) (k := 4) HB.out, List.append_nil]
  · rw [catP_next (encR u r) 3 (on u 1024 _ []) rfl, on_no (u := u) (k := 1024) HB.out, List.append_nil]
  · rw [catP_next (encR u r) 4 (on u 2048 _ []) rfl, on_no (u := u) (k := 2048) HB.out, List.append_nil]
theorem eachW_any (gf : Nat) (w0 : World) (B g gr : Nat) (r : RP) (u : Int) (o : LB) (ho : o.length ≤ 1) (hs : r.small) (w : World) (h : WP gf (rowW g gr) w0 B g gr r o w) :
    Calls Try.prog 25 #[.int .i64 u, .slice (some ⟨gf, 0, none⟩) 5 5] w fun e w' => e = .returned (.tuple #[]) ∧ WP gf (rowW g gr) w0 B g gr r (o ++ catP (encR u r)) w' := by
  have hb : ∀ k, (o ++ catP ((encR u r).take k)).length ≤ 500000 := fun k => by have := hs.sofar u o ho k; omega
  have X := each_any u (fvsW g gr) (some ⟨gf, 0, none⟩) 5 5 w (fun k W => WP gf (rowW g gr) w0 B g gr r (o ++ catP ((encR u r).take k)) W) (by omega) rfl
    (fun k W hW => by rw [rowW_eq]; exact row_reads hW.2.2.2.2.2 5 rfl)
    (by simpa [catP] using h)
    (fun k W o' hW => hW.below ((Below.refl _ _).alloc (Nat.le_refl _) _))
    (fun k x hx hbit W hW => ?_)
    (fun x hx W => ?_)
    (fun k x hx hbit W hW => ?_)
  · refine X.mono fun e w' ⟨he, hw⟩ => ⟨he, ?_⟩
    rwa [List.take_of_length_le (by exact Nat.le_refl 5)] at hw
  · obtain ⟨hk, rfl⟩ := List.getElem?_eq_some_iff.1 hx
    match k, hk with
    | 0, _ =>
      refine (wp1_any gf (rowW g gr) w0 B g gr r _ W hW (hb 0) hs.2.2.1.1 hs.2.2.1.2).mono fun e w' ⟨he, hw⟩ => ⟨he, ?_⟩
      rw [catP_next (encR u r) 0 (on u 1 _ []) rfl, on_yes (u := u) (k := 1) hbit, ← List.append_assoc]
      exact hw
    | 1, _ =>
      refine (wp2_any gf (rowW g gr) w0 B g gr r _ W hW (hb 1) hs.1.1 hs.1.2).mono fun e w' ⟨he, hw⟩ => ⟨he, ?_⟩
      rw [catP_next (encR u r) 1 (on u 2 _ []) rfl, on_yes (u := u) (k := 2) hbit, ← List.append_assoc]
      exact hw
    | 2, _ =>
      refine (wp3_any gf (rowW g gr) w0 B g gr r _ W hW (hb 2) hs.2.1.1 hs.2.1.2).mono fun e w' ⟨he, hw⟩ => ⟨he, ?_⟩
      rw [catP_next (encR u r) 2 (on u 4 _ []) rfl, on_yes (u := u) (k := 4) hbit, ← List.append_assoc]
      exact hw
    | 3, _ =>
      refine (wp4_any gf (rowW g gr) w0 B g gr r _ W hW (hb 3) (by have := hs.2.2.2.1; omega)).mono fun e w' ⟨he, hw⟩ => ⟨he, ?_⟩
      rw [catP_next (encR u r) 3 (on u 1024 _ []) rfl, on_yes (u := u) (k := 1024) hbit, ← List.append_assoc]
      exact hw
    | 4, _ =>
      refine (wp5_any gf (rowW g gr) w0 B g gr r _ W hW (hb 4) (by have := hs.2.2.2.2.1.1; omega) (by have := hs.names; omega)).mono fun e w' ⟨he, hw⟩ => ⟨he, ?_⟩
      rw [catP_next (encR u r) 4 (on u 2048 _ []) rfl, on_yes (u := u) (k := 2048) hbit, ← List.append_assoc]
      exact hw
  · simp only [fvsW, List.mem_cons, List.mem_nil_iff, or_false] at hx
    rcases hx with rfl | rfl | rfl | rfl | rfl
    · exact enW75 g gr W
    · exact enW76 g gr W
    · exact enW77 g gr W
    · exact enW78 g gr W
    · exact enW79 g gr W
  · obtain ⟨hk, rfl⟩ := List.getElem?_eq_some_iff.1 hx
    have HB : Hid (bits .and .i64 u (bitsP.getD k 0) = 0) := hide (by rw [← bit_atW g gr k hk]; exact hbit)
    clear hbit hx hb
    rw [noW u r k hk HB]
    exact hW
end Go.Proofs.Ytedacfjkbfgikaa
