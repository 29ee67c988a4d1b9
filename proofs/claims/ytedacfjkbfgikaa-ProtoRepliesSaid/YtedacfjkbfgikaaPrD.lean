/- The nine that read a request's fields. -/
import Derived.Test.YtedacfjkbfgikaaPrT
namespace Go.Proofs.Ytedacfjkbfgikaa
open Go.RowKit
set_option linter.unusedVariables false
theorem reads_blk {w : World} {B : Nat} {A : Option Addr} {n : Nat} {xs : LB} (h : Reads w B 1 A n (bv xs)) {g : Nat} {t : TypeId} {cs : Array Value} (hk : Blk w g t cs) (hcs : ∀ v ∈ cs.toList, ∀ z, v ≠ .int .u8 z) (i : Nat) (u : Value) (hi : i < cs.size) : Reads (w.setCell ⟨g, i, none⟩ u) B 1 A n (bv xs) := by
  have hc := hk.cell i
  rw [Array.getElem?_eq_getElem hi] at hc
  exact h.set1 hc (hcs _ (by rw [← Array.getElem_toList (by simpa using hi)]; exact List.getElem_mem _)) u
def qcs (r : RQ) (D A E F : Option Addr) (dn dc an ac en ec fn fc : Nat) : Array Value := #[.int .i64 r.op, .string ⟨r.p.toArray⟩, .string ⟨r.p2.toArray⟩, .int .i64 r.h, .int .i64 r.n, .int .i64 r.fl, .slice D dn dc, .slice A an ac, .slice E en ec, .slice F fn fc]
theorem qcs_no (r : RQ) (D A E F : Option Addr) (dn dc an ac en ec fn fc : Nat) : ∀ v ∈ (qcs r D A E F dn dc an ac en ec fn fc).toList, ∀ z, v ≠ .int .u8 z := by
  intro v hv z e
  subst e
  simp [qcs] at hv
/-- A request in a box of its own, its rows behind B. -/
def DqAt (B gr : Nat) (r : RQ) (w : World) : Prop := ∃ D dn dc A an ac E en ec F fn fc, Blk w gr 26 (qcs r D A E F dn dc an ac en ec fn fc) ∧
  w.ownsRow B 5 1 (.slice D dn dc) dn (bv r.d) ∧ w.ownsRow B 9 1 (.slice A an ac) an (svs r.args) ∧ w.ownsRow B 9 1 (.slice E en ec) en (svs r.env) ∧ w.ownsRow B 3 1 (.slice F fn fc) fn (ivs r.fds)
/-- Where a request is being read: the input at g, behind gi; the request at gr. -/
def RD (gf : Nat) (cs : Array Value) (w0 : World) (b B g gi gr : Nat) (q : RQ × St) (w : World) : Prop := InAt B g q.2 w ∧ Blk w gi 70 #[.pointer (some ⟨g, 0, none⟩)] ∧ DqAt B gr q.1 w ∧ Below b w0 w ∧ gi < B ∧ gr < B ∧ b ≤ g ∧ b ≤ gr ∧ Blk w gf 62 cs
theorem DqAt.lt {B gr : Nat} {r : RQ} {w : World} (h : DqAt B gr r w) : gr < w.heap.size := by
  obtain ⟨D, dn, dc, A, an, ac, E, en, ec, F, fn, fc, h1, -⟩ := h
  exact h1.lt
theorem InAt.ne {B g : Nat} {st : St} {w : World} (h : InAt B g st w) {g' : Nat} {t : TypeId} {cs : Array Value} (hk : Blk w g' t cs) (ht : t ≠ 72) : g' ≠ g := by
  obtain ⟨A, n, c, h1, -⟩ := h
  exact hk.ne_ h1 ht
theorem DqAt.fr {B gr g : Nat} {r : RQ} {w w' : World} (h : DqAt B gr r w) (hf : Fr g w w') (hg : g < B) (hne : gr ≠ g) : DqAt B gr r w' := by
  obtain ⟨D, dn, dc, A, an, ac, E, en, ec, F, fn, fc, h1, h2, h3, h4, h5⟩ := h
  have hk : ∀ x, B ≤ x → x < w.heap.size → w'.heap[x]? = w.heap[x]? := fun x hx hl => hf.block x hl (by omega)
  exact ⟨D, dn, dc, A, an, ac, E, en, ec, F, fn, fc, (hf.block gr h1.lt hne).trans h1, own_at h2 hk, own_at h3 hk, own_at h4 hk, own_at h5 hk⟩
theorem DqAt.ne {B gr : Nat} {r : RQ} {w : World} (h : DqAt B gr r w) {g' : Nat} {t : TypeId} {cs : Array Value} (hk : Blk w g' t cs) (ht : t ≠ 26) : g' ≠ gr := by
  obtain ⟨D, dn, dc, A, an, ac, E, en, ec, F, fn, fc, h1, -⟩ := h
  exact hk.ne_ h1 ht
theorem DqAt.ne_in {B B' gr g : Nat} {r : RQ} {st : St} {w : World} (h : DqAt B gr r w) (hi : InAt B' g st w) : gr ≠ g := by
  obtain ⟨D, dn, dc, A, an, ac, E, en, ec, F, fn, fc, h1, -⟩ := h
  exact hi.ne h1 (by decide)
theorem RD.fr {gf : Nat} {cs : Array Value} {w0 : World} {b B g gi gr : Nat} {r : RQ} {st st' : St} {w w' : World} (h : RD gf cs w0 b B g gi gr (r, st) w) (hi : InAt B g st' w') (hf : Fr g w w') (hbw : b ≤ w.heap.size) : RD gf cs w0 b B g gi gr (r, st') w' := by
  obtain ⟨h1, h2, h3, h4, h5, h6, h7, h8, h9⟩ := h
  have hne := h3.ne_in h1
  have hni := h1.ne h2 (by decide)
  exact ⟨hi, (hf.block gi h2.lt hni).trans h2, h3.fr hf h1.lt.1 hne, h4.trans ⟨hf.os, hf.tape, hf.output, hf.size, fun x hx => hf.block x (by omega) (by omega)⟩, h5, h6, h7, h8, (hf.block gf h9.lt (h1.ne h9 (by decide))).trans h9⟩
theorem RD.bw {gf : Nat} {cs : Array Value} {w0 : World} {b B g gi gr : Nat} {q : RQ × St} {w : World} (h : RD gf cs w0 b B g gi gr q w) : b ≤ w.heap.size := by
  have h1 := h.1.lt
  have h2 := h.2.2.2.2.2.2.1
  omega
theorem RD.set_ {gf : Nat} {cs : Array Value} {w0 : World} {b B g gi gr : Nat} {r r' : RQ} {st : St} {w : World} (h : RD gf cs w0 b B g gi gr (r, st) w) (i : Nat) (u : Value) (hi : i < 10)
    (hr : ∀ D dn dc A an ac E en ec F fn fc, Blk w gr 26 (qcs r D A E F dn dc an ac en ec fn fc) → w.ownsRow B 5 1 (.slice D dn dc) dn (bv r.d) → w.ownsRow B 9 1 (.slice A an ac) an (svs r.args) → w.ownsRow B 9 1 (.slice E en ec) en (svs r.env) → w.ownsRow B 3 1 (.slice F fn fc) fn (ivs r.fds) →
      ∃ D' dn' dc' A' an' ac' E' en' ec' F' fn' fc', (qcs r D A E F dn dc an ac en ec fn fc).setIfInBounds i u = qcs r' D' A' E' F' dn' dc' an' ac' en' ec' fn' fc' ∧ w.ownsRow B 5 1 (.slice D' dn' dc') dn' (bv r'.d) ∧ w.ownsRow B 9 1 (.slice A' an' ac') an' (svs r'.args) ∧ w.ownsRow B 9 1 (.slice E' en' ec') en' (svs r'.env) ∧ w.ownsRow B 3 1 (.slice F' fn' fc') fn' (ivs r'.fds)) :
    RD gf cs w0 b B g gi gr (r', st) (w.setCell ⟨gr, i, none⟩ u) := by
  obtain ⟨h1, h2, h3, h4, h5, h6, h7, h8, h9⟩ := h
  have hne := h3.ne_in h1
  have hni := h3.ne h2 (by decide)
  have hnf := h3.ne h9 (by decide)
  obtain ⟨D, dn, dc, A, an, ac, E, en, ec, F, fn, fc, k1, k2, k3, k4, k5⟩ := h3
  obtain ⟨D', dn', dc', A', an', ac', E', en', ec', F', fn', fc', m1, m2, m3, m4, m5⟩ := hr D dn dc A an ac E en ec F fn fc k1 k2 k3 k4 k5
  obtain ⟨IA, In, Ic, n1, n2, n3, n4, n5, n6⟩ := h1
  refine ⟨⟨IA, In, Ic, n1.far (p := ⟨gr, i, none⟩) (fun e => hne e.symm) u, reads_blk n2 k1 (qcs_no _ _ _ _ _ _ _ _ _ _ _ _ _) i u (by simpa [qcs] using hi), n3, n4, n5, by simpa using n6⟩, h2.far (p := ⟨gr, i, none⟩) hni u, ⟨D', dn', dc', A', an', ac', E', en', ec', F', fn', fc', m1 ▸ k1.set_ i u, own_far m2 (by exact h6) u, own_far m3 (by exact h6) u, own_far m4 (by exact h6) u, own_far m5 (by exact h6) u⟩, h4.setCell (by exact h8) u, h5, h6, h7, h8, h9.far (p := ⟨gr, i, none⟩) hnf u⟩

set_option maxRecDepth 100000 in
set_option maxHeartbeats 4000000 in
theorem rd1_any (gf : Nat) (cs : Array Value) (w0 : World) (b B g gi gr : Nat) (r : RQ) (st : St) (w : World) (h : RD gf cs w0 b B g gi gr (r, st) w) :
    Calls Try.prog 43 #[.pointer (some ⟨gi, 0, none⟩), .pointer (some ⟨gr, 0, none⟩)] w fun e w' => e = .returned (.tuple #[]) ∧ RD gf cs w0 b B g gi gr (rdH (r, st)) w' := by
  have HW := hide h
  have ci := h.2.1.cell 0
  simp only [List.getElem?_toArray, List.getElem?_cons_zero] at ci
  have XP := hide (iint_any B g st w h.1)
  unfold rdH
  dsimp only
  generalize intS st = q at *
  obtain ⟨x, st'⟩ := q
  dsimp only at XP ⊢
  clear h
  go_enter Try.func43, Try.ntmps43
  go_wp2_with fail
  with_reducible refine XP.out.mono ?_
  rintro e w1 ⟨rfl, hin, hfr⟩
  have HW1 := hide (HW.out.fr hin hfr HW.out.bw)
  obtain ⟨D, dn, dc, A, an, ac, E, en, ec, F, fn, fc, hk, -⟩ := HW1.out.2.2.1
  have ck := hk.cell 3
  have fk := hk.frozen 3
  unfold qcs at ck
  simp only [List.getElem?_toArray, List.getElem?_cons_succ, List.getElem?_cons_zero] at ck
  clear hk hin hfr XP ci
  go_wp2_with fail
  go_end0
  refine ⟨rfl, ?_⟩
  refine HW1.out.set_ 3 _ (by omega) ?_
  intro D dn dc A an ac E en ec F fn fc _ k2 k3 k4 k5
  exact ⟨D, dn, dc, A, an, ac, E, en, ec, F, fn, fc, rfl, k2, k3, k4, k5⟩

set_option maxRecDepth 100000 in
set_option maxHeartbeats 4000000 in
theorem rd2_any (gf : Nat) (cs : Array Value) (w0 : World) (b B g gi gr : Nat) (r : RQ) (st : St) (w : World) (h : RD gf cs w0 b B g gi gr (r, st) w) :
    Calls Try.prog 45 #[.pointer (some ⟨gi, 0, none⟩), .pointer (some ⟨gr, 0, none⟩)] w fun e w' => e = .returned (.tuple #[]) ∧ RD gf cs w0 b B g gi gr (rdP (r, st)) w' := by
  have HW := hide h
  have ci := h.2.1.cell 0
  simp only [List.getElem?_toArray, List.getElem?_cons_zero] at ci
  have XP := hide (itxt_any B g st w h.1)
  unfold rdP
  dsimp only
  generalize txtS st = q at *
  obtain ⟨x, st'⟩ := q
  dsimp only at XP ⊢
  clear h
  go_enter Try.func45, Try.ntmps45
  go_wp2_with fail
  with_reducible refine XP.out.mono ?_
  rintro e w1 ⟨rfl, hin, hfr⟩
  have HW1 := hide (HW.out.fr hin hfr HW.out.bw)
  obtain ⟨D, dn, dc, A, an, ac, E, en, ec, F, fn, fc, hk, -⟩ := HW1.out.2.2.1
  have ck := hk.cell 1
  have fk := hk.frozen 1
  unfold qcs at ck
  simp only [List.getElem?_toArray, List.getElem?_cons_succ, List.getElem?_cons_zero] at ck
  clear hk hin hfr XP ci
  go_wp2_with fail
  go_end0
  refine ⟨rfl, ?_⟩
  refine HW1.out.set_ 1 _ (by omega) ?_
  intro D dn dc A an ac E en ec F fn fc _ k2 k3 k4 k5
  exact ⟨D, dn, dc, A, an, ac, E, en, ec, F, fn, fc, rfl, k2, k3, k4, k5⟩

set_option maxRecDepth 100000 in
set_option maxHeartbeats 4000000 in
theorem rd3_any (gf : Nat) (cs : Array Value) (w0 : World) (b B g gi gr : Nat) (r : RQ) (st : St) (w : World) (h : RD gf cs w0 b B g gi gr (r, st) w) :
    Calls Try.prog 47 #[.pointer (some ⟨gi, 0, none⟩), .pointer (some ⟨gr, 0, none⟩)] w fun e w' => e = .returned (.tuple #[]) ∧ RD gf cs w0 b B g gi gr (rdP2 (r, st)) w' := by
  have HW := hide h
  have ci := h.2.1.cell 0
  simp only [List.getElem?_toArray, List.getElem?_cons_zero] at ci
  have XP := hide (itxt_any B g st w h.1)
  unfold rdP2
  dsimp only
  generalize txtS st = q at *
  obtain ⟨x, st'⟩ := q
  dsimp only at XP ⊢
  clear h
  go_enter Try.func47, Try.ntmps47
  go_wp2_with fail
  with_reducible refine XP.out.mono ?_
  rintro e w1 ⟨rfl, hin, hfr⟩
  have HW1 := hide (HW.out.fr hin hfr HW.out.bw)
  obtain ⟨D, dn, dc, A, an, ac, E, en, ec, F, fn, fc, hk, -⟩ := HW1.out.2.2.1
  have ck := hk.cell 2
  have fk := hk.frozen 2
  unfold qcs at ck
  simp only [List.getElem?_toArray, List.getElem?_cons_succ, List.getElem?_cons_zero] at ck
  clear hk hin hfr XP ci
  go_wp2_with fail
  go_end0
  refine ⟨rfl, ?_⟩
  refine HW1.out.set_ 2 _ (by omega) ?_
  intro D dn dc A an ac E en ec F fn fc _ k2 k3 k4 k5
  exact ⟨D, dn, dc, A, an, ac, E, en, ec, F, fn, fc, rfl, k2, k3, k4, k5⟩

set_option maxRecDepth 100000 in
set_option maxHeartbeats 4000000 in
theorem rd4_any (gf : Nat) (cs : Array Value) (w0 : World) (b B g gi gr : Nat) (r : RQ) (st : St) (w : World) (h : RD gf cs w0 b B g gi gr (r, st) w) :
    Calls Try.prog 48 #[.pointer (some ⟨gi, 0, none⟩), .pointer (some ⟨gr, 0, none⟩)] w fun e w' => e = .returned (.tuple #[]) ∧ RD gf cs w0 b B g gi gr (rdA (r, st)) w' := by
  have HW := hide h
  have ci := h.2.1.cell 0
  simp only [List.getElem?_toArray, List.getElem?_cons_zero] at ci
  have XP := hide (ptexts_any B g st w h.1)
  unfold rdA
  dsimp only
  generalize listS txtS st = q at *
  obtain ⟨x, st'⟩ := q
  dsimp only at XP ⊢
  clear h
  go_enter Try.func48, Try.ntmps48
  go_wp2_with fail
  with_reducible refine XP.out.mono ?_
  rintro e w1 ⟨A9, n9, c9, rfl, ho, hin, hfr⟩
  have HW1 := hide (HW.out.fr hin hfr HW.out.bw)
  obtain ⟨D, dn, dc, A, an, ac, E, en, ec, F, fn, fc, hk, -⟩ := HW1.out.2.2.1
  have ck := hk.cell 7
  have fk := hk.frozen 7
  unfold qcs at ck
  simp only [List.getElem?_toArray, List.getElem?_cons_succ, List.getElem?_cons_zero] at ck
  have HO := hide (own_more ho HW.out.1.lt.2)
  clear ho
  clear hk hin hfr XP ci
  go_wp2_with fail
  go_end0
  refine ⟨rfl, ?_⟩
  refine HW1.out.set_ 7 _ (by omega) ?_
  intro D dn dc A an ac E en ec F fn fc _ k2 k3 k4 k5
  exact ⟨D, dn, dc, A9, n9, c9, E, en, ec, F, fn, fc, rfl, k2, HO.out, k4, k5⟩

set_option maxRecDepth 100000 in
set_option maxHeartbeats 4000000 in
theorem rd5_any (gf : Nat) (cs : Array Value) (w0 : World) (b B g gi gr : Nat) (r : RQ) (st : St) (w : World) (h : RD gf cs w0 b B g gi gr (r, st) w) :
    Calls Try.prog 50 #[.pointer (some ⟨gi, 0, none⟩), .pointer (some ⟨gr, 0, none⟩)] w fun e w' => e = .returned (.tuple #[]) ∧ RD gf cs w0 b B g gi gr (rdE (r, st)) w' := by
  have HW := hide h
  have ci := h.2.1.cell 0
  simp only [List.getElem?_toArray, List.getElem?_cons_zero] at ci
  have XP := hide (ptexts_any B g st w h.1)
  unfold rdE
  dsimp only
  generalize listS txtS st = q at *
  obtain ⟨x, st'⟩ := q
  dsimp only at XP ⊢
  clear h
  go_enter Try.func50, Try.ntmps50
  go_wp2_with fail
  with_reducible refine XP.out.mono ?_
  rintro e w1 ⟨A9, n9, c9, rfl, ho, hin, hfr⟩
  have HW1 := hide (HW.out.fr hin hfr HW.out.bw)
  obtain ⟨D, dn, dc, A, an, ac, E, en, ec, F, fn, fc, hk, -⟩ := HW1.out.2.2.1
  have ck := hk.cell 8
  have fk := hk.frozen 8
  unfold qcs at ck
  simp only [List.getElem?_toArray, List.getElem?_cons_succ, List.getElem?_cons_zero] at ck
  have HO := hide (own_more ho HW.out.1.lt.2)
  clear ho
  clear hk hin hfr XP ci
  go_wp2_with fail
  go_end0
  refine ⟨rfl, ?_⟩
  refine HW1.out.set_ 8 _ (by omega) ?_
  intro D dn dc A an ac E en ec F fn fc _ k2 k3 k4 k5
  exact ⟨D, dn, dc, A, an, ac, A9, n9, c9, F, fn, fc, rfl, k2, k3, HO.out, k5⟩

set_option maxRecDepth 100000 in
set_option maxHeartbeats 4000000 in
theorem rd6_any (gf : Nat) (cs : Array Value) (w0 : World) (b B g gi gr : Nat) (r : RQ) (st : St) (w : World) (h : RD gf cs w0 b B g gi gr (r, st) w) :
    Calls Try.prog 51 #[.pointer (some ⟨gi, 0, none⟩), .pointer (some ⟨gr, 0, none⟩)] w fun e w' => e = .returned (.tuple #[]) ∧ RD gf cs w0 b B g gi gr (rdF (r, st)) w' := by
  have HW := hide h
  have ci := h.2.1.cell 0
  simp only [List.getElem?_toArray, List.getElem?_cons_zero] at ci
  have XP := hide (pints_any B g st w h.1)
  unfold rdF
  dsimp only
  generalize listS intS st = q at *
  obtain ⟨x, st'⟩ := q
  dsimp only at XP ⊢
  clear h
  go_enter Try.func51, Try.ntmps51
  go_wp2_with fail
  with_reducible refine XP.out.mono ?_
  rintro e w1 ⟨A9, n9, c9, rfl, ho, hin, hfr⟩
  have HW1 := hide (HW.out.fr hin hfr HW.out.bw)
  obtain ⟨D, dn, dc, A, an, ac, E, en, ec, F, fn, fc, hk, -⟩ := HW1.out.2.2.1
  have ck := hk.cell 9
  have fk := hk.frozen 9
  unfold qcs at ck
  simp only [List.getElem?_toArray, List.getElem?_cons_succ, List.getElem?_cons_zero] at ck
  have HO := hide (own_more ho HW.out.1.lt.2)
  clear ho
  clear hk hin hfr XP ci
  go_wp2_with fail
  go_end0
  refine ⟨rfl, ?_⟩
  refine HW1.out.set_ 9 _ (by omega) ?_
  intro D dn dc A an ac E en ec F fn fc _ k2 k3 k4 k5
  exact ⟨D, dn, dc, A, an, ac, E, en, ec, A9, n9, c9, rfl, k2, k3, k4, HO.out⟩

set_option maxRecDepth 100000 in
set_option maxHeartbeats 4000000 in
theorem rd7_any (gf : Nat) (cs : Array Value) (w0 : World) (b B g gi gr : Nat) (r : RQ) (st : St) (w : World) (h : RD gf cs w0 b B g gi gr (r, st) w) :
    Calls Try.prog 53 #[.pointer (some ⟨gi, 0, none⟩), .pointer (some ⟨gr, 0, none⟩)] w fun e w' => e = .returned (.tuple #[]) ∧ RD gf cs w0 b B g gi gr (rdFl (r, st)) w' := by
  have HW := hide h
  have ci := h.2.1.cell 0
  simp only [List.getElem?_toArray, List.getElem?_cons_zero] at ci
  have XP := hide (iint_any B g st w h.1)
  unfold rdFl
  dsimp only
  generalize intS st = q at *
  obtain ⟨x, st'⟩ := q
  dsimp only at XP ⊢
  clear h
  go_enter Try.func53, Try.ntmps53
  go_wp2_with fail
  with_reducible refine XP.out.mono ?_
  rintro e w1 ⟨rfl, hin, hfr⟩
  have HW1 := hide (HW.out.fr hin hfr HW.out.bw)
  obtain ⟨D, dn, dc, A, an, ac, E, en, ec, F, fn, fc, hk, -⟩ := HW1.out.2.2.1
  have ck := hk.cell 5
  have fk := hk.frozen 5
  unfold qcs at ck
  simp only [List.getElem?_toArray, List.getElem?_cons_succ, List.getElem?_cons_zero] at ck
  clear hk hin hfr XP ci
  go_wp2_with fail
  go_end0
  refine ⟨rfl, ?_⟩
  refine HW1.out.set_ 5 _ (by omega) ?_
  intro D dn dc A an ac E en ec F fn fc _ k2 k3 k4 k5
  exact ⟨D, dn, dc, A, an, ac, E, en, ec, F, fn, fc, rfl, k2, k3, k4, k5⟩

set_option maxRecDepth 100000 in
set_option maxHeartbeats 4000000 in
theorem rd8_any (gf : Nat) (cs : Array Value) (w0 : World) (b B g gi gr : Nat) (r : RQ) (st : St) (w : World) (h : RD gf cs w0 b B g gi gr (r, st) w) :
    Calls Try.prog 54 #[.pointer (some ⟨gi, 0, none⟩), .pointer (some ⟨gr, 0, none⟩)] w fun e w' => e = .returned (.tuple #[]) ∧ RD gf cs w0 b B g gi gr (rdN (r, st)) w' := by
  have HW := hide h
  have ci := h.2.1.cell 0
  simp only [List.getElem?_toArray, List.getElem?_cons_zero] at ci
  have XP := hide (iint_any B g st w h.1)
  unfold rdN
  dsimp only
  generalize intS st = q at *
  obtain ⟨x, st'⟩ := q
  dsimp only at XP ⊢
  clear h
  go_enter Try.func54, Try.ntmps54
  go_wp2_with fail
  with_reducible refine XP.out.mono ?_
  rintro e w1 ⟨rfl, hin, hfr⟩
  have HW1 := hide (HW.out.fr hin hfr HW.out.bw)
  obtain ⟨D, dn, dc, A, an, ac, E, en, ec, F, fn, fc, hk, -⟩ := HW1.out.2.2.1
  have ck := hk.cell 4
  have fk := hk.frozen 4
  unfold qcs at ck
  simp only [List.getElem?_toArray, List.getElem?_cons_succ, List.getElem?_cons_zero] at ck
  clear hk hin hfr XP ci
  go_wp2_with fail
  go_end0
  refine ⟨rfl, ?_⟩
  refine HW1.out.set_ 4 _ (by omega) ?_
  intro D dn dc A an ac E en ec F fn fc _ k2 k3 k4 k5
  exact ⟨D, dn, dc, A, an, ac, E, en, ec, F, fn, fc, rfl, k2, k3, k4, k5⟩

set_option maxRecDepth 100000 in
set_option maxHeartbeats 4000000 in
theorem rd9_any (gf : Nat) (cs : Array Value) (w0 : World) (b B g gi gr : Nat) (r : RQ) (st : St) (w : World) (h : RD gf cs w0 b B g gi gr (r, st) w) :
    Calls Try.prog 55 #[.pointer (some ⟨gi, 0, none⟩), .pointer (some ⟨gr, 0, none⟩)] w fun e w' => e = .returned (.tuple #[]) ∧ RD gf cs w0 b B g gi gr (rdD (r, st)) w' := by
  have HW := hide h
  have ci := h.2.1.cell 0
  simp only [List.getElem?_toArray, List.getElem?_cons_zero] at ci
  have XP := hide (idata_any B g st w h.1)
  unfold rdD
  dsimp only
  generalize txtS st = q at *
  obtain ⟨x, st'⟩ := q
  dsimp only at XP ⊢
  clear h
  go_enter Try.func55, Try.ntmps55
  go_wp2_with fail
  with_reducible refine XP.out.mono ?_
  rintro e w1 ⟨A9, n9, c9, rfl, ho, hin, hfr⟩
  have HW1 := hide (HW.out.fr hin hfr HW.out.bw)
  obtain ⟨D, dn, dc, A, an, ac, E, en, ec, F, fn, fc, hk, -⟩ := HW1.out.2.2.1
  have ck := hk.cell 6
  have fk := hk.frozen 6
  unfold qcs at ck
  simp only [List.getElem?_toArray, List.getElem?_cons_succ, List.getElem?_cons_zero] at ck
  have HO := hide (own_more ho HW.out.1.lt.2)
  clear ho
  clear hk hin hfr XP ci
  go_wp2_with fail
  go_end0
  refine ⟨rfl, ?_⟩
  refine HW1.out.set_ 6 _ (by omega) ?_
  intro D dn dc A an ac E en ec F fn fc _ k2 k3 k4 k5
  exact ⟨A9, n9, c9, A, an, ac, E, en, ec, F, fn, fc, rfl, HO.out, k3, k4, k5⟩
end Go.Proofs.Ytedacfjkbfgikaa
