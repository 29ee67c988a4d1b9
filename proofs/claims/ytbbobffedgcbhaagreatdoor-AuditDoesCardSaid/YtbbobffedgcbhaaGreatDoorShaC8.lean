/- sha.Chain, for seats without sha.Sum; what the two tables hold. -/
import Derived.Test.YtbbobffedgcbhaaGreatDoorShaV
namespace Go.Proofs.YtbbobffedgcbhaaGreatDoor
open Go.RowKit
set_option linter.unusedVariables false
theorem RetSum.of_alloc {w : World} {o : Obj} {m : List UInt8} {e : Ending} {w' : World} (h : RetSum (w.alloc o) m e w') : RetSum w m e w' := by
  obtain ⟨A, c, he, ho, hb⟩ := h
  exact ⟨A, c, he, own_more ho (by simp), (((Below.refl _ _).alloc (Nat.le_refl _) _)).trans (hb.mono (by simp))⟩
theorem rows_one (w : World) (A : Option Addr) (n c : Nat) (bs : List UInt8) (hr : Rd w A n bs) (hc : n ≤ c) : RowsV w w.heap.size [.slice A n c] [bs] :=
  ⟨rfl, fun j v b h1 h2 => by
    match j with
    | 0 => simp at h1 h2; subst h1; subst h2; exact ⟨A, n, c, rfl, hc, hr⟩
    | j + 1 => simp at h1⟩
theorem rows_two (w : World) (A B : Option Addr) (n c m d : Nat) (a b : List UInt8) (hr : Rd w A n a) (hc : n ≤ c) (hs : Rd w B m b) (hd : m ≤ d) : RowsV w w.heap.size [.slice A n c, .slice B m d] [a, b] :=
  ⟨rfl, fun j v x h1 h2 => by
    match j with
    | 0 => simp at h1 h2; subst h1; subst h2; exact ⟨A, n, c, rfl, hc, hr⟩
    | 1 => simp at h1 h2; subst h1; subst h2; exact ⟨B, m, d, rfl, hd, hs⟩
    | j + 2 => simp at h1⟩
theorem RowsV.alloc {w : World} {vs : List Value} {bs : List (List UInt8)} (h : RowsV w w.heap.size vs bs) (o : Obj) : RowsV (w.alloc o) (w.alloc o).heap.size vs bs := by
  have h2 := h.keep (w' := w.alloc o) fun p hp => World.cell?_alloc_lt w o p hp
  refine ⟨h2.1, fun j v b e1 e2 => ?_⟩
  obtain ⟨A, n, c, e, hc, hr⟩ := h2.2 j v b e1 e2
  exact ⟨A, n, c, e, hc, hr.more (by simp)⟩
theorem reads_new (w : World) (t : TypeId) (vs : List Value) : Reads (w.alloc (.cells vs.toArray t)) (w.alloc (.cells vs.toArray t)).heap.size 1 (some ⟨w.heap.size, 0, none⟩) vs.length vs := by
  refine ⟨by simp, fun _ => ⟨_, rfl, by simp, fun j u hu => ?_⟩⟩
  rw [at_add, Nat.zero_add, (Blk.new w t vs.toArray).cell j, ← hu]
  simp
theorem FirstAt.alloc {w : World} (h : FirstAt w) (h1 : 5 < w.heap.size) (o : Obj) : FirstAt (w.alloc o) := h.keep fun p hp => World.cell?_alloc_lt w o p (by omega)
theorem KeysAt.alloc {w : World} (h : KeysAt w) (h1 : 5 < w.heap.size) (o : Obj) : KeysAt (w.alloc o) := h.keep fun p hp => World.cell?_alloc_lt w o p (by omega)
set_option maxHeartbeats 1000000 in
theorem chain_any (A B : Option Addr) (n c m d : Nat) (a b : List UInt8) (w : World) (hr : Rd w A n a) (hc : n ≤ c) (hn : n ≤ 40000) (hs : Rd w B m b) (hd : m ≤ d) (hm : m ≤ 40000) (hf : FirstAt w) (hk : KeysAt w) (h1 : 5 < w.heap.size) :
    Calls Tryz.prog 60 #[.slice A n c, .slice B m d] w (RetSum w (a ++ b)) := by
  have hl := hr.len
  have hl2 := hs.len
  have H := hide (sum_any (some ⟨w.heap.size, 0, none⟩) 2 2 [.slice A n c, .slice B m d] [a, b] (w.alloc (.cells [.slice A n c, .slice B m d].toArray 22)) (reads_new w 22 [.slice A n c, .slice B m d]) ((rows_two w A B n c m d a b hr hc hs hd).alloc _) (by simp; omega) (hf.alloc h1 _) (hk.alloc h1 _) (by simp; omega) (by omega))
  clear hr hs hf hk hl hl2
  go_enter Tryz.func60, Tryz.ntmps60
  go_wp2_with fail
  refine H.out.mono ?_
  rintro e w1 hR
  have hR' := hR.of_alloc
  obtain ⟨A', c', rfl, ho, hb⟩ := hR'
  have HO := hide ho
  have HB := hide hb
  clear ho hb hR H
  go_wp2_with fail
  go_ret
  exact ⟨A', c', rfl, by have h := HO.out; simpa using h, HB.out⟩
theorem FirstAt.below {w w' : World} (h : FirstAt w) (h1 : 5 < w.heap.size) (hb : Below w.heap.size w w') : FirstAt w' := h.keep fun p hp => hb.cell (by omega)
theorem KeysAt.below {w w' : World} (h : KeysAt w) (h1 : 5 < w.heap.size) (hb : Below w.heap.size w w') : KeysAt w' := h.keep fun p hp => hb.cell (by omega)
def Tabs (w : World) : Prop := FirstAt w ∧ KeysAt w ∧ 5 < w.heap.size
theorem Tabs.below {w w' : World} (h : Tabs w) (hb : Below w.heap.size w w') : Tabs w' := ⟨h.1.below h.2.2 hb, h.2.1.below h.2.2 hb, Nat.lt_of_lt_of_le h.2.2 hb.size⟩
theorem Tabs.alloc {w : World} (h : Tabs w) (o : Obj) : Tabs (w.alloc o) := h.below ((Below.refl _ _).alloc (Nat.le_refl _) _)
end Go.Proofs.YtbbobffedgcbhaaGreatDoor
