/- The contracts of sha.Sum, sha.Chain, sha.Start, sha.Pad, sha.Block. -/
import Derived.Test.YtelfdgliogaleaaDoorShaV
namespace Go.Proofs.YtelfdgliogaleaaDoor
open Go.RowKit
set_option linter.unusedVariables false
theorem RetSum.of_alloc {w : World} {o : Obj} {m : List UInt8} {e : Ending} {w' : World} (h : RetSum (w.alloc o) m e w') : RetSum w m e w' := by
  obtain ⟨A, c, he, ho, hb⟩ := h
  exact ⟨A, c, he, own_more ho (by simp), (((Below.refl _ _).alloc (Nat.le_refl _) _)).trans (hb.mono (by simp))⟩
theorem rows_one (w : World) (A : Option Addr) (n c : Nat) (bs : List UInt8) (hr : Rd w A n bs) (hc : n ≤ c) : RowsV w w.heap.size [.slice A n c] [bs] :=
  ⟨rfl, fun j v b h1 h2 => by
    match j with
    | 0 => simp at h1 h2; subst h1; subst h2; exact ⟨A, n, c, rfl, hc, hr⟩
    | j + 1 => simp at h1⟩
theorem rows_two (w : World) (A B : Option Addr) (n c m d : Nat) (a b : List UInt8) (hr : Rd w A n a) (hc : n ≤ c) (hs : Rd w B m b) (hd : m ≤ d) : RowsV w w.heap.size [.slice A n c, .slice B m d] [a, b] :=
  ⟨rfl, fun j v x h1 h2 => by
    match j with
    | 0 => simp at h1 h2; subst h1; subst h2; exact ⟨A, n, c, rfl, hc, hr⟩
    | 1 => simp at h1 h2; subst h1; subst h2; exact ⟨B, m, d, rfl, hd, hs⟩
    | j + 2 => simp at h1⟩
theorem RowsV.alloc {w : World} {vs : List Value} {bs : List (List UInt8)} (h : RowsV w w.heap.size vs bs) (o : Obj) : RowsV (w.alloc o) (w.alloc o).heap.size vs bs := by
  have h2 := h.keep (w' := w.alloc o) fun p hp => World.cell?_alloc_lt w o p hp
  refine ⟨h2.1, fun j v b e1 e2 => ?_⟩
  obtain ⟨A, n, c, e, hc, hr⟩ := h2.2 j v b e1 e2
  exact ⟨A, n, c, e, hc, hr.more (by simp)⟩
theorem reads_new (w : World) (t : TypeId) (vs : List Value) : Reads (w.alloc (.cells vs.toArray t)) (w.alloc (.cells vs.toArray t)).heap.size 1 (some ⟨w.heap.size, 0, none⟩) vs.length vs := by
  refine ⟨by simp, fun _ => ⟨_, rfl, by simp, fun j u hu => ?_⟩⟩
  rw [at_add, Nat.zero_add, (Blk.new w t vs.toArray).cell j, ← hu]
  simp
theorem FirstAt.alloc {w : World} (h : FirstAt w) (h1 : 1 < w.heap.size) (o : Obj) : FirstAt (w.alloc o) := h.keep fun p hp => World.cell?_alloc_lt w o p (by omega)
theorem KeysAt.alloc {w : World} (h : KeysAt w) (h1 : 1 < w.heap.size) (o : Obj) : KeysAt (w.alloc o) := h.keep fun p hp => World.cell?_alloc_lt w o p (by omega)
set_option maxHeartbeats 1000000 in
theorem sumc_any (A : Option Addr) (n c : Nat) (bs : List UInt8) (w : World) (hr : Rd w A n bs) (hc : n ≤ c) (hn : n ≤ 100000) (hf : FirstAt w) (hk : KeysAt w) (h1 : 1 < w.heap.size) :
    Calls Tryd.prog 9 #[.slice A n c] w (RetSum w bs) := by
  have hl := hr.len
  have H := hide (sum_any (some ⟨w.heap.size, 0, none⟩) 1 1 [.slice A n c] [bs] (w.alloc (.cells [.slice A n c].toArray 22)) (reads_new w 22 [.slice A n c]) ((rows_one w A n c bs hr hc).alloc _) (by simp; omega) (hf.alloc h1 _) (hk.alloc h1 _) (by simp; omega) (by omega))
  clear hr hf hk hl
  go_enter Tryd.func9, Tryd.ntmps9
  go_wp2_with fail
  refine H.out.mono ?_
  rintro e w1 hR
  have hR' := hR.of_alloc
  obtain ⟨A', c', rfl, ho, hb⟩ := hR'
  have HO := hide ho
  have HB := hide hb
  clear ho hb hR H
  go_wp2_with fail
  go_ret
  exact ⟨A', c', rfl, by have h := HO.out; simpa using h, HB.out⟩
set_option maxHeartbeats 1000000 in
theorem chain_any (A B : Option Addr) (n c m d : Nat) (a b : List UInt8) (w : World) (hr : Rd w A n a) (hc : n ≤ c) (hn : n ≤ 40000) (hs : Rd w B m b) (hd : m ≤ d) (hm : m ≤ 40000) (hf : FirstAt w) (hk : KeysAt w) (h1 : 1 < w.heap.size) :
    Calls Tryd.prog 18 #[.slice A n c, .slice B m d] w (RetSum w (a ++ b)) := by
  have hl := hr.len
  have hl2 := hs.len
  have H := hide (sum_any (some ⟨w.heap.size, 0, none⟩) 2 2 [.slice A n c, .slice B m d] [a, b] (w.alloc (.cells [.slice A n c, .slice B m d].toArray 22)) (reads_new w 22 [.slice A n c, .slice B m d]) ((rows_two w A B n c m d a b hr hc hs hd).alloc _) (by simp; omega) (hf.alloc h1 _) (hk.alloc h1 _) (by simp; omega) (by omega))
  clear hr hs hf hk hl hl2
  go_enter Tryd.func18, Tryd.ntmps18
  go_wp2_with fail
  refine H.out.mono ?_
  rintro e w1 hR
  have hR' := hR.of_alloc
  obtain ⟨A', c', rfl, ho, hb⟩ := hR'
  have HO := hide ho
  have HB := hide hb
  clear ho hb hR H
  go_wp2_with fail
  go_ret
  exact ⟨A', c', rfl, by have h := HO.out; simpa using h, HB.out⟩
theorem firstS_cells : (wv firstS.list).toArray = #[.int .u32 0x6a09e667, .int .u32 0xbb67ae85, .int .u32 0x3c6ef372, .int .u32 0xa54ff53a, .int .u32 0x510e527f, .int .u32 0x9b05688c, .int .u32 0x1f83d9ab, .int .u32 0x5be0cd19] := rfl
/-- A new row of words. -/
def RetWords (w : World) (ws : List Nat) (v : Value) (w' : World) : Prop :=
  ∃ g, v = .slice (some ⟨g, 0, none⟩) 8 8 ∧ w.heap.size ≤ g ∧ Blk w' g 42 (wv ws).toArray ∧ Below w.heap.size w w'
set_option maxHeartbeats 1000000 in
theorem start_any (w : World) (hf : FirstAt w) (h1 : 1 < w.heap.size) :
    Calls Tryd.prog 16 #[] w fun e w' => ∃ v, e = .returned v ∧ RetWords w firstS.list v w' := by
  have f0 : w.cell? ⟨0, 0, none⟩ = some (.int .u32 0x6a09e667) := hf 0 (by omega)
  have f1 : w.cell? ⟨0, 1, none⟩ = some (.int .u32 0xbb67ae85) := hf 1 (by omega)
  have f2 : w.cell? ⟨0, 2, none⟩ = some (.int .u32 0x3c6ef372) := hf 2 (by omega)
  have f3 : w.cell? ⟨0, 3, none⟩ = some (.int .u32 0xa54ff53a) := hf 3 (by omega)
  have f4 : w.cell? ⟨0, 4, none⟩ = some (.int .u32 0x510e527f) := hf 4 (by omega)
  have f5 : w.cell? ⟨0, 5, none⟩ = some (.int .u32 0x9b05688c) := hf 5 (by omega)
  have f6 : w.cell? ⟨0, 6, none⟩ = some (.int .u32 0x1f83d9ab) := hf 6 (by omega)
  have f7 : w.cell? ⟨0, 7, none⟩ = some (.int .u32 0x5be0cd19) := hf 7 (by omega)
  clear hf
  have hall : ∀ W, (Instr.sliceAt 42 (.pointer (some ⟨w.heap.size, 0, none⟩)) none none none).run Tryd.prog W = .ok (.slice (some ⟨w.heap.size, 0, none⟩) 8 8) W := fun W => by rfl
  go_enter Tryd.func16, Tryd.ntmps16
  go_wp2_with fail
  go_ret
  exact ⟨_, rfl, w.heap.size, rfl, Nat.le_refl _, Blk.new w 42 (wv firstS.list).toArray, (Below.refl _ _).alloc (Nat.le_refl _) _⟩
end Go.Proofs.YtelfdgliogaleaaDoor
