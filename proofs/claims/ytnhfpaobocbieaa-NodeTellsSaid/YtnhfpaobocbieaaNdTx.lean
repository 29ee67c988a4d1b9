/- The document's Texts; the law's tree. -/
import Derived.Lib.SmallJoins
import Derived.Test.YtnhfpaobocbieaaNdLk
namespace Go.Proofs.Ytnhfpaobocbieaa
open Go.RowKit
set_option linter.unusedVariables false
theorem rd_lenT {w : World} {B n : Nat} {A : Option Addr} {ks : List Bs} (h : Reads w B 1 A n (svs ks)) : ks.length = n := by have := h.1; rw [svs_length] at this; omega
set_option maxHeartbeats 1000000 in
theorem texts_eq (ks : List Bs) (A B : Option Addr) (n c m d : Nat) (w : World) (hA : Reads w w.heap.size 1 A n (svs ks)) (hB : Reads w w.heap.size 1 B m (svs ks)) (hn : n ≤ 1000000) :
    Calls Try.prog 16 #[.slice A n c, .slice B m d] w fun e w' => e = .returned (.bool true) ∧ Below w.heap.size w w' := by
  have h1 := rd_lenT hA
  have h2 := rd_lenT hB
  subst h1
  subst h2
  have HA := hide hA
  have HB := hide hB
  clear hA hB
  go_enter Try.func16, Try.ntmps16
  go_wp2_with fail
  go_loopw [5] (fun u5 wx => ∃ (k : Nat), k ≤ ks.length ∧ u5 = .int .i64 k ∧ Hid (Below w.heap.size w wx)) (fun i _ => ks.length - (intOf i).toNat)
  case atStart => exact ⟨0, Nat.zero_le _, rfl, hide (Below.refl _ _)⟩
  case round =>
    obtain ⟨k, hkl, rfl, HW⟩ := hrel
    by_cases hlt : k < ks.length
    · obtain ⟨g, o, rfl, hg, hc1⟩ := cells_of (HA.out.below HW.out) (by omega) (by rw [svs_length]; omega)
      obtain ⟨g2, o2, rfl, hg2, hc2⟩ := cells_of (HB.out.below HW.out) (by omega) (by rw [svs_length]; omega)
      have hcell := hc1 k _ (svs_get ks k hlt)
      have hcell2 := hc2 k _ (svs_get ks k hlt)
      generalize ks[k] = x at *
      unfold sv at hcell hcell2
      have hi1 : (k : Int) < (ks.length : Int) := by omega
      have hi0 : (0 : Int) ≤ (k : Int) := by omega
      have hx : (x != x) = false := by simp
      clear hc1 hc2
      go_wp2_with fail
      go_quiet (fail)
      go_wp2_with fail
      go_roundw
      case rel => exact ⟨k + 1, by omega, by simp, hide (bl_drewN HW.out)⟩
      case measure => simp [intOf]; omega
    · obtain rfl : k = ks.length := by omega
      go_wp2_with fail
      go_ret
      exact ⟨rfl, HW.out⟩

theorem reads_blk {V : World} {g size n : Nat} {t : TypeId} {cs : Array Value} {xs : List Value} (h : Blk V g t cs) (hx : cs.toList = xs) (hl : xs.length = n * size) : Reads V V.heap.size size (some ⟨g, 0, none⟩) n xs :=
  ⟨hl, fun _ => ⟨_, rfl, h.lt, fun j u hj => by
    rw [at_add, Nat.zero_add, h.cell j]
    subst hx
    simpa using hj⟩⟩
/-- A block that may have been made of a text. -/
def BlkM (w : World) (g : Nat) (t : TypeId) (cs : Array Value) : Prop := ∃ fr, w.heap[g]? = some (.cells cs t fr)
theorem BlkM.lt {V : World} {g : Nat} {t : TypeId} {cs : Array Value} (h : BlkM V g t cs) : g < V.heap.size := by
  obtain ⟨fr, h⟩ := h
  exact (Array.getElem?_eq_some_iff.1 h).1
theorem BlkM.below {V V' : World} {B g : Nat} {t : TypeId} {cs : Array Value} (h : BlkM V g t cs) (hb : Below B V V') (hg : g < B) : BlkM V' g t cs := by
  obtain ⟨fr, h⟩ := h
  exact ⟨fr, (hb.block g hg).trans h⟩
theorem reads_blkM {V : World} {g size n : Nat} {t : TypeId} {cs : Array Value} {xs : List Value} (h : BlkM V g t cs) (hx : cs.toList = xs) (hl : xs.length = n * size) : Reads V V.heap.size size (some ⟨g, 0, none⟩) n xs :=
  ⟨hl, fun _ => ⟨_, rfl, h.lt, fun j u hj => by
    obtain ⟨fr, h⟩ := h
    rw [at_add, Nat.zero_add, cell_of_row V g j cs t fr h]
    subst hx
    simpa using hj⟩⟩
/-- The law's tree, its second node with k links. -/
def treeN (k : Int) : List ND := [⟨2, 7, 1, [], [⟨[97], 1⟩, ⟨[100], 2⟩, ⟨[108], 3⟩], []⟩, ⟨1, 6, k, [104, 105], [], []⟩, ⟨2, 7, 1, [], [⟨[120], 1⟩], []⟩, ⟨3, 7, 1, [], [], [100]⟩]
def treeL (g : Nat) (k : Int) : List DV := [⟨⟨2, 7, 1, [], [⟨[97], 1⟩, ⟨[100], 2⟩, ⟨[108], 3⟩], []⟩, none, 0, 0, some ⟨g + 1, 0, none⟩, 3, 3⟩, ⟨⟨1, 6, k, [104, 105], [], []⟩, some ⟨g + 2, 0, none⟩, 2, 2, none, 0, 0⟩, ⟨⟨2, 7, 1, [], [⟨[120], 1⟩], []⟩, none, 0, 0, some ⟨g + 3, 0, none⟩, 1, 1⟩, ⟨⟨3, 7, 1, [], [], [100]⟩, none, 0, 0, none, 0, 0⟩]
theorem treeL_nds (g : Nat) (k : Int) : nds (treeL g k) = treeN k := rfl
theorem tree_few (g : Nat) (k : Int) : FewB (treeL g k) := by
  refine ⟨Nat.le_of_ble_eq_true rfl, fun x hx => ?_, ?_⟩
  · unfold treeL at hx
    simp only [List.mem_cons, List.not_mem_nil, or_false] at hx
    rcases hx with rfl | rfl | rfl | rfl
    all_goals (constructor <;> simp)
  · exact Nat.le_of_ble_eq_true rfl
structure TreeB (V : World) (g : Nat) (k : Int) : Prop where
  a : Blk V (g + 1) 54 (ncs [⟨[97], 1⟩, ⟨[100], 2⟩, ⟨[108], 3⟩]).toArray
  b : BlkM V (g + 2) 5 (bv [104, 105]).toArray
  c : Blk V (g + 3) 54 (ncs [⟨[120], 1⟩]).toArray
  d : Blk V (g + 4) 49 (dcs (treeL g k)).toArray
theorem TreeB.below {V V' : World} {g : Nat} {k : Int} (h : TreeB V g k) (hb : Below V.heap.size V V') : TreeB V' g k := ⟨h.a.below hb h.a.lt, h.b.below hb h.b.lt, h.c.below hb h.c.lt, h.d.below hb h.d.lt⟩
theorem TreeB.fs {V : World} {g : Nat} {k : Int} (h : TreeB V g k) : FsR V V.heap.size (some ⟨g + 4, 0, none⟩) 4 (treeL g k) := by
  refine ⟨reads_blk h.d rfl rfl, fun x hx => ?_⟩
  unfold treeL at hx
  simp only [List.mem_cons, List.not_mem_nil, or_false] at hx
  rcases hx with rfl | rfl | rfl | rfl
  · exact ⟨Reads.none_, reads_blk h.a rfl rfl⟩
  · exact ⟨reads_blkM h.b rfl rfl, Reads.none_⟩
  · exact ⟨Reads.none_, reads_blk h.c rfl rfl⟩
  · exact ⟨Reads.none_, Reads.none_⟩
theorem allocs5 (w : World) (a b c d e : Obj) : (((((w.alloc a).alloc b).alloc c).alloc d).alloc e).heap[w.heap.size]? = some a ∧ (((((w.alloc a).alloc b).alloc c).alloc d).alloc e).heap[w.heap.size + 1]? = some b ∧ (((((w.alloc a).alloc b).alloc c).alloc d).alloc e).heap[w.heap.size + 2]? = some c ∧ (((((w.alloc a).alloc b).alloc c).alloc d).alloc e).heap[w.heap.size + 3]? = some d ∧ (((((w.alloc a).alloc b).alloc c).alloc d).alloc e).heap[w.heap.size + 4]? = some e ∧ Below w.heap.size w (((((w.alloc a).alloc b).alloc c).alloc d).alloc e) := by
  have n1 := heap_alloc_new w a
  have n2 := heap_alloc_new (w.alloc a) b
  have n3 := heap_alloc_new ((w.alloc a).alloc b) c
  have n4 := heap_alloc_new (((w.alloc a).alloc b).alloc c) d
  have n5 := heap_alloc_new ((((w.alloc a).alloc b).alloc c).alloc d) e
  simp only [World.size_alloc] at n2 n3 n4 n5
  have q : ∀ (W : World) (o : Obj) (g : Nat), g < W.heap.size → (W.alloc o).heap[g]? = W.heap[g]? := fun W o g h => Below.heap_alloc W o g h
  refine ⟨?_, ?_, ?_, ?_, n5, ((((on_alloc w _).alloc (by simp) _).alloc (by simp; omega) _).alloc (by simp; omega) _).alloc (by simp; omega) _⟩
  · rw [q _ _ _ (by simp only [World.size_alloc]; omega), q _ _ _ (by simp only [World.size_alloc]; omega), q _ _ _ (by simp only [World.size_alloc]; omega), q _ _ _ (by simp only [World.size_alloc]; omega)]; exact n1
  · rw [q _ _ _ (by simp only [World.size_alloc]; omega), q _ _ _ (by simp only [World.size_alloc]; omega), q _ _ _ (by simp only [World.size_alloc]; omega)]; exact n2
  · rw [q _ _ _ (by simp only [World.size_alloc]; omega), q _ _ _ (by simp only [World.size_alloc]; omega)]; exact n3
  · rw [q _ _ _ (by simp only [World.size_alloc]; omega)]; exact n4
set_option maxRecDepth 100000 in
set_option maxHeartbeats 4000000 in
theorem lawtree_any (w : World) : Calls Try.prog 26 #[] w fun e w' => e = .returned (.agg #[.slice (some ⟨w.heap.size + 4, 0, none⟩) 4 4]) ∧ TreeB w' w.heap.size 2 ∧ Below w.heap.size w w' := by
  have kd := Go.Joins.run_convert_bytes_const_at (P := Try.prog) ((w.alloc (.cells #[Value.slice none 0 0] 24)).alloc (.cells #[Value.string ⟨#[97]⟩, .int .i64 1, .string ⟨#[100]⟩, .int .i64 2, .string ⟨#[108]⟩, .int .i64 3] 54)) 46 5 #[.int .u8 104, .int .u8 105] 2 2 (w.heap.size + 1 + 1) (by simp) Try.underlying46 Try.underlying5
  go_enter Try.func26, Try.ntmps26
  go_wp2_with fail
  obtain ⟨h0, h1, h2, h3, h4, hb⟩ := allocs5 w (.cells #[Value.slice (some ⟨w.heap.size + 1 + 1 + 1 + 1, 0, none⟩) 4 4] 24) (.cells #[Value.string ⟨#[97]⟩, .int .i64 1, .string ⟨#[100]⟩, .int .i64 2, .string ⟨#[108]⟩, .int .i64 3] 54) (.cells #[Value.int .u8 104, .int .u8 105] 5 (2, 3)) (.cells #[Value.string ⟨#[120]⟩, .int .i64 1] 54) (.cells (dcs (treeL w.heap.size 2)).toArray 49)
  have HA := hide (And.intro h1 (And.intro h2 (And.intro h3 (And.intro h4 hb))))
  have k0 := one_ (t := 24) h0
  simp only [dcs, treeL, DV.cs, List.cons_append, List.nil_append, List.append_nil] at k0
  clear h0 h1 h2 h3 h4 hb kd
  refine bodyPost_ret (v := .agg #[.slice (some ⟨w.heap.size + 4, 0, none⟩) 4 4]) (by simp only [results, Try.results26]; go_simp) rfl ⟨rfl, ?_⟩
  obtain ⟨h1, h2, h3, h4, hb⟩ := HA.out
  exact ⟨⟨h1, ⟨_, h2⟩, h3, h4⟩, hb⟩
end Go.Proofs.Ytnhfpaobocbieaa
