/- What heads goes through, plain; the contracts at these file systems. -/
import Derived.Test.YtlcoapignfmgcaaGreatDoorNmSb
namespace Go.Proofs.YtlcoapignfmgcaaGreatDoor
open Go.RowKit
set_option linter.unusedVariables false
def fewNb (n : ND) : Bool := decide (n.data.length ≤ 5000) && decide (n.to.length ≤ 600) && decide (n.names.length ≤ 200) && n.names.all fun y => decide (y.name.length ≤ 300)
def fewLb (l : List ND) : Bool := decide (l.length ≤ 100) && l.all fewNb && decide ((allNames l).length ≤ 300)
theorem fewN_of {x : DV} (h : fewNb x.r = true) : FewN x := by
  unfold fewNb at h
  simp only [Bool.and_eq_true, decide_eq_true_eq, List.all_eq_true] at h
  exact ⟨h.1.1.1, h.1.1.2, h.1.2, h.2⟩
theorem upto_all (X : List DV) : upto X X.length = (allNames (nds X)).length := by
  unfold upto
  rw [List.take_length, allNames_length]
  unfold nds
  rw [List.map_map]
  rfl
theorem fewB_of {X : List DV} {K : List ND} (hX : nds X = K) (h : fewLb K = true) : FewB X := by
  unfold fewLb at h
  simp only [Bool.and_eq_true, decide_eq_true_eq, List.all_eq_true] at h
  refine ⟨?_, fun x hx => fewN_of (h.1.2 _ ?_), ?_⟩
  · rw [← nds_length, hX]; exact h.1.1
  · rw [← hX]; unfold nds; exact List.mem_map.2 ⟨x, hx, rfl⟩
  · rw [upto_all, hX]; exact h.2
def K0 : List ND := [⟨2, 7, 1, [], [], []⟩]
theorem few0 : fewLb K0 = true := by kernel_rfl
def K1 : List ND := [⟨2, 7, 1, [], [⟨[100], 1⟩], []⟩, ⟨2, 7, 1, [], [], []⟩]
theorem few1 : fewLb K1 = true := by kernel_rfl
def K2 : List ND := [⟨2, 7, 1, [], [⟨[100], 1⟩], []⟩, ⟨2, 7, 1, [], [⟨[97], 2⟩], []⟩, ⟨1, 6, 1, [], [], []⟩]
theorem few2 : fewLb K2 = true := by kernel_rfl
def K3 : List ND := [⟨2, 7, 1, [], [⟨[100], 1⟩], []⟩, ⟨2, 7, 1, [], [⟨[97], 2⟩], []⟩, ⟨1, 6, 1, [0, 0, 120, 121], [], []⟩]
theorem few3 : fewLb K3 = true := by kernel_rfl
def K4 : List ND := [⟨2, 7, 1, [], [⟨[98], 2⟩, ⟨[100], 1⟩], []⟩, ⟨2, 7, 1, [], [], []⟩, ⟨1, 6, 1, [0, 0, 120, 121], [], []⟩]
theorem few4 : fewLb K4 = true := by kernel_rfl
def K5 : List ND := [⟨2, 7, 1, [], [⟨[98], 2⟩, ⟨[100], 1⟩], []⟩, ⟨2, 7, 1, [], [⟨[99], 2⟩], []⟩, ⟨1, 6, 2, [0, 0, 120, 121], [], []⟩]
theorem few5 : fewLb K5 = true := by kernel_rfl
def K6 : List ND := [⟨2, 7, 1, [], [⟨[100], 1⟩], []⟩, ⟨2, 7, 1, [], [⟨[99], 2⟩], []⟩, ⟨1, 6, 1, [0, 0, 120, 121], [], []⟩]
theorem few6 : fewLb K6 = true := by kernel_rfl
def K7 : List ND := [⟨2, 7, 1, [], [⟨[100], 1⟩], []⟩, ⟨2, 7, 1, [], [⟨[99], 2⟩], []⟩, ⟨1, 6, 1, [], [], []⟩]
theorem few7 : fewLb K7 = true := by kernel_rfl
theorem hd1 : createP K0 0 [100] ⟨2, 7, 0, [], [], []⟩ = (K1, 1, 0) := by kernel_rfl
theorem hd2 : createP K1 1 [97] ⟨1, 6, 0, [], [], []⟩ = (K2, 2, 0) := by kernel_rfl
theorem hd3 : writeP K2 2 2 [120, 121] = (K3, 2, 0) := by kernel_rfl
theorem hd4 : readP K3 2 1 9 = ([0, 120, 121], 0) := by kernel_rfl
theorem hd5 : renameP K3 0 [100] 1 [120] = (K3, 32) := by kernel_rfl
theorem hd6 : renameP K3 1 [97] 0 [98] = (K4, 0) := by kernel_rfl
theorem hd7 : linkP K4 2 1 [99] = (K5, 0) := by kernel_rfl
theorem hd8 : unlinkP K5 0 [100] = (K5, 26) := by kernel_rfl
theorem hd9 : unlinkP K5 0 [98] = (K6, 0) := by kernel_rfl
theorem hd10 : truncP K6 2 = (K7, 0) := by kernel_rfl
theorem hd11 : createP K7 0 [100] ⟨1, 0, 0, [], [], []⟩ = (K7, 0, 21) := by kernel_rfl
theorem hd12 : checkB K7 = true := by kernel_rfl
/-- The file system of heads, in its box. -/
structure Hd (w V : World) (fb : Nat) (L : Option Addr) (n c : Nat) (X : List DV) (K : List ND) : Prop where
  blk : Blk V fb 24 #[.slice L n c]
  fs : FsR V V.heap.size L n X
  nd : nds X = K
  bl : Below w.heap.size w V
  hi : w.heap.size ≤ fb
  cap : ∀ x ∈ X, x.dn ≤ x.dc
section
variable {w V V' : World} {fb : Nat} {L L' : Option Addr} {n c n' c' : Nat} {X X' : List DV} {K K' : List ND}
theorem Hd.below (h : Hd w V fb L n c X K) (hb : Below V.heap.size V V') : Hd w V' fb L n c X K :=
  ⟨h.blk.below hb h.blk.lt, (h.fs.below hb).more hb.size, h.nd, h.bl.trans (hb.mono h.bl.size), h.hi, h.cap⟩
theorem Hd.put (h : Hd w V fb L n c X K) (hO : OF V.heap.size V' L' n' c' X') (hR : nds X' = K') (hb : Below V.heap.size V V') : Hd w (V'.setCell ⟨fb, 0, none⟩ (.slice L' n' c')) fb L' n' c' X' K' := by
  have hlt := h.blk.lt
  have hs : Blk (V'.setCell ⟨fb, 0, none⟩ (.slice L' n' c')) fb 24 #[.slice L' n' c'] := Blk.set_ (h.blk.below hb hlt) 0 (.slice L' n' c')
  have hO2 := hO.far (p := ⟨fb, 0, none⟩) hlt (.slice L' n' c')
  exact ⟨hs, hO2.fs, hR, (h.bl.trans (hb.mono h.bl.size)).setCell (p := ⟨fb, 0, none⟩) h.hi _, h.hi, fun x hx => (hO.lo x hx).2.2.1⟩
theorem Hd.out (h : Hd w V fb L n c X K) : w.heap.size ≤ V.heap.size := h.bl.size
end
theorem node_ok_nil (V : World) (k m : Int) : DVok V V.heap.size ⟨⟨k, m, 0, [], [], []⟩, none, 0, 0, none, 0, 0⟩ := ⟨Reads.none_, Reads.none_⟩
theorem node_few (k m : Int) : FewN ⟨⟨k, m, 0, [], [], []⟩, none, 0, 0, none, 0, 0⟩ := ⟨by simp, by simp, by simp, fun y hy => by cases hy⟩
theorem cr1 {w V : World} {fb : Nat} {L : Option Addr} {n c : Nat} {X : List DV} (h : Hd w V fb L n c X K0) : Calls Tryz.prog 9 #[.agg #[.slice L n c], .int .i64 0, .string ⟨#[100]⟩, .agg #[.int .i64 2, .int .i64 7, .int .i64 0, .slice none 0 0, .slice none 0 0, .string ⟨#[]⟩]] V fun e w' => ∃ L' n' c' X', e = .returned (.tuple #[.agg #[.slice L' n' c'], .int .i64 1, .int .i64 0]) ∧ OF V.heap.size w' L' n' c' X' ∧ nds X' = K1 ∧ Below V.heap.size V w' := by
  have X := create_c L n c X 0 [100] ⟨⟨2, 7, 0, [], [], []⟩, none, 0, 0, none, 0, 0⟩ V h.fs (fewB_of h.nd few0) (by simp) (node_ok_nil V 2 7) (node_few 2 7).t
  rw [h.nd, hd1] at X
  exact X
theorem cr2 {w V : World} {fb : Nat} {L : Option Addr} {n c : Nat} {X : List DV} (h : Hd w V fb L n c X K1) : Calls Tryz.prog 9 #[.agg #[.slice L n c], .int .i64 1, .string ⟨#[97]⟩, .agg #[.int .i64 1, .int .i64 6, .int .i64 0, .slice none 0 0, .slice none 0 0, .string ⟨#[]⟩]] V fun e w' => ∃ L' n' c' X', e = .returned (.tuple #[.agg #[.slice L' n' c'], .int .i64 2, .int .i64 0]) ∧ OF V.heap.size w' L' n' c' X' ∧ nds X' = K2 ∧ Below V.heap.size V w' := by
  have X := create_c L n c X 1 [97] ⟨⟨1, 6, 0, [], [], []⟩, none, 0, 0, none, 0, 0⟩ V h.fs (fewB_of h.nd few1) (by simp) (node_ok_nil V 1 6) (node_few 1 6).t
  rw [h.nd, hd2] at X
  exact X
theorem wr3 {w V : World} {fb : Nat} {L : Option Addr} {n c : Nat} {X : List DV} (h : Hd w V fb L n c X K2) {A : Option Addr} (hA : Rd V A 2 [120, 121]) : Calls Tryz.prog 18 #[.agg #[.slice L n c], .int .i64 2, .int .i64 2, .slice A 2 2] V fun e w' => ∃ L' n' c' X', e = .returned (.tuple #[.agg #[.slice L' n' c'], .int .i64 2, .int .i64 0]) ∧ OF V.heap.size w' L' n' c' X' ∧ nds X' = K3 ∧ Below V.heap.size V w' := by
  have X := write_c L n c X 2 2 A 2 2 [120, 121] V h.fs (fewB_of h.nd few2) hA (by omega)
  rw [h.nd, hd3] at X
  exact X
theorem rd4 {w V : World} {fb : Nat} {L : Option Addr} {n c : Nat} {X : List DV} (h : Hd w V fb L n c X K3) : Calls Tryz.prog 20 #[.agg #[.slice L n c], .int .i64 2, .int .i64 1, .int .i64 9] V fun e w' => ∃ A n c, e = .returned (.tuple #[.slice A n c, .int .i64 0]) ∧ w'.ownsRow V.heap.size 5 1 (.slice A n c) n (bv [0, 120, 121]) ∧ Below V.heap.size V w' := by
  have X := read_c L n c X 2 1 9 V h.fs (fewB_of h.nd few3) h.cap
  rw [h.nd, hd4] at X
  exact X
theorem rn5 {w V : World} {fb : Nat} {L : Option Addr} {n c : Nat} {X : List DV} (h : Hd w V fb L n c X K3) (hS : Std V) : Calls Tryz.prog 16 #[.agg #[.slice L n c], .int .i64 0, .string ⟨#[100]⟩, .int .i64 1, .string ⟨#[120]⟩] V fun e w' => ∃ L' n' c' X', e = .returned (.tuple #[.agg #[.slice L' n' c'], .int .i64 32]) ∧ OF V.heap.size w' L' n' c' X' ∧ nds X' = K3 ∧ Below V.heap.size V w' := by
  have X := rename_c L n c X 0 1 [100] [120] V hS h.fs (fewB_of h.nd few3) (by simp)
  rw [h.nd, hd5] at X
  exact X
theorem rn6 {w V : World} {fb : Nat} {L : Option Addr} {n c : Nat} {X : List DV} (h : Hd w V fb L n c X K3) (hS : Std V) : Calls Tryz.prog 16 #[.agg #[.slice L n c], .int .i64 1, .string ⟨#[97]⟩, .int .i64 0, .string ⟨#[98]⟩] V fun e w' => ∃ L' n' c' X', e = .returned (.tuple #[.agg #[.slice L' n' c'], .int .i64 0]) ∧ OF V.heap.size w' L' n' c' X' ∧ nds X' = K4 ∧ Below V.heap.size V w' := by
  have X := rename_c L n c X 1 0 [97] [98] V hS h.fs (fewB_of h.nd few3) (by simp)
  rw [h.nd, hd6] at X
  exact X
theorem ln7 {w V : World} {fb : Nat} {L : Option Addr} {n c : Nat} {X : List DV} (h : Hd w V fb L n c X K4) : Calls Tryz.prog 11 #[.agg #[.slice L n c], .int .i64 2, .int .i64 1, .string ⟨#[99]⟩] V fun e w' => ∃ L' n' c' X', e = .returned (.tuple #[.agg #[.slice L' n' c'], .int .i64 0]) ∧ OF V.heap.size w' L' n' c' X' ∧ nds X' = K5 ∧ Below V.heap.size V w' := by
  have X := link_c L n c X 2 1 [99] V h.fs (fewB_of h.nd few4) (by simp)
  rw [h.nd, hd7] at X
  exact X
theorem ul8 {w V : World} {fb : Nat} {L : Option Addr} {n c : Nat} {X : List DV} (h : Hd w V fb L n c X K5) : Calls Tryz.prog 13 #[.agg #[.slice L n c], .int .i64 0, .string ⟨#[100]⟩] V fun e w' => ∃ L' n' c' X', e = .returned (.tuple #[.agg #[.slice L' n' c'], .int .i64 26]) ∧ OF V.heap.size w' L' n' c' X' ∧ nds X' = K5 ∧ Below V.heap.size V w' := by
  have X := unlink_c L n c X 0 [100] V h.fs (fewB_of h.nd few5)
  rw [h.nd, hd8] at X
  exact X
theorem ul9 {w V : World} {fb : Nat} {L : Option Addr} {n c : Nat} {X : List DV} (h : Hd w V fb L n c X K5) : Calls Tryz.prog 13 #[.agg #[.slice L n c], .int .i64 0, .string ⟨#[98]⟩] V fun e w' => ∃ L' n' c' X', e = .returned (.tuple #[.agg #[.slice L' n' c'], .int .i64 0]) ∧ OF V.heap.size w' L' n' c' X' ∧ nds X' = K6 ∧ Below V.heap.size V w' := by
  have X := unlink_c L n c X 0 [98] V h.fs (fewB_of h.nd few5)
  rw [h.nd, hd9] at X
  exact X
theorem tr10 {w V : World} {fb : Nat} {L : Option Addr} {n c : Nat} {X : List DV} (h : Hd w V fb L n c X K6) : Calls Tryz.prog 22 #[.agg #[.slice L n c], .int .i64 2] V fun e w' => ∃ L' n' c' X', e = .returned (.tuple #[.agg #[.slice L' n' c'], .int .i64 0]) ∧ OF V.heap.size w' L' n' c' X' ∧ nds X' = K7 ∧ Below V.heap.size V w' := by
  have X := trunc_c L n c X 2 V h.fs (fewB_of h.nd few6)
  rw [h.nd, hd10] at X
  exact X
theorem cr11 {w V : World} {fb : Nat} {L : Option Addr} {n c : Nat} {X : List DV} (h : Hd w V fb L n c X K7) : Calls Tryz.prog 9 #[.agg #[.slice L n c], .int .i64 0, .string ⟨#[100]⟩, .agg #[.int .i64 1, .int .i64 0, .int .i64 0, .slice none 0 0, .slice none 0 0, .string ⟨#[]⟩]] V fun e w' => ∃ L' n' c' X', e = .returned (.tuple #[.agg #[.slice L' n' c'], .int .i64 0, .int .i64 21]) ∧ OF V.heap.size w' L' n' c' X' ∧ nds X' = K7 ∧ Below V.heap.size V w' := by
  have X := create_c L n c X 0 [100] ⟨⟨1, 0, 0, [], [], []⟩, none, 0, 0, none, 0, 0⟩ V h.fs (fewB_of h.nd few7) (by simp) (node_ok_nil V 1 0) (node_few 1 0).t
  rw [h.nd, hd11] at X
  exact X
theorem ck12 {w V : World} {fb : Nat} {L : Option Addr} {n c : Nat} {X : List DV} (h : Hd w V fb L n c X K7) : Calls Tryz.prog 26 #[.agg #[.slice L n c]] V fun e w' => e = .returned (.bool true) ∧ Below V.heap.size V w' := by
  have X := rcheck_any L n c X V h.fs (fewB_of h.nd few7)
  rw [h.nd, hd12] at X
  exact X
end Go.Proofs.YtlcoapignfmgcaaGreatDoor
