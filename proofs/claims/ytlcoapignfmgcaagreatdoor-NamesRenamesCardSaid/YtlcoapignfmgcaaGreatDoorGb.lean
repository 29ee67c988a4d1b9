/- Layer 14 on plain lists: nodes, their counts, the walk of the tree, how deep it goes. Nodes in memory. The document's Few at any file system. -/
import Derived.Test.YtlcoapignfmgcaaGreatDoorGa
namespace Go.Proofs.YtlcoapignfmgcaaGreatDoor
set_option linter.unusedVariables false
structure NM where
  name : List UInt8
  node : Int
structure ND where
  kind : Int
  mode : Int
  links : Int
  data : List UInt8
  names : List NM
  to : List UInt8
def nd0 : ND := ⟨0, 0, 0, [], [], []⟩
def ndAt (l : List ND) (i : Int) : ND := l.getD i.toNat nd0
def isDir (l : List ND) (i : Int) : Bool := (ndAt l i).kind == 2
def inL (s : List UInt8) (c : UInt8) : Bool := s.contains c
/-- May a text be a name? -/
def nameB (s : List UInt8) : Bool := !(s.isEmpty || s == [46] || s == [46, 46] || s.contains 47 || s.contains 0) && decide (s.length ≤ 32)
def namesFrom (c : Int) : Option (List UInt8) → List NM → Bool
  | _, [] => true
  | prev, x :: t => nameB x.name && (decide (0 ≤ x.node) && decide (x.node < c)) && (match prev with | none => true | some p => decide (p < x.name)) && namesFrom c (some x.name) t
def nodeB (n : ND) (c : Int) : Bool :=
  (decide (0 ≤ n.mode) && decide (n.mode ≤ 7)) &&
  (if n.kind = 1 then decide (n.data.length ≤ 4096) && n.names.isEmpty && n.to.isEmpty
   else if n.kind = 2 then namesFrom c none n.names && n.data.isEmpty && n.to.isEmpty
   else if n.kind = 3 then (decide (1 ≤ n.to.length) && decide (n.to.length ≤ 256) && !(n.to.contains 0)) && n.data.isEmpty && n.names.isEmpty
   else false)
def allNames (l : List ND) : List NM := l.flatMap (·.names)
def cnt (l : List ND) (i : Int) : Nat := (allNames l).countP fun x => x.node == i
def linkB (l : List ND) (i : Nat) : Bool :=
  if i = 0 then decide ((ndAt l 0).kind = 2) && decide ((ndAt l 0).links = 1) && decide (cnt l 0 = 0)
  else decide ((ndAt l i).links = (cnt l i : Int)) && !(decide ((ndAt l i).kind = 2) && (decide (1 < (ndAt l i).links) || (decide ((ndAt l i).links = 0) && !(ndAt l i).names.isEmpty)))
def linksB (l : List ND) : Bool := (List.range l.length).all (linkB l)
/-- A step of the walk: the directory, the name, its node, the names that led to the directory. -/
structure ST where
  dir : Int
  name : List UInt8
  node : Int
  up : List (List UInt8)
def wk (l : List ND) : Nat → List (List UInt8) → Int → List ST
  | 0, _, _ => []
  | k + 1, up, d => (ndAt l d).names.flatMap fun n => ⟨d, n.name, n.node, up⟩ :: (if isDir l n.node = true then wk l k (up ++ [n.name]) n.node else [])
def named (l : List ND) : Nat := l.countP fun n => n.kind == 2 && decide (0 < n.links)
def reached (l : List ND) : Nat := 1 + (wk l l.length [] 0).countP fun s => isDir l s.node
/-- Is every directory with a name reached (as the program counts: in 64 bits)? -/
def treeB (l : List ND) : Bool := decide (IntKind.i64.wrap (reached l : Int) = (named l : Int))
def checkB (l : List ND) : Bool := (decide (1 ≤ l.length) && decide (l.length ≤ 256)) && l.all (fun n => nodeB n l.length) && linksB l && treeB l
/-- How deep the walk goes below a directory. -/
def Deep (l : List ND) : Nat → Int → Prop
  | 0, _ => False
  | k + 1, d => ∀ n ∈ (ndAt l d).names, isDir l n.node = true → Deep l k n.node
/-- Every name's node is one. -/
def RefsOk (l : List ND) : Prop := ∀ d ∈ l, ∀ n ∈ d.names, 0 ≤ n.node ∧ n.node < (l.length : Int)
theorem namesFrom_refs (c : Int) : ∀ (t : List NM) (p : Option (List UInt8)), namesFrom c p t = true → ∀ n ∈ t, 0 ≤ n.node ∧ n.node < c
  | [], _, _, n, hn => by cases hn
  | x :: t, p, h, n, hn => by
    simp only [namesFrom, Bool.and_eq_true, decide_eq_true_eq] at h
    rcases List.mem_cons.1 hn with rfl | hn
    · exact h.1.1.2
    · exact namesFrom_refs c t _ h.2 n hn
theorem nodeB_refs {n : ND} {c : Int} (h : nodeB n c = true) : ∀ x ∈ n.names, 0 ≤ x.node ∧ x.node < c := by
  unfold nodeB at h
  simp only [Bool.and_eq_true] at h
  obtain ⟨-, h⟩ := h
  intro x hx
  split at h
  · simp only [Bool.and_eq_true, List.isEmpty_iff] at h
    rw [h.1.2] at hx; cases hx
  · split at h
    · simp only [Bool.and_eq_true] at h
      exact namesFrom_refs c _ _ h.1.1 x hx
    · split at h
      · simp only [Bool.and_eq_true, List.isEmpty_iff] at h
        rw [h.2] at hx; cases hx
      · cases h
theorem refs_of {l : List ND} (h : ∀ n ∈ l, nodeB n l.length = true) : RefsOk l := fun d hd => nodeB_refs (h d hd)
/-- Two of n + 1 numbers below n are the same. -/
theorem pigeon : ∀ (n : Nat) (f : Nat → Nat), (∀ i, i ≤ n → f i < n) → ∃ i j, i < j ∧ j ≤ n ∧ f i = f j
  | 0, f, h => absurd (h 0 (Nat.le_refl _)) (by omega)
  | n + 1, f, h => by
    by_cases hv : ∃ i, i ≤ n ∧ f i = f (n + 1)
    · obtain ⟨i, hi, e⟩ := hv
      exact ⟨i, n + 1, by omega, Nat.le_refl _, e⟩
    · have hv2 : ∀ i, i ≤ n → f i ≠ f (n + 1) := fun i hi e => hv ⟨i, hi, e⟩
      obtain ⟨i, j, hij, hj, e⟩ := pigeon n (fun i => if f (n + 1) < f i then f i - 1 else f i) (fun i hi => by
        have h1 := h i (by omega); have h2 := h (n + 1) (Nat.le_refl _); have h3 := hv2 i hi
        (try dsimp only); split <;> omega)
      refine ⟨i, j, hij, by omega, ?_⟩
      have h1 := hv2 i (by omega); have h2 := hv2 j hj
      (try dsimp only at e)
      split at e <;> split at e <;> omega
theorem cnt_two {l : List ND} {a b : Nat} (hab : a < b) (hb : b < l.length) {d : Int} {x y : NM} (hx : x ∈ (l.getD a nd0).names) (hy : y ∈ (l.getD b nd0).names) (ex : x.node = d) (ey : y.node = d) : 2 ≤ cnt l d := by
  unfold cnt allNames
  have e : l = l.take b ++ l.drop b := (List.take_append_drop b l).symm
  have h1 : 1 ≤ ((l.take b).flatMap (·.names)).countP fun x => x.node == d := by
    refine List.countP_pos_iff.2 ⟨x, ?_, by simp [ex]⟩
    refine List.mem_flatMap.2 ⟨l.getD a nd0, ?_, hx⟩
    rw [List.getD_eq_getElem?_getD, List.getElem?_eq_getElem (by omega)]
    simp only [Option.getD_some]
    exact List.mem_take_iff_getElem.2 ⟨a, by omega, rfl⟩
  have h2 : 1 ≤ ((l.drop b).flatMap (·.names)).countP fun x => x.node == d := by
    refine List.countP_pos_iff.2 ⟨y, ?_, by simp [ey]⟩
    refine List.mem_flatMap.2 ⟨l.getD b nd0, ?_, hy⟩
    rw [List.getD_eq_getElem?_getD, List.getElem?_eq_getElem hb]
    simp only [Option.getD_some]
    exact List.mem_drop_iff_getElem.2 ⟨0, by omega, by simp⟩
  rw [e, List.flatMap_append, List.countP_append]
  omega
theorem cnt_one {l : List ND} {a : Nat} (ha : a < l.length) {d : Int} {x : NM} (hx : x ∈ (l.getD a nd0).names) (ex : x.node = d) : 1 ≤ cnt l d := by
  unfold cnt allNames
  refine List.countP_pos_iff.2 ⟨x, List.mem_flatMap.2 ⟨l.getD a nd0, ?_, hx⟩, by simp [ex]⟩
  rw [List.getD_eq_getElem?_getD, List.getElem?_eq_getElem ha]
  exact List.getElem_mem _
theorem ndAt_out {l : List ND} {i : Int} (h : l.length ≤ i.toNat) : (ndAt l i).names = [] := by
  unfold ndAt
  rw [List.getD_eq_getElem?_getD, List.getElem?_eq_none h]; rfl
theorem ndAt_mem {l : List ND} {i : Int} {x : NM} (h : x ∈ (ndAt l i).names) : i.toNat < l.length ∧ ndAt l i ∈ l := by
  have hl : i.toNat < l.length := by
    rcases Nat.lt_or_ge i.toNat l.length with h1 | h1
    · exact h1
    · rw [ndAt_out h1] at h; cases h
  refine ⟨hl, ?_⟩
  unfold ndAt
  rw [List.getD_eq_getElem?_getD, List.getElem?_eq_getElem hl]
  exact List.getElem_mem _
/-- A directory's directory. -/
def Child (l : List ND) (a b : Int) : Prop := isDir l b = true ∧ ∃ x ∈ (ndAt l a).names, x.node = b
theorem chain_of : ∀ (l : List ND) (k : Nat) (d : Int), ¬ Deep l k d → ∃ f : Nat → Int, f 0 = d ∧ ∀ i, i < k → Child l (f i) (f (i + 1))
  | l, 0, d, _ => ⟨fun _ => d, rfl, fun i h => absurd h (by omega)⟩
  | l, k + 1, d, h => by
    have h2 : ∃ n ∈ (ndAt l d).names, isDir l n.node = true ∧ ¬ Deep l k n.node := by
      refine Classical.byContradiction fun hn => h fun n hm hd => Classical.byContradiction fun hk => hn ⟨n, hm, hd, hk⟩
    obtain ⟨n, hm, hd, hk⟩ := h2
    obtain ⟨f, f0, hf⟩ := chain_of l k n.node hk
    refine ⟨fun i => match i with | 0 => d | i + 1 => f i, rfl, fun i hi => ?_⟩
    match i with
    | 0 => exact ⟨by simp only [f0]; exact hd, n, hm, f0.symm⟩
    | i + 1 => exact hf i (by omega)
theorem child_in {l : List ND} (hr : RefsOk l) {a b : Int} (h : Child l a b) : 0 ≤ b ∧ b.toNat < l.length ∧ a.toNat < l.length := by
  obtain ⟨_, x, hx, rfl⟩ := h
  obtain ⟨h1, h2⟩ := ndAt_mem hx
  have := hr _ h2 x hx
  omega
theorem child_up {l : List ND} (hr : RefsOk l) (h1 : ∀ i : Int, isDir l i = true → cnt l i ≤ 1) {a b d : Int} (ha : 0 ≤ a) (hb : 0 ≤ b) (h : Child l a d) (k : Child l b d) : a = b := by
  obtain ⟨hd, x, hx, ex⟩ := h
  obtain ⟨_, y, hy, ey⟩ := k
  obtain ⟨la, _⟩ := ndAt_mem hx
  obtain ⟨lb, _⟩ := ndAt_mem hy
  have := h1 d hd
  rcases Nat.lt_trichotomy a.toNat b.toNat with e | e | e
  · have := cnt_two e lb hx hy ex ey; omega
  · omega
  · have := cnt_two e la hy hx ey ex; omega
theorem chain_apart {l : List ND} (hr : RefsOk l) (h0 : cnt l 0 = 0) (h1 : ∀ i : Int, isDir l i = true → cnt l i ≤ 1) {f : Nat → Int} {k : Nat} (f0 : f 0 = 0) (hf : ∀ i, i < k → Child l (f i) (f (i + 1))) : ∀ i j, i < j → j ≤ k → f i ≠ f j
  | 0, j + 1, _, hj, e => by
    obtain ⟨_, x, hx, ex⟩ := hf j (by omega)
    obtain ⟨la, _⟩ := ndAt_mem hx
    rw [f0] at e
    have := cnt_one la hx (ex.trans e.symm)
    omega
  | i + 1, j + 1, h, hj, e => by
    have ci := hf i (by omega)
    have cj := hf j (by omega)
    have pos : ∀ m, m ≤ k → 0 ≤ f m := fun m hm => by
      match m with
      | 0 => omega
      | m + 1 => exact (child_in hr (hf m (by omega))).1
    refine chain_apart hr h0 h1 f0 hf i j (by omega) (by omega) (child_up hr h1 (pos i (by omega)) (pos j (by omega)) ci (by rw [e]; exact cj))
theorem deep_root {l : List ND} (hp : 0 < l.length) (hr : RefsOk l) (h0 : cnt l 0 = 0) (h1 : ∀ i : Int, isDir l i = true → cnt l i ≤ 1) : Deep l l.length 0 := by
  refine Classical.byContradiction fun hn => ?_
  obtain ⟨f, f0, hf⟩ := chain_of l l.length 0 hn
  have inb : ∀ i, i ≤ l.length → 0 ≤ f i ∧ (f i).toNat < l.length := fun i hi => by
    match i with
    | 0 => rw [f0]; exact ⟨by omega, by simpa using hp⟩
    | m + 1 => have := child_in hr (hf m (by omega)); exact ⟨this.1, this.2.1⟩
  obtain ⟨i, j, hij, hj, e⟩ := pigeon l.length (fun i => (f i).toNat) (fun i hi => (inb i hi).2)
  refine chain_apart hr h0 h1 f0 hf i j hij hj ?_
  have a := inb i (by omega); have b := inb j hj
  (try dsimp only at e)
  omega
end Go.Proofs.YtlcoapignfmgcaaGreatDoor
namespace Go.Proofs.YtlcoapignfmgcaaGreatDoor
open Go.RowKit
set_option linter.unusedVariables false
/-- Names' cells. -/
def ncs : List NM → List Value
  | [] => []
  | x :: l => [.string ⟨x.name.toArray⟩, .int .i64 x.node] ++ ncs l
theorem ncs_length (l : List NM) : (ncs l).length = l.length * 2 := by
  induction l with
  | nil => rfl
  | cons x l ih => rw [ncs, List.length_append, ih, List.length_cons]; simp; omega
theorem ncs_append (a b : List NM) : ncs (a ++ b) = ncs a ++ ncs b := by
  induction a with
  | nil => rfl
  | cons x l ih => simp [ncs, ih]
theorem ncs_at : ∀ (l : List NM) (k j : Nat) (h : k < l.length), j < 2 → (ncs l)[k * 2 + j]? = ([Value.string ⟨l[k].name.toArray⟩, .int .i64 l[k].node] : List Value)[j]?
  | x :: l, 0, j, h, hj => by
    simp only [ncs, Nat.zero_mul, Nat.zero_add]
    rw [List.getElem?_append_left (by simp; omega)]
    rfl
  | x :: l, k + 1, j, h, hj => by
    simp only [ncs]
    rw [List.getElem?_append_right (by simp; omega)]
    have := ncs_at l k j (by simpa using h) hj
    rw [show (k + 1) * 2 + j - ([Value.string ⟨x.name.toArray⟩, .int .i64 x.node] : List Value).length = k * 2 + j by simp; omega, this]
    rfl
/-- A node as it lies in memory. -/
structure DV where
  r : ND
  D : Option Addr
  dn : Nat
  dc : Nat
  M : Option Addr
  mn : Nat
  mc : Nat
def DV.cs (x : DV) : List Value := [.int .i64 x.r.kind, .int .i64 x.r.mode, .int .i64 x.r.links, .slice x.D x.dn x.dc, .slice x.M x.mn x.mc, .string ⟨x.r.to.toArray⟩]
def dcs : List DV → List Value
  | [] => []
  | x :: l => x.cs ++ dcs l
theorem DV.cs_length (x : DV) : x.cs.length = 6 := rfl
theorem dcs_length (l : List DV) : (dcs l).length = l.length * 6 := by
  induction l with
  | nil => rfl
  | cons x l ih => rw [dcs, List.length_append, ih, DV.cs_length, List.length_cons]; omega
theorem dcs_append (a b : List DV) : dcs (a ++ b) = dcs a ++ dcs b := by
  induction a with
  | nil => rfl
  | cons x l ih => simp [dcs, ih]
theorem dcs_at : ∀ (l : List DV) (k j : Nat) (h : k < l.length), j < 6 → (dcs l)[k * 6 + j]? = (l[k].cs)[j]?
  | x :: l, 0, j, h, hj => by
    simp only [dcs, Nat.zero_mul, Nat.zero_add]
    rw [List.getElem?_append_left (by rw [DV.cs_length]; omega)]
    rfl
  | x :: l, k + 1, j, h, hj => by
    simp only [dcs]
    rw [List.getElem?_append_right (by rw [DV.cs_length]; omega)]
    have := dcs_at l k j (by simpa using h) hj
    rw [DV.cs_length, show (k + 1) * 6 + j - 6 = k * 6 + j by omega, this]
    rfl
/-- What a node points to can be read. -/
structure DVok (w : World) (B : Nat) (x : DV) : Prop where
  d : Reads w B 1 x.D x.dn (bv x.r.data)
  n : Reads w B 2 x.M x.mn (ncs x.r.names)
theorem DVok.below {w w' : World} {B : Nat} {x : DV} (h : DVok w B x) (hb : Below B w w') : DVok w' B x := ⟨h.d.below hb, h.n.below hb⟩
theorem DVok.more {w : World} {B C : Nat} {x : DV} (h : DVok w B x) (hb : B ≤ C) : DVok w C x := ⟨h.d.more hb, h.n.more hb⟩
theorem DVok.dl {w : World} {B : Nat} {x : DV} (h : DVok w B x) : x.r.data.length = x.dn := by have := h.d.1; simpa [bv] using this
theorem DVok.nl {w : World} {B : Nat} {x : DV} (h : DVok w B x) : x.r.names.length = x.mn := by have := h.n.1; rw [ncs_length] at this; omega
/-- A file system that can be read. -/
structure FsR (w : World) (B : Nat) (L : Option Addr) (n : Nat) (l : List DV) : Prop where
  rd : Reads w B 6 L n (dcs l)
  ok : ∀ x ∈ l, DVok w B x
theorem FsR.len {w : World} {B : Nat} {L : Option Addr} {n : Nat} {l : List DV} (h : FsR w B L n l) : l.length = n := by have := h.rd.1; rw [dcs_length] at this; omega
theorem FsR.below {w w' : World} {B : Nat} {L : Option Addr} {n : Nat} {l : List DV} (h : FsR w B L n l) (hb : Below B w w') : FsR w' B L n l := ⟨h.rd.below hb, fun x hx => (h.ok x hx).below hb⟩
theorem FsR.more {w : World} {B C : Nat} {L : Option Addr} {n : Nat} {l : List DV} (h : FsR w B L n l) (hb : B ≤ C) : FsR w C L n l := ⟨h.rd.more hb, fun x hx => (h.ok x hx).more hb⟩
theorem cells_of {w : World} {B size n : Nat} {A : Option Addr} {xs : List Value} (h : Reads w B size A n xs) (h0 : 0 < n) (hx : 0 < xs.length) : ∃ g o, A = some ⟨g, o, none⟩ ∧ g < B ∧ ∀ j u, xs[j]? = some u → w.cell? ⟨g, o + j, none⟩ = some u := by
  obtain ⟨ad, rfl, hb, hc⟩ := h.2 h0
  have h00 := hc 0 xs[0] (List.getElem?_eq_getElem hx)
  rw [add_zero_] at h00
  have hs : ad = ⟨ad.block, ad.off, none⟩ := by
    obtain ⟨b, o, s⟩ := ad
    cases s with
    | none => rfl
    | some x =>
      unfold World.cell? at h00
      split at h00 <;> simp at h00
  refine ⟨ad.block, ad.off, by rw [← hs], hb, fun j u hj => ?_⟩
  have := hc j u hj
  rw [hs, at_add] at this
  exact this

/-- The six cells of a node. -/
def NdCells (V : World) (g o k : Nat) (x : DV) : Prop := V.cell? ⟨g, o + k * 6, none⟩ = some (.int .i64 x.r.kind) ∧ V.cell? ⟨g, o + k * 6 + 1, none⟩ = some (.int .i64 x.r.mode) ∧ V.cell? ⟨g, o + k * 6 + 2, none⟩ = some (.int .i64 x.r.links) ∧
      V.cell? ⟨g, o + k * 6 + 3, none⟩ = some (.slice x.D x.dn x.dc) ∧ V.cell? ⟨g, o + k * 6 + 4, none⟩ = some (.slice x.M x.mn x.mc) ∧ V.cell? ⟨g, o + k * 6 + 5, none⟩ = some (.string ⟨x.r.to.toArray⟩)
theorem FsR.at_ {w : World} {B : Nat} {L : Option Addr} {n : Nat} {l : List DV} (h : FsR w B L n l) {k : Nat} (hk : k < n) :
    ∃ (g o : Nat) (x : DV), L = some ⟨g, o, none⟩ ∧ g < B ∧ l[k]? = some x ∧ DVok w B x ∧ NdCells w g o k x := by
  have hl := h.len
  have hkl : k < l.length := by omega
  obtain ⟨g, o, rfl, hg, hc⟩ := cells_of h.rd (by omega) (by rw [dcs_length]; omega)
  refine ⟨g, o, l[k], rfl, hg, List.getElem?_eq_getElem hkl, h.ok _ (List.getElem_mem _), ?_, ?_, ?_, ?_, ?_, ?_⟩
  · exact hc (k * 6 + 0) _ (dcs_at l k 0 hkl (by omega))
  · exact hc (k * 6 + 1) _ (dcs_at l k 1 hkl (by omega))
  · exact hc (k * 6 + 2) _ (dcs_at l k 2 hkl (by omega))
  · exact hc (k * 6 + 3) _ (dcs_at l k 3 hkl (by omega))
  · exact hc (k * 6 + 4) _ (dcs_at l k 4 hkl (by omega))
  · exact hc (k * 6 + 5) _ (dcs_at l k 5 hkl (by omega))
theorem NdCells.below {w w' : World} {B g o k : Nat} {x : DV} (h : NdCells w g o k x) (hg : g < B) (hb : Below B w w') : NdCells w' g o k x :=
  ⟨(hb.cell (p := ⟨g, o + k * 6, none⟩) hg).trans h.1, (hb.cell (p := ⟨g, o + k * 6 + 1, none⟩) hg).trans h.2.1, (hb.cell (p := ⟨g, o + k * 6 + 2, none⟩) hg).trans h.2.2.1, (hb.cell (p := ⟨g, o + k * 6 + 3, none⟩) hg).trans h.2.2.2.1, (hb.cell (p := ⟨g, o + k * 6 + 4, none⟩) hg).trans h.2.2.2.2.1, (hb.cell (p := ⟨g, o + k * 6 + 5, none⟩) hg).trans h.2.2.2.2.2⟩
/-- The two cells of a name. -/
def NmCells (V : World) (g o k : Nat) (y : NM) : Prop := V.cell? ⟨g, o + k * 2, none⟩ = some (.string ⟨y.name.toArray⟩) ∧ V.cell? ⟨g, o + k * 2 + 1, none⟩ = some (.int .i64 y.node)
theorem nm_cells {w : World} {B n : Nat} {M : Option Addr} {l : List NM} (h : Reads w B 2 M n (ncs l)) {k : Nat} (hk : k < n) :
    ∃ (g o : Nat) (y : NM), M = some ⟨g, o, none⟩ ∧ g < B ∧ l[k]? = some y ∧ NmCells w g o k y := by
  have hl : l.length = n := by have := h.1; rw [ncs_length] at this; omega
  have hkl : k < l.length := by omega
  obtain ⟨g, o, rfl, hg, hc⟩ := cells_of h (by omega) (by rw [ncs_length]; omega)
  refine ⟨g, o, l[k], rfl, hg, List.getElem?_eq_getElem hkl, ?_, ?_⟩
  · exact hc (k * 2 + 0) _ (ncs_at l k 0 hkl (by omega))
  · exact hc (k * 2 + 1) _ (ncs_at l k 1 hkl (by omega))
theorem NmCells.below {w w' : World} {B g o k : Nat} {y : NM} (h : NmCells w g o k y) (hg : g < B) (hb : Below B w w') : NmCells w' g o k y :=
  ⟨(hb.cell (p := ⟨g, o + k * 2, none⟩) hg).trans h.1, (hb.cell (p := ⟨g, o + k * 2 + 1, none⟩) hg).trans h.2⟩
theorem run_sizeOf_n {P : Program} {e : TypeId} {n : Nat} (hs : (P.info? e).map (·.size) = some n) (W : World) : (sizeOf e).run P W = .ok n W := by
  obtain ⟨i, hi, h1⟩ := Option.map_eq_some_iff.1 hs
  simp [sizeOf, typeInfo, hi, h1]
theorem sizeNode : (Tryz.prog.info? 28).map (·.size) = some 6 := by kernel_rfl
theorem sizeName : (Tryz.prog.info? 59).map (·.size) = some 2 := by kernel_rfl
theorem nd_at (g1 o m k q : Nat) (i : Int) (hi : i = (q : Int)) (hq : q < m) (W : World) : (Instr.indexAt 22 (.slice (some ⟨g1, o, none⟩) m k) (.int .i64 i)).run Tryz.prog W = .ok (.pointer (some ⟨g1, o + q * 6, none⟩)) W := by
  subst hi
  have hE : Tryz.prog.elem 22 = 28 := by simp [Program.elem, Tryz.underlying22]
  rw [run_indexAt_slice W 22 ⟨g1, o, none⟩ m k .i64 (q : Int) (slice_ht Tryz.underlying22), if_pos ⟨by omega, by omega⟩]
  rw [hE, run_sizeOf_n sizeNode W]
  simp only [Result.andThen, Int.toNat_natCast, at_add]
theorem nm_at (g1 o m k q : Nat) (i : Int) (hi : i = (q : Int)) (hq : q < m) (W : World) : (Instr.indexAt 26 (.slice (some ⟨g1, o, none⟩) m k) (.int .i64 i)).run Tryz.prog W = .ok (.pointer (some ⟨g1, o + q * 2, none⟩)) W := by
  subst hi
  have hE : Tryz.prog.elem 26 = 59 := by simp [Program.elem, Tryz.underlying26]
  rw [run_indexAt_slice W 26 ⟨g1, o, none⟩ m k .i64 (q : Int) (slice_ht Tryz.underlying26), if_pos ⟨by omega, by omega⟩]
  rw [hE, run_sizeOf_n sizeName W]
  simp only [Result.andThen, Int.toNat_natCast, at_add]
/-- The nodes, without where they lie. -/
def nds (l : List DV) : List ND := l.map DV.r
theorem nds_length (l : List DV) : (nds l).length = l.length := by simp [nds]
theorem nds_at {l : List DV} {k : Nat} {x : DV} (h : l[k]? = some x) : ndAt (nds l) (k : Int) = x.r := by
  unfold ndAt nds
  rw [Int.toNat_natCast, List.getD_eq_getElem?_getD, List.getElem?_map, h]
  rfl
end Go.Proofs.YtlcoapignfmgcaaGreatDoor
namespace Go.Proofs.YtlcoapignfmgcaaGreatDoor
open Go.RowKit
set_option linter.unusedVariables false
theorem on_alloc (w : World) (o : Obj) : Below w.heap.size w (w.alloc o) := (Below.refl _ _).alloc (Nat.le_refl _) _
/-- How many names the first nodes have. -/
def upto (l : List DV) (i : Nat) : Nat := ((l.take i).map fun x => x.r.names.length).sum
theorem upto_succ {l : List DV} {i : Nat} {x : DV} (h : l[i]? = some x) : upto l (i + 1) = upto l i + x.r.names.length := by
  obtain ⟨hi, rfl⟩ := List.getElem?_eq_some_iff.1 h
  unfold upto
  rw [List.take_succ_eq_append_getElem hi]
  simp only [List.map_append, List.map_cons, List.map_nil, List.sum_append, List.sum_cons, List.sum_nil, Nat.add_zero]
structure FewN (x : DV) : Prop where
  d : x.r.data.length ≤ 5000
  to : x.r.to.length ≤ 600
  n : x.r.names.length ≤ 200
  nm : ∀ y ∈ x.r.names, y.name.length ≤ 300
structure FewB (l : List DV) : Prop where
  n : l.length ≤ 100
  each : ∀ x ∈ l, FewN x
  all : upto l l.length ≤ 300
def FewEnd (w : World) (l : List DV) (e : Ending) (w' : World) : Prop := ∃ f, e = .returned (.bool f) ∧ (f = true → FewB l) ∧ Below w.heap.size w w'
theorem FewEnd.no {w : World} {l : List DV} {e : Ending} {w' : World} (h : e = .returned (.bool false)) (hb : Below w.heap.size w w') : FewEnd w l e w' := ⟨false, h, (fun h => by cases h), hb⟩
theorem six {w : World} {g : Nat} {t : TypeId} {a b c d e f : Value} (H : Blk w g t #[a, b, c, d, e, f]) :
    w.cell? ⟨g, 0, none⟩ = some a ∧ w.cell? ⟨g, 1, none⟩ = some b ∧ w.cell? ⟨g, 2, none⟩ = some c ∧ w.cell? ⟨g, 3, none⟩ = some d ∧ w.cell? ⟨g, 4, none⟩ = some e ∧ w.cell? ⟨g, 5, none⟩ = some f :=
  ⟨H.cell 0, H.cell 1, H.cell 2, H.cell 3, H.cell 4, H.cell 5⟩
theorem one_ {w : World} {g : Nat} {t : TypeId} {a : Value} (H : Blk w g t #[a]) : w.cell? ⟨g, 0, none⟩ = some a := H.cell 0
set_option maxRecDepth 100000 in
set_option maxHeartbeats 8000000 in
theorem few_any (L : Option Addr) (n c : Nat) (l : List DV) (w : World) (hF : FsR w w.heap.size L n l) (hn : n ≤ maxLen) :
    Calls Tryz.prog 6 #[.agg #[.slice L n c]] w (FewEnd w l) := by
  have hl := hF.len
  have HX : Hid (Blk (w.alloc (.cells #[.slice L n c] 24)) w.heap.size 24 #[.slice L n c]) := hide (Blk.new w _ _)
  have HB : Hid (Below w.heap.size w (w.alloc (.cells #[.slice L n c] 24))) := hide (on_alloc _ _)
  have HF := hide hF
  have HL := hide hl
  clear hF hl
  by_cases h60 : n ≤ 60
  · have h60b : ¬ ((60 : Int) < (n : Int)) := by omega
    go_enter Tryz.func6, Tryz.ntmps6
    go_wp2_with fail
    go_loopw [3, 4] (fun u3 u4 wx => ∃ i m : Nat, i ≤ n ∧ m ≤ i * 100 ∧ u3 = .int .i64 (m : Int) ∧ u4 = .int .i64 (i : Int) ∧ Hid (m = upto l i) ∧ Hid (∀ j x, j < i → l[j]? = some x → FewN x) ∧ Hid (Below w.heap.size w wx) ∧ Hid (Blk wx w.heap.size 24 #[.slice L n c])) (fun _ i _ => n - (intOf i).toNat)
    case atStart => exact ⟨0, 0, Nat.zero_le _, by omega, rfl, rfl, hide rfl, hide (fun j x hj => absurd hj (by omega)), HB, HX⟩
    case round =>
      clear HX HB
      obtain ⟨i, m, hi, hm, rfl, rfl, HM, HA, HB, HX⟩ := hrel
      have k0 := one_ HX.out
      by_cases hin : i < n
      · have hlt : (i : Int) < (n : Int) := by omega
        obtain ⟨g, o, x, rfl, hg, hx, hok, hc⟩ := HF.out.at_ hin
        have HC0 := hide hc
        obtain ⟨d0, d1, d2, d3, d4, d5⟩ := NdCells.below hc hg HB.out
        clear hc
        have hok2 := hok.below HB.out
        have HOK := hide hok2
        have HXI := hide hx
        have dl := hok.dl
        have nl := hok.nl
        have i1 := fun W => nd_at g o n c i (i : Int) rfl hin W
        have HBX : Hid (Blk (wr.alloc (.cells #[Value.int .i64 x.r.kind, .int .i64 x.r.mode, .int .i64 x.r.links, .slice x.D x.dn x.dc, .slice x.M x.mn x.mc, .string ⟨x.r.to.toArray⟩] 28)) wr.heap.size 28 #[Value.int .i64 x.r.kind, .int .i64 x.r.mode, .int .i64 x.r.links, .slice x.D x.dn x.dc, .slice x.M x.mn x.mc, .string ⟨x.r.to.toArray⟩]) := hide (Blk.new wr _ _)
        have HX2 := hide (HX.out.alloc (.cells #[Value.int .i64 x.r.kind, .int .i64 x.r.mode, .int .i64 x.r.links, .slice x.D x.dn x.dc, .slice x.M x.mn x.mc, .string ⟨x.r.to.toArray⟩] 28))
        have HB2 := hide (HB.out.alloc HB.out.size (.cells #[Value.int .i64 x.r.kind, .int .i64 x.r.mode, .int .i64 x.r.links, .slice x.D x.dn x.dc, .slice x.M x.mn x.mc, .string ⟨x.r.to.toArray⟩] 28))
        have HOK2 := hide (HOK.out.below (((Below.refl w.heap.size wr)).alloc HB.out.size (.cells #[Value.int .i64 x.r.kind, .int .i64 x.r.mode, .int .i64 x.r.links, .slice x.D x.dn x.dc, .slice x.M x.mn x.mc, .string ⟨x.r.to.toArray⟩] 28)))
        have h2 : g < wr.heap.size := Nat.lt_of_lt_of_le hg HB.out.size
        clear hx hok hok2 HC0 HOK
        by_cases c1 : x.dn ≤ 5000
        · have c1b : ¬ ((5000 : Int) < (x.dn : Int)) := by omega
          by_cases c2 : x.r.to.length ≤ 600
          · have c2b : ¬ ((600 : Int) < (x.r.to.length : Int)) := by omega
            by_cases c3 : x.mn ≤ 100
            · have c3b : ¬ ((100 : Int) < (x.mn : Int)) := by omega
              go_wp2_with fail
              obtain ⟨WC, hWC⟩ : ∃ W, wr.alloc (.cells #[Value.int .i64 x.r.kind, .int .i64 x.r.mode, .int .i64 x.r.links, .slice x.D x.dn x.dc, .slice x.M x.mn x.mc, .string ⟨x.r.to.toArray⟩] 28) = W := ⟨_, rfl⟩
              rw [hWC] at HBX HX2 HB2 HOK2 ⊢
              clear hWC HX HB d0 d1 d2 d3 d4 d5 k0
              obtain ⟨e0, e1, e2, e3, e4, e5⟩ := six HBX.out
              go_loopw [6] (fun u wx => ∃ k : Nat, k ≤ x.mn ∧ u = .int .i64 (k : Int) ∧ Hid (∀ j y, j < k → x.r.names[j]? = some y → y.name.length ≤ 300) ∧ WC = wx) (fun i _ => x.mn - (intOf i).toNat)
              case atStart => exact ⟨0, Nat.zero_le _, rfl, hide (fun j y hj => absurd hj (by omega)), rfl⟩
              case round =>
                obtain ⟨k, hk, rfl, HK, rfl⟩ := hrel
                by_cases hkn : k < x.mn
                · have hklt : (k : Int) < (x.mn : Int) := by omega
                  obtain ⟨g', o', y, hM, hg', hy, n0, n1⟩ := nm_cells HOK2.out.n hkn
                  have HY := hide hy
                  have i2 := fun W => nm_at g' o' x.mn x.mc k (k : Int) rfl hkn W
                  rw [hM] at e4
                  by_cases c4 : y.name.length ≤ 300
                  · have c4b : ¬ ((300 : Int) < (y.name.length : Int)) := by omega
                    clear hy
                    go_wp2_with fail
                    go_roundw
                    case rel =>
                      refine ⟨k + 1, by omega, by go_num, hide (fun j z hj hz => ?_), by first | exact trivial | rfl⟩
                      rcases Nat.lt_or_ge j k with h | h
                      · exact HK.out j z h hz
                      · obtain rfl : j = k := by omega
                        rw [HY.out] at hz; injection hz with hz; subst hz; exact c4
                    case measure => simp [intOf]; omega
                  · have c4b : (300 : Int) < (y.name.length : Int) := by omega
                    clear hy
                    go_wp2_with fail
                    go_ret
                    exact FewEnd.no rfl HB2.out
                · have hklt : ¬ ((k : Int) < (x.mn : Int)) := by omega
                  have HKN : Hid (∀ y ∈ x.r.names, y.name.length ≤ 300) := hide (fun y hy => by
                    obtain ⟨j, hj⟩ := List.mem_iff_getElem?.1 hy
                    have hjl : j < x.r.names.length := (List.getElem?_eq_some_iff.1 hj).1
                    exact HK.out j y (by omega) hj)
                  clear HK
                  go_wp2_with fail
                  go_roundw
                  case rel =>
                    refine ⟨i + 1, m + x.mn, by omega, by omega, by go_num, by go_num, hide (by rw [upto_succ HXI.out, ← HM.out, nl]), hide (fun j z hj hz => ?_), HB2, HX2⟩
                    rcases Nat.lt_or_ge j i with h | h
                    · exact HA.out j z h hz
                    · obtain rfl : j = i := by omega
                      have hxi := HXI.out
                      rw [hxi] at hz; injection hz with hz; subst hz
                      exact ⟨by omega, c2, by omega, HKN.out⟩
                  case measure => simp [intOf]; omega
            · have c3b : ((100 : Int) < (x.mn : Int)) := by omega
              go_wp2_with fail
              go_ret
              exact FewEnd.no rfl HB2.out
          · have c2b : ((600 : Int) < (x.r.to.length : Int)) := by omega
            go_wp2_with fail
            go_ret
            exact FewEnd.no rfl HB2.out
        · have c1b : ((5000 : Int) < (x.dn : Int)) := by omega
          go_wp2_with fail
          go_ret
          exact FewEnd.no rfl HB2.out
      · have hlt : ¬ ((i : Int) < (n : Int)) := by omega
        obtain rfl : i = n := by omega
        by_cases c5 : m ≤ 200
        · have c5b : (m : Int) ≤ 200 := by omega
          go_wp2_with fail
          go_ret
          refine ⟨true, rfl, fun _ => ⟨by rw [HL.out]; omega, fun z hz => ?_, by rw [HL.out, ← HM.out]; omega⟩, HB.out⟩
          obtain ⟨j, hj⟩ := List.mem_iff_getElem?.1 hz
          have hjl : j < l.length := (List.getElem?_eq_some_iff.1 hj).1
          exact HA.out j z (by have := HL.out; omega) hj
        · have c5b : ¬ ((m : Int) ≤ 200) := by omega
          go_wp2_with fail
          go_ret
          exact FewEnd.no rfl HB.out
  · have h60b : (60 : Int) < (n : Int) := by omega
    have k0 := one_ HX.out
    go_enter Tryz.func6, Tryz.ntmps6
    go_wp2_with fail
    go_ret
    exact FewEnd.no rfl HB.out
end Go.Proofs.YtlcoapignfmgcaaGreatDoor
