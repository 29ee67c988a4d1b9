/- Layer 14 on plain lists: nodes, their counts, the walk of the tree, how deep it goes. -/
import Derived.Test.YtnhfpaobocbieaaBase
namespace Go.Proofs.Ytnhfpaobocbieaa
set_option linter.unusedVariables false
structure NM where
  name : List UInt8
  node : Int
structure ND where
  kind : Int
  mode : Int
  links : Int
  data : List UInt8
  names : List NM
  to : List UInt8
def nd0 : ND := ⟨0, 0, 0, [], [], []⟩
def ndAt (l : List ND) (i : Int) : ND := l.getD i.toNat nd0
def isDir (l : List ND) (i : Int) : Bool := (ndAt l i).kind == 2
def inL (s : List UInt8) (c : UInt8) : Bool := s.contains c
/-- May a text be a name? -/
def nameB (s : List UInt8) : Bool := !(s.isEmpty || s == [46] || s == [46, 46] || s.contains 47 || s.contains 0) && decide (s.length ≤ 32)
def namesFrom (c : Int) : Option (List UInt8) → List NM → Bool
  | _, [] => true
  | prev, x :: t => nameB x.name && (decide (0 ≤ x.node) && decide (x.node < c)) && (match prev with | none => true | some p => decide (p < x.name)) && namesFrom c (some x.name) t
def nodeB (n : ND) (c : Int) : Bool :=
  (decide (0 ≤ n.mode) && decide (n.mode ≤ 7)) &&
  (if n.kind = 1 then decide (n.data.length ≤ 4096) && n.names.isEmpty && n.to.isEmpty
   else if n.kind = 2 then namesFrom c none n.names && n.data.isEmpty && n.to.isEmpty
   else if n.kind = 3 then (decide (1 ≤ n.to.length) && decide (n.to.length ≤ 256) && !(n.to.contains 0)) && n.data.isEmpty && n.names.isEmpty
   else false)
def allNames (l : List ND) : List NM := l.flatMap (·.names)
def cnt (l : List ND) (i : Int) : Nat := (allNames l).countP fun x => x.node == i
def linkB (l : List ND) (i : Nat) : Bool :=
  if i = 0 then decide ((ndAt l 0).kind = 2) && decide ((ndAt l 0).links = 1) && decide (cnt l 0 = 0)
  else decide ((ndAt l i).links = (cnt l i : Int)) && !(decide ((ndAt l i).kind = 2) && (decide (1 < (ndAt l i).links) || (decide ((ndAt l i).links = 0) && !(ndAt l i).names.isEmpty)))
def linksB (l : List ND) : Bool := (List.range l.length).all (linkB l)
/-- A step of the walk: the directory, the name, its node, the names that led to the directory. -/
structure ST where
  dir : Int
  name : List UInt8
  node : Int
  up : List (List UInt8)
def wk (l : List ND) : Nat → List (List UInt8) → Int → List ST
  | 0, _, _ => []
  | k + 1, up, d => (ndAt l d).names.flatMap fun n => ⟨d, n.name, n.node, up⟩ :: (if isDir l n.node = true then wk l k (up ++ [n.name]) n.node else [])
def named (l : List ND) : Nat := l.countP fun n => n.kind == 2 && decide (0 < n.links)
def reached (l : List ND) : Nat := 1 + (wk l l.length [] 0).countP fun s => isDir l s.node
/-- Is every directory with a name reached (as the program counts: in 64 bits)? -/
def treeB (l : List ND) : Bool := decide (IntKind.i64.wrap (reached l : Int) = (named l : Int))
def checkB (l : List ND) : Bool := (decide (1 ≤ l.length) && decide (l.length ≤ 256)) && l.all (fun n => nodeB n l.length) && linksB l && treeB l
/-- How deep the walk goes below a directory. -/
def Deep (l : List ND) : Nat → Int → Prop
  | 0, _ => False
  | k + 1, d => ∀ n ∈ (ndAt l d).names, isDir l n.node = true → Deep l k n.node
/-- Every name's node is one. -/
def RefsOk (l : List ND) : Prop := ∀ d ∈ l, ∀ n ∈ d.names, 0 ≤ n.node ∧ n.node < (l.length : Int)
theorem namesFrom_refs (c : Int) : ∀ (t : List NM) (p : Option (List UInt8)), namesFrom c p t = true → ∀ n ∈ t, 0 ≤ n.node ∧ n.node < c
  | [], _, _, n, hn => by cases hn
  | x :: t, p, h, n, hn => by
    simp only [namesFrom, Bool.and_eq_true, decide_eq_true_eq] at h
    rcases List.mem_cons.1 hn with rfl | hn
    · exact h.1.1.2
    · exact namesFrom_refs c t _ h.2 n hn
theorem nodeB_refs {n : ND} {c : Int} (h : nodeB n c = true) : ∀ x ∈ n.names, 0 ≤ x.node ∧ x.node < c := by
  unfold nodeB at h
  simp only [Bool.and_eq_true] at h
  obtain ⟨-, h⟩ := h
  intro x hx
  split at h
  · simp only [Bool.and_eq_true, List.isEmpty_iff] at h
    rw [h.1.2] at hx; cases hx
  · split at h
    · simp only [Bool.and_eq_true] at h
      exact namesFrom_refs c _ _ h.1.1 x hx
    · split at h
      · simp only [Bool.and_eq_true, List.isEmpty_iff] at h
        rw [h.2] at hx; cases hx
      · cases h
theorem refs_of {l : List ND} (h : ∀ n ∈ l, nodeB n l.length = true) : RefsOk l := fun d hd => nodeB_refs (h d hd)
/-- Two of n + 1 numbers below n are the same. -/
theorem pigeon : ∀ (n : Nat) (f : Nat → Nat), (∀ i, i ≤ n → f i < n) → ∃ i j, i < j ∧ j ≤ n ∧ f i = f j
  | 0, f, h => absurd (h 0 (Nat.le_refl _)) (by omega)
  | n + 1, f, h => by
    by_cases hv : ∃ i, i ≤ n ∧ f i = f (n + 1)
    · obtain ⟨i, hi, e⟩ := hv
      exact ⟨i, n + 1, by omega, Nat.le_refl _, e⟩
    · have hv2 : ∀ i, i ≤ n → f i ≠ f (n + 1) := fun i hi e => hv ⟨i, hi, e⟩
      obtain ⟨i, j, hij, hj, e⟩ := pigeon n (fun i => if f (n + 1) < f i then f i - 1 else f i) (fun i hi => by
        have h1 := h i (by omega); have h2 := h (n + 1) (Nat.le_refl _); have h3 := hv2 i hi
        (try dsimp only); split <;> omega)
      refine ⟨i, j, hij, by omega, ?_⟩
      have h1 := hv2 i (by omega); have h2 := hv2 j hj
      (try dsimp only at e)
      split at e <;> split at e <;> omega
theorem cnt_two {l : List ND} {a b : Nat} (hab : a < b) (hb : b < l.length) {d : Int} {x y : NM} (hx : x ∈ (l.getD a nd0).names) (hy : y ∈ (l.getD b nd0).names) (ex : x.node = d) (ey : y.node = d) : 2 ≤ cnt l d := by
  unfold cnt allNames
  have e : l = l.take b ++ l.drop b := (List.take_append_drop b l).symm
  have h1 : 1 ≤ ((l.take b).flatMap (·.names)).countP fun x => x.node == d := by
    refine List.countP_pos_iff.2 ⟨x, ?_, by simp [ex]⟩
    refine List.mem_flatMap.2 ⟨l.getD a nd0, ?_, hx⟩
    rw [List.getD_eq_getElem?_getD, List.getElem?_eq_getElem (by omega)]
    simp only [Option.getD_some]
    exact List.mem_take_iff_getElem.2 ⟨a, by omega, rfl⟩
  have h2 : 1 ≤ ((l.drop b).flatMap (·.names)).countP fun x => x.node == d := by
    refine List.countP_pos_iff.2 ⟨y, ?_, by simp [ey]⟩
    refine List.mem_flatMap.2 ⟨l.getD b nd0, ?_, hy⟩
    rw [List.getD_eq_getElem?_getD, List.getElem?_eq_getElem hb]
    simp only [Option.getD_some]
    exact List.mem_drop_iff_getElem.2 ⟨0, by omega, by simp⟩
  rw [e, List.flatMap_append, List.countP_append]
  omega
theorem cnt_one {l : List ND} {a : Nat} (ha : a < l.length) {d : Int} {x : NM} (hx : x ∈ (l.getD a nd0).names) (ex : x.node = d) : 1 ≤ cnt l d := by
  unfold cnt allNames
  refine List.countP_pos_iff.2 ⟨x, List.mem_flatMap.2 ⟨l.getD a nd0, ?_, hx⟩, by simp [ex]⟩
  rw [List.getD_eq_getElem?_getD, List.getElem?_eq_getElem ha]
  exact List.getElem_mem _
theorem ndAt_out {l : List ND} {i : Int} (h : l.length ≤ i.toNat) : (ndAt l i).names = [] := by
  unfold ndAt
  rw [List.getD_eq_getElem?_getD, List.getElem?_eq_none h]; rfl
theorem ndAt_mem {l : List ND} {i : Int} {x : NM} (h : x ∈ (ndAt l i).names) : i.toNat < l.length ∧ ndAt l i ∈ l := by
  have hl : i.toNat < l.length := by
    rcases Nat.lt_or_ge i.toNat l.length with h1 | h1
    · exact h1
    · rw [ndAt_out h1] at h; cases h
  refine ⟨hl, ?_⟩
  unfold ndAt
  rw [List.getD_eq_getElem?_getD, List.getElem?_eq_getElem hl]
  exact List.getElem_mem _
/-- A directory's directory. -/
def Child (l : List ND) (a b : Int) : Prop := isDir l b = true ∧ ∃ x ∈ (ndAt l a).names, x.node = b
theorem chain_of : ∀ (l : List ND) (k : Nat) (d : Int), ¬ Deep l k d → ∃ f : Nat → Int, f 0 = d ∧ ∀ i, i < k → Child l (f i) (f (i + 1))
  | l, 0, d, _ => ⟨fun _ => d, rfl, fun i h => absurd h (by omega)⟩
  | l, k + 1, d, h => by
    have h2 : ∃ n ∈ (ndAt l d).names, isDir l n.node = true ∧ ¬ Deep l k n.node := by
      refine Classical.byContradiction fun hn => h fun n hm hd => Classical.byContradiction fun hk => hn ⟨n, hm, hd, hk⟩
    obtain ⟨n, hm, hd, hk⟩ := h2
    obtain ⟨f, f0, hf⟩ := chain_of l k n.node hk
    refine ⟨fun i => match i with | 0 => d | i + 1 => f i, rfl, fun i hi => ?_⟩
    match i with
    | 0 => exact ⟨by simp only [f0]; exact hd, n, hm, f0.symm⟩
    | i + 1 => exact hf i (by omega)
theorem child_in {l : List ND} (hr : RefsOk l) {a b : Int} (h : Child l a b) : 0 ≤ b ∧ b.toNat < l.length ∧ a.toNat < l.length := by
  obtain ⟨_, x, hx, rfl⟩ := h
  obtain ⟨h1, h2⟩ := ndAt_mem hx
  have := hr _ h2 x hx
  omega
theorem child_up {l : List ND} (hr : RefsOk l) (h1 : ∀ i : Int, isDir l i = true → cnt l i ≤ 1) {a b d : Int} (ha : 0 ≤ a) (hb : 0 ≤ b) (h : Child l a d) (k : Child l b d) : a = b := by
  obtain ⟨hd, x, hx, ex⟩ := h
  obtain ⟨_, y, hy, ey⟩ := k
  obtain ⟨la, _⟩ := ndAt_mem hx
  obtain ⟨lb, _⟩ := ndAt_mem hy
  have := h1 d hd
  rcases Nat.lt_trichotomy a.toNat b.toNat with e | e | e
  · have := cnt_two e lb hx hy ex ey; omega
  · omega
  · have := cnt_two e la hy hx ey ex; omega
theorem chain_apart {l : List ND} (hr : RefsOk l) (h0 : cnt l 0 = 0) (h1 : ∀ i : Int, isDir l i = true → cnt l i ≤ 1) {f : Nat → Int} {k : Nat} (f0 : f 0 = 0) (hf : ∀ i, i < k → Child l (f i) (f (i + 1))) : ∀ i j, i < j → j ≤ k → f i ≠ f j
  | 0, j + 1, _, hj, e => by
    obtain ⟨_, x, hx, ex⟩ := hf j (by omega)
    obtain ⟨la, _⟩ := ndAt_mem hx
    rw [f0] at e
    have := cnt_one la hx (ex.trans e.symm)
    omega
  | i + 1, j + 1, h, hj, e => by
    have ci := hf i (by omega)
    have cj := hf j (by omega)
    have pos : ∀ m, m ≤ k → 0 ≤ f m := fun m hm => by
      match m with
      | 0 => omega
      | m + 1 => exact (child_in hr (hf m (by omega))).1
    refine chain_apart hr h0 h1 f0 hf i j (by omega) (by omega) (child_up hr h1 (pos i (by omega)) (pos j (by omega)) ci (by rw [e]; exact cj))
theorem deep_root {l : List ND} (hp : 0 < l.length) (hr : RefsOk l) (h0 : cnt l 0 = 0) (h1 : ∀ i : Int, isDir l i = true → cnt l i ≤ 1) : Deep l l.length 0 := by
  refine Classical.byContradiction fun hn => ?_
  obtain ⟨f, f0, hf⟩ := chain_of l l.length 0 hn
  have inb : ∀ i, i ≤ l.length → 0 ≤ f i ∧ (f i).toNat < l.length := fun i hi => by
    match i with
    | 0 => rw [f0]; exact ⟨by omega, by simpa using hp⟩
    | m + 1 => have := child_in hr (hf m (by omega)); exact ⟨this.1, this.2.1⟩
  obtain ⟨i, j, hij, hj, e⟩ := pigeon l.length (fun i => (f i).toNat) (fun i hi => (inb i hi).2)
  refine chain_apart hr h0 h1 f0 hf i j hij hj ?_
  have a := inb i (by omega); have b := inb j hj
  (try dsimp only at e)
  omega
end Go.Proofs.Ytnhfpaobocbieaa
