/- names.search's BinarySearchFunc; node.Lookup. Layer 15 on plain lists. -/
import Derived.Test.YtlcoapignfmgcaaGreatDoorGf
namespace Go.Proofs.YtlcoapignfmgcaaGreatDoor
open Go.RowKit
set_option linter.unusedVariables false
def NM.v (x : NM) : Value := .agg #[.string ⟨x.name.toArray⟩, .int .i64 x.node]
set_option maxHeartbeats 4000000 in
theorem cmp_any (x : NM) (s : List UInt8) (w : World) : Calls Tryz.prog 73 #[x.v, .string ⟨s.toArray⟩] w fun e w' => e = .returned (.int .i64 (Lib.compareBytes x.name s)) ∧ Below w.heap.size w w' := by
  obtain ⟨nm, vl⟩ := x
  unfold NM.v
  dsimp only
  have X := hide (fun W => Any.strings_Compare Tryz.lays106 ⟨nm.toArray⟩ ⟨s.toArray⟩ W)
  change Hid (∀ W, Calls _ _ _ W fun e w' => e = .returned (.int .i64 (Lib.compareBytes nm s)) ∧ w' = W) at X
  generalize Lib.compareBytes nm s = r at *
  have HB := hide ((Below.refl w.heap.size w).alloc (Nat.le_refl _) (.cells #[.string ⟨nm.toArray⟩, .int .i64 vl] 59))
  go_enter Tryz.func73, Tryz.ntmps73
  go_wp2_with fail
  refine (X.out _).mono ?_
  rintro e w1 ⟨rfl, rfl⟩
  go_wp2_with fail
  go_ret
  exact ⟨rfl, HB.out⟩
/-- Where a name stands, or would stand, as the binary search finds it. -/
def nmAt (l : List NM) (k : Nat) : List UInt8 := match l[k]? with
  | some x => x.name
  | none => []
def bsF (l : List NM) (s : List UInt8) : Nat → Nat → Nat → Nat
  | 0, lo, hi => lo
  | f + 1, lo, hi => if lo < hi then (if Lib.compareBytes (nmAt l ((lo + hi) / 2)) s < 0 then bsF l s f ((lo + hi) / 2 + 1) hi else bsF l s f lo ((lo + hi) / 2)) else lo
theorem bsF_more (l : List NM) (s : List UInt8) : ∀ (f g lo hi : Nat), hi - lo ≤ f → hi - lo ≤ g → bsF l s f lo hi = bsF l s g lo hi
  | 0, 0, _, _, _, _ => rfl
  | 0, g + 1, lo, hi, h, _ => by
    rw [bsF, bsF, if_neg (by omega)]
  | f + 1, 0, lo, hi, _, h => by
    rw [bsF, bsF, if_neg (by omega)]
  | f + 1, g + 1, lo, hi, h1, h2 => by
    rw [bsF, bsF]
    split
    · split
      · exact bsF_more l s f g _ _ (by omega) (by omega)
      · exact bsF_more l s f g _ _ (by omega) (by omega)
    · rfl
theorem bsF_step (l : List NM) (s : List UInt8) (lo hi : Nat) (h : lo < hi) : bsF l s (hi - lo) lo hi = if Lib.compareBytes (nmAt l ((lo + hi) / 2)) s < 0 then bsF l s (hi - ((lo + hi) / 2 + 1)) ((lo + hi) / 2 + 1) hi else bsF l s ((lo + hi) / 2 - lo) lo ((lo + hi) / 2) := by
  obtain ⟨f, hf⟩ : ∃ f, hi - lo = f + 1 := ⟨hi - lo - 1, by omega⟩
  rw [hf, bsF, if_pos h]
  split
  · exact bsF_more l s _ _ _ _ (by omega) (by omega)
  · exact bsF_more l s _ _ _ _ (by omega) (by omega)
theorem bsF_le (l : List NM) (s : List UInt8) : ∀ (f lo hi : Nat), lo ≤ hi → lo ≤ bsF l s f lo hi ∧ bsF l s f lo hi ≤ hi
  | 0, lo, hi, h => ⟨Nat.le_refl _, h⟩
  | f + 1, lo, hi, h => by
    rw [bsF]
    split
    · split
      · have := bsF_le l s f ((lo + hi) / 2 + 1) hi (by omega); omega
      · have := bsF_le l s f lo ((lo + hi) / 2) (by omega); omega
    · exact ⟨Nat.le_refl _, h⟩
def findP (l : List NM) (s : List UInt8) : Nat := bsF l s l.length 0 l.length
def foundP (l : List NM) (s : List UInt8) : Bool := decide (findP l s < l.length) && (Lib.compareBytes (nmAt l (findP l s)) s == 0)
set_option maxRecDepth 100000 in
set_option maxHeartbeats 4000000 in
theorem search_any (l : List NM) (s : List UInt8) (A : Option Addr) (n c : Nat) (w : World) (hR : Reads w w.heap.size 2 A n (ncs l)) (hn : n ≤ 1000) : Calls Tryz.prog 72 #[.slice A n c, .string ⟨s.toArray⟩, .func (.func 73) #[] #[]] w fun e w' => e = .returned (.tuple #[.int .i64 (findP l s : Int), .bool (foundP l s)]) ∧ Below w.heap.size w w' := by
  have hl : l.length = n := by have h := hR.1; rw [ncs_length] at h; omega
  obtain ⟨R, hRE⟩ : ∃ R, findP l s = R := ⟨_, rfl⟩
  have HFO : Hid (foundP l s = (decide (R < l.length) && (Lib.compareBytes (nmAt l R) s == 0))) := hide (by unfold foundP; rw [hRE])
  have HRL : Hid (R ≤ n) := hide (by rw [← hRE, ← hl]; exact (bsF_le l s _ 0 _ (Nat.zero_le _)).2)
  have HRE : Hid (bsF l s (n - 0) 0 n = R) := hide (by rw [← hRE, ← hl]; rfl)
  rw [hRE]
  generalize foundP l s = FO at *
  have HR := hide hR
  have HL := hide hl
  clear hR hl hRE
  go_enter Tryz.func72, Tryz.ntmps72
  go_wp2_with fail
  go_loopw [9, 10] (fun u9 u10 wx => ∃ lo hi : Nat, lo ≤ hi ∧ hi ≤ n ∧ u9 = .int .i64 (lo : Int) ∧ u10 = .int .i64 (hi : Int) ∧ Hid (bsF l s (hi - lo) lo hi = R) ∧ Hid (Below w.heap.size w wx)) (fun u9 u10 _ => (intOf u10 - intOf u9).toNat)
  case atStart => exact ⟨0, n, Nat.zero_le _, Nat.le_refl _, rfl, rfl, HRE, hide (Below.refl _ _)⟩
  case round =>
    clear HRE
    obtain ⟨lo, hi, hlh, hin, rfl, rfl, HB, HW⟩ := hrel
    by_cases hlt : lo < hi
    · obtain ⟨m, hm⟩ : ∃ m, (lo + hi) / 2 = m := ⟨_, rfl⟩
      have hm1 : lo ≤ m ∧ m < hi := by omega
      obtain ⟨x, hx⟩ : ∃ x, l[m]? = some x := ⟨_, List.getElem?_eq_getElem (by have := HL.out; omega)⟩
      have hst := bsF_step l s lo hi hlt
      rw [hm] at hst
      have hna : nmAt l m = x.name := by unfold nmAt; rw [hx]
      rw [hna] at hst
      have HST := hide hst
      obtain ⟨g, o, x', rfl, hg, hx', q0, q1⟩ := nm_cells (HR.out.below HW.out) (k := m) (by omega)
      obtain rfl : x = x' := by rw [hx] at hx'; injection hx'
      have hia := fun W => nm_at g o n c m (m : Int) rfl (by omega) W
      have XC := hide (cmp_any x s wr)
      have hsum : IntKind.i64.wrap ((lo : Int) + (hi : Int)) = (lo : Int) + (hi : Int) := by simp [IntKind.wrap, IntKind.bits, IntKind.signed]; omega
      have hlt' : (lo : Int) < (hi : Int) := by omega
      have HM := hide hm
      rw [← hm] at q0 q1 hia
      obtain ⟨nm, vl⟩ := x
      dsimp only at q0 q1
      unfold NM.v at XC
      dsimp only at XC HST
      obtain ⟨r, hr⟩ : ∃ r, Lib.compareBytes nm s = r := ⟨_, rfl⟩
      rw [hr] at XC HST
      clear hst hna hx hx' hm hr
      go_wp2_with fail
      refine XC.out.mono ?_
      rintro e w1 ⟨rfl, hb⟩
      have HW2 := hide (below_more HW.out (Nat.le_refl _) hb)
      clear hb XC hia q0 q1 hsum
      by_cases hr0 : r < 0
      · have HB2 : Hid (bsF l s (hi - (m + 1)) (m + 1) hi = R) := hide (by rw [← HB.out, HST.out, if_pos hr0])
        have kw : IntKind.i64.wrap (((lo : Int) + (hi : Int)) / 2 + 1) = ((lo : Int) + (hi : Int)) / 2 + 1 := by simp [IntKind.wrap, IntKind.bits, IntKind.signed]; omega
        go_wp2_with fail
        go_roundw
        case rel => exact ⟨m + 1, hi, by omega, hin, by congr 1; have := HM.out; omega, rfl, HB2, HW2⟩
        case measure => simp [intOf]; omega
      · have HB2 : Hid (bsF l s (m - lo) lo m = R) := hide (by rw [← HB.out, HST.out, if_neg hr0])
        go_wp2_with fail
        go_roundw
        case rel => exact ⟨lo, m, hm1.1, by omega, rfl, by congr 1; have := HM.out; omega, HB2, HW2⟩
        case measure => simp [intOf]; omega
    · have hlt' : ¬ (lo : Int) < (hi : Int) := by omega
      obtain rfl : lo = hi := by omega
      have hRl : R = lo := by
        have := HB.out
        rw [Nat.sub_self] at this
        exact this.symm
      subst hRl
      by_cases hn2 : R < n
      · obtain ⟨x, hx⟩ : ∃ x, l[R]? = some x := ⟨_, List.getElem?_eq_getElem (by have := HL.out; omega)⟩
        have hna : nmAt l R = x.name := by unfold nmAt; rw [hx]
        have HFO2 : Hid (FO = (Lib.compareBytes x.name s == 0)) := hide (by rw [HFO.out, hna, decide_eq_true (by have := HL.out; omega : R < l.length)]; simp)
        obtain ⟨g, o, x', rfl, hg, hx', q0, q1⟩ := nm_cells (HR.out.below HW.out) (k := R) (by omega)
        obtain rfl : x = x' := by rw [hx] at hx'; injection hx'
        have hia := fun W => nm_at g o n c R (R : Int) rfl hn2 W
        have XC := hide (cmp_any x s wr)
        have k2 : (R : Int) < (n : Int) := by omega
        obtain ⟨nm, vl⟩ := x
        dsimp only at q0 q1
        unfold NM.v at XC
        dsimp only at XC HFO2
        obtain ⟨r, hr⟩ : ∃ r, Lib.compareBytes nm s = r := ⟨_, rfl⟩
        rw [hr] at XC HFO2
        clear hx hx' hna hr HFO HB
        go_wp2_with fail
        refine XC.out.mono ?_
        rintro e w1 ⟨rfl, hb⟩
        have HW2 := hide (below_more HW.out (Nat.le_refl _) hb)
        clear hb XC hia q0 q1
        go_wp2_with fail
        refine bodyPost_ret (v := .tuple #[.int .i64 (R : Int), .bool (r == 0)]) (by simp only [results, Tryz.results72]; go_simp) rfl ⟨by rw [HFO2.out], HW2.out⟩
      · have k2 : ¬ (R : Int) < (n : Int) := by omega
        have HFO2 : Hid (FO = false) := hide (by rw [HFO.out, decide_eq_false (by have := HL.out; omega : ¬ R < l.length)]; rfl)
        clear HFO HB
        go_wp2_with fail
        refine bodyPost_ret (v := .tuple #[.int .i64 (R : Int), .bool false]) (by simp only [results, Tryz.results72]; go_simp) rfl ⟨by rw [HFO2.out], HW.out⟩
/-- The order of names. -/
theorem blt_irrefl (a : List UInt8) : ¬ a < a := List.lt_irrefl a
theorem blt_trans {a b c : List UInt8} (h : a < b) (k : b < c) : a < c := List.lt_trans h k
theorem blt_tri (a b : List UInt8) : a < b ∨ a = b ∨ b < a := by
  rcases Decidable.em (a < b) with h | h
  · exact .inl h
  · rcases Decidable.em (b < a) with k | k
    · exact .inr (.inr k)
    · exact .inr (.inl (List.le_antisymm (List.not_lt.1 k) (List.not_lt.1 h)))
theorem blt_asymm {a b : List UInt8} (h : a < b) : ¬ b < a := fun k => blt_irrefl a (blt_trans h k)
theorem cmp_neg : ∀ (a b : List UInt8), (Lib.compareBytes a b < 0 ↔ a < b)
  | [], [] => by simp [Lib.compareBytes]
  | [], _ :: _ => by simp [Lib.compareBytes]
  | _ :: _, [] => by simp [Lib.compareBytes]
  | a :: x, b :: y => by
    have ih := cmp_neg x y
    rw [Lib.compareBytes, List.cons_lt_cons_iff]
    by_cases h1 : a < b
    · simp [h1]
    · by_cases h2 : b < a
      · have h3 : a ≠ b := by rintro rfl; exact UInt8.lt_irrefl _ h2
        simp [h1, h2, h3]
      · have h3 : a = b := UInt8.le_antisymm (UInt8.not_lt.1 h2) (UInt8.not_lt.1 h1)
        simp [h3, ih]
theorem cmp_zero : ∀ (a b : List UInt8), (Lib.compareBytes a b = 0 ↔ a = b)
  | [], [] => by simp [Lib.compareBytes]
  | [], _ :: _ => by simp [Lib.compareBytes]
  | _ :: _, [] => by simp [Lib.compareBytes]
  | a :: x, b :: y => by
    have ih := cmp_zero x y
    rw [Lib.compareBytes]
    by_cases h1 : a < b
    · have h3 : a ≠ b := by rintro rfl; exact UInt8.lt_irrefl _ h1
      simp [h1, h3]
    · by_cases h2 : b < a
      · have h3 : a ≠ b := by rintro rfl; exact UInt8.lt_irrefl _ h2
        simp [h1, h2, h3]
      · have h3 : a = b := UInt8.le_antisymm (UInt8.not_lt.1 h2) (UInt8.not_lt.1 h1)
        simp [h3, ih]
def sortedP (l : List NM) : Prop := l.Pairwise fun x y => x.name < y.name
theorem nmAt_get {l : List NM} {k : Nat} {x : NM} (h : l[k]? = some x) : nmAt l k = x.name := by unfold nmAt; rw [h]
theorem nmAt_lt {l : List NM} {k : Nat} (h : k < l.length) : nmAt l k = (l[k]).name := nmAt_get (List.getElem?_eq_getElem h)
theorem sorted_at {l : List NM} (h : sortedP l) {i j : Nat} (hij : i < j) (hj : j < l.length) : nmAt l i < nmAt l j := by
  rw [nmAt_lt hj, nmAt_lt (by omega : i < l.length)]
  exact List.pairwise_iff_getElem.1 h i j (by omega) hj hij
/-- A place with all smaller names ahead and no smaller one behind. -/
def PlaceOf (l : List NM) (s : List UInt8) (k : Nat) : Prop := k ≤ l.length ∧ (∀ i, i < k → nmAt l i < s) ∧ ∀ i, k ≤ i → i < l.length → ¬ nmAt l i < s
theorem place_one {l : List NM} {s : List UInt8} {k j : Nat} (h : PlaceOf l s k) (h' : PlaceOf l s j) : k = j := by
  obtain ⟨a1, a2, a3⟩ := h
  obtain ⟨b1, b2, b3⟩ := h'
  rcases Nat.lt_trichotomy k j with h | h | h
  · exact absurd (b2 k h) (a3 k (Nat.le_refl _) (by omega))
  · exact h
  · exact absurd (a2 j h) (b3 j (Nat.le_refl _) (by omega))
theorem bsF_place {l : List NM} (hs : sortedP l) (s : List UInt8) : ∀ (f lo hi : Nat), hi - lo ≤ f → lo ≤ hi → hi ≤ l.length → (∀ i, i < lo → nmAt l i < s) → (∀ i, hi ≤ i → i < l.length → ¬ nmAt l i < s) → PlaceOf l s (bsF l s f lo hi)
  | 0, lo, hi, h, h0, h1, h2, h3 => by
    obtain rfl : lo = hi := by omega
    exact ⟨h1, h2, h3⟩
  | f + 1, lo, hi, h, h0, h1, h2, h3 => by
    rw [bsF]
    by_cases hlt : lo < hi
    · rw [if_pos hlt]
      by_cases hc : Lib.compareBytes (nmAt l ((lo + hi) / 2)) s < 0
      · rw [if_pos hc]
        refine bsF_place hs s f _ _ (by omega) (by omega) h1 (fun i hi' => ?_) h3
        rcases Nat.lt_or_ge i ((lo + hi) / 2) with h | h
        · exact blt_trans (sorted_at hs h (by omega)) ((cmp_neg _ _).1 hc)
        · obtain rfl : i = (lo + hi) / 2 := by omega
          exact (cmp_neg _ _).1 hc
      · rw [if_neg hc]
        refine bsF_place hs s f _ _ (by omega) (by omega) (by omega) h2 (fun i hi' hl hn => ?_)
        rcases Nat.lt_or_ge ((lo + hi) / 2) i with h | h
        · exact hc ((cmp_neg _ _).2 (blt_trans (sorted_at hs h hl) hn))
        · obtain rfl : i = (lo + hi) / 2 := by omega
          exact hc ((cmp_neg _ _).2 hn)
    · rw [if_neg hlt]
      obtain rfl : lo = hi := by omega
      exact ⟨h1, h2, h3⟩
theorem find_place {l : List NM} (hs : sortedP l) (s : List UInt8) : PlaceOf l s (findP l s) := bsF_place hs s _ 0 _ (by omega) (Nat.zero_le _) (Nat.le_refl _) (fun i h => by omega) (fun i h h' => by omega)

theorem found_spec {l : List NM} (hs : sortedP l) (s : List UInt8) : (foundP l s = true ∧ ∃ y, l[findP l s]? = some y ∧ l.find? (fun y => y.name == s) = some y) ∨ (foundP l s = false ∧ l.find? (fun y => y.name == s) = none) := by
  obtain ⟨h1, h2, h3⟩ := find_place hs s
  have hidx : ∀ y ∈ l, y.name = s → ∃ j, j < l.length ∧ l[j]? = some y ∧ nmAt l j = s ∧ j = findP l s := fun y hy e => by
    obtain ⟨j, hj, ej⟩ := List.getElem_of_mem hy
    have hg : l[j]? = some y := by rw [List.getElem?_eq_getElem hj, ej]
    have hn : nmAt l j = s := by rw [nmAt_get hg, e]
    refine ⟨j, hj, hg, hn, ?_⟩
    rcases Nat.lt_trichotomy j (findP l s) with h | h | h
    · exact absurd (h2 j h) (by rw [hn]; exact blt_irrefl s)
    · exact h
    · have := sorted_at hs h hj
      rw [hn] at this
      exact absurd this (h3 _ (Nat.le_refl _) (by omega))
  cases hf : l.find? (fun y => y.name == s) with
  | some y =>
    have hp := List.find?_some hf
    have hm := List.mem_of_find?_eq_some hf
    obtain ⟨j, hj, hg, hn, e⟩ := hidx y hm (by simpa using hp)
    refine .inl ⟨?_, y, by rw [← e]; exact hg, rfl⟩
    unfold foundP
    rw [← e, decide_eq_true hj, hn, (cmp_zero s s).2 rfl]
    rfl
  | none =>
    refine .inr ⟨?_, rfl⟩
    unfold foundP
    by_cases hk : findP l s < l.length
    · rw [decide_eq_true hk, Bool.true_and]
      refine beq_eq_false_iff_ne.2 fun e => ?_
      have := (cmp_zero _ _).1 e
      rw [nmAt_lt hk] at this
      have h := List.find?_eq_none.1 hf _ (List.getElem_mem hk)
      simp [this] at h
    · rw [decide_eq_false hk]; rfl
end Go.Proofs.YtlcoapignfmgcaaGreatDoor
namespace Go.Proofs.YtlcoapignfmgcaaGreatDoor
set_option linter.unusedVariables false
/-- Which node a name of a directory refers to. -/
def lkP (l : List ND) (d : Int) (s : List UInt8) : Int × Bool :=
  match (ndAt l d).names.find? (fun y => y.name == s) with
  | some y => (y.node, true)
  | none => (0, false)
def inB (l : List ND) (i : Int) : Bool := decide (0 ≤ i) && decide (i < (l.length : Int))
def hasP (l : List ND) (is : List Int) : Bool := is.all (inB l) && checkB l
def firstP : List Int → Int
  | [] => 0
  | e :: r => if e = 0 then firstP r else e
def writableP (l : List ND) (d : Int) : Int :=
  if (ndAt l d).kind = 2 then (if (ndAt l d).links = 0 then 20 else if (ndAt l d).mode % 4 = 3 then 0 else 24) else 22
def absentP (l : List ND) (d : Int) (s : List UInt8) : Int := if (lkP l d s).2 then 21 else 0
/-- A name put in, taken out, where it belongs. -/
def insN (t : List NM) (s : List UInt8) (i : Int) : List NM := t.take (findP t s) ++ [⟨s, i⟩] ++ t.drop (findP t s)
def remN (t : List NM) (s : List UInt8) : List NM := t.take (findP t s) ++ t.drop (findP t s + 1)
/-- A node changed. -/
def modA (l : List ND) (i : Int) (f : ND → ND) : List ND := l.set i.toNat (f (ndAt l i))
theorem modA_length (l : List ND) (i : Int) (f : ND → ND) : (modA l i f).length = l.length := by simp [modA]
def insP (l : List ND) (d : Int) (s : List UInt8) (k : Int) : List ND :=
  modA (modA l d fun n => { n with names := insN n.names s k }) k fun n => { n with links := n.links + 1 }
def remP (l : List ND) (d : Int) (s : List UInt8) : List ND :=
  modA (modA l d fun n => { n with names := remN n.names s }) (lkP l d s).1 fun n => { n with links := n.links - 1 }
/-- May a node be made? -/
def creatableP (n : ND) : Bool := n.names.isEmpty && checkB [⟨2, 7, 1, [], [⟨[110], 1⟩], []⟩, { n with links := 1 }]
def createP (l : List ND) (d : Int) (s : List UInt8) (n : ND) : List ND × Int × Int :=
  if hasP l [d] && creatableP n then
    let e := firstP [nameC s, writableP l d, absentP l d s]
    if e = 0 then (if 256 ≤ l.length then (l, 0, 35) else (insP (l ++ [{ n with links := 0 }]) d s l.length, l.length, 0)) else (l, 0, e)
  else (l, 0, 2)
def linkP (l : List ND) (k d : Int) (s : List UInt8) : List ND × Int :=
  if hasP l [k, d] then
    (if (ndAt l k).kind = 2 then (l, 23) else
      let e := firstP [nameC s, writableP l d, absentP l d s]
      if e = 0 then (insP l d s k, 0) else (l, e))
  else (l, 2)
def unlinkP (l : List ND) (d : Int) (s : List UInt8) : List ND × Int :=
  if hasP l [d] then
    (if writableP l d = 0 then
      (if (lkP l d s).2 then (if (ndAt l (lkP l d s).1).names.isEmpty then (remP l d s, 0) else (l, 26)) else (l, 20))
     else (l, writableP l d))
  else (l, 2)
def fileP (l : List ND) (k : Int) : Int :=
  if hasP l [k] then (if (ndAt l k).kind = 2 then 23 else if (ndAt l k).kind = 3 then 32 else 0) else 2
/-- What a file holds behind a write. -/
def putB (old : List UInt8) (off : Nat) (b : List UInt8) : List UInt8 :=
  let n := min b.length (4096 - off)
  (old.take off ++ List.replicate (off - old.length) 0) ++ b.take n ++ old.drop (off + n)
def writeP (l : List ND) (k off : Int) (b : List UInt8) : List ND × Int × Int :=
  if fileP l k = 0 then
    (if off < 0 ∨ 4096 < off then (l, 0, 2)
     else if b = [] then (l, 0, 0)
     else if off = 4096 then (l, 0, 35)
     else (modA l k fun n => { n with data := putB n.data off.toNat b }, min (b.length : Int) (4096 - off), 0))
  else (l, 0, fileP l k)
def readP (l : List ND) (k off n : Int) : List UInt8 × Int :=
  if fileP l k = 0 then (if off < 0 ∨ n < 0 then ([], 2) else (((ndAt l k).data.drop off.toNat).take n.toNat, 0)) else ([], fileP l k)
def truncP (l : List ND) (k : Int) : List ND × Int :=
  if fileP l k = 0 then (modA l k fun n => { n with data := [] }, 0) else (l, fileP l k)
theorem lk_found {l : List ND} {d : Int} {s : List UInt8} (hs : sortedP (ndAt l d).names) :
    (foundP (ndAt l d).names s = true ∧ ∃ y, (ndAt l d).names[findP (ndAt l d).names s]? = some y ∧ lkP l d s = (y.node, true)) ∨ (foundP (ndAt l d).names s = false ∧ lkP l d s = (0, false)) := by
  unfold lkP
  rcases found_spec hs s with ⟨h1, y, h2, h3⟩ | ⟨h1, h2⟩
  · exact .inl ⟨h1, y, h2, by rw [h3]⟩
  · exact .inr ⟨h1, by rw [h2]⟩
end Go.Proofs.YtlcoapignfmgcaaGreatDoor
