/- Ops. -/
import Derived.Test.YthbackkcamgidaaGreatDoorRuX
import Derived.Test.YthbackkcamgidaaGreatDoorRuT
import Derived.Sort.CutIn
import Derived.Maps.AppendAt
namespace Go.Proofs.YthbackkcamgidaaGreatDoor
open Go Go.RowKit
set_option linter.unusedVariables false
theorem seq48 (s : LB) (c : UInt8) (w : World) : Calls Tryz.prog 48 #[.string ⟨s.toArray⟩, .string ⟨#[c]⟩, .int .i64 0] w fun e w' => e = .returned (.func (.func 77) #[] #[.pointer (some ⟨w.heap.size + 1, 0, none⟩), .pointer (some ⟨w.heap.size, 0, none⟩), .pointer (some ⟨w.heap.size + 2, 0, none⟩)]) ∧
    w' = ((w.alloc (.cells #[.string ⟨s.toArray⟩] 9)).alloc (.cells #[.string ⟨#[c]⟩] 9)).alloc (.cells #[.int .i64 0] 3) := by
  go_enter Tryz.func48, Tryz.ntmps48
  go_wp2_with fail
  go_ret
  exact ⟨rfl, rfl⟩
theorem seq25 (s : LB) (c : UInt8) (w : World) : Calls Tryz.prog 25 #[.string ⟨s.toArray⟩, .string ⟨#[c]⟩] w fun e w' => e = .returned (.func (.func 77) #[] #[.pointer (some ⟨w.heap.size + 1, 0, none⟩), .pointer (some ⟨w.heap.size, 0, none⟩), .pointer (some ⟨w.heap.size + 2, 0, none⟩)]) ∧
    w' = ((w.alloc (.cells #[.string ⟨s.toArray⟩] 9)).alloc (.cells #[.string ⟨#[c]⟩] 9)).alloc (.cells #[.int .i64 0] 3) := by
  have X := hide (seq48 s c w)
  go_enter Tryz.func25, Tryz.ntmps25
  go_wp2_with fail
  refine X.out.mono ?_
  rintro e w1 ⟨rfl, hw⟩
  have HW := hide hw
  clear hw
  go_wp2_with fail
  go_ret
  exact ⟨rfl, HW.out⟩
/-- What holds between two rounds of Ops: the results' boxes, what is left, what is found. -/
structure OI (s : LB) (w : World) (z y : Nat) (pre : List LB) (W : World) : Prop where
  st : ∃ (out rest : List Int), opsGo (splitC 44 s) GO = (opsGo ((splitC 44 s).drop pre.length) rest).map (out ++ ·) ∧ out.length + rest.length ≤ 9 ∧
    (∃ AA an ac, Boxed W y 29 (.slice AA an ac) ∧ Reads W y 1 AA an (ivs rest) ∧ an ≤ ac) ∧ ∃ v, Boxed W (y + 1) 29 v ∧ W.ownsRow (y + 7) 3 1 v out.length (ivs out)
  r : ∃ v, Boxed W z 29 v
  k : ∃ v, Boxed W (z + 1) 4 v
  bel : Below z w W
  size : y + 5 ≤ W.heap.size
  zy : z + 2 ≤ y
/-- The early end of Ops. -/
def OZ (w : World) (z : Nat) (W : World) : Prop := Boxed W z 29 (.slice none 0 0) ∧ Boxed W (z + 1) 4 (.bool false) ∧ Below z w W
theorem boxed_put {W : World} {b l : Nat} {t : TypeId} {v : Value} {o' : Obj} (h : Boxed W b t v) (o : Obj) (hl : W.heap[l]? = some o') (ho : o'.isCells = false) : Boxed (W.putObj l o) b t v := by
  refine (World.putObj_heap_other ?_).trans h
  rintro rfl
  unfold Boxed at h
  rw [hl] at h
  injection h with h
  subst h
  cases ho
theorem below_put {B : Nat} {w W : World} {l : Nat} (o : Obj) (h : Below B w W) (hl : B ≤ l) : Below B w (W.putObj l o) :=
  h.trans ⟨rfl, rfl, rfl, by simp, fun k hk => World.putObj_heap_other (by omega)⟩
theorem Reads.putObj {W : World} {B size n l : Nat} {A : Option Addr} {xs : List Value} (h : Reads W B size A n xs) (o : Obj) (hl : B ≤ l) : Reads (W.putObj l o) B size A n xs :=
  h.keep fun p hp => World.cell?_of_block (World.putObj_heap_other (by omega))
theorem OI.put {s : LB} {w : World} {z y : Nat} {pre : List LB} {W : World} (h : OI s w z y pre W) (l : Nat) (o o' : Obj) (hle : y + 5 ≤ l) (hl : W.heap[l]? = some o') (ho : o'.isCells = false) : OI s w z y pre (W.putObj l o) := by
  obtain ⟨⟨out, rest, h1, h2, ⟨AA, an, ac, h3, h4, h5⟩, v, h7, h8⟩, ⟨v1, h9⟩, ⟨v2, h10⟩, h11, h12, h13⟩ := h
  exact ⟨⟨out, rest, h1, h2, ⟨AA, an, ac, boxed_put h3 o hl ho, h4.putObj o (by omega), h5⟩, v, boxed_put h7 o hl ho, ownsRow_putObj h8 o hl ho⟩, ⟨v1, boxed_put h9 o hl ho⟩, ⟨v2, boxed_put h10 o hl ho⟩, below_put o h11 (by omega), by simpa using h12, h13⟩
theorem OI.alloc {s : LB} {w : World} {z y : Nat} {pre : List LB} {W : World} (h : OI s w z y pre W) (o : Obj) : OI s w z y pre (W.alloc o) := by
  obtain ⟨⟨out, rest, h1, h2, ⟨AA, an, ac, h3, h4, h5⟩, v, h7, h8⟩, ⟨v1, h9⟩, ⟨v2, h10⟩, h11, h12, h13⟩ := h
  exact ⟨⟨out, rest, h1, h2, ⟨AA, an, ac, h3.alloc o, h4.alloc (by omega) o, h5⟩, v, h7.alloc o, World.ownsRow.alloc h8 o⟩, ⟨v1, h9.alloc o⟩, ⟨v2, h10.alloc o⟩, h11.alloc (by omega) o, by simp; omega, h13⟩
theorem OI.set {s : LB} {w : World} {z y : Nat} {pre : List LB} {W : World} (h : OI s w z y pre W) (b : Nat) (u : Value) (h1 : y + 2 ≤ b) (h2 : b < y + 5) : OI s w z y pre (W.setCell ⟨b, 0, none⟩ u) := by
  obtain ⟨⟨out, rest, g1, g2, ⟨AA, an, ac, g3, g4, g5⟩, v, g7, g8⟩, ⟨v1, g9⟩, ⟨v2, g10⟩, g11, g12, g13⟩ := h
  exact ⟨⟨out, rest, g1, g2, ⟨AA, an, ac, box_other g3 (by omega), g4.setCell (p := ⟨b, 0, none⟩) (by show y ≤ b; omega) _, g5⟩, v, box_other g7 (by omega), own_far g8 (p := ⟨b, 0, none⟩) (by show b < y + 7; omega) _⟩, ⟨v1, box_other g9 (by omega)⟩, ⟨v2, box_other g10 (by omega)⟩, g11.setCell (p := ⟨b, 0, none⟩) (by show z ≤ b; omega) _, by simpa using g12, g13⟩
theorem OZ.put {w : World} {z : Nat} {W : World} (h : OZ w z W) (l : Nat) (o o' : Obj) (hle : z ≤ l) (hl : W.heap[l]? = some o') (ho : o'.isCells = false) : OZ w z (W.putObj l o) :=
  ⟨boxed_put h.1 o hl ho, boxed_put h.2.1 o hl ho, below_put o h.2.2 hle⟩
/-- What the iterator needs kept. -/
def KT (y : Nat) (W W' : World) : Prop := ∀ k, (k = y + 2 ∨ k = y + 3 ∨ k = y + 4 ∨ k = y + 5) → W'.heap[k]? = W.heap[k]?
theorem reads_dropG {w : World} {B n c : Nat} {A : Option Addr} {xs : List Value} (h : Reads w B 1 A n xs) {k : Nat} (hk : k ≤ n) (hc : n ≤ c) : Reads w B 1 (if c = k then A else A.map (·.add k)) (n - k) (xs.drop k) := by
  refine ⟨by rw [List.length_drop, h.1]; omega, fun h0 => ?_⟩
  obtain ⟨ad, rfl, hb, hcl⟩ := h.2 (by omega)
  rw [if_neg (by omega)]
  refine ⟨_, rfl, by rw [block_of_add]; exact hb, fun j u hj => ?_⟩
  rw [add_of_add]
  exact hcl (k + j) u (by rwa [List.getElem?_drop] at hj)
theorem prefix_drop {α : Type} {pre xs : List α} {x : α} (h : (pre ++ [x]) <+: xs) : xs.drop pre.length = x :: xs.drop (pre ++ [x]).length ∧ pre.length < xs.length := by
  obtain ⟨t, rfl⟩ := h
  constructor
  · rw [List.append_assoc, List.drop_left, ← List.append_assoc, List.drop_left]; rfl
  · simp
theorem own_le {w : World} {B size n c : Nat} {e : TypeId} {A : Option Addr} {xs : List Value} (h : w.ownsRow B e size (.slice A n c) n xs) : n ≤ c := by
  rcases h.2 with ⟨hv, h0⟩ | ⟨g, cap, cur, hv, hb, hh, hnc, hmx, hsz, htk⟩
  · subst h0; exact Nat.zero_le _
  · injection hv with e1 e2 e3; subst e3; exact hnc
def OpsEnd (w : World) (s : LB) (e : Ending) (w' : World) : Prop := Below w.heap.size w w' ∧ match opsU s with
  | none => e = .returned (.tuple #[.slice none 0 0, .bool false])
  | some l => ∃ A n c, e = .returned (.tuple #[.slice A n c, .bool true]) ∧ w'.ownsRow w.heap.size 3 1 (.slice A n c) n (ivs l)
set_option maxRecDepth 100000 in
set_option maxHeartbeats 8000000 in
theorem ops_any (s : LB) (hs : s.length ≤ 4000000000) (w : World) (hS : StdR w) : Calls Tryz.prog 11 #[.string ⟨s.toArray⟩] w (OpsEnd w s) := by
  obtain ⟨z, hz⟩ : ∃ z, w.heap.size = z := ⟨_, rfl⟩
  refine calls_of_wpF Tryz.func11 rfl ?_
  simp only [Tryz.ntmps11, List.size_toArray, List.length_cons, List.length_nil, Nat.reduceAdd, Nat.reduceSub, Array.replicate_succ, Array.replicate_zero, List.push_toArray, List.append_toArray, List.nil_append, List.cons_append]
  have HS := hide hS
  clear hS
  refine WpF.seq_wp ?_
  go_wp2_with fail
  -- the two results' boxes
  have hbR0 := (Boxed.new w 29 (.slice none 0 0)).alloc (.cells #[.bool false] 4)
  have hbK0 := Boxed.new (w.alloc (.cells #[.slice none 0 0] 29)) 4 (.bool false)
  have hB0 := ((Below.refl w.heap.size w).alloc (Nat.le_refl _) (.cells #[.slice none 0 0] 29)).alloc (by simp) (.cells #[.bool false] 4)
  obtain ⟨W0, hW0⟩ : ∃ W, (w.alloc (.cells #[.slice none 0 0] 29)).alloc (.cells #[.bool false] 4) = W := ⟨_, rfl⟩
  have hs0 : W0.heap.size = z + 2 := by rw [← hW0, ← hz]; simp
  rw [World.size_alloc] at hbK0
  rw [hW0, hz] at hbR0 hbK0 hB0
  rw [hW0]
  try simp only [World.size_alloc, hz]
  have HbR0 := hide hbR0
  have HbK0 := hide hbK0
  have HB0 := hide hB0
  clear hbR0 hbK0 hB0 hW0
  have XG := hide (governed_any W0)
  rw [hs0] at XG
  have HS0 := hs0
  clear hs0
  refine WpF.seq_wp ?_
  go_wp2_with fail
  refine XG.out.mono ?_
  rintro e W1 ⟨GA, gc, rfl, hown, hb1⟩
  have hz1 : z + 2 ≤ W1.heap.size := by have := hb1.size; omega
  have HbR1 := hide (show Boxed W1 z 29 _ from (hb1.block z (by omega)).trans HbR0.out)
  have HbK1 := hide (show Boxed W1 (z + 1) 4 _ from (hb1.block (z + 1) (by omega)).trans HbK0.out)
  have HB1 := hide (HB0.out.trans (hb1.mono (by omega : z ≤ z + 2)))
  have HG1 := hide hown
  have hgr1 := Reads.of_own hown
  have hgc := own_le hown
  clear hb1 hown XG HbR0 HbK0 HB0
  obtain ⟨y, hy⟩ : ∃ y, W1.heap.size = y := ⟨_, rfl⟩
  rw [hy] at hz1 hgr1
  have HR1 := hide hgr1
  clear hgr1
  go_wp2_with fail
  try rw [hy]
  have HR2 : Hid (Reads (W1.alloc (.cells #[.slice GA 9 gc] 29)) y 1 GA 9 (ivs GO)) := hide (HR1.out.alloc (by omega) _)
  have HbR2 := hide (HbR1.out.alloc (.cells #[.slice GA 9 gc] 29))
  have HbK2 := hide (HbK1.out.alloc (.cells #[.slice GA 9 gc] 29))
  have HB2 := hide (HB1.out.alloc (by omega) (.cells #[.slice GA 9 gc] 29))
  have HG2 := hide (World.ownsRow.alloc HG1.out (.cells #[.slice GA 9 gc] 29))
  have HbA2 := hide (Boxed.new W1 29 (.slice GA 9 gc))
  rw [hy] at HbA2
  have hs2 : (W1.alloc (.cells #[.slice GA 9 gc] 29)).heap.size = y + 1 := by simp [hy]
  have HS2 := hide hs2
  clear hs2 HbR1 HbK1 HB1 HG1
  generalize W1.alloc (.cells #[.slice GA 9 gc] 29) = W2 at *
  have cA := HbA2.out.cell
  by_cases hst : s = [42]
  · have t1 : (s == [42]) = true := beq_iff_eq.2 hst
    have fR := HbR2.out.frozen
    have fK := HbK2.out.frozen
    have cR := HbR2.out.cell
    have cK := HbK2.out.cell
    refine WpF.seq_wp ?_
    go_wp2_with fail
    have e1 : (W2.setCell ⟨z, 0, none⟩ (.slice GA 9 gc)).setCell ⟨z + 1, 0, none⟩ (.bool true) = (W2.setCell ⟨z, 0, none⟩ (.slice GA 9 gc)).setCell ⟨z + 1, 0, none⟩ (.bool true) := rfl
    have hR3 := (box_other (HbR2.out.set (.slice GA 9 gc)) (by omega : z ≠ z + 1) (u := .bool true)).cell
    have hK3 := ((box_other HbK2.out (by omega : z + 1 ≠ z) (u := .slice GA 9 gc)).set (.bool true)).cell
    refine ⟨.tuple #[.slice GA 9 gc, .bool true], ?_, ?_, ?_⟩
    · simp [results, Tryz.results11, go_sem, hR3, hK3]
    · rw [hz]
      exact (HB2.out.setCell (p := ⟨z, 0, none⟩) (Nat.le_refl _) _).setCell (p := ⟨z + 1, 0, none⟩) (by show z ≤ z + 1; omega) _
    · have : opsU s = some GO := by rw [hst]; rfl
      rw [this]
      refine ⟨GA, 9, gc, rfl, ?_⟩
      rw [hz]
      exact own_more (own_far (own_far HG2.out (p := ⟨z, 0, none⟩) (by show z < z + 2; omega) _) (p := ⟨z + 1, 0, none⟩) (by show z + 1 < z + 2; omega) _) (by omega)
  have t1 : (s == [42]) = false := beq_eq_false_iff_ne.2 hst
  have HOP : Hid (opsU s = opsGo (splitC 44 s) GO) := hide (by unfold opsU; rw [if_neg hst])
  clear hst
  refine WpF.seq_wp ?_
  go_wp2_with fail
  refine WpF.seq_wp ?_
  go_wp2_with fail
  rw [HS2.out]
  have HbR3 := hide (HbR2.out.alloc (.cells #[.slice none 0 0] 29))
  have HbK3 := hide (HbK2.out.alloc (.cells #[.slice none 0 0] 29))
  have HB3 := hide (HB2.out.alloc (by rw [HS2.out]; omega) (.cells #[.slice none 0 0] 29))
  have HG3 := hide (World.ownsRow.alloc HG2.out (.cells #[.slice none 0 0] 29))
  have HbA3 := hide (HbA2.out.alloc (.cells #[.slice none 0 0] 29))
  have HbO3 := hide (Boxed.new W2 29 (.slice none 0 0))
  rw [HS2.out] at HbO3
  have HS3 : Hid ((W2.alloc (.cells #[.slice none 0 0] 29)).heap.size = y + 2) := hide (by rw [World.size_alloc, HS2.out])
  have HR3 : Hid (Reads (W2.alloc (.cells #[.slice none 0 0] 29)) y 1 GA 9 (ivs GO)) := hide (HR2.out.alloc (by rw [HS2.out]; omega) _)
  clear HbR2 HbK2 HB2 HG2 HbA2 cA HR1 HR2
  generalize W2.alloc (.cells #[.slice none 0 0] 29) = W3 at *
  refine WpF.seq ?_
  have XQ := hide (seq25 s 44 W3)
  rw [HS3.out] at XQ
  refine WpF.seq_wp ?_
  go_wp2_with fail
  refine XQ.out.mono ?_
  rintro e W4 ⟨rfl, hw4⟩
  have hbe : Below (y + 2) W3 W4 := by
    rw [hw4, ← HS3.out]
    exact (((Below.refl _ W3).alloc (Nat.le_refl _) _).alloc (by simp) _).alloc (by simp; omega) _
  have HbR4 := hide (show Boxed W4 z 29 _ from (hbe.block z (by omega)).trans HbR3.out)
  have HbK4 := hide (show Boxed W4 (z + 1) 4 _ from (hbe.block (z + 1) (by omega)).trans HbK3.out)
  have HbA4 := hide (show Boxed W4 y 29 _ from (hbe.block y (by omega)).trans HbA3.out)
  have HbO4 := hide (show Boxed W4 (y + 1) 29 _ from (hbe.block (y + 1) (by omega)).trans HbO3.out)
  have HB4 := hide (HB3.out.trans (hbe.mono (by omega : z ≤ y + 2)))
  have HR4 := hide (HR3.out.below (hbe.mono (by omega : y ≤ y + 2)))
  have HG4 := hide (own_keep HG3.out (fun k hk hk2 => hbe.block k (by rw [HS3.out] at hk2; omega)))
  have HX4 : Hid (B3 W4 (y + 3) (y + 2) (y + 4) 44 s) := hide (by
    have e1 := ((Boxed.new W3 9 (.string ⟨s.toArray⟩)).alloc (.cells #[.string ⟨#[44]⟩] 9)).alloc (.cells #[.int .i64 0] 3)
    have e2 := (Boxed.new (W3.alloc (.cells #[.string ⟨s.toArray⟩] 9)) 9 (.string ⟨#[44]⟩)).alloc (.cells #[.int .i64 0] 3)
    have e3 := Boxed.new ((W3.alloc (.cells #[.string ⟨s.toArray⟩] 9)).alloc (.cells #[.string ⟨#[44]⟩] 9)) 3 (.int .i64 0)
    rw [← hw4, HS3.out] at e1
    rw [← hw4, World.size_alloc, HS3.out] at e2
    rw [← hw4, World.size_alloc, World.size_alloc, HS3.out] at e3
    exact ⟨e2, e1, e3⟩)
  have hs4 : W4.heap.size = y + 5 := by rw [hw4]; simp [HS3.out]
  have HSR : Hid (StdR W4) := hide (HS.out.below (by rw [hz]; exact HB4.out))
  clear hbe hw4 XQ HbR3 HbK3 HbA3 HbO3 HB3 HG3
  have HOI : Hid (OI s w z y [] W4) := hide {
    st := ⟨[], GO, by simp, by decide, ⟨GA, 9, gc, HbA4.out, HR4.out, hgc⟩, _, HbO4.out, World.ownsRow_nil _ _ _ _⟩
    r := ⟨_, HbR4.out⟩
    k := ⟨_, HbK4.out⟩
    bel := HB4.out
    size := by omega
    zy := hz1 }
  clear HbR4 HbK4 HbA4 HbO4 HB4 HG4 HR4 HR3
  have HW4B : Hid (∀ x ∈ splitC 44 s, True) := hide (fun _ _ => trivial)
  go_wp2_with fail
  refine WpF.block ?_
  refine WpF.range (d := y + 5) hs4 Tryz.func11 (gf := 77) rfl (enters_of Tryz.func77 (by kernel_rfl) rfl) (fun x : LB => #[.string ⟨x.toArray⟩]) (fun _ => rfl) (KT y) ?hT ?hTp
    (fun pre W => OI s w z y pre W) (fun W => OZ w z W ∧ opsU s = none) (fun _ _ => False) ?hI ?hZ (splitC 44 s) ?h0 ?hround ?hiter ?hdone ?hret ?hpan
  case hT =>
    intro W W' h
    rcases Classical.em (W.heap[y + 5]? = some (.deferred (some []))) with h1 | h1
    · exact .inl ((h _ (.inr (.inr (.inr rfl)))).trans h1)
    · exact .inr h1
  case hTp => exact fun W W' o h k hk => (World.putObj_heap_other (by omega)).trans (h k hk)
  case hI => exact fun pre W l o o' h hle hl ho _ => h.put l o o' hle hl ho
  case hZ => exact fun W l o o' h hle hl ho _ => ⟨h.1.put l o o' (by omega) hl ho, h.2⟩
  case h0 => exact fun o1 o2 => (HOI.out.alloc o1).alloc o2
  case hpan => exact fun ch W h => h.elim
  case hret =>
    rintro W ⟨⟨hR, hK, hB⟩, hno⟩ hD
    refine ⟨by simp, .inl ⟨_, _, rfl, run_takeDeferred hD, ?_⟩⟩
    have hR3 := (boxed_put hR (.deferred none) hD rfl).cell
    have hK3 := (boxed_put hK (.deferred none) hD rfl).cell
    refine ⟨.tuple #[.slice none 0 0, .bool false], ?_, ?_, ?_⟩
    · simp [results, Tryz.results11, go_sem, hR3, hK3]
    · rw [hz]; exact below_put _ hB (by omega)
    · rw [hno]
  case hdone =>
    rintro W h hD
    obtain ⟨⟨out, rest, g1, g2, _, v, g7, g8⟩, ⟨v1, g9⟩, ⟨v2, g10⟩, g11, g12, g13⟩ := h
    have hop : opsU s = some out := by
      rw [HOP.out, g1, List.drop_length]
      simp [opsGo]
    obtain ⟨A, c, rfl⟩ := own_slice g8
    have cO := g7.cell
    have cR := g9.cell
    have cK := g10.cell
    have fR := g9.frozen
    have fK := g10.frozen
    have HR3 := hide (box_other (g9.set (.slice A out.length c)) (by omega : z ≠ z + 1) (u := .bool true))
    have HK3 := hide ((box_other g10 (by omega : z + 1 ≠ z) (u := .slice A out.length c)).set (.bool true))
    have HD3 : Hid (((W.setCell ⟨z, 0, none⟩ (.slice A out.length c)).setCell ⟨z + 1, 0, none⟩ (.bool true)).heap[y + 5]? = some (.deferred (some []))) := hide ((Below.heap_setCell _ _ _ _ (by show y + 5 ≠ z + 1; omega)).trans ((Below.heap_setCell _ _ _ _ (by show y + 5 ≠ z; omega)).trans hD))
    have HOW := hide (own_far (own_far g8 (p := ⟨z, 0, none⟩) (by show z < y + 7; omega) (.slice A out.length c)) (p := ⟨z + 1, 0, none⟩) (by show z + 1 < y + 7; omega) (.bool true))
    have HBB := hide ((g11.setCell (p := ⟨z, 0, none⟩) (Nat.le_refl _) (.slice A out.length c)).setCell (p := ⟨z + 1, 0, none⟩) (by show z ≤ z + 1; omega) (.bool true))
    have HOPP := hide hop
    clear g1 g8 g7 g9 g10 g11 hD hop HOP
    show WpF _ _ _ _ _ _
    refine WpF.of ?_
    go_wp2_with fail
    refine ⟨by simp, .inl ⟨_, _, rfl, run_takeDeferred HD3.out, ?_⟩⟩
    have hR4 := (boxed_put HR3.out (.deferred none) HD3.out rfl).cell
    have hK4 := (boxed_put HK3.out (.deferred none) HD3.out rfl).cell
    refine ⟨.tuple #[.slice A out.length c, .bool true], ?_, ?_, ?_⟩
    · simp [results, Tryz.results11, go_sem, hR4, hK4]
    · rw [hz]; exact below_put _ HBB.out (by omega)
    · rw [HOPP.out]
      exact ⟨A, _, c, rfl, by rw [hz]; exact own_more (ownsRow_putObj HOW.out _ HD3.out rfl) (by omega)⟩
  case hiter =>
    rintro R D W _ _ _ _ ⟨o1, o2, hW⟩ hJ hY
    refine split_iter 44 s (by omega) (y + 3) (y + 2) (y + 4) (y + 5) R D (KT y) _ _ _ W ⟨by omega, by omega, by omega, by omega⟩ ?_ hJ ?_ ?_ hY
    · rw [hW]
      exact ⟨(HX4.out.sep.alloc o1).alloc o2, (HX4.out.txt.alloc o1).alloc o2, (HX4.out.num.alloc o1).alloc o2⟩
    · exact fun p W v u h _ => h.set _ _ (by omega) (by omega)
    · exact fun W W' t h hb => ⟨(h _ (.inr (.inl rfl))).trans hb.sep, (h _ (.inl rfl)).trans hb.txt, (h _ (.inr (.inr (.inl rfl)))).trans hb.num⟩
  case hround =>
    rintro pre x W hI hpx ⟨o0, ho0, _, _⟩
    clear HOI HX4
    have hsz := hI.size
    have hdl : y + 6 < W.heap.size := (Array.getElem?_eq_some_iff.1 ho0).1
    have HSW := hide (HS.out.below (by rw [hz]; exact hI.bel))
    have HI1 := hide (hI.alloc (.cells #[.string ⟨x.toArray⟩] 9))
    have HNB := hide (Boxed.new W 9 (.string ⟨x.toArray⟩))
    obtain ⟨m, hm⟩ : ∃ m, W.heap.size = m := ⟨_, rfl⟩
    rw [hm] at HNB hsz hdl
    have HK0 : Hid (KT y W (W.alloc (.cells #[.string ⟨x.toArray⟩] 9))) := hide (fun k hk => Below.heap_alloc _ _ _ (by omega))
    have HH0 : Hid ((W.alloc (.cells #[.string ⟨x.toArray⟩] 9)).heap[y + 5 + 1]? = W.heap[y + 5 + 1]?) := hide (Below.heap_alloc _ _ _ (by omega))
    gi_wp2_with (rw [Oper.semAt_eq _ _ _ (fun c h => by cases h)]; go_simp)
    try rw [hm]
    refine ⟨HH0.out, fun o ho1 ho2 => ?_⟩
    have hnc : o0.isCells = false := by assumption
    have hl1 : (W.alloc (.cells #[.string ⟨x.toArray⟩] 9)).heap[y + 5 + 1]? = some o0 := HH0.out.trans ho0
    have HIV := hide (HI1.out.put (y + 5 + 1) o o0 (by omega) hl1 hnc)
    have HNV := hide (boxed_put HNB.out o hl1 hnc)
    have HKV : Hid (KT y W ((W.alloc (.cells #[.string ⟨x.toArray⟩] 9)).putObj (y + 5 + 1) o)) := hide (fun k hk => (World.putObj_heap_other (by omega)).trans (HK0.out k hk))
    have HLV : Hid (((W.alloc (.cells #[.string ⟨x.toArray⟩] 9)).putObj (y + 5 + 1) o).heap[y + 5 + 1]? = some o) := hide (World.putObj_heap_same (by simp; omega))
    have hsv : ((W.alloc (.cells #[.string ⟨x.toArray⟩] 9)).putObj (y + 5 + 1) o).heap.size = m + 1 := by simp [hm]
    clear HI1 HNB HK0 HH0 hl1 hI
    generalize (W.alloc (.cells #[.string ⟨x.toArray⟩] 9)).putObj (y + 5 + 1) o = V at *
    obtain ⟨hxd, hxl⟩ := prefix_drop hpx
    have HXD := hide hxd
    clear hxd hpx ho0
    obtain ⟨⟨out, rest, g1, g2, ⟨AA, an, ac, g3, g4, g5⟩, v, g7, g8⟩, ⟨v1, g9⟩, ⟨v2, g10⟩, g11, g12, g13⟩ := HIV.out
    clear HIV
    have HSV := hide (HS.out.below (by rw [hz]; exact g11))
    have hral : rest.length = an := by have := g4.1; rw [ivs_length] at this; omega
    have XI := hide (idx_any rest x AA an ac m V HSV.out (g4.more (by omega)) (by omega) HNV.out.cell)
    have cA := g3.cell
    have HG1 := hide g1
    rw [HXD.out] at HG1
    have HB3 := hide g3
    have HB7 := hide g7
    have HO8 := hide g8
    have HR9 := hide g9
    have HK10 := hide g10
    have HB11 := hide g11
    have HRD := hide g4
    clear g1 g3 g7 g8 g9 g10 g11 g4 HSV
    cases hix : idxO x rest with
    | none =>
      have HN : Hid (opsU s = none) := hide (by
        rw [HOP.out, HG1.out, opsGo, idx_none hix]; rfl)
      rw [hix] at XI
      clear hix
      gi_wp2_with (rw [Oper.semAt_eq _ _ _ (fun c h => by cases h)]; go_simp)
      refine ⟨trivial, rfl, (CallsIn.inRound _ (callsIn_wide.2 XI.out)).mono ?_⟩
      rintro e V1 ⟨rfl, q, rfl⟩
      have cR := HR9.out.cell
      have cK := HK10.out.cell
      have fR := HR9.out.frozen
      have fK := HK10.out.frozen
      gi_wp2_with (rw [Oper.semAt_eq _ _ _ (fun c h => by cases h)]; go_simp)
      refine ⟨fun k hk => ?_, ?_, .inr (.inl ⟨rfl, ⟨?_, ?_, ?_⟩, HN.out⟩)⟩
      · exact (Below.heap_setCell _ _ _ _ (by show k ≠ z + 1; omega)).trans ((Below.heap_setCell _ _ _ _ (by show k ≠ z; omega)).trans (HKV.out k hk))
      · exact (Below.heap_setCell _ _ _ _ (by show y + 5 + 1 ≠ z + 1; omega)).trans ((Below.heap_setCell _ _ _ _ (by show y + 5 + 1 ≠ z; omega)).trans HLV.out)
      · exact box_other (HR9.out.set (.slice none 0 0)) (by omega : z ≠ z + 1) (u := .bool false)
      · exact (box_other HK10.out (by omega : z + 1 ≠ z) (u := .slice none 0 0)).set (.bool false)
      · exact ((below_drewN HB11.out q).setCell (p := ⟨z, 0, none⟩) (Nat.le_refl _) _).setCell (p := ⟨z + 1, 0, none⟩) (by show z ≤ z + 1; omega) _
    | some k =>
      obtain ⟨o', hk1, hdw⟩ := idx_some hix
      rw [hix] at XI
      have XI2 : Hid (Calls Tryz.prog 26 #[.slice AA an ac, .func (.func 27) #[] #[.pointer (some ⟨m, 0, none⟩)]] V fun e w' => e = .returned (.int .i64 (k : Int)) ∧ ∃ q, w' = V.drewN q) := XI
      obtain ⟨hk, hke⟩ := List.getElem?_eq_some_iff.1 hk1
      have HGN : Hid (opsGo (splitC 44 s) GO = (opsGo ((splitC 44 s).drop (pre ++ [x]).length) (rest.drop (k + 1))).map ((out ++ [o']) ++ ·)) := hide (by
        rw [HG1.out, opsGo, hdw]
        dsimp only
        rw [Option.map_map]
        congr 1
        funext t
        simp)
      clear hix hdw XI HG1
      gi_wp2_with (rw [Oper.semAt_eq _ _ _ (fun c h => by cases h)]; go_simp)
      refine ⟨trivial, rfl, (CallsIn.inRound _ (callsIn_wide.2 XI2.out)).mono ?_⟩
      rintro e V1 ⟨rfl, q, rfl⟩
      clear XI2
      have k0 : ¬ (k : Int) < 0 := by omega
      have HB3' := hide (show Boxed (V.drewN q) y _ _ from HB3.out)
      have HB7' := hide (show Boxed (V.drewN q) (y + 1) _ _ from HB7.out)
      have HO8' := hide (own_drewN HO8.out q)
      have HR9' := hide (show Boxed (V.drewN q) z _ _ from HR9.out)
      have HK10' := hide (show Boxed (V.drewN q) (z + 1) _ _ from HK10.out)
      have HB11' := hide (below_drewN HB11.out q)
      have HRD' := hide (HRD.out.drewN q)
      have HKV' := hide (show KT y W (V.drewN q) from HKV.out)
      have HLV' := hide (show (V.drewN q).heap[y + 5 + 1]? = some o from HLV.out)
      have hsv' : (V.drewN q).heap.size = m + 1 := hsv
      clear HB3 HB7 HO8 HR9 HK10 HB11 HRD HKV HLV hsv HNV cA
      generalize V.drewN q = U at *
      obtain ⟨A8, c8, rfl⟩ := own_slice HO8'.out
      have cA := HB3'.out.cell
      have cO := HB7'.out.cell
      obtain ⟨gA, oA, rfl, hgA, hcA⟩ := cells_of HRD'.out (by omega) (by rw [ivs_length]; omega)
      have hck : U.cell? ⟨gA, oA + k, none⟩ = some (.int .i64 o') := by
        have := hcA k _ (ivs_get rest k hk)
        rwa [hke] at this
      have hkn : (k : Int) < (an : Int) := by omega
      have hk0 : (0 : Int) ≤ (k : Int) := by omega
      have kw : IntKind.i64.wrap ((k : Int) + 1) = (k : Int) + 1 := by simp [IntKind.wrap, IntKind.bits, IntKind.signed]; omega
      obtain ⟨i0, hi, hz0, hz1, hz2⟩ := info_parts infoInt
      clear hcA
      gi_wp2_with (rw [Oper.semAt_eq _ _ _ (fun c h => by cases h)]; go_simp)
      refine wpIn_region_KN (fun V => V.cell? ⟨y + 1, 0, none⟩ = some (.slice A8 out.length c8) ∧ V.cell? ⟨y, 0, none⟩ = some (.slice (some ⟨gA, oA, none⟩) an ac) ∧ V.cell? ⟨gA, oA + k, none⟩ = some (.int .i64 o')) [6, 7] rfl (by kernel_rfl) ⟨cO, cA, hck⟩ (fun hHeld => ?_)
      refine wpAnyK_take (i := 0) (v := ?_) rfl rfl (by kernel_rfl) (fun _ _ _ h => nomatch h.1) (Or.inl ⟨by rfl, ?_⟩) (by assumption) ?_
      rotate_left
      · (intro V hV; (try dsimp only at hV); go_simp; with_reducible rfl)
      try simp only [Act.put, List.setIfInBounds_toArray, List.set_cons_zero, List.set_cons_succ]
      refine wpAnyK_take (i := 1) (v := ?_) rfl rfl (by kernel_rfl) (fun _ _ _ h => nomatch h.1) (Or.inl ⟨by rfl, ?_⟩) (by assumption) ?_
      rotate_left
      · (intro V hV; (try dsimp only at hV); go_simp; with_reducible rfl)
      try simp only [Act.put, List.setIfInBounds_toArray, List.set_cons_zero, List.set_cons_succ]
      refine wpAnyK_take (i := 2) (v := ?_) rfl rfl (by kernel_rfl) (fun _ _ _ h => nomatch h.1) (Or.inl ⟨by rfl, ?_⟩) (by assumption) ?_
      rotate_left
      · (intro V hV; (try dsimp only at hV); go_simp; with_reducible rfl)
      try simp only [Act.put, List.setIfInBounds_toArray, List.set_cons_zero, List.set_cons_succ]
      refine wpAnyK_take (i := 3) (v := ?_) rfl rfl (by kernel_rfl) (fun _ _ _ h => nomatch h.1) (Or.inl ⟨by rfl, ?_⟩) (by assumption) ?_
      rotate_left
      · (intro V hV; (try dsimp only at hV); go_simp; with_reducible rfl)
      try simp only [Act.put, List.setIfInBounds_toArray, List.set_cons_zero, List.set_cons_succ]
      refine wpAnyK_take (i := 4) (v := ?_) rfl rfl (by kernel_rfl) (fun _ _ _ h => nomatch h.1) (Or.inl ⟨by rfl, ?_⟩) (by assumption) ?_
      rotate_left
      · (intro V hV; (try dsimp only at hV); go_simp; with_reducible rfl)
      try simp only [Act.put, List.setIfInBounds_toArray, List.set_cons_zero, List.set_cons_succ]
      refine wpAnyK_step (i := 5) (by kernel_rfl) rfl rfl (fun K hK => ?_)
      go_simp
      have HOb := hide (World.ownsRow.alloc HO8'.out (.cells #[.int .i64 o'] 3))
      have h1r := one_int U o'
      rw [hsv'] at h1r
      have HRb := hide h1r
      have HR9b := hide (HR9'.out.alloc (.cells #[.int .i64 o'] 3))
      have HK10b := hide (HK10'.out.alloc (.cells #[.int .i64 o'] 3))
      have HB3b := hide (HB3'.out.alloc (.cells #[.int .i64 o'] 3))
      have HB7b := hide (HB7'.out.alloc (.cells #[.int .i64 o'] 3))
      have HBb := hide (HB11'.out.alloc (by omega) (.cells #[.int .i64 o'] 3))
      have HRDb := hide (HRD'.out.alloc (by omega) (.cells #[.int .i64 o'] 3))
      have HKb : Hid (KT y W (U.alloc (.cells #[.int .i64 o'] 3))) := hide (fun k hk => (Below.heap_alloc _ _ _ (by omega)).trans (HKV'.out k hk))
      have HLb : Hid ((U.alloc (.cells #[.int .i64 o'] 3)).heap[y + 5 + 1]? = some o) := hide ((Below.heap_alloc _ _ _ (by omega)).trans HLV'.out)
      have hsb : (U.alloc (.cells #[.int .i64 o'] 3)).heap.size = m + 2 := by simp [hsv']
      clear HO8' HR9' HK10' HB3' HB7' HB11' HRD' HKV' HLV' h1r cO cA hck hHeld hsv'
      have HOc := hide (show (U.alloc (.cells #[.int .i64 o'] 3)).drew.ownsRow _ _ _ _ _ _ from HOb.out)
      have HRc := hide (show Reads (U.alloc (.cells #[.int .i64 o'] 3)).drew _ _ _ _ _ from HRb.out)
      have HR9c := hide (show Boxed (U.alloc (.cells #[.int .i64 o'] 3)).drew _ _ _ from HR9b.out)
      have HK10c := hide (show Boxed (U.alloc (.cells #[.int .i64 o'] 3)).drew _ _ _ from HK10b.out)
      have HB3c := hide (show Boxed (U.alloc (.cells #[.int .i64 o'] 3)).drew _ _ _ from HB3b.out)
      have HB7c := hide (show Boxed (U.alloc (.cells #[.int .i64 o'] 3)).drew _ _ _ from HB7b.out)
      have HBc := hide (below_drewN HBb.out 1)
      change Hid (Below z w (U.alloc (.cells #[.int .i64 o'] 3)).drew) at HBc
      have HRDc := hide (show Reads (U.alloc (.cells #[.int .i64 o'] 3)).drew _ _ _ _ _ from HRDb.out)
      have HKc := hide (show KT y W (U.alloc (.cells #[.int .i64 o'] 3)).drew from HKb.out)
      have HLc := hide (show (U.alloc (.cells #[.int .i64 o'] 3)).drew.heap[y + 5 + 1]? = some o from HLb.out)
      have hsc : (U.alloc (.cells #[.int .i64 o'] 3)).drew.heap.size = m + 2 := hsb
      clear HOb HRb HR9b HK10b HB3b HB7b HBb HRDb HKb HLb hsb
      generalize (U.alloc (.cells #[.int .i64 o'] 3)).drew = Ua at *
      refine hK.out _ _ (fun _ _ => ⟨HB7c.out.cell, HB3c.out.cell, ?hx⟩) ?_
      case hx =>
        have := HRDc.out.2 (by omega)
        obtain ⟨ad, e1, _, hc⟩ := this
        injection e1 with e1
        subst e1
        have := hc k _ (ivs_get rest k hk)
        rw [at_add] at this
        rw [this]
        rw [(List.getElem?_eq_some_iff.1 (by assumption : rest[k]? = some o')).2]
      clear hK K
      simp only [List.setIfInBounds_toArray]
      refine wpAnyK_step (i := 6) (by kernel_rfl) rfl rfl (fun K hK => ?_)
      refine step_append_any _ rfl (.tmp 20) (.tmp 25) 29 rfl (y + 7) 3 i0 _ 1 8 Tryz.underlying29 hi hz0 hz1 hz2 rfl (by omega) (.slice A8 out.length c8) out.length (ivs out) rfl HOc.out _ (some ⟨m + 1, 0, none⟩) 1 1 (ivs [o']) rfl HRc.out (ivs_one _) (by unfold maxLen; omega) (by omega) (by rw [hsc]; omega) ?_
      intro v9 Ub hown hgr hat
      obtain ⟨A9, c9, rfl⟩ := own_slice hown
      have hbe : Below (y + 7) Ua Ub := Below.grown (h := Below.refl (y + 7) Ua) (hg := hgr) (by rw [hsc]; omega) (fun g hg => (World.ownsRow.lt HOc.out g hg).1)
      have HR9d := hide (show Boxed Ub z _ _ from (hbe.block z (by omega)).trans HR9c.out)
      have HK10d := hide (show Boxed Ub (z + 1) _ _ from (hbe.block (z + 1) (by omega)).trans HK10c.out)
      have HB3d := hide (show Boxed Ub y _ _ from (hbe.block y (by omega)).trans HB3c.out)
      have HB7d := hide (show Boxed Ub (y + 1) _ _ from (hbe.block (y + 1) (by omega)).trans HB7c.out)
      have HBd := hide (HBc.out.trans (hbe.mono (by omega : z ≤ y + 7)))
      have HRDd := hide (HRDc.out.below (hbe.mono (by omega : y ≤ y + 7)))
      have HKd : Hid (KT y W Ub) := hide (fun k hk => (hbe.block k (by omega)).trans (HKc.out k hk))
      have HLd := hide ((hbe.block (y + 5 + 1) (by omega)).trans HLc.out)
      have hsd : m + 2 ≤ Ub.heap.size := by have := hbe.size; omega
      have HOd := hide hown
      clear HOc HRc HR9c HK10c HB3c HB7c HBc HRDc HKc HLc hsc hbe hown hgr hat
      have cB7 := HB7d.out.cell
      have fB7 := HB7d.out.frozen
      refine hK.out _ _ (fun _ h => absurd (by simp) h) ?_
      clear hK K
      simp only [List.setIfInBounds_toArray, Act.put]
      refine wpAnyK_step (i := 7) (by kernel_rfl) rfl rfl (fun K hK => ?_)
      go_simp
      refine hK.out _ _ (fun _ h => absurd (by simp) h) ?_
      clear hK K
      simp only [List.setIfInBounds_toArray]
      refine wpAnyK_done (by kernel_rfl) ⟨rfl, ?_⟩ _
      have HB7e := hide (HB7d.out.set (.slice A9 (out.length + 1) c9))
      have HB3e := hide (box_other HB3d.out (by omega : y ≠ y + 1) (u := .slice A9 (out.length + 1) c9))
      have HR9e := hide (box_other HR9d.out (by omega : z ≠ y + 1) (u := .slice A9 (out.length + 1) c9))
      have HK10e := hide (box_other HK10d.out (by omega : z + 1 ≠ y + 1) (u := .slice A9 (out.length + 1) c9))
      have HBe := hide (HBd.out.setCell (p := ⟨y + 1, 0, none⟩) (by show z ≤ y + 1; omega) (.slice A9 (out.length + 1) c9))
      have HRDe := hide (HRDd.out.setCell (p := ⟨y + 1, 0, none⟩) (by show y ≤ y + 1; omega) (.slice A9 (out.length + 1) c9))
      have HKe : Hid (KT y W (Ub.setCell ⟨y + 1, 0, none⟩ (.slice A9 (out.length + 1) c9))) := hide (fun k hk => (Below.heap_setCell _ _ _ _ (by show k ≠ y + 1; omega)).trans (HKd.out k hk))
      have HLe := hide ((Below.heap_setCell Ub ⟨y + 1, 0, none⟩ (.slice A9 (out.length + 1) c9) (y + 5 + 1) (by show y + 5 + 1 ≠ y + 1; omega)).trans HLd.out)
      have HOe := hide (own_far HOd.out (p := ⟨y + 1, 0, none⟩) (by show y + 1 < y + 7; omega) (.slice A9 (out.length + 1) c9))
      have hse : m + 2 ≤ (Ub.setCell ⟨y + 1, 0, none⟩ (.slice A9 (out.length + 1) c9)).heap.size := by simpa using hsd
      clear HR9d HK10d HB3d HB7d HBd HRDd HKd HLd hsd HOd cB7 fB7
      generalize Ub.setCell ⟨y + 1, 0, none⟩ (.slice A9 (out.length + 1) c9) = Uc at *
      have cA := HB3e.out.cell
      have fA := HB3e.out.frozen
      obtain ⟨RA, hRA⟩ : ∃ RA, (if ac = k + 1 then (some ⟨gA, oA, none⟩ : Option Addr) else (some ⟨gA, oA, none⟩ : Option Addr).map (·.add (k + 1))) = RA := ⟨_, rfl⟩
      have hsl : ∀ V, (Instr.slice 29 (.slice (some ⟨gA, oA, none⟩) an ac) (some (.int .i64 ((k : Int) + 1))) none none).run Tryz.prog V = .ok (.slice RA (an - (k + 1)) (ac - (k + 1))) V := fun V => by
        rw [run_slice_from 29 3 Tryz.underlying29 sizeInt _ _ _ .i64 _ (by omega) (by omega) V, ← hRA]
        rfl
      have hrd := reads_dropG HRDe.out (show k + 1 ≤ an by omega) g5
      rw [hRA, ← ivs_drop] at hrd
      have HRDf := hide hrd
      clear hrd hRA HRDe
      gi_wp2_with (rw [Oper.semAt_eq _ _ _ (fun c h => by cases h)]; go_simp)
      refine ⟨fun k hk => (Below.heap_setCell _ _ _ _ (by show k ≠ y; omega)).trans (HKe.out k hk), (Below.heap_setCell _ _ _ _ (by show y + 5 + 1 ≠ y; omega)).trans HLe.out, .inl ⟨rfl, ?_⟩⟩
      exact {
        st := ⟨out ++ [o'], rest.drop (k + 1), HGN.out, by simp [List.length_drop]; omega, ⟨RA, _, _, HB3e.out.set _, HRDf.out.setCell (p := ⟨y, 0, none⟩) (Nat.le_refl _) _, by omega⟩, _, box_other HB7e.out (by omega), by
          rw [ivs_append, List.length_append]
          exact own_far HOe.out (p := ⟨y, 0, none⟩) (by show y < y + 7; omega) _⟩
        r := ⟨_, box_other HR9e.out (by omega)⟩
        k := ⟨_, box_other HK10e.out (by omega)⟩
        bel := HBe.out.setCell (p := ⟨y, 0, none⟩) (by show z ≤ y; omega) _
        size := by simp; omega
        zy := by omega }
end Go.Proofs.YthbackkcamgidaaGreatDoor
