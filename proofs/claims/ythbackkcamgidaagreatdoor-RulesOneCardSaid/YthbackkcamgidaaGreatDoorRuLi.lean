/- lines: the iterator. -/
import Derived.Test.YthbackkcamgidaaGreatDoorRuPa
import Derived.Test.YthbackkcamgidaaGreatDoorRuY
namespace Go.Proofs.YthbackkcamgidaaGreatDoor
open Go Go.RowKit
set_option linter.unusedVariables false
attribute [local go_sem] Oper.semAt_some
/-- Everything stays but the reader's blocks and the named ones. -/
structure FrX (p : Nat) (X : List Nat) (W W' : World) : Prop where
  os : W'.os = W.os
  tape : W'.tape = W.tape
  output : W'.output = W.output
  size : W.heap.size ≤ W'.heap.size
  keep : ∀ k o, W.heap[k]? = some o → (k < p ∨ plainO o) → k ∉ X → W'.heap[k]? = some o
theorem FrX.refl (p : Nat) (X : List Nat) (W : World) : FrX p X W W := ⟨rfl, rfl, rfl, Nat.le_refl _, fun _ _ h _ _ => h⟩
theorem FrX.trans {p : Nat} {X : List Nat} {a b c : World} (h : FrX p X a b) (k : FrX p X b c) : FrX p X a c :=
  ⟨k.os.trans h.os, k.tape.trans h.tape, k.output.trans h.output, Nat.le_trans h.size k.size, fun i o hi hp hx => k.keep i o (h.keep i o hi hp hx) hp hx⟩
theorem Fr.x {p : Nat} {W W' : World} (h : Fr p W W') (X : List Nat) : FrX p X W W' := ⟨h.os, h.tape, h.output, h.size, fun k o hk hp _ => h.keep k o hk hp⟩
theorem FrX.put {p : Nat} {X : List Nat} {W W' : World} {l : Nat} (h : FrX p X W W') (hl : l ∈ X) (o : Obj) : FrX p X W (W'.putObj l o) :=
  ⟨h.os, h.tape, h.output, by simpa using h.size, fun k u hk hp hx => (World.putObj_heap_other (by rintro rfl; exact hx hl)).trans (h.keep k u hk hp hx)⟩
theorem FrX.boxed {p : Nat} {X : List Nat} {W W' : World} (h : FrX p X W W') {b : Nat} {t : TypeId} {v : Value} (hb : Boxed W b t v) (ht : t ≠ 67 ∧ t ≠ 40 ∧ t ≠ 42) (hx : b ∉ X) : Boxed W' b t v :=
  h.keep b _ hb (.inr (plain_cells ht)) hx
/-- A yielded line: its number and the words, as a text's row. -/
structure YV where
  num : Int
  A : Option Addr
  n : Nat
  c : Nat
  ws : List LB
def YV.pl (y : YV) : Int × List LB := (y.num, y.ws)
def YV.encs (y : YV) : Array Value := #[.int .i64 y.num, .slice y.A y.n y.c]
/-- The blocks that the iterator's inner loop needs. -/
def KQ (d : Nat) (W W' : World) : Prop := ∀ k o, (k = d + 4 ∨ k = d + 5 ∨ k = d + 6 ∨ k = d + 7) → plainO o → W.heap[k]? = some o → W'.heap[k]? = some o
/-- What nothing outside of the iterator's own blocks changes. -/
def Ag (d : Nat) (W W' : World) : Prop := W'.os = W.os ∧ W'.tape = W.tape ∧ W'.output = W.output ∧ W.heap.size ≤ W'.heap.size ∧ ∀ k o, W.heap[k]? = some o → (k < d + 2 ∨ d + 9 ≤ k) → W'.heap[k]? = some o
theorem Ag.below {d : Nat} {W W' : World} (h : Below W.heap.size W W') : Ag d W W' := ⟨h.os, h.tape, h.output, h.size, fun k o hk _ => (h.block k (Array.getElem?_eq_some_iff.1 hk).1).trans hk⟩
theorem Ag.setCell {d b : Nat} (W : World) (u : Value) (h1 : d + 2 ≤ b) (h2 : b < d + 9) : Ag d W (W.setCell ⟨b, 0, none⟩ u) :=
  ⟨((Below.refl b W).setCell (p := ⟨b, 0, none⟩) (Nat.le_refl _) u).os, ((Below.refl b W).setCell (p := ⟨b, 0, none⟩) (Nat.le_refl _) u).tape, ((Below.refl b W).setCell (p := ⟨b, 0, none⟩) (Nat.le_refl _) u).output, by simp, fun k o hk h => (Below.heap_setCell W ⟨b, 0, none⟩ u k (by show k ≠ b; omega)).trans hk⟩
theorem Ag.alloc {d : Nat} (W : World) (o : Obj) : Ag d W (W.alloc o) := Ag.below ((Below.refl _ W).alloc (Nat.le_refl _) o)
theorem JL.ag {d : Nat} {R : Obj} {I : List YV → World → Prop} (hI : ∀ p W W', I p W → Ag d W W' → I p W') {ys : List YV} {W W' : World} (h : JL d R I ys W) (g : Ag d W W') : JL d R I ys W' :=
  ⟨hI _ _ _ h.1 g, g.2.2.2.2 _ _ h.2.1 (.inl (by omega)), g.2.2.2.2 _ _ h.2.2 (.inl (by omega))⟩
theorem JL.put {d : Nat} {R : Obj} {I : List YV → World → Prop} (hI : ∀ p W l o o', I p W → d + 2 ≤ l → W.heap[l]? = some o' → o'.isCells = false → o'.isWalk = false → I p (W.putObj l o)) {ys : List YV} {W : World} {l : Nat} {o o' : Obj} (h : JL d R I ys W) (hl : d + 2 ≤ l)
    (ho : W.heap[l]? = some o') (h1 : o'.isCells = false) (h2 : o'.isWalk = false) : JL d R I ys (W.putObj l o) :=
  ⟨hI _ _ _ _ _ h.1 hl ho h1 h2, (World.putObj_heap_other (by omega)).trans h.2.1, (World.putObj_heap_other (by omega)).trans h.2.2⟩
structure LI (d : Nat) (R : Obj) (I : List YV → World → Prop) (pre : List LB) (W : World) : Prop where
  j : ∃ ys : List YV, JL d R I ys W ∧ ys.map YV.pl = numR 0 (pre.map wordsU)
  yb : Boxed W (d + 2) 108 (.func (.yield (d + 1)) #[] #[])
  nb : Boxed W (d + 3) 3 (.int .i64 (pre.length : Int))
  size : d + 7 ≤ W.heap.size
theorem numR_pre {s : LB} {pre : List LB} {t : List (Int × List LB)} (h : pre <+: splitC 10 s) (ht : t = numR 0 (pre.map wordsU)) : t <+: numR 0 (rowsU s) := by
  obtain ⟨r, hr⟩ := h
  refine ⟨numR (0 + (pre.map wordsU).length) (r.map wordsU), ?_⟩
  rw [ht, ← numR_app, ← List.map_append, hr]; rfl
set_option maxRecDepth 100000 in
set_option maxHeartbeats 8000000 in
theorem lines_iter (s : LB) (hs : s.length ≤ 4000000000) (hL : ∀ l ∈ splitC 10 s, l.length ≤ 4000000000) (p d tb : Nat) (htb : tb < d) (R D : Obj) (I : List YV → World → Prop) (Zp : List PanicEntry → World → Prop) (W : World)
    (hsz : W.heap.size = d + 2) (hb : Boxed W tb 9 (.string ⟨s.toArray⟩)) (h0 : JL d R I [] W)
    (hI : ∀ q W W', I q W → Ag d W W' → I q W')
    (hI2 : ∀ q W l o o', I q W → d + 2 ≤ l → W.heap[l]? = some o' → o'.isCells = false → o'.isWalk = false → I q (W.putObj l o))
    (hZp : ∀ ch W l o o', Zp ch W → d + 2 ≤ l → W.heap[l]? = some o' → o'.isCells = false → o'.isWalk = false → Zp ch (W.putObj l o))
    (hY : ∀ pre y W1, JL d R I pre W1 → ((pre ++ [y]).map YV.pl <+: numR 0 (rowsU s)) → (TyS W1 y.A y.n y.c y.ws ∧ d + 9 ≤ W1.heap.size) → YieldAt Fence.wide 0 Tryz.prog (d + 1) y.encs W1 (YiEnd d R D (FrX p [d + 1]) I (fun _ => False) Zp (pre ++ [y]) W1)) :
    Calls Tryz.prog 70 #[.func (.yield (d + 1)) #[] #[], .pointer (some ⟨tb, 0, none⟩)] W (ItEnd2 d R D I (fun _ => False) Zp (fun l => l.map YV.pl = numR 0 (rowsU s))) := by
  refine calls_of_wpF Tryz.func70 rfl ?_
  simp only [Tryz.ntmps70, List.size_toArray, List.length_cons, List.length_nil, Nat.reduceAdd, Nat.reduceSub, Array.replicate_succ, Array.replicate_zero, List.push_toArray, List.append_toArray, List.nil_append, List.cons_append]
  have HI := hide hI
  have HI2 := hide hI2
  have HZp := hide hZp
  have HY := hide hY
  have HL := hide hL
  clear hI hI2 hZp hY hL
  refine WpF.seq_wp ?_
  go_wp2_with fail
  try rw [hsz]
  have HJ1 := hide (h0.ag HI.out (Ag.alloc W (.cells #[.func (.yield (d + 1)) #[] #[]] 108)))
  have HY1 := hide (Boxed.new W 108 (.func (.yield (d + 1)) #[] #[]))
  rw [hsz] at HY1
  have HB1 := hide (hb.alloc (.cells #[.func (.yield (d + 1)) #[] #[]] 108))
  have hs1 : (W.alloc (.cells #[.func (.yield (d + 1)) #[] #[]] 108)).heap.size = d + 3 := by simp [hsz]
  clear h0 hb
  generalize W.alloc (.cells #[.func (.yield (d + 1)) #[] #[]] 108) = W1 at *
  refine WpF.seq_wp ?_
  go_wp2_with fail
  try rw [hs1]
  have HJ2 := hide (HJ1.out.ag HI.out (Ag.alloc W1 (.cells #[.int .i64 0] 3)))
  have HY2 := hide (HY1.out.alloc (.cells #[.int .i64 0] 3))
  have HB2 := hide (HB1.out.alloc (.cells #[.int .i64 0] 3))
  have HN2 := hide (Boxed.new W1 3 (.int .i64 0))
  rw [hs1] at HN2
  have hs2 : (W1.alloc (.cells #[.int .i64 0] 3)).heap.size = d + 4 := by simp [hs1]
  clear HJ1 HY1 HB1
  generalize W1.alloc (.cells #[.int .i64 0] 3) = W2 at *
  have cB := HB2.out.cell
  have XQ := hide (seq25 s 10 W2)
  rw [hs2] at XQ
  refine WpF.seq_wp ?_
  go_wp2_with fail
  refine XQ.out.mono ?_
  rintro e W4 ⟨rfl, hw4⟩
  have hbe : Below W2.heap.size W2 W4 := by
    rw [hw4]
    exact (((Below.refl _ W2).alloc (Nat.le_refl _) _).alloc (by simp) _).alloc (by simp; omega) _
  have HX4 : Hid (B3 W4 (d + 5) (d + 4) (d + 6) 10 s) := hide (by
    have e1 := ((Boxed.new W2 9 (.string ⟨s.toArray⟩)).alloc (.cells #[.string ⟨#[10]⟩] 9)).alloc (.cells #[.int .i64 0] 3)
    have e2 := (Boxed.new (W2.alloc (.cells #[.string ⟨s.toArray⟩] 9)) 9 (.string ⟨#[10]⟩)).alloc (.cells #[.int .i64 0] 3)
    have e3 := Boxed.new ((W2.alloc (.cells #[.string ⟨s.toArray⟩] 9)).alloc (.cells #[.string ⟨#[10]⟩] 9)) 3 (.int .i64 0)
    rw [← hw4, hs2] at e1
    rw [← hw4, World.size_alloc, hs2] at e2
    rw [← hw4, World.size_alloc, World.size_alloc, hs2] at e3
    exact ⟨e2, e1, e3⟩)
  have hs4 : W4.heap.size = d + 7 := by rw [hw4]; simp [hs2]
  have HLI : Hid (LI d R I [] W4) := hide {
    j := ⟨[], HJ2.out.ag HI.out (Ag.below hbe), rfl⟩
    yb := (hbe.block (d + 2) (by omega)).trans HY2.out
    nb := (hbe.block (d + 3) (by omega)).trans HN2.out
    size := by omega }
  clear hbe hw4 XQ HJ2 HY2 HB2 HN2 cB hs2 hs1 hsz
  go_wp2_with fail
  refine WpF.block ?_
  refine WpF.range (d := d + 7) hs4 Tryz.func70 (gf := 77) rfl (enters_of Tryz.func77 (by kernel_rfl) rfl) (fun x : LB => #[.string ⟨x.toArray⟩]) (fun _ => rfl) (KQ d) ?hT ?hTp
    (LI d R I) (fun W => False) (fun ch W => JP d Zp ch W) ?hI ?hZ (splitC 10 s) ?h0 ?hround ?hiter ?hdone ?hret ?hpan
  case hT =>
    intro W W' h
    rcases Classical.em (W.heap[d + 7]? = some (.deferred (some []))) with h1 | h1
    · exact .inl (h _ _ (.inr (.inr (.inr rfl))) (plain_non rfl) h1)
    · exact .inr h1
  case hTp => exact fun W W' o h k u hk hu e => (World.putObj_heap_other (by omega)).trans (h k u hk hu e)
  case hI =>
    rintro pre W l o o' h hle hl ho hw
    obtain ⟨⟨ys, h1, h2⟩, h3, h4, h5⟩ := h
    exact ⟨⟨ys, h1.put HI2.out (by omega) hl ho hw, h2⟩, boxed_put h3 o hl ho, boxed_put h4 o hl ho, by simpa using h5⟩
  case hZ => exact fun W l o o' h _ _ _ _ => h.elim
  case h0 =>
    intro o1 o2
    obtain ⟨⟨ys, h1, h2⟩, h3, h4, h5⟩ := HLI.out
    exact ⟨⟨ys, (h1.ag HI.out (Ag.alloc _ o1)).ag HI.out (Ag.alloc _ o2), h2⟩, (h3.alloc o1).alloc o2, (h4.alloc o1).alloc o2, by simp; omega⟩
  case hret => exact fun W h => h.elim
  case hpan =>
    rintro ch W ⟨hz, hd⟩ hD
    refine ⟨by simp, .inl ⟨_, _, rfl, run_takeDeferred hD, ?_⟩⟩
    exact .inr ⟨ch, rfl, HZp.out _ _ _ _ _ hz (by omega) hD rfl rfl, (World.putObj_heap_other (by omega)).trans hd⟩
  case hdone =>
    rintro W ⟨⟨ys, h1, h2⟩, h3, h4, h5⟩ hD
    refine ⟨by simp, .inl ⟨_, _, rfl, run_takeDeferred hD, ?_⟩⟩
    refine ⟨.tuple #[], ?_, .inl ⟨_, rfl, .inl ⟨ys, h2, h1.put HI2.out (by omega) hD rfl rfl⟩⟩⟩
    simp [results, Tryz.results70, go_sem]
  case hiter =>
    rintro R D W _ _ _ _ ⟨o1, o2, hW⟩ hJ hY
    refine split_iter 10 s (by omega) (d + 5) (d + 4) (d + 6) (d + 7) R D (KQ d) _ _ _ W ⟨by omega, by omega, by omega, by omega⟩ ?_ hJ ?_ ?_ hY
    · rw [hW]
      exact ⟨(HX4.out.sep.alloc o1).alloc o2, (HX4.out.txt.alloc o1).alloc o2, (HX4.out.num.alloc o1).alloc o2⟩
    · rintro q W v u ⟨⟨ys, h1, h2⟩, h3, h4, h5⟩ _
      exact ⟨⟨ys, h1.ag HI.out (Ag.setCell _ _ (by omega) (by omega)), h2⟩, box_other h3 (by omega), box_other h4 (by omega), by simpa using h5⟩
    · exact fun W W' t h hb => ⟨h _ _ (.inr (.inl rfl)) (plain_cells ⟨by decide, by decide, by decide⟩) hb.sep, h _ _ (.inl rfl) (plain_cells ⟨by decide, by decide, by decide⟩) hb.txt, h _ _ (.inr (.inr (.inl rfl))) (plain_cells ⟨by decide, by decide, by decide⟩) hb.num⟩
  case hround =>
    rintro pre x W hLI hpx ⟨o0, ho0, ho1, ho2⟩
    clear HLI HX4
    have hdl : d + 8 < W.heap.size := (Array.getElem?_eq_some_iff.1 ho0).1
    have hnl : pre.length < s.length + 1 := by
      have h1 := hpx.length_le
      have h2 := splitC_le 10 s
      simp at h1
      omega
    have HXL := hide (HL.out x (hpx.subset (by simp)))
    gi_wp2_with (rw [Oper.semAt_eq _ _ _ (fun c h => by cases h)]; go_simp)
    refine ⟨trivial, fun o hc1 hc2 => ?_⟩
    obtain ⟨⟨ys, h1, h2⟩, h3, h4, h5⟩ := hLI
    have HJ := hide (h1.put HI2.out (by omega) ho0 ho1 ho2 (o := o))
    have HYB := hide (boxed_put h3 o ho0 ho1)
    have HNB := hide (boxed_put h4 o ho0 ho1)
    have HKV : Hid (KQ d W (W.putObj (d + 7 + 1) o)) := hide (fun k u hk _ e => (World.putObj_heap_other (by omega)).trans e)
    have HLV : Hid ((W.putObj (d + 7 + 1) o).heap[d + 7 + 1]? = some o) := hide (World.putObj_heap_same (by omega))
    have hsv : d + 9 ≤ (W.putObj (d + 7 + 1) o).heap.size := by simp; omega
    have H2 := hide h2
    clear h1 h2 h3 h4 h5 ho0
    generalize W.putObj (d + 7 + 1) o = V at *
    have cN := HNB.out.cell
    have fN := HNB.out.frozen
    have kw : IntKind.i64.wrap ((pre.length : Int) + 1) = (pre.length : Int) + 1 := by simp [IntKind.wrap, IntKind.bits, IntKind.signed]; omega
    have HPX := hide hpx
    clear hpx
    obtain ⟨m, hm⟩ : ∃ m, pre.length = m := ⟨_, rfl⟩
    rw [hm] at cN kw hnl
    gi_wp2_with (rw [Oper.semAt_eq _ _ _ (fun c h => by cases h)]; go_simp)
    have HJ1 := hide (HJ.out.ag HI.out (Ag.setCell V (.int .i64 ((m : Int) + 1)) (show d + 2 ≤ d + 3 by omega) (by omega)))
    have HYB1 := hide (box_other HYB.out (show d + 2 ≠ d + 3 by omega) (u := .int .i64 ((m : Int) + 1)))
    have HNB1 := hide (HNB.out.set (.int .i64 ((m : Int) + 1)))
    have HKV1 : Hid (KQ d W (V.setCell ⟨d + 3, 0, none⟩ (.int .i64 ((m : Int) + 1)))) := hide (fun k u hk hu e => (Below.heap_setCell _ _ _ _ (by show k ≠ d + 3; omega)).trans (HKV.out k u hk hu e))
    have HLV1 := hide ((Below.heap_setCell V ⟨d + 3, 0, none⟩ (.int .i64 ((m : Int) + 1)) (d + 7 + 1) (by show d + 7 + 1 ≠ d + 3; omega)).trans HLV.out)
    have hs1 : d + 9 ≤ (V.setCell ⟨d + 3, 0, none⟩ (.int .i64 ((m : Int) + 1))).heap.size := by simpa using hsv
    clear HJ HYB HNB HKV HLV hsv cN fN
    generalize V.setCell ⟨d + 3, 0, none⟩ (.int .i64 ((m : Int) + 1)) = V1 at *
    have XS := hide (split_any x HXL.out V1)
    gi_wp2_with (rw [Oper.semAt_eq _ _ _ (fun c h => by cases h)]; go_simp)
    refine ⟨trivial, rfl, (CallsIn.inRound _ (callsIn_wide.2 XS.out)).mono ?_⟩
    rintro e V2 ⟨A, n, c, rfl, hTy, hbe⟩
    have HT := hide hTy
    have hlen := hTy.len
    have hle := hTy.le
    have HJ2 := hide (HJ1.out.ag HI.out (Ag.below hbe))
    have HYB2 := hide (show Boxed V2 (d + 2) _ _ from (hbe.block (d + 2) (by omega)).trans HYB1.out)
    have HNB2 := hide (show Boxed V2 (d + 3) _ _ from (hbe.block (d + 3) (by omega)).trans HNB1.out)
    have HKV2 : Hid (KQ d W V2) := hide (fun k u hk hu e => (hbe.block k (by omega)).trans (HKV1.out k u hk hu e))
    have HLV2 := hide ((hbe.block (d + 7 + 1) (by omega)).trans HLV1.out)
    have hs2 : d + 9 ≤ V2.heap.size := by have := hbe.size; omega
    clear HJ1 HYB1 HNB1 HKV1 HLV1 hbe XS hTy hs1
    have HEN : Hid (((m + 1 : Nat) : Int) = ((pre ++ [x]).length : Int)) := hide (by simp [hm])
    have HSN := hide (numR_snoc (pre.map wordsU) 0 (wordsU x))
    have HNW : Hid (∀ v : Int, v = (m : Int) + 1 → v = ((pre ++ [x]).length : Int)) := hide (fun v h => by rw [h]; simp [hm])
    have HE2 := hide H2.out
    by_cases h0 : n = 0
    · have hw : wordsU x = [] := List.eq_nil_of_length_eq_zero (by omega)
      have g0 : ¬ (0 : Int) < (n : Int) := by omega
      have g1 : decide ((0 : Int) < (n : Int)) = false := decide_eq_false g0
      have HF : Hid (ys.map YV.pl = numR 0 ((pre ++ [x]).map wordsU)) := hide (by
        rw [List.map_append, List.map_cons, List.map_nil, HSN.out, if_pos hw, List.append_nil]; exact H2.out)
      clear hw h0
      gi_wp2
      refine ⟨(fun f h => by cases h), ?_⟩
      gi_wp2
      refine ⟨HKV2.out, HLV2.out, .inl ⟨rfl, ⟨ys, HJ2.out, HF.out⟩, HYB2.out, ?_, by omega⟩⟩
      rw [← HNW.out _ rfl]; exact HNB2.out
    · have hw : ¬ wordsU x = [] := fun h => by rw [h] at hlen; simp at hlen; omega
      have g0 : (0 : Int) < (n : Int) := by omega
      have g1 : decide ((0 : Int) < (n : Int)) = true := decide_eq_true g0
      obtain ⟨y, hy⟩ : ∃ y : YV, y = ⟨(m : Int) + 1, A, n, c, wordsU x⟩ := ⟨_, rfl⟩
      have hF : (ys ++ [y]).map YV.pl = numR 0 ((pre ++ [x]).map wordsU) := by
        rw [List.map_append, List.map_append, List.map_cons, List.map_cons, List.map_nil, List.map_nil, HSN.out, if_neg hw, H2.out, hy, List.length_map, hm]
        simp [YV.pl]
      have hYY := HY.out ys y V2 HJ2.out (numR_pre HPX.out hF) (by rw [hy]; exact ⟨HT.out, hs2⟩)
      have HF := hide hF
      have HEy : Hid (y.encs = #[.int .i64 ((m : Int) + 1), .slice A n c]) := hide (by rw [hy]; rfl)
      rw [HEy.out] at hYY
      obtain ⟨fn, tmps, assign, body, hyy, hR⟩ := hYY
      have HR := hide hR
      have cY := HYB2.out.cell
      have cN := HNB2.out.cell
      clear hw h0 hF hy hR
      gi_wp2
      refine ⟨rfl, (show RoundIn (Fence.wide.inRound (d + 7 + 1)) 0 _ _ _ _ _ _ _ _ from HR.out).mono ?_⟩
      rintro e W3 ⟨hTT, hc⟩
      have HK3 : Hid (KQ d W W3) := hide (fun k u hk hu e => hTT.keep k u (HKV2.out k u hk hu e) (.inr hu) (by simp; omega))
      have hbY := hTT.boxed HYB2.out ⟨by decide, by decide, by decide⟩ (by simp)
      have hbN := hTT.boxed HNB2.out ⟨by decide, by decide, by decide⟩ (by simp)
      have hs3 : d + 9 ≤ W3.heap.size := Nat.le_trans hs2 hTT.size
      have HL3 := hide (hTT.keep (d + 7 + 1) o HLV2.out (.inr (plain_non hc1)) (by simp))
      rcases hc with ⟨rfl, hJ⟩ | ⟨rfl, hJ⟩ | ⟨ch, rfl, hJ⟩
      · gi_wp2
        refine ⟨HK3.out, HL3.out, .inl ⟨rfl, ⟨ys ++ [y], hJ, HF.out⟩, hbY, ?_, by omega⟩⟩
        rw [← HNW.out _ rfl]; exact hbN
      · exact hJ.1.elim
      · exact ⟨HK3.out, HL3.out, .inr (.inr ⟨ch, rfl, rfl, hJ⟩)⟩
end Go.Proofs.YthbackkcamgidaaGreatDoor
