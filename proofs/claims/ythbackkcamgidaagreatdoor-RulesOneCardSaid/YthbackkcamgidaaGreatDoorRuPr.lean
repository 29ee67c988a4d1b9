/- lines and parse. -/
import Derived.Test.YthbackkcamgidaaGreatDoorRuCa
import Derived.Test.YthbackkcamgidaaGreatDoorRuLn
namespace Go.Proofs.YthbackkcamgidaaGreatDoor
open Go Go.RowKit
set_option linter.unusedVariables false
attribute [local go_sem] Oper.semAt_some
theorem lines_any (s : LB) (w : World) : Calls Tryz.prog 43 #[.string ⟨s.toArray⟩] w fun e w' => e = .returned (.func (.func 70) #[] #[.pointer (some ⟨w.heap.size, 0, none⟩)]) ∧ w' = w.alloc (.cells #[.string ⟨s.toArray⟩] 9) := by
  go_enter Tryz.func43, Tryz.ntmps43
  go_wp2_with fail
  go_ret
  exact ⟨rfl, rfl⟩
/-- The reader between two lines: its rows may lie above the blocks that are there. -/
structure RdJ (p B : Nat) (s : RS) (P : PL) (num : Int) (fi : Bool) (w : World) : Prop where
  blk : Blk w p 67 #[.string ⟨P.root.toArray⟩, .slice s.RA s.rn s.rc, .slice s.EA s.en s.ec, .int .i64 num, .bool fi]
  rules : w.ownsRow B 40 6 (.slice s.RA s.rn s.rc) s.rn (rus s.L)
  ok : ∀ x ∈ s.L, RVok B w x
  eq : s.L.map RV.r = P.rules
  env : w.ownsRow B 42 3 (.slice s.EA s.en s.ec) s.en (ecs P.env)
  lo : p < B
theorem RdJ.i {p B : Nat} {s : RS} {P : PL} {num : Int} {fi : Bool} {w : World} (h : RdJ p B s P num fi w) (hi : B ≤ w.heap.size) : RdI p B s P num fi w := ⟨h.blk, h.rules, h.ok, h.eq, h.env, h.lo, hi⟩
theorem RdI.j {p B : Nat} {s : RS} {P : PL} {num : Int} {fi : Bool} {w : World} (h : RdI p B s P num fi w) : RdJ p B s P num fi w := ⟨h.blk, h.rules, h.ok, h.eq, h.env, h.lo⟩
theorem RdJ.keep {p B : Nat} {s : RS} {P : PL} {num : Int} {fi : Bool} {w w' : World} (h : RdJ p B s P num fi w) (hk : ∀ k o, w.heap[k]? = some o → (k = p ∨ B ≤ k) → w'.heap[k]? = some o) : RdJ p B s P num fi w' := by
  have hK : ∀ k, B ≤ k → k < w.heap.size → w'.heap[k]? = w.heap[k]? := fun k h1 h2 => by
    rw [Array.getElem?_eq_getElem h2]
    exact hk k _ (Array.getElem?_eq_getElem h2) (.inr h1)
  exact ⟨hk p _ h.blk (.inl rfl), own_keep h.rules hK, fun x hx => ⟨own_keep (h.ok x hx).1 hK, own_keep (h.ok x hx).2 hK⟩, h.eq, own_keep h.env hK, h.lo⟩
theorem RdJ.put {p B : Nat} {s : RS} {P : PL} {num : Int} {fi : Bool} {w : World} (h : RdJ p B s P num fi w) {l : Nat} (o o' : Obj) (hl : w.heap[l]? = some o') (ho : o'.isCells = false) : RdJ p B s P num fi (w.putObj l o) := by
  refine ⟨(World.putObj_heap_other ?_).trans h.blk, ownsRow_putObj h.rules o hl ho, fun x hx => ⟨ownsRow_putObj (h.ok x hx).1 o hl ho, ownsRow_putObj (h.ok x hx).2 o hl ho⟩, h.eq, ownsRow_putObj h.env o hl ho, h.lo⟩
  rintro rfl
  have hb := h.blk
  unfold Blk at hb
  rw [hl] at hb
  injection hb with hb
  subst hb
  cases ho
/-- A policy in its rows. -/
structure PolO (B : Nat) (s : RS) (P : PL) (w : World) : Prop where
  rules : w.ownsRow B 40 6 (.slice s.RA s.rn s.rc) s.rn (rus s.L)
  ok : ∀ x ∈ s.L, RVok B w x
  eq : s.L.map RV.r = P.rules
  env : w.ownsRow B 42 3 (.slice s.EA s.en s.ec) s.en (ecs P.env)
def polV (s : RS) (P : PL) : Value := .agg #[.string ⟨P.root.toArray⟩, .slice s.RA s.rn s.rc, .slice s.EA s.en s.ec]
theorem PolO.zero (B : Nat) (w : World) : PolO B ⟨none, 0, 0, [], none, 0, 0⟩ pz w := ⟨World.ownsRow_nil _ _ _ _, (fun x h => by cases h), rfl, World.ownsRow_nil _ _ _ _⟩
theorem PolO.more {B B' : Nat} {s : RS} {P : PL} {w : World} (h : PolO B s P w) (hb : B' ≤ B) : PolO B' s P w :=
  ⟨own_more h.rules hb, fun x hx => ⟨own_more (h.ok x hx).1 hb, own_more (h.ok x hx).2 hb⟩, h.eq, own_more h.env hb⟩
theorem PolO.keep {B : Nat} {s : RS} {P : PL} {w w' : World} (h : PolO B s P w) (hk : ∀ k o, w.heap[k]? = some o → B ≤ k → w'.heap[k]? = some o) : PolO B s P w' := by
  have hK : ∀ k, B ≤ k → k < w.heap.size → w'.heap[k]? = w.heap[k]? := fun k h1 h2 => by
    rw [Array.getElem?_eq_getElem h2]
    exact hk k _ (Array.getElem?_eq_getElem h2) h1
  exact ⟨own_keep h.rules hK, fun x hx => ⟨own_keep (h.ok x hx).1 hK, own_keep (h.ok x hx).2 hK⟩, h.eq, own_keep h.env hK⟩
theorem RdJ.pol {p B : Nat} {s : RS} {P : PL} {num : Int} {fi : Bool} {w : World} (h : RdJ p B s P num fi w) : PolO B s P w := ⟨h.rules, h.ok, h.eq, h.env⟩
/-- How parse ends. -/
def PaEnd (w : World) (R : PL × Nat) (e : Ending) (w' : World) : Prop := Below w.heap.size w w' ∧ ∃ s, e = .returned (.tuple #[polV s R.1, .int .i64 (R.2 : Int)]) ∧ PolO w.heap.size s R.1 w'
/-- What holds between two lines. -/
structure PI (z : Nat) (w : World) (l : List YV) (W : World) : Prop where
  rd : ∃ sR st num, RdJ (z + 2) (z + 13) sR st.1 num st.2 W ∧ afterU (p0, true) (l.map YV.pl) = some st ∧ st.1.rules.length ≤ 64 ∧ st.1.env.length ≤ 64
  b1 : Blk W z 26 #[.string ⟨#[]⟩, .slice none 0 0, .slice none 0 0]
  b2 : Blk W (z + 1) 3 #[.int .i64 0]
  bel : Below z w W
structure PZ (z : Nat) (w : World) (s : LB) (ch : List PanicEntry) (W : World) : Prop where
  pan : ∃ k : Int, ch = badV k ∧ (parse0 s).1 = pz ∧ ((parse0 s).2 : Int) = k
  b1 : Blk W z 26 #[.string ⟨#[]⟩, .slice none 0 0, .slice none 0 0]
  b2 : Blk W (z + 1) 3 #[.int .i64 0]
  bel : Below z w W
theorem blk_put {W : World} {g l : Nat} {t : TypeId} {cs : Array Value} {o' : Obj} (h : Blk W g t cs) (o : Obj) (hl : W.heap[l]? = some o') (ho : o'.isCells = false) : Blk (W.putObj l o) g t cs := by
  refine (World.putObj_heap_other ?_).trans h
  rintro rfl
  unfold Blk at h
  rw [hl] at h
  injection h with h
  subst h
  cases ho
theorem TyS.kp {W W' : World} {A : Option Addr} {n c : Nat} {ks : List LB} (h : TyS W A n c ks) (hs : W.heap.size ≤ W'.heap.size) (hk : ∀ (k : Nat) (cur : Array Value), W.heap[k]? = some (Obj.cells cur 9 (0, 0)) → W'.heap[k]? = some (Obj.cells cur 9 (0, 0))) : TyS W' A n c ks := by
  refine ⟨⟨h.rd.1, fun h0 => ?_⟩, h.le, fun ad e => ?_⟩
  · obtain ⟨ad, e, hb, hc⟩ := h.rd.2 h0
    obtain ⟨cur, hq⟩ := h.ty ad e
    refine ⟨ad, e, Nat.lt_of_lt_of_le hb hs, fun j u hj => ?_⟩
    rw [← hc j u hj]
    exact World.cell?_of_block (by rw [block_of_add, hq]; exact hk _ _ hq)
  · obtain ⟨cur, hc⟩ := h.ty ad e
    exact ⟨cur, hk _ _ hc⟩
theorem TyS.put {W : World} {A : Option Addr} {n c : Nat} {ks : List LB} (h : TyS W A n c ks) {l : Nat} (o o' : Obj) (hl : W.heap[l]? = some o') (ho : o'.isCells = false) : TyS (W.putObj l o) A n c ks :=
  h.kp (by simp) fun k cur hk => by
    refine (World.putObj_heap_other ?_).trans hk
    rintro rfl
    rw [hl] at hk
    injection hk with hk
    subst hk
    cases ho
theorem PI.ag {z : Nat} {w : World} {l : List YV} {W W' : World} (h : PI z w l W) (g : Ag (z + 4) W W') : PI z w l W' := by
  obtain ⟨⟨sR, st, num, h1, h2⟩, h3, h4, h5⟩ := h
  obtain ⟨g1, g2, g3, g4, g5⟩ := g
  exact ⟨⟨sR, st, num, h1.keep fun k o hk hc => g5 k o hk (by omega), h2⟩, g5 _ _ h3 (.inl (by omega)), g5 _ _ h4 (.inl (by omega)), h5.trans ⟨g1, g2, g3, g4, fun k hk => by
    have hlt : k < W.heap.size := by have := h3.lt; omega
    rw [Array.getElem?_eq_getElem hlt]
    exact g5 k _ (Array.getElem?_eq_getElem hlt) (.inl (by omega))⟩⟩
theorem PI.put {z : Nat} {w : World} {l : List YV} {W : World} (h : PI z w l W) {k : Nat} (o o' : Obj) (hk : z + 4 ≤ k) (hl : W.heap[k]? = some o') (ho : o'.isCells = false) : PI z w l (W.putObj k o) := by
  obtain ⟨⟨sR, st, num, h1, h2⟩, h3, h4, h5⟩ := h
  exact ⟨⟨sR, st, num, h1.put o o' hl ho, h2⟩, blk_put h3 o hl ho, blk_put h4 o hl ho, below_put o h5 (by omega)⟩
theorem PZ.put {z : Nat} {w : World} {s : LB} {ch : List PanicEntry} {W : World} (h : PZ z w s ch W) {k : Nat} (o o' : Obj) (hk : z ≤ k) (hl : W.heap[k]? = some o') (ho : o'.isCells = false) : PZ z w s ch (W.putObj k o) :=
  ⟨h.pan, blk_put h.b1 o hl ho, blk_put h.b2 o hl ho, below_put o h.bel hk⟩
set_option maxRecDepth 100000 in
set_option maxHeartbeats 8000000 in
theorem prs_any (s : LB) (hs : s.length ≤ 4000000000) (hL : Lines s) (w : World) (hS : StdR w) : Calls Tryz.prog 20 #[.string ⟨s.toArray⟩] w (PaEnd w (parse0 s)) := by
  obtain ⟨z, hz⟩ : ∃ z, w.heap.size = z := ⟨_, rfl⟩
  refine calls_of_wpF Tryz.func20 rfl ?_
  simp only [Tryz.ntmps20, List.size_toArray, List.length_cons, List.length_nil, Nat.reduceAdd, Nat.reduceSub, Array.replicate_succ, Array.replicate_zero, List.push_toArray, List.append_toArray, List.nil_append, List.cons_append]
  have HS := hide hS
  have HL := hide hL
  clear hS hL
  refine WpF.seq_wp ?_
  go_wp2_with fail
  have hA0 := (Blk.new w 26 #[.string ⟨#[]⟩, .slice none 0 0, .slice none 0 0]).alloc (.cells #[.int .i64 0] 3)
  have hB0 := Blk.new (w.alloc (.cells #[.string ⟨#[]⟩, .slice none 0 0, .slice none 0 0] 26)) 3 #[.int .i64 0]
  have hbe0 := ((Below.refl z w).alloc (by omega) (.cells #[.string ⟨#[]⟩, .slice none 0 0, .slice none 0 0] 26)).alloc (by simp; omega) (.cells #[.int .i64 0] 3)
  obtain ⟨W0, hW0⟩ : ∃ W, (w.alloc (.cells #[.string ⟨#[]⟩, .slice none 0 0, .slice none 0 0] 26)).alloc (.cells #[.int .i64 0] 3) = W := ⟨_, rfl⟩
  have hs0 : W0.heap.size = z + 2 := by rw [← hW0]; simp [hz]
  rw [World.size_alloc] at hB0
  rw [hW0, hz] at hA0 hB0
  rw [hW0] at hbe0
  try rw [hz]
  try simp only [World.size_alloc, hz]
  rw [hW0]
  have HA0 := hide hA0
  have HB0 := hide hB0
  have HE0 := hide hbe0
  clear hA0 hB0 hbe0 hW0
  refine WpF.seq_wp ?_
  go_wp2_with fail
  refine WpF.seq_wp ?_
  go_wp2_with fail
  have HP1 := hide (Blk.new W0 67 #[.string ⟨#[47]⟩, .slice none 0 0, .slice none 0 0, .int .i64 0, .bool true])
  have HA1 := hide (HA0.out.alloc (.cells #[.string ⟨#[47]⟩, .slice none 0 0, .slice none 0 0, .int .i64 0, .bool true] 67))
  have HB1 := hide (HB0.out.alloc (.cells #[.string ⟨#[47]⟩, .slice none 0 0, .slice none 0 0, .int .i64 0, .bool true] 67))
  have HE1 := hide (HE0.out.alloc (by omega) (.cells #[.string ⟨#[47]⟩, .slice none 0 0, .slice none 0 0, .int .i64 0, .bool true] 67))
  have hs1 : (W0.alloc (.cells #[.string ⟨#[47]⟩, .slice none 0 0, .slice none 0 0, .int .i64 0, .bool true] 67)).heap.size = z + 3 := by simp [hs0]
  rw [hs0] at HP1
  clear HA0 HB0 HE0
  generalize W0.alloc (.cells #[.string ⟨#[47]⟩, .slice none 0 0, .slice none 0 0, .int .i64 0, .bool true] 67) = W1 at *
  have XL := hide (lines_any s W1)
  rw [hs1] at XL
  refine WpF.seq ?_
  refine WpF.seq_wp ?_
  go_wp2_with fail
  refine XL.out.mono ?_
  rintro e W2 ⟨rfl, rfl⟩
  have HP2 := hide (HP1.out.alloc (.cells #[.string ⟨s.toArray⟩] 9))
  have HA2 := hide (HA1.out.alloc (.cells #[.string ⟨s.toArray⟩] 9))
  have HB2 := hide (HB1.out.alloc (.cells #[.string ⟨s.toArray⟩] 9))
  have HE2 := hide (HE1.out.alloc (by omega) (.cells #[.string ⟨s.toArray⟩] 9))
  have HT2 := hide (Boxed.new W1 9 (.string ⟨s.toArray⟩))
  have hs2 : (W1.alloc (.cells #[.string ⟨s.toArray⟩] 9)).heap.size = z + 4 := by simp [hs1]
  rw [hs1] at HT2
  clear HP1 HA1 HB1 HE1 XL
  generalize W1.alloc (.cells #[.string ⟨s.toArray⟩] 9) = W2 at *
  have HPI : Hid (PI z w [] W2) := hide {
    rd := ⟨⟨none, 0, 0, [], none, 0, 0⟩, (p0, true), 0, ⟨HP2.out, World.ownsRow_nil _ _ _ _, (fun x h => by cases h), rfl, World.ownsRow_nil _ _ _ _, by omega⟩, rfl, by decide, by decide⟩
    b1 := HA2.out
    b2 := HB2.out
    bel := HE2.out }
  clear HP2 HA2 HB2 HE2
  go_wp2_with fail
  refine WpF.block ?_
  refine WpF.range2 (d := z + 4) hs2 Tryz.func20 (gf := 70) rfl (enters_of Tryz.func70 (by kernel_rfl) rfl) YV.encs (fun _ => rfl) (FrX (z + 2) [z + 4 + 1]) ?hT ?hTp
    (PI z w) (fun W => False) (PZ z w s) ?hI ?hZ (fun l => l.map YV.pl <+: numR 0 (rowsU s)) (fun l => l.map YV.pl = numR 0 (rowsU s)) (fun y W => TyS W y.A y.n y.c y.ws ∧ z + 4 + 9 ≤ W.heap.size) ?h0 ?hround ?hiter ?hdone ?hret ?hpan
  case hT =>
    intro W W' h
    rcases Classical.em (W.heap[z + 4]? = some (.deferred (some []))) with h1 | h1
    · exact .inl (h.keep _ _ h1 (.inr (plain_non rfl)) (by simp))
    · exact .inr h1
  case hTp => exact fun W W' o h => h.put (by simp) o
  case hI => exact fun pre W l o o' h hle hl ho _ => h.put o o' hle hl ho
  case hZ => exact fun W l o o' h _ _ _ _ => h.elim
  case h0 => exact fun o1 o2 => (HPI.out.ag (Ag.alloc _ o1)).ag (Ag.alloc _ o2)
  case hret => exact fun W h => h.elim
  case hiter =>
    rintro R D W _ _ _ _ ⟨o1, o2, hW⟩ hJ hY
    have hsw : W.heap.size = z + 4 + 2 := by rw [hW]; simp [hs2]
    have htx : Boxed W (z + 3) 9 (.string ⟨s.toArray⟩) := by rw [hW]; exact (HT2.out.alloc o1).alloc o2
    exact callsIn_wide.2 (lines_iter s hs (fun l hl => by have := HL.out l hl; omega) (z + 2) (z + 4) (z + 3) (by omega) R D (PI z w) (PZ z w s) W hsw htx hJ
      (fun q W W' h g => h.ag g) (fun q W l o o' h hle hl ho _ => h.put o o' (by omega) hl ho) (fun ch W l o o' h hle hl ho _ => h.put o o' (by omega) hl ho) hY)
  case hpan =>
    rintro ch W h hD
    obtain ⟨⟨k, rfl, hp1, hp2⟩, h1, h2, h3⟩ := h
    refine ⟨by simp, .inl ⟨_, _, rfl, run_takeDeferred hD, ?_⟩⟩
    have g1 := blk_put h1 (.deferred none) hD rfl
    have g2 := blk_put h2 (.deferred none) hD rfl
    have g3 := below_put (.deferred none) h3 (show z ≤ z + 4 by omega)
    refine ⟨by simp, .inr ⟨.func 41, #[.pointer (some ⟨z, 0, none⟩), .pointer (some ⟨z + 1, 0, none⟩)], 41, #[.pointer (some ⟨z, 0, none⟩), .pointer (some ⟨z + 1, 0, none⟩)], rfl, by simp [go_sem], ?_⟩⟩
    refine (catch_panicking z (z + 1) _ _ _ _ k _ ((HS.out.below (by rw [hz]; exact g3)).et) g1 g2 (by omega) z (Nat.le_refl _) (by omega)).mono ?_
    rintro e u' w'' ⟨rfl, rfl, hA, hB, hbl⟩
    have c0 := hA.cell 0
    have c1 := hA.cell 1
    have c2 := hA.cell 2
    have c3 := hB.cell 0
    refine ⟨.tuple #[.agg #[.string ⟨#[]⟩, .slice none 0 0, .slice none 0 0], .int .i64 k], ?_, ?_, ⟨none, 0, 0, [], none, 0, 0⟩, ?_, ?_⟩
    · simp [results, Tryz.results20, go_sem, c0, c1, c2, c3]
    · rw [hz]; exact g3.trans hbl
    · rw [hp1, hp2]; rfl
    · rw [hp1]; exact PolO.zero _ _
  case hdone =>
    rintro xs W hfin h hD
    show WpF _ _ _ _ _ _
    refine WpF.of ?_
    obtain ⟨⟨sR, st, num, hr, ha, _, _⟩, h1, h2, h3⟩ := h
    have hpa : parse0 s = (st.1, 0) := run_ok _ _ _ _ _ (by rw [← hfin]; exact ha)
    have HPA := hide hpa
    have HR := hide hr
    have H1 := hide h1
    have H2 := hide h2
    have H3 := hide h3
    have HD := hide hD
    have c0 := hr.blk.cell 0
    have c1 := hr.blk.cell 1
    have c2 := hr.blk.cell 2
    have d0 := h1.cell 0
    have d1 := h1.cell 1
    have d2 := h1.cell 2
    have f0 := h1.frozen 0
    have f1 := h1.frozen 1
    have f2 := h1.frozen 2
    have e0 := h2.cell 0
    have ef := h2.frozen 0
    clear hpa hr h1 h2 h3 hD HPI HT2 hfin ha
    go_wp2_with fail
    have g1 : Blk ((((W.setCell ⟨z, 0, none⟩ (.string ⟨st.1.root.toArray⟩)).setCell ⟨z, 1, none⟩ (.slice sR.RA sR.rn sR.rc)).setCell ⟨z, 2, none⟩ (.slice sR.EA sR.en sR.ec)).setCell ⟨z + 1, 0, none⟩ (.int .i64 0)) z 26 #[.string ⟨st.1.root.toArray⟩, .slice sR.RA sR.rn sR.rc, .slice sR.EA sR.en sR.ec] := (((H1.out.set_ 0 _).set_ 1 _).set_ 2 _).far (by show z ≠ z + 1; omega) _
    have g2 : Blk ((((W.setCell ⟨z, 0, none⟩ (.string ⟨st.1.root.toArray⟩)).setCell ⟨z, 1, none⟩ (.slice sR.RA sR.rn sR.rc)).setCell ⟨z, 2, none⟩ (.slice sR.EA sR.en sR.ec)).setCell ⟨z + 1, 0, none⟩ (.int .i64 0)) (z + 1) 3 #[.int .i64 0] := (((H2.out.far (by show z + 1 ≠ z; omega) _).far (by show z + 1 ≠ z; omega) _).far (by show z + 1 ≠ z; omega) _).set_ 0 _
    have g3 := (((H3.out.setCell (p := ⟨z, 0, none⟩) (Nat.le_refl _) (.string ⟨st.1.root.toArray⟩)).setCell (p := ⟨z, 1, none⟩) (Nat.le_refl _) (.slice sR.RA sR.rn sR.rc)).setCell (p := ⟨z, 2, none⟩) (Nat.le_refl _) (.slice sR.EA sR.en sR.ec)).setCell (p := ⟨z + 1, 0, none⟩) (by show z ≤ z + 1; omega) (.int .i64 0)
    have hfar : ∀ k, k ≠ z → k ≠ z + 1 → ((((W.setCell ⟨z, 0, none⟩ (.string ⟨st.1.root.toArray⟩)).setCell ⟨z, 1, none⟩ (.slice sR.RA sR.rn sR.rc)).setCell ⟨z, 2, none⟩ (.slice sR.EA sR.en sR.ec)).setCell ⟨z + 1, 0, none⟩ (.int .i64 0)).heap[k]? = W.heap[k]? := fun k hk hk1 =>
      (Below.heap_setCell _ ⟨z + 1, 0, none⟩ _ k hk1).trans ((Below.heap_setCell _ ⟨z, 2, none⟩ _ k hk).trans ((Below.heap_setCell _ ⟨z, 1, none⟩ _ k hk).trans (Below.heap_setCell _ ⟨z, 0, none⟩ _ k hk)))
    have g5 := HR.out.pol.keep (fun k o hk hb => (hfar k (by omega) (by omega)).trans hk)
    have hD := (hfar (z + 4) (by omega) (by omega)).trans HD.out
    clear hfar c0 c1 c2 d0 d1 d2 f0 f1 f2 e0 ef HR H1 H2 H3 HD
    generalize (((W.setCell ⟨z, 0, none⟩ (.string ⟨st.1.root.toArray⟩)).setCell ⟨z, 1, none⟩ (.slice sR.RA sR.rn sR.rc)).setCell ⟨z, 2, none⟩ (.slice sR.EA sR.en sR.ec)).setCell ⟨z + 1, 0, none⟩ (.int .i64 0) = V at *
    have k1 := blk_put g1 (.deferred none) hD rfl
    have k2 := blk_put g2 (.deferred none) hD rfl
    have k3 := below_put (.deferred none) g3 (show z ≤ z + 4 by omega)
    have k5 : PolO (z + 13) sR st.1 (V.putObj (z + 4) (.deferred none)) := g5.keep (fun k o hk hb => (World.putObj_heap_other (by omega)).trans hk)
    refine ⟨by simp, .inl ⟨_, _, rfl, run_takeDeferred hD, ?_⟩⟩
    refine ⟨by simp, .inr ⟨.func 41, #[.pointer (some ⟨z, 0, none⟩), .pointer (some ⟨z + 1, 0, none⟩)], 41, #[.pointer (some ⟨z, 0, none⟩), .pointer (some ⟨z + 1, 0, none⟩)], rfl, by simp [go_sem], ?_⟩⟩
    refine (catch_idle z (z + 1) _).mono ?_
    rintro e u' w'' ⟨rfl, rfl, rfl⟩
    have c0 := k1.cell 0
    have c1 := k1.cell 1
    have c2 := k1.cell 2
    have c3 := k2.cell 0
    refine ⟨.tuple #[.agg #[.string ⟨st.1.root.toArray⟩, .slice sR.RA sR.rn sR.rc, .slice sR.EA sR.en sR.ec], .int .i64 0], ?_, ?_, sR, ?_, ?_⟩
    · simp [results, Tryz.results20, go_sem, c0, c1, c2, c3]
    · rw [hz]; exact k3
    · rw [HPA.out]; rfl
    · rw [HPA.out, hz]; exact k5.more (by omega)
  case hround =>
    rintro pre ⟨num, A, n, c, ws⟩ W hPI hok ⟨hTy, hsw⟩ ⟨o0, ho0, ho1, ho2⟩
    clear HPI HT2
    have hmem : ((num, ws) : Int × List LB) ∈ numR 0 (rowsU s) := hok.subset (by simp [YV.pl])
    obtain ⟨hne, hwl, hwb⟩ := numR_bound HL.out hmem
    obtain ⟨w0, ws, rfl⟩ : ∃ w0 r, ws = w0 :: r := by
      cases ws with
      | nil => exact absurd rfl hne
      | cons w0 r => exact ⟨w0, r, rfl⟩
    have HOK := hide hok
    have HTY := hide hTy
    have hln := hTy.len
    have HWB : Hid (∀ x ∈ ws, x.length ≤ 90000) := hide (fun x hx => hwb x (List.mem_cons_of_mem _ hx))
    have hn : n ≤ 1000000 := by dsimp only at hln hwl; omega
    have HPI := hide hPI
    clear hok hTy hln hwb hwl hne hmem hPI
    simp only [YV.encs]
    gi_wp2
    intro o hc1 hc2
    have hs0' : z + 13 ≤ (W.putObj (z + 4 + 1) o).heap.size := by simp; omega
    have HP := hide (HPI.out.put o o0 (show z + 4 ≤ z + 4 + 1 by omega) ho0 ho1)
    have HTV := hide (HTY.out.put o o0 ho0 ho1)
    have HF : Hid (FrX (z + 2) [z + 4 + 1] W (W.putObj (z + 4 + 1) o)) := hide ((FrX.refl _ _ W).put (by simp) o)
    have HLV : Hid ((W.putObj (z + 4 + 1) o).heap[z + 4 + 1]? = some o) := hide (World.putObj_heap_same (by omega))
    clear HPI HTY hsw ho0
    generalize W.putObj (z + 4 + 1) o = V at *
    obtain ⟨⟨sR, st, num0, h1, h2, h3, h4⟩, h5, h6, h7⟩ := HP.out
    have c3 := h1.blk.cell 3
    have f3 := h1.blk.frozen 3
    have hrd := (h1.i hs0').upd (P' := st.1) (num' := num) (fi' := st.2) 3 (.int .i64 num) (h1.blk.set_ 3 _) rfl rfl
    have HFS := hide (fr_set h1.blk 3 (.int .i64 num))
    have hb1 := HFS.out.below (by omega : z + 2 ≤ V.heap.size)
    have HS1 := hide (HS.out.below (by rw [hz]; exact h7.trans (hb1.mono (by omega))))
    have HB7 := hide (h7.trans (hb1.mono (by omega : z ≤ z + 2)))
    have HX := hide (line_any (z + 2) (z + 13) sR st.1 num st.2 w0 ws A n c _ hrd (HTV.out.fr HFS.out) hn HWB.out h3 h4 HS1.out)
    have HA := hide h2
    have HL1 := hide (show st.1.rules.length ≤ 64 ∧ st.1.env.length ≤ 64 from ⟨h3, h4⟩)
    have H5 := hide h5
    have H6 := hide h6
    clear h1 h2 h3 h4 h5 h6 h7 HP hrd hb1 HTV
    gi_wp2
    refine ⟨trivial, rfl, (CallsIn.inRound _ (callsIn_wide.2 HX.out)).mono ?_⟩
    rintro e W3 ⟨hfr, hend⟩
    have HFR := hide (HF.out.trans ((HFS.out.x _).trans (hfr.x _)))
    have HL3 := hide (hfr.keep _ _ (HFS.out.keep _ _ HLV.out (.inr (plain_non hc1))) (.inr (plain_non hc1)))
    have h5 := hfr.keep _ _ (HFS.out.keep _ _ H5.out (.inl (by omega))) (.inl (by omega : z < z + 2))
    have h6 := hfr.keep _ _ (HFS.out.keep _ _ H6.out (.inl (by omega))) (.inl (by omega : z + 1 < z + 2))
    have H7 := hide (HB7.out.trans ((hfr.below (by simp; omega : z + 2 ≤ (V.setCell ⟨z + 2, 3, none⟩ (.int .i64 num)).heap.size)).mono (by omega : z ≤ z + 2)))
    have hmap : (pre ++ [(⟨num, A, n, c, w0 :: ws⟩ : YV)]).map YV.pl = pre.map YV.pl ++ [(num, w0 :: ws)] := by simp [YV.pl]
    have HK5 := hide h5
    have HK6 := hide h6
    clear hfr h5 h6 HX HB7 H5 H6 HF HLV HFS
    cases hq : lineU st.1 st.2 (w0 :: ws) with
    | none =>
      rw [hq] at hend
      subst hend
      have hbad := run_bad (rowsU s) 0 p0 true (pre.map YV.pl) (num, w0 :: ws) st (by rw [← hmap]; exact HOK.out) HA.out hq
      exact ⟨HFR.out, HL3.out, .inr (.inr ⟨_, rfl, rfl, ⟨num, rfl, hbad.1, hbad.2⟩, HK5.out, HK6.out, H7.out⟩)⟩
    | some q =>
      rw [hq] at hend
      obtain ⟨rfl, s', hrd⟩ := hend
      have haf : afterU (p0, true) ((pre ++ [(⟨num, A, n, c, w0 :: ws⟩ : YV)]).map YV.pl) = some (q, false) := by
        rw [hmap, after_snoc _ _ _ _ HA.out]
        dsimp only
        rw [hq]
      have hql := lineU_len hq HL1.out.1 HL1.out.2
      have HAF := hide haf
      have HRD := hide hrd
      clear haf hrd hq hmap
      gi_wp2
      exact ⟨HFR.out, HL3.out, .inl ⟨rfl, ⟨⟨s', (q, false), num, HRD.out.j, HAF.out, hql.1, hql.2⟩, HK5.out, HK6.out, H7.out⟩⟩⟩
end Go.Proofs.YthbackkcamgidaaGreatDoor
