/- The reader of rules in memory; add. -/
import Derived.Test.YthbackkcamgidaaGreatDoorRuG
namespace Go.Proofs.YthbackkcamgidaaGreatDoor
open Go Go.RowKit
set_option linter.unusedVariables false
/-- No block of the reader's own. -/
def plainO (o : Obj) : Prop := ∀ cs t z, o = .cells cs t z → t ≠ 67 ∧ t ≠ 40 ∧ t ≠ 42
/-- What the reader leaves as it was. -/
structure Fr (p : Nat) (W W' : World) : Prop where
  os : W'.os = W.os
  tape : W'.tape = W.tape
  output : W'.output = W.output
  size : W.heap.size ≤ W'.heap.size
  keep : ∀ k o, W.heap[k]? = some o → (k < p ∨ plainO o) → W'.heap[k]? = some o
theorem Fr.refl (p : Nat) (W : World) : Fr p W W := ⟨rfl, rfl, rfl, Nat.le_refl _, fun _ _ h _ => h⟩
theorem Fr.trans {p : Nat} {a b c : World} (h : Fr p a b) (k : Fr p b c) : Fr p a c :=
  ⟨k.os.trans h.os, k.tape.trans h.tape, k.output.trans h.output, Nat.le_trans h.size k.size, fun i o hi ho => k.keep i o (h.keep i o hi ho) ho⟩
theorem Fr.of {p : Nat} {W W' : World} (h : Below W.heap.size W W') : Fr p W W' :=
  ⟨h.os, h.tape, h.output, h.size, fun k o hk _ => (h.block k (Array.getElem?_eq_some_iff.1 hk).1).trans hk⟩
theorem Fr.below {p : Nat} {W W' : World} (h : Fr p W W') (hp : p ≤ W.heap.size) : Below p W W' :=
  ⟨h.os, h.tape, h.output, h.size, fun k hk => by
    obtain ⟨o, ho⟩ : ∃ o, W.heap[k]? = some o := ⟨_, Array.getElem?_eq_getElem (by omega)⟩
    rw [ho]; exact h.keep k o ho (.inl hk)⟩
theorem plain_cells {cs : Array Value} {t : TypeId} {z : Nat × Nat} (h : t ≠ 67 ∧ t ≠ 40 ∧ t ≠ 42) : plainO (.cells cs t z) := by
  intro cs' t' z' e
  injection e with e1 e2 e3
  rw [← e2]; exact h
theorem plain_non {o : Obj} (h : o.isCells = false) : plainO o := by
  intro cs t z e
  subst e
  cases h
theorem Blk.fr {p : Nat} {W W' : World} {g : Nat} {t : TypeId} {cs : Array Value} (h : Blk W g t cs) (hf : Fr p W W') (ht : t ≠ 67 ∧ t ≠ 40 ∧ t ≠ 42) : Blk W' g t cs := hf.keep g _ h (.inr (plain_cells ht))
theorem own_fr {p : Nat} {W W' : World} {B size n : Nat} {e : TypeId} {v : Value} {xs : List Value} (h : W.ownsRow B e size v n xs) (hf : Fr p W W') (ht : e ≠ 67 ∧ e ≠ 40 ∧ e ≠ 42) : W'.ownsRow B e size v n xs := by
  refine ⟨h.1, ?_⟩
  rcases h.2 with h0 | ⟨g, cap, cur, hv, hb, hg, rest⟩
  · exact .inl h0
  · exact .inr ⟨g, cap, cur, hv, hb, hf.keep g _ hg (.inr (plain_cells ht)), rest⟩
theorem TyS.fr {p : Nat} {W W' : World} {A : Option Addr} {n c : Nat} {ks : List LB} (h : TyS W A n c ks) (hf : Fr p W W') : TyS W' A n c ks := by
  have hk : ∀ ad, A = some ad → W'.heap[ad.block]? = W.heap[ad.block]? := fun ad e => by
    obtain ⟨cur, hc⟩ := h.ty ad e
    rw [hc]; exact hf.keep _ _ hc (.inr (plain_cells ⟨by decide, by decide, by decide⟩))
  refine ⟨⟨h.rd.1, fun h0 => ?_⟩, h.le, fun ad e => ?_⟩
  · obtain ⟨ad, e, hb, hc⟩ := h.rd.2 h0
    refine ⟨ad, e, Nat.lt_of_lt_of_le hb hf.size, fun j u hj => ?_⟩
    rw [← hc j u hj]
    exact World.cell?_of_block (by rw [block_of_add]; exact hk ad e)
  · obtain ⟨cur, hc⟩ := h.ty ad e
    exact ⟨cur, (hk ad e).trans hc⟩
/-- A rule in memory. -/
structure RV where
  r : RU
  O : Option Addr
  on : Nat
  oc : Nat
  A : Option Addr
  an : Nat
  ac : Nat
def RV.cs (x : RV) : List Value := [.bool x.r.al, .slice x.O x.on x.oc, .string ⟨x.r.path.toArray⟩, .bool x.r.wi, .slice x.A x.an x.ac, .bool x.r.mo]
def RV.v (x : RV) : Value := .agg #[.bool x.r.al, .slice x.O x.on x.oc, .string ⟨x.r.path.toArray⟩, .bool x.r.wi, .slice x.A x.an x.ac, .bool x.r.mo]
def rus : List RV → List Value
  | [] => []
  | x :: l => x.cs ++ rus l
def EU.cs (e : EU) : List Value := [.int .i64 e.k, .string ⟨e.pat.toArray⟩, .string ⟨e.val.toArray⟩]
def ecs : List EU → List Value
  | [] => []
  | x :: l => x.cs ++ ecs l
theorem rus_length (l : List RV) : (rus l).length = l.length * 6 := by
  induction l with
  | nil => rfl
  | cons x l ih => rw [rus, List.length_append, ih, List.length_cons]; simp [RV.cs]; omega
theorem ecs_length (l : List EU) : (ecs l).length = l.length * 3 := by
  induction l with
  | nil => rfl
  | cons x l ih => rw [ecs, List.length_append, ih, List.length_cons]; simp [EU.cs]; omega
theorem rus_append (a b : List RV) : rus (a ++ b) = rus a ++ rus b := by
  induction a with
  | nil => rfl
  | cons x l ih => simp [rus, ih]
theorem ecs_append (a b : List EU) : ecs (a ++ b) = ecs a ++ ecs b := by
  induction a with
  | nil => rfl
  | cons x l ih => simp [ecs, ih]
theorem rus_one (l : List RV) : ∀ u ∈ rus l, u.oneCell' = true := by
  induction l with
  | nil => simp [rus]
  | cons x l ih =>
    intro u hu
    simp only [rus, List.mem_append] at hu
    rcases hu with hu | hu
    · simp only [RV.cs, List.mem_cons, List.not_mem_nil, or_false] at hu
      rcases hu with rfl | rfl | rfl | rfl | rfl | rfl <;> rfl
    · exact ih u hu
theorem ecs_one (l : List EU) : ∀ u ∈ ecs l, u.oneCell' = true := by
  induction l with
  | nil => simp [ecs]
  | cons x l ih =>
    intro u hu
    simp only [ecs, List.mem_append] at hu
    rcases hu with hu | hu
    · simp only [EU.cs, List.mem_cons, List.not_mem_nil, or_false] at hu
      rcases hu with rfl | rfl | rfl <;> rfl
    · exact ih u hu
theorem infoRu : (Tryz.prog.info? 40).map (fun i => (i.zero, i.size, i.bytes)) = some (some (.agg #[.bool false, .slice none 0 0, .string ⟨#[]⟩, .bool false, .slice none 0 0, .bool false]), 6, 88) := by kernel_rfl
theorem infoEn : (Tryz.prog.info? 42).map (fun i => (i.zero, i.size, i.bytes)) = some (some (.agg #[.int .i64 0, .string ⟨#[]⟩, .string ⟨#[]⟩]), 3, 40) := by kernel_rfl
def RVok (B : Nat) (w : World) (x : RV) : Prop := w.ownsRow B 3 1 (.slice x.O x.on x.oc) x.on (ivs x.r.ops) ∧ Ow B w x.A x.an x.ac x.r.args
theorem RVok.fr {p B : Nat} {W W' : World} {x : RV} (h : RVok B W x) (hf : Fr p W W') : RVok B W' x := ⟨own_fr h.1 hf ⟨by decide, by decide, by decide⟩, own_fr h.2 hf ⟨by decide, by decide, by decide⟩⟩
/-- The reader's slices. -/
structure RS where
  RA : Option Addr
  rn : Nat
  rc : Nat
  L : List RV
  EA : Option Addr
  en : Nat
  ec : Nat
structure RdI (p B : Nat) (s : RS) (P : PL) (num : Int) (fi : Bool) (w : World) : Prop where
  blk : Blk w p 67 #[.string ⟨P.root.toArray⟩, .slice s.RA s.rn s.rc, .slice s.EA s.en s.ec, .int .i64 num, .bool fi]
  rules : w.ownsRow B 40 6 (.slice s.RA s.rn s.rc) s.rn (rus s.L)
  ok : ∀ x ∈ s.L, RVok B w x
  eq : s.L.map RV.r = P.rules
  env : w.ownsRow B 42 3 (.slice s.EA s.en s.ec) s.en (ecs P.env)
  lo : p < B
  hi : B ≤ w.heap.size
theorem RdI.below {p B : Nat} {s : RS} {P : PL} {num : Int} {fi : Bool} {w w' : World} (h : RdI p B s P num fi w) (hb : Below w.heap.size w w') : RdI p B s P num fi w' :=
  ⟨h.blk.below hb h.blk.lt, own_below h.rules hb, fun x hx => (h.ok x hx).fr (Fr.of (p := p) hb), h.eq, own_below h.env hb, h.lo, Nat.le_trans h.hi hb.size⟩
theorem RdI.en_ {p B : Nat} {s : RS} {P : PL} {num : Int} {fi : Bool} {w : World} (h : RdI p B s P num fi w) : P.env.length = s.en := by have := h.env.1; rw [ecs_length] at this; omega
theorem RdI.rn_ {p B : Nat} {s : RS} {P : PL} {num : Int} {fi : Bool} {w : World} (h : RdI p B s P num fi w) : P.rules.length = s.rn := by have := h.rules.1; rw [rus_length] at this; rw [← h.eq, List.length_map]; omega
/-- How a piece of a line ends. -/
def LnEnd (p B : Nat) (num : Int) (fi : Bool) (R : Option PL) (w : World) (e : Ending) (w' : World) : Prop := Fr p w w' ∧ match R with
  | none => e = .panicked (badV num)
  | some Q => e = .returned (.tuple #[]) ∧ ∃ s', RdI p B s' Q num fi w'
theorem LnEnd.no {p B : Nat} {num : Int} {fi : Bool} {R : Option PL} {w : World} {e : Ending} {w' : World} (h : R = none) (hf : Fr p w w') (he : e = .panicked (badV num)) : LnEnd p B num fi R w e w' := by subst h; exact ⟨hf, he⟩
theorem LnEnd.ok {p B : Nat} {num : Int} {fi : Bool} {R : Option PL} {Q : PL} {w : World} {e : Ending} {w' : World} {s' : RS} (h : R = some Q) (hf : Fr p w w') (he : e = .returned (.tuple #[])) (hr : RdI p B s' Q num fi w') : LnEnd p B num fi R w e w' := by subst h; exact ⟨hf, he, s', hr⟩
theorem Blk.five_ {w : World} {g : Nat} {t : TypeId} {x y z u v : Value} (h : Blk w g t #[x, y, z, u, v]) :
    (w.cell? ⟨g, 0, none⟩ = some x ∧ w.cell? ⟨g, 1, none⟩ = some y ∧ w.cell? ⟨g, 2, none⟩ = some z ∧ w.cell? ⟨g, 3, none⟩ = some u ∧ w.cell? ⟨g, 4, none⟩ = some v) := ⟨h.cell 0, h.cell 1, h.cell 2, h.cell 3, h.cell 4⟩
/-- The reader's env row grown, its slice stored. -/
theorem RdI.push_env {p B : Nat} {s : RS} {P : PL} {num : Int} {fi : Bool} {w w2 : World} (h : RdI p B s P num fi w) (e : EU) {A' : Option Addr} {c' : Nat} 
    (hown : w2.ownsRow B 42 3 (.slice A' (s.en + 1) c') (s.en + 1) (ecs P.env ++ e.cs)) (hg : w.grownBy w2 (Value.slice s.EA s.en s.ec).ownBlock) :
    RdI p B { s with EA := A', en := s.en + 1, ec := c' } { P with env := P.env ++ [e] } num fi (w2.setCell ⟨p, 2, none⟩ (.slice A' (s.en + 1) c')) ∧ Fr p w (w2.setCell ⟨p, 2, none⟩ (.slice A' (s.en + 1) c')) := by
  have hlo := h.lo
  have hhi := h.hi
  have hrow : ∀ g, (Value.slice s.EA s.en s.ec).ownBlock = some g → B ≤ g ∧ ∃ cs z, w.heap[g]? = some (.cells cs 42 z) := fun g hgb => by
    refine ⟨(World.ownsRow.lt h.env g hgb).1, ?_⟩
    rcases h.env.2 with ⟨hv, h0⟩ | ⟨g', cap, cur, hv, hb, hh, _⟩
    · injection hv with e1 e2 e3
      rw [e1] at hgb; cases hgb
    · injection hv with e1 e2 e3
      rw [e1] at hgb
      have : g' = g := by simpa [Value.ownBlock] using hgb
      subst this
      exact ⟨_, _, hh⟩
  have hk1 : ∀ k o, w.heap[k]? = some o → (k < B ∨ ∀ cs z, o ≠ .cells cs 42 z) → w2.heap[k]? = some o := fun k o ho hc => by
    refine (hg.block k (Array.getElem?_eq_some_iff.1 ho).1 (fun e => ?_)).trans ho
    obtain ⟨h1, cs, z, h2⟩ := hrow k e.symm
    rcases hc with hc | hc
    · omega
    · rw [ho] at h2; injection h2 with h2; exact hc cs z h2
  have hfr1 : Fr p w w2 := ⟨hg.os, hg.tape, hg.output, hg.size, fun k o ho hc => hk1 k o ho (by
    rcases hc with hc | hc
    · exact .inl (by omega)
    · exact .inr (fun cs z e => (hc _ _ _ e).2.2 rfl))⟩
  have hb2 : Blk w2 p 67 _ := hk1 p _ h.blk (.inl (by omega))
  have hfr2 : Fr p w2 (w2.setCell ⟨p, 2, none⟩ (.slice A' (s.en + 1) c')) := ⟨rfl, rfl, rfl, by simp, fun k o ho hc => by
    refine (Below.heap_setCell w2 ⟨p, 2, none⟩ _ k ?_).trans ho
    intro e
    have e' : k = p := e
    rw [e'] at ho hc
    rcases hc with hc | hc
    · omega
    · unfold Blk at hb2
      rw [hb2] at ho
      injection ho with ho
      exact (hc _ _ _ ho.symm).1 rfl⟩
  refine ⟨⟨?_, ?_, fun x hx => ((h.ok x hx).fr hfr1).fr hfr2, h.eq, ?_, hlo, by have := hg.size; simp; omega⟩, hfr1.trans hfr2⟩
  · exact hb2.set_ 2 _
  · have h1 : w2.ownsRow B 40 6 (.slice s.RA s.rn s.rc) s.rn (rus s.L) := by
      refine ⟨h.rules.1, ?_⟩
      rcases h.rules.2 with h0 | ⟨g, cap, cur, hv, hb, hh, rest⟩
      · exact .inl h0
      · exact .inr ⟨g, cap, cur, hv, hb, hk1 g _ hh (.inr (fun cs z e => by injection e with e1 e2; cases e2)), rest⟩
    exact own_far h1 (p := ⟨p, 2, none⟩) (by show p < B; omega) _
  · show World.ownsRow _ _ _ _ _ _ (ecs (P.env ++ [e]))
    rw [ecs_append]
    have : ecs [e] = e.cs := by simp [ecs]
    rw [this]
    exact own_far hown (p := ⟨p, 2, none⟩) (by show p < B; omega) _
theorem one_env (W : World) (e : EU) : Reads (W.alloc (.cells #[.int .i64 e.k, .string ⟨e.pat.toArray⟩, .string ⟨e.val.toArray⟩] 42)) (W.heap.size + 1) 3 (some ⟨W.heap.size, 0, none⟩) 1 e.cs := by
  refine ⟨rfl, fun _ => ⟨_, rfl, by simp, ?_⟩⟩
  intro j u hu
  rw [at_add, Nat.zero_add, (Blk.new W 42 _).cell j]
  simpa [EU.cs] using hu
end Go.Proofs.YthbackkcamgidaaGreatDoor
