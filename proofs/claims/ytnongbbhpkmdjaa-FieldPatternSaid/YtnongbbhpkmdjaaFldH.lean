/- Pieces, fields and the splitter in memory. -/
import Derived.Test.YtnongbbhpkmdjaaStrs
import Derived.Test.YtnongbbhpkmdjaaFldM
import Derived.Test.YtnongbbhpkmdjaaMem
import Derived.Maps.OwnSet
import Derived.Laws.OwnMore
import Derived.WalkSmall
import Derived.Deep.RegionLaw
import Derived.Lib.AppendStr
namespace Go.Proofs.Ytnongbbhpkmdjaa
open Go.RowKit
open Go.Maps
set_option linter.unusedVariables false
def pv (p : Pc) : List Value := [sv p.text, .bool p.quoted, .bool p.soft, .bool p.gap]
def pvs : List Pc → List Value
  | [] => []
  | p :: r => pv p ++ pvs r
theorem pvs_length (l : List Pc) : (pvs l).length = l.length * 4 := by
  induction l with
  | nil => rfl
  | cons p r ih => simp [pvs, pv, ih]; omega
theorem pvs_append (a b : List Pc) : pvs (a ++ b) = pvs a ++ pvs b := by
  induction a with
  | nil => rfl
  | cons p r ih => simp [pvs, ih]
theorem pvs_one (l : List Pc) : ∀ u ∈ pvs l, u.oneCell' = true := by
  induction l with
  | nil => simp [pvs]
  | cons p r ih =>
    intro u hu
    simp only [pvs, List.mem_append] at hu
    rcases hu with hu | hu
    · simp only [pv, sv, List.mem_cons, List.not_mem_nil, or_false] at hu
      rcases hu with rfl | rfl | rfl | rfl <;> rfl
    · exact ih u hu
theorem pvs_at : ∀ (l : List Pc) (k j : Nat) (h : k < l.length), j < 4 → (pvs l)[k * 4 + j]? = (pv l[k])[j]?
  | p :: r, 0, j, h, hj => by
    simp only [pvs, Nat.zero_mul, Nat.zero_add]
    rw [List.getElem?_append_left (by simp [pv]; omega)]
    rfl
  | p :: r, k + 1, j, h, hj => by
    simp only [pvs]
    rw [List.getElem?_append_right (by simp [pv]; omega)]
    have := pvs_at r k j (by simpa using h) hj
    simp only [pv, List.length_cons, List.length_nil] at this ⊢
    rw [show (k + 1) * 4 + j - (0 + 1 + 1 + 1 + 1) = k * 4 + j by omega, this]
    rfl
def up1 (p : LB × Bool) : Pc := ⟨p.1, p.2, false, false⟩
def up (f : Fd) : List Pc := f.map up1
theorem up_append (a b : Fd) : up (a ++ b) = up a ++ up b := by simp [up]
theorem up_length (a : Fd) : (up a).length = a.length := by simp [up]
def ivs (l : List Nat) : List Value := l.map fun (k : Nat) => .int .i64 (k : Int)
theorem ivs_length (l : List Nat) : (ivs l).length = l.length := by simp [ivs]
theorem ivs_append (a b : List Nat) : ivs (a ++ b) = ivs a ++ ivs b := by simp [ivs]
theorem ivs_one (l : List Nat) : ∀ u ∈ ivs l, u.oneCell' = true := by
  intro u hu
  simp only [ivs, List.mem_map] at hu
  obtain ⟨b, _, rfl⟩ := hu
  rfl
theorem infoPc : (Try.prog.info? 35).map (fun i => (i.zero, i.size, i.bytes)) = some (some (.agg #[.string ⟨#[]⟩, .bool false, .bool false, .bool false]), 4, 24) := by kernel_rfl
theorem infoInt : (Try.prog.info? 3).map (fun i => (i.zero, i.size, i.bytes)) = some (some (.int .i64 0), 1, 8) := by kernel_rfl
theorem infoFd : (Try.prog.info? 22).map (fun i => (i.zero, i.size, i.bytes)) = some (some (.slice none 0 0), 1, 24) := by kernel_rfl
theorem infoU8 : (Try.prog.info? 5).map (fun i => (i.zero, i.size, i.bytes)) = some (some (.int .u8 0), 1, 1) := by kernel_rfl
theorem sizePc : (Try.prog.info? 35).map (·.size) = some 4 := by kernel_rfl
theorem sizeInt : (Try.prog.info? 3).map (·.size) = some 1 := by kernel_rfl
theorem sizeFd : (Try.prog.info? 22).map (·.size) = some 1 := by kernel_rfl
/- The separating bytes. -/
theorem keyU : Keyed Try.prog 5 := int_keyed Try.underlying5
theorem zeroI (w : World) : (zeroValue 3).run Try.prog w = .ok (.int .i64 0) w := by kernel_rfl
theorem key_u8 (c : UInt8) : keyOf Try.prog 5 (.int .u8 (c.toNat : Int)) = some (.int .u8 (c.toNat : Int)) := keyOf_int_mk Try.underlying5 (by
  have := c.toNat_lt
  simp [Lit.wf, IntKind.min, IntKind.max, IntKind.bits, IntKind.signed]
  try omega)
def KMap (w : World) (b : Nat) (n : Nat) (ifs : LB) : Prop := ∃ D : DataW Unit, w.ownsMap Try.prog 5 (plainElem Try.prog 3) b n D ∧ ∀ c : UInt8, D.atKey (.int .u8 (c.toNat : Int)) (.lit (.int .i64 0)) = .lit (.int .i64 (kindP ifs c : Int))
theorem KMap.look {w : World} {b n : Nat} {ifs : LB} (h : KMap w b n ifs) (c : UInt8) : (Instr.lookup 38 (.map (some b)) (.int .u8 (c.toNat : Int)) false).run Try.prog w = .ok (.int .i64 (kindP ifs c : Int)) w := by
  obtain ⟨D, h, hD⟩ := h
  obtain ⟨x, hrun, hat, _⟩ := h.lookup_int keyU Try.underlying38 Try.underlying3 (zeroI w) (key_u8 c)
  rw [hD c] at hat
  injection hat with hat
  injection hat with _ hat
  rw [hat]; exact hrun
theorem KMap.made (w : World) : KMap (w.alloc (.map #[] 0)) w.heap.size 0 [] := ⟨.map [], World.ownsMap_made _ _ _ _, fun c => by simp [kindP, DataW.atKey]⟩
theorem KMap.kept {w w' : World} {b n : Nat} {ifs : LB} (h : KMap w b n ifs) (hb : w'.heap[b]? = w.heap[b]?) : KMap w' b n ifs := by
  obtain ⟨D, ⟨es, clock, h1, h2⟩, hD⟩ := h
  exact ⟨D, ⟨es, clock, hb.trans h1, h2⟩, hD⟩
theorem KMap.lt {w : World} {b n : Nat} {ifs : LB} (h : KMap w b n ifs) : b < w.heap.size := by
  obtain ⟨D, h, _⟩ := h
  exact h.lt
theorem KMap.ne {w : World} {b n g : Nat} {ifs : LB} {t : TypeId} {cs : Array Value} (h : KMap w b n ifs) (hg : Blk w g t cs) : b ≠ g := by
  rintro rfl
  obtain ⟨D, ⟨es, clock, h1, _⟩, _⟩ := h
  unfold Blk at hg
  rw [h1] at hg
  injection hg with hg
  cases hg
theorem KMap.ne_own {w : World} {b n : Nat} {ifs : LB} {base : Nat} {e : TypeId} {size m : Nat} {v : Value} {xs : List Value} (h : KMap w b n ifs) (ho : w.ownsRow base e size v m xs) : some b ≠ v.ownBlock := by
  rcases ho.2 with ⟨rfl, _⟩ | ⟨g', cap, cur, rfl, _, hh, _⟩
  · simp [Value.ownBlock]
  · intro he
    have : b = g' := by simpa [Value.ownBlock] using he
    exact h.ne (t := e) (cs := cur) hh this
theorem kind_snoc (ifs : LB) (c x : UInt8) : kindP (ifs ++ [c]) x = if x = c then (if c = 32 ∨ c = 9 ∨ c = 10 then 1 else 2) else kindP ifs x := by
  unfold kindP
  by_cases h : x = c
  · subst h; simp
  · simp [h]
theorem KMap.put {w w' : World} {b n : Nat} {ifs : LB} {c : UInt8} {v : Nat} {D : DataW Unit} (hD : ∀ c : UInt8, D.atKey (.int .u8 (c.toNat : Int)) (.lit (.int .i64 0)) = .lit (.int .i64 (kindP ifs c : Int)))
    (hm : IsMap D) (h : w'.ownsMap Try.prog 5 (plainElem Try.prog 3) b (n + 1) (D.put (.int .u8 (c.toNat : Int)) (.lit (.int .i64 (v : Int))))) (hv : v = if c = 32 ∨ c = 9 ∨ c = 10 then 1 else 2) : KMap w' b (n + 1) (ifs ++ [c]) := by
  refine ⟨_, h, fun x => ?_⟩
  rw [kind_snoc]
  by_cases hx : x = c
  · subst hx
    rw [if_pos rfl, ← hv]
    exact atKey_put_same hm (by first | exact trivial | (simp [WideAt.IsKeyLit])) _ _
  · rw [if_neg hx, atKey_put_other (fun e => hx ?_)]
    · exact hD x
    · injection e with _ e
      exact UInt8.toNat_inj.1 (by omega)
/- Fields. -/
/-- The blocks of pieces stay as they are, but for x. -/
structure K35 (w w' : World) (x : Option Nat) : Prop where
  size : w.heap.size ≤ w'.heap.size
  blk : ∀ k cs, Blk w k 35 cs → some k ≠ x → Blk w' k 35 cs
theorem K35.below {w w' : World} (h : Below w.heap.size w w') : K35 w w' none := ⟨h.size, fun k cs hk _ => hk.below h hk.lt⟩
theorem K35.set_ {w : World} {p : Addr} {t : TypeId} {cs : Array Value} (hg : Blk w p.block t cs) (hne : 35 ≠ t) (u : Value) : K35 w (w.setCell p u) none := ⟨by simp, fun k cs' hk _ => hk.far (Blk.ne_ hk hg hne) u⟩
theorem K35.grown {w w' : World} {row : Option Nat} (h : w.grownBy w' row) : K35 w w' row := ⟨h.size, fun k cs hk hne => hk.grown h hne⟩
theorem K35.grown_other {w w' : World} {base e size n : Nat} {v : Value} {xs : List Value} (ho : w.ownsRow base e size v n xs) (hne : e ≠ 35) (h : w.grownBy w' v.ownBlock) : K35 w w' none :=
  ⟨h.size, fun k cs hk _ => hk.grown h (fun he => own_blk_ne ho hk hne he.symm)⟩
theorem K35.trans {a b c : World} {x : Option Nat} (h : K35 a b none) (k : K35 b c x) : K35 a c x := ⟨Nat.le_trans h.size k.size, fun j cs hj hne => k.blk j cs (h.blk j cs hj (by simp)) hne⟩
theorem K35.refl (w : World) : K35 w w none := ⟨Nat.le_refl _, fun _ _ h _ => h⟩
def FdAt (w : World) (v : Value) (f : Fd) : Prop := ∃ A n c, v = .slice A n c ∧ n = f.length ∧ n ≤ c ∧ (0 < n → ∃ g cs, A = some ⟨g, 0, none⟩ ∧ Blk w g 35 cs ∧ cs.toList.take (n * 4) = pvs (up f))
theorem FdAt.reads {w : World} {A : Option Addr} {n c : Nat} {f : Fd} (h : FdAt w (.slice A n c) f) : Reads w w.heap.size 4 A n (pvs (up f)) ∧ n = f.length := by
  obtain ⟨A', n', c', e, hn, hc, h⟩ := h
  injection e with e1 e2 e3
  subst e1 e2 e3
  refine ⟨⟨by rw [pvs_length, up_length, hn], fun h0 => ?_⟩, hn⟩
  obtain ⟨g, cs, rfl, hb, ht⟩ := h h0
  refine ⟨_, rfl, hb.lt, fun j u hj => ?_⟩
  rw [at_add, Nat.zero_add, hb.cell j, ← Array.getElem?_toList, ← hj, ← ht, List.getElem?_take]
  have hl : j < (pvs (up f)).length := by
    rcases Nat.lt_or_ge j (pvs (up f)).length with h | h
    · exact h
    · rw [List.getElem?_eq_none h] at hj; cases hj
  rw [pvs_length, up_length] at hl
  rw [if_pos (by omega)]
/-- No field lies in block x. -/
def NotInF (x : Option Nat) (vs : List Value) : Prop := ∀ u ∈ vs, ∀ a n c, u = .slice (some a) n c → 0 < n → some a.block ≠ x
theorem FdAt.keep {w w' : World} {x : Option Nat} {v : Value} {f : Fd} (h : FdAt w v f) (hk : K35 w w' x) (hn : ∀ a n c, v = .slice (some a) n c → 0 < n → some a.block ≠ x) : FdAt w' v f := by
  obtain ⟨A, n, c, rfl, e, hc, h⟩ := h
  refine ⟨A, n, c, rfl, e, hc, fun h0 => ?_⟩
  obtain ⟨g, cs, rfl, hb, ht⟩ := h h0
  exact ⟨g, cs, rfl, hk.blk g cs hb (hn _ _ _ rfl h0), ht⟩
def FdRow (w : World) (vs : List Value) (fs : List Fd) : Prop := vs.length = fs.length ∧ ∀ (j : Nat) (v : Value) (f : Fd), vs[j]? = some v → fs[j]? = some f → FdAt w v f
theorem FdRow.nil (w : World) : FdRow w [] [] := ⟨rfl, fun j v f h => by simp at h⟩
theorem FdRow.keep {w w' : World} {x : Option Nat} {vs : List Value} {fs : List Fd} (h : FdRow w vs fs) (hk : K35 w w' x) (hn : NotInF x vs) : FdRow w' vs fs :=
  ⟨h.1, fun j v f hv hf => (h.2 j v f hv hf).keep hk fun a n c e h0 => hn v (List.mem_of_getElem? hv) a n c e h0⟩
theorem FdRow.snoc {w : World} {vs : List Value} {fs : List Fd} (h : FdRow w vs fs) {v : Value} {f : Fd} (hv : FdAt w v f) : FdRow w (vs ++ [v]) (fs ++ [f]) := by
  refine ⟨by simp [h.1], fun j u e hu he => ?_⟩
  rcases Nat.lt_or_ge j vs.length with hj | hj
  · rw [List.getElem?_append_left hj] at hu
    rw [List.getElem?_append_left (by rw [← h.1]; exact hj)] at he
    exact h.2 j u e hu he
  · have hjl : j = vs.length := by
      rcases Nat.lt_or_ge vs.length j with h' | h'
      · rw [List.getElem?_eq_none (by simp; omega)] at hu; cases hu
      · omega
    subst hjl
    rw [List.getElem?_append_right (Nat.le_refl _), Nat.sub_self] at hu
    rw [h.1, List.getElem?_append_right (Nat.le_refl _), Nat.sub_self] at he
    simp at hu he
    subst hu he
    exact hv
theorem NotInF.none_ {w : World} {vs : List Value} {fs : List Fd} (h : FdRow w vs fs) : NotInF none vs := fun u hu a n c e h0 => by simp
/-- A row of fields of the call's own, none of them in block x. -/
def Fo (B : Nat) (w : World) (A : Option Addr) (n c : Nat) (fs : List Fd) (x : Option Nat) : Prop := ∃ vs, w.ownsRow B 22 1 (.slice A n c) n vs ∧ FdRow w vs fs ∧ NotInF x vs
def Po (B : Nat) (w : World) (A : Option Addr) (n c : Nat) (f : Fd) : Prop := w.ownsRow B 35 4 (.slice A n c) n (pvs (up f))
def Io (B : Nat) (w : World) (A : Option Addr) (n c : Nat) (l : List Nat) : Prop := w.ownsRow B 3 1 (.slice A n c) n (ivs l)
def To (B : Nat) (w : World) (A : Option Addr) (n c : Nat) (t : LB) : Prop := w.ownsRow B 5 1 (.slice A n c) n (bv t)
theorem Po.len {B : Nat} {w : World} {A : Option Addr} {n c : Nat} {f : Fd} (h : Po B w A n c f) : f.length = n := by have := h.1; rw [pvs_length, up_length] at this; omega
theorem Io.len {B : Nat} {w : World} {A : Option Addr} {n c : Nat} {l : List Nat} (h : Io B w A n c l) : l.length = n := by have := h.1; rw [ivs_length] at this; omega
theorem To.len {B : Nat} {w : World} {A : Option Addr} {n c : Nat} {t : LB} (h : To B w A n c t) : t.length = n := by have := h.1; rw [bv_length] at this; omega
theorem Fo.len {B : Nat} {w : World} {A : Option Addr} {n c : Nat} {fs : List Fd} {x : Option Nat} (h : Fo B w A n c fs x) : fs.length = n := by
  obtain ⟨vs, h1, h2, _⟩ := h
  have := h1.1; rw [← h2.1]; omega
theorem Fo.set_ {B : Nat} {w : World} {A : Option Addr} {n c : Nat} {fs : List Fd} {x : Option Nat} (h : Fo B w A n c fs x) {p : Addr} {t : TypeId} {cs : Array Value} (hg : Blk w p.block t cs) (h1 : 22 ≠ t) (h2 : 35 ≠ t) (u : Value) : Fo B (w.setCell p u) A n c fs x := by
  obtain ⟨vs, a, b, d⟩ := h
  exact ⟨vs, own_set_blk a hg h1 u, b.keep (K35.set_ hg h2 u) (NotInF.none_ b), d⟩
theorem Fo.below {B : Nat} {w w' : World} {A : Option Addr} {n c : Nat} {fs : List Fd} {x : Option Nat} (h : Fo B w A n c fs x) (hb : Below w.heap.size w w') : Fo B w' A n c fs x := by
  obtain ⟨vs, a, b, d⟩ := h
  exact ⟨vs, own_below a hb, b.keep (K35.below hb) (NotInF.none_ b), d⟩
theorem own_ne {w : World} {B e size n B' e' size' n' : Nat} {v v' : Value} {xs xs' : List Value} (h : w.ownsRow B e size v n xs) (h' : w.ownsRow B' e' size' v' n' xs') (hne : e ≠ e') : v.ownBlock = none ∨ v.ownBlock ≠ v'.ownBlock := by
  rcases h.2 with ⟨rfl, _⟩ | ⟨g, cap, cur, rfl, _, hh, _⟩
  · exact .inl rfl
  · refine .inr fun he => ?_
    rcases h'.2 with ⟨rfl, _⟩ | ⟨g', cap', cur', rfl, _, hh', _⟩
    · simp [Value.ownBlock] at he
    · have : g = g' := by simpa [Value.ownBlock] using he
      subst this
      exact Blk.ne_ (t := e) (t' := e') hh hh' hne rfl
theorem Blk.eight {w : World} {g : Nat} {t : TypeId} {a b c d e f h i : Value} (H : Blk w g t #[a, b, c, d, e, f, h, i]) :
    (w.cell? ⟨g, 0, none⟩ = some a ∧ w.cell? ⟨g, 1, none⟩ = some b ∧ w.cell? ⟨g, 2, none⟩ = some c ∧ w.cell? ⟨g, 3, none⟩ = some d ∧ w.cell? ⟨g, 4, none⟩ = some e ∧ w.cell? ⟨g, 5, none⟩ = some f ∧ w.cell? ⟨g, 6, none⟩ = some h ∧ w.cell? ⟨g, 7, none⟩ = some i) ∧
    w.frozen? ⟨g, 0, none⟩ = false ∧ w.frozen? ⟨g, 1, none⟩ = false ∧ w.frozen? ⟨g, 2, none⟩ = false ∧ w.frozen? ⟨g, 3, none⟩ = false ∧ w.frozen? ⟨g, 4, none⟩ = false ∧ w.frozen? ⟨g, 5, none⟩ = false ∧ w.frozen? ⟨g, 6, none⟩ = false ∧ w.frozen? ⟨g, 7, none⟩ = false :=
  ⟨⟨H.cell 0, H.cell 1, H.cell 2, H.cell 3, H.cell 4, H.cell 5, H.cell 6, H.cell 7⟩, H.frozen 0, H.frozen 1, H.frozen 2, H.frozen 3, H.frozen 4, H.frozen 5, H.frozen 6, H.frozen 7⟩
/-- Where the splitter's rows lie. -/
structure Hd where
  m : Nat
  mn : Nat
  F : Option Addr
  nf : Nat
  cf : Nat
  G : Option Addr
  ng : Nat
  cg : Nat
  P : Option Addr
  np : Nat
  cp : Nat
  T : Option Addr
  nt : Nat
  ct : Nat
def Hd.cells (h : Hd) (s : CS) : Array Value := #[.map (some h.m), .slice h.F h.nf h.cf, .slice h.G h.ng h.cg, .slice h.P h.np h.cp, .slice h.T h.nt h.ct, .bool s.op, .bool s.closed, .int .i64 (s.counted : Int)]
/-- A block of pieces that the splitter has nothing to do with. -/
def Ob (w : World) (v : Value) (X : Option (Nat × Array Value)) : Prop := ∀ x c, X = some (x, c) → Blk w x 35 c ∧ some x ≠ v.ownBlock
theorem Ob.keep {w w' : World} {v : Value} {X : Option (Nat × Array Value)} (h : Ob w v X) (hk : K35 w w' none) : Ob w' v X := fun x c e => ⟨hk.blk _ _ (h x c e).1 (by simp), (h x c e).2⟩
theorem Ob.nil {w : World} {v : Value} {X : Option (Nat × Array Value)} (h : Ob w v X) : Ob w (.slice none 0 0) X := fun x c e => ⟨(h x c e).1, by simp [Value.ownBlock]⟩
/-- The splitter at block g. -/
structure SS (B : Nat) (w : World) (g : Nat) (ifs : LB) (X : Option (Nat × Array Value)) (s : CS) (h : Hd) : Prop where
  blk : Blk w g 43 #[.map (some h.m), .slice h.F h.nf h.cf, .slice h.G h.ng h.cg, .slice h.P h.np h.cp, .slice h.T h.nt h.ct, .bool s.op, .bool s.closed, .int .i64 (s.counted : Int)]
  km : KMap w h.m h.mn ifs
  fo : Fo B w h.F h.nf h.cf s.fields (Value.slice h.P h.np h.cp).ownBlock
  go : Io B w h.G h.ng h.cg s.begins
  po : Po B w h.P h.np h.cp s.pieces
  to : To B w h.T h.nt h.ct s.text
  hg : B ≤ g
  hm : B ≤ h.m
  ob : Ob w (.slice h.P h.np h.cp) X
def SAt (B : Nat) (w : World) (g : Nat) (ifs : LB) (X : Option (Nat × Array Value)) (s : CS) : Prop := ∃ h, SS B w g ifs X s h
section
variable {B : Nat} {w w' : World} {g : Nat} {ifs : LB} {s : CS} {h : Hd} {X : Option (Nat × Array Value)}
theorem SS.below (H : SS B w g ifs X s h) (hb : Below w.heap.size w w') : SS B w' g ifs X s h :=
  ⟨H.blk.below hb H.blk.lt, H.km.kept (hb.block _ H.km.lt), H.fo.below hb, own_below H.go hb, own_below H.po hb, own_below H.to hb, H.hg, H.hm, H.ob.keep (K35.below hb)⟩
theorem SS.drewN (H : SS B w g ifs X s h) (n : Nat) : SS B (w.drewN n) g ifs X s h := ⟨H.blk, H.km.kept rfl, by
  obtain ⟨vs, a, b, c⟩ := H.fo
  exact ⟨vs, a, b.keep ⟨Nat.le_refl _, fun _ _ h _ => h⟩ (NotInF.none_ b), c⟩, H.go, H.po, H.to, H.hg, H.hm, H.ob.keep ⟨Nat.le_refl _, fun _ _ h _ => h⟩⟩
theorem SS.map_set (H : SS B w g ifs X s h) (i : Nat) (u : Value) : (w.setCell ⟨g, i, none⟩ u).heap[h.m]? = w.heap[h.m]? := Below.heap_setCell w ⟨g, i, none⟩ u _ (H.km.ne H.blk)
theorem SS.setOp (H : SS B w g ifs X s h) (b : Bool) : SS B (w.setCell ⟨g, 5, none⟩ (.bool b)) g ifs X { s with op := b } h :=
  ⟨H.blk.set_ 5 _, H.km.kept (H.map_set 5 _), H.fo.set_ (p := ⟨g, 5, none⟩) H.blk (by decide) (by decide) _, own_set_blk H.go (p := ⟨g, 5, none⟩) H.blk (by decide) _, own_set_blk H.po (p := ⟨g, 5, none⟩) H.blk (by decide) _, own_set_blk H.to (p := ⟨g, 5, none⟩) H.blk (by decide) _, H.hg, H.hm, H.ob.keep (K35.set_ (p := ⟨g, 5, none⟩) H.blk (by decide) _)⟩
theorem SS.setClosed (H : SS B w g ifs X s h) (b : Bool) : SS B (w.setCell ⟨g, 6, none⟩ (.bool b)) g ifs X { s with closed := b } h :=
  ⟨H.blk.set_ 6 _, H.km.kept (H.map_set 6 _), H.fo.set_ (p := ⟨g, 6, none⟩) H.blk (by decide) (by decide) _, own_set_blk H.go (p := ⟨g, 6, none⟩) H.blk (by decide) _, own_set_blk H.po (p := ⟨g, 6, none⟩) H.blk (by decide) _, own_set_blk H.to (p := ⟨g, 6, none⟩) H.blk (by decide) _, H.hg, H.hm, H.ob.keep (K35.set_ (p := ⟨g, 6, none⟩) H.blk (by decide) _)⟩
theorem SS.setCounted (H : SS B w g ifs X s h) (n : Nat) : SS B (w.setCell ⟨g, 7, none⟩ (.int .i64 (n : Int))) g ifs X { s with counted := n } h :=
  ⟨H.blk.set_ 7 _, H.km.kept (H.map_set 7 _), H.fo.set_ (p := ⟨g, 7, none⟩) H.blk (by decide) (by decide) _, own_set_blk H.go (p := ⟨g, 7, none⟩) H.blk (by decide) _, own_set_blk H.po (p := ⟨g, 7, none⟩) H.blk (by decide) _, own_set_blk H.to (p := ⟨g, 7, none⟩) H.blk (by decide) _, H.hg, H.hm, H.ob.keep (K35.set_ (p := ⟨g, 7, none⟩) H.blk (by decide) _)⟩
theorem SS.noText (H : SS B w g ifs X s h) : SS B (w.setCell ⟨g, 4, none⟩ (.slice none 0 0)) g ifs X { s with text := [] } { h with T := none, nt := 0, ct := 0 } :=
  ⟨H.blk.set_ 4 _, H.km.kept (H.map_set 4 _), H.fo.set_ (p := ⟨g, 4, none⟩) H.blk (by decide) (by decide) _, own_set_blk H.go (p := ⟨g, 4, none⟩) H.blk (by decide) _, own_set_blk H.po (p := ⟨g, 4, none⟩) H.blk (by decide) _, World.ownsRow_nil _ _ _ _, H.hg, H.hm, H.ob.keep (K35.set_ (p := ⟨g, 4, none⟩) H.blk (by decide) _)⟩
theorem NotInF.some_none {x : Option Nat} {vs : List Value} (h : NotInF x vs) : NotInF none vs := fun u hu a n c e h0 => by simp
theorem SS.noPieces (H : SS B w g ifs X s h) : SS B (w.setCell ⟨g, 3, none⟩ (.slice none 0 0)) g ifs X { s with pieces := [] } { h with P := none, np := 0, cp := 0 } :=
  ⟨H.blk.set_ 3 _, H.km.kept (H.map_set 3 _), by
    obtain ⟨vs, a, b, c⟩ := H.fo.set_ (p := ⟨g, 3, none⟩) H.blk (by decide) (by decide) (.slice none 0 0)
    exact ⟨vs, a, b, c.some_none⟩, own_set_blk H.go (p := ⟨g, 3, none⟩) H.blk (by decide) _, World.ownsRow_nil _ _ _ _, own_set_blk H.to (p := ⟨g, 3, none⟩) H.blk (by decide) _, H.hg, H.hm, (H.ob.keep (K35.set_ (p := ⟨g, 3, none⟩) H.blk (by decide) _)).nil⟩
end
end Go.Proofs.Ytnongbbhpkmdjaa
