/- The document's splitter: its bounds, its memory. -/
import Derived.Test.YtnongbbhpkmdjaaFldK
namespace Go.Proofs.Ytnongbbhpkmdjaa
open Go.RowKit
set_option linter.unusedVariables false
theorem catQ (a b : LB) : ((⟨a.toArray⟩ : ByteArray) ++ ⟨b.toArray⟩) = ⟨(a ++ b).toArray⟩ := by
  apply ByteArray.ext
  simp
def FS.Le (f : FS) (K : Nat) : Prop := f.out.length ≤ K ∧ f.now.length ≤ K ∧ ∀ x ∈ f.now, x.1.length ≤ K
theorem FS.Le.up {f : FS} {K L : Nat} (h : f.Le K) (hl : K ≤ L) : f.Le L := ⟨Nat.le_trans h.1 hl, Nat.le_trans h.2.1 hl, fun x hx => Nat.le_trans (h.2.2 x hx) hl⟩
theorem FLe.stop {f : FS} {K : Nat} (h : f.Le K) : f.stop.Le (K + 1) := ⟨by simp [FS.stop]; exact h.1, by simp [FS.stop], by simp [FS.stop]⟩
theorem FLe.white {f : FS} {K : Nat} (h : f.Le K) (b : Bool) : FS.Le { f with white := b } K := h
theorem add_join {f : FS} {x : LB × Bool} {t : LB} (h : f.now.getLast? = some x) (hx : x.2 = false) : f.add t false = { f with op := true, now := f.now.dropLast ++ [(x.1 ++ t, false)] } := by
  unfold FS.add
  rw [h]
  dsimp only
  rw [if_pos ⟨hx, rfl⟩]
theorem add_new {f : FS} {t : LB} {q : Bool} (h : ∀ x, f.now.getLast? = some x → ¬ (x.2 = q ∧ q = false)) : f.add t q = { f with op := true, now := f.now ++ [(t, q)] } := by
  unfold FS.add
  cases hl : f.now.getLast? with
  | none => rw [List.getLast?_eq_none_iff.1 hl]; rfl
  | some x => dsimp only; rw [if_neg (h x hl)]
theorem FLe.add {f : FS} {K : Nat} (h : f.Le K) (t : LB) (q : Bool) : (f.add t q).Le (K + 1 + t.length) := by
  have key : ∀ x ∈ (f.add t q).now, x.1.length ≤ K + 1 + t.length := by
    intro x hx
    unfold FS.add at hx
    dsimp only at hx
    cases hl : f.now.getLast? with
    | none =>
      rw [hl] at hx
      rw [List.mem_singleton.1 hx]; dsimp only; omega
    | some y =>
      rw [hl] at hx
      dsimp only at hx
      split at hx
      · rcases List.mem_append.1 hx with h1 | h1
        · have := h.2.2 x (List.dropLast_subset _ h1); omega
        · rw [List.mem_singleton.1 h1]
          have := h.2.2 y (List.mem_of_getLast? hl)
          simp; omega
      · rcases List.mem_append.1 hx with h1 | h1
        · have := h.2.2 x h1; omega
        · rw [List.mem_singleton.1 h1]; dsimp only; omega
  refine ⟨Nat.le_trans h.1 (by omega), ?_, key⟩
  have := h.2.1
  unfold FS.add
  dsimp only
  split
  · split
    · simp; omega
    · simp; omega
  · simp; omega
theorem FLe.byte {f : FS} {K : Nat} (h : f.Le K) (ifs : LB) (c : UInt8) : (f.byte ifs c).Le (K + 2) := by
  unfold FS.byte
  split
  · split
    · exact FLe.white ((FLe.stop h).up (by omega)) true
    · exact h.up (by omega)
  · refine FLe.white ?_ false
    split
    · exact (FLe.stop h).up (by omega)
    · split
      · exact (FLe.stop h).up (by omega)
      · exact h.up (by omega)
  · exact FLe.add h [c] false
def softF (ifs : LB) (t : LB) (f : FS) : FS := t.foldl (fun f c => f.byte ifs c) f
theorem softF_snoc (ifs : LB) (t : LB) (f : FS) (c : UInt8) : softF ifs (t ++ [c]) f = (softF ifs t f).byte ifs c := by simp [softF, List.foldl_append]
theorem FLe.soft (ifs : LB) : ∀ (t : LB) {f : FS} {K : Nat}, f.Le K → (softF ifs t f).Le (K + 2 * t.length)
  | [], f, K, h => h
  | c :: r, f, K, h => (FLe.soft ifs r (FLe.byte h ifs c)).up (by simp; omega)
theorem FLe.piece {f : FS} {K : Nat} (h : f.Le K) (ifs : LB) (b : Bool) (p : Pc) : (f.piece ifs b p).Le (K + 5 + 2 * p.text.length) := by
  unfold FS.piece
  have h1 : (if p.gap && (f.op || !b) then { f.stop with white := false } else f : FS).Le (K + 1) := by
    split
    · exact FLe.white (FLe.stop h) false
    · exact h.up (by omega)
  dsimp only
  split
  · exact (FLe.add h1 _ _).up (by omega)
  · split
    · exact (FLe.soft ifs p.text h1).up (by omega)
    · split
      · exact h1.up (by omega)
      · exact (FLe.add h1 _ _).up (by omega)
/-- The document's splitter behind some pieces. -/
def runF (ifs : LB) : List Pc → Bool → FS → FS
  | [], _, s => s
  | p :: r, b, s => runF ifs r false (s.piece ifs b p)
theorem splitF_run (ifs : LB) : ∀ (l : List Pc) (b : Bool) (s : FS), splitF ifs l b s = if (runF ifs l b s).op then (runF ifs l b s).stop else runF ifs l b s
  | [], b, s => rfl
  | p :: r, b, s => splitF_run ifs r false _
theorem runF_snoc (ifs : LB) (p : Pc) : ∀ (l : List Pc) (b : Bool) (s : FS), runF ifs (l ++ [p]) b s = (runF ifs l b s).piece ifs (b && l.isEmpty) p
  | [], b, s => by simp [runF]
  | q :: r, b, s => by
    show runF ifs (r ++ [p]) false (s.piece ifs b q) = _
    rw [runF_snoc ifs p r]
    simp [runF]
theorem FLe.run (ifs : LB) : ∀ (l : List Pc) (b : Bool) {s : FS} {K : Nat}, s.Le K → (runF ifs l b s).Le (K + (l.map (fun p => 5 + 2 * p.text.length)).sum)
  | [], b, s, K, h => h.up (by simp)
  | p :: r, b, s, K, h => by
    unfold runF
    exact (FLe.run ifs r false (FLe.piece h ifs b p)).up (by simp; omega)
def FS0 : FS := ⟨[], [], false, false⟩
theorem runF_le (ifs : LB) (l : List Pc) (k : Nat) (hn : l.length ≤ 10000) (ht : (txl l).length ≤ 20000) : (runF ifs (l.take k) true FS0).Le 100000 := by
  have h0 : FS0.Le 0 := ⟨by simp [FS0], by simp [FS0], by simp [FS0]⟩
  refine (FLe.run ifs (l.take k) true h0).up ?_
  rw [sum_len]
  have := txl_take l k
  have := List.length_take_le k l
  have := List.length_take_le' k l
  omega
theorem split_eq (ifs : LB) (l : List Pc) : (splitF ifs l true FS0).out = splitP ifs l :=
  split_same ifs l true CS0 FS0 ⟨rfl, rfl, rfl, rfl, (fun x h => by cases h), fun _ => ⟨rfl, rfl⟩⟩ (fun _ => rfl)
/- Memory. -/
structure Hf where
  O : Option Addr
  no : Nat
  co : Nat
  N : Option Addr
  nn : Nat
  cn : Nat
structure FT (B : Nat) (w : World) (g : Nat) (X : Option (Nat × Array Value)) (f : FS) (h : Hf) : Prop where
  blk : Blk w g 48 #[.slice h.O h.no h.co, .slice h.N h.nn h.cn, .bool f.op, .bool f.white]
  fo : Fo B w h.O h.no h.co f.out (Value.slice h.N h.nn h.cn).ownBlock
  po : Po B w h.N h.nn h.cn f.now
  hg : B ≤ g
  ob : Ob w (.slice h.N h.nn h.cn) X
def FAt (B : Nat) (w : World) (g : Nat) (X : Option (Nat × Array Value)) (f : FS) : Prop := ∃ h, FT B w g X f h
section
variable {B : Nat} {w w' W W2 : World} {g : Nat} {f : FS} {h : Hf} {X : Option (Nat × Array Value)}
theorem FT.lt (H : FT B w g X f h) : g < w.heap.size := H.blk.lt
theorem FT.below (H : FT B w g X f h) (hb : Below w.heap.size w w') : FT B w' g X f h :=
  ⟨H.blk.below hb H.blk.lt, H.fo.below hb, own_below H.po hb, H.hg, H.ob.keep (K35.below hb)⟩
theorem FT.alloc (H : FT B W g X f h) (o : Obj) : FT B (W.alloc o) g X f h := H.below ((Below.refl _ _).alloc (Nat.le_refl _) o)
theorem FT.drewN (H : FT B w g X f h) (n : Nat) : FT B (w.drewN n) g X f h := H.below ⟨rfl, rfl, rfl, Nat.le_refl _, fun _ _ => rfl⟩
theorem FT.setOp (H : FT B w g X f h) (b : Bool) : FT B (w.setCell ⟨g, 2, none⟩ (.bool b)) g X { f with op := b } h :=
  ⟨H.blk.set_ 2 _, H.fo.set_ (p := ⟨g, 2, none⟩) H.blk (by decide) (by decide) _, own_set_blk H.po (p := ⟨g, 2, none⟩) H.blk (by decide) _, H.hg, H.ob.keep (K35.set_ (p := ⟨g, 2, none⟩) H.blk (by decide) _)⟩
theorem FT.setWhite (H : FT B w g X f h) (b : Bool) : FT B (w.setCell ⟨g, 3, none⟩ (.bool b)) g X { f with white := b } h :=
  ⟨H.blk.set_ 3 _, H.fo.set_ (p := ⟨g, 3, none⟩) H.blk (by decide) (by decide) _, own_set_blk H.po (p := ⟨g, 3, none⟩) H.blk (by decide) _, H.hg, H.ob.keep (K35.set_ (p := ⟨g, 3, none⟩) H.blk (by decide) _)⟩
def Hf.cells (h : Hf) (f : FS) : Array Value := #[.slice h.O h.no h.co, .slice h.N h.nn h.cn, .bool f.op, .bool f.white]
theorem FT.blk_grown (H : FT B W g X f h) {base e size n : Nat} {v : Value} {xs : List Value} (ho : W.ownsRow base e size v n xs) (hne : e ≠ 48) (hg : W.grownBy W2 v.ownBlock) : Blk W2 g 48 (h.cells f) :=
  Blk.grown (h := H.blk) (hb := hg) (Ne.symm (own_blk_ne ho H.blk hne))
/-- A piece is put behind. -/
theorem FT.growN (H : FT B W g X f h) {v1 : Value} {p : LB × Bool} (h1 : W2.ownsRow B 35 4 v1 (h.nn + 1) (pvs (up f.now) ++ pvs (up [p]))) (hg : W.grownBy W2 (Value.slice h.N h.nn h.cn).ownBlock) (hat : v1.ownBlock = (Value.slice h.N h.nn h.cn).ownBlock ∨ v1.ownBlock = some W.heap.size) :
    ∃ A c, v1 = .slice A (h.nn + 1) c ∧ Blk W2 g 48 (h.cells f) ∧ FT B (W2.setCell ⟨g, 1, none⟩ v1) g X { f with now := f.now ++ [p] } { h with N := A, nn := h.nn + 1, cn := c } := by
  obtain ⟨A, c, rfl⟩ := own_slice h1
  have hb := H.blk_grown H.po (by decide) hg
  refine ⟨A, c, rfl, hb, ?_⟩
  have e1 : Fo B W2 h.O h.no h.co f.out (Value.slice A (h.nn + 1) c).ownBlock := by
    obtain ⟨vs, a, b, d⟩ := H.fo
    refine ⟨vs, World.ownsRow.kept a hg (own_ne a H.po (by decide)), b.keep (K35.grown hg) d, ?_⟩
    rcases hat with e | e
    · rw [e]; exact d
    · rw [e]
      intro u hu x n c e2 h0 he
      have := b.lt hu e2 h0
      injection he with he
      omega
  have e5 : Ob W2 (.slice A (h.nn + 1) c) X := by
    intro x cs e
    obtain ⟨o1, o2⟩ := H.ob x cs e
    refine ⟨o1.grown hg o2, ?_⟩
    rcases hat with e6 | e6
    · rw [e6]; exact o2
    · rw [e6]
      have := o1.lt
      intro he
      injection he with he
      omega
  rw [← pvs_append, ← up_append] at h1
  exact ⟨hb.set_ 1 _, e1.set_ (p := ⟨g, 1, none⟩) hb (by decide) (by decide) _, own_set_blk h1 (p := ⟨g, 1, none⟩) hb (by decide) _, H.hg, e5.keep (K35.set_ (p := ⟨g, 1, none⟩) hb (by decide) _)⟩
/-- The open field is put behind. -/
theorem FT.growO (H : FT B W g X f h) {v1 : Value} (h1 : ∀ vs, W.ownsRow B 22 1 (.slice h.O h.no h.co) h.no vs → W2.ownsRow B 22 1 v1 (h.no + 1) (vs ++ [.slice h.N h.nn h.cn])) (hg : W.grownBy W2 (Value.slice h.O h.no h.co).ownBlock) :
    ∃ A c, v1 = .slice A (h.no + 1) c ∧ Blk W2 g 48 (h.cells f) ∧ FT B (((W2.setCell ⟨g, 0, none⟩ v1).setCell ⟨g, 1, none⟩ (.slice none 0 0)).setCell ⟨g, 2, none⟩ (.bool false)) g X f.stop { h with O := A, no := h.no + 1, co := c, N := none, nn := 0, cn := 0 } := by
  obtain ⟨vs, a, b, d⟩ := H.fo
  have h1 := h1 vs a
  obtain ⟨A, c, rfl⟩ := own_slice h1
  have hb := H.blk_grown a (by decide) hg
  refine ⟨A, c, rfl, hb, ?_⟩
  have hk := K35.grown_other a (by decide) hg
  have hfd0 : FdAt W (.slice h.N h.nn h.cn) f.now := by
    have hp := H.po
    refine ⟨h.N, h.nn, h.cn, rfl, hp.len.symm, hp.cap, fun h0 => ?_⟩
    obtain ⟨g', cap, cur, e, hb, hh, hnc, hmx, hsz, htk⟩ := hp.2.resolve_left (fun ⟨e, _⟩ => by injection e with e1 e2 e3; omega)
    injection e with e1 e2 e3
    exact ⟨g', cur, e1, hh, htk⟩
  have hfd := hfd0.keep hk (fun a n c e h0 => by simp)
  have e1 : Fo B W2 A (h.no + 1) c (f.out ++ [f.now]) none := ⟨vs ++ [.slice h.N h.nn h.cn], h1, (b.keep hk (NotInF.none_ b)).snoc hfd, fun u hu a n c e h0 => by simp⟩
  have b1 := hb.set_ 0 (.slice A (h.no + 1) c)
  have b2 := b1.set_ 1 (.slice none 0 0)
  have b3 := b2.set_ 2 (.bool false)
  exact ⟨b3, ((e1.set_ (p := ⟨g, 0, none⟩) hb (by decide) (by decide) _).set_ (p := ⟨g, 1, none⟩) b1 (by decide) (by decide) _).set_ (p := ⟨g, 2, none⟩) b2 (by decide) (by decide) _,
    World.ownsRow_nil _ _ _ _, H.hg,
    ((((H.ob.keep hk).nil).keep (K35.set_ (p := ⟨g, 0, none⟩) hb (by decide) _)).keep (K35.set_ (p := ⟨g, 1, none⟩) b1 (by decide) _)).keep (K35.set_ (p := ⟨g, 2, none⟩) b2 (by decide) _)⟩
end
theorem pvs_set_last (a : List Pc) (p q : Pc) (hq : q.quoted = p.quoted ∧ q.soft = p.soft ∧ q.gap = p.gap) : (pvs (a ++ [p])).set (a.length * 4) (sv q.text) = pvs (a ++ [q]) := by
  rw [pvs_append, pvs_append, List.set_append_right _ _ (by rw [pvs_length]; omega), pvs_length, Nat.sub_self]
  obtain ⟨h1, h2, h3⟩ := hq
  simp [pvs, pv, h1, h2, h3]
section
variable {B : Nat} {W : World} {g : Nat} {f : FS} {h : Hf} {X : Option (Nat × Array Value)}
/-- The last piece gets another text. -/
theorem FT.setLast (H : FT B W g X f h) {a : Fd} {x t : LB} {gN : Nat} (hn : f.now = a ++ [(x, false)]) (hN : h.N = some ⟨gN, 0, none⟩) :
    FT B (W.setCell ⟨gN, a.length * 4, none⟩ (.string ⟨t.toArray⟩)) g X { f with now := a ++ [(t, false)] } h := by
  have hpo := H.po
  have hln : h.nn = a.length + 1 := by have := hpo.len; rw [hn] at this; simp at this; omega
  have hpo' : W.ownsRow B 35 4 (.slice (some ⟨gN, 0, none⟩) h.nn h.cn) h.nn (pvs (up f.now)) := by rw [← hN]; exact hpo
  have hst := (World.ownsRow.stored hpo' (a.length * 4) (.string ⟨t.toArray⟩)).1
  have he : (pvs (up f.now)).set (a.length * 4) (.string ⟨t.toArray⟩) = pvs (up (a ++ [(t, false)])) := by
    rw [hn, up_append, up_append]
    have := pvs_set_last (up a) (up1 (x, false)) (up1 (t, false)) ⟨rfl, rfl, rfl⟩
    rw [up_length] at this
    exact this
  rw [he] at hst
  obtain ⟨cs, hcs⟩ : ∃ cs, Blk W gN 35 cs := by
    obtain ⟨g', cap, cur, e, _, hh, _⟩ := hpo'.2.resolve_left (fun ⟨e, _⟩ => by cases e)
    injection e with e
    injection e with e
    injection e with e
    subst e
    exact ⟨cur, hh⟩
  have hob : (Value.slice h.N h.nn h.cn).ownBlock = some gN := by rw [hN]; simp [Value.ownBlock]
  have hk : K35 W (W.setCell ⟨gN, a.length * 4, none⟩ (.string ⟨t.toArray⟩)) (some gN) := ⟨by simp, fun k cs' hk hne => hk.far (fun e => hne (by rw [e])) _⟩
  refine ⟨H.blk.far (Blk.ne_ H.blk hcs (by decide)) _, ?_, by rw [hN]; exact hst, H.hg, ?_⟩
  · obtain ⟨vs, o1, o2, o3⟩ := H.fo
    refine ⟨vs, own_set_blk o1 (p := ⟨gN, a.length * 4, none⟩) hcs (by decide) _, o2.keep hk (by rw [← hob]; exact o3), o3⟩
  · intro y c e
    obtain ⟨o1, o2⟩ := H.ob y c e
    exact ⟨hk.blk _ _ o1 (by rw [← hob]; exact o2), o2⟩
end
end Go.Proofs.Ytnongbbhpkmdjaa
