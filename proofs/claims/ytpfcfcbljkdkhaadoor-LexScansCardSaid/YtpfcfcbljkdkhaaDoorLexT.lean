/- Rows of tokens and the scanner's state in memory. -/
import Derived.Test.YtpfcfcbljkdkhaaDoorMore
import Derived.Test.YtpfcfcbljkdkhaaDoorLexM
import Derived.Laws.OwnMore
import Derived.WalkSmall
import Derived.Deep.RegionLaw
namespace Go.Proofs.YtpfcfcbljkdkhaaDoor
open Go.RowKit
set_option linter.unusedVariables false
def sv (k : LB) : Value := .string ⟨k.toArray⟩
def tokV (t : T) : List Value := [.int .i64 (t.kind : Int), sv t.text, .int .i64 (t.at_ : Int), sv t.doc, .bool t.quoted]
def tvs : List T → List Value
  | [] => []
  | t :: r => tokV t ++ tvs r
theorem tvs_length (ts : List T) : (tvs ts).length = ts.length * 5 := by
  induction ts with
  | nil => rfl
  | cons t r ih => simp [tvs, tokV, ih]; omega
theorem tvs_append (a b : List T) : tvs (a ++ b) = tvs a ++ tvs b := by
  induction a with
  | nil => rfl
  | cons t r ih => simp [tvs, ih]
theorem tvs_one (ts : List T) : ∀ u ∈ tvs ts, u.oneCell' = true := by
  induction ts with
  | nil => simp [tvs]
  | cons t r ih =>
    intro u hu
    simp only [tvs, List.mem_append] at hu
    rcases hu with hu | hu
    · simp only [tokV, sv, List.mem_cons, List.not_mem_nil, or_false] at hu
      rcases hu with rfl | rfl | rfl | rfl | rfl <;> rfl
    · exact ih u hu
theorem tvs_at : ∀ (ts : List T) (k j : Nat) (h : k < ts.length), j < 5 → (tvs ts)[k * 5 + j]? = (tokV ts[k])[j]?
  | t :: r, 0, j, h, hj => by
    simp only [tvs, Nat.zero_mul, Nat.zero_add]
    rw [List.getElem?_append_left (by simp [tokV]; omega)]
    rfl
  | t :: r, k + 1, j, h, hj => by
    simp only [tvs]
    rw [List.getElem?_append_right (by simp [tokV]; omega)]
    have := tvs_at r k j (by simpa using h) hj
    simp only [tokV, List.length_cons, List.length_nil] at this ⊢
    rw [show (k + 1) * 5 + j - (0 + 1 + 1 + 1 + 1 + 1) = k * 5 + j by omega, this]
    rfl
theorem tvs_set : ∀ (ts : List T) (k : Nat) (t : T) (h : k < ts.length), t.kind = ts[k].kind → t.text = ts[k].text → t.at_ = ts[k].at_ →
    ((tvs ts).set (k * 5 + 3) (sv t.doc)).set (k * 5 + 4) (.bool t.quoted) = tvs (ts.set k t)
  | x :: r, 0, t, h, h1, h2, h3 => by
    simp only [List.getElem_cons_zero] at h1 h2 h3
    simp [tvs, tokV, h1, h2, h3]
  | x :: r, k + 1, t, h, h1, h2, h3 => by
    have := tvs_set r k t (by simpa using h) (by simpa using h1) (by simpa using h2) (by simpa using h3)
    simp only [tvs, List.set_cons_succ]
    rw [← this]
    have e : (tokV x).length = 5 := rfl
    rw [List.set_append_right _ _ (by rw [e]; omega), List.set_append_right _ _ (by rw [e]; omega), e,
      show (k + 1) * 5 + 3 - 5 = k * 5 + 3 by omega, show (k + 1) * 5 + 4 - 5 = k * 5 + 4 by omega]
def ivs (l : List Nat) : List Value := l.map fun (k : Nat) => .int .i64 (k : Int)
theorem ivs_length (l : List Nat) : (ivs l).length = l.length := by simp [ivs]
theorem ivs_append (a b : List Nat) : ivs (a ++ b) = ivs a ++ ivs b := by simp [ivs]
theorem ivs_one (l : List Nat) : ∀ u ∈ ivs l, u.oneCell' = true := by
  intro u hu
  simp only [ivs, List.mem_map] at hu
  obtain ⟨b, _, rfl⟩ := hu
  rfl
theorem infoTok : (Tryd.prog.info? 37).map (fun i => (i.zero, i.size, i.bytes)) = some (some (.agg #[.int .i64 0, .string ⟨#[]⟩, .int .i64 0, .string ⟨#[]⟩, .bool false]), 5, 56) := by kernel_rfl
theorem infoInt : (Tryd.prog.info? 3).map (fun i => (i.zero, i.size, i.bytes)) = some (some (.int .i64 0), 1, 8) := by kernel_rfl
theorem sizeStr : (Tryd.prog.info? 9).map (·.size) = some 1 := by kernel_rfl
theorem sizeInt : (Tryd.prog.info? 3).map (·.size) = some 1 := by kernel_rfl
theorem sizeTok : (Tryd.prog.info? 37).map (·.size) = some 5 := by kernel_rfl
/-- A row of tokens of the call's own; a row of integers. -/
def To (B : Nat) (w : World) (A : Option Addr) (n c : Nat) (ts : List T) : Prop := w.ownsRow B 37 5 (.slice A n c) n (tvs ts)
def Io (B : Nat) (w : World) (A : Option Addr) (n c : Nat) (l : List Nat) : Prop := w.ownsRow B 3 1 (.slice A n c) n (ivs l)
theorem To.len {B : Nat} {w : World} {A : Option Addr} {n c : Nat} {ts : List T} (h : To B w A n c ts) : ts.length = n := by have := h.1; rw [tvs_length] at this; omega
theorem Io.len {B : Nat} {w : World} {A : Option Addr} {n c : Nat} {l : List Nat} (h : Io B w A n c l) : l.length = n := by have := h.1; rw [ivs_length] at this; omega
/-- The scanner at block g: its text, its place, its two rows, its fault. -/
def Sc (B : Nat) (w : World) (g : Nat) (p : LB) (s : S) (A : Option Addr) (n c : Nat) (A' : Option Addr) (n' c' : Nat) : Prop :=
  Blk w g 40 #[.string ⟨p.toArray⟩, .int .i64 (s.at_ : Int), .slice A n c, .slice A' n' c', .int .i64 (s.fault : Int)] ∧ To B w A n c s.toks ∧ Io B w A' n' c' s.wait ∧ B ≤ g
def ScAt (B : Nat) (w : World) (g : Nat) (p : LB) (s : S) : Prop := ∃ A n c A' n' c', Sc B w g p s A n c A' n' c'
section
variable {B : Nat} {w w' : World} {g : Nat} {p : LB} {s : S} {A A' : Option Addr} {n c n' c' : Nat}
theorem Sc.cells (h : Sc B w g p s A n c A' n' c') : (w.cell? ⟨g, 0, none⟩ = some (.string ⟨p.toArray⟩) ∧ w.cell? ⟨g, 1, none⟩ = some (.int .i64 (s.at_ : Int)) ∧ w.cell? ⟨g, 2, none⟩ = some (.slice A n c) ∧ w.cell? ⟨g, 3, none⟩ = some (.slice A' n' c') ∧ w.cell? ⟨g, 4, none⟩ = some (.int .i64 (s.fault : Int))) ∧
    w.frozen? ⟨g, 0, none⟩ = false ∧ w.frozen? ⟨g, 1, none⟩ = false ∧ w.frozen? ⟨g, 2, none⟩ = false ∧ w.frozen? ⟨g, 3, none⟩ = false ∧ w.frozen? ⟨g, 4, none⟩ = false := h.1.five
theorem Sc.lt (h : Sc B w g p s A n c A' n' c') : g < w.heap.size := h.1.lt
/-- The place is stored. -/
theorem Sc.at_ (h : Sc B w g p s A n c A' n' c') (i : Nat) : Sc B (w.setCell ⟨g, 1, none⟩ (.int .i64 (i : Int))) g p { s with at_ := i } A n c A' n' c' :=
  ⟨h.1.set_ 1 _, own_set_blk h.2.1 (p := ⟨g, 1, none⟩) h.1 (by decide) _, own_set_blk h.2.2.1 (p := ⟨g, 1, none⟩) h.1 (by decide) _, h.2.2.2⟩
theorem Sc.fault_ (h : Sc B w g p s A n c A' n' c') (i : Nat) : Sc B (w.setCell ⟨g, 4, none⟩ (.int .i64 (i : Int))) g p { s with fault := i } A n c A' n' c' :=
  ⟨h.1.set_ 4 _, own_set_blk h.2.1 (p := ⟨g, 4, none⟩) h.1 (by decide) _, own_set_blk h.2.2.1 (p := ⟨g, 4, none⟩) h.1 (by decide) _, h.2.2.2⟩
theorem Sc.nowait (h : Sc B w g p s A n c A' n' c') : Sc B (w.setCell ⟨g, 3, none⟩ (.slice none 0 0)) g p { s with wait := [] } A n c none 0 0 :=
  ⟨h.1.set_ 3 _, own_set_blk h.2.1 (p := ⟨g, 3, none⟩) h.1 (by decide) _, World.ownsRow_nil _ _ _ _, h.2.2.2⟩
theorem Sc.below (h : Sc B w g p s A n c A' n' c') (hb : Below w.heap.size w w') : Sc B w' g p s A n c A' n' c' :=
  ⟨h.1.below hb h.lt, own_below h.2.1 hb, own_below h.2.2.1 hb, h.2.2.2⟩
theorem Sc.drewN (h : Sc B w g p s A n c A' n' c') (k : Nat) : Sc B (w.drewN k) g p s A n c A' n' c' := h
end
theorem own_ne {w : World} {B e size n B' e' size' n' : Nat} {v v' : Value} {xs xs' : List Value} (h : w.ownsRow B e size v n xs) (h' : w.ownsRow B' e' size' v' n' xs') (hne : e ≠ e') : v.ownBlock = none ∨ v.ownBlock ≠ v'.ownBlock := by
  rcases h.2 with ⟨rfl, _⟩ | ⟨g, cap, cur, rfl, _, hh, _⟩
  · exact .inl rfl
  · refine .inr fun he => ?_
    rcases h'.2 with ⟨rfl, _⟩ | ⟨g', cap', cur', rfl, _, hh', _⟩
    · simp [Value.ownBlock] at he
    · have : g = g' := by simpa [Value.ownBlock] using he
      subst this
      exact Blk.ne_ (t := e) (t' := e') hh hh' hne rfl
theorem one_tok (W : World) (t : T) : Reads (W.alloc (.cells #[.int .i64 (t.kind : Int), .string ⟨t.text.toArray⟩, .int .i64 (t.at_ : Int), .string ⟨t.doc.toArray⟩, .bool t.quoted] 37)) (W.heap.size + 1) 5 (some ⟨W.heap.size, 0, none⟩) 1 (tvs [t]) := by
  refine ⟨rfl, fun _ => ⟨_, rfl, by simp, ?_⟩⟩
  intro j u hu
  have hb := Blk.new W 37 #[.int .i64 (t.kind : Int), .string ⟨t.text.toArray⟩, .int .i64 (t.at_ : Int), .string ⟨t.doc.toArray⟩, .bool t.quoted]
  rw [at_add, Nat.zero_add, hb.cell j]
  simp only [tvs, tokV, sv, List.append_nil] at hu
  rw [← hu]
  simp
theorem one_int (W : World) (k : Nat) : Reads (W.alloc (.cells #[.int .i64 (k : Int)] 3)) (W.heap.size + 1) 1 (some ⟨W.heap.size, 0, none⟩) 1 (ivs [k]) := by
  refine ⟨rfl, fun _ => ⟨_, rfl, by simp, ?_⟩⟩
  intro j u hu
  match j with
  | 0 =>
    simp only [ivs, List.map_cons, List.map_nil, List.getElem?_cons_zero, Option.some.injEq] at hu
    subst hu
    rw [add_zero_]
    exact (Blk.new W 3 #[.int .i64 (k : Int)]).cell 0
  | j + 1 => simp [ivs] at hu
theorem ext_two (l : LB) (i j : Nat) : (⟨l.toArray⟩ : ByteArray).extract i j = ⟨((l.drop i).take (j - i)).toArray⟩ := by
  apply ByteArray.ext
  apply Array.toList_inj.1
  simp
theorem ext_from (l : LB) (i : Nat) : (⟨l.toArray⟩ : ByteArray).extract i l.length = ⟨(l.drop i).toArray⟩ := by
  rw [ext_two, List.take_of_length_le (by simp)]
theorem sl_two (p : LB) (a b : Nat) (i j : Int) (hi : i = (a : Int)) (hj : j = (b : Int)) (hab : a ≤ b) (hb : b ≤ p.length) : ∀ W, (Instr.slice 9 (.string ⟨p.toArray⟩) (some (.int .i64 i)) (some (.int .i64 j)) none).run Tryd.prog W = .ok (.string ⟨((p.drop a).take (b - a)).toArray⟩) W := fun W => by
  subst hi hj
  rw [run_slice_string W 9 ⟨p.toArray⟩ .i64 .i64 (a : Int) (b : Int) Tryd.underlying9 (by omega) (by omega) (by show (b : Int) ≤ ((p.length : Nat) : Int); omega), Int.toNat_natCast, Int.toNat_natCast, ext_two]
theorem bs_of (s : ByteArray) : ∃ l : LB, s = ⟨l.toArray⟩ := ⟨s.data.toList, by cases s; simp⟩
theorem ix_l (l : LB) (k : Nat) (x : UInt8) (h : l[k]? = some x) : ∀ W, (Instr.index 9 (.string ⟨l.toArray⟩) (.int .i64 (k : Int))).run Tryd.prog W = .ok (.int .u8 (x.toNat : Int)) W := fun W => by
  obtain ⟨h1, h2⟩ := List.getElem?_eq_some_iff.1 h
  rw [run_index_string (P := Tryd.prog) W 9 _ .i64 (k : Int) Tryd.underlying9, dif_pos ⟨by omega, by show (k : Int) < ((l.length : Nat) : Int); omega⟩]
  simp only [Int.toNat_natCast]
  rw [← h2]
  rfl
theorem u8_beq (a b : UInt8) : ((a.toNat : Int) == (b.toNat : Int)) = (a == b) := by
  rw [Bool.eq_iff_iff, beq_iff_eq, beq_iff_eq]
  constructor
  · intro h; exact UInt8.toNat_inj.1 (by omega)
  · intro h; rw [h]
theorem getD_some {p : LB} {i : Nat} (h : i < p.length) : p[i]? = some (p.getD i 0) := by
  rw [List.getD_eq_getElem?_getD, List.getElem?_eq_getElem h]; rfl
end Go.Proofs.YtpfcfcbljkdkhaaDoor
