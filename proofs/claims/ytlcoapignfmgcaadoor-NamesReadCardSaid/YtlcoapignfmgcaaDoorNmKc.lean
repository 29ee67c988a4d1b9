/- A list of changes in memory; short. -/
import Derived.Test.YtlcoapignfmgcaaDoorNmKb
namespace Go.Proofs.YtlcoapignfmgcaaDoor
open Go.RowKit
set_option linter.unusedVariables false
structure QV where
  q : DO
  D : Option Addr
  dn : Nat
  dc : Nat
def QV.cs (x : QV) : List Value := [.int .i64 x.q.what, .int .i64 x.q.a, .int .i64 x.q.b, .string ⟨x.q.x.toArray⟩, .string ⟨x.q.y.toArray⟩, .int .i64 x.q.kind, .slice x.D x.dn x.dc]
def qcs : List QV → List Value
  | [] => []
  | x :: l => x.cs ++ qcs l
theorem QV.cs_length (x : QV) : x.cs.length = 7 := rfl
theorem qcs_length : ∀ (l : List QV), (qcs l).length = l.length * 7
  | [] => rfl
  | x :: l => by rw [qcs, List.length_append, QV.cs_length, qcs_length l, List.length_cons]; omega
theorem qcs_at : ∀ (l : List QV) (k j : Nat) (hk : k < l.length), j < 7 → (qcs l)[k * 7 + j]? = (l[k].cs)[j]?
  | x :: l, 0, j, hk, hj => by
    rw [qcs, Nat.zero_mul, Nat.zero_add, List.getElem?_append_left (by rw [QV.cs_length]; exact hj)]
    rfl
  | x :: l, k + 1, j, hk, hj => by
    rw [qcs, List.getElem?_append_right (by rw [QV.cs_length]; omega), QV.cs_length, show (k + 1) * 7 + j - 7 = k * 7 + j by omega, qcs_at l k j (by simpa using hk) hj]
    rfl
structure DoR (w : World) (B : Nat) (L : Option Addr) (n : Nat) (l : List QV) : Prop where
  rd : Reads w B 7 L n (qcs l)
  ok : ∀ x ∈ l, Reads w B 1 x.D x.dn (bv x.q.d)
theorem DoR.len {w : World} {B : Nat} {L : Option Addr} {n : Nat} {l : List QV} (h : DoR w B L n l) : l.length = n := by have := h.rd.1; rw [qcs_length] at this; omega
def QvCells (V : World) (g o k : Nat) (x : QV) : Prop := V.cell? ⟨g, o + k * 7, none⟩ = some (.int .i64 x.q.what) ∧ V.cell? ⟨g, o + k * 7 + 1, none⟩ = some (.int .i64 x.q.a) ∧ V.cell? ⟨g, o + k * 7 + 2, none⟩ = some (.int .i64 x.q.b) ∧
      V.cell? ⟨g, o + k * 7 + 3, none⟩ = some (.string ⟨x.q.x.toArray⟩) ∧ V.cell? ⟨g, o + k * 7 + 4, none⟩ = some (.string ⟨x.q.y.toArray⟩) ∧ V.cell? ⟨g, o + k * 7 + 5, none⟩ = some (.int .i64 x.q.kind) ∧ V.cell? ⟨g, o + k * 7 + 6, none⟩ = some (.slice x.D x.dn x.dc)
theorem DoR.at_ {w : World} {B : Nat} {L : Option Addr} {n : Nat} {l : List QV} (h : DoR w B L n l) {k : Nat} (hk : k < n) :
    ∃ (g o : Nat) (x : QV), L = some ⟨g, o, none⟩ ∧ g < B ∧ l[k]? = some x ∧ Reads w B 1 x.D x.dn (bv x.q.d) ∧ QvCells w g o k x := by
  have hl := h.len
  have hkl : k < l.length := by omega
  obtain ⟨g, o, rfl, hg, hc⟩ := cells_of h.rd (by omega) (by rw [qcs_length]; omega)
  refine ⟨g, o, l[k], rfl, hg, List.getElem?_eq_getElem hkl, h.ok _ (List.getElem_mem _), ?_, ?_, ?_, ?_, ?_, ?_, ?_⟩
  · exact hc (k * 7 + 0) _ (qcs_at l k 0 hkl (by omega))
  · exact hc (k * 7 + 1) _ (qcs_at l k 1 hkl (by omega))
  · exact hc (k * 7 + 2) _ (qcs_at l k 2 hkl (by omega))
  · exact hc (k * 7 + 3) _ (qcs_at l k 3 hkl (by omega))
  · exact hc (k * 7 + 4) _ (qcs_at l k 4 hkl (by omega))
  · exact hc (k * 7 + 5) _ (qcs_at l k 5 hkl (by omega))
  · exact hc (k * 7 + 6) _ (qcs_at l k 6 hkl (by omega))
theorem QvCells.below {w w' : World} {B g o k : Nat} {x : QV} (h : QvCells w g o k x) (hg : g < B) (hb : Below B w w') : QvCells w' g o k x :=
  ⟨(hb.cell (p := ⟨g, o + k * 7, none⟩) hg).trans h.1, (hb.cell (p := ⟨g, o + k * 7 + 1, none⟩) hg).trans h.2.1, (hb.cell (p := ⟨g, o + k * 7 + 2, none⟩) hg).trans h.2.2.1, (hb.cell (p := ⟨g, o + k * 7 + 3, none⟩) hg).trans h.2.2.2.1, (hb.cell (p := ⟨g, o + k * 7 + 4, none⟩) hg).trans h.2.2.2.2.1, (hb.cell (p := ⟨g, o + k * 7 + 5, none⟩) hg).trans h.2.2.2.2.2.1, (hb.cell (p := ⟨g, o + k * 7 + 6, none⟩) hg).trans h.2.2.2.2.2.2⟩
theorem sizeDo : (Tryd.prog.info? 30).map (·.size) = some 7 := by kernel_rfl
theorem do_at (g1 o m k q : Nat) (i : Int) (hi : i = (q : Int)) (hq : q < m) (W : World) : (Instr.indexAt 25 (.slice (some ⟨g1, o, none⟩) m k) (.int .i64 i)).run Tryd.prog W = .ok (.pointer (some ⟨g1, o + q * 7, none⟩)) W := by
  subst hi
  have hE : Tryd.prog.elem 25 = 30 := by simp [Program.elem, Tryd.underlying25]
  rw [run_indexAt_slice W 25 ⟨g1, o, none⟩ m k .i64 (q : Int) (slice_ht Tryd.underlying25), if_pos ⟨by omega, by omega⟩]
  rw [hE, run_sizeOf_n sizeDo W]
  simp only [Result.andThen, Int.toNat_natCast, at_add]
def shortB (a b : List UInt8) : Bool := decide (a.length ≤ 300) && decide (b.length ≤ 300)
theorem short_c (a b : List UInt8) (w : World) : Calls Tryd.prog 8 #[.string ⟨a.toArray⟩, .string ⟨b.toArray⟩] w fun e w' => e = .returned (.bool (shortB a b)) ∧ w = w' := by
  by_cases h1 : a.length ≤ 300
  · by_cases h2 : b.length ≤ 300
    · have e : shortB a b = true := by unfold shortB; rw [decide_eq_true h1, decide_eq_true h2]; rfl
      rw [e]
      have h1' : (a.length : Int) ≤ 300 := by omega
      have h2' : (b.length : Int) ≤ 300 := by omega
      clear e
      go_enter Tryd.func8, Tryd.ntmps8
      go_wp2_with fail
      go_ret
      exact ⟨rfl, rfl⟩
    · have e : shortB a b = false := by unfold shortB; rw [decide_eq_true h1, decide_eq_false h2]; rfl
      rw [e]
      have h1' : (a.length : Int) ≤ 300 := by omega
      have h2' : ¬ (b.length : Int) ≤ 300 := by omega
      clear e
      go_enter Tryd.func8, Tryd.ntmps8
      go_wp2_with fail
      go_ret
      exact ⟨rfl, rfl⟩
  · have e : shortB a b = false := by unfold shortB; rw [decide_eq_false h1]; rfl
    rw [e]
    have h1' : ¬ (a.length : Int) ≤ 300 := by omega
    clear e
    go_enter Tryd.func8, Tryd.ntmps8
    go_wp2_with fail
    go_ret
    exact ⟨rfl, rfl⟩
end Go.Proofs.YtlcoapignfmgcaaDoor
