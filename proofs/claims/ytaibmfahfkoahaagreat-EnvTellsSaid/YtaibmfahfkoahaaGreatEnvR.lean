/- Rows of settings in memory; slices of them. -/
import Derived.Test.YtaibmfahfkoahaaGreatEnvQ
namespace Go.Proofs.YtaibmfahfkoahaaGreat
open Go.RowKit
set_option linter.unusedVariables false
def ss2 (p : St) : List Value := [sv p.1, sv p.2]
def pss : List St → List Value
  | [] => []
  | p :: r => ss2 p ++ pss r
theorem pss_length (l : List St) : (pss l).length = l.length * 2 := by
  induction l with
  | nil => rfl
  | cons p r ih => simp [pss, ss2, ih]; omega
theorem pss_append (a b : List St) : pss (a ++ b) = pss a ++ pss b := by
  induction a with
  | nil => rfl
  | cons p r ih => simp [pss, ih]
theorem pss_one (l : List St) : ∀ u ∈ pss l, u.oneCell' = true := by
  induction l with
  | nil => simp [pss]
  | cons p r ih =>
    intro u hu
    simp only [pss, List.mem_append] at hu
    rcases hu with hu | hu
    · simp only [ss2, sv, List.mem_cons, List.not_mem_nil, or_false] at hu
      rcases hu with rfl | rfl <;> rfl
    · exact ih u hu
theorem pss_at : ∀ (l : List St) (k j : Nat) (h : k < l.length), j < 2 → (pss l)[k * 2 + j]? = (ss2 l[k])[j]?
  | p :: r, 0, j, h, hj => by
    simp only [pss, Nat.zero_mul, Nat.zero_add]
    rw [List.getElem?_append_left (by simp [ss2]; omega)]
    rfl
  | p :: r, k + 1, j, h, hj => by
    simp only [pss]
    rw [List.getElem?_append_right (by simp [ss2]; omega)]
    have := pss_at r k j (by simpa using h) hj
    simp only [ss2, List.length_cons, List.length_nil] at this ⊢
    rw [show (k + 1) * 2 + j - (0 + 1 + 1) = k * 2 + j by omega, this]
    rfl
theorem infoSet : (Tryz.prog.info? 46).map (fun i => (i.zero, i.size, i.bytes)) = some (some (.agg #[.string ⟨#[]⟩, .string ⟨#[]⟩]), 2, 32) := by kernel_rfl
theorem sizeSet : (Tryz.prog.info? 46).map (·.size) = some 2 := by kernel_rfl
def RdS (w : World) (A : Option Addr) (n : Nat) (l : List St) : Prop := Reads w w.heap.size 2 A n (pss l)
theorem RdS.below {w w' : World} {A : Option Addr} {n : Nat} {l : List St} (h : RdS w A n l) (hb : Below w.heap.size w w') : RdS w' A n l := (Reads.below h hb).more hb.size
theorem RdS.len {w : World} {A : Option Addr} {n : Nat} {l : List St} (h : RdS w A n l) : l.length = n := by have := h.1; rw [pss_length] at this; omega
def OwS (B : Nat) (w : World) (A : Option Addr) (n c : Nat) (l : List St) : Prop := w.ownsRow B 46 2 (.slice A n c) n (pss l)
theorem OwS.rd {B : Nat} {w : World} {A : Option Addr} {n c : Nat} {l : List St} (h : OwS B w A n c l) : RdS w A n l := Reads.of_own h
theorem OwS.below {B : Nat} {w w' : World} {A : Option Addr} {n c : Nat} {l : List St} (h : OwS B w A n c l) (hb : Below w.heap.size w w') : OwS B w' A n c l := own_below h hb
theorem OwS.le {B : Nat} {w : World} {A : Option Addr} {n c : Nat} {l : List St} (h : OwS B w A n c l) : n ≤ c := by
  rcases h.2 with ⟨hv, h0⟩ | ⟨g, cap, cur, hv, hb, hh, hnc, hmx, hsz, htk⟩
  · subst h0; exact Nat.zero_le _
  · injection hv with e1 e2 e3; subst e3; exact hnc
theorem OwS.none_ (B : Nat) (w : World) : OwS B w none 0 0 [] := World.ownsRow_nil _ _ _ _
theorem OwS.more {B C : Nat} {w : World} {A : Option Addr} {n c : Nat} {l : List St} (h : OwS B w A n c l) (hB : C ≤ B) : OwS C w A n c l := own_more h hB
theorem set_at (g1 o m k q : Nat) (i : Int) (hi : i = (q : Int)) (hq : q < m) (W : World) : (Instr.indexAt 42 (.slice (some ⟨g1, o, none⟩) m k) (.int .i64 i)).run Tryz.prog W = .ok (.pointer (some ⟨g1, o + q * 2, none⟩)) W := by
  subst hi
  have hE : Tryz.prog.elem 42 = 46 := by simp [Program.elem, Tryz.underlying42]
  rw [run_indexAt_slice W 42 ⟨g1, o, none⟩ m k .i64 (q : Int) (slice_ht Tryz.underlying42), if_pos ⟨by omega, by omega⟩]
  rw [hE, run_sizeOf_n sizeSet W]
  simp only [Result.andThen, Int.toNat_natCast, at_add]
theorem set_cells {w : World} {B n : Nat} {A : Option Addr} {l : List St} (h : Reads w B 2 A n (pss l)) {k : Nat} {x : St} (hp : l[k]? = some x) : ∃ g o, A = some ⟨g, o, none⟩ ∧ g < B ∧ w.cell? ⟨g, o + k * 2, none⟩ = some (.string ⟨x.1.toArray⟩) ∧ w.cell? ⟨g, o + k * 2 + 1, none⟩ = some (.string ⟨x.2.toArray⟩) := by
  obtain ⟨hk, he⟩ := List.getElem?_eq_some_iff.1 hp
  have hn : l.length = n := by have := h.1; rw [pss_length] at this; omega
  obtain ⟨g, o, rfl, hg, hc⟩ := cells_of h (by omega) (by rw [pss_length]; omega)
  refine ⟨g, o, rfl, hg, ?_, ?_⟩
  · exact hc (k * 2 + 0) _ (by rw [pss_at l k 0 hk (by omega), he]; rfl)
  · exact hc (k * 2 + 1) _ (by rw [pss_at l k 1 hk (by omega), he]; rfl)
theorem one_set {W : World} {g : Nat} {x : St} (h : Blk W g 46 #[.string ⟨x.1.toArray⟩, .string ⟨x.2.toArray⟩]) : RdS W (some ⟨g, 0, none⟩) 1 [x] := by
  refine ⟨rfl, fun _ => ⟨_, rfl, h.lt, ?_⟩⟩
  intro j u hu
  rw [at_add, Nat.zero_add, h.cell j]
  simpa [pss, ss2, sv] using hu
end Go.Proofs.YtaibmfahfkoahaaGreat
