/- path.Clean at any text. -/
import Derived.Test.YthbackkcamgidaaGreatDoorPathW
import Derived.Deep.RegionHeld3
import Derived.Deep.DeepCutAuto
namespace Go.Proofs.YthbackkcamgidaaGreatDoor
open Go.RowKit
set_option linter.unusedVariables false
def wt (ks : List Bs) : Nat := (ks.map fun k => k.length + 1).sum
theorem wt_cons (x : Bs) (r : List Bs) : wt (x :: r) = x.length + 1 + wt r := by simp [wt]
theorem wt_app (a b : List Bs) : wt (a ++ b) = wt a + wt b := by simp [wt]
theorem total_wt (ks : List Bs) : total ks ≤ wt ks := by
  unfold total
  induction ks with
  | nil => simp [wt, Lib.join_nil]
  | cons x r ih =>
    cases r with
    | nil => rw [Lib.join_one, wt_cons]; omega
    | cons y r => rw [join_two, List.length_append, List.length_cons, wt_cons]; omega
theorem wt_split (c : UInt8) (s : Bs) : wt (splitC c s) = s.length + 1 := by
  induction s with
  | nil => rfl
  | cons x r ih =>
    obtain ⟨h, t, e⟩ := splitC_form c r
    rw [splitC]; rw [e] at ih ⊢
    split
    · rw [wt_cons, ih]; simp
      omega
    · rw [wt_cons] at ih ⊢
      simp only [List.headD_cons, List.tail_cons, List.length_cons]
      omega
theorem wt_filter (p : Bs → Bool) (ks : List Bs) : wt (ks.filter p) ≤ wt ks := by
  induction ks with
  | nil => simp
  | cons x r ih => rw [List.filter_cons]; split <;> (simp only [wt_cons]; omega)
theorem wt_parts (s : Bs) : wt (parts s) ≤ s.length + 1 := Nat.le_trans (wt_filter _ _) (Nat.le_of_eq (wt_split 47 s))
theorem wt_dropLast (ks : List Bs) : wt ks.dropLast ≤ wt ks := by
  rcases List.eq_nil_or_concat ks with rfl | ⟨l, x, rfl⟩
  · simp
  · rw [List.concat_eq_append, List.dropLast_concat, wt_app]; omega
theorem wt_step (root : Bool) (ks : List Bs) (x : Bs) : wt (stepP root ks x) ≤ wt ks + (x.length + 1) := by
  have h1 : wt (ks ++ [x]) = wt ks + (x.length + 1) := by rw [wt_app]; simp [wt]
  have h2 := wt_dropLast ks
  unfold stepP
  split
  · omega
  · split
    · omega
    · split
      · omega
      · split <;> omega
theorem wt_fold (root : Bool) (ps : List Bs) : ∀ ks : List Bs, wt (ps.foldl (stepP root) ks) ≤ wt ks + wt ps := by
  induction ps with
  | nil => intro ks; simp
  | cons p r ih => intro ks; have h1 := ih (stepP root ks p); have h2 := wt_step root ks p; rw [List.foldl_cons, wt_cons]; omega
theorem wt_cleaned (s : Bs) (root : Bool) : wt (cleaned s root) ≤ s.length + 1 := by
  have h1 := wt_fold root (parts s) []
  have h2 := wt_parts s
  unfold cleaned
  have : wt [] = 0 := rfl
  omega
theorem text_len (root : Bool) (ks : List Bs) : (text root ks).length ≤ wt ks + 1 := by
  have h := total_wt ks
  unfold total at h
  unfold text
  split
  · simp; omega
  · split
    · simp
    · omega
theorem clean_len (s : Bs) : (clean s).length ≤ s.length + 2 := by
  have h1 := text_len (rooted s) (cleaned s (rooted s))
  have h2 := wt_cleaned s (rooted s)
  unfold clean
  omega
/-- What the library's variable holds. -/
def Std (w : World) : Prop := ∃ m, w.cell? ⟨4, 0, none⟩ = some (.int .i64 m)
theorem Std.below {w w' : World} (h : Std w) (hb : Below w.heap.size w w') : Std w' := by
  obtain ⟨m, h⟩ := h
  have l0 := World.block_lt_of_cell? w _ h
  exact ⟨m, (hb.cell (by exact l0)).trans h⟩
theorem parts_l (l : Bs) (w : World) (h : Std w) (hs : l.length ≤ 100000) :
    Calls Tryz.prog 121 #[.string ⟨l.toArray⟩] w fun e w' => ∃ A n c, e = .returned (.slice A n c) ∧ Ow w.heap.size w' A n c (parts l) ∧ Below w.heap.size w w' := by
  obtain ⟨m, hm⟩ := h
  exact parts_any ⟨l.toArray⟩ m w (show l.length ≤ 100000 from hs) hm
theorem cleaned_l (l : Bs) (root : Bool) (w : World) (h : Std w) (hs : l.length ≤ 100000) :
    Calls Tryz.prog 110 #[.string ⟨l.toArray⟩, .bool root] w fun e w' => ∃ A n c, e = .returned (.slice A n c) ∧ Ow w.heap.size w' A n c (cleaned l root) ∧ Below w.heap.size w w' := by
  obtain ⟨m, hm⟩ := h
  exact cleaned_any ⟨l.toArray⟩ root m w (show l.length ≤ 100000 from hs) hm
theorem pre_l (l p : Bs) (w : World) : Calls Tryz.prog 95 #[.string ⟨l.toArray⟩, .string ⟨p.toArray⟩] w fun e w' => e = .returned (.bool (Lib.hasPrefix l p)) ∧ w = w' := by
  refine (Any.strings_HasPrefix Tryz.lays99 ⟨l.toArray⟩ ⟨p.toArray⟩ w).mono ?_
  rintro e w' ⟨rfl, rfl⟩
  exact ⟨rfl, rfl⟩
theorem slash_l (l : Bs) (w : World) : Calls Tryz.prog 95 #[.string ⟨l.toArray⟩, .string ⟨#[47]⟩] w fun e w' => e = .returned (.bool (rooted l)) ∧ w = w' := pre_l l [47] w
set_option maxHeartbeats 1000000 in
theorem clean_l (l : Bs) (w : World) (h : Std w) (hs : l.length ≤ 90000) :
    Calls Tryz.prog 96 #[.string ⟨l.toArray⟩] w fun e w' => e = .returned (.string ⟨(clean l).toArray⟩) ∧ Below w.heap.size w w' := by
  have hC : clean l = text (rooted l) (cleaned l (rooted l)) := rfl
  have hT : total (cleaned l (rooted l)) ≤ 1000000 := by
    have h1 := total_wt (cleaned l (rooted l)); have h2 := wt_cleaned l (rooted l); omega
  have HC := hide hC
  have HS := hide (slash_l l w)
  generalize hr : rooted l = root at HC hT HS
  have HCl := hide (cleaned_l l root w h (by omega))
  clear hC hr h
  go_enter Tryz.func96, Tryz.ntmps96
  go_wp2_with fail
  refine HS.out.mono ?_
  rintro e w1 ⟨rfl, rfl⟩
  go_wp2_with fail
  refine HCl.out.mono ?_
  rintro e w2 ⟨A, n, c, rfl, hO, hb⟩
  have HO := hide hO
  have HB := hide hb
  clear hO hb
  go_wp2_with fail
  refine (text_any root A n c _ w.heap.size _ HO.out hT).mono ?_
  rintro e w3 ⟨rfl, hb3⟩
  have HB3 := hide hb3
  clear hb3
  unfold sv
  go_wp2
  go_ret
  exact ⟨ret_str (by rw [HC.out]), below_more HB.out (Nat.le_refl _) HB3.out⟩
end Go.Proofs.YthbackkcamgidaaGreatDoor
