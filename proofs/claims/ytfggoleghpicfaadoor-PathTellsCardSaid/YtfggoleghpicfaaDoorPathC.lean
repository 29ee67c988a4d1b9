/- Contracts of path.Clean, Join, Last, Inside, Check, Name. -/
import Derived.Test.YtfggoleghpicfaaDoorPathW
import Derived.Deep.RegionHeld3
import Derived.Deep.DeepCutAuto
namespace Go.Proofs.YtfggoleghpicfaaDoor
open Go.RowKit
set_option linter.unusedVariables false

def wt (ks : List Bs) : Nat := (ks.map fun k => k.length + 1).sum
theorem wt_cons (x : Bs) (r : List Bs) : wt (x :: r) = x.length + 1 + wt r := by simp [wt]
theorem wt_app (a b : List Bs) : wt (a ++ b) = wt a + wt b := by simp [wt]
theorem total_wt (ks : List Bs) : total ks ≤ wt ks := by
  unfold total
  induction ks with
  | nil => simp [wt, Lib.join_nil]
  | cons x r ih =>
    cases r with
    | nil => rw [Lib.join_one, wt_cons]; omega
    | cons y r => rw [join_two, List.length_append, List.length_cons, wt_cons]; omega
theorem wt_split (c : UInt8) (s : Bs) : wt (splitC c s) = s.length + 1 := by
  induction s with
  | nil => rfl
  | cons x r ih =>
    obtain ⟨h, t, e⟩ := splitC_form c r
    rw [splitC]; rw [e] at ih ⊢
    split
    · rw [wt_cons, ih]; simp
      omega
    · rw [wt_cons] at ih ⊢
      simp only [List.headD_cons, List.tail_cons, List.length_cons]
      omega
theorem wt_filter (p : Bs → Bool) (ks : List Bs) : wt (ks.filter p) ≤ wt ks := by
  induction ks with
  | nil => simp
  | cons x r ih => rw [List.filter_cons]; split <;> (simp only [wt_cons]; omega)
theorem wt_parts (s : Bs) : wt (parts s) ≤ s.length + 1 := Nat.le_trans (wt_filter _ _) (Nat.le_of_eq (wt_split 47 s))
theorem wt_dropLast (ks : List Bs) : wt ks.dropLast ≤ wt ks := by
  rcases List.eq_nil_or_concat ks with rfl | ⟨l, x, rfl⟩
  · simp
  · rw [List.concat_eq_append, List.dropLast_concat, wt_app]; omega
theorem wt_step (root : Bool) (ks : List Bs) (x : Bs) : wt (stepP root ks x) ≤ wt ks + (x.length + 1) := by
  have h1 : wt (ks ++ [x]) = wt ks + (x.length + 1) := by rw [wt_app]; simp [wt]
  have h2 := wt_dropLast ks
  unfold stepP
  split
  · omega
  · split
    · omega
    · split
      · omega
      · split <;> omega
theorem wt_fold (root : Bool) (ps : List Bs) : ∀ ks : List Bs, wt (ps.foldl (stepP root) ks) ≤ wt ks + wt ps := by
  induction ps with
  | nil => intro ks; simp
  | cons p r ih => intro ks; have h1 := ih (stepP root ks p); have h2 := wt_step root ks p; rw [List.foldl_cons, wt_cons]; omega
theorem wt_cleaned (s : Bs) (root : Bool) : wt (cleaned s root) ≤ s.length + 1 := by
  have h1 := wt_fold root (parts s) []
  have h2 := wt_parts s
  unfold cleaned
  have : wt [] = 0 := rfl
  omega
theorem text_len (root : Bool) (ks : List Bs) : (text root ks).length ≤ wt ks + 1 := by
  have h := total_wt ks
  unfold total at h
  unfold text
  split
  · simp; omega
  · split
    · simp
    · omega
theorem clean_len (s : Bs) : (clean s).length ≤ s.length + 2 := by
  have h1 := text_len (rooted s) (cleaned s (rooted s))
  have h2 := wt_cleaned s (rooted s)
  unfold clean
  omega

theorem bs_of (s : ByteArray) : ∃ l : Bs, s = ⟨l.toArray⟩ := ⟨s.data.toList, by cases s; simp⟩
/-- What the library's variable holds. -/
def Std (w : World) : Prop := ∃ m, w.cell? ⟨0, 0, none⟩ = some (.int .i64 m)
theorem Std.below {w w' : World} (h : Std w) (hb : Below w.heap.size w w') : Std w' := by
  obtain ⟨m, h⟩ := h
  have l0 := World.block_lt_of_cell? w _ h
  exact ⟨m, (hb.cell (by exact l0)).trans h⟩
theorem parts_l (l : Bs) (w : World) (h : Std w) (hs : l.length ≤ 100000) :
    Calls Tryd.prog 15 #[.string ⟨l.toArray⟩] w fun e w' => ∃ A n c, e = .returned (.slice A n c) ∧ Ow w.heap.size w' A n c (parts l) ∧ Below w.heap.size w w' := by
  obtain ⟨m, hm⟩ := h
  exact parts_any ⟨l.toArray⟩ m w (show l.length ≤ 100000 from hs) hm
theorem cleaned_l (l : Bs) (root : Bool) (w : World) (h : Std w) (hs : l.length ≤ 100000) :
    Calls Tryd.prog 32 #[.string ⟨l.toArray⟩, .bool root] w fun e w' => ∃ A n c, e = .returned (.slice A n c) ∧ Ow w.heap.size w' A n c (cleaned l root) ∧ Below w.heap.size w w' := by
  obtain ⟨m, hm⟩ := h
  exact cleaned_any ⟨l.toArray⟩ root m w (show l.length ≤ 100000 from hs) hm
theorem pre_l (l p : Bs) (w : World) : Calls Tryd.prog 23 #[.string ⟨l.toArray⟩, .string ⟨p.toArray⟩] w fun e w' => e = .returned (.bool (Lib.hasPrefix l p)) ∧ w = w' := by
  refine (Any.strings_HasPrefix Tryd.lays99 ⟨l.toArray⟩ ⟨p.toArray⟩ w).mono ?_
  rintro e w' ⟨rfl, rfl⟩
  exact ⟨rfl, rfl⟩
theorem slash_l (l : Bs) (w : World) : Calls Tryd.prog 23 #[.string ⟨l.toArray⟩, .string ⟨#[47]⟩] w fun e w' => e = .returned (.bool (rooted l)) ∧ w = w' := pre_l l [47] w

set_option maxHeartbeats 1000000 in
theorem clean_l (l : Bs) (w : World) (h : Std w) (hs : l.length ≤ 90000) :
    Calls Tryd.prog 17 #[.string ⟨l.toArray⟩] w fun e w' => e = .returned (.string ⟨(clean l).toArray⟩) ∧ Below w.heap.size w w' := by
  have hC : clean l = text (rooted l) (cleaned l (rooted l)) := rfl
  have hT : total (cleaned l (rooted l)) ≤ 1000000 := by
    have h1 := total_wt (cleaned l (rooted l)); have h2 := wt_cleaned l (rooted l); omega
  have HC := hide hC
  have HS := hide (slash_l l w)
  generalize hr : rooted l = root at HC hT HS
  have HCl := hide (cleaned_l l root w h (by omega))
  clear hC hr h
  go_enter Tryd.func17, Tryd.ntmps17
  go_wp2_with fail
  refine HS.out.mono ?_
  rintro e w1 ⟨rfl, rfl⟩
  go_wp2_with fail
  refine HCl.out.mono ?_
  rintro e w2 ⟨A, n, c, rfl, hO, hb⟩
  have HO := hide hO
  have HB := hide hb
  clear hO hb
  go_wp2_with fail
  refine (text_any root A n c _ w.heap.size _ HO.out hT).mono ?_
  rintro e w3 ⟨rfl, hb3⟩
  have HB3 := hide hb3
  clear hb3
  unfold sv
  go_wp2
  go_ret
  exact ⟨ret_str (by rw [HC.out]), below_more HB.out (Nat.le_refl _) HB3.out⟩

set_option maxHeartbeats 1000000 in
theorem join_l (a b : Bs) (w : World) (h : Std w) (ha : a.length ≤ 40000) (hb : b.length ≤ 40000) :
    Calls Tryd.prog 19 #[.string ⟨a.toArray⟩, .string ⟨b.toArray⟩] w fun e w' => e = .returned (.string ⟨(joinP a b).toArray⟩) ∧ Below w.heap.size w w' := by
  by_cases h0 : a = []
  · subst h0
    have hJ : joinP [] b = clean b := by unfold joinP; rw [if_pos (Or.inl rfl)]
    rw [hJ]
    clear hJ
    have HC := hide (clean_l b w h (by omega))
    clear h
    go_enter Tryd.func19, Tryd.ntmps19
    go_wp2_with fail
    refine HC.out.mono ?_
    rintro e w1 ⟨rfl, hb1⟩
    have HB := hide hb1
    clear hb1
    go_wp2
    go_ret
    exact ⟨rfl, HB.out⟩
  · have he : a.isEmpty = false := by cases a with
      | nil => exact absurd rfl h0
      | cons x t => rfl
    have HS := hide (slash_l b w)
    cases hr : rooted b
    · have hJ : joinP a b = clean (a ++ 47 :: b) := by unfold joinP; rw [if_neg (by simp [h0, hr])]
      rw [hJ]
      rw [hr] at HS
      clear hJ hr
      have HC := hide (clean_l (a ++ 47 :: b) w h (by simp; omega))
      clear h h0
      go_enter Tryd.func19, Tryd.ntmps19
      go_wp2_with fail
      refine HS.out.mono ?_
      rintro e w1 ⟨rfl, rfl⟩
      have hcat : ((⟨a.toArray⟩ : ByteArray) ++ (⟨#[47]⟩ : ByteArray)) ++ (⟨b.toArray⟩ : ByteArray) = ⟨(a ++ 47 :: b).toArray⟩ := by
        apply ByteArray.ext; simp
      go_wp2_with fail
      clear hcat
      refine HC.out.mono ?_
      rintro e w1 ⟨rfl, hb1⟩
      have HB := hide hb1
      clear hb1
      go_wp2
      go_ret
      exact ⟨rfl, HB.out⟩
    · have hJ : joinP a b = clean b := by unfold joinP; rw [if_pos (Or.inr hr)]
      rw [hJ]
      rw [hr] at HS
      clear hJ hr
      have HC := hide (clean_l b w h (by omega))
      clear h h0
      go_enter Tryd.func19, Tryd.ntmps19
      go_wp2_with fail
      refine HS.out.mono ?_
      rintro e w1 ⟨rfl, rfl⟩
      go_wp2_with fail
      refine HC.out.mono ?_
      rintro e w1 ⟨rfl, hb1⟩
      have HB := hide hb1
      clear hb1
      go_wp2
      go_ret
      exact ⟨rfl, HB.out⟩

def lastA (s : Bs) : Bs := (lastP s).1
def lastB (s : Bs) : Bs := (lastP s).2
set_option maxHeartbeats 1000000 in
theorem last_l (l : Bs) (w : World) (h : Std w) (hs : l.length ≤ 40000) :
    Calls Tryd.prog 8 #[.string ⟨l.toArray⟩] w fun e w' => e = .returned (.tuple #[.string ⟨(lastA l).toArray⟩, .string ⟨(lastB l).toArray⟩]) ∧ Below w.heap.size w w' := by
  have hcl := clean_len l
  have HC := hide (clean_l l w h (by omega))
  have hL : lastP l = if parts (clean l) = [] then (clean l, []) else (text (rooted (clean l)) (parts (clean l)).dropLast, (parts (clean l)).getLastD []) := rfl
  have htot : total (parts (clean l)).dropLast ≤ 1000000 := by
    have h1 := total_wt (parts (clean l)).dropLast
    have h2 := wt_dropLast (parts (clean l))
    have h3 := wt_parts (clean l)
    omega
  have HL := hide hL
  have HStd := hide h
  clear hL h
  have hpc : (clean l).length ≤ 100000 := by omega
  have hNp : (parts (clean l)).length ≤ 100001 := by have := parts_le (clean l); omega
  clear hcl
  have HPS := hide (fun w' (hb : Std w') => parts_l (clean l) w' hb hpc)
  have HSl := hide (fun w' => slash_l (clean l) w')
  generalize parts (clean l) = ps at HL htot HPS hNp
  generalize rooted (clean l) = root at HL HSl
  generalize clean l = cl at HC HL HPS HSl
  go_enter Tryd.func8, Tryd.ntmps8
  go_wp2_with fail
  refine HC.out.mono ?_
  rintro e w1 ⟨rfl, hb1⟩
  have HB1 := hide hb1
  clear hb1
  go_wp2_with fail
  refine (HSl.out _).mono ?_
  rintro e w2 ⟨rfl, rfl⟩
  go_wp2_with fail
  refine (HPS.out _ (HStd.out.below HB1.out)).mono ?_
  rintro e w2 ⟨A, n, c, rfl, hO, hb2⟩
  have HB2 := hide (below_more HB1.out (Nat.le_refl _) hb2)
  have hl := hO.len
  have HO := hide hO
  clear hO hb2
  by_cases h0 : ps = []
  · subst h0
    obtain rfl : n = 0 := by simpa using hl.symm
    have LA : Hid (lastA l = cl ∧ lastB l = []) := hide (by unfold lastA lastB; rw [HL.out, if_pos rfl]; exact ⟨rfl, rfl⟩)
    have hz : ((0 : Int) == 0) = true := rfl
    clear hl
    go_wp2
    go_ret2
    exact ⟨by rw [LA.out.1, LA.out.2] <;> rfl, HB2.out⟩
  · have LA : Hid (lastA l = text root ps.dropLast ∧ lastB l = ps.getLastD []) := hide (by unfold lastA lastB; rw [HL.out, if_neg h0]; exact ⟨rfl, rfl⟩)
    obtain ⟨q, rfl⟩ : ∃ q, n = q + 1 := ⟨n - 1, by have : ps.length ≠ 0 := fun e => h0 (List.eq_nil_of_length_eq_zero e); omega⟩
    have hq : q ≤ 100001 := by omega
    have hz : ((q : Int) + 1 == 0) = false := beq_eq_false_iff_ne.2 (by omega)
    obtain ⟨hD, hqc, g, rfl, hlast⟩ := ow_drop HO.out
    have hR := hide hD.rd
    have hadr : Hid (0 < q → ∃ g' o, (some ⟨g, 0, none⟩ : Option Addr) = some ⟨g', o, none⟩) := hide fun _ => ⟨g, 0, rfl⟩
    have glt : g < w2.heap.size := World.block_lt_of_cell? w2 _ hlast
    generalize ps.getLastD [] = lst at hlast LA
    generalize ps.dropLast = ds at hD LA hR htot
    have HLS := hide hlast
    clear hl h0 hD hlast HL
    have hsl : ∀ W, (Instr.slice 29 (.slice (some ⟨g, 0, none⟩) (q + 1) c) none (some (.int .i64 (q : Int))) (some (.int .i64 (q : Int)))).run Tryd.prog W = .ok (.slice (some ⟨g, 0, none⟩) q q) W := fun W => by
      have hE : Tryd.prog.elem 29 = 9 := by simp [Program.elem, Tryd.underlying29]
      rw [run_slice_hm W 29 (some ⟨g, 0, none⟩) (q + 1) c (slice_ht Tryd.underlying29) .i64 .i64 q q (by omega) (Int.le_refl _) (by omega), hE, run_sizeOf_one 9 sizeStr]
      simp [Result.andThen, sliced, add_zero_]
    have XT := hide (fun V (h : Below w2.heap.size w2 V) => text_r root (some ⟨g, 0, none⟩) q q ds V ((Reads.below hR.out h).more h.size) (Nat.le_refl _) hadr.out htot)
    have allS : Hid (∀ V, Below w2.heap.size w2 V → V.cell? ⟨g, q, none⟩ = some (.string ⟨lst.toArray⟩)) := hide fun V h => (h.cell (p := ⟨g, q, none⟩) glt).trans HLS.out
    have kW := hide ((Below.refl w2.heap.size w2).drew)
    clear hR HLS hadr hz
    have hcell := allS.out w2 (Below.refl _ _)
    go_wp2
    clear hcell
    have hi0 : (0 : Int) ≤ (q : Int) := by omega
    have hi1 : (q : Int) < ((q + 1 : Nat) : Int) := by omega
    have hi2 : (q : Int) < (q : Int) + 1 := by omega
    have hi3 : q < q + 1 := by omega
    go_region_held3 (fun W => W.cell? ⟨g, q, none⟩ = some (.string ⟨lst.toArray⟩))
      (with_reducible exact allS.out _ kW.out)
      (first
        | (go_at_call 24; with_reducible refine (XT.out _ kW.out).mono ?_
           rintro e wx ⟨rfl, kx⟩
           have kW := hide (below_more kW.out (Nat.le_refl _) kx)
           clear kx))
    all_goals
      unfold sv
      go_wp2
      go_ret2
      exact ⟨by rw [LA.out.1, LA.out.2] <;> rfl, below_more HB2.out (Nat.le_refl _) kW.out⟩
end Go.Proofs.YtfggoleghpicfaaDoor
