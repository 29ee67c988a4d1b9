/- The contract of the document's taken. -/
import Derived.Test.YtbbobffedgcbhaaGreatDoorRefRc
import Derived.Test.YtbbobffedgcbhaaGreatDoorRecD
namespace Go.Proofs.YtbbobffedgcbhaaGreatDoor
open Go.RowKit
set_option linter.unusedVariables false
theorem sl_mid (A : Option Addr) (n c q z : Nat) (k k2 : IntKind) (l h : Int) (hl : l = (q : Int)) (hh : h = (z : Int)) (hq : q ≤ z) (hz : z ≤ c) (W : World) : (Instr.slice 22 (.slice A n c) (some (.int k l)) (some (.int k2 h)) none).run Tryz.prog W = .ok (.slice (from_ c q A) (z - q) (c - q)) W := by
  subst hl; subst hh
  have hE : Tryz.prog.elem 22 = 5 := by simp [Program.elem, Tryz.underlying22]
  rw [run_slice_lh W 22 A n c (slice_ht Tryz.underlying22) k k2 (q : Int) (z : Int) (by omega) (by omega) (by omega), hE, run_sizeOf_one _ sizeU8]
  simp [Result.andThen, sliced, from_]
theorem rd_mid {w : World} {n q z c : Nat} {A : Option Addr} {bs : LB} (h : Rd w A n bs) (hq : q ≤ z) (hz : z ≤ n) (hc : n ≤ c) : Rd w (from_ c q A) (z - q) ((bs.drop q).take (z - q)) :=
  rd_to (rd_from h (by omega) hc) (by omega)
/-- What 'taken' answers. -/
def tkV (bs : LB) (k : Nat) : Value := match takeT (bs.drop k) with
  | none => .tuple #[.string ⟨#[]⟩, .int .i64 (-1)]
  | some (s, _) => .tuple #[.string ⟨s.toArray⟩, .int .i64 ((k + 2 + s.length : Nat) : Int)]
theorem tk_none {bs : LB} {k : Nat} (h : takeT (bs.drop k) = none) : tkV bs k = .tuple #[.string ⟨#[]⟩, .int .i64 (-1)] := by unfold tkV; rw [h]
theorem tk_some {bs s r : LB} {k : Nat} (h : takeT (bs.drop k) = some (s, r)) : tkV bs k = .tuple #[.string ⟨s.toArray⟩, .int .i64 ((k + 2 + s.length : Nat) : Int)] := by unfold tkV; rw [h]
set_option maxHeartbeats 2000000 in
theorem taken_neg (A : Option Addr) (n c : Nat) (w : World) :
    Calls Tryz.prog 80 #[.slice A n c, .int .i64 (-1)] w fun e w' => e = .returned (.tuple #[.string ⟨#[]⟩, .int .i64 (-1)]) ∧ Below w.heap.size w w' := by
  go_enter Tryz.func80, Tryz.ntmps80
  go_wp2_with fail
  refine bodyPost_ret (v := .tuple #[.string ⟨#[]⟩, .int .i64 (-1)]) (by simp only [results, Tryz.results80]; go_simp) rfl ⟨rfl, Below.refl _ _⟩
set_option maxRecDepth 100000 in
set_option maxHeartbeats 8000000 in
theorem taken_any (A : Option Addr) (n c k : Nat) (bs : LB) (w : World) (hR : Rd w A n bs) (hnc : n ≤ c) (hn : n ≤ 1000000) (hk : k ≤ n) :
    Calls Tryz.prog 80 #[.slice A n c, .int .i64 (k : Int)] w fun e w' => e = .returned (tkV bs k) ∧ Below w.heap.size w w' := by
  have hl := hR.len
  have hk0 : ¬ (k : Int) < 0 := by omega
  have wk : IntKind.i64.wrap ((n : Int) - (k : Int)) = (n : Int) - (k : Int) := by simp [IntKind.wrap, IntKind.bits, IntKind.signed]; omega
  by_cases h2 : n - k < 2
  · have k2 : (n : Int) - (k : Int) < 2 := by omega
    rw [tk_none (take_short (by rw [List.length_drop]; omega))]
    clear hR hl h2
    go_enter Tryz.func80, Tryz.ntmps80
    go_wp2_with fail
    refine bodyPost_ret (v := .tuple #[.string ⟨#[]⟩, .int .i64 (-1)]) (by simp only [results, Tryz.results80]; go_simp) rfl ⟨rfl, Below.refl _ _⟩
  have k2 : ¬ (n : Int) - (k : Int) < 2 := by omega
  obtain ⟨g, oo, rfl, hg, hcl⟩ := cells_of hR (by omega) (by rw [bv_length]; omega)
  have c4 := hcl k _ (bv_get bs k (by omega))
  have c5 := hcl (k + 1) _ (bv_get bs (k + 1) (by omega))
  have hx4 := (bs[k]'(by omega)).toNat_lt
  have hx5 := (bs[k + 1]'(by omega)).toNat_lt
  have hnum : numB ((bs.drop k).take 2) = 256 * (bs[k]'(by omega)).toNat + (bs[k + 1]'(by omega)).toNat := by
    have e : (bs.drop k).take 2 = [bs[k]'(by omega), bs[k + 1]'(by omega)] := by
      rw [List.drop_eq_getElem_cons (by omega), List.take_succ_cons, List.drop_eq_getElem_cons (by omega), List.take_succ_cons, List.take_zero]
    rw [e]
    simp [numB]
    omega
  have h2b : ¬ (bs.drop k).length < 2 := by rw [List.length_drop]; omega
  have hd2 : ((bs.drop k).drop 2).length = n - k - 2 := by rw [List.length_drop, List.length_drop]; omega
  have HTL := hide (fun h => take_lack (b := bs.drop k) h2b h)
  have HTH := hide (fun h => take_has (b := bs.drop k) h2b h)
  rw [hd2] at HTL HTH
  obtain ⟨N, hN⟩ : ∃ N, numB ((bs.drop k).take 2) = N := ⟨_, rfl⟩
  rw [hN] at HTL HTH hnum
  have i4 := fun W => u8_at g oo n c k (k : Int) rfl (by omega) W
  have i5 := fun W => u8_at g oo n c (k + 1) ((k : Int) + 1) (by omega) (by omega) W
  have HR := hide hR
  have HCL := hide hl
  clear hcl hN h2b hd2 hR
  generalize (bs[k]'(by omega)).toNat = x4 at *
  generalize (bs[k + 1]'(by omega)).toNat = x5 at *
  have HN := hide hnum
  have hNl : N ≤ 70000 := by omega
  have w1 : IntKind.i64.wrap (256 * (x4 : Int)) = 256 * (x4 : Int) := by simp [IntKind.wrap, IntKind.bits, IntKind.signed]; omega
  have w2 : IntKind.i64.wrap (256 * (x4 : Int) + (x5 : Int)) = 256 * (x4 : Int) + (x5 : Int) := by simp [IntKind.wrap, IntKind.bits, IntKind.signed]; omega
  have w3 : IntKind.i64.wrap ((k : Int) + 1) = (k : Int) + 1 := by simp [IntKind.wrap, IntKind.bits, IntKind.signed]; omega
  have w4 : IntKind.i64.wrap ((n : Int) - (k : Int) - 2) = (n : Int) - (k : Int) - 2 := by simp [IntKind.wrap, IntKind.bits, IntKind.signed]; omega
  have w5 : IntKind.i64.wrap ((k : Int) + 2) = (k : Int) + 2 := by simp [IntKind.wrap, IntKind.bits, IntKind.signed]; omega
  have w6 : IntKind.i64.wrap ((k : Int) + 2 + (N : Int)) = (k : Int) + 2 + (N : Int) := by simp [IntKind.wrap, IntKind.bits, IntKind.signed]; omega
  clear hnum hl h2
  go_enter Tryz.func80, Tryz.ntmps80
  go_upto_region 3 with (fail)
  go_cut [6] (fun u6 wx => u6 = .int .i64 (N : Int) ∧ Hid (Below w.heap.size w wx))
  case first =>
    go_quiet (fail)
    go_wp2_with fail
    go_meet
    exact ⟨by have := HN.out; congr 1; omega, hide (below_drewN (Below.refl w.heap.size w) _)⟩
  case rest =>
    obtain ⟨rfl, HB⟩ := hcut
    clear c4 c5 i4 i5 w1 w2 w3 hx4 hx5 HN
    by_cases hlk : n - k - 2 < N
    · have klk : (n : Int) - (k : Int) - 2 < (N : Int) := by omega
      have HTK := hide (tk_none (HTL.out hlk))
      clear HTL HTH
      go_wp2_with fail
      refine bodyPost_ret (v := .tuple #[.string ⟨#[]⟩, .int .i64 (-1)]) (by simp only [results, Tryz.results80]; go_simp) rfl ⟨congrArg Ending.returned HTK.out.symm, HB.out⟩
    · have klk : ¬ (n : Int) - (k : Int) - 2 < (N : Int) := by omega
      have HT := hide (HTH.out hlk)
      have hsl := ((((bs.drop k).drop 2).take N).length)
      have HSL : Hid ((((bs.drop k).drop 2).take N).length = N) := hide (by rw [List.length_take, List.length_drop, List.length_drop, HCL.out]; omega)
      have hrs : Rd wc (from_ c (k + 2) (some ⟨g, oo, none⟩)) (k + 2 + N - (k + 2)) (((bs.drop k).drop 2).take N) := by
        have := rd_mid (q := k + 2) (z := k + 2 + N) (rb HR.out HB.out) (by omega) (by omega) hnc
        rw [show k + 2 + N - (k + 2) = N by omega] at this ⊢
        rw [List.drop_drop]
        exact this
      have hsm := fun W => sl_mid (some ⟨g, oo, none⟩) n c (k + 2) (k + 2 + N) .i64 .i64 ((k : Int) + 2) ((k : Int) + 2 + (N : Int)) (by omega) (by omega) (by omega) (by omega) W
      rw [show k + 2 + N - (k + 2) = N by omega] at hrs hsm
      obtain ⟨cc, hcc⟩ : ∃ x, c - (k + 2) = x := ⟨_, rfl⟩
      rw [hcc] at hsm
      clear hcc
      have hcv := conv_str (c := cc) hrs
      generalize from_ c (k + 2) (some (⟨g, oo, none⟩ : Addr)) = AA at *
      have HTK := hide (tk_some HT.out)
      rw [HSL.out, show ((k + 2 + N : Nat) : Int) = (k : Int) + 2 + (N : Int) by omega] at HTK
      obtain ⟨s, hs⟩ : ∃ s, ((bs.drop k).drop 2).take N = s := ⟨_, rfl⟩
      rw [hs] at hcv HTK
      clear HTL HTH HT HSL hrs hs hsl wk
      go_wp2_with fail
      refine bodyPost_ret (v := .tuple #[.string ⟨s.toArray⟩, .int .i64 ((k : Int) + 2 + (N : Int))]) (by simp only [results, Tryz.results80]; go_simp) rfl ⟨congrArg Ending.returned HTK.out.symm, HB.out⟩
end Go.Proofs.YtbbobffedgcbhaaGreatDoor
