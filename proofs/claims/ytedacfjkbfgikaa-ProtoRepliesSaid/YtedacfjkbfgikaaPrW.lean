/- slices.Grow, Concat, IndexFunc, ContainsFunc at strings. -/
import Derived.Test.YtedacfjkbfgikaaPrU
import Derived.Shelf.Spec.SlicesGrow
namespace Go.Proofs.Ytedacfjkbfgikaa
open Go.RowKit Go.Shelf
set_option linter.unusedVariables false
def growRen : Go.Shelf.Ren := ⟨fun | 4 => 100 | n => n, fun | 25 => 9 | 22 => 23 | 20 => 20 | n => n, fun n => n⟩
theorem growL : Lays8.n4 Try.prog growRen := {
  mixed := by kernel_rfl
  f4 := ⟨Try.f100.name, by kernel_rfl, Try.func100.trans (congrArg some (by kernel_rfl))⟩
  t0 := Try.underlying0
  a0 := Try.isAgg0
  z0 := Try.sizeOf0
  v0 := Try.zeroValue0
  t3 := Try.underlying3
  a3 := Try.isAgg3
  z3 := Try.sizeOf3
  v3 := Try.zeroValue3
  t4 := Try.underlying4
  a4 := Try.isAgg4
  z4 := Try.sizeOf4
  v4 := Try.zeroValue4
  t9 := Try.underlying9
  a9 := Try.isAgg9
  z9 := Try.sizeOf9
  v9 := Try.zeroValue9
  t20 := Try.underlying20
  a20 := Try.isAgg20
  z20 := Try.sizeOf20
  v20 := Try.zeroValue20
  t22 := Try.underlying23
  a22 := Try.isAgg23
  z22 := Try.sizeOf23
  v22 := Try.zeroValue23
}
theorem grow_any (n : Nat) (w : World) (hn : n ≤ 1000000) :
    Calls Try.prog 100 #[.slice none 0 0, .int .i64 n] w fun e w' => ∃ A c, e = .returned (.slice A 0 c) ∧ Ow w.heap.size w' A 0 c [] ∧ Below w.heap.size w w' := by
  obtain ⟨i0, hi, hz0, hz1, hz2⟩ := info_parts infoStr
  rcases Nat.eq_zero_or_pos n with h0 | h0
  · subst h0
    refine (Any8.slices_Grow_room growL none 0 0 0 w (Nat.le_refl _) (by omega) (by omega) (by omega)).mono ?_
    rintro e w' ⟨rfl, rfl⟩
    exact ⟨_, _, rfl, World.ownsRow_nil _ _ _ _, Below.refl _ _⟩
  · refine (Any8.slices_Grow_grow growL i0 _ hi hz0 (by omega) none 0 0 n [] w (Nat.le_refl _) (by omega) (by rw [hz2]; omega) (by omega) (by simp) (fun _ => rfl) (fun a h => by cases h)).mono ?_
    rintro e w' ⟨rfl, rfl⟩
    have hg := grownCap_le_maxLen w (0 + n) 0 9 (by unfold maxLen; omega)
    have hg2 := grownCap_ge w (0 + n) 0 9
    refine ⟨_, _, rfl, ⟨rfl, .inr ⟨w.heap.size, _, _, rfl, Nat.le_refl _, heap_alloc_new w.drew _, Nat.zero_le _, hg, ?_, by simp [svs]⟩⟩, ((Below.refl w.heap.size w).drew).alloc (Nat.le_refl _) _⟩
    rw [Array.size_append, Array.size_append, size_zeroCells, size_zeroCells]
    show 0 + (0 + n - 0) * 1 + (grownCap w (0 + n) 0 9 - (0 + n)) * 1 = grownCap w (0 + n) 0 9 * 1
    omega
/-- A row that is handed on. -/
structure Rw where
  A : Option Addr
  n : Nat
  c : Nat
  l : List LB
def Rw.v (r : Rw) : Value := .slice r.A r.n r.c
def Rw.ok (w : World) (r : Rw) : Prop := Reads w w.heap.size 1 r.A r.n (svs r.l) ∧ r.n ≤ 1000
def sumN (rs : List Rw) : Nat := (rs.map Rw.n).sum
def catR (rs : List Rw) : List LB := rs.flatMap Rw.l
theorem sumN_snoc (rs : List Rw) (r : Rw) : sumN (rs ++ [r]) = sumN rs + r.n := by simp [sumN]
theorem catR_snoc (rs : List Rw) (r : Rw) : catR (rs ++ [r]) = catR rs ++ r.l := by simp [catR]
theorem take_next {rs : List Rw} {q : Nat} {r : Rw} (h : rs[q]? = some r) : rs.take (q + 1) = rs.take q ++ [r] := by
  obtain ⟨h1, h2⟩ := List.getElem?_eq_some_iff.1 h
  rw [List.take_succ_eq_append_getElem h1, h2]
theorem sumN_take {rs : List Rw} (hb : ∀ r ∈ rs, r.n ≤ 1000) (q : Nat) : sumN (rs.take q) ≤ q * 1000 := by
  induction q with
  | zero => simp [sumN]
  | succ q ih =>
    rcases Nat.lt_or_ge q rs.length with h | h
    · rw [take_next (List.getElem?_eq_getElem h), sumN_snoc]
      have := hb _ (List.getElem_mem h)
      omega
    · rw [List.take_of_length_le (Nat.le_succ_of_le h)]
      rw [List.take_of_length_le h] at ih
      exact Nat.le_trans ih (Nat.mul_le_mul_right _ (Nat.le_succ _))
theorem rows_at (g m k q : Nat) (i : Int) (hi : i = (q : Int)) (hq : q < m) (W : World) : (Instr.indexAt 104 (.slice (some ⟨g, 0, none⟩) m k) (.int .i64 i)).run Try.prog W = .ok (.pointer (some ⟨g, q, none⟩)) W := by
  subst hi
  have hE : Try.prog.elem 104 = 23 := by simp [Program.elem, Try.underlying104]
  have hz : (Try.prog.info? 23).map (·.size) = some 1 := by kernel_rfl
  rw [run_indexAt_slice W 104 ⟨g, 0, none⟩ m k .i64 (q : Int) (slice_ht Try.underlying104), if_pos ⟨by omega, by omega⟩]
  rw [hE, run_sizeOf_n hz W]
  simp only [Result.andThen, Int.toNat_natCast, at_add, Nat.zero_add, Nat.mul_one]
set_option maxHeartbeats 2000000 in
theorem concat_any (rs : List Rw) (g k : Nat) (w : World) (hg : Blk w g 23 (rs.map Rw.v).toArray) (hr : ∀ r ∈ rs, r.ok w) (hl : rs.length ≤ 3) (K : Nat) (hK : K = rs.length) :
    Calls Try.prog 68 #[.slice (some ⟨g, 0, none⟩) K k] w fun e w' => ∃ A c, e = .returned (.slice A (sumN rs) c) ∧ Ow w.heap.size w' A (sumN rs) c (catR rs) ∧ Below w.heap.size w w' := by
  subst hK
  obtain ⟨i0, hi, hz0, hz1, hz2⟩ := info_parts infoStr
  have hlt := hg.lt
  have hsum := fun q => sumN_take (rs := rs) (fun r h => (hr r h).2) q
  have pick : ∀ q r, rs[q]? = some r → w.cell? ⟨g, q, none⟩ = some (.slice r.A r.n r.c) ∧ Reads w w.heap.size 1 r.A r.n (svs r.l) ∧ r.n ≤ 1000 := by
    intro q r hq
    have hm := List.mem_of_getElem? hq
    refine ⟨?_, (hr r hm).1, (hr r hm).2⟩
    have := hg.cell q
    rw [List.getElem?_toArray, List.getElem?_map, hq] at this
    exact this
  have PK := hide pick
  have HSUM := hide hsum
  have HGr := hide (fun S (hS : S ≤ 1000000) => grow_any S w hS)
  have hw0 : ∀ x : Nat, x ≤ 10000 → ¬ ((x : Int) < 0) := fun x h => by omega
  clear hg hr pick hsum
  go_enter Try.func68, Try.ntmps68
  go_wp2_with fail
  go_loop [3, 11] (fun s i => ∃ q S : Nat, q ≤ rs.length ∧ i = .int .i64 q ∧ s = .int .i64 S ∧ S ≤ 3000 ∧ Hid (S = sumN (rs.take q))) (fun _ i => rs.length - (intOf i).toNat)
  case atStart => exact ⟨0, 0, by omega, rfl, rfl, by omega, hide rfl⟩
  case round =>
    obtain ⟨q, S, hq, rfl, rfl, hS, HS⟩ := hrel
    by_cases hlq : q < rs.length
    · obtain ⟨r, hr⟩ : ∃ r, rs[q]? = some r := ⟨_, List.getElem?_eq_getElem hlq⟩
      obtain ⟨hcell, hrd, hrn⟩ := PK.out q r hr
      have hia := fun W => rows_at g rs.length k q (q : Int) rfl hlq W
      have HS2 : Hid (S + r.n = sumN (rs.take (q + 1))) := hide (by rw [take_next hr, sumN_snoc, HS.out])
      have hS3 : S + r.n ≤ 3000 := by
        have := HSUM.out (q + 1)
        have := HS2.out
        omega
      have hlq' : (q : Int) < (rs.length : Int) := by omega
      have hww : IntKind.i64.wrap ((S : Int) + (r.n : Int)) = (S : Int) + (r.n : Int) := by simp [IntKind.wrap, IntKind.bits, IntKind.signed]; omega
      have hnn : ¬ ((S : Int) + (r.n : Int) < 0) := by omega
      clear hr hrd
      go_wp2_with fail
      go_round
      case rel => exact ⟨q + 1, S + r.n, by omega, by go_num, by go_num, hS3, HS2⟩
      case measure => simp [intOf]; omega
    · have hlq' : ¬ (q : Int) < (rs.length : Int) := by omega
      obtain rfl : q = rs.length := by omega
      go_wp2_with fail
      refine (HGr.out S (by omega)).mono ?_
      rintro e w1 ⟨A1, c1, rfl, ho, hb1⟩
      have HO := hide ho
      have HB1 := hide hb1
      clear ho hb1 hlq' hlq
      go_wp2_with fail
      go_loopw [6, 27] (fun v i wr => ∃ (q : Nat) (A' : Option Addr) (n' c' : Nat), q ≤ rs.length ∧ i = .int .i64 q ∧ v = .slice A' n' c' ∧ Hid (Ow w.heap.size wr A' n' c' (catR (rs.take q))) ∧ n' ≤ 3000 ∧ Hid (n' = sumN (rs.take q)) ∧ Hid (Below w.heap.size w wr)) (fun _ i _ => rs.length - (intOf i).toNat)
      case atStart => exact ⟨0, A1, 0, c1, by omega, rfl, rfl, HO, by omega, hide rfl, HB1⟩
      case round =>
        obtain ⟨q, A', n', c', hq, rfl, rfl, HO, hn', HN, HB⟩ := hrel
        by_cases hlq : q < rs.length
        · obtain ⟨r, hr⟩ : ∃ r, rs[q]? = some r := ⟨_, List.getElem?_eq_getElem hlq⟩
          obtain ⟨hcell0, hrd, hrn⟩ := PK.out q r hr
          have hcell : wr.cell? ⟨g, q, none⟩ = some (.slice r.A r.n r.c) := (HB.out.cell (p := ⟨g, q, none⟩) hlt).trans hcell0
          have hr2 : Reads wr wr.heap.size 1 r.A r.n (svs r.l) := ((hrd.below HB.out).more HB.out.size)
          have HN2 : Hid (n' + r.n = sumN (rs.take (q + 1))) := hide (by rw [take_next hr, sumN_snoc, HN.out])
          have HC2 : Hid (catR (rs.take (q + 1)) = catR (rs.take q) ++ r.l) := hide (by rw [take_next hr, catR_snoc])
          have hn3 : n' + r.n ≤ 3000 := by
            have := HSUM.out (q + 1)
            have := HN2.out
            omega
          have hia := fun W => rows_at g rs.length k q (q : Int) rfl hlq W
          have hlq' : (q : Int) < (rs.length : Int) := by omega
          have hsz := HB.out.size
          clear hr hcell0 hrd
          go_wp2_with (at_builtin; (refine wpList_append_any _ rfl (.tmp 31) (.tmp 32) 23 rfl w.heap.size 9 i0 _ 1 16 Try.underlying23 hi hz0 hz1 hz2 rfl (by omega) (.slice A' n' c') n' (svs (catR (rs.take q))) rfl HO.out wr.heap.size r.A r.n r.c (svs r.l) rfl hr2 (svs_one _) ?c1 ?c2 ?c3 ?_))
          case c1 => unfold maxLen; omega
          case c2 => omega
          case c3 => omega
          intro v1 w2 hown1 hg1 hat1
          obtain ⟨A2, c2, rfl⟩ := own_slice hown1
          rw [← svs_append, ← HC2.out] at hown1
          have HB2 := hide (Below.grown (h := HB.out) (hg := hg1) (by omega) (fun g hg => (World.ownsRow.lt HO.out g hg).1))
          have HO2 : Hid (Ow w.heap.size w2 A2 (n' + r.n) c2 (catR (rs.take (q + 1)))) := hide hown1
          clear hown1 hg1 hat1 hr2 hcell
          go_wp2_with fail
          go_roundw
          case rel => exact ⟨q + 1, A2, n' + r.n, c2, by omega, by go_num, rfl, HO2, hn3, HN2, HB2⟩
          case measure => simp [intOf]; omega
        · have hlq' : ¬ (q : Int) < (rs.length : Int) := by omega
          obtain rfl : q = rs.length := by omega
          have HNE : Hid (n' = sumN rs) := hide (by have := HN.out; rwa [List.take_of_length_le (Nat.le_refl _)] at this)
          have HOE : Hid (Ow w.heap.size wr A' n' c' (catR rs)) := hide (by have := HO.out; rwa [List.take_of_length_le (Nat.le_refl _)] at this)
          go_wp2_with fail
          go_ret
          exact ⟨A', c', by rw [← HNE.out]; rfl, by rw [← HNE.out]; exact HOE.out, HB.out⟩
end Go.Proofs.Ytedacfjkbfgikaa
