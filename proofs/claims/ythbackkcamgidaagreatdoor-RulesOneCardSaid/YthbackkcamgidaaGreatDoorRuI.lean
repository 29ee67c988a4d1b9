/- strings.IndexByte; path.Check; rules.pathError; need. -/
import Derived.Test.YthbackkcamgidaaGreatDoorPathC
import Derived.Test.YthbackkcamgidaaGreatDoorRuN
import Derived.Test.YthbackkcamgidaaGreatDoorMemK
namespace Go.Proofs.YthbackkcamgidaaGreatDoor
open Go.RowKit
set_option linter.unusedVariables false
theorem ixb_l (l : Bs) (c : UInt8) (w : World) : Calls Tryz.prog 112 #[.string ⟨l.toArray⟩, .int .u8 (c.toNat : Int)] w fun e w' => e = .returned (.int .i64 (Lib.indexByte l c)) ∧ w = w' := by
  refine (Any.strings_IndexByte Tryz.lays137 ⟨l.toArray⟩ (c.toNat : Int) w).mono ?_
  rintro e w' ⟨rfl, rfl⟩
  refine ⟨?_, rfl⟩
  simp
set_option maxHeartbeats 1000000 in
theorem check_nil (w : World) : Calls Tryz.prog 97 #[.string ⟨#[]⟩] w fun e w' => e = .returned (.int .i64 20) ∧ Below w.heap.size w w' := by
  go_enter Tryz.func97, Tryz.ntmps97
  go_wp2
  go_ret
  exact ⟨rfl, Below.refl _ _⟩
set_option maxHeartbeats 1000000 in
theorem check_long (l : Bs) (w : World) (h1 : 256 < l.length) :
    Calls Tryz.prog 97 #[.string ⟨l.toArray⟩] w fun e w' => e = .returned (.int .i64 31) ∧ Below w.heap.size w w' := by
  have he : l.isEmpty = false := by cases l with
    | nil => simp at h1
    | cons x t => rfl
  have he2 : (l == []) = false := beq_eq_false_iff_ne.2 (by rintro rfl; simp at h1)
  go_enter Tryz.func97, Tryz.ntmps97
  go_wp2
  go_ret
  exact ⟨rfl, Below.refl _ _⟩
def zC (z : Int) : Int := if 0 ≤ z then 32 else 0
set_option maxHeartbeats 1000000 in
theorem check_parts (l : Bs) (w : World) (h : Std w) (h0 : l ≠ []) (h1 : l.length ≤ 256) :
    Calls Tryz.prog 97 #[.string ⟨l.toArray⟩] w fun e w' => (((∀ k ∈ splitC 47 l, k.length ≤ 32) ∧ e = .returned (.int .i64 (zC (Lib.indexByte l 0)))) ∨ ((∃ k ∈ splitC 47 l, 32 < k.length) ∧ e = .returned (.int .i64 31))) ∧ Below w.heap.size w w' := by
  have he : l.isEmpty = false := by cases l with
    | nil => exact absurd rfl h0
    | cons x t => rfl
  have he2 : (l == []) = false := beq_eq_false_iff_ne.2 h0
  obtain ⟨m, hm⟩ := h
  have HSp := hide (split_c ⟨l.toArray⟩ m w (show l.length ≤ 100000 by omega) hm)
  have HIx : Hid (∀ V, Calls Tryz.prog 112 #[.string ⟨l.toArray⟩, .int .u8 0] V fun e w' => e = .returned (.int .i64 (Lib.indexByte l 0)) ∧ V = w') := hide fun V => ixb_l l 0 V
  have hL := splitC_le 47 l
  clear h0 hm
  change Hid (Calls Tryz.prog 111 #[.string ⟨l.toArray⟩, .string ⟨#[47]⟩] w fun e w' => e = .returned (.slice (some ⟨w.heap.size, 0, none⟩) (splitC 47 l).length (splitC 47 l).length) ∧ w.alloc (.cells (svs (splitC 47 l)).toArray 9) = w') at HSp
  generalize splitC 47 l = ps at HSp hL ⊢
  generalize Lib.indexByte l 0 = z at HIx ⊢
  go_enter Tryz.func97, Tryz.ntmps97
  go_wp2_with fail
  refine HSp.out.mono ?_
  rintro e w1 ⟨rfl, hw1⟩
  have hnew := Blk.new w 9 (svs ps).toArray
  have hb1 := (Below.refl w.heap.size w).alloc (Nat.le_refl _) (.cells (svs ps).toArray 9)
  rw [hw1] at hnew hb1
  have HN := hide hnew
  have HB := hide hb1
  clear hw1 hnew hb1
  go_wp2
  go_loop [13] (fun i => ∃ k : Nat, k ≤ ps.length ∧ i = .int .i64 k ∧ Hid (∀ j (h : j < ps.length), j < k → (ps[j]).length ≤ 32)) (fun i => ps.length - (intOf i).toNat)
  case atStart => exact ⟨0, Nat.zero_le _, rfl, hide (fun j h h2 => by omega)⟩
  case round =>
    obtain ⟨k, hk, rfl, HA⟩ := hrel
    by_cases hlt : k < ps.length
    · have hcell : w1.cell? ⟨w.heap.size, k, none⟩ = some (.string ⟨ps[k].toArray⟩) := by
        rw [HN.out.cell]; simp [svs, sv, hlt]
      rcases Nat.lt_or_ge 32 (ps[k]).length with hbig | hsm
      · have HE : Hid (∃ k ∈ ps, 32 < k.length) := hide ⟨ps[k], List.getElem_mem _, hbig⟩
        generalize ps[k] = x at *
        have hl32' : 32 < (x.length : Int) := by omega
        go_wp2
        go_ret
        exact ⟨.inr ⟨HE.out, rfl⟩, HB.out⟩
      · have HA2 : Hid (∀ j (h : j < ps.length), j < k + 1 → (ps[j]).length ≤ 32) := hide fun j h h2 => by
          rcases Nat.lt_or_ge j k with h3 | h3
          · exact HA.out j h h3
          · obtain rfl : j = k := by omega
            exact hsm
        generalize ps[k] = x at *
        have hl32' : (x.length : Int) ≤ 32 := by omega
        go_wp2
        go_round
        case rel => exact ⟨k + 1, by omega, by go_num, HA2⟩
        case measure => simp [intOf]; omega
    · have HF : Hid (∀ k ∈ ps, k.length ≤ 32) := hide fun x hx => by
        obtain ⟨j, hj, rfl⟩ := List.getElem_of_mem hx
        exact HA.out j hj (by omega)
      clear HA
      by_cases hz : 0 ≤ z
      · have HZ : Hid (zC z = 32) := hide (by unfold zC; rw [if_pos hz])
        go_wp2_with fail
        refine (HIx.out _).mono ?_
        rintro e w2 ⟨rfl, rfl⟩
        go_wp2
        go_ret
        exact ⟨.inl ⟨HF.out, by rw [HZ.out]; rfl⟩, HB.out⟩
      · have HZ : Hid (zC z = 0) := hide (by unfold zC; rw [if_neg hz])
        go_wp2_with fail
        refine (HIx.out _).mono ?_
        rintro e w2 ⟨rfl, rfl⟩
        go_wp2
        go_ret
        exact ⟨.inl ⟨HF.out, by rw [HZ.out]; rfl⟩, HB.out⟩
theorem pcheck_any (l : Bs) (w : World) (h : Std w) : Calls Tryz.prog 97 #[.string ⟨l.toArray⟩] w fun e w' => e = .returned (.int .i64 (checkU l)) ∧ Below w.heap.size w w' := by
  by_cases h0 : l = []
  · subst h0
    refine (check_nil w).mono ?_
    rintro e w' ⟨rfl, hb⟩
    exact ⟨rfl, hb⟩
  by_cases h1 : 256 < l.length
  · refine (check_long l w h1).mono ?_
    rintro e w' ⟨rfl, hb⟩
    exact ⟨ret_int (by unfold checkU; rw [if_neg h0, if_pos h1]), hb⟩
  refine (check_parts l w h h0 (by omega)).mono ?_
  rintro e w' ⟨⟨ha, rfl⟩ | ⟨ha, rfl⟩, hb⟩
  · have hn : (splitC 47 l).all (fun k => decide (k.length ≤ 32)) = true := List.all_eq_true.2 fun k hk => by simpa using ha k hk
    refine ⟨ret_int ?_, hb⟩
    unfold checkU zC
    rw [if_neg h0, if_neg h1, hn, if_neg (show ¬ true = false by decide)]
    by_cases hx : 0 ≤ Lib.indexByte l 0
    · rw [if_pos hx, if_pos (by simpa using hx)]
    · rw [if_neg hx, if_neg (by simpa using hx)]
  · have hn : (splitC 47 l).all (fun k => decide (k.length ≤ 32)) = false := by
      obtain ⟨k, hk, h2⟩ := ha
      rw [List.all_eq_false]
      exact ⟨k, hk, by simpa using h2⟩
    exact ⟨ret_int (by unfold checkU; rw [if_neg h0, if_neg h1, if_pos hn]), hb⟩
/-- Why a text can't be the root. -/
def perrU (p : LB) : Int := if rooted p = true then (if clean p = p then checkU p else 32) else 32
theorem perr_rooted (p : LB) : (perrU p == 0) = rootedU p := by
  unfold perrU rootedU
  cases h : rooted p with
  | false => rfl
  | true =>
    rw [if_pos rfl, Bool.true_and]
    by_cases h2 : clean p = p
    · rw [if_pos h2, h2]
      simp only [beq_self_eq_true, Bool.true_and]
      rw [Bool.eq_iff_iff]; simp
    · rw [if_neg h2, beq_eq_false_iff_ne.2 h2]; rfl
set_option maxHeartbeats 2000000 in
theorem perr_any (l : Bs) (w : World) (h : Std w) (hs : l.length ≤ 90000) : Calls Tryz.prog 73 #[.string ⟨l.toArray⟩] w fun e w' => e = .returned (.int .i64 (perrU l)) ∧ Below w.heap.size w w' := by
  have X1 := hide (fun W => slash_l l W)
  have X2 := hide (fun W hW => clean_l l W hW hs)
  have X3 := hide (fun W hW => pcheck_any l W hW)
  have HS := hide h
  have HR : Hid (perrU l = if rooted l = true then (if clean l = l then checkU l else 32) else 32) := hide rfl
  clear h
  generalize perrU l = R at *
  generalize rooted l = r at *
  generalize clean l = c at *
  generalize checkU l = z at *
  cases r with
  | false =>
    have HR2 : Hid (R = 32) := hide HR.out
    clear HR
    go_enter Tryz.func73, Tryz.ntmps73
    go_wp2_with fail
    refine (X1.out _).mono ?_
    rintro e w1 ⟨rfl, rfl⟩
    go_wp2_with fail
    go_ret
    exact ⟨by rw [HR2.out]; rfl, Below.refl _ _⟩
  | true =>
    by_cases hc : c = l
    · have HR2 : Hid (R = z) := hide (by rw [HR.out, if_pos rfl, if_pos hc])
      have hc1 : (c == l) = true := beq_iff_eq.2 hc
      clear HR hc
      go_enter Tryz.func73, Tryz.ntmps73
      go_wp2_with fail
      refine (X1.out _).mono ?_
      rintro e w1 ⟨rfl, rfl⟩
      go_wp2_with fail
      refine (X2.out _ HS.out).mono ?_
      rintro e w2 ⟨rfl, hb⟩
      have HB := hide hb
      have HS2 := hide (HS.out.below hb)
      clear hb
      go_wp2_with fail
      refine (X3.out _ HS2.out).mono ?_
      rintro e w3 ⟨rfl, hb⟩
      have HB2 := hide (below_more HB.out (Nat.le_refl _) hb)
      clear hb
      go_wp2_with fail
      go_ret
      exact ⟨by rw [HR2.out]; rfl, HB2.out⟩
    · have HR2 : Hid (R = 32) := hide (by rw [HR.out, if_pos rfl, if_neg hc])
      have hc1 : (c == l) = false := beq_eq_false_iff_ne.2 hc
      clear HR hc
      go_enter Tryz.func73, Tryz.ntmps73
      go_wp2_with fail
      refine (X1.out _).mono ?_
      rintro e w1 ⟨rfl, rfl⟩
      go_wp2_with fail
      refine (X2.out _ HS.out).mono ?_
      rintro e w2 ⟨rfl, hb⟩
      have HB := hide hb
      clear hb
      go_wp2_with fail
      go_ret
      exact ⟨by rw [HR2.out]; rfl, HB.out⟩
/-- What a bad line raises. -/
def badV (k : Int) : List PanicEntry := [{ v := .iface 63 (.agg #[.int .i64 k]), recovered := false }]
theorem need_ok (p : Nat) (w : World) : Calls Tryz.prog 72 #[.pointer (some ⟨p, 0, none⟩), .bool true] w fun e w' => e = .returned (.tuple #[]) ∧ w = w' := by
  go_enter Tryz.func72, Tryz.ntmps72
  go_wp2_with fail
  go_end0
  exact ⟨rfl, rfl⟩
theorem need_no (p : Nat) (k : Int) (w : World) (hc : w.cell? ⟨p, 3, none⟩ = some (.int .i64 k)) : Calls Tryz.prog 72 #[.pointer (some ⟨p, 0, none⟩), .bool false] w fun e w' => e = .panicked (badV k) ∧ w = w' := by
  go_enter Tryz.func72, Tryz.ntmps72
  go_wp2_with fail
  exact ⟨rfl, rfl, rfl⟩
theorem need_any (p : Nat) (k : Int) (b : Bool) (w : World) (hc : w.cell? ⟨p, 3, none⟩ = some (.int .i64 k)) : Calls Tryz.prog 72 #[.pointer (some ⟨p, 0, none⟩), .bool b] w fun e w' => e = (if b = true then .returned (.tuple #[]) else .panicked (badV k)) ∧ w = w' := by
  cases b with
  | true => exact need_ok p w
  | false => exact need_no p k w hc
end Go.Proofs.YthbackkcamgidaaGreatDoor
