/- clone.List at bytes, for disks. Disks: what may be; Check, New. join: bytes behind others, in memory of their own. joined: both slices, in memory of their own. clone.Disk. The reference's power. The reference's Append and Sync of disks. The reference's Sync of disks. What Append and Sync do to a disk that has power. powered: Append and Sync of disks. powered: Sync of disks. The reference's Arm and Same of disks. Append, Sync, Arm of disks. Cut of disks. Crash of disks. The reference's Cut, Crash and Same of disks. -/
import Derived.Test.YtbbobffedgcbhaaGreatDoorGr
import Derived.Deep.RegionLaw
import Derived.Deep.AppendLies
import Derived.Deep.RegionHeld3
import Derived.Deep.DeepCutAuto
namespace Go.Proofs.YtbbobffedgcbhaaGreatDoor.Dk
open Go.RowKit
set_option linter.unusedVariables false
set_option maxHeartbeats 400000 in
theorem list_any (A : Option Addr) (n c : Nat) (bs : List UInt8) (w : World) (hr : Rd w A n bs) (hn : n ≤ 1000000) :
    Calls Tryz.prog 46 #[.slice A n c] w fun e w' => ∃ A' c', e = .returned (.slice A' n c') ∧ w'.ownsRow w.heap.size 5 1 (.slice A' n c') n (bv bs) ∧ Below w.heap.size w w' := by
  by_cases h0 : n = 0
  · subst h0
    have hz : ((0 : Int) == 0) = true := rfl
    have hbs : bs = [] := List.eq_nil_of_length_eq_zero hr.len
    subst hbs
    go_enter Tryz.func46, Tryz.ntmps46
    go_wp2
    go_ret
    exact ⟨none, 0, rfl, World.ownsRow_nil _ _ _ _, Below.refl _ _⟩
  · have hz : ((n : Int) == 0) = false := beq_eq_false_iff_ne.2 (by omega)
    obtain ⟨ad, rfl, _, _⟩ := hr.get (k := 0) (by omega)
    go_enter Tryz.func46, Tryz.ntmps46
    go_wp2_with fail
    refine (sclone_any ad n c bs w hr hn).mono ?_
    rintro e w1 ⟨v, rfl, hown, hb⟩
    obtain ⟨A', c', rfl⟩ := own_slice hown
    go_wp2
    go_ret
    exact ⟨A', c', rfl, hown, hb⟩
end Go.Proofs.YtbbobffedgcbhaaGreatDoor.Dk
namespace Go.Proofs.YtbbobffedgcbhaaGreatDoor.Dk
open Go.RowKit
set_option linter.unusedVariables false

def okD (n m : Nat) (room arm : Int) : Bool := decide (0 ≤ room ∧ room ≤ 1048576 ∧ (n : Int) + m ≤ room ∧ -1 ≤ arm)
theorem okD_no {n m : Nat} {room arm : Int} (h : room < 0 ∨ 1048576 < room ∨ room < (n : Int) + m ∨ arm < -1) : okD n m room arm = false := decide_eq_false (by rintro ⟨_, _, _, _⟩; omega)
abbrev dv (A : Option Addr) (n c : Nat) (B : Option Addr) (m k : Nat) (room : Int) (dead : Bool) (arm : Int) : Value := .agg #[.slice A n c, .slice B m k, .int .i64 room, .bool dead, .int .i64 arm]
abbrev dC (A : Option Addr) (n c : Nat) (B : Option Addr) (m k : Nat) (room : Int) (dead : Bool) (arm : Int) : Obj := .cells #[.slice A n c, .slice B m k, .int .i64 room, .bool dead, .int .i64 arm] 24

set_option maxHeartbeats 800000 in
theorem check_any (A : Option Addr) (n c : Nat) (B : Option Addr) (m k : Nat) (room : Int) (dead : Bool) (arm : Int) (w : World) (hn : n ≤ 1000000000) (hm : m ≤ 1000000000) :
    Calls Tryz.prog 19 #[dv A n c B m k room dead arm] w fun e w' => e = .returned (.bool (okD n m room arm)) ∧ w.alloc (dC A n c B m k room dead arm) = w' := by
  go_enter Tryz.func19, Tryz.ntmps19
  go_wp2
  all_goals
    go_ret
    refine ⟨ret_bool ?_, rfl⟩
    first
      | rw [okD_no (by omega)]
      | (unfold okD; rw [Bool.eq_iff_iff]; simp; omega)
set_option maxHeartbeats 800000 in
theorem rcheck_any (A : Option Addr) (n c : Nat) (B : Option Addr) (m k : Nat) (room : Int) (dead : Bool) (arm : Int) (w : World) (hn : n ≤ 1000000000) (hm : m ≤ 1000000000) :
    Calls Tryz.prog 22 #[dv A n c B m k room dead arm] w fun e w' => e = .returned (.bool (okD n m room arm)) ∧ w.alloc (dC A n c B m k room dead arm) = w' := by
  by_cases hr0 : 0 ≤ room
  · by_cases hr1 : room ≤ 1048576
    · go_enter Tryz.func22, Tryz.ntmps22
      go_wp2
      all_goals
        go_ret
        refine ⟨ret_bool ?_, rfl⟩
        first
          | rw [okD_no (by omega)]
          | (unfold okD; rw [Bool.eq_iff_iff]; simp; omega)
    · go_enter Tryz.func22, Tryz.ntmps22
      go_wp2
      all_goals
        go_ret
        refine ⟨ret_bool ?_, rfl⟩
        rw [okD_no (by omega)]
  · go_enter Tryz.func22, Tryz.ntmps22
    go_wp2
    all_goals
      go_ret
      refine ⟨ret_bool ?_, rfl⟩
      rw [okD_no (by omega)]
def newR (room : Int) : Value := if 0 ≤ room ∧ room ≤ 1048576 then .tuple #[dv none 0 0 none 0 0 room false (-1), .int .i64 0] else .tuple #[dv none 0 0 none 0 0 0 false 0, .int .i64 2]
set_option maxHeartbeats 800000 in
theorem rnew_any (room : Int) (w : World) :
    Calls Tryz.prog 18 #[.int .i64 room] w fun e w' => e = .returned (newR room) ∧ Below w.heap.size w w' := by
  by_cases h0 : 0 ≤ room
  · by_cases h1 : room ≤ 1048576
    · have HN : Hid (newR room = .tuple #[dv none 0 0 none 0 0 room false (-1), .int .i64 0]) := hide (if_pos ⟨h0, h1⟩)
      go_enter Tryz.func18, Tryz.ntmps18
      go_wp2
      refine bodyPost_ret (v := .tuple #[dv none 0 0 none 0 0 room false (-1), .int .i64 0]) (by simp only [results, Tryz.results18]; go_simp) rfl ⟨by rw [HN.out], (Below.refl _ _).alloc (Nat.le_refl _) _⟩
    · have HN : Hid (newR room = .tuple #[dv none 0 0 none 0 0 0 false 0, .int .i64 2]) := hide (if_neg (by omega))
      have h2 : 1048576 < room := by omega
      go_enter Tryz.func18, Tryz.ntmps18
      go_wp2
      refine bodyPost_ret (v := .tuple #[dv none 0 0 none 0 0 0 false 0, .int .i64 2]) (by simp only [results, Tryz.results18]; go_simp) rfl ⟨by rw [HN.out], (Below.refl _ _).alloc (Nat.le_refl _) _⟩
  · have HN : Hid (newR room = .tuple #[dv none 0 0 none 0 0 0 false 0, .int .i64 2]) := hide (if_neg (by omega))
    have h2 : room < 0 := by omega
    go_enter Tryz.func18, Tryz.ntmps18
    go_wp2
    refine bodyPost_ret (v := .tuple #[dv none 0 0 none 0 0 0 false 0, .int .i64 2]) (by simp only [results, Tryz.results18]; go_simp) rfl ⟨by rw [HN.out], (Below.refl _ _).alloc (Nat.le_refl _) _⟩
end Go.Proofs.YtbbobffedgcbhaaGreatDoor.Dk
namespace Go.Proofs.YtbbobffedgcbhaaGreatDoor.Dk
open Go.RowKit
set_option linter.unusedVariables false

set_option maxHeartbeats 1000000 in
theorem rjoin_any (A : Option Addr) (n c : Nat) (B : Option Addr) (m k : Nat) (a b : List UInt8) (w : World) (ha : Rd w A n a) (hb : Rd w B m b) (hn : n ≤ 10000000) (hm : m ≤ 10000000) :
    Calls Tryz.prog 45 #[.slice A n c, .slice B m k] w fun e w' => ∃ J l, e = .returned (.slice J (n + m) l) ∧ w'.ownsRow w.heap.size 5 1 (.slice J (n + m) l) (n + m) (bv (a ++ b)) ∧ Below w.heap.size w w' := by
  obtain ⟨i0, hi, hz0, hz1, hz2⟩ := info_parts infoU8
  have hown0 : (w.alloc (.cells #[] 5)).ownsRow w.heap.size 5 1 (.slice (some ⟨w.heap.size, 0, none⟩) 0 0) 0 [] :=
    Blk.own (cap := 0) (Blk.new w 5 #[]) (Nat.le_refl _) (Nat.zero_le _) rfl
  have hb0 := hide ((Below.refl w.heap.size w).alloc (Nat.le_refl _) (.cells #[] 5))
  have hr0 := ha.alloc (Nat.le_refl _) (.cells #[] 5)
  have hr1 := hb.alloc (Nat.le_refl _) (.cells #[] 5)
  go_enter Tryz.func45, Tryz.ntmps45
  go_wp2_with (at_builtin; (refine wpList_append_any _ rfl (.tmp 5) (.tmp 6) 22 rfl w.heap.size 5 i0 _ 1 1 Tryz.underlying22 hi hz0 hz1 hz2 rfl (by omega) (.slice (some ⟨w.heap.size, 0, none⟩) 0 0) 0 [] rfl hown0 w.heap.size A n c (bv a) rfl hr0 (bv_one a) ?c1 ?c2 ?c3 ?_))
  case c1 => unfold maxLen; omega
  case c2 => omega
  case c3 => simp
  intro v1 w1 hown1 hg1 hat1
  obtain ⟨J1, l1, rfl⟩ := own_slice hown1
  try rw [Nat.zero_add] at hown1
  try rw [List.nil_append] at hown1
  have hb1 := hide (hb0.out.grown hg1 (by simp) (fun g hg => by simp [Value.ownBlock] at hg; omega))
  have hr2 := hr1.grown hg1 (by simp) (fun g hg => by simp [Value.ownBlock] at hg; omega)
  clear hg1 hat1
  have hz := hb1.out.size
  go_wp2_with (at_builtin; (refine wpList_append_any _ rfl (.tmp 7) (.tmp 8) 22 rfl w.heap.size 5 i0 _ 1 1 Tryz.underlying22 hi hz0 hz1 hz2 rfl (by omega) (.slice J1 n l1) n (bv a) rfl hown1 w.heap.size B m k (bv b) rfl hr2 (bv_one b) ?d1 ?d2 ?d3 ?_))
  case d1 => unfold maxLen; omega
  case d2 => omega
  case d3 => omega
  intro v2 w2 hown2 hg2 hat2
  obtain ⟨J, l, rfl⟩ := own_slice hown2
  rw [← bv_append] at hown2
  have hb2 := hide (hb1.out.grown hg2 (by omega) (fun g hg => (hown1.lt g hg).1))
  have HO := hide hown2
  clear hg2 hat2 hown2
  go_wp2
  go_ret
  exact ⟨J, l, rfl, HO.out, hb2.out⟩
end Go.Proofs.YtbbobffedgcbhaaGreatDoor.Dk
namespace Go.Proofs.YtbbobffedgcbhaaGreatDoor.Dk
open Go.RowKit
set_option linter.unusedVariables false

theorem mkN (q : Nat) (hq : q ≤ 100000000) : ∃ zs : Array Value, zs.size = q ∧ ∀ W, (Instr.makeSlice 22 (.int .i64 (q : Int)) (.int .i64 (q : Int))).run Tryz.prog W = .ok (.slice (some ⟨W.heap.size, 0, none⟩) q q) (W.alloc (.cells zs 5)) := by
  obtain ⟨i, hi, hz, hs, hb⟩ := info_parts infoU8
  refine ⟨madeCells (Value.int .u8 0).cells (q * 1), by rw [size_madeCells, Nat.mul_one], fun W => ?_⟩
  have := run_make_rowN (P := Tryz.prog) 22 5 i _ Tryz.underlying22 hi hz .i64 .i64 q q (Nat.le_refl _) (by rw [hb]; omega) (by omega) W
  rw [hs] at this
  exact this

set_option maxHeartbeats 1000000 in
theorem joined_any (A : Option Addr) (n c : Nat) (B : Option Addr) (m k : Nat) (a b : List UInt8) (w : World) (ha : Rd w A n a) (hb : Rd w B m b) (hn : n ≤ 10000000) (hm : m ≤ 10000000) :
    Calls Tryz.prog 42 #[.slice A n c, .slice B m k] w fun e w' => ∃ J l, e = .returned (.slice J (n + m) l) ∧ w'.ownsRow w.heap.size 5 1 (.slice J (n + m) l) (n + m) (bv (a ++ b)) ∧ Below w.heap.size w w' := by
  have hla := ha.len
  have hlb := hb.len
  by_cases h0 : n + m = 0
  · obtain rfl : n = 0 := by omega
    obtain rfl : m = 0 := by omega
    obtain rfl := List.eq_nil_of_length_eq_zero hla
    obtain rfl := List.eq_nil_of_length_eq_zero hlb
    go_enter Tryz.func42, Tryz.ntmps42
    go_wp2
    go_ret
    exact ⟨none, 0, rfl, World.ownsRow_nil _ _ _ _, Below.refl _ _⟩
  · have hzb : ((n : Int) + (m : Int) == 0) = false := beq_eq_false_iff_ne.2 (by omega)
    obtain ⟨zs, hzs, hmk⟩ := mkN (n + m) (by omega)
    have hmk' : ∀ W, (Instr.makeSlice 22 (.int .i64 ((n : Int) + (m : Int))) (.int .i64 ((n : Int) + (m : Int)))).run Tryz.prog W = .ok (.slice (some ⟨W.heap.size, 0, none⟩) (n + m) (n + m)) (W.alloc (.cells zs 5)) := fun W => by have := hmk W; rwa [Int.natCast_add] at this
    clear hmk
    have HL := hide hzs
    have HA := hide hla
    have HB := hide hlb
    clear hzs hla hlb
    have hsl := fun W => run_slice_from (P := Tryz.prog) 22 5 Tryz.underlying22 sizeU8 (some ⟨w.heap.size, 0, none⟩) (n + m) (n + m) .i64 (n : Int) (by omega) (by omega) W
    simp only [Int.toNat_natCast, Nat.add_sub_cancel_left] at hsl
    obtain ⟨D, hD⟩ : ∃ D, D = (if n + m = n then (some ⟨w.heap.size, 0, none⟩ : Option Addr) else (some ⟨w.heap.size, 0, none⟩ : Option Addr).map (·.add n)) := ⟨_, rfl⟩
    rw [← hD] at hsl
    have HD := hide hD
    clear hD
    have hnew := Blk.new w 5 zs
    have hra := ha.alloc (Nat.le_refl _) (.cells zs 5)
    have hrb := hb.alloc (Nat.le_refl _) (.cells zs 5)
    have hbw := hide ((Below.refl w.heap.size w).alloc (Nat.le_refl _) (.cells zs 5))
    go_enter Tryz.func42, Tryz.ntmps42
    go_wp2_with (with_reducible refine wpList_copy_splice rfl (.tmp 18) (.tmp 19) 22 22 rfl 5 Tryz.underlying22 sizeU8 (some ⟨w.heap.size, 0, none⟩) A (n + m) (n + m) n c rfl rfl w.heap.size 0 zs.toList 5 ?hg (bv a) ?hn ?hp ?hf (bv_one _) w.heap.size w ?hb ?hB ?_)
    case hg => rw [Array.toArray_toList]; exact hnew
    case hn => rw [bv_length, HA.out]; exact (Nat.min_eq_left (by omega)).symm
    case hp =>
      intro hpos
      rw [bv_length, HA.out] at hpos
      obtain ⟨ad, e1, _, hc⟩ := hra.2 hpos
      first | exact ⟨rfl, ad, e1, hc⟩ | exact ⟨ad, e1, hc⟩
    case hf => rw [bv_length, HA.out, Array.length_toList, HL.out]; omega
    case hb => exact hbw.out
    case hB => exact Nat.le_refl _
    intro w1 hc1 hbel1
    have hrb1 := Reads.below hb hbel1
    have HC1 := hc1
    have HB1 := hide hbel1
    clear hbel1 hc1
    go_wp2_with (with_reducible refine wpList_copy_splice rfl (.tmp 24) (.tmp 25) 22 22 rfl 5 Tryz.underlying22 sizeU8 D B m m m k rfl rfl w.heap.size n (splice zs.toList 0 (bv a)) 5 ?j1 (bv b) ?j2 ?j3 ?j4 (bv_one _) w.heap.size w ?j5 ?j6 ?_)
    case j1 => exact HC1.out
    case j2 => rw [bv_length, HB.out]; exact (Nat.min_self _).symm
    case j3 =>
      intro hpos
      rw [bv_length, HB.out] at hpos
      obtain ⟨ad, e1, _, hc⟩ := hrb1.2 hpos
      refine ⟨?_, ad, e1, hc⟩
      rw [HD.out, if_neg (by omega)]
      unfold Addr.add
      by_cases hn0 : n = 0 <;> simp [hn0]
    case j4 => rw [length_splice _ _ _ (by rw [bv_length, HA.out, Array.length_toList, HL.out]; omega), bv_length, HB.out, Array.length_toList, HL.out]; omega
    case j5 => exact HB1.out
    case j6 => exact Nat.le_refl _
    intro w2 hc2 hbel2
    have HC2 := hc2
    have HB2 := hide hbel2
    clear hc2 hbel2
    go_wp2
    go_ret
    have hsp : splice (splice zs.toList 0 (bv a)) n (bv b) = bv (a ++ b) := by
      have e1 : (bv a).length = n := by rw [bv_length, HA.out]
      have e2 : (bv b).length = m := by rw [bv_length, HB.out]
      have e3 : zs.toList.length = n + m := by rw [Array.length_toList, HL.out]
      rw [bv_append]
      unfold splice
      rw [List.take_zero, List.nil_append, Nat.zero_add, e1, List.take_left' e1, List.drop_append, e1, e2, List.drop_eq_nil_of_le (by omega), List.drop_eq_nil_of_le (by rw [List.length_drop]; omega)]
      simp
    have hrow := HC2.out
    rw [hsp] at hrow
    have ho := Blk.own (w := w2) (g := w.heap.size) (e := 5) (cs := (bv (a ++ b)).toArray) (base := w.heap.size) (cap := n + m) hrow (Nat.le_refl _) (by unfold maxLen; omega) (by simp [bv, HA.out, HB.out])
    exact ⟨_, _, rfl, by simpa using ho, HB2.out⟩
end Go.Proofs.YtbbobffedgcbhaaGreatDoor.Dk
namespace Go.Proofs.YtbbobffedgcbhaaGreatDoor.Dk
open Go.RowKit
set_option linter.unusedVariables false

set_option maxHeartbeats 2000000 in
theorem cdisk_any (A : Option Addr) (n c : Nat) (B : Option Addr) (m k : Nat) (room : Int) (dead : Bool) (arm : Int) (a b : List UInt8) (w : World) (ha : Rd w A n a) (hb : Rd w B m b) (hn : n ≤ 1000000) (hm : m ≤ 1000000) :
    Calls Tryz.prog 41 #[dv A n c B m k room dead arm] w fun e w' => ∃ A' c' B' k', e = .returned (dv A' n c' B' m k' room dead arm) ∧ w'.ownsRow w.heap.size 5 1 (.slice A' n c') n (bv a) ∧ w'.ownsRow w.heap.size 5 1 (.slice B' m k') m (bv b) ∧ Below w.heap.size w w' := by
  go_enter Tryz.func41, Tryz.ntmps41
  go_wp2_with fail
  generalize hW1 : ((w.alloc (.cells #[Value.slice A n c, Value.slice B m k, .int .i64 room, .bool dead, .int .i64 arm] 24)).alloc (.cells #[Value.slice none 0 0, Value.slice none 0 0, .int .i64 0, .bool false, .int .i64 0] 24)) = W1
  have hP : Blk W1 w.heap.size 24 #[Value.slice A n c, .slice B m k, .int .i64 room, .bool dead, .int .i64 arm] := by rw [← hW1]; exact (Blk.new w 24 _).alloc _
  have hQ : Blk W1 (w.heap.size + 1) 24 #[Value.slice none 0 0, .slice none 0 0, .int .i64 0, .bool false, .int .i64 0] := by
    rw [← hW1]
    have h1 := Blk.new (w.alloc (.cells #[Value.slice A n c, Value.slice B m k, .int .i64 room, .bool dead, .int .i64 arm] 24)) 24 #[Value.slice none 0 0, .slice none 0 0, .int .i64 0, .bool false, .int .i64 0]
    simpa only [World.size_alloc] using h1
  have hRA : Reads W1 w.heap.size 1 A n (bv a) := by rw [← hW1]; exact (ha.alloc (Nat.le_refl _) _).alloc (by simp) _
  have hRB : Reads W1 w.heap.size 1 B m (bv b) := by rw [← hW1]; exact (hb.alloc (Nat.le_refl _) _).alloc (by simp) _
  have hb0 : Below w.heap.size w W1 := by rw [← hW1]; exact ((Below.refl _ _).alloc (Nat.le_refl _) _).alloc (by simp) _
  have hz : w.heap.size + 1 < W1.heap.size := by rw [← hW1]; simp
  have hz' : w.heap.size < W1.heap.size := by omega
  have HW1 := hide hW1
  clear hW1
  obtain ⟨⟨a0, a1, a2, a3, a4⟩, f0, f1, f2, f3, f4⟩ := hP.five
  go_region_law (first
    | (go_simp; go_at_call_of 46 (Value.slice A n c)
       refine (list_any A n c a _ (by exact hRA.more (Nat.le_of_lt hz')) hn).mono ?_
       rintro e w2 ⟨A', c', rfl, hoA, hb1⟩
       have hP2 := Blk.below (h := (by exact hP)) (hb := hb1) hz'
       have hQ2 := Blk.below (h := (by exact hQ)) (hb := hb1) hz
       have hRB2 := Reads.below (h := (by exact hRB)) (hb := hb1.mono (Nat.le_of_lt hz'))
       have hz2 : W1.heap.size ≤ w2.heap.size := hb1.size
       have HA := hide hoA
       have HB1 := hide hb1
       clear hoA hb1
       obtain ⟨⟨x0, x1, x2, x3, x4⟩, y0, y1, y2, y3, y4⟩ := hP2.five)
    | (go_simp; go_at_call_of 46 (Value.slice B m k)
       refine (list_any B m k b _ (by exact hRB2.more (by omega)) hm).mono ?_
       rintro e w3 ⟨B', k', rfl, hoB, hb2⟩
       have hP3 := Blk.below (h := (by exact hP2)) (hb := hb2) (by show w.heap.size < w2.heap.size; omega)
       have hQ3 := Blk.below (h := (by exact hQ2)) (hb := hb2) (by show w.heap.size + 1 < w2.heap.size; omega)
       have hz3 : w2.heap.size ≤ w3.heap.size := hb2.size
       have HA3 := hide (own_below (by exact HA.out) hb2)
       have HB := hide hoB
       have HB2 := hide hb2
       clear hoB hb2
       obtain ⟨⟨m0, m1, m2, m3, m4⟩, n0, n1, n2, n3, n4⟩ := hP3.five))
  all_goals
    clear a0 a1 a2 a3 a4 f0 f1 f2 f3 f4 x0 x1 x2 x3 x4 y0 y1 y2 y3 y4
    obtain ⟨⟨i0, i1, i2, i3, i4⟩, j0, j1, j2, j3, j4⟩ := hQ3.five
    have hu1 : w.heap.size < w3.heap.size := by omega
    have hu2 : w.heap.size + 1 < w3.heap.size := by omega
    go_wp2
    have HA4 : w3.ownsRow (w.heap.size + 2) 5 1 (.slice A' n c') n (bv a) := own_more HA3.out (by show w.heap.size + 2 ≤ W1.heap.size; omega)
    have HB4 : w3.ownsRow (w.heap.size + 2) 5 1 (.slice B' m k') m (bv b) := own_more HB.out (by show w.heap.size + 2 ≤ w2.heap.size; omega)
    have bel1 : Below w.heap.size w w2 := by
      first
        | exact hb0.trans (HB1.out.mono (by show w.heap.size ≤ W1.heap.size; omega))
        | exact hb0.drew.trans (HB1.out.mono (by show w.heap.size ≤ W1.heap.size; omega))
        | exact hb0.drew.drew.trans (HB1.out.mono (by show w.heap.size ≤ W1.heap.size; omega))
    have bel2 : Below w.heap.size w w3 := by
      first
        | exact bel1.trans (HB2.out.mono (by show w.heap.size ≤ w2.heap.size; omega))
        | exact bel1.drew.trans (HB2.out.mono (by show w.heap.size ≤ w2.heap.size; omega))
        | exact bel1.drew.drew.trans (HB2.out.mono (by show w.heap.size ≤ w2.heap.size; omega))
    refine bodyPost_ret (v := dv A' n c' B' m k' room dead arm) (by simp only [results, Tryz.results41]; go_simp) rfl ⟨A', c', B', k', rfl, ?_, ?_, ?_⟩
    · exact own_more (own_far (own_far (own_far (own_far (own_far (own_far (own_far HA4 (by simp) _) (by simp) _) (by simp) _) (by simp) _) (by simp) _) (by simp) _) (by simp) _) (by omega)
    · exact own_more (own_far (own_far (own_far (own_far (own_far (own_far (own_far HB4 (by simp) _) (by simp) _) (by simp) _) (by simp) _) (by simp) _) (by simp) _) (by simp) _) (by omega)
    · exact ((((((bel2.setCell (by simp) _).setCell (by simp) _).setCell (by simp) _).setCell (by simp) _).setCell (by simp) _).setCell (by simp) _).setCell (by simp) _
end Go.Proofs.YtbbobffedgcbhaaGreatDoor.Dk
namespace Go.Proofs.YtbbobffedgcbhaaGreatDoor.Dk
open Go.RowKit
set_option linter.unusedVariables false

def pwD (dead : Bool) (arm : Int) : Bool := dead || arm == 0
def pwA (dead : Bool) (arm : Int) : Int := if dead = false ∧ 0 < arm then arm - 1 else arm
def pwO (dead : Bool) (arm : Int) : Bool := !(dead || arm == 0)
set_option maxHeartbeats 800000 in
theorem rpower_any (A : Option Addr) (n c : Nat) (B : Option Addr) (m k : Nat) (room : Int) (dead : Bool) (arm : Int) (w : World) (h1 : -1 ≤ arm) (h2 : arm ≤ 9223372036854775807) :
    Calls Tryz.prog 56 #[dv A n c B m k room dead arm] w fun e w' => e = .returned (.tuple #[dv A n c B m k room (pwD dead arm) (pwA dead arm), .bool (pwO dead arm)]) ∧ Below w.heap.size w w' := by
  have OUT : ∀ (D : Bool) (R : Int) (O : Bool) (W : World), pwD dead arm = D ∧ pwA dead arm = R ∧ pwO dead arm = O → Below w.heap.size w W → Ending.returned (.tuple #[dv A n c B m k room D R, .bool O]) = .returned (.tuple #[dv A n c B m k room (pwD dead arm) (pwA dead arm), .bool (pwO dead arm)]) ∧ Below w.heap.size w W := fun D R O W h hb => ⟨by rw [h.1, h.2.1, h.2.2], hb⟩
  cases hd : dead
  · cases h0 : (arm == 0)
    · have hne := beq_eq_false_iff_ne.1 h0
      by_cases hp : 0 < arm
      · have HE : Hid (pwD dead arm = false ∧ pwA dead arm = arm - 1 ∧ pwO dead arm = true) := hide (by unfold pwD pwA pwO; rw [hd]; simp [h0, hp])
        subst hd
        clear hne
        go_enter Tryz.func56, Tryz.ntmps56
        go_wp2
        refine bodyPost_ret (v := .tuple #[dv A n c B m k room false (arm - 1), .bool true]) (by simp only [results, Tryz.results56]; go_simp) rfl (OUT _ _ _ _ HE.out ?_)
        exact ((Below.refl _ _).alloc (Nat.le_refl _) _).alloc (by simp) _
      · have HE : Hid (pwD dead arm = false ∧ pwA dead arm = arm ∧ pwO dead arm = true) := hide (by unfold pwD pwA pwO; rw [hd]; simp [h0, hp])
        subst hd
        clear hne
        go_enter Tryz.func56, Tryz.ntmps56
        go_wp2
        refine bodyPost_ret (v := .tuple #[dv A n c B m k room false arm, .bool true]) (by simp only [results, Tryz.results56]; go_simp) rfl (OUT _ _ _ _ HE.out ?_)
        exact ((Below.refl _ _).alloc (Nat.le_refl _) _).alloc (by simp) _
    · have HE : Hid (pwD dead arm = true ∧ pwA dead arm = arm ∧ pwO dead arm = false) := hide (by have he := beq_iff_eq.1 h0; unfold pwD pwA pwO; rw [hd]; simp [he])
      subst hd
      go_enter Tryz.func56, Tryz.ntmps56
      go_wp2
      refine bodyPost_ret (v := .tuple #[dv A n c B m k room true arm, .bool false]) (by simp only [results, Tryz.results56]; go_simp) rfl (OUT _ _ _ _ HE.out ?_)
      exact ((Below.refl _ _).alloc (Nat.le_refl _) _).alloc (by simp) _
  · have HE : Hid (pwD dead arm = true ∧ pwA dead arm = arm ∧ pwO dead arm = false) := hide (by unfold pwD pwA pwO; rw [hd]; simp)
    subst hd
    go_enter Tryz.func56, Tryz.ntmps56
    go_wp2
    refine bodyPost_ret (v := .tuple #[dv A n c B m k room true arm, .bool false]) (by simp only [results, Tryz.results56]; go_simp) rfl (OUT _ _ _ _ HE.out ?_)
    exact ((Below.refl _ _).alloc (Nat.le_refl _) _).alloc (by simp) _
end Go.Proofs.YtbbobffedgcbhaaGreatDoor.Dk
namespace Go.Proofs.YtbbobffedgcbhaaGreatDoor.Dk
open Go.RowKit
set_option linter.unusedVariables false

/-- What Append answers: the error, and the bytes that wait. -/
def apE (n m : Nat) (room : Int) (dead : Bool) (arm : Int) (q : Nat) : Int := if okD n m room arm = false then 2 else if pwO dead arm = false then 42 else if room < (n : Int) + m + q then 35 else 0
def apP (n m : Nat) (p : List UInt8) (room : Int) (dead : Bool) (arm : Int) (b : List UInt8) : List UInt8 := if apE n m room dead arm b.length = 0 then p ++ b else p
def apD (n m : Nat) (room : Int) (dead : Bool) (arm : Int) : Bool := if okD n m room arm = false then dead else pwD dead arm
def apA (n m : Nat) (room : Int) (dead : Bool) (arm : Int) : Int := if okD n m room arm = false then arm else pwA dead arm
def ApEnd (w : World) (s p b : List UInt8) (room : Int) (dead : Bool) (arm : Int) (e : Ending) (w' : World) : Prop :=
  ∃ A n c B m k, e = .returned (.tuple #[dv A n c B m k room (apD s.length p.length room dead arm) (apA s.length p.length room dead arm), .int .i64 (apE s.length p.length room dead arm b.length)]) ∧ Rd w' A n s ∧ Rd w' B m (apP s.length p.length p room dead arm b) ∧ Below w.heap.size w w'
theorem apEnd_no {w w' : World} {A B : Option Addr} {c k : Nat} {s p b : List UInt8} {room arm R E : Int} {dead T : Bool} (h : apD s.length p.length room dead arm = T ∧ apA s.length p.length room dead arm = R ∧ apE s.length p.length room dead arm b.length = E ∧ E ≠ 0) (hs : Rd w A s.length s) (hp : Rd w B p.length p) (bel : Below w.heap.size w w') :
    ApEnd w s p b room dead arm (.returned (.tuple #[dv A s.length c B p.length k room T R, .int .i64 E])) w' := by
  refine ⟨A, s.length, c, B, p.length, k, by rw [h.1, h.2.1, h.2.2.1], (Reads.below hs bel).more bel.size, ?_, bel⟩
  unfold apP
  rw [if_neg (by rw [h.2.2.1]; exact h.2.2.2)]
  exact (Reads.below hp bel).more bel.size

set_option maxHeartbeats 800000 in
theorem rappend_any (A : Option Addr) (c : Nat) (B : Option Addr) (k : Nat) (room : Int) (dead : Bool) (arm : Int) (s p b : List UInt8) (D : Option Addr) (l : Nat) (w : World) (hs : Rd w A s.length s) (hp : Rd w B p.length p) (hb : Rd w D b.length b) (h1 : s.length ≤ 10000) (h2 : p.length ≤ 10000) (h3 : b.length ≤ 10000) (ha : arm ≤ 9223372036854775807) :
    Calls Tryz.prog 32 #[dv A s.length c B p.length k room dead arm, .slice D b.length l] w (ApEnd w s p b room dead arm) := by
  go_enter Tryz.func32, Tryz.ntmps32
  go_wp2_with fail
  refine (rcheck_any A _ c B _ k room dead arm _ (by omega) (by omega)).mono ?_
  rintro e w2 ⟨rfl, rfl⟩
  cases hok : okD s.length p.length room arm
  · have HE : Hid (apD s.length p.length room dead arm = dead ∧ apA s.length p.length room dead arm = arm ∧ apE s.length p.length room dead arm b.length = 2 ∧ (2 : Int) ≠ 0) := hide (by unfold apD apA apE; rw [hok]; simp)
    go_wp2
    refine bodyPost_ret (v := .tuple #[dv A s.length c B p.length k room dead arm, .int .i64 2]) (by simp only [results, Tryz.results32]; go_simp) rfl (apEnd_no HE.out hs hp ?_)
    ((repeat (refine Below.alloc ?_ (by first | exact Nat.le_refl _ | (simp; done) | (simp; omega)) _)); exact Below.refl _ _)
  · have hbd : 0 ≤ room ∧ room ≤ 1048576 ∧ (s.length : Int) + p.length ≤ room ∧ -1 ≤ arm := by unfold okD at hok; exact of_decide_eq_true hok
    obtain ⟨q1, q2, q3, q4⟩ := hbd
    go_wp2_with fail
    refine (rpower_any A _ c B _ k room dead arm _ q4 ha).mono ?_
    rintro e w3 ⟨rfl, k3⟩
    have hQ := Blk.below (h := ((Blk.new (w.alloc (dC A s.length c B p.length k room dead arm)) 24 #[.slice none 0 0, .slice none 0 0, .int .i64 0, .bool false, .int .i64 0]).alloc (dC A s.length c B p.length k room dead arm))) (hb := k3) (by simp)
    simp only [World.size_alloc] at hQ
    have hz := k3.size
    simp at hz
    have bel3 : Below w.heap.size w w3 := Below.trans (b := ((w.alloc (dC A s.length c B p.length k room dead arm)).alloc (.cells #[.slice none 0 0, .slice none 0 0, .int .i64 0, .bool false, .int .i64 0] 24)).alloc (dC A s.length c B p.length k room dead arm)) (by ((repeat (refine Below.alloc ?_ (by first | exact Nat.le_refl _ | (simp; done) | (simp; omega)) _)); exact Below.refl _ _)) (k3.mono (by simp; omega))
    have K3 := hide bel3
    clear k3 bel3
    have hy : w.heap.size + 1 < w3.heap.size := by omega
    obtain ⟨⟨a0, a1, a2, a3, a4⟩, f0, f1, f2, f3, f4⟩ := hQ.five
    have hD : Hid (apD s.length p.length room dead arm = pwD dead arm ∧ apA s.length p.length room dead arm = pwA dead arm) := hide (by unfold apD apA; rw [hok]; simp)
    generalize hT : pwD dead arm = T at hD ⊢
    generalize hR : pwA dead arm = R at hD ⊢
    cases hO : pwO dead arm
    · have HE : Hid (apE s.length p.length room dead arm b.length = 42) := hide (by unfold apE; rw [hok, hO]; simp)
      clear hT hR hO
      go_wp2
      refine bodyPost_ret (v := .tuple #[dv A s.length c B p.length k room T R, .int .i64 42]) (by simp only [results, Tryz.results32]; go_simp) rfl (apEnd_no ⟨hD.out.1, hD.out.2, HE.out, by decide⟩ hs hp ?_)
      exact (((((K3.out.setCell (by simp) _).setCell (by simp) _).setCell (by simp) _).setCell (by simp) _).setCell (by simp) _).alloc (by simp [World.setCell]; omega) _
    · clear hT hR
      by_cases hlt : room < (s.length : Int) + p.length + b.length
      · have HE : Hid (apE s.length p.length room dead arm b.length = 35) := hide (by unfold apE; rw [hok, hO, if_neg (by decide), if_neg (by decide), if_pos hlt])
        clear hO
        go_wp2
        refine bodyPost_ret (v := .tuple #[dv A s.length c B p.length k room T R, .int .i64 35]) (by simp only [results, Tryz.results32]; go_simp) rfl (apEnd_no ⟨hD.out.1, hD.out.2, HE.out, by decide⟩ hs hp ?_)
        exact (((((K3.out.setCell (by simp) _).setCell (by simp) _).setCell (by simp) _).setCell (by simp) _).setCell (by simp) _).alloc (by simp [World.setCell]; omega) _
      · have HE : Hid (apE s.length p.length room dead arm b.length = 0) := hide (by unfold apE; rw [hok, hO, if_neg (by decide), if_neg (by decide), if_neg hlt])
        clear hO
        go_wp2_with fail
        refine (rjoin_any B _ k D _ l p b _ ?c1 ?c2 (by omega) (by omega)).mono ?_
        case c1 => exact ((Reads.below hp K3.out).more (Nat.le_of_lt (by omega))).alloc (Nat.le_refl _) _ |>.more (by simp)
        case c2 => exact ((Reads.below hb K3.out).more (Nat.le_of_lt (by omega))).alloc (Nat.le_refl _) _ |>.more (by simp)
        rintro e w4 ⟨J, j, rfl, ho4, k4⟩
        have hQ4 := Blk.below (h := (hQ.alloc (.cells #[Value.slice A s.length c, .slice B p.length k, .int .i64 room, .bool T, .int .i64 R] 24))) (hb := k4) (by simp; omega)
        have hX4 := Blk.below (h := (Blk.new w3 24 #[Value.slice A s.length c, .slice B p.length k, .int .i64 room, .bool T, .int .i64 R])) (hb := k4) (by simp)
        have bel4 := hide (below_more (K3.out.alloc (by omega) (.cells #[Value.slice A s.length c, .slice B p.length k, .int .i64 room, .bool T, .int .i64 R] 24)) (Nat.le_refl _) k4)
        have hz4 := k4.size
        simp at hz4
        have HO4 := hide ho4
        clear ho4 k4 a0 a1 a2 a3 a4 f0 f1 f2 f3 f4
        obtain ⟨⟨a0, a1, a2, a3, a4⟩, f0, f1, f2, f3, f4⟩ := hQ4.five
        obtain ⟨⟨x0, x1, x2, x3, x4⟩, y0, y1, y2, y3, y4⟩ := hX4.five
        have hv1 : w3.heap.size < w4.heap.size := by omega
        have hv2 : w.heap.size + 1 < w4.heap.size := by omega
        go_wp2
        refine bodyPost_ret (v := .tuple #[dv A s.length c J (p.length + b.length) j room T R, .int .i64 0]) (by simp only [results, Tryz.results32]; go_simp) rfl ?_
        have belF := (((((bel4.out.setCell (p := ⟨w3.heap.size, 1, none⟩) (by simp; omega) (.slice J (p.length + b.length) j)).setCell (p := ⟨w.heap.size + 1, 0, none⟩) (by simp) (.slice A s.length c)).setCell (p := ⟨w.heap.size + 1, 1, none⟩) (by simp) (.slice J (p.length + b.length) j)).setCell (p := ⟨w.heap.size + 1, 2, none⟩) (by simp) (.int .i64 room)).setCell (p := ⟨w.heap.size + 1, 3, none⟩) (by simp) (.bool T)).setCell (p := ⟨w.heap.size + 1, 4, none⟩) (by simp) (.int .i64 R)
        have oF := own_far (own_far (own_far (own_far (own_far (own_far HO4.out (p := ⟨w3.heap.size, 1, none⟩) (by simp) (.slice J (p.length + b.length) j)) (p := ⟨w.heap.size + 1, 0, none⟩) (by simp; omega) (.slice A s.length c)) (p := ⟨w.heap.size + 1, 1, none⟩) (by simp; omega) (.slice J (p.length + b.length) j)) (p := ⟨w.heap.size + 1, 2, none⟩) (by simp; omega) (.int .i64 room)) (p := ⟨w.heap.size + 1, 3, none⟩) (by simp; omega) (.bool T)) (p := ⟨w.heap.size + 1, 4, none⟩) (by simp; omega) (.int .i64 R)
        refine ⟨A, s.length, c, J, p.length + b.length, j, by rw [hD.out.1, hD.out.2, HE.out], (Reads.below hs belF).more belF.size, ?_, belF⟩
        unfold apP
        rw [if_pos HE.out]
        exact Reads.of_own oF
end Go.Proofs.YtbbobffedgcbhaaGreatDoor.Dk
namespace Go.Proofs.YtbbobffedgcbhaaGreatDoor.Dk
open Go.RowKit
set_option linter.unusedVariables false

def syE (n m : Nat) (room : Int) (dead : Bool) (arm : Int) : Int := if okD n m room arm = false then 2 else if pwO dead arm = false then 42 else 0
def syS (s p : List UInt8) (E : Int) : List UInt8 := if E = 0 then s ++ p else s
def syP (p : List UInt8) (E : Int) : List UInt8 := if E = 0 then [] else p
def SyEnd (w : World) (s p : List UInt8) (room : Int) (dead : Bool) (arm : Int) (e : Ending) (w' : World) : Prop :=
  ∃ A n c B m k, e = .returned (.tuple #[dv A n c B m k room (apD s.length p.length room dead arm) (apA s.length p.length room dead arm), .int .i64 (syE s.length p.length room dead arm)]) ∧ Rd w' A n (syS s p (syE s.length p.length room dead arm)) ∧ Rd w' B m (syP p (syE s.length p.length room dead arm)) ∧ Below w.heap.size w w'
theorem syEnd_no {w w' : World} {A B : Option Addr} {c k : Nat} {s p : List UInt8} {room arm R E : Int} {dead T : Bool} (h : apD s.length p.length room dead arm = T ∧ apA s.length p.length room dead arm = R ∧ syE s.length p.length room dead arm = E ∧ E ≠ 0) (hs : Rd w A s.length s) (hp : Rd w B p.length p) (bel : Below w.heap.size w w') :
    SyEnd w s p room dead arm (.returned (.tuple #[dv A s.length c B p.length k room T R, .int .i64 E])) w' := by
  refine ⟨A, s.length, c, B, p.length, k, by rw [h.1, h.2.1, h.2.2.1], ?_, ?_, bel⟩
  · rw [h.2.2.1]; unfold syS; rw [if_neg h.2.2.2]; exact (Reads.below hs bel).more bel.size
  · rw [h.2.2.1]; unfold syP; rw [if_neg h.2.2.2]; exact (Reads.below hp bel).more bel.size

set_option maxHeartbeats 800000 in
theorem rsync_any (A : Option Addr) (c : Nat) (B : Option Addr) (k : Nat) (room : Int) (dead : Bool) (arm : Int) (s p : List UInt8) (w : World) (hs : Rd w A s.length s) (hp : Rd w B p.length p) (h1 : s.length ≤ 10000) (h2 : p.length ≤ 10000) (ha : arm ≤ 9223372036854775807) :
    Calls Tryz.prog 33 #[dv A s.length c B p.length k room dead arm] w (SyEnd w s p room dead arm) := by
  go_enter Tryz.func33, Tryz.ntmps33
  go_wp2_with fail
  refine (rcheck_any A _ c B _ k room dead arm _ (by omega) (by omega)).mono ?_
  rintro e w2 ⟨rfl, rfl⟩
  cases hok : okD s.length p.length room arm
  · have HE : Hid (apD s.length p.length room dead arm = dead ∧ apA s.length p.length room dead arm = arm ∧ syE s.length p.length room dead arm = 2 ∧ (2 : Int) ≠ 0) := hide (by unfold apD apA syE; rw [hok]; simp)
    go_wp2
    refine bodyPost_ret (v := .tuple #[dv A s.length c B p.length k room dead arm, .int .i64 2]) (by simp only [results, Tryz.results33]; go_simp) rfl (syEnd_no HE.out hs hp ?_)
    ((repeat (refine Below.alloc ?_ (by first | exact Nat.le_refl _ | (simp; done) | (simp; omega)) _)); exact Below.refl _ _)
  · have hbd : 0 ≤ room ∧ room ≤ 1048576 ∧ (s.length : Int) + p.length ≤ room ∧ -1 ≤ arm := by unfold okD at hok; exact of_decide_eq_true hok
    obtain ⟨q1, q2, q3, q4⟩ := hbd
    go_wp2_with fail
    refine (rpower_any A _ c B _ k room dead arm _ q4 ha).mono ?_
    rintro e w3 ⟨rfl, k3⟩
    have hQ := Blk.below (h := ((Blk.new (w.alloc (dC A s.length c B p.length k room dead arm)) 24 #[.slice none 0 0, .slice none 0 0, .int .i64 0, .bool false, .int .i64 0]).alloc (dC A s.length c B p.length k room dead arm))) (hb := k3) (by simp)
    simp only [World.size_alloc] at hQ
    have hz := k3.size
    simp at hz
    have bel3 : Below w.heap.size w w3 := Below.trans (b := ((w.alloc (dC A s.length c B p.length k room dead arm)).alloc (.cells #[.slice none 0 0, .slice none 0 0, .int .i64 0, .bool false, .int .i64 0] 24)).alloc (dC A s.length c B p.length k room dead arm)) (by ((repeat (refine Below.alloc ?_ (by first | exact Nat.le_refl _ | (simp; done) | (simp; omega)) _)); exact Below.refl _ _)) (k3.mono (by simp; omega))
    have K3 := hide bel3
    clear k3 bel3
    have hy : w.heap.size + 1 < w3.heap.size := by omega
    obtain ⟨⟨a0, a1, a2, a3, a4⟩, f0, f1, f2, f3, f4⟩ := hQ.five
    have hD : Hid (apD s.length p.length room dead arm = pwD dead arm ∧ apA s.length p.length room dead arm = pwA dead arm) := hide (by unfold apD apA; rw [hok]; simp)
    generalize hT : pwD dead arm = T at hD ⊢
    generalize hR : pwA dead arm = R at hD ⊢
    cases hO : pwO dead arm
    · have HE : Hid (syE s.length p.length room dead arm = 42) := hide (by unfold syE; rw [hok, hO]; simp)
      clear hT hR hO
      go_wp2
      refine bodyPost_ret (v := .tuple #[dv A s.length c B p.length k room T R, .int .i64 42]) (by simp only [results, Tryz.results33]; go_simp) rfl (syEnd_no ⟨hD.out.1, hD.out.2, HE.out, by decide⟩ hs hp ?_)
      exact (((((K3.out.setCell (by simp) _).setCell (by simp) _).setCell (by simp) _).setCell (by simp) _).setCell (by simp) _).alloc (by simp [World.setCell]; omega) _
    · clear hT hR
      have HE : Hid (syE s.length p.length room dead arm = 0) := hide (by unfold syE; rw [hok, hO, if_neg (by decide), if_neg (by decide)])
      clear hO
      go_wp2_with fail
      refine (rjoin_any A _ c B _ k s p _ ?c1 ?c2 (by omega) (by omega)).mono ?_
      case c1 => exact ((Reads.below hs K3.out).more (Nat.le_of_lt (by omega))).alloc (Nat.le_refl _) _ |>.more (by simp)
      case c2 => exact ((Reads.below hp K3.out).more (Nat.le_of_lt (by omega))).alloc (Nat.le_refl _) _ |>.more (by simp)
      rintro e w4 ⟨J, j, rfl, ho4, k4⟩
      have hQ4 := Blk.below (h := (hQ.alloc (.cells #[Value.slice A s.length c, .slice B p.length k, .int .i64 room, .bool T, .int .i64 R] 24))) (hb := k4) (by simp; omega)
      have hX4 := Blk.below (h := (Blk.new w3 24 #[Value.slice A s.length c, .slice B p.length k, .int .i64 room, .bool T, .int .i64 R])) (hb := k4) (by simp)
      have bel4 := hide (below_more (K3.out.alloc (by omega) (.cells #[Value.slice A s.length c, .slice B p.length k, .int .i64 room, .bool T, .int .i64 R] 24)) (Nat.le_refl _) k4)
      have hz4 := k4.size
      simp at hz4
      have HO4 := hide ho4
      clear ho4 k4 a0 a1 a2 a3 a4 f0 f1 f2 f3 f4
      obtain ⟨⟨a0, a1, a2, a3, a4⟩, f0, f1, f2, f3, f4⟩ := hQ4.five
      obtain ⟨⟨x0, x1, x2, x3, x4⟩, y0, y1, y2, y3, y4⟩ := hX4.five
      have hv1 : w3.heap.size < w4.heap.size := by omega
      have hv2 : w.heap.size + 1 < w4.heap.size := by omega
      go_wp2
      refine bodyPost_ret (v := .tuple #[dv J (s.length + p.length) j none 0 0 room T R, .int .i64 0]) (by simp only [results, Tryz.results33]; go_simp) rfl ?_
      have belF := (((((((bel4.out.setCell (p := ⟨w3.heap.size, 0, none⟩) (by first | (simp; done) | (simp; omega)) (.slice J (s.length + p.length) j)).setCell (p := ⟨w3.heap.size, 1, none⟩) (by first | (simp; done) | (simp; omega)) (.slice none 0 0)).setCell (p := ⟨w.heap.size + 1, 0, none⟩) (by first | (simp; done) | (simp; omega)) (.slice J (s.length + p.length) j)).setCell (p := ⟨w.heap.size + 1, 1, none⟩) (by first | (simp; done) | (simp; omega)) (.slice none 0 0)).setCell (p := ⟨w.heap.size + 1, 2, none⟩) (by first | (simp; done) | (simp; omega)) (.int .i64 room)).setCell (p := ⟨w.heap.size + 1, 3, none⟩) (by first | (simp; done) | (simp; omega)) (.bool T)).setCell (p := ⟨w.heap.size + 1, 4, none⟩) (by first | (simp; done) | (simp; omega)) (.int .i64 R))
      have oF := (own_far (own_far (own_far (own_far (own_far (own_far (own_far HO4.out (p := ⟨w3.heap.size, 0, none⟩) (by first | (simp; done) | (simp; omega)) (.slice J (s.length + p.length) j)) (p := ⟨w3.heap.size, 1, none⟩) (by first | (simp; done) | (simp; omega)) (.slice none 0 0)) (p := ⟨w.heap.size + 1, 0, none⟩) (by first | (simp; done) | (simp; omega)) (.slice J (s.length + p.length) j)) (p := ⟨w.heap.size + 1, 1, none⟩) (by first | (simp; done) | (simp; omega)) (.slice none 0 0)) (p := ⟨w.heap.size + 1, 2, none⟩) (by first | (simp; done) | (simp; omega)) (.int .i64 room)) (p := ⟨w.heap.size + 1, 3, none⟩) (by first | (simp; done) | (simp; omega)) (.bool T)) (p := ⟨w.heap.size + 1, 4, none⟩) (by first | (simp; done) | (simp; omega)) (.int .i64 R))
      refine ⟨J, s.length + p.length, j, none, 0, 0, by rw [hD.out.1, hD.out.2, HE.out], ?_, ?_, belF⟩
      · rw [HE.out]; exact Reads.of_own oF
      · rw [HE.out]; exact Reads.none_
end Go.Proofs.YtbbobffedgcbhaaGreatDoor.Dk
namespace Go.Proofs.YtbbobffedgcbhaaGreatDoor.Dk
open Go.RowKit
set_option linter.unusedVariables false

/-- A row of bytes that was made at or above B. -/
def Rc (B : Nat) (w : World) (A : Option Addr) (n c : Nat) (bs : List UInt8) : Prop := w.ownsRow B 5 1 (.slice A n c) n (bv bs)
theorem rc_of_own {B : Nat} {w : World} {base : Nat} {A : Option Addr} {n c : Nat} {bs : List UInt8} (h : w.ownsRow base 5 1 (.slice A n c) n (bv bs)) (hB : B ≤ base := by omega) : Rc B w A n c bs := own_more h hB
theorem Rc.rd {B : Nat} {w : World} {A : Option Addr} {n c : Nat} {bs : List UInt8} (h : Rc B w A n c bs) : Rd w A n bs := Reads.of_own h
theorem Rc.caps {B : Nat} {w : World} {A : Option Addr} {n c : Nat} {bs : List UInt8} (h : Rc B w A n c bs) : n ≤ c ∧ c ≤ maxLen := by
  rcases h.2 with ⟨hv, h0⟩ | ⟨g, cap, cur, hv, _, _, h1, h2, _⟩
  · injection hv with e1 e2 e3; subst e3; subst h0; exact ⟨Nat.le_refl _, Nat.zero_le _⟩
  · injection hv with e1 e2 e3; subst e3; exact ⟨h1, h2⟩
theorem Rc.below {B : Nat} {w w' : World} {A : Option Addr} {n c : Nat} {bs : List UInt8} (h : Rc B w A n c bs) (hb : Below w.heap.size w w') : Rc B w' A n c bs := own_below h hb
theorem Rc.far {B : Nat} {w : World} {A : Option Addr} {n c : Nat} {bs : List UInt8} (h : Rc B w A n c bs) {p : Addr} (hp : p.block < B) (u : Value) : Rc B (w.setCell p u) A n c bs := own_far h hp u
theorem Rc.set_ {B : Nat} {w : World} {A : Option Addr} {n c : Nat} {bs : List UInt8} (h : Rc B w A n c bs) {p : Addr} {t : TypeId} {cs : Array Value} (hg : Blk w p.block t cs) (hne : 5 ≠ t) (u : Value) : Rc B (w.setCell p u) A n c bs := own_set_blk h hg hne u
theorem Rc.alloc {B : Nat} {w : World} {A : Option Addr} {n c : Nat} {bs : List UInt8} (h : Rc B w A n c bs) (o : Obj) : Rc B (w.alloc o) A n c bs := World.ownsRow.alloc h o
theorem Rc.more {B C : Nat} {w : World} {A : Option Addr} {n c : Nat} {bs : List UInt8} (h : Rc B w A n c bs) (hB : C ≤ B) : Rc C w A n c bs := own_more h hB
theorem Rc.none_ (B : Nat) (w : World) : Rc B w none 0 0 [] := World.ownsRow_nil _ _ _ _

set_option maxHeartbeats 800000 in
theorem opA_any (A : Option Addr) (n c : Nat) (B : Option Addr) (m k : Nat) (room : Int) (dead : Bool) (arm : Int) (s p b : List UInt8) (g : Nat) (D : Option Addr) (q l : Nat) (w : World) (hs : Rd w A n s) (hp : Rd w B m p) (hb : Rd w D q b) (hg : Blk w g 22 #[.slice D q l])
    (h1 : n ≤ 1000000) (h2 : m ≤ 1000000) (h3 : q ≤ 1000000) :
    Calls Tryz.prog 72 #[dv A n c B m k room dead arm, .pointer (some ⟨g, 0, none⟩)] w fun e w' => Below w.heap.size w w' ∧
      ((room < (n : Int) + m + q ∧ e = .returned (.tuple #[dv A n c B m k room dead arm, .int .i64 35])) ∨
       ((n : Int) + m + q ≤ room ∧ ∃ J j, e = .returned (.tuple #[dv A n c J (m + q) j room dead arm, .int .i64 0]) ∧ Rc w.heap.size w' J (m + q) j (p ++ b))) := by
  have zg := hg.lt
  have g0 := hg.cell 0
  have g1 := hg.frozen 0
  simp only [List.getElem?_toArray, List.getElem?_cons_zero] at g0
  by_cases hlt : room < (n : Int) + m + q
  · go_enter Tryz.func72, Tryz.ntmps72
    go_wp2
    refine bodyPost_ret (v := .tuple #[dv A n c B m k room dead arm, .int .i64 35]) (by simp only [results, Tryz.results72]; go_simp) rfl ⟨?_, Or.inl ⟨hlt, rfl⟩⟩
    ((repeat (refine Below.alloc ?_ (by first | exact Nat.le_refl _ | (simp; done) | (simp; omega)) _)); exact Below.refl _ _)
  · have hle : (n : Int) + m + q ≤ room := by omega
    go_enter Tryz.func72, Tryz.ntmps72
    go_wp2_with fail
    refine (joined_any B m k D q l p b _ ?c1 ?c2 (by omega) (by omega)).mono ?_
    case c1 => exact ((hp.alloc (Nat.le_refl _) _).alloc (by simp) _).more (by simp; omega)
    case c2 => exact ((hb.alloc (Nat.le_refl _) _).alloc (by simp) _).more (by simp; omega)
    rintro e w1 ⟨J, j, rfl, ho, k1⟩
    have hP := Blk.below (h := (Blk.new w 24 #[Value.slice A n c, .slice B m k, .int .i64 room, .bool dead, .int .i64 arm]).alloc (.cells #[.slice none 0 0, .slice none 0 0, .int .i64 0, .bool false, .int .i64 0] 24)) (hb := k1) (by simp; omega)
    have hQ := Blk.below (h := (Blk.new (w.alloc (dC A n c B m k room dead arm)) 24 #[.slice none 0 0, .slice none 0 0, .int .i64 0, .bool false, .int .i64 0])) (hb := k1) (by simp)
    rw [World.size_alloc] at hQ
    have bel := hide (below_more (((Below.refl w.heap.size w).alloc (Nat.le_refl _) (dC A n c B m k room dead arm)).alloc (by simp) (.cells #[.slice none 0 0, .slice none 0 0, .int .i64 0, .bool false, .int .i64 0] 24)) (Nat.le_refl _) k1)
    have hO := hide ho
    have hz := k1.size
    simp at hz
    clear ho k1 g0 g1
    obtain ⟨⟨a0, a1, a2, a3, a4⟩, f0, f1, f2, f3, f4⟩ := hP.five
    obtain ⟨⟨x0, x1, x2, x3, x4⟩, y0, y1, y2, y3, y4⟩ := hQ.five
    have hy0 : w.heap.size < w1.heap.size := by omega
    have hy1 : w.heap.size + 1 < w1.heap.size := by omega
    go_wp2
    refine bodyPost_ret (v := .tuple #[dv A n c J (m + q) j room dead arm, .int .i64 0]) (by simp only [results, Tryz.results72]; go_simp) rfl ⟨?_, Or.inr ⟨hle, J, j, rfl, ?_⟩⟩
    · exact (((((bel.out.setCell (by simp) _).setCell (by simp) _).setCell (by simp) _).setCell (by simp) _).setCell (by simp) _).setCell (by simp) _
    · have o1 : Rc (w.heap.size + 2) w1 J (m + q) j (p ++ b) := rc_of_own hO.out (by simp)
      exact ((((((o1.far (by simp) _).far (by simp) _).far (by simp) _).far (by simp) _).far (by simp) _).far (by simp) _).more (by omega)

set_option maxHeartbeats 800000 in
theorem opS_any (A : Option Addr) (n c : Nat) (B : Option Addr) (m k : Nat) (room : Int) (dead : Bool) (arm : Int) (s p : List UInt8) (w : World) (hs : Rd w A n s) (hp : Rd w B m p)
    (h1 : n ≤ 1000000) (h2 : m ≤ 1000000) :
    Calls Tryz.prog 73 #[dv A n c B m k room dead arm] w fun e w' => Below w.heap.size w w' ∧
      ∃ J j, e = .returned (.tuple #[dv J (n + m) j none 0 0 room dead arm, .int .i64 0]) ∧ Rc w.heap.size w' J (n + m) j (s ++ p) := by
  go_enter Tryz.func73, Tryz.ntmps73
  go_wp2_with fail
  refine (joined_any A n c B m k s p _ ?c1 ?c2 (by omega) (by omega)).mono ?_
  case c1 => exact ((hs.alloc (Nat.le_refl _) _).alloc (by simp) _).more (by simp; omega)
  case c2 => exact ((hp.alloc (Nat.le_refl _) _).alloc (by simp) _).more (by simp; omega)
  rintro e w1 ⟨J, j, rfl, ho, k1⟩
  have hP := Blk.below (h := (Blk.new w 24 #[Value.slice A n c, .slice B m k, .int .i64 room, .bool dead, .int .i64 arm]).alloc (.cells #[.slice none 0 0, .slice none 0 0, .int .i64 0, .bool false, .int .i64 0] 24)) (hb := k1) (by simp; omega)
  have hQ := Blk.below (h := (Blk.new (w.alloc (dC A n c B m k room dead arm)) 24 #[.slice none 0 0, .slice none 0 0, .int .i64 0, .bool false, .int .i64 0])) (hb := k1) (by simp)
  rw [World.size_alloc] at hQ
  have bel := hide (below_more (((Below.refl w.heap.size w).alloc (Nat.le_refl _) (dC A n c B m k room dead arm)).alloc (by simp) (.cells #[.slice none 0 0, .slice none 0 0, .int .i64 0, .bool false, .int .i64 0] 24)) (Nat.le_refl _) k1)
  have hO := hide ho
  have hz := k1.size
  simp at hz
  clear ho k1
  obtain ⟨⟨a0, a1, a2, a3, a4⟩, f0, f1, f2, f3, f4⟩ := hP.five
  obtain ⟨⟨x0, x1, x2, x3, x4⟩, y0, y1, y2, y3, y4⟩ := hQ.five
  have hy0 : w.heap.size < w1.heap.size := by omega
  have hy1 : w.heap.size + 1 < w1.heap.size := by omega
  go_wp2
  refine bodyPost_ret (v := .tuple #[dv J (n + m) j none 0 0 room dead arm, .int .i64 0]) (by simp only [results, Tryz.results73]; go_simp) rfl ⟨?_, J, j, rfl, ?_⟩
  · exact ((((((bel.out.setCell (by simp) _).setCell (by simp) _).setCell (by simp) _).setCell (by simp) _).setCell (by simp) _).setCell (by simp) _).setCell (by simp) _
  · have o1 : Rc (w.heap.size + 2) w1 J (n + m) j (s ++ p) := rc_of_own hO.out (by simp)
    exact (((((((o1.far (by simp) _).far (by simp) _).far (by simp) _).far (by simp) _).far (by simp) _).far (by simp) _).far (by simp) _).more (by omega)
end Go.Proofs.YtbbobffedgcbhaaGreatDoor.Dk
namespace Go.Proofs.YtbbobffedgcbhaaGreatDoor.Dk
open Go.RowKit
set_option linter.unusedVariables false

/-- A disk, and an error, come back in memory of their own. -/
def DEnd (w : World) (room : Int) (D : Bool) (R E : Int) (S P : List UInt8) (e : Ending) (w' : World) : Prop :=
  ∃ A n c B m k, e = .returned (.tuple #[dv A n c B m k room D R, .int .i64 E]) ∧ Rc w.heap.size w' A n c S ∧ Rc w.heap.size w' B m k P ∧ Below w.heap.size w w'

set_option maxHeartbeats 4000000 in
theorem powA_any (A : Option Addr) (c : Nat) (B : Option Addr) (k : Nat) (room : Int) (dead : Bool) (arm : Int) (s p : List UInt8) (w : World) (hs : Rd w A s.length s) (hp : Rd w B p.length p) (h1 : s.length ≤ 10000) (h2 : p.length ≤ 10000) (ha : arm ≤ 9223372036854775807) (b : List UInt8) (g : Nat) (D : Option Addr) (l : Nat) (hb : Rd w D b.length b) (hg : Blk w g 22 #[.slice D b.length l]) (h3 : b.length ≤ 10000) :
    Calls Tryz.prog 71 #[dv A s.length c B p.length k room dead arm, (.func (Fn.func 72) #[] #[.pointer (some ⟨g, 0, none⟩)])] w (DEnd w room (apD s.length p.length room dead arm) (apA s.length p.length room dead arm) (apE s.length p.length room dead arm b.length) s (apP s.length p.length p room dead arm b)) := by
  have OUT : ∀ (T : Bool) (Q E' : Int) (S' P' : List UInt8), (apD s.length p.length room dead arm) = T ∧ (apA s.length p.length room dead arm) = Q ∧ (apE s.length p.length room dead arm b.length) = E' ∧ (apP s.length p.length p room dead arm b) = P' → ∀ e w', DEnd w room T Q E' s P' e w' → DEnd w room (apD s.length p.length room dead arm) (apA s.length p.length room dead arm) (apE s.length p.length room dead arm b.length) s (apP s.length p.length p room dead arm b) e w' := by
    rintro T Q E' S' P' ⟨e1, e2, e3, e5⟩ e w' h
    rw [e1, e2, e3, e5]; exact h
  go_enter Tryz.func71, Tryz.ntmps71
  go_wp2_with fail
  refine (cdisk_any A _ c B _ k room dead arm s p _ (((hs.alloc (Nat.le_refl _) _).alloc (by simp) _).more (by simp; omega)) (((hp.alloc (Nat.le_refl _) _).alloc (by simp) _).more (by simp; omega)) (by omega) (by omega)).mono ?_
  rintro e w2 ⟨A', c', B', k', rfl, hoA, hoB, kk⟩
  have hP := Blk.below (h := (Blk.new w 24 #[Value.slice A s.length c, .slice B p.length k, .int .i64 room, .bool dead, .int .i64 arm]).alloc (.cells #[.slice none 0 0, .slice none 0 0, .int .i64 0, .bool false, .int .i64 0] 24)) (hb := kk) (by simp; omega)
  have hQ := Blk.below (h := (Blk.new (w.alloc (dC A s.length c B p.length k room dead arm)) 24 #[.slice none 0 0, .slice none 0 0, .int .i64 0, .bool false, .int .i64 0])) (hb := kk) (by simp)
  rw [World.size_alloc] at hQ
  have bel := hide (below_more (((Below.refl w.heap.size w).alloc (Nat.le_refl _) (dC A s.length c B p.length k room dead arm)).alloc (by simp) (.cells #[.slice none 0 0, .slice none 0 0, .int .i64 0, .bool false, .int .i64 0] 24)) (Nat.le_refl _) kk)
  have OA : Hid (Rc (w.heap.size + 2) w2 A' s.length c' s) := hide (rc_of_own hoA (by simp))
  have OB : Hid (Rc (w.heap.size + 2) w2 B' p.length k' p) := hide (rc_of_own hoB (by simp))
  have hz := kk.size
  simp at hz
  clear hoA hoB kk
  have HP := hide hP
  have HQ := hide hQ
  obtain ⟨⟨a0, a1, a2, a3, a4⟩, f0, f1, f2, f3, f4⟩ := hP.five
  obtain ⟨⟨x0, x1, x2, x3, x4⟩, y0, y1, y2, y3, y4⟩ := hQ.five
  clear hP hQ
  have hy0 : w.heap.size < w2.heap.size := by omega
  have hy1 : w.heap.size + 1 < w2.heap.size := by omega
  go_wp2_with fail
  refine (check_any A _ c B _ k room dead arm _ (by omega) (by omega)).mono ?_
  rintro e w3 ⟨rfl, rfl⟩
  cases hok : okD s.length p.length room arm
  · have HE : Hid ((apD s.length p.length room dead arm) = dead ∧ (apA s.length p.length room dead arm) = arm ∧ (apE s.length p.length room dead arm b.length) = 2 ∧ (apP s.length p.length p room dead arm b) = p) := hide (by unfold apP apD apA apE; rw [hok]; simp)
    clear hok
    go_wp2
    refine bodyPost_ret (v := .tuple #[dv A' s.length c' B' p.length k' room dead arm, .int .i64 2]) (by simp only [results, Tryz.results71]; go_simp) rfl (OUT _ _ _ [] _ HE.out _ _ ⟨A', _, c', B', _, k', rfl, ?_, ?_, ?_⟩)
    · exact (((((((OA.out.far (by simp) _).far (by simp) _).far (by simp) _).far (by simp) _).far (by simp) _).alloc _).alloc _).more (by omega)
    · exact (((((((OB.out.far (by simp) _).far (by simp) _).far (by simp) _).far (by simp) _).far (by simp) _).alloc _).alloc _).more (by omega)
    · exact ((((((bel.out.setCell (by simp) _).setCell (by simp) _).setCell (by simp) _).setCell (by simp) _).setCell (by simp) _).alloc (by simp [World.setCell]; omega) _).alloc (by simp [World.setCell]; omega) _
  cases hd : dead
  rotate_left
  · have HE : Hid ((apD s.length p.length room dead arm) = true ∧ (apA s.length p.length room dead arm) = arm ∧ (apE s.length p.length room dead arm b.length) = 42 ∧ (apP s.length p.length p room dead arm b) = p) := hide (by unfold apP apD apA apE pwO pwD pwA; rw [hok, hd]; simp)
    clear hok
    subst hd
    go_wp2
    refine bodyPost_ret (v := .tuple #[dv A' s.length c' B' p.length k' room true arm, .int .i64 42]) (by simp only [results, Tryz.results71]; go_simp) rfl (OUT _ _ _ [] _ HE.out _ _ ⟨A', _, c', B', _, k', rfl, ?_, ?_, ?_⟩)
    · exact (((((((OA.out.far (by simp) _).far (by simp) _).far (by simp) _).far (by simp) _).far (by simp) _).alloc _).alloc _).more (by omega)
    · exact (((((((OB.out.far (by simp) _).far (by simp) _).far (by simp) _).far (by simp) _).far (by simp) _).alloc _).alloc _).more (by omega)
    · exact ((((((bel.out.setCell (by simp) _).setCell (by simp) _).setCell (by simp) _).setCell (by simp) _).setCell (by simp) _).alloc (by simp [World.setCell]; omega) _).alloc (by simp [World.setCell]; omega) _
  have harm : -1 ≤ arm := by unfold okD at hok; exact (of_decide_eq_true hok).2.2.2
  by_cases h0 : arm = 0
  · have HE : Hid ((apD s.length p.length room dead arm) = true ∧ (apA s.length p.length room dead arm) = 0 ∧ (apE s.length p.length room dead arm b.length) = 42 ∧ (apP s.length p.length p room dead arm b) = p) := hide (by unfold apP apD apA apE pwO pwD pwA; rw [hok, hd, h0]; simp)
    clear hok harm
    subst hd
    subst h0
    go_wp2
    refine bodyPost_ret (v := .tuple #[dv A' s.length c' B' p.length k' room true 0, .int .i64 42]) (by simp only [results, Tryz.results71]; go_simp) rfl (OUT _ _ _ [] _ HE.out _ _ ⟨A', _, c', B', _, k', rfl, ?_, ?_, ?_⟩)
    · exact (((((((OA.out.far (by simp) _).far (by simp) _).far (by simp) _).far (by simp) _).far (by simp) _).alloc _).alloc _).more (by omega)
    · exact (((((((OB.out.far (by simp) _).far (by simp) _).far (by simp) _).far (by simp) _).far (by simp) _).alloc _).alloc _).more (by omega)
    · exact ((((((bel.out.setCell (by simp) _).setCell (by simp) _).setCell (by simp) _).setCell (by simp) _).setCell (by simp) _).alloc (by simp [World.setCell]; omega) _).alloc (by simp [World.setCell]; omega) _
  have h0b : (arm == 0) = false := beq_eq_false_iff_ne.2 h0
  by_cases hpos : 0 < arm
  · have HD : Hid ((apD s.length p.length room dead arm) = false ∧ (apA s.length p.length room dead arm) = (arm - 1)) := hide (by unfold apD apA pwD pwA; rw [hok, hd, h0b]; simp [hpos])
    have HOK := hide hok
    have HPW : Hid (pwO dead arm = true) := hide (by unfold pwO; rw [hd, h0b]; rfl)
    have HDD := hide hd
    clear hok
    rw [HDD.out] at a3
    subst hd
    have hXA : Rc (w.heap.size + 2) ((w2.alloc (dC A' s.length c' B' p.length k' room false (arm - 1))).alloc (dC A s.length c B p.length k room false arm)) A' s.length c' s := ((OA.out.alloc (dC A' s.length c' B' p.length k' room false (arm - 1))).alloc (dC A s.length c B p.length k room false arm))
    have hXB : Rc (w.heap.size + 2) ((w2.alloc (dC A' s.length c' B' p.length k' room false (arm - 1))).alloc (dC A s.length c B p.length k room false arm)) B' p.length k' p := ((OB.out.alloc (dC A' s.length c' B' p.length k' room false (arm - 1))).alloc (dC A s.length c B p.length k room false arm))
    have hXW : Below w.heap.size w ((w2.alloc (dC A' s.length c' B' p.length k' room false (arm - 1))).alloc (dC A s.length c B p.length k room false arm)) := (bel.out.alloc (by omega) (dC A' s.length c' B' p.length k' room false (arm - 1))).alloc (by simp; omega) (dC A s.length c B p.length k room false arm)
    have hXQ : Blk ((w2.alloc (dC A' s.length c' B' p.length k' room false (arm - 1))).alloc (dC A s.length c B p.length k room false arm)) (w.heap.size + 1) 24 #[.slice none 0 0, .slice none 0 0, .int .i64 0, .bool false, .int .i64 0] := (HQ.out.alloc (dC A' s.length c' B' p.length k' room false (arm - 1))).alloc (dC A s.length c B p.length k room false arm)
    have HXA := hide hXA
    have HXB := hide hXB
    have HXW := hide hXW
    have HXQ := hide hXQ
    clear hXA hXB hXW hXQ
    go_wp2_with fail
    refine (opA_any A' _ c' B' _ k' room false (arm - 1) s p b g D _ l _ HXA.out.rd HXB.out.rd ((Reads.below hb HXW.out).more HXW.out.size) (hg.below HXW.out hg.lt) (by omega) (by omega) (by omega)).mono ?_
    rintro e w5 ⟨k5, ⟨hlt, rfl⟩ | ⟨hle, J, j, rfl, o5⟩⟩
    · have HE : Hid ((apD s.length p.length room false arm) = false ∧ (apA s.length p.length room false arm) = (arm - 1) ∧ (apE s.length p.length room false arm b.length) = 35 ∧ (apP s.length p.length p room false arm b) = p) := hide ⟨HD.out.1, HD.out.2, (by unfold apE; rw [HOK.out, HPW.out, if_neg (by decide), if_neg (by decide), if_pos hlt]), (by unfold apP; rw [if_neg (by unfold apE; rw [HOK.out, HPW.out, if_neg (by decide), if_neg (by decide), if_pos hlt]; decide)])⟩
      have hQ5 := HXQ.out.below k5 HXQ.out.lt
      have bel5 := hide (below_more HXW.out (Nat.le_refl _) k5)
      have z5 := k5.size
      simp at z5
      have OA5 := hide ((HXA.out.below k5 : Rc (w.heap.size + 2) w5 _ _ _ _))
      have OB5 := hide ((HXB.out.below k5 : Rc (w.heap.size + 2) w5 _ _ _ _))
      clear k5  a0 a1 a2 a3 a4 f0 f1 f2 f3 f4 x0 x1 x2 x3 x4 y0 y1 y2 y3 y4
      obtain ⟨⟨x0, x1, x2, x3, x4⟩, y0, y1, y2, y3, y4⟩ := hQ5.five
      clear hQ5
      have hz5 : w.heap.size + 1 < w5.heap.size := by omega
      go_wp2
      refine bodyPost_ret (v := .tuple #[dv A' s.length c' B' p.length k' room false (arm - 1), .int .i64 35]) (by simp only [results, Tryz.results71]; go_simp) rfl (OUT _ _ _ [] _ HE.out _ _ ⟨A', _, c', B', _, k', rfl, ?_, ?_, ?_⟩)
      · exact (((((OA5.out.far (by simp) _).far (by simp) _).far (by simp) _).far (by simp) _).far (by simp) _).more (by omega)
      · exact (((((OB5.out.far (by simp) _).far (by simp) _).far (by simp) _).far (by simp) _).far (by simp) _).more (by omega)
      · exact ((((bel5.out.setCell (by simp) _).setCell (by simp) _).setCell (by simp) _).setCell (by simp) _).setCell (by simp) _
    · have HE : Hid ((apD s.length p.length room false arm) = false ∧ (apA s.length p.length room false arm) = (arm - 1) ∧ (apE s.length p.length room false arm b.length) = 0 ∧ (apP s.length p.length p room false arm b) = (p ++ b)) := hide ⟨HD.out.1, HD.out.2, (by unfold apE; rw [HOK.out, HPW.out, if_neg (by decide), if_neg (by decide), if_neg (by omega)]), (by unfold apP; rw [if_pos (by unfold apE; rw [HOK.out, HPW.out, if_neg (by decide), if_neg (by decide), if_neg (by omega)])])⟩
      have hQ5 := HXQ.out.below k5 HXQ.out.lt
      have bel5 := hide (below_more HXW.out (Nat.le_refl _) k5)
      have z5 := k5.size
      simp at z5
      have OA5 := hide ((HXA.out.below k5 : Rc (w.heap.size + 2) w5 _ _ _ _))
      have OB5 := hide ((o5.more (by simp; omega) : Rc (w.heap.size + 2) w5 _ _ _ _))
      clear k5 o5 a0 a1 a2 a3 a4 f0 f1 f2 f3 f4 x0 x1 x2 x3 x4 y0 y1 y2 y3 y4
      obtain ⟨⟨x0, x1, x2, x3, x4⟩, y0, y1, y2, y3, y4⟩ := hQ5.five
      clear hQ5
      have hz5 : w.heap.size + 1 < w5.heap.size := by omega
      go_wp2
      refine bodyPost_ret (v := .tuple #[dv A' s.length c' J (p.length + b.length) j room false (arm - 1), .int .i64 0]) (by simp only [results, Tryz.results71]; go_simp) rfl (OUT _ _ _ [] _ HE.out _ _ ⟨A', _, c', J, _, j, rfl, ?_, ?_, ?_⟩)
      · exact (((((OA5.out.far (by simp) _).far (by simp) _).far (by simp) _).far (by simp) _).far (by simp) _).more (by omega)
      · exact (((((OB5.out.far (by simp) _).far (by simp) _).far (by simp) _).far (by simp) _).far (by simp) _).more (by omega)
      · exact ((((bel5.out.setCell (by simp) _).setCell (by simp) _).setCell (by simp) _).setCell (by simp) _).setCell (by simp) _
  · have HD : Hid ((apD s.length p.length room dead arm) = false ∧ (apA s.length p.length room dead arm) = arm) := hide (by unfold apD apA pwD pwA; rw [hok, hd, h0b]; simp [hpos])
    have HOK := hide hok
    have HPW : Hid (pwO dead arm = true) := hide (by unfold pwO; rw [hd, h0b]; rfl)
    have HDD := hide hd
    clear hok
    have hneg : arm < 0 := by omega
    rw [HDD.out] at a3
    subst hd
    have hXA : Rc (w.heap.size + 2) ((w2.alloc (dC A' s.length c' B' p.length k' room false arm)).alloc (dC A s.length c B p.length k room false arm)) A' s.length c' s := ((OA.out.alloc (dC A' s.length c' B' p.length k' room false arm)).alloc (dC A s.length c B p.length k room false arm))
    have hXB : Rc (w.heap.size + 2) ((w2.alloc (dC A' s.length c' B' p.length k' room false arm)).alloc (dC A s.length c B p.length k room false arm)) B' p.length k' p := ((OB.out.alloc (dC A' s.length c' B' p.length k' room false arm)).alloc (dC A s.length c B p.length k room false arm))
    have hXW : Below w.heap.size w ((w2.alloc (dC A' s.length c' B' p.length k' room false arm)).alloc (dC A s.length c B p.length k room false arm)) := (bel.out.alloc (by omega) (dC A' s.length c' B' p.length k' room false arm)).alloc (by simp; omega) (dC A s.length c B p.length k room false arm)
    have hXQ : Blk ((w2.alloc (dC A' s.length c' B' p.length k' room false arm)).alloc (dC A s.length c B p.length k room false arm)) (w.heap.size + 1) 24 #[.slice none 0 0, .slice none 0 0, .int .i64 0, .bool false, .int .i64 0] := (HQ.out.alloc (dC A' s.length c' B' p.length k' room false arm)).alloc (dC A s.length c B p.length k room false arm)
    have HXA := hide hXA
    have HXB := hide hXB
    have HXW := hide hXW
    have HXQ := hide hXQ
    clear hXA hXB hXW hXQ
    go_wp2_with fail
    refine (opA_any A' _ c' B' _ k' room false arm s p b g D _ l _ HXA.out.rd HXB.out.rd ((Reads.below hb HXW.out).more HXW.out.size) (hg.below HXW.out hg.lt) (by omega) (by omega) (by omega)).mono ?_
    rintro e w5 ⟨k5, ⟨hlt, rfl⟩ | ⟨hle, J, j, rfl, o5⟩⟩
    · have HE : Hid ((apD s.length p.length room false arm) = false ∧ (apA s.length p.length room false arm) = arm ∧ (apE s.length p.length room false arm b.length) = 35 ∧ (apP s.length p.length p room false arm b) = p) := hide ⟨HD.out.1, HD.out.2, (by unfold apE; rw [HOK.out, HPW.out, if_neg (by decide), if_neg (by decide), if_pos hlt]), (by unfold apP; rw [if_neg (by unfold apE; rw [HOK.out, HPW.out, if_neg (by decide), if_neg (by decide), if_pos hlt]; decide)])⟩
      have hQ5 := HXQ.out.below k5 HXQ.out.lt
      have bel5 := hide (below_more HXW.out (Nat.le_refl _) k5)
      have z5 := k5.size
      simp at z5
      have OA5 := hide ((HXA.out.below k5 : Rc (w.heap.size + 2) w5 _ _ _ _))
      have OB5 := hide ((HXB.out.below k5 : Rc (w.heap.size + 2) w5 _ _ _ _))
      clear k5  a0 a1 a2 a3 a4 f0 f1 f2 f3 f4 x0 x1 x2 x3 x4 y0 y1 y2 y3 y4
      obtain ⟨⟨x0, x1, x2, x3, x4⟩, y0, y1, y2, y3, y4⟩ := hQ5.five
      clear hQ5
      have hz5 : w.heap.size + 1 < w5.heap.size := by omega
      go_wp2
      refine bodyPost_ret (v := .tuple #[dv A' s.length c' B' p.length k' room false arm, .int .i64 35]) (by simp only [results, Tryz.results71]; go_simp) rfl (OUT _ _ _ [] _ HE.out _ _ ⟨A', _, c', B', _, k', rfl, ?_, ?_, ?_⟩)
      · exact (((((OA5.out.far (by simp) _).far (by simp) _).far (by simp) _).far (by simp) _).far (by simp) _).more (by omega)
      · exact (((((OB5.out.far (by simp) _).far (by simp) _).far (by simp) _).far (by simp) _).far (by simp) _).more (by omega)
      · exact ((((bel5.out.setCell (by simp) _).setCell (by simp) _).setCell (by simp) _).setCell (by simp) _).setCell (by simp) _
    · have HE : Hid ((apD s.length p.length room false arm) = false ∧ (apA s.length p.length room false arm) = arm ∧ (apE s.length p.length room false arm b.length) = 0 ∧ (apP s.length p.length p room false arm b) = (p ++ b)) := hide ⟨HD.out.1, HD.out.2, (by unfold apE; rw [HOK.out, HPW.out, if_neg (by decide), if_neg (by decide), if_neg (by omega)]), (by unfold apP; rw [if_pos (by unfold apE; rw [HOK.out, HPW.out, if_neg (by decide), if_neg (by decide), if_neg (by omega)])])⟩
      have hQ5 := HXQ.out.below k5 HXQ.out.lt
      have bel5 := hide (below_more HXW.out (Nat.le_refl _) k5)
      have z5 := k5.size
      simp at z5
      have OA5 := hide ((HXA.out.below k5 : Rc (w.heap.size + 2) w5 _ _ _ _))
      have OB5 := hide ((o5.more (by simp; omega) : Rc (w.heap.size + 2) w5 _ _ _ _))
      clear k5 o5 a0 a1 a2 a3 a4 f0 f1 f2 f3 f4 x0 x1 x2 x3 x4 y0 y1 y2 y3 y4
      obtain ⟨⟨x0, x1, x2, x3, x4⟩, y0, y1, y2, y3, y4⟩ := hQ5.five
      clear hQ5
      have hz5 : w.heap.size + 1 < w5.heap.size := by omega
      go_wp2
      refine bodyPost_ret (v := .tuple #[dv A' s.length c' J (p.length + b.length) j room false arm, .int .i64 0]) (by simp only [results, Tryz.results71]; go_simp) rfl (OUT _ _ _ [] _ HE.out _ _ ⟨A', _, c', J, _, j, rfl, ?_, ?_, ?_⟩)
      · exact (((((OA5.out.far (by simp) _).far (by simp) _).far (by simp) _).far (by simp) _).far (by simp) _).more (by omega)
      · exact (((((OB5.out.far (by simp) _).far (by simp) _).far (by simp) _).far (by simp) _).far (by simp) _).more (by omega)
      · exact ((((bel5.out.setCell (by simp) _).setCell (by simp) _).setCell (by simp) _).setCell (by simp) _).setCell (by simp) _
end Go.Proofs.YtbbobffedgcbhaaGreatDoor.Dk
namespace Go.Proofs.YtbbobffedgcbhaaGreatDoor.Dk
open Go.RowKit
set_option linter.unusedVariables false


set_option maxHeartbeats 4000000 in
theorem powS_any (A : Option Addr) (c : Nat) (B : Option Addr) (k : Nat) (room : Int) (dead : Bool) (arm : Int) (s p : List UInt8) (w : World) (hs : Rd w A s.length s) (hp : Rd w B p.length p) (h1 : s.length ≤ 10000) (h2 : p.length ≤ 10000) (ha : arm ≤ 9223372036854775807)  :
    Calls Tryz.prog 71 #[dv A s.length c B p.length k room dead arm, (.func (Fn.func 73) #[] #[])] w (DEnd w room (apD s.length p.length room dead arm) (apA s.length p.length room dead arm) (syE s.length p.length room dead arm) (syS s p (syE s.length p.length room dead arm)) (syP p (syE s.length p.length room dead arm))) := by
  have OUT : ∀ (T : Bool) (Q E' : Int) (S' P' : List UInt8), (apD s.length p.length room dead arm) = T ∧ (apA s.length p.length room dead arm) = Q ∧ (syE s.length p.length room dead arm) = E' ∧ (syS s p (syE s.length p.length room dead arm)) = S' ∧ (syP p (syE s.length p.length room dead arm)) = P' → ∀ e w', DEnd w room T Q E' S' P' e w' → DEnd w room (apD s.length p.length room dead arm) (apA s.length p.length room dead arm) (syE s.length p.length room dead arm) (syS s p (syE s.length p.length room dead arm)) (syP p (syE s.length p.length room dead arm)) e w' := by
    rintro T Q E' S' P' ⟨e1, e2, e3, e4, e5⟩ e w' h
    rw [e1, e2, e4, e5, e3]; exact h
  go_enter Tryz.func71, Tryz.ntmps71
  go_wp2_with fail
  refine (cdisk_any A _ c B _ k room dead arm s p _ (((hs.alloc (Nat.le_refl _) _).alloc (by simp) _).more (by simp; omega)) (((hp.alloc (Nat.le_refl _) _).alloc (by simp) _).more (by simp; omega)) (by omega) (by omega)).mono ?_
  rintro e w2 ⟨A', c', B', k', rfl, hoA, hoB, kk⟩
  have hP := Blk.below (h := (Blk.new w 24 #[Value.slice A s.length c, .slice B p.length k, .int .i64 room, .bool dead, .int .i64 arm]).alloc (.cells #[.slice none 0 0, .slice none 0 0, .int .i64 0, .bool false, .int .i64 0] 24)) (hb := kk) (by simp; omega)
  have hQ := Blk.below (h := (Blk.new (w.alloc (dC A s.length c B p.length k room dead arm)) 24 #[.slice none 0 0, .slice none 0 0, .int .i64 0, .bool false, .int .i64 0])) (hb := kk) (by simp)
  rw [World.size_alloc] at hQ
  have bel := hide (below_more (((Below.refl w.heap.size w).alloc (Nat.le_refl _) (dC A s.length c B p.length k room dead arm)).alloc (by simp) (.cells #[.slice none 0 0, .slice none 0 0, .int .i64 0, .bool false, .int .i64 0] 24)) (Nat.le_refl _) kk)
  have OA : Hid (Rc (w.heap.size + 2) w2 A' s.length c' s) := hide (rc_of_own hoA (by simp))
  have OB : Hid (Rc (w.heap.size + 2) w2 B' p.length k' p) := hide (rc_of_own hoB (by simp))
  have hz := kk.size
  simp at hz
  clear hoA hoB kk
  have HP := hide hP
  have HQ := hide hQ
  obtain ⟨⟨a0, a1, a2, a3, a4⟩, f0, f1, f2, f3, f4⟩ := hP.five
  obtain ⟨⟨x0, x1, x2, x3, x4⟩, y0, y1, y2, y3, y4⟩ := hQ.five
  clear hP hQ
  have hy0 : w.heap.size < w2.heap.size := by omega
  have hy1 : w.heap.size + 1 < w2.heap.size := by omega
  go_wp2_with fail
  refine (check_any A _ c B _ k room dead arm _ (by omega) (by omega)).mono ?_
  rintro e w3 ⟨rfl, rfl⟩
  cases hok : okD s.length p.length room arm
  · have HE : Hid ((apD s.length p.length room dead arm) = dead ∧ (apA s.length p.length room dead arm) = arm ∧ (syE s.length p.length room dead arm) = 2 ∧ (syS s p (syE s.length p.length room dead arm)) = s ∧ (syP p (syE s.length p.length room dead arm)) = p) := hide (by unfold syS syP apD apA syE; rw [hok]; simp)
    clear hok
    go_wp2
    refine bodyPost_ret (v := .tuple #[dv A' s.length c' B' p.length k' room dead arm, .int .i64 2]) (by simp only [results, Tryz.results71]; go_simp) rfl (OUT _ _ _ _ _ HE.out _ _ ⟨A', _, c', B', _, k', rfl, ?_, ?_, ?_⟩)
    · exact (((((((OA.out.far (by simp) _).far (by simp) _).far (by simp) _).far (by simp) _).far (by simp) _).alloc _).alloc _).more (by omega)
    · exact (((((((OB.out.far (by simp) _).far (by simp) _).far (by simp) _).far (by simp) _).far (by simp) _).alloc _).alloc _).more (by omega)
    · exact ((((((bel.out.setCell (by simp) _).setCell (by simp) _).setCell (by simp) _).setCell (by simp) _).setCell (by simp) _).alloc (by simp [World.setCell]; omega) _).alloc (by simp [World.setCell]; omega) _
  cases hd : dead
  rotate_left
  · have HE : Hid ((apD s.length p.length room dead arm) = true ∧ (apA s.length p.length room dead arm) = arm ∧ (syE s.length p.length room dead arm) = 42 ∧ (syS s p (syE s.length p.length room dead arm)) = s ∧ (syP p (syE s.length p.length room dead arm)) = p) := hide (by unfold syS syP apD apA syE pwO pwD pwA; rw [hok, hd]; simp)
    clear hok
    subst hd
    go_wp2
    refine bodyPost_ret (v := .tuple #[dv A' s.length c' B' p.length k' room true arm, .int .i64 42]) (by simp only [results, Tryz.results71]; go_simp) rfl (OUT _ _ _ _ _ HE.out _ _ ⟨A', _, c', B', _, k', rfl, ?_, ?_, ?_⟩)
    · exact (((((((OA.out.far (by simp) _).far (by simp) _).far (by simp) _).far (by simp) _).far (by simp) _).alloc _).alloc _).more (by omega)
    · exact (((((((OB.out.far (by simp) _).far (by simp) _).far (by simp) _).far (by simp) _).far (by simp) _).alloc _).alloc _).more (by omega)
    · exact ((((((bel.out.setCell (by simp) _).setCell (by simp) _).setCell (by simp) _).setCell (by simp) _).setCell (by simp) _).alloc (by simp [World.setCell]; omega) _).alloc (by simp [World.setCell]; omega) _
  have harm : -1 ≤ arm := by unfold okD at hok; exact (of_decide_eq_true hok).2.2.2
  by_cases h0 : arm = 0
  · have HE : Hid ((apD s.length p.length room dead arm) = true ∧ (apA s.length p.length room dead arm) = 0 ∧ (syE s.length p.length room dead arm) = 42 ∧ (syS s p (syE s.length p.length room dead arm)) = s ∧ (syP p (syE s.length p.length room dead arm)) = p) := hide (by unfold syS syP apD apA syE pwO pwD pwA; rw [hok, hd, h0]; simp)
    clear hok harm
    subst hd
    subst h0
    go_wp2
    refine bodyPost_ret (v := .tuple #[dv A' s.length c' B' p.length k' room true 0, .int .i64 42]) (by simp only [results, Tryz.results71]; go_simp) rfl (OUT _ _ _ _ _ HE.out _ _ ⟨A', _, c', B', _, k', rfl, ?_, ?_, ?_⟩)
    · exact (((((((OA.out.far (by simp) _).far (by simp) _).far (by simp) _).far (by simp) _).far (by simp) _).alloc _).alloc _).more (by omega)
    · exact (((((((OB.out.far (by simp) _).far (by simp) _).far (by simp) _).far (by simp) _).far (by simp) _).alloc _).alloc _).more (by omega)
    · exact ((((((bel.out.setCell (by simp) _).setCell (by simp) _).setCell (by simp) _).setCell (by simp) _).setCell (by simp) _).alloc (by simp [World.setCell]; omega) _).alloc (by simp [World.setCell]; omega) _
  have h0b : (arm == 0) = false := beq_eq_false_iff_ne.2 h0
  by_cases hpos : 0 < arm
  · have HD : Hid ((apD s.length p.length room dead arm) = false ∧ (apA s.length p.length room dead arm) = (arm - 1)) := hide (by unfold apD apA pwD pwA; rw [hok, hd, h0b]; simp [hpos])
    have HOK := hide hok
    have HPW : Hid (pwO dead arm = true) := hide (by unfold pwO; rw [hd, h0b]; rfl)
    have HDD := hide hd
    clear hok
    rw [HDD.out] at a3
    subst hd
    have hXA : Rc (w.heap.size + 2) ((w2.alloc (dC A' s.length c' B' p.length k' room false (arm - 1))).alloc (dC A s.length c B p.length k room false arm)) A' s.length c' s := ((OA.out.alloc (dC A' s.length c' B' p.length k' room false (arm - 1))).alloc (dC A s.length c B p.length k room false arm))
    have hXB : Rc (w.heap.size + 2) ((w2.alloc (dC A' s.length c' B' p.length k' room false (arm - 1))).alloc (dC A s.length c B p.length k room false arm)) B' p.length k' p := ((OB.out.alloc (dC A' s.length c' B' p.length k' room false (arm - 1))).alloc (dC A s.length c B p.length k room false arm))
    have hXW : Below w.heap.size w ((w2.alloc (dC A' s.length c' B' p.length k' room false (arm - 1))).alloc (dC A s.length c B p.length k room false arm)) := (bel.out.alloc (by omega) (dC A' s.length c' B' p.length k' room false (arm - 1))).alloc (by simp; omega) (dC A s.length c B p.length k room false arm)
    have hXQ : Blk ((w2.alloc (dC A' s.length c' B' p.length k' room false (arm - 1))).alloc (dC A s.length c B p.length k room false arm)) (w.heap.size + 1) 24 #[.slice none 0 0, .slice none 0 0, .int .i64 0, .bool false, .int .i64 0] := (HQ.out.alloc (dC A' s.length c' B' p.length k' room false (arm - 1))).alloc (dC A s.length c B p.length k room false arm)
    have HXA := hide hXA
    have HXB := hide hXB
    have HXW := hide hXW
    have HXQ := hide hXQ
    clear hXA hXB hXW hXQ
    go_wp2_with fail
    refine (opS_any A' _ c' B' _ k' room false (arm - 1) s p _ HXA.out.rd HXB.out.rd (by omega) (by omega)).mono ?_
    rintro e w5 ⟨k5, J, j, rfl, o5⟩
    have HE : Hid ((apD s.length p.length room false arm) = false ∧ (apA s.length p.length room false arm) = (arm - 1) ∧ (syE s.length p.length room false arm) = 0 ∧ (syS s p (syE s.length p.length room false arm)) = (s ++ p) ∧ (syP p (syE s.length p.length room false arm)) = []) := hide ⟨HD.out.1, HD.out.2, (by unfold syE; rw [HOK.out, HPW.out, if_neg (by decide), if_neg (by decide)]), (by unfold syS; rw [if_pos (by unfold syE; rw [HOK.out, HPW.out, if_neg (by decide), if_neg (by decide)])]), (by unfold syP; rw [if_pos (by unfold syE; rw [HOK.out, HPW.out, if_neg (by decide), if_neg (by decide)])])⟩
    have hQ5 := HXQ.out.below k5 HXQ.out.lt
    have bel5 := hide (below_more HXW.out (Nat.le_refl _) k5)
    have z5 := k5.size
    simp at z5
    have OA5 := hide ((o5.more (by simp; omega) : Rc (w.heap.size + 2) w5 _ _ _ _))
    have OB5 := hide (Rc.none_ (w.heap.size + 2) w5)
    clear k5 o5 a0 a1 a2 a3 a4 f0 f1 f2 f3 f4 x0 x1 x2 x3 x4 y0 y1 y2 y3 y4
    obtain ⟨⟨x0, x1, x2, x3, x4⟩, y0, y1, y2, y3, y4⟩ := hQ5.five
    clear hQ5
    have hz5 : w.heap.size + 1 < w5.heap.size := by omega
    go_wp2
    refine bodyPost_ret (v := .tuple #[dv J (s.length + p.length) j none 0 0 room false (arm - 1), .int .i64 0]) (by simp only [results, Tryz.results71]; go_simp) rfl (OUT _ _ _ _ _ HE.out _ _ ⟨J, _, j, none, 0, 0, rfl, ?_, ?_, ?_⟩)
    · exact (((((OA5.out.far (by simp) _).far (by simp) _).far (by simp) _).far (by simp) _).far (by simp) _).more (by omega)
    · exact (((((OB5.out.far (by simp) _).far (by simp) _).far (by simp) _).far (by simp) _).far (by simp) _).more (by omega)
    · exact ((((bel5.out.setCell (by simp) _).setCell (by simp) _).setCell (by simp) _).setCell (by simp) _).setCell (by simp) _
  · have HD : Hid ((apD s.length p.length room dead arm) = false ∧ (apA s.length p.length room dead arm) = arm) := hide (by unfold apD apA pwD pwA; rw [hok, hd, h0b]; simp [hpos])
    have HOK := hide hok
    have HPW : Hid (pwO dead arm = true) := hide (by unfold pwO; rw [hd, h0b]; rfl)
    have HDD := hide hd
    clear hok
    have hneg : arm < 0 := by omega
    rw [HDD.out] at a3
    subst hd
    have hXA : Rc (w.heap.size + 2) ((w2.alloc (dC A' s.length c' B' p.length k' room false arm)).alloc (dC A s.length c B p.length k room false arm)) A' s.length c' s := ((OA.out.alloc (dC A' s.length c' B' p.length k' room false arm)).alloc (dC A s.length c B p.length k room false arm))
    have hXB : Rc (w.heap.size + 2) ((w2.alloc (dC A' s.length c' B' p.length k' room false arm)).alloc (dC A s.length c B p.length k room false arm)) B' p.length k' p := ((OB.out.alloc (dC A' s.length c' B' p.length k' room false arm)).alloc (dC A s.length c B p.length k room false arm))
    have hXW : Below w.heap.size w ((w2.alloc (dC A' s.length c' B' p.length k' room false arm)).alloc (dC A s.length c B p.length k room false arm)) := (bel.out.alloc (by omega) (dC A' s.length c' B' p.length k' room false arm)).alloc (by simp; omega) (dC A s.length c B p.length k room false arm)
    have hXQ : Blk ((w2.alloc (dC A' s.length c' B' p.length k' room false arm)).alloc (dC A s.length c B p.length k room false arm)) (w.heap.size + 1) 24 #[.slice none 0 0, .slice none 0 0, .int .i64 0, .bool false, .int .i64 0] := (HQ.out.alloc (dC A' s.length c' B' p.length k' room false arm)).alloc (dC A s.length c B p.length k room false arm)
    have HXA := hide hXA
    have HXB := hide hXB
    have HXW := hide hXW
    have HXQ := hide hXQ
    clear hXA hXB hXW hXQ
    go_wp2_with fail
    refine (opS_any A' _ c' B' _ k' room false arm s p _ HXA.out.rd HXB.out.rd (by omega) (by omega)).mono ?_
    rintro e w5 ⟨k5, J, j, rfl, o5⟩
    have HE : Hid ((apD s.length p.length room false arm) = false ∧ (apA s.length p.length room false arm) = arm ∧ (syE s.length p.length room false arm) = 0 ∧ (syS s p (syE s.length p.length room false arm)) = (s ++ p) ∧ (syP p (syE s.length p.length room false arm)) = []) := hide ⟨HD.out.1, HD.out.2, (by unfold syE; rw [HOK.out, HPW.out, if_neg (by decide), if_neg (by decide)]), (by unfold syS; rw [if_pos (by unfold syE; rw [HOK.out, HPW.out, if_neg (by decide), if_neg (by decide)])]), (by unfold syP; rw [if_pos (by unfold syE; rw [HOK.out, HPW.out, if_neg (by decide), if_neg (by decide)])])⟩
    have hQ5 := HXQ.out.below k5 HXQ.out.lt
    have bel5 := hide (below_more HXW.out (Nat.le_refl _) k5)
    have z5 := k5.size
    simp at z5
    have OA5 := hide ((o5.more (by simp; omega) : Rc (w.heap.size + 2) w5 _ _ _ _))
    have OB5 := hide (Rc.none_ (w.heap.size + 2) w5)
    clear k5 o5 a0 a1 a2 a3 a4 f0 f1 f2 f3 f4 x0 x1 x2 x3 x4 y0 y1 y2 y3 y4
    obtain ⟨⟨x0, x1, x2, x3, x4⟩, y0, y1, y2, y3, y4⟩ := hQ5.five
    clear hQ5
    have hz5 : w.heap.size + 1 < w5.heap.size := by omega
    go_wp2
    refine bodyPost_ret (v := .tuple #[dv J (s.length + p.length) j none 0 0 room false arm, .int .i64 0]) (by simp only [results, Tryz.results71]; go_simp) rfl (OUT _ _ _ _ _ HE.out _ _ ⟨J, _, j, none, 0, 0, rfl, ?_, ?_, ?_⟩)
    · exact (((((OA5.out.far (by simp) _).far (by simp) _).far (by simp) _).far (by simp) _).far (by simp) _).more (by omega)
    · exact (((((OB5.out.far (by simp) _).far (by simp) _).far (by simp) _).far (by simp) _).far (by simp) _).more (by omega)
    · exact ((((bel5.out.setCell (by simp) _).setCell (by simp) _).setCell (by simp) _).setCell (by simp) _).setCell (by simp) _
end Go.Proofs.YtbbobffedgcbhaaGreatDoor.Dk
namespace Go.Proofs.YtbbobffedgcbhaaGreatDoor.Dk
open Go.RowKit
set_option linter.unusedVariables false

def arA (n m : Nat) (room arm k : Int) : Int := if okD n m room arm = false then arm else max (-1) k
end Go.Proofs.YtbbobffedgcbhaaGreatDoor.Dk
namespace Go.Proofs.YtbbobffedgcbhaaGreatDoor.Dk
open Go.RowKit
set_option linter.unusedVariables false

set_option maxHeartbeats 800000 in
theorem append_any (A : Option Addr) (c : Nat) (B : Option Addr) (k : Nat) (room : Int) (dead : Bool) (arm : Int) (s p b : List UInt8) (D : Option Addr) (l : Nat) (w : World) (hs : Rd w A s.length s) (hp : Rd w B p.length p) (hb : Rd w D b.length b) (h1 : s.length ≤ 10000) (h2 : p.length ≤ 10000) (h3 : b.length ≤ 10000) (ha : arm ≤ 9223372036854775807) :
    Calls Tryz.prog 50 #[dv A s.length c B p.length k room dead arm, .slice D b.length l] w (DEnd w room (apD s.length p.length room dead arm) (apA s.length p.length room dead arm) (apE s.length p.length room dead arm b.length) s (apP s.length p.length p room dead arm b)) := by
  go_enter Tryz.func50, Tryz.ntmps50
  go_wp2_with fail
  refine (powA_any A c B k room dead arm s p _ ?c1 ?c2 h1 h2 ha b (w.heap.size + 1) D l ?c3 ?c4 h3).mono ?_
  case c1 => exact (((hs.alloc (Nat.le_refl _) _).alloc (by simp) _).alloc (by simp; omega) _).more (by simp; omega)
  case c2 => exact (((hp.alloc (Nat.le_refl _) _).alloc (by simp) _).alloc (by simp; omega) _).more (by simp; omega)
  case c3 => exact (((hb.alloc (Nat.le_refl _) _).alloc (by simp) _).alloc (by simp; omega) _).more (by simp; omega)
  case c4 =>
    have h := (Blk.new (w.alloc (dC A s.length c B p.length k room dead arm)) 22 #[.slice D b.length l]).alloc (.cells #[.slice none 0 0, .slice none 0 0, .int .i64 0, .bool false, .int .i64 0] 24)
    rwa [World.size_alloc] at h
  rintro e w1 ⟨A', n, c', B', m, k', rfl, oA, oB, k1⟩
  have hQ := Blk.below (h := (Blk.new ((w.alloc (dC A s.length c B p.length k room dead arm)).alloc (.cells #[.slice D b.length l] 22)) 24 #[.slice none 0 0, .slice none 0 0, .int .i64 0, .bool false, .int .i64 0])) (hb := k1) (by simp)
  rw [World.size_alloc, World.size_alloc] at hQ
  have bel := hide (below_more ((((Below.refl w.heap.size w).alloc (Nat.le_refl _) (dC A s.length c B p.length k room dead arm)).alloc (by simp) (.cells #[.slice D b.length l] 22)).alloc (by simp; omega) (.cells #[.slice none 0 0, .slice none 0 0, .int .i64 0, .bool false, .int .i64 0] 24)) (Nat.le_refl _) k1)
  have OA : Hid (Rc (w.heap.size + 3) w1 A' n c' s) := hide (oA.more (by simp))
  have OB := hide (oB.more (C := w.heap.size + 3) (by simp))
  have hz := k1.size
  simp at hz
  clear oA oB k1
  obtain ⟨⟨x0, x1, x2, x3, x4⟩, y0, y1, y2, y3, y4⟩ := hQ.five
  have hy1 : w.heap.size + 1 + 1 < w1.heap.size := by omega
  generalize apD s.length p.length room dead arm = T at *
  generalize apA s.length p.length room dead arm = R at *
  generalize apE s.length p.length room dead arm b.length = E at *
  generalize apP s.length p.length p room dead arm b = P at *
  go_wp2
  refine bodyPost_ret (v := .tuple #[dv A' n c' B' m k' room T R, .int .i64 E]) (by simp only [results, Tryz.results50]; go_simp) rfl ⟨A', n, c', B', m, k', rfl, ?_, ?_, ?_⟩
  · exact (((((OA.out.far (by simp) _).far (by simp) _).far (by simp) _).far (by simp) _).far (by simp) _).more (by omega)
  · exact (((((OB.out.far (by simp) _).far (by simp) _).far (by simp) _).far (by simp) _).far (by simp) _).more (by omega)
  · exact ((((bel.out.setCell (by simp; omega) _).setCell (by simp; omega) _).setCell (by simp; omega) _).setCell (by simp; omega) _).setCell (by simp; omega) _

set_option maxHeartbeats 800000 in
theorem sync_any (A : Option Addr) (c : Nat) (B : Option Addr) (k : Nat) (room : Int) (dead : Bool) (arm : Int) (s p : List UInt8) (w : World) (hs : Rd w A s.length s) (hp : Rd w B p.length p) (h1 : s.length ≤ 10000) (h2 : p.length ≤ 10000) (ha : arm ≤ 9223372036854775807) :
    Calls Tryz.prog 51 #[dv A s.length c B p.length k room dead arm] w (DEnd w room (apD s.length p.length room dead arm) (apA s.length p.length room dead arm) (syE s.length p.length room dead arm) (syS s p (syE s.length p.length room dead arm)) (syP p (syE s.length p.length room dead arm))) := by
  go_enter Tryz.func51, Tryz.ntmps51
  go_wp2_with fail
  refine (powS_any A c B k room dead arm s p _ ?c1 ?c2 h1 h2 ha).mono ?_
  case c1 => exact ((hs.alloc (Nat.le_refl _) _).alloc (by simp) _).more (by simp; omega)
  case c2 => exact ((hp.alloc (Nat.le_refl _) _).alloc (by simp) _).more (by simp; omega)
  rintro e w1 ⟨A', n, c', B', m, k', rfl, oA, oB, k1⟩
  have hQ := Blk.below (h := (Blk.new (w.alloc (dC A s.length c B p.length k room dead arm)) 24 #[.slice none 0 0, .slice none 0 0, .int .i64 0, .bool false, .int .i64 0])) (hb := k1) (by simp)
  rw [World.size_alloc] at hQ
  have bel := hide (below_more (((Below.refl w.heap.size w).alloc (Nat.le_refl _) (dC A s.length c B p.length k room dead arm)).alloc (by simp) (.cells #[.slice none 0 0, .slice none 0 0, .int .i64 0, .bool false, .int .i64 0] 24)) (Nat.le_refl _) k1)
  have OA := hide (oA.more (C := w.heap.size + 2) (by simp))
  have OB := hide (oB.more (C := w.heap.size + 2) (by simp))
  have hz := k1.size
  simp at hz
  clear oA oB k1
  obtain ⟨⟨x0, x1, x2, x3, x4⟩, y0, y1, y2, y3, y4⟩ := hQ.five
  have hy1 : w.heap.size + 1 < w1.heap.size := by omega
  generalize apD s.length p.length room dead arm = T at *
  generalize apA s.length p.length room dead arm = R at *
  generalize syE s.length p.length room dead arm = E at *
  generalize syP p E = P at *
  generalize syS s p E = S at *
  go_wp2
  refine bodyPost_ret (v := .tuple #[dv A' n c' B' m k' room T R, .int .i64 E]) (by simp only [results, Tryz.results51]; go_simp) rfl ⟨A', n, c', B', m, k', rfl, ?_, ?_, ?_⟩
  · exact (((((OA.out.far (by simp) _).far (by simp) _).far (by simp) _).far (by simp) _).far (by simp) _).more (by omega)
  · exact (((((OB.out.far (by simp) _).far (by simp) _).far (by simp) _).far (by simp) _).far (by simp) _).more (by omega)
  · exact ((((bel.out.setCell (by simp) _).setCell (by simp) _).setCell (by simp) _).setCell (by simp) _).setCell (by simp) _

/-- A disk comes back in memory of its own. -/
def DRet (w : World) (room : Int) (D : Bool) (R : Int) (S P : List UInt8) (e : Ending) (w' : World) : Prop :=
  ∃ A n c B m k, e = .returned (dv A n c B m k room D R) ∧ Rc w.heap.size w' A n c S ∧ Rc w.heap.size w' B m k P ∧ Below w.heap.size w w'

end Go.Proofs.YtbbobffedgcbhaaGreatDoor.Dk
namespace Go.Proofs.YtbbobffedgcbhaaGreatDoor.Dk
open Go.RowKit
set_option linter.unusedVariables false

def ctE (n m : Nat) (room : Int) (dead : Bool) (arm q : Int) : Int := if okD n m room arm = true ∧ m = 0 ∧ dead = false ∧ 0 ≤ q ∧ q ≤ n then 0 else 2
def ctS (s : List UInt8) (E q : Int) : List UInt8 := if E = 0 then s.take q.toNat else s

set_option maxHeartbeats 2000000 in
theorem cut_any (A : Option Addr) (c : Nat) (B : Option Addr) (k : Nat) (room : Int) (dead : Bool) (arm q : Int) (s p : List UInt8) (w : World) (hs : Rd w A s.length s) (hp : Rd w B p.length p) (h1 : s.length ≤ 10000) (h2 : p.length ≤ 10000) (hc : s.length ≤ c) :
    Calls Tryz.prog 21 #[dv A s.length c B p.length k room dead arm, .int .i64 q] w (DEnd w room dead arm (ctE s.length p.length room dead arm q) (ctS s (ctE s.length p.length room dead arm q) q) p) := by
  have OUT : ∀ (E' : Int) (S' : List UInt8), ctE s.length p.length room dead arm q = E' ∧ ctS s (ctE s.length p.length room dead arm q) q = S' → ∀ e w', DEnd w room dead arm E' S' p e w' → DEnd w room dead arm (ctE s.length p.length room dead arm q) (ctS s (ctE s.length p.length room dead arm q) q) p e w' := by
    rintro E' S' ⟨e1, e2⟩ e w' h
    rw [e2, e1]; exact h
  have NO : ¬ (okD s.length p.length room arm = true ∧ p.length = 0 ∧ dead = false ∧ 0 ≤ q ∧ q ≤ s.length) → ctE s.length p.length room dead arm q = 2 ∧ ctS s (ctE s.length p.length room dead arm q) q = s := by
    intro h
    have e1 : ctE s.length p.length room dead arm q = 2 := by unfold ctE; rw [if_neg h]
    exact ⟨e1, by rw [e1]; unfold ctS; rw [if_neg (by decide)]⟩
  go_enter Tryz.func21, Tryz.ntmps21
  go_wp2_with fail
  refine (cdisk_any A _ c B _ k room dead arm s p _ (((hs.alloc (Nat.le_refl _) _).alloc (by simp) _).more (by simp; omega)) (((hp.alloc (Nat.le_refl _) _).alloc (by simp) _).more (by simp; omega)) (by omega) (by omega)).mono ?_
  rintro e w2 ⟨A', c', B', k', rfl, hoA, hoB, kk⟩
  have hP := Blk.below (h := (Blk.new w 24 #[Value.slice A s.length c, .slice B p.length k, .int .i64 room, .bool dead, .int .i64 arm]).alloc (.cells #[.slice none 0 0, .slice none 0 0, .int .i64 0, .bool false, .int .i64 0] 24)) (hb := kk) (by simp; omega)
  have hQ := Blk.below (h := (Blk.new (w.alloc (dC A s.length c B p.length k room dead arm)) 24 #[.slice none 0 0, .slice none 0 0, .int .i64 0, .bool false, .int .i64 0])) (hb := kk) (by simp)
  rw [World.size_alloc] at hQ
  have bel := hide (below_more (((Below.refl w.heap.size w).alloc (Nat.le_refl _) (dC A s.length c B p.length k room dead arm)).alloc (by simp) (.cells #[.slice none 0 0, .slice none 0 0, .int .i64 0, .bool false, .int .i64 0] 24)) (Nat.le_refl _) kk)
  have OA : Hid (Rc (w.heap.size + 2) w2 A' s.length c' s) := hide (rc_of_own hoA (by simp))
  have OB : Hid (Rc (w.heap.size + 2) w2 B' p.length k' p) := hide (rc_of_own hoB (by simp))
  have hz := kk.size
  simp at hz
  clear hoA hoB kk
  have HQ := hide hQ
  obtain ⟨⟨a0, a1, a2, a3, a4⟩, f0, f1, f2, f3, f4⟩ := hP.five
  obtain ⟨⟨x0, x1, x2, x3, x4⟩, y0, y1, y2, y3, y4⟩ := hQ.five
  clear hP hQ
  have hy0 : w.heap.size < w2.heap.size := by omega
  have hy1 : w.heap.size + 1 < w2.heap.size := by omega
  go_wp2_with fail
  refine (check_any A _ c B _ k room dead arm _ (by omega) (by omega)).mono ?_
  rintro e w3 ⟨rfl, rfl⟩
  cases hok : okD s.length p.length room arm
  · have HE := hide (NO (by rintro ⟨h, _⟩; rw [hok] at h; cases h))
    clear hok NO
    go_wp2
    refine bodyPost_ret (v := .tuple #[dv A' s.length c' B' p.length k' room dead arm, .int .i64 2]) (by simp only [results, Tryz.results21]; go_simp) rfl (OUT _ _ HE.out _ _ ⟨A', _, c', B', _, k', rfl, ?_, ?_, ?_⟩)
    · exact (((((((OA.out.far (by simp) _).far (by simp) _).far (by simp) _).far (by simp) _).far (by simp) _).alloc _).alloc _).more (by omega)
    · exact (((((((OB.out.far (by simp) _).far (by simp) _).far (by simp) _).far (by simp) _).far (by simp) _).alloc _).alloc _).more (by omega)
    · exact ((((((bel.out.setCell (by simp) _).setCell (by simp) _).setCell (by simp) _).setCell (by simp) _).setCell (by simp) _).alloc (by simp [World.setCell]; omega) _).alloc (by simp [World.setCell]; omega) _
  by_cases hm : 0 < p.length
  · have HE := hide (NO (by rintro ⟨_, h, _⟩; omega))
    clear hok NO
    go_wp2
    refine bodyPost_ret (v := .tuple #[dv A' s.length c' B' p.length k' room dead arm, .int .i64 2]) (by simp only [results, Tryz.results21]; go_simp) rfl (OUT _ _ HE.out _ _ ⟨A', _, c', B', _, k', rfl, ?_, ?_, ?_⟩)
    · exact (((((((OA.out.far (by simp) _).far (by simp) _).far (by simp) _).far (by simp) _).far (by simp) _).alloc _).alloc _).more (by omega)
    · exact (((((((OB.out.far (by simp) _).far (by simp) _).far (by simp) _).far (by simp) _).far (by simp) _).alloc _).alloc _).more (by omega)
    · exact ((((((bel.out.setCell (by simp) _).setCell (by simp) _).setCell (by simp) _).setCell (by simp) _).setCell (by simp) _).alloc (by simp [World.setCell]; omega) _).alloc (by simp [World.setCell]; omega) _
  cases hd : dead
  rotate_left
  · have HE := hide (NO (by rintro ⟨_, _, h, _⟩; rw [hd] at h; cases h))
    clear hok NO
    subst hd
    go_wp2
    refine bodyPost_ret (v := .tuple #[dv A' s.length c' B' p.length k' room true arm, .int .i64 2]) (by simp only [results, Tryz.results21]; go_simp) rfl (OUT _ _ HE.out _ _ ⟨A', _, c', B', _, k', rfl, ?_, ?_, ?_⟩)
    · exact (((((((OA.out.far (by simp) _).far (by simp) _).far (by simp) _).far (by simp) _).far (by simp) _).alloc _).alloc _).more (by omega)
    · exact (((((((OB.out.far (by simp) _).far (by simp) _).far (by simp) _).far (by simp) _).far (by simp) _).alloc _).alloc _).more (by omega)
    · exact ((((((bel.out.setCell (by simp) _).setCell (by simp) _).setCell (by simp) _).setCell (by simp) _).setCell (by simp) _).alloc (by simp [World.setCell]; omega) _).alloc (by simp [World.setCell]; omega) _
  by_cases hq0 : q < 0
  · have HE := hide (NO (by rintro ⟨_, _, _, h, _⟩; omega))
    clear hok NO
    subst hd
    go_wp2
    refine bodyPost_ret (v := .tuple #[dv A' s.length c' B' p.length k' room false arm, .int .i64 2]) (by simp only [results, Tryz.results21]; go_simp) rfl (OUT _ _ HE.out _ _ ⟨A', _, c', B', _, k', rfl, ?_, ?_, ?_⟩)
    · exact (((((((OA.out.far (by simp) _).far (by simp) _).far (by simp) _).far (by simp) _).far (by simp) _).alloc _).alloc _).more (by omega)
    · exact (((((((OB.out.far (by simp) _).far (by simp) _).far (by simp) _).far (by simp) _).far (by simp) _).alloc _).alloc _).more (by omega)
    · exact ((((((bel.out.setCell (by simp) _).setCell (by simp) _).setCell (by simp) _).setCell (by simp) _).setCell (by simp) _).alloc (by simp [World.setCell]; omega) _).alloc (by simp [World.setCell]; omega) _
  by_cases hq1 : (s.length : Int) < q
  · have HE := hide (NO (by rintro ⟨_, _, _, _, h⟩; omega))
    clear hok NO
    subst hd
    go_wp2
    refine bodyPost_ret (v := .tuple #[dv A' s.length c' B' p.length k' room false arm, .int .i64 2]) (by simp only [results, Tryz.results21]; go_simp) rfl (OUT _ _ HE.out _ _ ⟨A', _, c', B', _, k', rfl, ?_, ?_, ?_⟩)
    · exact (((((((OA.out.far (by simp) _).far (by simp) _).far (by simp) _).far (by simp) _).far (by simp) _).alloc _).alloc _).more (by omega)
    · exact (((((((OB.out.far (by simp) _).far (by simp) _).far (by simp) _).far (by simp) _).far (by simp) _).alloc _).alloc _).more (by omega)
    · exact ((((((bel.out.setCell (by simp) _).setCell (by simp) _).setCell (by simp) _).setCell (by simp) _).setCell (by simp) _).alloc (by simp [World.setCell]; omega) _).alloc (by simp [World.setCell]; omega) _
  have e1 : ctE s.length p.length room dead arm q = 0 := by unfold ctE; rw [if_pos ⟨hok, by omega, hd, by omega, by omega⟩]
  have HE : Hid (ctE s.length p.length room dead arm q = 0 ∧ ctS s (ctE s.length p.length room dead arm q) q = s.take q.toNat) := hide ⟨e1, by rw [e1]; unfold ctS; rw [if_pos rfl]⟩
  clear e1 hok NO
  subst hd
  obtain ⟨n, rfl⟩ : ∃ n : Nat, q = n := ⟨q.toNat, by omega⟩
  rw [Int.toNat_natCast] at HE
  have hsl := fun W => run_slice_to (P := Tryz.prog) 22 5 Tryz.underlying22 sizeU8 A s.length c .i64 (n : Int) (by omega) (by omega) W
  simp only [Int.toNat_natCast] at hsl
  go_wp2_with fail
  have RA := hide ((Reads.below hs bel.out).more bel.out.size)
  refine (joined_any A n c none 0 0 (s.take n) [] _ ?c1 Reads.none_ (by omega) (by omega)).mono ?_
  case c1 =>
    have h5 := Reads.take ((RA.out.alloc (Nat.le_refl _) (dC A' s.length c' B' p.length k' room false arm)).alloc (by simp) (dC A s.length c B p.length k room false arm)) (q := n) (by omega)
    rw [← bv_take] at h5
    exact h5.more (by simp; omega)
  rintro e w5 ⟨J, j, rfl, hoJ, k5⟩
  have hQ5 := Blk.below (h := ((HQ.out.alloc (dC A' s.length c' B' p.length k' room false arm)).alloc (dC A s.length c B p.length k room false arm))) (hb := k5) (by simp; omega)
  have hX5 := Blk.below (h := ((Blk.new w2 24 #[Value.slice A' s.length c', .slice B' p.length k', .int .i64 room, .bool false, .int .i64 arm]).alloc (dC A s.length c B p.length k room false arm))) (hb := k5) (by simp; omega)
  have bel5 := hide (below_more ((bel.out.alloc (by omega) (dC A' s.length c' B' p.length k' room false arm)).alloc (by simp; omega) (dC A s.length c B p.length k room false arm)) (Nat.le_refl _) k5)
  have z5 := k5.size
  simp at z5
  have OJ : Hid (Rc (w.heap.size + 2) w5 J (n + 0) j (s.take n ++ [])) := hide (rc_of_own hoJ (by simp; omega))
  have OB5 : Hid (Rc (w.heap.size + 2) w5 B' p.length k' p) := hide (((OB.out.alloc _).alloc _).below k5)
  rw [List.append_nil, Nat.add_zero] at OJ
  clear k5 hoJ a0 a1 a2 a3 a4 f0 f1 f2 f3 f4 x0 x1 x2 x3 x4 y0 y1 y2 y3 y4
  obtain ⟨⟨x0, x1, x2, x3, x4⟩, y0, y1, y2, y3, y4⟩ := hQ5.five
  obtain ⟨⟨a0, a1, a2, a3, a4⟩, f0, f1, f2, f3, f4⟩ := hX5.five
  have HX5 := hide hX5
  clear hQ5 hX5
  have hz5 : w.heap.size + 1 < w5.heap.size := by omega
  have hz6 : w2.heap.size < w5.heap.size := by omega
  have hn0 : n + 0 = n := rfl
  go_wp2
  refine bodyPost_ret (v := .tuple #[dv J n j B' p.length k' room false arm, .int .i64 0]) (by simp only [results, Tryz.results21]; go_simp) rfl (OUT _ _ HE.out _ _ ⟨J, _, j, B', _, k', rfl, ?_, ?_, ?_⟩)
  · have o2 := OJ.out.set_ (p := ⟨w2.heap.size, 0, none⟩) HX5.out (by decide) (.slice J n j)
    exact (((((o2.far (by simp) _).far (by simp) _).far (by simp) _).far (by simp) _).far (by simp) _).more (by omega)
  · have o2 := OB5.out.set_ (p := ⟨w2.heap.size, 0, none⟩) HX5.out (by decide) (.slice J n j)
    exact (((((o2.far (by simp) _).far (by simp) _).far (by simp) _).far (by simp) _).far (by simp) _).more (by omega)
  · exact (((((bel5.out.setCell (by simp; omega) _).setCell (by simp) _).setCell (by simp) _).setCell (by simp) _).setCell (by simp) _).setCell (by simp) _
end Go.Proofs.YtbbobffedgcbhaaGreatDoor.Dk
namespace Go.Proofs.YtbbobffedgcbhaaGreatDoor.Dk
open Go.RowKit
set_option linter.unusedVariables false

/-- How many of the bytes that wait stay. -/
def kpN (m : Nat) (q : Int) : Nat := if q < 0 then 0 else if (m : Int) < q then m else q.toNat
theorem kpN_le (m : Nat) (q : Int) : kpN m q ≤ m := by unfold kpN; split <;> (try split) <;> omega
def crS (s p : List UInt8) (ok : Bool) (q : Int) : List UInt8 := if ok = true then s ++ p.take (kpN p.length q) else s
def crP (p : List UInt8) (ok : Bool) : List UInt8 := if ok = true then [] else p
def crD (dead ok : Bool) : Bool := if ok = true then false else dead
def crA (arm : Int) (ok : Bool) : Int := if ok = true then -1 else arm

theorem blk5a {w : World} {g : Nat} {t : TypeId} {x y z u v : Value} (h : Blk w g t #[x, y, z, u, v]) : w.cell? ⟨g, 0, none⟩ = some x ∧ w.cell? ⟨g, 1, none⟩ = some y ∧ w.cell? ⟨g, 2, none⟩ = some z := ⟨h.five.1.1, h.five.1.2.1, h.five.1.2.2.1⟩

set_option maxHeartbeats 4000000 in
theorem crash_any (A : Option Addr) (c : Nat) (B : Option Addr) (k : Nat) (room : Int) (dead : Bool) (arm q : Int) (s p : List UInt8) (w : World) (hs : Rd w A s.length s) (hp : Rd w B p.length p) (h1 : s.length ≤ 10000) (h2 : p.length ≤ 10000) (hk : p.length ≤ k) :
    Calls Tryz.prog 34 #[dv A s.length c B p.length k room dead arm, .int .i64 q] w (DRet w room (crD dead (okD s.length p.length room arm)) (crA arm (okD s.length p.length room arm)) (crS s p (okD s.length p.length room arm) q) (crP p (okD s.length p.length room arm))) := by
  generalize hok : okD s.length p.length room arm = ok
  go_enter Tryz.func34, Tryz.ntmps34
  go_wp2_with fail
  refine (check_any A _ c B _ k room dead arm _ (by omega) (by omega)).mono ?_
  rintro e w3 ⟨rfl, rfl⟩
  rw [hok]
  clear hok
  cases ok
  · have HE : Hid (crD dead false = dead ∧ crA arm false = arm ∧ crS s p false q = s ∧ crP p false = p) := hide ⟨rfl, rfl, rfl, rfl⟩
    go_wp2_with fail
    refine (cdisk_any A _ c B _ k room dead arm s p _ ((((hs.alloc (Nat.le_refl _) _).alloc (by simp) _).alloc (by simp; omega) _).more (by simp; omega)) ((((hp.alloc (Nat.le_refl _) _).alloc (by simp) _).alloc (by simp; omega) _).more (by simp; omega)) (by omega) (by omega)).mono ?_
    rintro e w2 ⟨A', c', B', k', rfl, hoA, hoB, kk⟩
    have hQ := Blk.below (h := (Blk.new (w.alloc (dC A s.length c B p.length k room dead arm)) 24 #[.slice none 0 0, .slice none 0 0, .int .i64 0, .bool false, .int .i64 0]).alloc (dC A s.length c B p.length k room dead arm)) (hb := kk) (by simp)
    rw [World.size_alloc] at hQ
    have bel := hide (below_more ((((Below.refl w.heap.size w).alloc (Nat.le_refl _) (dC A s.length c B p.length k room dead arm)).alloc (by simp) (.cells #[.slice none 0 0, .slice none 0 0, .int .i64 0, .bool false, .int .i64 0] 24)).alloc (by simp; omega) (dC A s.length c B p.length k room dead arm)) (Nat.le_refl _) kk)
    have OA : Hid (Rc (w.heap.size + 2) w2 A' s.length c' s) := hide (rc_of_own hoA (by simp))
    have OB : Hid (Rc (w.heap.size + 2) w2 B' p.length k' p) := hide (rc_of_own hoB (by simp))
    have hz := kk.size
    simp at hz
    clear hoA hoB kk
    obtain ⟨⟨x0, x1, x2, x3, x4⟩, y0, y1, y2, y3, y4⟩ := hQ.five
    have hy1 : w.heap.size + 1 < w2.heap.size := by omega
    go_wp2
    refine bodyPost_ret (v := dv A' s.length c' B' p.length k' room dead arm) (by simp only [results, Tryz.results34]; go_simp) rfl ⟨A', _, c', B', _, k', by rw [HE.out.1, HE.out.2.1], ?_, ?_, ?_⟩
    · rw [HE.out.2.2.1]; exact (((((OA.out.far (by simp) _).far (by simp) _).far (by simp) _).far (by simp) _).far (by simp) _).more (by omega)
    · rw [HE.out.2.2.2]; exact (((((OB.out.far (by simp) _).far (by simp) _).far (by simp) _).far (by simp) _).far (by simp) _).more (by omega)
    · exact ((((bel.out.setCell (by simp) _).setCell (by simp) _).setCell (by simp) _).setCell (by simp) _).setCell (by simp) _
  · obtain ⟨n, hn⟩ : ∃ n, kpN p.length q = n := ⟨_, rfl⟩
    have hnl : n ≤ p.length := hn ▸ kpN_le _ _
    have HE : Hid (crD dead true = false ∧ crA arm true = -1 ∧ crS s p true q = s ++ p.take n ∧ crP p true = []) := hide ⟨rfl, rfl, by unfold crS; rw [if_pos rfl, hn], rfl⟩
    have hsl := fun W => run_slice_to (P := Tryz.prog) 22 5 Tryz.underlying22 sizeU8 B p.length k .i64 (n : Int) (by omega) (by omega) W
    simp only [Int.toNat_natCast] at hsl
    generalize hW : ((w.alloc (dC A s.length c B p.length k room dead arm)).alloc (.cells #[.slice none 0 0, .slice none 0 0, .int .i64 0, .bool false, .int .i64 0] 24)).alloc (dC A s.length c B p.length k room dead arm) = W1
    have hP : Blk W1 w.heap.size 24 #[Value.slice A s.length c, .slice B p.length k, .int .i64 room, .bool dead, .int .i64 arm] := by rw [← hW]; exact ((Blk.new w 24 _).alloc _).alloc _
    have hQ : Blk W1 (w.heap.size + 1) 24 #[.slice none 0 0, .slice none 0 0, .int .i64 0, .bool false, .int .i64 0] := by
      rw [← hW]
      have h := (Blk.new (w.alloc (dC A s.length c B p.length k room dead arm)) 24 #[.slice none 0 0, .slice none 0 0, .int .i64 0, .bool false, .int .i64 0]).alloc (dC A s.length c B p.length k room dead arm)
      rwa [World.size_alloc] at h
    have bel : Hid (Below w.heap.size w W1) := hide (by rw [← hW]; exact (((Below.refl w.heap.size w).alloc (Nat.le_refl _) _).alloc (by simp) _).alloc (by simp; omega) _)
    have zW : w.heap.size + 3 ≤ W1.heap.size := by rw [← hW]; simp
    have RA : Hid (Rd W1 A s.length s) := hide ((Reads.below hs bel.out).more bel.out.size)
    have RB : Hid (Rd W1 B n (p.take n)) := hide (by
      have h := Reads.take ((Reads.below hp bel.out).more bel.out.size) (q := n) hnl
      rwa [← bv_take] at h)
    clear hW hs hp
    have HP := hide hP
    have HQ := hide hQ
    obtain ⟨⟨a0, a1, a2, a3, a4⟩, f0, f1, f2, f3, f4⟩ := hP.five
    clear hP hQ
    have XJ := hide (joined_any A s.length c B n k s (p.take n) W1.drew RA.out.drew RB.out.drew (by omega) (by omega))
    have HN := hide hn
    have hne : w.heap.size ≠ w.heap.size + 1 := by omega
    by_cases c1 : q < 0
    · obtain rfl : n = 0 := by rw [← hn]; unfold kpN; rw [if_pos c1]
      clear hn
      simp only [Int.natCast_zero] at hsl
      go_upto_region 4 with (fail)
      go_region_held3 (fun W => W.cell? ⟨w.heap.size, 0, none⟩ = some (.slice A s.length c) ∧ W.cell? ⟨w.heap.size, 1, none⟩ = some (.slice B p.length k) ∧ W.cell? ⟨w.heap.size, 2, none⟩ = some (.int .i64 room))
        (first | with_reducible exact blk5a HP.out.drew | with_reducible exact blk5a HP5.out | with_reducible exact blk5a (((((HP5.out.far (p := ⟨w.heap.size + 1, 0, none⟩) hne _).far (p := ⟨w.heap.size + 1, 1, none⟩) hne _).far (p := ⟨w.heap.size + 1, 2, none⟩) hne _).far (p := ⟨w.heap.size + 1, 3, none⟩) hne _).far (p := ⟨w.heap.size + 1, 4, none⟩) hne _))
        (first
          | (go_at_call 42
             refine XJ.out.mono ?_
             rintro e w5 ⟨J, j, rfl, ho, k5⟩
             have HP5 := hide (HP.out.drew.below k5 HP.out.lt)
             have HQ5 := hide (HQ.out.drew.below k5 HQ.out.lt)
             have bel5 := hide (below_more bel.out.drew (Nat.le_refl _) k5)
             have OJ : Hid (Rc (w.heap.size + 2) w5 J (s.length + 0) j (s ++ p.take 0)) := hide (rc_of_own ho (by simp; omega))
             have z5 := k5.size
             simp at z5
             obtain ⟨⟨u0, u1, u2, u3, u4⟩, v0, v1, v2, v3, v4⟩ := HP5.out.five
             obtain ⟨⟨x0, x1, x2, x3, x4⟩, y0, y1, y2, y3, y4⟩ := HQ5.out.five
             clear k5 ho))
      all_goals
        have hz5 : w.heap.size + 1 < w5.heap.size := by omega
        go_wp2
        refine bodyPost_ret (v := dv J (s.length + 0) j none 0 0 room false (-1)) (by simp only [results, Tryz.results34]; go_simp) rfl ⟨J, _, j, none, 0, 0, by rw [HE.out.1, HE.out.2.1], ?_, ?_, ?_⟩
        · rw [HE.out.2.2.1]; exact (((((OJ.out.far (by simp) _).far (by simp) _).far (by simp) _).far (by simp) _).far (by simp) _).more (by omega)
        · rw [HE.out.2.2.2]; exact Rc.none_ _ _
        · exact ((((bel5.out.setCell (by simp) _).setCell (by simp) _).setCell (by simp) _).setCell (by simp) _).setCell (by simp) _
    · by_cases c2 : (p.length : Int) < q
      · obtain rfl : n = p.length := by rw [← hn]; unfold kpN; rw [if_neg c1, if_pos c2]
        clear hn
        go_upto_region 4 with (fail)
        go_region_held3 (fun W => W.cell? ⟨w.heap.size, 0, none⟩ = some (.slice A s.length c) ∧ W.cell? ⟨w.heap.size, 1, none⟩ = some (.slice B p.length k) ∧ W.cell? ⟨w.heap.size, 2, none⟩ = some (.int .i64 room))
          (first | with_reducible exact blk5a HP.out.drew | with_reducible exact blk5a HP5.out | with_reducible exact blk5a (((((HP5.out.far (p := ⟨w.heap.size + 1, 0, none⟩) hne _).far (p := ⟨w.heap.size + 1, 1, none⟩) hne _).far (p := ⟨w.heap.size + 1, 2, none⟩) hne _).far (p := ⟨w.heap.size + 1, 3, none⟩) hne _).far (p := ⟨w.heap.size + 1, 4, none⟩) hne _))
          (first
            | (go_at_call 42
               refine XJ.out.mono ?_
               rintro e w5 ⟨J, j, rfl, ho, k5⟩
               have HP5 := hide (HP.out.drew.below k5 HP.out.lt)
               have HQ5 := hide (HQ.out.drew.below k5 HQ.out.lt)
               have bel5 := hide (below_more bel.out.drew (Nat.le_refl _) k5)
               have OJ : Hid (Rc (w.heap.size + 2) w5 J (s.length + p.length) j (s ++ p.take p.length)) := hide (rc_of_own ho (by simp; omega))
               have z5 := k5.size
               simp at z5
               obtain ⟨⟨u0, u1, u2, u3, u4⟩, v0, v1, v2, v3, v4⟩ := HP5.out.five
               obtain ⟨⟨x0, x1, x2, x3, x4⟩, y0, y1, y2, y3, y4⟩ := HQ5.out.five
               clear k5 ho))
        all_goals
          have hz5 : w.heap.size + 1 < w5.heap.size := by omega
          go_wp2
          refine bodyPost_ret (v := dv J (s.length + p.length) j none 0 0 room false (-1)) (by simp only [results, Tryz.results34]; go_simp) rfl ⟨J, _, j, none, 0, 0, by rw [HE.out.1, HE.out.2.1], ?_, ?_, ?_⟩
          · rw [HE.out.2.2.1]; exact (((((OJ.out.far (by simp) _).far (by simp) _).far (by simp) _).far (by simp) _).far (by simp) _).more (by omega)
          · rw [HE.out.2.2.2]; exact Rc.none_ _ _
          · exact ((((bel5.out.setCell (by simp) _).setCell (by simp) _).setCell (by simp) _).setCell (by simp) _).setCell (by simp) _
      · obtain rfl : q = (n : Int) := by rw [← hn]; unfold kpN; rw [if_neg c1, if_neg c2]; omega
        clear hn
        go_upto_region 4 with (fail)
        go_region_held3 (fun W => W.cell? ⟨w.heap.size, 0, none⟩ = some (.slice A s.length c) ∧ W.cell? ⟨w.heap.size, 1, none⟩ = some (.slice B p.length k) ∧ W.cell? ⟨w.heap.size, 2, none⟩ = some (.int .i64 room))
          (first | with_reducible exact blk5a HP.out.drew | with_reducible exact blk5a HP5.out | with_reducible exact blk5a (((((HP5.out.far (p := ⟨w.heap.size + 1, 0, none⟩) hne _).far (p := ⟨w.heap.size + 1, 1, none⟩) hne _).far (p := ⟨w.heap.size + 1, 2, none⟩) hne _).far (p := ⟨w.heap.size + 1, 3, none⟩) hne _).far (p := ⟨w.heap.size + 1, 4, none⟩) hne _))
          (first
            | (go_at_call 42
               refine XJ.out.mono ?_
               rintro e w5 ⟨J, j, rfl, ho, k5⟩
               have HP5 := hide (HP.out.drew.below k5 HP.out.lt)
               have HQ5 := hide (HQ.out.drew.below k5 HQ.out.lt)
               have bel5 := hide (below_more bel.out.drew (Nat.le_refl _) k5)
               have OJ : Hid (Rc (w.heap.size + 2) w5 J (s.length + n) j (s ++ p.take n)) := hide (rc_of_own ho (by simp; omega))
               have z5 := k5.size
               simp at z5
               obtain ⟨⟨u0, u1, u2, u3, u4⟩, v0, v1, v2, v3, v4⟩ := HP5.out.five
               obtain ⟨⟨x0, x1, x2, x3, x4⟩, y0, y1, y2, y3, y4⟩ := HQ5.out.five
               clear k5 ho))
        all_goals
          have hz5 : w.heap.size + 1 < w5.heap.size := by omega
          go_wp2
          refine bodyPost_ret (v := dv J (s.length + n) j none 0 0 room false (-1)) (by simp only [results, Tryz.results34]; go_simp) rfl ⟨J, _, j, none, 0, 0, by rw [HE.out.1, HE.out.2.1], ?_, ?_, ?_⟩
          · rw [HE.out.2.2.1]; exact (((((OJ.out.far (by simp) _).far (by simp) _).far (by simp) _).far (by simp) _).far (by simp) _).more (by omega)
          · rw [HE.out.2.2.2]; exact Rc.none_ _ _
          · exact ((((bel5.out.setCell (by simp) _).setCell (by simp) _).setCell (by simp) _).setCell (by simp) _).setCell (by simp) _
end Go.Proofs.YtbbobffedgcbhaaGreatDoor.Dk
namespace Go.Proofs.YtbbobffedgcbhaaGreatDoor.Dk
open Go.RowKit
set_option linter.unusedVariables false

def REnd (w : World) (room : Int) (D : Bool) (R E : Int) (S P : List UInt8) (e : Ending) (w' : World) : Prop :=
  ∃ A n c B m k, e = .returned (.tuple #[dv A n c B m k room D R, .int .i64 E]) ∧ Rd w' A n S ∧ Rd w' B m P ∧ Below w.heap.size w w'
def RRet (w : World) (room : Int) (D : Bool) (R : Int) (S P : List UInt8) (e : Ending) (w' : World) : Prop :=
  ∃ A n c B m k, e = .returned (dv A n c B m k room D R) ∧ Rd w' A n S ∧ Rd w' B m P ∧ Below w.heap.size w w'

set_option maxHeartbeats 2000000 in
theorem rcut_any (A : Option Addr) (c : Nat) (B : Option Addr) (k : Nat) (room : Int) (dead : Bool) (arm q : Int) (s p : List UInt8) (w : World) (hs : Rd w A s.length s) (hp : Rd w B p.length p) (h1 : s.length ≤ 10000) (h2 : p.length ≤ 10000) (hc : s.length ≤ c) :
    Calls Tryz.prog 24 #[dv A s.length c B p.length k room dead arm, .int .i64 q] w (REnd w room dead arm (ctE s.length p.length room dead arm q) (ctS s (ctE s.length p.length room dead arm q) q) p) := by
  have OUT : ∀ (E' : Int) (S' : List UInt8), ctE s.length p.length room dead arm q = E' ∧ ctS s (ctE s.length p.length room dead arm q) q = S' → ∀ e w', REnd w room dead arm E' S' p e w' → REnd w room dead arm (ctE s.length p.length room dead arm q) (ctS s (ctE s.length p.length room dead arm q) q) p e w' := by
    rintro E' S' ⟨e1, e2⟩ e w' h
    rw [e2, e1]; exact h
  have NO : ¬ (okD s.length p.length room arm = true ∧ p.length = 0 ∧ dead = false ∧ 0 ≤ q ∧ q ≤ s.length) → ctE s.length p.length room dead arm q = 2 ∧ ctS s (ctE s.length p.length room dead arm q) q = s := by
    intro h
    have e1 : ctE s.length p.length room dead arm q = 2 := by unfold ctE; rw [if_neg h]
    exact ⟨e1, by rw [e1]; unfold ctS; rw [if_neg (by decide)]⟩
  have KEEP : ∀ e w', Below w.heap.size w w' → ∀ (dd : Bool) (E' : Int), e = .returned (.tuple #[dv A s.length c B p.length k room dd arm, .int .i64 E']) → REnd w room dd arm E' s p e w' := by
    rintro e w' h dd E' rfl
    exact ⟨A, _, c, B, _, k, rfl, (Reads.below hs h).more h.size, (Reads.below hp h).more h.size, h⟩
  go_enter Tryz.func24, Tryz.ntmps24
  go_wp2_with fail
  refine (rcheck_any A _ c B _ k room dead arm _ (by omega) (by omega)).mono ?_
  rintro e w3 ⟨rfl, rfl⟩
  cases hok : okD s.length p.length room arm
  · have HE := hide (NO (by rintro ⟨h, _⟩; rw [hok] at h; cases h))
    clear hok NO
    go_wp2
    refine bodyPost_ret (v := .tuple #[dv A s.length c B p.length k room dead arm, .int .i64 2]) (by simp only [results, Tryz.results24]; go_simp) rfl (OUT _ _ HE.out _ _ (KEEP _ _ ?_ _ _ rfl))
    ((repeat (refine Below.alloc ?_ (by first | exact Nat.le_refl _ | (simp; done) | (simp; omega)) _)); exact Below.refl _ _)
  by_cases hm : 0 < p.length
  · have HE := hide (NO (by rintro ⟨_, h, _⟩; omega))
    clear hok NO
    go_wp2
    refine bodyPost_ret (v := .tuple #[dv A s.length c B p.length k room dead arm, .int .i64 2]) (by simp only [results, Tryz.results24]; go_simp) rfl (OUT _ _ HE.out _ _ (KEEP _ _ ?_ _ _ rfl))
    ((repeat (refine Below.alloc ?_ (by first | exact Nat.le_refl _ | (simp; done) | (simp; omega)) _)); exact Below.refl _ _)
  cases hd : dead
  rotate_left
  · have HE := hide (NO (by rintro ⟨_, _, h, _⟩; rw [hd] at h; cases h))
    clear hok NO
    subst hd
    go_wp2
    refine bodyPost_ret (v := .tuple #[dv A s.length c B p.length k room true arm, .int .i64 2]) (by simp only [results, Tryz.results24]; go_simp) rfl (OUT _ _ HE.out _ _ (KEEP _ _ ?_ _ _ rfl))
    ((repeat (refine Below.alloc ?_ (by first | exact Nat.le_refl _ | (simp; done) | (simp; omega)) _)); exact Below.refl _ _)
  by_cases hq0 : q < 0
  · have HE := hide (NO (by rintro ⟨_, _, _, h, _⟩; omega))
    clear hok NO
    subst hd
    go_wp2
    refine bodyPost_ret (v := .tuple #[dv A s.length c B p.length k room false arm, .int .i64 2]) (by simp only [results, Tryz.results24]; go_simp) rfl (OUT _ _ HE.out _ _ (KEEP _ _ ?_ _ _ rfl))
    ((repeat (refine Below.alloc ?_ (by first | exact Nat.le_refl _ | (simp; done) | (simp; omega)) _)); exact Below.refl _ _)
  by_cases hq1 : (s.length : Int) < q
  · have HE := hide (NO (by rintro ⟨_, _, _, _, h⟩; omega))
    clear hok NO
    subst hd
    go_wp2
    refine bodyPost_ret (v := .tuple #[dv A s.length c B p.length k room false arm, .int .i64 2]) (by simp only [results, Tryz.results24]; go_simp) rfl (OUT _ _ HE.out _ _ (KEEP _ _ ?_ _ _ rfl))
    ((repeat (refine Below.alloc ?_ (by first | exact Nat.le_refl _ | (simp; done) | (simp; omega)) _)); exact Below.refl _ _)
  have e1 : ctE s.length p.length room dead arm q = 0 := by unfold ctE; rw [if_pos ⟨hok, by omega, hd, by omega, by omega⟩]
  have HE : Hid (ctE s.length p.length room dead arm q = 0 ∧ ctS s (ctE s.length p.length room dead arm q) q = s.take q.toNat) := hide ⟨e1, by rw [e1]; unfold ctS; rw [if_pos rfl]⟩
  clear e1 hok NO
  subst hd
  obtain ⟨n, rfl⟩ : ∃ n : Nat, q = n := ⟨q.toNat, by omega⟩
  rw [Int.toNat_natCast] at HE
  have hsl := fun W => run_slice_to (P := Tryz.prog) 22 5 Tryz.underlying22 sizeU8 A s.length c .i64 (n : Int) (by omega) (by omega) W
  simp only [Int.toNat_natCast] at hsl
  go_wp2_with fail
  have bel : Hid (Below w.heap.size w (((w.alloc (dC A s.length c B p.length k room false arm)).alloc (.cells #[.slice none 0 0, .slice none 0 0, .int .i64 0, .bool false, .int .i64 0] 24)).alloc (dC A s.length c B p.length k room false arm))) := hide ((((Below.refl w.heap.size w).alloc (Nat.le_refl _) _).alloc (by simp) _).alloc (by simp; omega) _)
  refine (rjoin_any A n c none 0 0 (s.take n) [] _ ?c1 Reads.none_ (by omega) (by omega)).mono ?_
  case c1 =>
    have h5 := Reads.take (Reads.below hs bel.out) (q := n) (by omega)
    rw [← bv_take] at h5
    exact h5.more bel.out.size
  rintro e w5 ⟨J, j, rfl, hoJ, k5⟩
  have hP5 := Blk.below (h := ((Blk.new w 24 #[Value.slice A s.length c, .slice B p.length k, .int .i64 room, .bool false, .int .i64 arm]).alloc (.cells #[.slice none 0 0, .slice none 0 0, .int .i64 0, .bool false, .int .i64 0] 24)).alloc (dC A s.length c B p.length k room false arm)) (hb := k5) (by simp; omega)
  have hQ5 := Blk.below (h := (Blk.new (w.alloc (dC A s.length c B p.length k room false arm)) 24 #[.slice none 0 0, .slice none 0 0, .int .i64 0, .bool false, .int .i64 0]).alloc (dC A s.length c B p.length k room false arm)) (hb := k5) (by simp)
  rw [World.size_alloc] at hQ5
  have bel5 := hide (below_more bel.out (Nat.le_refl _) k5)
  have z5 := k5.size
  simp at z5
  have OJ : Hid (Rc (w.heap.size + 2) w5 J (n + 0) j (s.take n ++ [])) := hide (rc_of_own hoJ (by simp))
  rw [List.append_nil, Nat.add_zero] at OJ
  clear k5 hoJ
  obtain ⟨⟨x0, x1, x2, x3, x4⟩, y0, y1, y2, y3, y4⟩ := hQ5.five
  obtain ⟨⟨a0, a1, a2, a3, a4⟩, f0, f1, f2, f3, f4⟩ := hP5.five
  clear hQ5 hP5
  have hz5 : w.heap.size + 1 < w5.heap.size := by omega
  have hz6 : w.heap.size < w5.heap.size := by omega
  have hn0 : n + 0 = n := rfl
  go_wp2
  refine bodyPost_ret (v := .tuple #[dv J n j B p.length k room false arm, .int .i64 0]) (by simp only [results, Tryz.results24]; go_simp) rfl (OUT _ _ HE.out _ _ ?_)
  have belF := (((((bel5.out.setCell (p := ⟨w.heap.size, 0, none⟩) (by simp) (.slice J n j)).setCell (p := ⟨w.heap.size + 1, 0, none⟩) (by simp) (.slice J n j)).setCell (p := ⟨w.heap.size + 1, 1, none⟩) (by simp) (.slice B p.length k)).setCell (p := ⟨w.heap.size + 1, 2, none⟩) (by simp) (.int .i64 room)).setCell (p := ⟨w.heap.size + 1, 3, none⟩) (by simp) (.bool false)).setCell (p := ⟨w.heap.size + 1, 4, none⟩) (by simp) (.int .i64 arm)
  refine ⟨J, _, j, B, _, k, rfl, ?_, (Reads.below hp belF).more belF.size, belF⟩
  exact Rc.rd (B := w.heap.size + 2) ((((((OJ.out.far (by simp) _).far (by simp) _).far (by simp) _).far (by simp) _).far (by simp) _).far (by simp) _)

set_option maxHeartbeats 800000 in
theorem rsame_any (A : Option Addr) (n c : Nat) (B : Option Addr) (m k : Nat) (room : Int) (dead : Bool) (arm : Int) (A2 : Option Addr) (n2 c2 : Nat) (B2 : Option Addr) (m2 k2 : Nat) (s p : List UInt8) (w : World) (ha : Rd w A n s) (hb : Rd w B m p) (ha2 : Rd w A2 n2 s) (hb2 : Rd w B2 m2 p) :
    Calls Tryz.prog 36 #[dv A n c B m k room dead arm, dv A2 n2 c2 B2 m2 k2 room dead arm] w fun e w' => e = .returned (.bool true) ∧ Below w.heap.size w w' := by
  have r1 := run_string_of (P := Tryz.prog) ((w.alloc (dC A n c B m k room dead arm)).alloc (dC A2 n2 c2 B2 m2 k2 room dead arm)) _ 22 9 5 A n c s Tryz.underlying22 Tryz.underlying5 Tryz.underlying9 ((ha.alloc (Nat.le_refl _) _).alloc (by simp) _)
  have r2 := run_string_of (P := Tryz.prog) ((w.alloc (dC A n c B m k room dead arm)).alloc (dC A2 n2 c2 B2 m2 k2 room dead arm)) _ 22 9 5 B m k p Tryz.underlying22 Tryz.underlying5 Tryz.underlying9 ((hb.alloc (Nat.le_refl _) _).alloc (by simp) _)
  have r3 := run_string_of (P := Tryz.prog) ((w.alloc (dC A n c B m k room dead arm)).alloc (dC A2 n2 c2 B2 m2 k2 room dead arm)) _ 22 9 5 A2 n2 c2 s Tryz.underlying22 Tryz.underlying5 Tryz.underlying9 ((ha2.alloc (Nat.le_refl _) _).alloc (by simp) _)
  have r4 := run_string_of (P := Tryz.prog) ((w.alloc (dC A n c B m k room dead arm)).alloc (dC A2 n2 c2 B2 m2 k2 room dead arm)) _ 22 9 5 B2 m2 k2 p Tryz.underlying22 Tryz.underlying5 Tryz.underlying9 ((hb2.alloc (Nat.le_refl _) _).alloc (by simp) _)
  clear ha hb ha2 hb2
  go_enter Tryz.func36, Tryz.ntmps36
  go_wp2
  go_ret
  exact ⟨rfl, ((Below.refl _ _).alloc (Nat.le_refl _) _).alloc (by simp) _⟩

set_option maxHeartbeats 4000000 in
theorem rcrash_any (A : Option Addr) (c : Nat) (B : Option Addr) (k : Nat) (room : Int) (dead : Bool) (arm q : Int) (s p : List UInt8) (w : World) (hs : Rd w A s.length s) (hp : Rd w B p.length p) (h1 : s.length ≤ 10000) (h2 : p.length ≤ 10000) (hk : p.length ≤ k) :
    Calls Tryz.prog 35 #[dv A s.length c B p.length k room dead arm, .int .i64 q] w (RRet w room (crD dead (okD s.length p.length room arm)) (crA arm (okD s.length p.length room arm)) (crS s p (okD s.length p.length room arm) q) (crP p (okD s.length p.length room arm))) := by
  generalize hok : okD s.length p.length room arm = ok
  go_enter Tryz.func35, Tryz.ntmps35
  go_wp2_with fail
  refine (rcheck_any A _ c B _ k room dead arm _ (by omega) (by omega)).mono ?_
  rintro e w3 ⟨rfl, rfl⟩
  rw [hok]
  clear hok
  cases ok
  · have HE : Hid (crD dead false = dead ∧ crA arm false = arm ∧ crS s p false q = s ∧ crP p false = p) := hide ⟨rfl, rfl, rfl, rfl⟩
    go_wp2
    have belF : Below w.heap.size w (((w.alloc (dC A s.length c B p.length k room dead arm)).alloc (dC A s.length c B p.length k room dead arm)).alloc (dC A s.length c B p.length k room dead arm)) := (((Below.refl w.heap.size w).alloc (Nat.le_refl _) _).alloc (by simp) _).alloc (by simp; omega) _
    refine bodyPost_ret (v := dv A s.length c B p.length k room dead arm) (by simp only [results, Tryz.results35]; go_simp) rfl ⟨A, _, c, B, _, k, by rw [HE.out.1, HE.out.2.1], ?_, ?_, ?_⟩
    · rw [HE.out.2.2.1]; exact (Reads.below hs belF).more belF.size
    · rw [HE.out.2.2.2]; exact (Reads.below hp belF).more belF.size
    · ((repeat (refine Below.alloc ?_ (by first | exact Nat.le_refl _ | (simp; done) | (simp; omega)) _)); exact Below.refl _ _)
  · obtain ⟨n, hn⟩ : ∃ n, kpN p.length q = n := ⟨_, rfl⟩
    have hnl : n ≤ p.length := hn ▸ kpN_le _ _
    have HE : Hid (crD dead true = false ∧ crA arm true = -1 ∧ crS s p true q = s ++ p.take n ∧ crP p true = []) := hide ⟨rfl, rfl, by unfold crS; rw [if_pos rfl, hn], rfl⟩
    have hsl := fun W => run_slice_to (P := Tryz.prog) 22 5 Tryz.underlying22 sizeU8 B p.length k .i64 (n : Int) (by omega) (by omega) W
    simp only [Int.toNat_natCast] at hsl
    generalize hW : ((w.alloc (dC A s.length c B p.length k room dead arm)).alloc (.cells #[.slice none 0 0, .slice none 0 0, .int .i64 0, .bool false, .int .i64 0] 24)).alloc (dC A s.length c B p.length k room dead arm) = W1
    have hP : Blk W1 w.heap.size 24 #[Value.slice A s.length c, .slice B p.length k, .int .i64 room, .bool dead, .int .i64 arm] := by rw [← hW]; exact ((Blk.new w 24 _).alloc _).alloc _
    have hQ : Blk W1 (w.heap.size + 1) 24 #[.slice none 0 0, .slice none 0 0, .int .i64 0, .bool false, .int .i64 0] := by
      rw [← hW]
      have h := (Blk.new (w.alloc (dC A s.length c B p.length k room dead arm)) 24 #[.slice none 0 0, .slice none 0 0, .int .i64 0, .bool false, .int .i64 0]).alloc (dC A s.length c B p.length k room dead arm)
      rwa [World.size_alloc] at h
    have bel : Hid (Below w.heap.size w W1) := hide (by rw [← hW]; exact (((Below.refl w.heap.size w).alloc (Nat.le_refl _) _).alloc (by simp) _).alloc (by simp; omega) _)
    have zW : w.heap.size + 3 ≤ W1.heap.size := by rw [← hW]; simp
    have RA : Hid (Rd W1 A s.length s) := hide ((Reads.below hs bel.out).more bel.out.size)
    have RB : Hid (Rd W1 B n (p.take n)) := hide (by
      have h := Reads.take ((Reads.below hp bel.out).more bel.out.size) (q := n) hnl
      rwa [← bv_take] at h)
    clear hW hs hp
    have HP := hide hP
    have HQ := hide hQ
    clear hQ
    obtain ⟨⟨a0, a1, a2, a3, a4⟩, f0, f1, f2, f3, f4⟩ := hP.five
    clear hP
    have XJ := hide (rjoin_any A s.length c B n k s (p.take n) W1.drew RA.out.drew RB.out.drew (by omega) (by omega))
    have HN := hide hn
    have hne : w.heap.size ≠ w.heap.size + 1 := by omega
    by_cases c1 : q < 0
    · obtain rfl : n = 0 := by rw [← hn]; unfold kpN; rw [if_pos c1]
      clear hn
      simp only [Int.natCast_zero] at hsl
      go_upto_region 4 with (fail)
      go_region_held3 (fun W => W.cell? ⟨w.heap.size, 0, none⟩ = some (.slice A s.length c) ∧ W.cell? ⟨w.heap.size, 1, none⟩ = some (.slice B p.length k) ∧ W.cell? ⟨w.heap.size, 2, none⟩ = some (.int .i64 room))
        (first | with_reducible exact blk5a HP.out.drew | with_reducible exact blk5a HP5.out | with_reducible exact blk5a (((((HP5.out.far (p := ⟨w.heap.size + 1, 0, none⟩) hne _).far (p := ⟨w.heap.size + 1, 1, none⟩) hne _).far (p := ⟨w.heap.size + 1, 2, none⟩) hne _).far (p := ⟨w.heap.size + 1, 3, none⟩) hne _).far (p := ⟨w.heap.size + 1, 4, none⟩) hne _))
        (first
          | (go_at_call 45
             refine XJ.out.mono ?_
             rintro e w5 ⟨J, j, rfl, ho, k5⟩
             have HP5 := hide (HP.out.drew.below k5 HP.out.lt)
             have HQ5 := hide (HQ.out.drew.below k5 HQ.out.lt)
             have bel5 := hide (below_more bel.out.drew (Nat.le_refl _) k5)
             have OJ : Hid (Rc (w.heap.size + 2) w5 J (s.length + 0) j (s ++ p.take 0)) := hide (rc_of_own ho (by simp; omega))
             have z5 := k5.size
             simp at z5
             obtain ⟨⟨u0, u1, u2, u3, u4⟩, v0, v1, v2, v3, v4⟩ := HP5.out.five
             obtain ⟨⟨x0, x1, x2, x3, x4⟩, y0, y1, y2, y3, y4⟩ := HQ5.out.five
             clear k5 ho))
      all_goals
        have hz5 : w.heap.size + 1 < w5.heap.size := by omega
        go_wp2
        refine bodyPost_ret (v := dv J (s.length + 0) j none 0 0 room false (-1)) (by simp only [results, Tryz.results35]; go_simp) rfl ⟨J, _, j, none, 0, 0, by rw [HE.out.1, HE.out.2.1], ?_, ?_, ?_⟩
        · rw [HE.out.2.2.1]; exact Rc.rd (B := w.heap.size + 2) (((((OJ.out.far (by simp) _).far (by simp) _).far (by simp) _).far (by simp) _).far (by simp) _)
        · rw [HE.out.2.2.2]; exact Reads.none_
        · exact ((((bel5.out.setCell (by simp) _).setCell (by simp) _).setCell (by simp) _).setCell (by simp) _).setCell (by simp) _
    · by_cases c0 : q = 0
      · subst c0
        obtain rfl : n = 0 := by rw [← hn]; unfold kpN; rw [if_neg c1]; split <;> omega
        clear hn c1
        simp only [Int.natCast_zero] at hsl
        go_upto_region 4 with (fail)
        go_region_held3 (fun W => W.cell? ⟨w.heap.size, 0, none⟩ = some (.slice A s.length c) ∧ W.cell? ⟨w.heap.size, 1, none⟩ = some (.slice B p.length k) ∧ W.cell? ⟨w.heap.size, 2, none⟩ = some (.int .i64 room))
          (first | with_reducible exact blk5a HP.out.drew | with_reducible exact blk5a HP5.out | with_reducible exact blk5a (((((HP5.out.far (p := ⟨w.heap.size + 1, 0, none⟩) hne _).far (p := ⟨w.heap.size + 1, 1, none⟩) hne _).far (p := ⟨w.heap.size + 1, 2, none⟩) hne _).far (p := ⟨w.heap.size + 1, 3, none⟩) hne _).far (p := ⟨w.heap.size + 1, 4, none⟩) hne _))
          (first
            | (go_at_call 45
               refine XJ.out.mono ?_
               rintro e w5 ⟨J, j, rfl, ho, k5⟩
               have HP5 := hide (HP.out.drew.below k5 HP.out.lt)
               have HQ5 := hide (HQ.out.drew.below k5 HQ.out.lt)
               have bel5 := hide (below_more bel.out.drew (Nat.le_refl _) k5)
               have OJ : Hid (Rc (w.heap.size + 2) w5 J (s.length + 0) j (s ++ p.take 0)) := hide (rc_of_own ho (by simp; omega))
               have z5 := k5.size
               simp at z5
               obtain ⟨⟨u0, u1, u2, u3, u4⟩, v0, v1, v2, v3, v4⟩ := HP5.out.five
               obtain ⟨⟨x0, x1, x2, x3, x4⟩, y0, y1, y2, y3, y4⟩ := HQ5.out.five
               clear k5 ho))
        all_goals
          have hz5 : w.heap.size + 1 < w5.heap.size := by omega
          go_wp2
          refine bodyPost_ret (v := dv J (s.length + 0) j none 0 0 room false (-1)) (by simp only [results, Tryz.results35]; go_simp) rfl ⟨J, _, j, none, 0, 0, by rw [HE.out.1, HE.out.2.1], ?_, ?_, ?_⟩
          · rw [HE.out.2.2.1]; exact Rc.rd (B := w.heap.size + 2) (((((OJ.out.far (by simp) _).far (by simp) _).far (by simp) _).far (by simp) _).far (by simp) _)
          · rw [HE.out.2.2.2]; exact Reads.none_
          · exact ((((bel5.out.setCell (by simp) _).setCell (by simp) _).setCell (by simp) _).setCell (by simp) _).setCell (by simp) _
      · by_cases cp : p.length = 0
        · obtain rfl := List.eq_nil_of_length_eq_zero cp
          obtain rfl : n = 0 := by simp at hnl; exact hnl
          have c3 : 0 < q := by omega
          clear hn c1 c0 cp
          simp only [Int.natCast_zero, List.length_nil] at hsl
          simp only [List.length_nil] at *
          go_upto_region 4 with (fail)
          go_region_held3 (fun W => W.cell? ⟨w.heap.size, 0, none⟩ = some (.slice A s.length c) ∧ W.cell? ⟨w.heap.size, 1, none⟩ = some (.slice B 0 k) ∧ W.cell? ⟨w.heap.size, 2, none⟩ = some (.int .i64 room))
            (first | with_reducible exact blk5a HP.out.drew | with_reducible exact blk5a HP5.out | with_reducible exact blk5a (((((HP5.out.far (p := ⟨w.heap.size + 1, 0, none⟩) hne _).far (p := ⟨w.heap.size + 1, 1, none⟩) hne _).far (p := ⟨w.heap.size + 1, 2, none⟩) hne _).far (p := ⟨w.heap.size + 1, 3, none⟩) hne _).far (p := ⟨w.heap.size + 1, 4, none⟩) hne _))
            (first
              | (go_at_call 45
                 refine XJ.out.mono ?_
                 rintro e w5 ⟨J, j, rfl, ho, k5⟩
                 have HP5 := hide (HP.out.drew.below k5 HP.out.lt)
                 have HQ5 := hide (HQ.out.drew.below k5 HQ.out.lt)
                 have bel5 := hide (below_more bel.out.drew (Nat.le_refl _) k5)
                 have OJ : Hid (Rc (w.heap.size + 2) w5 J (s.length + 0) j (s ++ [].take 0)) := hide (rc_of_own ho (by simp; omega))
                 have z5 := k5.size
                 simp at z5
                 obtain ⟨⟨u0, u1, u2, u3, u4⟩, v0, v1, v2, v3, v4⟩ := HP5.out.five
                 obtain ⟨⟨x0, x1, x2, x3, x4⟩, y0, y1, y2, y3, y4⟩ := HQ5.out.five
                 clear k5 ho))
          all_goals
            have hz5 : w.heap.size + 1 < w5.heap.size := by omega
            go_wp2
            refine bodyPost_ret (v := dv J (s.length + 0) j none 0 0 room false (-1)) (by simp only [results, Tryz.results35]; go_simp) rfl ⟨J, _, j, none, 0, 0, by rw [HE.out.1, HE.out.2.1], ?_, ?_, ?_⟩
            · rw [HE.out.2.2.1]; exact Rc.rd (B := w.heap.size + 2) (((((OJ.out.far (by simp) _).far (by simp) _).far (by simp) _).far (by simp) _).far (by simp) _)
            · rw [HE.out.2.2.2]; exact Reads.none_
            · exact ((((bel5.out.setCell (by simp) _).setCell (by simp) _).setCell (by simp) _).setCell (by simp) _).setCell (by simp) _
        · by_cases c2 : (p.length : Int) < q
          · obtain rfl : n = p.length := by rw [← hn]; unfold kpN; rw [if_neg c1, if_pos c2]
            have c3 : (0 : Int) < p.length := by omega
            clear hn
            go_upto_region 4 with (fail)
            go_region_held3 (fun W => W.cell? ⟨w.heap.size, 0, none⟩ = some (.slice A s.length c) ∧ W.cell? ⟨w.heap.size, 1, none⟩ = some (.slice B p.length k) ∧ W.cell? ⟨w.heap.size, 2, none⟩ = some (.int .i64 room))
              (first | with_reducible exact blk5a HP.out.drew | with_reducible exact blk5a HP5.out | with_reducible exact blk5a (((((HP5.out.far (p := ⟨w.heap.size + 1, 0, none⟩) hne _).far (p := ⟨w.heap.size + 1, 1, none⟩) hne _).far (p := ⟨w.heap.size + 1, 2, none⟩) hne _).far (p := ⟨w.heap.size + 1, 3, none⟩) hne _).far (p := ⟨w.heap.size + 1, 4, none⟩) hne _))
              (first
                | (go_at_call 45
                   refine XJ.out.mono ?_
                   rintro e w5 ⟨J, j, rfl, ho, k5⟩
                   have HP5 := hide (HP.out.drew.below k5 HP.out.lt)
                   have HQ5 := hide (HQ.out.drew.below k5 HQ.out.lt)
                   have bel5 := hide (below_more bel.out.drew (Nat.le_refl _) k5)
                   have OJ : Hid (Rc (w.heap.size + 2) w5 J (s.length + p.length) j (s ++ p.take p.length)) := hide (rc_of_own ho (by simp; omega))
                   have z5 := k5.size
                   simp at z5
                   obtain ⟨⟨u0, u1, u2, u3, u4⟩, v0, v1, v2, v3, v4⟩ := HP5.out.five
                   obtain ⟨⟨x0, x1, x2, x3, x4⟩, y0, y1, y2, y3, y4⟩ := HQ5.out.five
                   clear k5 ho))
            all_goals
              have hz5 : w.heap.size + 1 < w5.heap.size := by omega
              go_wp2
              refine bodyPost_ret (v := dv J (s.length + p.length) j none 0 0 room false (-1)) (by simp only [results, Tryz.results35]; go_simp) rfl ⟨J, _, j, none, 0, 0, by rw [HE.out.1, HE.out.2.1], ?_, ?_, ?_⟩
              · rw [HE.out.2.2.1]; exact Rc.rd (B := w.heap.size + 2) (((((OJ.out.far (by simp) _).far (by simp) _).far (by simp) _).far (by simp) _).far (by simp) _)
              · rw [HE.out.2.2.2]; exact Reads.none_
              · exact ((((bel5.out.setCell (by simp) _).setCell (by simp) _).setCell (by simp) _).setCell (by simp) _).setCell (by simp) _
          · obtain rfl : q = (n : Int) := by rw [← hn]; unfold kpN; rw [if_neg c1, if_neg c2]; omega
            have c3 : (0 : Int) < n := by omega
            clear hn c1 c0
            go_upto_region 4 with (fail)
            go_region_held3 (fun W => W.cell? ⟨w.heap.size, 0, none⟩ = some (.slice A s.length c) ∧ W.cell? ⟨w.heap.size, 1, none⟩ = some (.slice B p.length k) ∧ W.cell? ⟨w.heap.size, 2, none⟩ = some (.int .i64 room))
              (first | with_reducible exact blk5a HP.out.drew | with_reducible exact blk5a HP5.out | with_reducible exact blk5a (((((HP5.out.far (p := ⟨w.heap.size + 1, 0, none⟩) hne _).far (p := ⟨w.heap.size + 1, 1, none⟩) hne _).far (p := ⟨w.heap.size + 1, 2, none⟩) hne _).far (p := ⟨w.heap.size + 1, 3, none⟩) hne _).far (p := ⟨w.heap.size + 1, 4, none⟩) hne _))
              (first
                | (go_at_call 45
                   refine XJ.out.mono ?_
                   rintro e w5 ⟨J, j, rfl, ho, k5⟩
                   have HP5 := hide (HP.out.drew.below k5 HP.out.lt)
                   have HQ5 := hide (HQ.out.drew.below k5 HQ.out.lt)
                   have bel5 := hide (below_more bel.out.drew (Nat.le_refl _) k5)
                   have OJ : Hid (Rc (w.heap.size + 2) w5 J (s.length + n) j (s ++ p.take n)) := hide (rc_of_own ho (by simp; omega))
                   have z5 := k5.size
                   simp at z5
                   obtain ⟨⟨u0, u1, u2, u3, u4⟩, v0, v1, v2, v3, v4⟩ := HP5.out.five
                   obtain ⟨⟨x0, x1, x2, x3, x4⟩, y0, y1, y2, y3, y4⟩ := HQ5.out.five
                   clear k5 ho))
            all_goals
              have hz5 : w.heap.size + 1 < w5.heap.size := by omega
              go_wp2
              refine bodyPost_ret (v := dv J (s.length + n) j none 0 0 room false (-1)) (by simp only [results, Tryz.results35]; go_simp) rfl ⟨J, _, j, none, 0, 0, by rw [HE.out.1, HE.out.2.1], ?_, ?_, ?_⟩
              · rw [HE.out.2.2.1]; exact Rc.rd (B := w.heap.size + 2) (((((OJ.out.far (by simp) _).far (by simp) _).far (by simp) _).far (by simp) _).far (by simp) _)
              · rw [HE.out.2.2.2]; exact Reads.none_
              · exact ((((bel5.out.setCell (by simp) _).setCell (by simp) _).setCell (by simp) _).setCell (by simp) _).setCell (by simp) _
end Go.Proofs.YtbbobffedgcbhaaGreatDoor.Dk
