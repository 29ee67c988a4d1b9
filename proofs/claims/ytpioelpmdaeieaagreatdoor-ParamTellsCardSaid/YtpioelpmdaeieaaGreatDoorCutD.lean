/- The contract of Cut. -/
import Derived.Test.YtpioelpmdaeieaaGreatDoorCutC
namespace Go.Proofs.YtpioelpmdaeieaaGreatDoor
open Go.RowKit
set_option linter.unusedVariables false
set_option maxRecDepth 100000 in
set_option maxHeartbeats 4000000 in
theorem cut_a (v p : LB) (hv : v.length ≤ 1024) (w : World) : Calls Tryz.prog 25 #[.string ⟨v.toArray⟩, .string ⟨#[35]⟩, .string ⟨p.toArray⟩] w fun e w' => e = .returned (.string ⟨(v.drop (shortN (preF v p) v.length)).toArray⟩) ∧ Below w.heap.size w w' := by
  obtain ⟨m, hm⟩ : ∃ m, shortN (preF v p) v.length = m := ⟨_, rfl⟩
  have hmn : m ≤ v.length := by rw [← hm]; exact short_le _ _
  have X0 := fun (V : World) (bp bv : Nat) => short1_any v p bp bv hv V
  rw [hm] at X0
  rw [hm]
  clear hm
  have kv : ¬ (1024 : Int) < (v.length : Int) := by omega
  have hsl := fun V => sl_from v m hmn V
  generalize v.drop m = out at *
  obtain ⟨z, hz⟩ : ∃ z, w.heap.size = z := ⟨_, rfl⟩
  obtain ⟨W3, hW⟩ : ∃ W, ((w.alloc (.cells #[.string ⟨v.toArray⟩] 9)).alloc (.cells #[.string ⟨p.toArray⟩] 9)).alloc (.cells #[.int .i64 (v.length : Int)] 3) = W := ⟨_, rfl⟩
  have hs3 : W3.heap.size = z + 3 := by rw [← hW, ← hz]; simp
  have c1 : W3.cell? ⟨z, 0, none⟩ = some (.string ⟨v.toArray⟩) := by
    rw [← hW, ← hz]
    exact (World.cell?_alloc_lt _ _ _ (by simp; omega)).trans ((World.cell?_alloc_lt _ _ _ (by simp)).trans ((Blk.new w 9 #[.string ⟨v.toArray⟩]).cell 0))
  have c2 : W3.cell? ⟨z + 1, 0, none⟩ = some (.string ⟨p.toArray⟩) := by
    rw [← hW, ← hz]
    have := (Blk.new (w.alloc (.cells #[.string ⟨v.toArray⟩] 9)) 9 #[.string ⟨p.toArray⟩]).cell 0
    rw [World.size_alloc] at this
    exact (World.cell?_alloc_lt _ _ _ (by simp)).trans this
  have c3 : W3.cell? ⟨z + 2, 0, none⟩ = some (.int .i64 (v.length : Int)) := by
    rw [← hW, ← hz]
    have := (Blk.new ((w.alloc (.cells #[.string ⟨v.toArray⟩] 9)).alloc (.cells #[.string ⟨p.toArray⟩] 9)) 3 #[.int .i64 (v.length : Int)]).cell 0
    rw [World.size_alloc, World.size_alloc] at this
    exact this
  have hB3 : Below z w W3 := by
    rw [← hW, ← hz]
    exact (((Below.refl _ w).alloc (Nat.le_refl _) _).alloc (by simp) _).alloc (by simp; omega) _
  have HC1 := hide c1
  have HC2 := hide c2
  have HC3 := hide c3
  have HB3 := hide hB3
  have HZ := hide hz
  have HS3 := hide hs3
  have X : Hid (∀ V, Below W3.heap.size W3 V → Calls Tryz.prog 45 #[.int .i64 (v.length : Int), .func (.func 42) #[] #[.pointer (some ⟨z + 1, 0, none⟩), .pointer (some ⟨z, 0, none⟩)]] V (Found V v.length m)) := hide (fun V hb => by
    have := hb.size
    exact X0 V (z + 1) z (by omega) (by omega) ((hb.cell (p := ⟨z + 1, 0, none⟩) (by show z + 1 < _; omega)).trans HC2.out) ((hb.cell (p := ⟨z, 0, none⟩) (by show z < _; omega)).trans HC1.out))
  clear c1 c2 c3 hB3 hs3 X0
  go_enter Tryz.func25, Tryz.ntmps25
  go_upto_region 8 with (fail)
  try simp only [World.size_alloc, hz]
  try rw [hW]
  clear hW hz
  have kW := hide ((Below.refl W3.heap.size W3).drew)
  go_region_held3 (fun V => V.cell? ⟨z, 0, none⟩ = some (.string ⟨v.toArray⟩) ∧ V.cell? ⟨z + 2, 0, none⟩ = some (.int .i64 (v.length : Int)))
    (with_reducible exact ⟨(kW.out.cell (p := ⟨z, 0, none⟩) (by have := HS3.out; show z < _; omega)).trans HC1.out, (kW.out.cell (p := ⟨z + 2, 0, none⟩) (by have := HS3.out; show z + 2 < _; omega)).trans HC3.out⟩)
    (first
      | (go_at_call 45; with_reducible refine (X.out _ kW.out).mono ?_
         rintro e wx ⟨r, rfl, hr1, hr2, hr3, kx⟩
         have kW := hide (below_more kW.out (Nat.le_refl _) kx)
         clear kx))
  all_goals
    go_wp2_with fail
    go_ret
    exact ⟨rfl, by rw [HZ.out]; exact below_more HB3.out (by have := HZ.out; omega) kW.out⟩
set_option maxRecDepth 100000 in
set_option maxHeartbeats 4000000 in
theorem cut_b (v p : LB) (hv : v.length ≤ 1024) (w : World) : Calls Tryz.prog 25 #[.string ⟨v.toArray⟩, .string ⟨#[35, 35]⟩, .string ⟨p.toArray⟩] w fun e w' => e = .returned (.string ⟨(v.drop (longN (preF v p) v.length)).toArray⟩) ∧ Below w.heap.size w w' := by
  obtain ⟨m, hm⟩ : ∃ m, longN (preF v p) v.length = m := ⟨_, rfl⟩
  have hmn : m ≤ v.length := by rw [← hm]; exact long_le _ _
  have X0 := fun (V : World) (bp bv : Nat) => long1_any v p bp bv hv V
  rw [hm] at X0
  rw [hm]
  clear hm
  have kv : ¬ (1024 : Int) < (v.length : Int) := by omega
  have hsl := fun V => sl_from v m hmn V
  generalize v.drop m = out at *
  obtain ⟨z, hz⟩ : ∃ z, w.heap.size = z := ⟨_, rfl⟩
  obtain ⟨W3, hW⟩ : ∃ W, ((w.alloc (.cells #[.string ⟨v.toArray⟩] 9)).alloc (.cells #[.string ⟨p.toArray⟩] 9)).alloc (.cells #[.int .i64 (v.length : Int)] 3) = W := ⟨_, rfl⟩
  have hs3 : W3.heap.size = z + 3 := by rw [← hW, ← hz]; simp
  have c1 : W3.cell? ⟨z, 0, none⟩ = some (.string ⟨v.toArray⟩) := by
    rw [← hW, ← hz]
    exact (World.cell?_alloc_lt _ _ _ (by simp; omega)).trans ((World.cell?_alloc_lt _ _ _ (by simp)).trans ((Blk.new w 9 #[.string ⟨v.toArray⟩]).cell 0))
  have c2 : W3.cell? ⟨z + 1, 0, none⟩ = some (.string ⟨p.toArray⟩) := by
    rw [← hW, ← hz]
    have := (Blk.new (w.alloc (.cells #[.string ⟨v.toArray⟩] 9)) 9 #[.string ⟨p.toArray⟩]).cell 0
    rw [World.size_alloc] at this
    exact (World.cell?_alloc_lt _ _ _ (by simp)).trans this
  have c3 : W3.cell? ⟨z + 2, 0, none⟩ = some (.int .i64 (v.length : Int)) := by
    rw [← hW, ← hz]
    have := (Blk.new ((w.alloc (.cells #[.string ⟨v.toArray⟩] 9)).alloc (.cells #[.string ⟨p.toArray⟩] 9)) 3 #[.int .i64 (v.length : Int)]).cell 0
    rw [World.size_alloc, World.size_alloc] at this
    exact this
  have hB3 : Below z w W3 := by
    rw [← hW, ← hz]
    exact (((Below.refl _ w).alloc (Nat.le_refl _) _).alloc (by simp) _).alloc (by simp; omega) _
  have HC1 := hide c1
  have HC2 := hide c2
  have HC3 := hide c3
  have HB3 := hide hB3
  have HZ := hide hz
  have HS3 := hide hs3
  have X : Hid (∀ V, Below W3.heap.size W3 V → Calls Tryz.prog 46 #[.int .i64 (v.length : Int), .func (.func 42) #[] #[.pointer (some ⟨z + 1, 0, none⟩), .pointer (some ⟨z, 0, none⟩)]] V (Found V v.length m)) := hide (fun V hb => by
    have := hb.size
    exact X0 V (z + 1) z (by omega) (by omega) ((hb.cell (p := ⟨z + 1, 0, none⟩) (by show z + 1 < _; omega)).trans HC2.out) ((hb.cell (p := ⟨z, 0, none⟩) (by show z < _; omega)).trans HC1.out))
  clear c1 c2 c3 hB3 hs3 X0
  go_enter Tryz.func25, Tryz.ntmps25
  go_upto_region 10 with (fail)
  try simp only [World.size_alloc, hz]
  try rw [hW]
  clear hW hz
  have kW := hide ((Below.refl W3.heap.size W3).drew)
  go_region_held3 (fun V => V.cell? ⟨z, 0, none⟩ = some (.string ⟨v.toArray⟩) ∧ V.cell? ⟨z + 2, 0, none⟩ = some (.int .i64 (v.length : Int)))
    (with_reducible exact ⟨(kW.out.cell (p := ⟨z, 0, none⟩) (by have := HS3.out; show z < _; omega)).trans HC1.out, (kW.out.cell (p := ⟨z + 2, 0, none⟩) (by have := HS3.out; show z + 2 < _; omega)).trans HC3.out⟩)
    (first
      | (go_at_call 46; with_reducible refine (X.out _ kW.out).mono ?_
         rintro e wx ⟨r, rfl, hr1, hr2, hr3, kx⟩
         have kW := hide (below_more kW.out (Nat.le_refl _) kx)
         clear kx))
  all_goals
    go_wp2_with fail
    go_ret
    exact ⟨rfl, by rw [HZ.out]; exact below_more HB3.out (by have := HZ.out; omega) kW.out⟩
set_option maxRecDepth 100000 in
set_option maxHeartbeats 4000000 in
theorem cut_c (v p : LB) (hv : v.length ≤ 1024) (w : World) : Calls Tryz.prog 25 #[.string ⟨v.toArray⟩, .string ⟨#[37]⟩, .string ⟨p.toArray⟩] w fun e w' => e = .returned (.string ⟨(v.take (v.length - shortN (sufF v p) v.length)).toArray⟩) ∧ Below w.heap.size w w' := by
  obtain ⟨m, hm⟩ : ∃ m, shortN (sufF v p) v.length = m := ⟨_, rfl⟩
  have hmn : m ≤ v.length := by rw [← hm]; exact short_le _ _
  have X0 := fun (V : World) (bp bv bn : Nat) => short2_any v p bp bv bn hv V
  rw [hm] at X0
  rw [hm]
  clear hm
  have kv : ¬ (1024 : Int) < (v.length : Int) := by omega
  have hsl := fun V => sl_to v (v.length - m) ((v.length : Int) - (m : Int)) (by omega) (by omega) V
  have kw : IntKind.i64.wrap ((v.length : Int) - (m : Int)) = (v.length : Int) - (m : Int) := by simp [IntKind.wrap, IntKind.bits, IntKind.signed]; omega
  generalize v.take (v.length - m) = out at *
  obtain ⟨z, hz⟩ : ∃ z, w.heap.size = z := ⟨_, rfl⟩
  obtain ⟨W3, hW⟩ : ∃ W, ((w.alloc (.cells #[.string ⟨v.toArray⟩] 9)).alloc (.cells #[.string ⟨p.toArray⟩] 9)).alloc (.cells #[.int .i64 (v.length : Int)] 3) = W := ⟨_, rfl⟩
  have hs3 : W3.heap.size = z + 3 := by rw [← hW, ← hz]; simp
  have c1 : W3.cell? ⟨z, 0, none⟩ = some (.string ⟨v.toArray⟩) := by
    rw [← hW, ← hz]
    exact (World.cell?_alloc_lt _ _ _ (by simp; omega)).trans ((World.cell?_alloc_lt _ _ _ (by simp)).trans ((Blk.new w 9 #[.string ⟨v.toArray⟩]).cell 0))
  have c2 : W3.cell? ⟨z + 1, 0, none⟩ = some (.string ⟨p.toArray⟩) := by
    rw [← hW, ← hz]
    have := (Blk.new (w.alloc (.cells #[.string ⟨v.toArray⟩] 9)) 9 #[.string ⟨p.toArray⟩]).cell 0
    rw [World.size_alloc] at this
    exact (World.cell?_alloc_lt _ _ _ (by simp)).trans this
  have c3 : W3.cell? ⟨z + 2, 0, none⟩ = some (.int .i64 (v.length : Int)) := by
    rw [← hW, ← hz]
    have := (Blk.new ((w.alloc (.cells #[.string ⟨v.toArray⟩] 9)).alloc (.cells #[.string ⟨p.toArray⟩] 9)) 3 #[.int .i64 (v.length : Int)]).cell 0
    rw [World.size_alloc, World.size_alloc] at this
    exact this
  have hB3 : Below z w W3 := by
    rw [← hW, ← hz]
    exact (((Below.refl _ w).alloc (Nat.le_refl _) _).alloc (by simp) _).alloc (by simp; omega) _
  have HC1 := hide c1
  have HC2 := hide c2
  have HC3 := hide c3
  have HB3 := hide hB3
  have HZ := hide hz
  have HS3 := hide hs3
  have X : Hid (∀ V, Below W3.heap.size W3 V → Calls Tryz.prog 45 #[.int .i64 (v.length : Int), .func (.func 44) #[] #[.pointer (some ⟨z + 1, 0, none⟩), .pointer (some ⟨z, 0, none⟩), .pointer (some ⟨z + 2, 0, none⟩)]] V (Found V v.length m)) := hide (fun V hb => by
    have := hb.size
    exact X0 V (z + 1) z (z + 2) (by omega) (by omega) (by omega) ((hb.cell (p := ⟨z + 1, 0, none⟩) (by show z + 1 < _; omega)).trans HC2.out) ((hb.cell (p := ⟨z, 0, none⟩) (by show z < _; omega)).trans HC1.out) ((hb.cell (p := ⟨z + 2, 0, none⟩) (by show z + 2 < _; omega)).trans HC3.out))
  clear c1 c2 c3 hB3 hs3 X0
  go_enter Tryz.func25, Tryz.ntmps25
  go_upto_region 12 with (fail)
  try simp only [World.size_alloc, hz]
  try rw [hW]
  clear hW hz
  have kW := hide ((Below.refl W3.heap.size W3).drew)
  go_region_held3 (fun V => V.cell? ⟨z, 0, none⟩ = some (.string ⟨v.toArray⟩) ∧ V.cell? ⟨z + 2, 0, none⟩ = some (.int .i64 (v.length : Int)))
    (with_reducible exact ⟨(kW.out.cell (p := ⟨z, 0, none⟩) (by have := HS3.out; show z < _; omega)).trans HC1.out, (kW.out.cell (p := ⟨z + 2, 0, none⟩) (by have := HS3.out; show z + 2 < _; omega)).trans HC3.out⟩)
    (first
      | (go_at_call 45; with_reducible refine (X.out _ kW.out).mono ?_
         rintro e wx ⟨r, rfl, hr1, hr2, hr3, kx⟩
         have kW := hide (below_more kW.out (Nat.le_refl _) kx)
         clear kx))
  all_goals
    go_wp2_with fail
    go_ret
    exact ⟨rfl, by rw [HZ.out]; exact below_more HB3.out (by have := HZ.out; omega) kW.out⟩
set_option maxRecDepth 100000 in
set_option maxHeartbeats 4000000 in
theorem cut_d (v p : LB) (hv : v.length ≤ 1024) (w : World) : Calls Tryz.prog 25 #[.string ⟨v.toArray⟩, .string ⟨#[37, 37]⟩, .string ⟨p.toArray⟩] w fun e w' => e = .returned (.string ⟨(v.take (v.length - longN (sufF v p) v.length)).toArray⟩) ∧ Below w.heap.size w w' := by
  obtain ⟨m, hm⟩ : ∃ m, longN (sufF v p) v.length = m := ⟨_, rfl⟩
  have hmn : m ≤ v.length := by rw [← hm]; exact long_le _ _
  have X0 := fun (V : World) (bp bv bn : Nat) => long2_any v p bp bv bn hv V
  rw [hm] at X0
  rw [hm]
  clear hm
  have kv : ¬ (1024 : Int) < (v.length : Int) := by omega
  have hsl := fun V => sl_to v (v.length - m) ((v.length : Int) - (m : Int)) (by omega) (by omega) V
  have kw : IntKind.i64.wrap ((v.length : Int) - (m : Int)) = (v.length : Int) - (m : Int) := by simp [IntKind.wrap, IntKind.bits, IntKind.signed]; omega
  generalize v.take (v.length - m) = out at *
  obtain ⟨z, hz⟩ : ∃ z, w.heap.size = z := ⟨_, rfl⟩
  obtain ⟨W3, hW⟩ : ∃ W, ((w.alloc (.cells #[.string ⟨v.toArray⟩] 9)).alloc (.cells #[.string ⟨p.toArray⟩] 9)).alloc (.cells #[.int .i64 (v.length : Int)] 3) = W := ⟨_, rfl⟩
  have hs3 : W3.heap.size = z + 3 := by rw [← hW, ← hz]; simp
  have c1 : W3.cell? ⟨z, 0, none⟩ = some (.string ⟨v.toArray⟩) := by
    rw [← hW, ← hz]
    exact (World.cell?_alloc_lt _ _ _ (by simp; omega)).trans ((World.cell?_alloc_lt _ _ _ (by simp)).trans ((Blk.new w 9 #[.string ⟨v.toArray⟩]).cell 0))
  have c2 : W3.cell? ⟨z + 1, 0, none⟩ = some (.string ⟨p.toArray⟩) := by
    rw [← hW, ← hz]
    have := (Blk.new (w.alloc (.cells #[.string ⟨v.toArray⟩] 9)) 9 #[.string ⟨p.toArray⟩]).cell 0
    rw [World.size_alloc] at this
    exact (World.cell?_alloc_lt _ _ _ (by simp)).trans this
  have c3 : W3.cell? ⟨z + 2, 0, none⟩ = some (.int .i64 (v.length : Int)) := by
    rw [← hW, ← hz]
    have := (Blk.new ((w.alloc (.cells #[.string ⟨v.toArray⟩] 9)).alloc (.cells #[.string ⟨p.toArray⟩] 9)) 3 #[.int .i64 (v.length : Int)]).cell 0
    rw [World.size_alloc, World.size_alloc] at this
    exact this
  have hB3 : Below z w W3 := by
    rw [← hW, ← hz]
    exact (((Below.refl _ w).alloc (Nat.le_refl _) _).alloc (by simp) _).alloc (by simp; omega) _
  have HC1 := hide c1
  have HC2 := hide c2
  have HC3 := hide c3
  have HB3 := hide hB3
  have HZ := hide hz
  have HS3 := hide hs3
  have X : Hid (∀ V, Below W3.heap.size W3 V → Calls Tryz.prog 46 #[.int .i64 (v.length : Int), .func (.func 44) #[] #[.pointer (some ⟨z + 1, 0, none⟩), .pointer (some ⟨z, 0, none⟩), .pointer (some ⟨z + 2, 0, none⟩)]] V (Found V v.length m)) := hide (fun V hb => by
    have := hb.size
    exact X0 V (z + 1) z (z + 2) (by omega) (by omega) (by omega) ((hb.cell (p := ⟨z + 1, 0, none⟩) (by show z + 1 < _; omega)).trans HC2.out) ((hb.cell (p := ⟨z, 0, none⟩) (by show z < _; omega)).trans HC1.out) ((hb.cell (p := ⟨z + 2, 0, none⟩) (by show z + 2 < _; omega)).trans HC3.out))
  clear c1 c2 c3 hB3 hs3 X0
  go_enter Tryz.func25, Tryz.ntmps25
  go_upto_region 14 with (fail)
  try simp only [World.size_alloc, hz]
  try rw [hW]
  clear hW hz
  have kW := hide ((Below.refl W3.heap.size W3).drew)
  go_region_held3 (fun V => V.cell? ⟨z, 0, none⟩ = some (.string ⟨v.toArray⟩) ∧ V.cell? ⟨z + 2, 0, none⟩ = some (.int .i64 (v.length : Int)))
    (with_reducible exact ⟨(kW.out.cell (p := ⟨z, 0, none⟩) (by have := HS3.out; show z < _; omega)).trans HC1.out, (kW.out.cell (p := ⟨z + 2, 0, none⟩) (by have := HS3.out; show z + 2 < _; omega)).trans HC3.out⟩)
    (first
      | (go_at_call 46; with_reducible refine (X.out _ kW.out).mono ?_
         rintro e wx ⟨r, rfl, hr1, hr2, hr3, kx⟩
         have kW := hide (below_more kW.out (Nat.le_refl _) kx)
         clear kx))
  all_goals
    go_wp2_with fail
    go_ret
    exact ⟨rfl, by rw [HZ.out]; exact below_more HB3.out (by have := HZ.out; omega) kW.out⟩
end Go.Proofs.YtpioelpmdaeieaaGreatDoor
