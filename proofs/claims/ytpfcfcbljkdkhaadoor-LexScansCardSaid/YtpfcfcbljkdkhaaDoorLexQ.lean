/- heads: what must come at any rate. -/
import Derived.Test.YtpfcfcbljkdkhaaDoorLexO
import Derived.Test.YtpfcfcbljkdkhaaDoorLexP
namespace Go.Proofs.YtpfcfcbljkdkhaaDoor
open Go.RowKit
set_option linter.unusedVariables false
def ts1 : List T := [⟨1, [97], 0, [], false⟩, ⟨3, [50], 2, [], false⟩, ⟨2, [62], 3, [], false⟩, ⟨1, [98], 4, [], false⟩, ⟨4, [10], 9, [], false⟩, ⟨1, [99, 97, 116], 10, [], false⟩, ⟨2, [60, 60], 14, [], false⟩, ⟨1, [39, 69, 39], 16, [111, 110, 101, 10], true⟩, ⟨2, [124], 20, [], false⟩, ⟨1, [120], 21, [], false⟩, ⟨4, [10], 22, [], false⟩, ⟨5, [], 29, [], false⟩]
theorem sc1 : scanP [97, 32, 50, 62, 98, 32, 35, 32, 120, 10, 99, 97, 116, 32, 60, 60, 39, 69, 39, 32, 124, 120, 10, 111, 110, 101, 10, 69, 10] = (ts1, 0, 0) := by kernel_rfl
theorem sc2 : scanP [97, 32, 38] = ([], 50, 2) := by kernel_rfl
theorem sc3 : scanP [39, 97] = ([], 50, 2) := by kernel_rfl
theorem sk4 : skipP [36, 40, 97, 32, 40, 98, 41, 32, 39, 41, 39, 41, 32, 99] 0 = (12, true) := by kernel_rfl
theorem ba5 : bareP [97, 39, 98, 92, 99, 39] = ([97, 98, 99], true) := by kernel_rfl
theorem na1 : nameP [95, 97, 49] = true := by kernel_rfl
theorem na2 : nameP [49, 97] = false := by kernel_rfl
theorem scan_c1 (w : World) (hs : Std w) (h0 : 0 < w.heap.size) : Calls Tryd.prog 7 #[.string ⟨#[97, 32, 50, 62, 98, 32, 35, 32, 120, 10, 99, 97, 116, 32, 60, 60, 39, 69, 39, 32, 124, 120, 10, 111, 110, 101, 10, 69, 10]⟩] w (ScanRet w (ts1, 0, 0)) := by
  have h := scan_any [97, 32, 50, 62, 98, 32, 35, 32, 120, 10, 99, 97, 116, 32, 60, 60, 39, 69, 39, 32, 124, 120, 10, 111, 110, 101, 10, 69, 10] w hs h0 (by simp)
  rw [sc1] at h
  exact h
theorem scan_c2 (w : World) (hs : Std w) (h0 : 0 < w.heap.size) : Calls Tryd.prog 7 #[.string ⟨#[97, 32, 38]⟩] w (ScanRet w ([], 50, 2)) := by
  have h := scan_any [97, 32, 38] w hs h0 (by simp)
  rw [sc2] at h
  exact h
theorem scan_c3 (w : World) (hs : Std w) (h0 : 0 < w.heap.size) : Calls Tryd.prog 7 #[.string ⟨#[39, 97]⟩] w (ScanRet w ([], 50, 2)) := by
  have h := scan_any [39, 97] w hs h0 (by simp)
  rw [sc3] at h
  exact h
theorem skip_c4 (w : World) : Calls Tryd.prog 9 #[.string ⟨#[36, 40, 97, 32, 40, 98, 41, 32, 39, 41, 39, 41, 32, 99]⟩, .int .i64 0] w fun e w' => e = .returned (.tuple #[.int .i64 12, .bool true]) ∧ Below w.heap.size w w' := by
  have h := skipE_nat [36, 40, 97, 32, 40, 98, 41, 32, 39, 41, 39, 41, 32, 99] 0 w (by simp) (by simp)
  rw [sk4] at h
  exact h
theorem bare_c5 (w : World) : Calls Tryd.prog 11 #[.string ⟨#[97, 39, 98, 92, 99, 39]⟩] w fun e w' => e = .returned (.tuple #[.string ⟨#[97, 98, 99]⟩, .bool true]) ∧ Below w.heap.size w w' := by
  have h := bare_any [97, 39, 98, 92, 99, 39] w (by simp)
  rw [ba5] at h
  exact h
theorem name_1 (w : World) : Calls Tryd.prog 14 #[.string ⟨#[95, 97, 49]⟩] w fun e w' => e = .returned (.bool true) ∧ Below w.heap.size w w' := by
  have h := name_any [95, 97, 49] w (by simp)
  rw [na1] at h
  exact h
theorem name_2 (w : World) : Calls Tryd.prog 14 #[.string ⟨#[49, 97]⟩] w fun e w' => e = .returned (.bool false) ∧ Below w.heap.size w w' := by
  have h := name_any [49, 97] w (by simp)
  rw [na2] at h
  exact h
theorem To.below {B : Nat} {w w' : World} {A : Option Addr} {n c : Nat} {ts : List T} (h : To B w A n c ts) (hb : Below w.heap.size w w') : To B w' A n c ts := own_below h hb
theorem To.alloc {B : Nat} {w : World} {A : Option Addr} {n c : Nat} {ts : List T} (h : To B w A n c ts) (o : Obj) : To B (w.alloc o) A n c ts := World.ownsRow.alloc h o
set_option maxRecDepth 100000 in
set_option maxHeartbeats 8000000 in
theorem heads_any (w : World) (hstd : Std w) (h0 : 0 < w.heap.size) : Calls Tryd.prog 6 #[] w fun e w' => e = .returned (.bool true) ∧ Below w.heap.size w w' := by
  have HSTD := hide hstd
  have H0 := hide h0
  obtain ⟨b, hb⟩ : ∃ b, w.heap.size = b := ⟨_, rfl⟩
  have HBE := hide hb
  clear hstd
  go_enter Tryd.func6, Tryd.ntmps6
  go_wp2_with fail
  refine (scan_c1 _ HSTD.out H0.out).mono ?_
  rintro e w1 ⟨A, n, c, rfl, ht1, hb1⟩
  have HT1 := hide ht1
  have HB1 : Hid (Below b w w1) := hide (by rw [← HBE.out]; exact hb1)
  have hn1 : n = 12 := ht1.len.symm
  have hz1 : b ≤ w1.heap.size := by rw [← HBE.out]; exact hb1.size
  clear ht1 hb1 hb h0
  subst hn1
  obtain ⟨g1, hg1, _⟩ := To.addr (s := ⟨0, ts1, [], 0⟩) HT1.out (by omega)
  subst hg1
  go_wp2_with fail
  refine (scan_c2 _ (by exact HSTD.out.below (by rw [HBE.out]; exact HB1.out.alloc hz1 _)) (by simp)).mono ?_
  rintro e w2 ⟨A2, n2, c2, rfl, ht2, hb2⟩
  have hn2 : n2 = 0 := ht2.len.symm
  subst hn2
  have HT2 : Hid (To w.heap.size w2 (some ⟨g1, 0, none⟩) 12 c ts1) := hide ((HT1.out.alloc _).below hb2)
  have HP2 : Hid (Blk w2 w1.heap.size 26 #[.int .i64 0, .int .i64 0]) := hide ((Blk.new w1 26 _).below hb2 (by simp))
  have HB2 : Hid (Below b w w2) := hide ((HB1.out.alloc hz1 _).trans (hb2.mono (by simp; omega)))
  have hz2 : b ≤ w2.heap.size := by rw [← HBE.out]; exact HB2.out.size
  have hzz2 : w1.heap.size < w2.heap.size := by have := hb2.size; simp at this; omega
  clear ht2 hb2
  go_wp2_with fail
  refine (scan_c3 _ (by exact HSTD.out.below (by rw [HBE.out]; exact HB2.out.alloc hz2 _)) (by simp)).mono ?_
  rintro e w3 ⟨A3, n3, c3, rfl, ht3, hb3⟩
  have hn3 : n3 = 0 := ht3.len.symm
  subst hn3
  have HT3 : Hid (To w.heap.size w3 (some ⟨g1, 0, none⟩) 12 c ts1) := hide ((HT2.out.alloc _).below hb3)
  have HP3 : Hid (Blk w3 w1.heap.size 26 #[.int .i64 0, .int .i64 0]) := hide ((HP2.out.alloc _).below hb3 (by simp; omega))
  have HQ3 : Hid (Blk w3 w2.heap.size 26 #[.int .i64 50, .int .i64 2]) := hide ((Blk.new w2 26 _).below hb3 (by simp))
  have HB3 : Hid (Below b w w3) := hide ((HB2.out.alloc hz2 _).trans (hb3.mono (by simp; omega)))
  have hz3 : b ≤ w3.heap.size := by rw [← HBE.out]; exact HB3.out.size
  have hzz3 : w2.heap.size < w3.heap.size := by have := hb3.size; simp at this; omega
  clear ht3 hb3 HT2 HT1 HP2
  go_wp2_with fail
  refine (skip_c4 _).mono ?_
  rintro e w4 ⟨rfl, hb4⟩
  have HT4 : Hid (To w.heap.size w4 (some ⟨g1, 0, none⟩) 12 c ts1) := hide ((HT3.out.alloc _).below hb4)
  have HP4 : Hid (Blk w4 w1.heap.size 26 #[.int .i64 0, .int .i64 0]) := hide ((HP3.out.alloc _).below hb4 (by simp; omega))
  have HQ4 : Hid (Blk w4 w2.heap.size 26 #[.int .i64 50, .int .i64 2]) := hide ((HQ3.out.alloc _).below hb4 (by simp; omega))
  have HR4 : Hid (Blk w4 w3.heap.size 26 #[.int .i64 50, .int .i64 2]) := hide ((Blk.new w3 26 _).below hb4 (by simp))
  have HB4 : Hid (Below b w w4) := hide ((HB3.out.alloc hz3 _).trans (hb4.mono (by simp; omega)))
  have hzz4 : w3.heap.size < w4.heap.size := by have := hb4.size; simp at this; omega
  clear hb4 HT3 HP3 HQ3
  go_wp2_with fail
  refine (bare_c5 _).mono ?_
  rintro e w5 ⟨rfl, hb5⟩
  have ht5 : To w.heap.size w5 (some ⟨g1, 0, none⟩) 12 c ts1 := HT4.out.below hb5
  obtain ⟨p0, p1, _, _⟩ := (HP4.out.below hb5 (by omega)).two
  obtain ⟨q0, q1, _, _⟩ := (HQ4.out.below hb5 (by omega)).two
  obtain ⟨r0, r1, _, _⟩ := (HR4.out.below hb5 (by omega)).two
  have k1 : w5.cell? ⟨g1, 5, none⟩ = some (.int .i64 3) := (To.cell ht5 (q := 1) (by decide) 0 (by omega)).trans rfl
  have k2 : w5.cell? ⟨g1, 11, none⟩ = some (.string ⟨#[62]⟩) := (To.cell ht5 (q := 2) (by decide) 1 (by omega)).trans rfl
  have k4 : w5.cell? ⟨g1, 20, none⟩ = some (.int .i64 4) := (To.cell ht5 (q := 4) (by decide) 0 (by omega)).trans rfl
  have k7 : w5.cell? ⟨g1, 38, none⟩ = some (.string ⟨#[111, 110, 101, 10]⟩) := (To.cell ht5 (q := 7) (by decide) 3 (by omega)).trans rfl
  have k7' : w5.cell? ⟨g1, 39, none⟩ = some (.bool true) := (To.cell ht5 (q := 7) (by decide) 4 (by omega)).trans rfl
  have k8 : w5.cell? ⟨g1, 41, none⟩ = some (.string ⟨#[124]⟩) := (To.cell ht5 (q := 8) (by decide) 1 (by omega)).trans rfl
  have HB5 : Hid (Below b w w5) := hide (HB4.out.trans (hb5.mono (by omega)))
  clear ht5 hb5 HT4 HP4 HQ4 HR4
  go_wp2_with fail
  refine (name_1 _).mono ?_
  rintro e w6 ⟨rfl, hb6⟩
  have hz5 : b ≤ w5.heap.size := by rw [← HBE.out]; exact HB5.out.size
  have HB6 : Hid (Below b w w6) := hide (HB5.out.trans (hb6.mono hz5))
  have hz6 : b ≤ w6.heap.size := by rw [← HBE.out]; exact HB6.out.size
  clear hb6
  go_wp2_with fail
  refine (name_2 _).mono ?_
  rintro e w7 ⟨rfl, hb7⟩
  have HB7 : Hid (Below b w w7) := hide (HB6.out.trans (hb7.mono hz6))
  clear hb7
  go_wp2_with fail
  go_ret
  exact ⟨rfl, by rw [HBE.out]; exact HB7.out⟩
end Go.Proofs.YtpfcfcbljkdkhaaDoor
