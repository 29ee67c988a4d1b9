/- The law LexScans: the walk. -/
import Derived.Test.YtpfcfcbljkdkhaaDoorRefF
import Derived.Test.YtpfcfcbljkdkhaaDoorLexQ
namespace Go.Proofs.YtpfcfcbljkdkhaaDoor
open Go.RowKit
set_option linter.unusedVariables false
set_option maxHeartbeats 4000000 in
theorem lexskip_out (p : LB) (z : Int) (h : z < 0 ∨ (p.length : Int) ≤ z) (w : World) : Calls Tryd.prog 9 #[.string ⟨p.toArray⟩, .int .i64 z] w fun e w' => e = .returned (.tuple #[.int .i64 0, .bool false]) ∧ w' = w := by
  rcases h with h | h
  · go_enter Tryd.func9, Tryd.ntmps9
    go_wp2_with fail
    go_ret2
    exact ⟨rfl, rfl⟩
  · have h0 : ¬ z < 0 := by omega
    go_enter Tryd.func9, Tryd.ntmps9
    go_wp2_with fail
    go_ret2
    exact ⟨rfl, rfl⟩
set_option maxHeartbeats 4000000 in
theorem refskip_out (p : LB) (z : Int) (h : z < 0 ∨ (p.length : Int) ≤ z) (w : World) : Calls Tryd.prog 10 #[.string ⟨p.toArray⟩, .int .i64 z] w fun e w' => e = .returned (.tuple #[.int .i64 (p.length : Int), .bool false]) ∧ w' = w := by
  rcases h with h | h
  · go_enter Tryd.func10, Tryd.ntmps10
    go_wp2_with fail
    go_ret2
    exact ⟨rfl, rfl⟩
  · have h0 : ¬ z < 0 := by omega
    go_enter Tryd.func10, Tryd.ntmps10
    go_wp2_with fail
    go_ret2
    exact ⟨rfl, rfl⟩
/-- What both say of an element: they agree whether there is one, and where it ends. -/
theorem skips_any (p : LB) (hl : p.length ≤ 100000) (z : Int) : ∃ (k1 k2 : Nat) (ok : Bool), (ok = true → k1 = k2) ∧
    (∀ W, Calls Tryd.prog 9 #[.string ⟨p.toArray⟩, .int .i64 z] W fun e w' => e = .returned (.tuple #[.int .i64 (k1 : Int), .bool ok]) ∧ Below W.heap.size W w') ∧
    (∀ W, Calls Tryd.prog 10 #[.string ⟨p.toArray⟩, .int .i64 z] W fun e w' => e = .returned (.tuple #[.int .i64 (k2 : Int), .bool ok]) ∧ Below W.heap.size W w') := by
  by_cases h : z < 0 ∨ (p.length : Int) ≤ z
  · exact ⟨0, p.length, false, (fun h => by cases h), fun W => (lexskip_out p z h W).mono fun e w' ⟨h1, h2⟩ => ⟨h1, by rw [h2]; exact Below.refl _ _⟩, fun W => (refskip_out p z h W).mono fun e w' ⟨h1, h2⟩ => ⟨h1, by rw [h2]; exact Below.refl _ _⟩⟩
  · obtain ⟨i, rfl⟩ : ∃ i : Nat, z = (i : Int) := ⟨z.toNat, by omega⟩
    have hi : i < p.length := by omega
    refine ⟨if (skipP p i).2 = true then (skipP p i).1 else 0, (skipP p i).1, (skipP p i).2, (fun h => by rw [if_pos h]), fun W => skipE_nat p i W hi hl, fun W => (refskip_any p hl i W).mono fun e w' ⟨h1, h2⟩ => ⟨h1, by rw [h2]; exact Below.refl _ _⟩⟩
set_option maxRecDepth 100000 in
set_option maxHeartbeats 16000000 in
theorem scans_law (p : LB) (z : Int) (w : World) (hstd : Std w) (h0 : 0 < w.heap.size) : Calls Tryd.prog 3 #[.string ⟨p.toArray⟩, .int .i64 z] w fun e w' => e = .returned (.bool true) ∧ Below w.heap.size w w' := by
  have XH := hide (fun W (h1 : Std W) (h2 : 0 < W.heap.size) => heads_any W h1 h2)
  have HSTD := hide hstd
  by_cases hbig : 5000 < p.length
  · have k1 : (5000 : Int) < (p.length : Int) := by omega
    clear hstd
    go_enter Tryd.func3, Tryd.ntmps3
    go_wp2_with fail
    refine (XH.out _ HSTD.out h0).mono ?_
    rintro e w1 ⟨rfl, hb⟩
    have HB := hide hb
    clear hb
    go_wp2_with fail
    go_ret
    exact ⟨rfl, HB.out⟩
  have k1 : ¬ (5000 : Int) < (p.length : Int) := by omega
  have XS := hide (scan_any p w hstd h0 (by omega))
  have XR := hide (fun W => refscan_any p W (by omega))
  have hout := scanP_out p
  obtain ⟨s1, s2, ok, hs, xs1, xs2⟩ := skips_any p (by omega) z
  have XS1 := hide xs1
  have XS2 := hide xs2
  have HSK := hide hs
  have XB1 := hide (fun W => bare_any p W (by omega))
  have XB2 := hide (fun W => refbare_any p W (by omega))
  have XN1 := hide (fun W => name_any p W (by omega))
  have XN2 := hide (fun W => refname_any p W (by omega))
  obtain ⟨R, hR⟩ : ∃ R, scanP p = R := ⟨_, rfl⟩
  rw [hR] at XS XR hout
  obtain ⟨ts, code, fa⟩ := R
  have hlen : ts.length ≤ 5001 := by
    rcases hout with ⟨_, o2, _⟩ | ⟨_, _, _, o4, _⟩
    · dsimp only at o2; rw [o2]; simp
    · dsimp only at o4; omega
  obtain ⟨bt, hbt⟩ : ∃ bt, (bareP p).1 = bt := ⟨_, rfl⟩
  obtain ⟨bq, hbq⟩ : ∃ bq, (bareP p).2 = bq := ⟨_, rfl⟩
  obtain ⟨nm, hnm⟩ : ∃ nm, nameP p = nm := ⟨_, rfl⟩
  rw [hbt, hbq] at XB1 XB2
  rw [hnm] at XN1 XN2
  obtain ⟨b, hb⟩ : ∃ b, w.heap.size = b := ⟨_, rfl⟩
  have HBE := hide hb
  rw [hb] at h0
  clear hR hstd hout hb hs xs1 xs2 hbt hbq hnm
  go_enter Tryd.func3, Tryd.ntmps3
  go_wp2_with fail
  refine XS.out.mono ?_
  rintro e w1 ⟨A, n, c, rfl, ht1, hb1⟩
  dsimp only at ht1
  have hn1 : n ≤ 5001 := by rw [← ht1.len]; exact hlen
  rw [HBE.out] at ht1 hb1
  have HT1 := hide ht1
  have HB1 : Hid (Below b w w1) := hide hb1
  have hz1 : b ≤ w1.heap.size := by rw [← HBE.out]; exact hb1.size
  have HP1 := hide (Blk.new w1 26 #[.int .i64 (code : Int), .int .i64 (fa : Int)])
  clear ht1 hb1 XS
  go_wp2_with fail
  refine (XR.out _).mono ?_
  rintro e w2 ⟨A2, n2, c2, rfl, ht2, hb2⟩
  dsimp only at ht2
  have HT2 := hide ht2
  have HT1b := hide ((HT1.out.alloc _).below hb2)
  have HP2 := hide (HP1.out.below hb2 (by simp))
  have HB2 : Hid (Below b w w2) := hide ((HB1.out.alloc hz1 _).trans (hb2.mono (by simp; omega)))
  have hz2 : b ≤ w2.heap.size := by rw [← HBE.out]; exact HB2.out.size
  have hg1 : w1.heap.size < w2.heap.size := HP2.out.lt
  have HQ2 := hide (Blk.new w2 26 #[.int .i64 (code : Int), .int .i64 (fa : Int)])
  clear ht2 hb2 XR HT1 HP1 HB1
  go_wp2_with fail
  obtain ⟨W3, hW3⟩ : ∃ W, w2.alloc (.cells #[.int .i64 (code : Int), .int .i64 (fa : Int)] 26) = W := ⟨_, rfl⟩
  have HT3 := hide (HT1b.out.alloc (.cells #[.int .i64 (code : Int), .int .i64 (fa : Int)] 26))
  have HU3 := hide (HT2.out.alloc (.cells #[.int .i64 (code : Int), .int .i64 (fa : Int)] 26))
  have HP3 := hide (HP2.out.alloc (.cells #[.int .i64 (code : Int), .int .i64 (fa : Int)] 26))
  have HB3 := hide (HB2.out.alloc hz2 (.cells #[.int .i64 (code : Int), .int .i64 (fa : Int)] 26))
  rw [hW3] at HT3 HU3 HP3 HB3 HQ2
  try rw [hW3]
  clear hW3 HT1b HT2 HP2 HB2
  refine (XS1.out _).mono ?_
  rintro e w4 ⟨rfl, hb4⟩
  have HT4 := hide (HT3.out.below hb4)
  have HU4 := hide (HU3.out.below hb4)
  have HP4 := hide (HP3.out.below hb4 HP3.out.lt)
  have HQ4 := hide (HQ2.out.below hb4 HQ2.out.lt)
  have HB4 : Hid (Below b w w4) := hide (HB3.out.trans (hb4.mono (by rw [← HBE.out]; exact HB3.out.size)))
  clear hb4 HT3 HU3 HP3 HQ2 HB3 XS1
  go_wp2_with fail
  refine (XS2.out _).mono ?_
  rintro e w5 ⟨rfl, hb4⟩
  have HT5 := hide (HT4.out.below hb4)
  have HU5 := hide (HU4.out.below hb4)
  have HP5 := hide (HP4.out.below hb4 HP4.out.lt)
  have HQ5 := hide (HQ4.out.below hb4 HQ4.out.lt)
  have HB5 : Hid (Below b w w5) := hide (HB4.out.trans (hb4.mono (by rw [← HBE.out]; exact HB4.out.size)))
  clear hb4 HT4 HU4 HP4 HQ4 HB4 XS2
  go_wp2_with fail
  refine (XB1.out _).mono ?_
  rintro e w6 ⟨rfl, hb4⟩
  have HT6 := hide (HT5.out.below hb4)
  have HU6 := hide (HU5.out.below hb4)
  have HP6 := hide (HP5.out.below hb4 HP5.out.lt)
  have HQ6 := hide (HQ5.out.below hb4 HQ5.out.lt)
  have HB6 : Hid (Below b w w6) := hide (HB5.out.trans (hb4.mono (by rw [← HBE.out]; exact HB5.out.size)))
  clear hb4 HT5 HU5 HP5 HQ5 HB5 XB1
  go_wp2_with fail
  refine (XB2.out _).mono ?_
  rintro e w7 ⟨rfl, hb4⟩
  have HT7 := hide (HT6.out.below hb4)
  have HU7 := hide (HU6.out.below hb4)
  have HP7 := hide (HP6.out.below hb4 HP6.out.lt)
  have HQ7 := hide (HQ6.out.below hb4 HQ6.out.lt)
  have HB7 : Hid (Below b w w7) := hide (HB6.out.trans (hb4.mono (by rw [← HBE.out]; exact HB6.out.size)))
  clear hb4 HT6 HU6 HP6 HQ6 HB6 XB2
  go_wp2_with fail
  refine (toks_any _ HT7.out HU7.out (by omega)).mono ?_
  rintro e w8 ⟨rfl, hb4⟩
  obtain ⟨p0, p1, _, _⟩ := (HP7.out.below hb4 HP7.out.lt).two
  obtain ⟨q0, q1, _, _⟩ := (HQ7.out.below hb4 HQ7.out.lt).two
  have HB8 : Hid (Below b w w8) := hide (HB7.out.trans (hb4.mono (by rw [← HBE.out]; exact HB7.out.size)))
  have hgz : w1.heap.size < w8.heap.size := (HP7.out.below hb4 HP7.out.lt).lt
  have hgq : w2.heap.size < w8.heap.size := (HQ7.out.below hb4 HQ7.out.lt).lt
  have HTT := hide HT7
  clear hb4 HT7 HU7 HP7 HQ7 HB7 HTT
  have hsk : ok = true → ((s1 : Int) == (s2 : Int)) = true := fun h => by rw [beq_iff_eq, HSK.out h]
  cases ok with
  | true =>
    have hs := hsk rfl
    clear hsk HSK
    go_wp2_with fail
    refine (XN1.out _).mono ?_
    rintro e w9 ⟨rfl, hb9⟩
    have HB9 : Hid (Below b w w9) := hide (HB8.out.trans (hb9.mono (by rw [← HBE.out]; exact HB8.out.size)))
    clear hb9
    go_wp2_with fail
    refine (XN2.out _).mono ?_
    rintro e w10 ⟨rfl, hb9⟩
    have HB10 : Hid (Below b w w10) := hide (HB9.out.trans (hb9.mono (by rw [← HBE.out]; exact HB9.out.size)))
    have hzz : 0 < w10.heap.size := by have := HB10.out.size; have := HBE.out; omega
    clear hb9
    go_wp2_with fail
    refine (XH.out _ (by exact HSTD.out.below (by rw [HBE.out]; exact HB10.out)) hzz).mono ?_
    rintro e w11 ⟨rfl, hb9⟩
    have HB11 : Hid (Below b w w11) := hide (HB10.out.trans (hb9.mono (by rw [← HBE.out]; exact HB10.out.size)))
    clear hb9
    go_wp2_with fail
    go_ret
    exact ⟨rfl, by rw [HBE.out]; exact HB11.out⟩
  | false =>
    clear hsk HSK
    go_wp2_with fail
    refine (XN1.out _).mono ?_
    rintro e w9 ⟨rfl, hb9⟩
    have HB9 : Hid (Below b w w9) := hide (HB8.out.trans (hb9.mono (by rw [← HBE.out]; exact HB8.out.size)))
    clear hb9
    go_wp2_with fail
    refine (XN2.out _).mono ?_
    rintro e w10 ⟨rfl, hb9⟩
    have HB10 : Hid (Below b w w10) := hide (HB9.out.trans (hb9.mono (by rw [← HBE.out]; exact HB9.out.size)))
    have hzz : 0 < w10.heap.size := by have := HB10.out.size; have := HBE.out; omega
    clear hb9
    go_wp2_with fail
    refine (XH.out _ (by exact HSTD.out.below (by rw [HBE.out]; exact HB10.out)) hzz).mono ?_
    rintro e w11 ⟨rfl, hb9⟩
    have HB11 : Hid (Below b w w11) := hide (HB10.out.trans (hb9.mono (by rw [← HBE.out]; exact HB10.out.size)))
    clear hb9
    go_wp2_with fail
    go_ret
    exact ⟨rfl, by rw [HBE.out]; exact HB11.out⟩
end Go.Proofs.YtpfcfcbljkdkhaaDoor
