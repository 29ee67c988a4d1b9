/- heads. -/
import Derived.Test.YtlcoapignfmgcaaGreatDoorNmHa
import Derived.Lib.SlBytesConst
namespace Go.Proofs.YtlcoapignfmgcaaGreatDoor
open Go.RowKit
set_option linter.unusedVariables false
theorem rd_blkF {w : World} {g n : Nat} {t : TypeId} {bs : List UInt8} {fr : Nat × Nat} (h : w.heap[g]? = some (.cells (bv bs).toArray t fr)) (hn : bs.length = n) (hg : g < w.heap.size) : Rd w (some ⟨g, 0, none⟩) n bs := by
  refine ⟨by rw [bv_length, hn, Nat.mul_one], fun _ => ⟨_, rfl, hg, fun j v hj => ?_⟩⟩
  rw [at_add, Nat.zero_add, cell_of_row w g j _ t fr h]
  simpa using hj
set_option maxRecDepth 100000 in
set_option maxHeartbeats 16000000 in
theorem heads_n (w : World) (hS : Std w) : Calls Tryz.prog 8 #[] w fun e w' => e = .returned (.bool true) ∧ Below w.heap.size w w' := by
  have HST := hide hS
  clear hS
  go_enter Tryz.func8, Tryz.ntmps8
  go_wp2_with fail
  refine (rnew_any w).mono ?_
  rintro e w1 ⟨rfl, hF, hb1⟩
  obtain ⟨fb, hfb⟩ : ∃ b, w1.heap.size = b := ⟨_, rfl⟩
  obtain ⟨V1, hV1⟩ : ∃ W, w1.alloc (.cells #[.slice (some ⟨w.heap.size + 1, 0, none⟩) 1 1] 24) = W := ⟨_, rfl⟩
  have HD1 : Hid (Hd w V1 fb (some ⟨w.heap.size + 1, 0, none⟩) 1 1 [rootV] K0) := hide (by
    have hb2 : Below w1.heap.size w1 V1 := by rw [← hV1]; exact on_alloc _ _
    refine ⟨by rw [← hfb, ← hV1]; exact Blk.new w1 _ _, (hF.below hb2).more hb2.size, rfl, hb1.trans (hb2.mono hb1.size), by rw [← hfb]; exact hb1.size, fun x hx => ?_⟩
    obtain rfl := List.mem_singleton.1 hx
    exact Nat.le_refl _)
  have HZ0 := hide (hb1.size)
  have k0 := one_ HD1.out.blk
  clear hF hb1
  have XC := hide (cr1 HD1.out)
  go_wp2_with (first | rw [hV1] | rw [hfb])
  refine XC.out.mono ?_
  rintro e w2 ⟨L2, n2, c2, X2, rfl, hO, hR, hb⟩
  have HD2 := hide (HD1.out.put hO hR hb)
  have hbb := HD1.out.blk.below hb HD1.out.blk.lt
  obtain ⟨V2, hV2⟩ : ∃ W, w2.setCell ⟨fb, 0, none⟩ (.slice L2 n2 c2) = W := ⟨_, rfl⟩
  rw [hV2] at HD2
  have kz := hbb.frozen 0
  have ky := one_ hbb
  have kx := hbb.lt
  clear k0
  have k0 := one_ HD2.out.blk
  clear hO hR hb hbb XC HD1
  try clear hV1 hfb
  have XC := hide (cr2 HD2.out)
  go_wp2_with (first | rw [hV2])
  refine XC.out.mono ?_
  rintro e w3 ⟨L3, n3, c3, X3, rfl, hO, hR, hb⟩
  have HD3 := hide (HD2.out.put hO hR hb)
  have hbb := HD2.out.blk.below hb HD2.out.blk.lt
  obtain ⟨V3, hV3⟩ : ∃ W, w3.setCell ⟨fb, 0, none⟩ (.slice L3 n3 c3) = W := ⟨_, rfl⟩
  rw [hV3] at HD3
  have kz := hbb.frozen 0
  have ky := one_ hbb
  have kx := hbb.lt
  clear k0
  have k0 := one_ HD3.out.blk
  clear hO hR hb hbb XC HD2
  obtain ⟨W3, hW3⟩ : ∃ W, V3.alloc (.cells #[.int .u8 120, .int .u8 121] 5 (2, 3)) = W := ⟨_, rfl⟩
  have hcb : (convert 25 25 (.slice (some ⟨V3.heap.size, 0, none⟩) 2 2)).run Tryz.prog (V3.alloc (.cells #[.int .u8 120, .int .u8 121] 5)) = .ok (.slice (some ⟨V3.heap.size, 0, none⟩) 2 2) W3 := by
    rw [← hW3]
    exact Lib.run_convert_bytes_const V3 25 5 #[.int .u8 120, .int .u8 121] 2 2 Tryz.underlying25 Tryz.underlying5
  have hbw : Below V3.heap.size V3 W3 := by rw [← hW3]; exact on_alloc _ _
  have HD4 := hide (HD3.out.below hbw)
  have hA : Rd W3 (some ⟨V3.heap.size, 0, none⟩) 2 [120, 121] := by
    refine rd_blkF (t := 5) (fr := (2, 3)) ?_ rfl ?_
    · rw [← hW3]; show (V3.heap.push _)[V3.heap.size]? = _; simp [bv]
    · rw [← hW3]; simp
  have HA := hide hA
  clear hA hbw hW3
  have k9 := one_ HD4.out.blk
  have XC := hide (wr3 HD4.out HA.out)
  go_wp2_with (first | rw [hV3])
  refine XC.out.mono ?_
  rintro e w5 ⟨L5, n5, c5, X5, rfl, hO, hR, hb⟩
  have HD5 := hide (HD4.out.put hO hR hb)
  have hbb := HD4.out.blk.below hb HD4.out.blk.lt
  obtain ⟨V5, hV5⟩ : ∃ W, w5.setCell ⟨fb, 0, none⟩ (.slice L5 n5 c5) = W := ⟨_, rfl⟩
  rw [hV5] at HD5
  have kz := hbb.frozen 0
  have ky := one_ hbb
  have kx := hbb.lt
  clear k0
  have k0 := one_ HD5.out.blk
  clear hO hR hb hbb XC HD4
  clear k9 hcb
  have XC := hide (rd4 HD5.out)
  go_wp2_with (first | rw [hV5])
  refine XC.out.mono ?_
  rintro e w6 ⟨Ab, nb, cb, rfl, hO, hb⟩
  have HFB := hide HD5.out.blk.lt
  have HR := hide hO
  have HD6 := hide (HD5.out.below hb)
  clear k0
  try clear kz
  try clear ky
  try clear kx
  have k0 := one_ HD6.out.blk
  clear hO hb XC HD5
  have XC := hide (rn5 HD6.out (HST.out.below HD6.out.bl))
  go_wp2_with fail
  refine XC.out.mono ?_
  rintro e w7 ⟨L7, n7, c7, X7, rfl, hO, hR, hb⟩
  obtain ⟨V7, hV7⟩ : ∃ W, w7.alloc (.cells #[.slice L7 n7 c7] 24) = W := ⟨_, rfl⟩
  have hb2 : Below w6.heap.size w6 V7 := by rw [← hV7]; exact hb.trans ((on_alloc _ _).mono hb.size)
  have HD7 := hide (HD6.out.below hb2)
  have HR := hide (own_below HR.out hb2)
  clear k0
  try clear kz
  try clear ky
  try clear kx
  have k0 := one_ HD7.out.blk
  clear hO hR hb hb2 XC HD6
  have XC := hide (rn6 HD7.out (HST.out.below HD7.out.bl))
  go_wp2_with (first | rw [hV7])
  refine XC.out.mono ?_
  rintro e w8 ⟨L8, n8, c8, X8, rfl, hO, hR, hb⟩
  have HD8 := hide (HD7.out.put hO hR hb)
  have hbb := HD7.out.blk.below hb HD7.out.blk.lt
  have HR := hide (own_far (own_below HR.out hb) (p := ⟨fb, 0, none⟩) HFB.out (.slice L8 n8 c8))
  obtain ⟨V8, hV8⟩ : ∃ W, w8.setCell ⟨fb, 0, none⟩ (.slice L8 n8 c8) = W := ⟨_, rfl⟩
  rw [hV8] at HD8 HR
  have kz := hbb.frozen 0
  have ky := one_ hbb
  have kx := hbb.lt
  clear k0
  have k0 := one_ HD8.out.blk
  clear hO hR hb hbb XC HD7
  have XC := hide (ln7 HD8.out)
  go_wp2_with (first | rw [hV8])
  refine XC.out.mono ?_
  rintro e w9 ⟨L9, n9, c9, X9, rfl, hO, hR, hb⟩
  have HD9 := hide (HD8.out.put hO hR hb)
  have hbb := HD8.out.blk.below hb HD8.out.blk.lt
  have HR := hide (own_far (own_below HR.out hb) (p := ⟨fb, 0, none⟩) HFB.out (.slice L9 n9 c9))
  obtain ⟨V9, hV9⟩ : ∃ W, w9.setCell ⟨fb, 0, none⟩ (.slice L9 n9 c9) = W := ⟨_, rfl⟩
  rw [hV9] at HD9 HR
  have kz := hbb.frozen 0
  have ky := one_ hbb
  have kx := hbb.lt
  clear k0
  have k0 := one_ HD9.out.blk
  clear hO hR hb hbb XC HD8
  have XC := hide (ul8 HD9.out)
  go_wp2_with (first | rw [hV9])
  refine XC.out.mono ?_
  rintro e w10 ⟨L10, n10, c10, X10, rfl, hO, hR, hb⟩
  obtain ⟨V10, hV10⟩ : ∃ W, w10.alloc (.cells #[.slice L10 n10 c10] 24) = W := ⟨_, rfl⟩
  have hb2 : Below V9.heap.size V9 V10 := by rw [← hV10]; exact hb.trans ((on_alloc _ _).mono hb.size)
  have HD10 := hide (HD9.out.below hb2)
  have HR := hide (own_below HR.out hb2)
  clear k0
  try clear kz
  try clear ky
  try clear kx
  have k0 := one_ HD10.out.blk
  clear hO hR hb hb2 XC HD9
  have XC := hide (ul9 HD10.out)
  go_wp2_with (first | rw [hV10])
  refine XC.out.mono ?_
  rintro e w11 ⟨L11, n11, c11, X11, rfl, hO, hR, hb⟩
  have HD11 := hide (HD10.out.put hO hR hb)
  have hbb := HD10.out.blk.below hb HD10.out.blk.lt
  have HR := hide (own_far (own_below HR.out hb) (p := ⟨fb, 0, none⟩) HFB.out (.slice L11 n11 c11))
  obtain ⟨V11, hV11⟩ : ∃ W, w11.setCell ⟨fb, 0, none⟩ (.slice L11 n11 c11) = W := ⟨_, rfl⟩
  rw [hV11] at HD11 HR
  have kz := hbb.frozen 0
  have ky := one_ hbb
  have kx := hbb.lt
  clear k0
  have k0 := one_ HD11.out.blk
  clear hO hR hb hbb XC HD10
  have XC := hide (tr10 HD11.out)
  go_wp2_with (first | rw [hV11])
  refine XC.out.mono ?_
  rintro e w12 ⟨L12, n12, c12, X12, rfl, hO, hR, hb⟩
  have HD12 := hide (HD11.out.put hO hR hb)
  have hbb := HD11.out.blk.below hb HD11.out.blk.lt
  have HR := hide (own_far (own_below HR.out hb) (p := ⟨fb, 0, none⟩) HFB.out (.slice L12 n12 c12))
  obtain ⟨V12, hV12⟩ : ∃ W, w12.setCell ⟨fb, 0, none⟩ (.slice L12 n12 c12) = W := ⟨_, rfl⟩
  rw [hV12] at HD12 HR
  have kz := hbb.frozen 0
  have ky := one_ hbb
  have kx := hbb.lt
  clear k0
  have k0 := one_ HD12.out.blk
  clear hO hR hb hbb XC HD11
  have XC := hide (cr11 HD12.out)
  go_wp2_with (first | rw [hV12])
  refine XC.out.mono ?_
  rintro e w13 ⟨L13, n13, c13, X13, rfl, hO, hR, hb⟩
  obtain ⟨V13, hV13⟩ : ∃ W, w13.alloc (.cells #[.slice L13 n13 c13] 24) = W := ⟨_, rfl⟩
  have hb2 : Below V12.heap.size V12 V13 := by rw [← hV13]; exact hb.trans ((on_alloc _ _).mono hb.size)
  have HD13 := hide (HD12.out.below hb2)
  have HR := hide (own_below HR.out hb2)
  clear k0
  try clear kz
  try clear ky
  try clear kx
  have k0 := one_ HD13.out.blk
  clear hO hR hb hb2 XC HD12
  have hcv : (convert 25 9 (.slice Ab nb cb)).run Tryz.prog V13 = .ok (.string ⟨#[0, 120, 121]⟩) V13 := run_string_of (P := Tryz.prog) V13 V13.heap.size 25 9 5 Ab nb cb [0, 120, 121] Tryz.underlying25 Tryz.underlying5 Tryz.underlying9 (Reads.of_own HR.out)
  have XK := hide (ck12 HD13.out)
  go_wp2_with (first | rw [hV13])
  refine XK.out.mono ?_
  rintro e w14 ⟨rfl, hb14⟩
  have hl3 : n12 = 3 := by
    have h1 := HD13.out.fs.len
    have h2 := congrArg List.length HD13.out.nd
    rw [nds_length, h1] at h2
    exact h2
  obtain ⟨g, of, x, hL, hg, hx, hok, hc⟩ := HD13.out.fs.at_ (k := 2) (by omega)
  have hxr : x.r = ⟨1, 6, 1, [], [], []⟩ := by
    have h1 := nds_at hx
    rw [HD13.out.nd] at h1
    exact h1.symm
  have hdn : x.dn = 0 := by have := hok.dl; rw [hxr] at this; exact this.symm
  have HD14 := hide (HD13.out.below hb14)
  have HEND := hide (HD13.out.bl.trans (hb14.mono HD13.out.bl.size))
  obtain ⟨d0, d1, d2, d3, d4, d5⟩ := NdCells.below hc hg hb14
  rw [hxr] at d2
  rw [hdn] at d3
  dsimp only at d2
  have i1 := fun W => nd_at g of n12 c12 2 2 rfl (by omega) W
  have kf := one_ HD14.out.blk
  rw [hL] at kf
  clear hL hx hok hc hxr hdn hb14 k0 HD13 XK
  go_wp2_with fail
  go_ret
  exact ⟨rfl, HEND.out⟩
end Go.Proofs.YtlcoapignfmgcaaGreatDoor
