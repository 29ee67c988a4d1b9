/- The law NamesWrites. -/
import Derived.Test.YtlcoapignfmgcaaGreatDoorNrD
import Derived.Test.YtlcoapignfmgcaaGreatDoorSame
namespace Go.Proofs.YtlcoapignfmgcaaGreatDoor
open Go.RowKit
set_option linter.unusedVariables false
theorem modA_few (l : List ND) (k : Int) (f : ND → ND) (hf : ∀ n, (f n).names = n.names) : ∀ M, (∀ n ∈ l, n.names.length ≤ M) → ∀ n ∈ modA l k f, n.names.length ≤ M := fun M hM n hn => by
  unfold modA at hn
  by_cases hk : k.toNat < l.length
  · rcases List.mem_or_eq_of_mem_set hn with hn | hn
    · exact hM n hn
    · rw [hn, hf]
      unfold ndAt
      rw [List.getD_eq_getElem?_getD, List.getElem?_eq_getElem hk]
      exact hM _ (List.getElem_mem hk)
  · rw [List.set_eq_of_length_le (by omega)] at hn
    exact hM n hn
theorem write_few (l : List ND) (k off : Int) (b : List UInt8) : (writeP l k off b).1.length = l.length ∧ ∀ M, (∀ n ∈ l, n.names.length ≤ M) → ∀ n ∈ (writeP l k off b).1, n.names.length ≤ M := by
  unfold writeP
  split
  · split
    · exact ⟨rfl, fun M h => h⟩
    · split
      · exact ⟨rfl, fun M h => h⟩
      · split
        · exact ⟨rfl, fun M h => h⟩
        · exact ⟨modA_length l k (fun n => { n with data := putB n.data off.toNat b }), modA_few l k (fun n => { n with data := putB n.data off.toNat b }) (fun _ => rfl)⟩
  · exact ⟨rfl, fun M h => h⟩
theorem trunc_few (l : List ND) (k : Int) : (truncP l k).1.length = l.length ∧ ∀ M, (∀ n ∈ l, n.names.length ≤ M) → ∀ n ∈ (truncP l k).1, n.names.length ≤ M := by
  unfold truncP
  split
  · exact ⟨modA_length l k (fun n => { n with data := [] }), modA_few l k (fun n => { n with data := [] }) (fun _ => rfl)⟩
  · exact ⟨rfl, fun M h => h⟩
/-- Same, as the laws call it. -/
theorem rsame_l (L1 L2 : Option Addr) (n1 n2 c1 c2 : Nat) (X Y : List DV) (l : List ND) (w : World) (h1 : FsR w w.heap.size L1 n1 X) (h2 : FsR w w.heap.size L2 n2 Y) (hX : nds X = l) (hY : nds Y = l) (hn : l.length ≤ 1000) (hs : ∀ n ∈ l, n.names.length ≤ 1000) :
    Calls Tryz.prog 15 #[.agg #[.slice L1 n1 c1], .agg #[.slice L2 n2 c2]] w fun e w' => e = .returned (.bool true) ∧ Below w.heap.size w w' := by
  have e1 : n1 = l.length := by rw [← hX, nds_length]; exact h1.len.symm
  have e2 : n2 = l.length := by rw [← hY, nds_length]; exact h2.len.symm
  subst e1 e2
  exact rsame_any L1 L2 l.length c1 c2 X Y w h1 h2 (hX.trans hY.symm) (by omega) (fun x hx => by
    have h3 := hs x.r (by rw [← hX]; unfold nds; exact List.mem_map.2 ⟨x, hx, rfl⟩)
    have h4 := (h1.ok x hx).nl
    omega)
set_option maxRecDepth 100000 in
set_option maxHeartbeats 16000000 in
theorem writes_b (L : Option Addr) (n c : Nat) (X : List DV) (nd off q : Int) (A : Option Addr) (bn bc : Nat) (b : List UInt8) (w : World) (hS : Std w) (hF : FsR w w.heap.size L n X) (hcap : ∀ x ∈ X, x.dn ≤ x.dc) (hn : n ≤ maxLen) (hA : Rd w A bn b) :
    Calls Tryz.prog 5 #[.agg #[.slice L n c], .int .i64 nd, .int .i64 off, .int .i64 q, .slice A bn bc] w fun e w' => e = .returned (.bool true) ∧ Below w.heap.size w w' := by
  have HST := hide hS
  have HCAP := hide hcap
  have HA := hide (fun (W : World) (hW : Below w.heap.size w W) => (Reads.below hA hW).more hW.size)
  obtain ⟨W1, hW1⟩ : ∃ W, w.alloc (.cells #[.slice L n c] 24) = W := ⟨_, rfl⟩
  have h1 : Blk W1 w.heap.size 24 #[.slice L n c] := by rw [← hW1]; exact Blk.new w _ _
  have b1 : Below w.heap.size w W1 := by rw [← hW1]; exact on_alloc _ _
  have HX := hide h1
  have HB := hide b1
  have HF := hide (fun (W : World) (hW : Below w.heap.size w W) => (hF.below hW).more hW.size)
  have HLEN := hide hF.len
  have XF := hide (few_any L n c X W1 (HF.out W1 b1) hn)
  have k0 := one_ h1
  clear hF h1 b1 hS hA hcap
  go_enter Tryz.func5, Tryz.ntmps5
  go_wp2_with (rw [hW1])
  refine XF.out.mono ?_
  rintro e w2 ⟨fw, rfl, hfw, hb2⟩
  have HX2 := hide (HX.out.below hb2 HX.out.lt)
  have HB2 := hide (HB.out.trans (hb2.mono HB.out.size))
  have HFW := hide hfw
  clear hb2 k0 HX HB XF hW1 hfw
  cases fw with
  | false =>
    have k0 := one_ HX2.out
    have XH := hide (heads_n w2 (HST.out.below HB2.out))
    go_wp2_with fail
    refine XH.out.mono ?_
    rintro e wz ⟨rfl, hbz⟩
    have HE := hide (HB2.out.trans (hbz.mono HB2.out.size))
    clear hbz XH
    go_wp2_with fail
    go_ret
    exact ⟨rfl, HE.out⟩
  | true =>
    have HFEW := hide (HFW.out rfl)
    by_cases hb5 : bn ≤ 5000
    · have hm2 : ¬ ((5000 : Int) < (bn : Int)) := by omega
      have hnm : ∀ n ∈ nds X, n.names.length ≤ 1000 := fun n hn => by
        unfold nds at hn
        obtain ⟨x, hx, rfl⟩ := List.mem_map.1 hn
        have := (HFEW.out.each x hx).n
        omega
      have hnl : (nds X).length ≤ 1000 := by rw [nds_length]; have := HFEW.out.n; omega
      have HWF : Hid ((writeP (nds X) nd off b).1.length ≤ 1000 ∧ ∀ n ∈ (writeP (nds X) nd off b).1, n.names.length ≤ 1000) := hide ⟨by rw [(write_few _ _ _ _).1]; exact hnl, (write_few _ _ _ _).2 _ hnm⟩
      have HTF : Hid ((truncP (nds X) nd).1.length ≤ 1000 ∧ ∀ n ∈ (truncP (nds X) nd).1, n.names.length ≤ 1000) := hide ⟨by rw [(trunc_few _ _).1]; exact hnl, (trunc_few _ _).2 _ hnm⟩
      have C1 := hide (fun (V : World) (hV : Below w.heap.size w V) => write_c L n c X nd off A bn bc b V (HF.out V hV) HFEW.out (HA.out V hV) (by omega))
      have C2 := hide (fun (V : World) (hV : Below w.heap.size w V) => rwrite_c L n c X nd off A bn bc b V (HF.out V hV) HFEW.out (HA.out V hV) (by omega))
      have C3 := hide (fun (V : World) (hV : Below w.heap.size w V) => read_c L n c X nd off q V (HF.out V hV) HFEW.out HCAP.out)
      have C4 := hide (fun (V : World) (hV : Below w.heap.size w V) => rread_c L n c X nd off q V (HF.out V hV) HFEW.out HCAP.out)
      have C5 := hide (fun (V : World) (hV : Below w.heap.size w V) => trunc_c L n c X nd V (HF.out V hV) HFEW.out)
      have C6 := hide (fun (V : World) (hV : Below w.heap.size w V) => rtrunc_c L n c X nd V (HF.out V hV) HFEW.out)
      clear hnm hnl
      generalize writeP (nds X) nd off b = T at *
      generalize readP (nds X) nd off q = R at *
      generalize truncP (nds X) nd = U at *
      obtain ⟨l1, n1, e1⟩ := T
      obtain ⟨rb, re⟩ := R
      obtain ⟨l2, e2⟩ := U
      dsimp only at C1 C2 C3 C4 C5 C6 HWF HTF
      have k_0 := one_ HX2.out
      go_wp2_with fail
      refine (C1.out w2 HB2.out).mono ?_
      rintro e w3 ⟨L3, n3, c3, X3, rfl, hO, hR3, hb⟩
      have HF30 := hO.fs
      obtain ⟨V3, hV3⟩ : ∃ W, w3.alloc (.cells #[.slice L3 n3 c3] 24) = W := ⟨_, rfl⟩
      have b3 : Below w3.heap.size w3 V3 := by rw [← hV3]; exact on_alloc _ _
      have hbb := hb.trans (b3.mono hb.size)
      have HBX3 : Hid (Blk V3 w3.heap.size 24 #[.slice L3 n3 c3]) := hide (by rw [← hV3]; exact Blk.new w3 _ _)
      have HX2n := hide (HX2.out.below hbb HX2.out.lt)
      have HF3 := hide ((HF30.below b3).more b3.size)
      have HB3 := hide (HB2.out.trans (hbb.mono HB2.out.size))
      clear hbb hb b3 HX2 k_0 HF30
      have k_0 := one_ HX2n.out
      have k_2 := one_ HBX3.out
      go_wp2_with (first | rw [hV3])
      refine (C2.out V3 HB3.out).mono ?_
      rintro e w4 ⟨L4, n4, c4, X4, rfl, hF4, hR4, hb⟩
      have HF40 := hF4
      obtain ⟨V4, hV4⟩ : ∃ W, w4.alloc (.cells #[.slice L4 n4 c4] 24) = W := ⟨_, rfl⟩
      have b4 : Below w4.heap.size w4 V4 := by rw [← hV4]; exact on_alloc _ _
      have hbb := hb.trans (b4.mono hb.size)
      have HBX4 : Hid (Blk V4 w4.heap.size 24 #[.slice L4 n4 c4]) := hide (by rw [← hV4]; exact Blk.new w4 _ _)
      have HX2nn := hide (HX2n.out.below hbb HX2n.out.lt)
      have HF3n := hide ((HF3.out.below hbb).more hbb.size)
      have HBX3n := hide (HBX3.out.below hbb HBX3.out.lt)
      have HF4 := hide ((HF40.below b4).more b4.size)
      have HB4 := hide (HB3.out.trans (hbb.mono HB3.out.size))
      clear hbb hb b4 HX2n HF3 HBX3 k_0 k_2 HF40
      have k_0 := one_ HX2nn.out
      have k_2 := one_ HBX3n.out
      have k_4 := one_ HBX4.out
      go_wp2_with (first | rw [hV4])
      refine (C3.out V4 HB4.out).mono ?_
      rintro e w5 ⟨A5, n5, c5, rfl, hown, hb⟩
      have HR50 := Reads.of_own hown
      have hbb := hb
      have HX2nnn := hide (HX2nn.out.below hbb HX2nn.out.lt)
      have HF3nn := hide ((HF3n.out.below hbb).more hbb.size)
      have HBX3nn := hide (HBX3n.out.below hbb HBX3n.out.lt)
      have HF4n := hide ((HF4.out.below hbb).more hbb.size)
      have HBX4n := hide (HBX4.out.below hbb HBX4.out.lt)
      have HR5 := hide HR50
      have HB5 := hide (HB4.out.trans (hbb.mono HB4.out.size))
      clear hbb hb HX2nn HF3n HBX3n HF4 HBX4 k_0 k_2 k_4 HR50
      have k_0 := one_ HX2nnn.out
      have k_2 := one_ HBX3nn.out
      have k_4 := one_ HBX4n.out
      go_wp2_with fail
      refine (C4.out w5 HB5.out).mono ?_
      rintro e w6 ⟨A6, n6, c6, rfl, hrd, hb⟩
      have HR60 := hrd
      have hbb := hb
      have HX2nnnn := hide (HX2nnn.out.below hbb HX2nnn.out.lt)
      have HF3nnn := hide ((HF3nn.out.below hbb).more hbb.size)
      have HBX3nnn := hide (HBX3nn.out.below hbb HBX3nn.out.lt)
      have HF4nn := hide ((HF4n.out.below hbb).more hbb.size)
      have HBX4nn := hide (HBX4n.out.below hbb HBX4n.out.lt)
      have HR5n := hide ((Reads.below HR5.out hbb).more hbb.size)
      have HR6 := hide HR60
      have HB6 := hide (HB5.out.trans (hbb.mono HB5.out.size))
      clear hbb hb HX2nnn HF3nn HBX3nn HF4n HBX4n HR5 k_0 k_2 k_4 HR60
      have k_0 := one_ HX2nnnn.out
      have k_2 := one_ HBX3nnn.out
      have k_4 := one_ HBX4nn.out
      go_wp2_with fail
      refine (C5.out w6 HB6.out).mono ?_
      rintro e w7 ⟨L7, n7, c7, X7, rfl, hO7, hR7, hb⟩
      have HF70 := hO7.fs
      obtain ⟨V7, hV7⟩ : ∃ W, w7.alloc (.cells #[.slice L7 n7 c7] 24) = W := ⟨_, rfl⟩
      have b7 : Below w7.heap.size w7 V7 := by rw [← hV7]; exact on_alloc _ _
      have hbb := hb.trans (b7.mono hb.size)
      have HBX7 : Hid (Blk V7 w7.heap.size 24 #[.slice L7 n7 c7]) := hide (by rw [← hV7]; exact Blk.new w7 _ _)
      have HX2nnnnn := hide (HX2nnnn.out.below hbb HX2nnnn.out.lt)
      have HF3nnnn := hide ((HF3nnn.out.below hbb).more hbb.size)
      have HBX3nnnn := hide (HBX3nnn.out.below hbb HBX3nnn.out.lt)
      have HF4nnn := hide ((HF4nn.out.below hbb).more hbb.size)
      have HBX4nnn := hide (HBX4nn.out.below hbb HBX4nn.out.lt)
      have HR5nn := hide ((Reads.below HR5n.out hbb).more hbb.size)
      have HR6n := hide ((Reads.below HR6.out hbb).more hbb.size)
      have HF7 := hide ((HF70.below b7).more b7.size)
      have HB7 := hide (HB6.out.trans (hbb.mono HB6.out.size))
      clear hbb hb b7 HX2nnnn HF3nnn HBX3nnn HF4nn HBX4nn HR5n HR6 k_0 k_2 k_4 HF70
      have k_0 := one_ HX2nnnnn.out
      have k_2 := one_ HBX3nnnn.out
      have k_4 := one_ HBX4nnn.out
      have k_8 := one_ HBX7.out
      go_wp2_with (first | rw [hV7])
      refine (C6.out V7 HB7.out).mono ?_
      rintro e w8 ⟨L8, n8, c8, X8, rfl, hF8, hR8, hb⟩
      have HF80 := hF8
      obtain ⟨V8, hV8⟩ : ∃ W, w8.alloc (.cells #[.slice L8 n8 c8] 24) = W := ⟨_, rfl⟩
      have b8 : Below w8.heap.size w8 V8 := by rw [← hV8]; exact on_alloc _ _
      have hbb := hb.trans (b8.mono hb.size)
      have HBX8 : Hid (Blk V8 w8.heap.size 24 #[.slice L8 n8 c8]) := hide (by rw [← hV8]; exact Blk.new w8 _ _)
      have HX2nnnnnn := hide (HX2nnnnn.out.below hbb HX2nnnnn.out.lt)
      have HF3nnnnn := hide ((HF3nnnn.out.below hbb).more hbb.size)
      have HBX3nnnnn := hide (HBX3nnnn.out.below hbb HBX3nnnn.out.lt)
      have HF4nnnn := hide ((HF4nnn.out.below hbb).more hbb.size)
      have HBX4nnnn := hide (HBX4nnn.out.below hbb HBX4nnn.out.lt)
      have HR5nnn := hide ((Reads.below HR5nn.out hbb).more hbb.size)
      have HR6nn := hide ((Reads.below HR6n.out hbb).more hbb.size)
      have HF7n := hide ((HF7.out.below hbb).more hbb.size)
      have HBX7n := hide (HBX7.out.below hbb HBX7.out.lt)
      have HF8 := hide ((HF80.below b8).more b8.size)
      have HB8 := hide (HB7.out.trans (hbb.mono HB7.out.size))
      clear hbb hb b8 HX2nnnnn HF3nnnn HBX3nnnn HF4nnn HBX4nnn HR5nn HR6n HF7 HBX7 k_0 k_2 k_4 k_8 HF80
      have HN3 := hide hR3
      have HN4 := hide hR4
      have HN7 := hide hR7
      have HN8 := hide hR8
      clear hR3 hR4 hR7 hR8 hO hF4 hown hrd hO7 hF8
      have k_0 := one_ HX2nnnnnn.out
      have k_2 := one_ HBX3nnnnn.out
      have k_4 := one_ HBX4nnnn.out
      have k_8 := one_ HBX7n.out
      have k_10 := one_ HBX8.out
      go_wp2_with (first | rw [hV8])
      refine (rsame_l L3 L4 n3 n4 c3 c4 X3 X4 l1 V8 HF3nnnnn.out HF4nnnn.out HN3.out HN4.out HWF.out.1 HWF.out.2).mono ?_
      rintro e w9 ⟨rfl, hb⟩
      have hbb := hb
      have HX2nnnnnnn := hide (HX2nnnnnn.out.below hbb HX2nnnnnn.out.lt)
      have HF3nnnnnn := hide ((HF3nnnnn.out.below hbb).more hbb.size)
      have HBX3nnnnnn := hide (HBX3nnnnn.out.below hbb HBX3nnnnn.out.lt)
      have HF4nnnnn := hide ((HF4nnnn.out.below hbb).more hbb.size)
      have HBX4nnnnn := hide (HBX4nnnn.out.below hbb HBX4nnnn.out.lt)
      have HR5nnnn := hide ((Reads.below HR5nnn.out hbb).more hbb.size)
      have HR6nnn := hide ((Reads.below HR6nn.out hbb).more hbb.size)
      have HF7nn := hide ((HF7n.out.below hbb).more hbb.size)
      have HBX7nn := hide (HBX7n.out.below hbb HBX7n.out.lt)
      have HF8n := hide ((HF8.out.below hbb).more hbb.size)
      have HBX8n := hide (HBX8.out.below hbb HBX8.out.lt)
      have HB9 := hide (HB8.out.trans (hbb.mono HB8.out.size))
      clear hbb hb HX2nnnnnn HF3nnnnn HBX3nnnnn HF4nnnn HBX4nnnn HR5nnn HR6nn HF7n HBX7n HF8 HBX8 k_0 k_2 k_4 k_8 k_10 
      have k_0 := one_ HX2nnnnnnn.out
      have k_2 := one_ HBX3nnnnnn.out
      have k_4 := one_ HBX4nnnnn.out
      have k_8 := one_ HBX7nn.out
      have k_10 := one_ HBX8n.out
      have XS0 := same_any A5 A6 n5 n6 c5 c6 rb rb w9 _ _ HR5nnnn.out HR6nnn.out
      have hbeq : (rb == rb) = true := beq_self_eq_true rb
      rw [hbeq] at XS0
      have XS := hide XS0
      clear XS0 hbeq
      go_wp2_with fail
      refine XS.out.mono ?_
      rintro e w10 ⟨rfl, rfl⟩
      clear XS k_0 k_2 k_4 k_8 k_10
      have k_0 := one_ HX2nnnnnnn.out
      have k_2 := one_ HBX3nnnnnn.out
      have k_4 := one_ HBX4nnnnn.out
      have k_8 := one_ HBX7nn.out
      have k_10 := one_ HBX8n.out
      go_wp2_with fail
      refine (rsame_l L7 L8 n7 n8 c7 c8 X7 X8 l2 w9 HF7nn.out HF8n.out HN7.out HN8.out HTF.out.1 HTF.out.2).mono ?_
      rintro e w11 ⟨rfl, hb⟩
      have hbb := hb
      have HX2nnnnnnnn := hide (HX2nnnnnnn.out.below hbb HX2nnnnnnn.out.lt)
      have HF3nnnnnnn := hide ((HF3nnnnnn.out.below hbb).more hbb.size)
      have HBX3nnnnnnn := hide (HBX3nnnnnn.out.below hbb HBX3nnnnnn.out.lt)
      have HF4nnnnnn := hide ((HF4nnnnn.out.below hbb).more hbb.size)
      have HBX4nnnnnn := hide (HBX4nnnnn.out.below hbb HBX4nnnnn.out.lt)
      have HR5nnnnn := hide ((Reads.below HR5nnnn.out hbb).more hbb.size)
      have HR6nnnn := hide ((Reads.below HR6nnn.out hbb).more hbb.size)
      have HF7nnn := hide ((HF7nn.out.below hbb).more hbb.size)
      have HBX7nnn := hide (HBX7nn.out.below hbb HBX7nn.out.lt)
      have HF8nn := hide ((HF8n.out.below hbb).more hbb.size)
      have HBX8nn := hide (HBX8n.out.below hbb HBX8n.out.lt)
      have HB11 := hide (HB9.out.trans (hbb.mono HB9.out.size))
      clear hbb hb HX2nnnnnnn HF3nnnnnn HBX3nnnnnn HF4nnnnn HBX4nnnnn HR5nnnn HR6nnn HF7nn HBX7nn HF8n HBX8n k_0 k_2 k_4 k_8 k_10 
      have XH := hide (heads_n w11 (HST.out.below HB11.out))
      go_wp2_with fail
      refine XH.out.mono ?_
      rintro e wz ⟨rfl, hbz⟩
      have HE := hide (HB11.out.trans (hbz.mono HB11.out.size))
      clear hbz XH
      go_wp2_with fail
      go_ret
      exact ⟨rfl, HE.out⟩
    · have hm2 : (5000 : Int) < (bn : Int) := by omega
      have k0 := one_ HX2.out
      have XH := hide (heads_n w2 (HST.out.below HB2.out))
      go_wp2_with fail
      refine XH.out.mono ?_
      rintro e wz ⟨rfl, hbz⟩
      have HE := hide (HB2.out.trans (hbz.mono HB2.out.size))
      clear hbz XH
      go_wp2_with fail
      go_ret
      exact ⟨rfl, HE.out⟩
end Go.Proofs.YtlcoapignfmgcaaGreatDoor
