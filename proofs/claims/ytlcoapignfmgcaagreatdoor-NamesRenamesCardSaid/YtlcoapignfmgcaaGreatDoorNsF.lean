/- The law NamesMakes. -/
import Derived.Test.YtlcoapignfmgcaaGreatDoorNsE
import Derived.Test.YtlcoapignfmgcaaGreatDoorNrW
namespace Go.Proofs.YtlcoapignfmgcaaGreatDoor
open Go.RowKit
set_option linter.unusedVariables false
def shortB (a b : List UInt8) : Bool := decide (a.length ≤ 300) && decide (b.length ≤ 300)
theorem short_c (a b : List UInt8) (w : World) : Calls Tryz.prog 7 #[.string ⟨a.toArray⟩, .string ⟨b.toArray⟩] w fun e w' => e = .returned (.bool (shortB a b)) ∧ w = w' := by
  by_cases h1 : a.length ≤ 300
  · by_cases h2 : b.length ≤ 300
    · have e : shortB a b = true := by unfold shortB; rw [decide_eq_true h1, decide_eq_true h2]; rfl
      rw [e]
      have h1' : (a.length : Int) ≤ 300 := by omega
      have h2' : (b.length : Int) ≤ 300 := by omega
      clear e
      go_enter Tryz.func7, Tryz.ntmps7
      go_wp2_with fail
      go_ret
      exact ⟨rfl, rfl⟩
    · have e : shortB a b = false := by unfold shortB; rw [decide_eq_true h1, decide_eq_false h2]; rfl
      rw [e]
      have h1' : (a.length : Int) ≤ 300 := by omega
      have h2' : ¬ (b.length : Int) ≤ 300 := by omega
      clear e
      go_enter Tryz.func7, Tryz.ntmps7
      go_wp2_with fail
      go_ret
      exact ⟨rfl, rfl⟩
  · have e : shortB a b = false := by unfold shortB; rw [decide_eq_false h1]; rfl
    rw [e]
    have h1' : ¬ (a.length : Int) ≤ 300 := by omega
    clear e
    go_enter Tryz.func7, Tryz.ntmps7
    go_wp2_with fail
    go_ret
    exact ⟨rfl, rfl⟩
theorem modA_more (l : List ND) (k : Int) (f : ND → ND) (c : Nat) (hf : ∀ n, (f n).names.length ≤ n.names.length + c) : ∀ M, (∀ n ∈ l, n.names.length ≤ M) → ∀ n ∈ modA l k f, n.names.length ≤ M + c := fun M hM n hn => by
  unfold modA at hn
  by_cases hk : k.toNat < l.length
  · rcases List.mem_or_eq_of_mem_set hn with hn | hn
    · have := hM n hn; omega
    · rw [hn]
      have h1 := hf (ndAt l k)
      have h2 : (ndAt l k).names.length ≤ M := by
        unfold ndAt
        rw [List.getD_eq_getElem?_getD, List.getElem?_eq_getElem hk]
        exact hM _ (List.getElem_mem hk)
      omega
  · rw [List.set_eq_of_length_le (by omega)] at hn
    have := hM n hn; omega
theorem insN_length (t : List NM) (s : List UInt8) (k : Int) : (insN t s k).length ≤ t.length + 1 := by
  unfold insN
  simp only [List.length_append, List.length_take, List.length_drop, List.length_cons, List.length_nil]
  omega
theorem remN_length (t : List NM) (s : List UInt8) : (remN t s).length ≤ t.length := by
  rw [remN_erase]; exact (List.eraseIdx_sublist _ _).length_le
def Mid (l : List ND) : Prop := l.length ≤ 1000 ∧ ∀ n ∈ l, n.names.length ≤ 1000
theorem ins_mid {l : List ND} {d k : Int} {s : List UInt8} (h : l.length ≤ 200) (hM : ∀ n ∈ l, n.names.length ≤ 300) : Mid (insP l d s k) := by
  refine ⟨by unfold insP; rw [modA_length, modA_length]; omega, fun n hn => ?_⟩
  have h1 := modA_more l d (fun n => { n with names := insN n.names s k }) 1 (fun n => insN_length _ _ _) 300 hM
  have h2 := modA_more _ k (fun n => { n with links := n.links + 1 }) 0 (fun n => Nat.le_refl _) 301 h1 n hn
  omega
theorem rem_mid {l : List ND} {d : Int} {s : List UInt8} (h : l.length ≤ 200) (hM : ∀ n ∈ l, n.names.length ≤ 300) : Mid (remP l d s) := by
  refine ⟨by unfold remP; rw [modA_length, modA_length]; omega, fun n hn => ?_⟩
  have h1 := modA_more l d (fun n => { n with names := remN n.names s }) 0 (fun n => remN_length _ _) 300 hM
  have h2 := modA_more _ _ (fun n => { n with links := n.links - 1 }) 0 (fun n => Nat.le_refl _) 300 h1 n hn
  omega
theorem own_mid {l : List ND} (h : l.length ≤ 200) (hM : ∀ n ∈ l, n.names.length ≤ 300) : Mid l := ⟨by omega, fun n hn => by have := hM n hn; omega⟩
theorem make_mid {l : List ND} {d : Int} {s : List UInt8} {n : ND} (h : l.length ≤ 100) (hM : ∀ n ∈ l, n.names.length ≤ 300) : Mid (createP l d s n).1 := by
  unfold createP
  split
  · rename_i hc
    simp only [Bool.and_eq_true, creatableP] at hc
    have he : n.names = [] := List.isEmpty_iff.1 hc.2.1
    dsimp only
    split
    · split
      · exact own_mid (Nat.le_trans h (by omega)) hM
      · refine ins_mid (by rw [List.length_append, List.length_singleton]; omega) (fun m hm => ?_)
        rcases List.mem_append.1 hm with hm | hm
        · exact hM m hm
        · rw [List.mem_singleton.1 hm]
          show n.names.length ≤ 300
          rw [he]; exact Nat.zero_le _
    · exact own_mid (Nat.le_trans h (by omega)) hM
  · exact own_mid (Nat.le_trans h (by omega)) hM
theorem link_mid {l : List ND} {k d : Int} {s : List UInt8} (h : l.length ≤ 100) (hM : ∀ n ∈ l, n.names.length ≤ 300) : Mid (linkP l k d s).1 := by
  unfold linkP
  split
  · split
    · exact own_mid (Nat.le_trans h (by omega)) hM
    · dsimp only
      split
      · exact ins_mid (Nat.le_trans h (by omega)) hM
      · exact own_mid (Nat.le_trans h (by omega)) hM
  · exact own_mid (Nat.le_trans h (by omega)) hM
theorem unlink_mid {l : List ND} {d : Int} {s : List UInt8} (h : l.length ≤ 100) (hM : ∀ n ∈ l, n.names.length ≤ 300) : Mid (unlinkP l d s).1 := by
  unfold unlinkP
  split
  · split
    · split
      · split
        · exact rem_mid (Nat.le_trans h (by omega)) hM
        · exact own_mid (Nat.le_trans h (by omega)) hM
      · exact own_mid (Nat.le_trans h (by omega)) hM
    · exact own_mid (Nat.le_trans h (by omega)) hM
  · exact own_mid (Nat.le_trans h (by omega)) hM
set_option maxRecDepth 100000 in
set_option maxHeartbeats 16000000 in
theorem makes_b (L : Option Addr) (n c : Nat) (X : List DV) (d : Int) (s0 : ByteArray) (x : DV) (i0 : Int) (w : World) (hS : Std w) (hF : FsR w w.heap.size L n X) (hn : n ≤ maxLen) (hok : DVok w w.heap.size x) :
    Calls Tryz.prog 3 #[.agg #[.slice L n c], .int .i64 d, .string s0, .agg x.cs.toArray, .int .i64 i0] w fun e w' => e = .returned (.bool true) ∧ Below w.heap.size w w' := by
  obtain ⟨s, rfl⟩ := bs_of s0
  obtain ⟨⟨kd, md, lk, da, nm, tt⟩, D, dn, dc, M, mn, mc⟩ := x
  have hnl := hok.nl
  have hdl := hok.dl
  dsimp only at hnl hdl
  have HST := hide hS
  obtain ⟨W1, hW1⟩ : ∃ W, (w.alloc (.cells #[.slice L n c] 24)).alloc (.cells #[.int .i64 kd, .int .i64 md, .int .i64 lk, .slice D dn dc, .slice M mn mc, .string ⟨tt.toArray⟩] 28) = W := ⟨_, rfl⟩
  have b1 : Below w.heap.size w W1 := by rw [← hW1]; exact (on_alloc w _).trans ((on_alloc _ _).mono (by simp))
  have h1 : Blk W1 w.heap.size 24 #[.slice L n c] := by rw [← hW1]; exact (Blk.new w _ _).alloc _
  have q1 : Blk W1 (w.heap.size + 1) 28 #[.int .i64 kd, .int .i64 md, .int .i64 lk, .slice D dn dc, .slice M mn mc, .string ⟨tt.toArray⟩] := by rw [← hW1]; have := Blk.new (w.alloc (.cells #[.slice L n c] 24)) 28 #[.int .i64 kd, .int .i64 md, .int .i64 lk, .slice D dn dc, .slice M mn mc, .string ⟨tt.toArray⟩]; simpa only [World.size_alloc] using this
  have HX := hide h1
  have HQ := hide q1
  have HB := hide b1
  have HF := hide (fun (W : World) (hW : Below w.heap.size w W) => (hF.below hW).more hW.size)
  have HK := hide (fun (W : World) (hW : Below w.heap.size w W) => (hok.below hW).more hW.size)
  have HLEN := hide hF.len
  have HNL := hide (And.intro hnl hdl)
  have XF := hide (few_any L n c X W1 (HF.out W1 b1) hn)
  have k0 := one_ h1
  unfold DV.cs
  dsimp only
  clear hF h1 b1 hS hok q1 hnl hdl
  go_enter Tryz.func3, Tryz.ntmps3
  go_wp2_with (rw [hW1])
  refine XF.out.mono ?_
  rintro e w2 ⟨fw, rfl, hfw, hb2⟩
  have HX2 := hide (HX.out.below hb2 HX.out.lt)
  have HQ2 := hide (HQ.out.below hb2 HQ.out.lt)
  have HB2 := hide (HB.out.trans (hb2.mono HB.out.size))
  have HFW := hide hfw
  clear hb2 k0 HX HB XF hW1 hfw HQ
  cases fw with
  | false =>
    have k0 := one_ HX2.out
    have XH := hide (heads_n w2 (HST.out.below HB2.out))
    go_wp2_with fail
    refine XH.out.mono ?_
    rintro e wz ⟨rfl, hbz⟩
    have HE := hide (HB2.out.trans (hbz.mono HB2.out.size))
    clear hbz XH
    go_wp2_with fail
    go_ret
    exact ⟨rfl, HE.out⟩
  | true =>
    have HFEW := hide (HFW.out rfl)
    have XS := hide (fun (W : World) => short_c s tt W)
    obtain ⟨sb, hsb⟩ : ∃ b, shortB s tt = b := ⟨_, rfl⟩
    rw [hsb] at XS
    have HSB := hide hsb
    obtain ⟨n0, n1, n2, n3, n4, n5⟩ := six HQ2.out
    clear hsb
    go_wp2_with fail
    refine (XS.out _).mono ?_
    rintro e w3 ⟨rfl, hw⟩
    subst hw
    clear XS
    cases sb with
    | false =>
      have XH := hide (heads_n w2 (HST.out.below HB2.out))
      go_wp2_with fail
      refine XH.out.mono ?_
      rintro e wz ⟨rfl, hbz⟩
      have HE := hide (HB2.out.trans (hbz.mono HB2.out.size))
      clear hbz XH
      go_wp2_with fail
      go_ret
      exact ⟨rfl, HE.out⟩
    | true =>
      by_cases hd5 : dn ≤ 5000
      · by_cases hm10 : mn ≤ 10
        · have hm2 : ¬ ((5000 : Int) < (dn : Int)) := by omega
          have hm3 : ¬ ((10 : Int) < (mn : Int)) := by omega
          have hsh : s.length ≤ 300 ∧ tt.length ≤ 300 := by
            have h := HSB.out
            unfold shortB at h
            simp only [Bool.and_eq_true, decide_eq_true_eq] at h
            exact h
          have hnm : ∀ n ∈ nds X, n.names.length ≤ 300 := fun n hn => by
            unfold nds at hn
            obtain ⟨x, hx, rfl⟩ := List.mem_map.1 hn
            have := (HFEW.out.each x hx).n
            omega
          have hnl : (nds X).length ≤ 100 := by rw [nds_length]; exact HFEW.out.n
          have hfx : FewT ⟨⟨kd, md, lk, da, nm, tt⟩, D, dn, dc, M, mn, mc⟩ := by
            have h1 := HNL.out
            exact ⟨by show da.length ≤ 5000; omega, by show tt.length ≤ 600; omega, by show nm.length ≤ 200; omega⟩
          have HTF := hide (make_mid (d := d) (s := s) (n := ⟨kd, md, lk, da, nm, tt⟩) hnl hnm)
          have HLF := hide (link_mid (k := i0) (d := d) (s := s) hnl hnm)
          have HUF := hide (unlink_mid (d := d) (s := s) hnl hnm)
          have C1 := hide (fun (V : World) (hV : Below w.heap.size w V) => create_c L n c X d s ⟨⟨kd, md, lk, da, nm, tt⟩, D, dn, dc, M, mn, mc⟩ V (HF.out V hV) HFEW.out (by omega) (HK.out V hV) hfx)
          have C2 := hide (fun (V : World) (hV : Below w.heap.size w V) => rcreate_c L n c X d s ⟨⟨kd, md, lk, da, nm, tt⟩, D, dn, dc, M, mn, mc⟩ V (HF.out V hV) HFEW.out (by omega) (HK.out V hV) hfx)
          have C3 := hide (fun (V : World) (hV : Below w.heap.size w V) => link_c L n c X i0 d s V (HF.out V hV) HFEW.out (by omega))
          have C4 := hide (fun (V : World) (hV : Below w.heap.size w V) => rlink_c L n c X i0 d s V (HF.out V hV) HFEW.out (by omega))
          have C5 := hide (fun (V : World) (hV : Below w.heap.size w V) => unlink_c L n c X d s V (HF.out V hV) HFEW.out)
          have C6 := hide (fun (V : World) (hV : Below w.heap.size w V) => runlink_c L n c X d s V (HF.out V hV) HFEW.out)
          clear hnm hnl hfx hsh
          unfold DV.cs at C1 C2
          dsimp only at C1 C2
          generalize createP (nds X) d s ⟨kd, md, lk, da, nm, tt⟩ = T at *
          generalize linkP (nds X) i0 d s = R at *
          generalize unlinkP (nds X) d s = U at *
          obtain ⟨l1, n6, e1⟩ := T
          obtain ⟨l2, e2⟩ := R
          obtain ⟨l3, e3⟩ := U
          dsimp only at C1 C2 C3 C4 C5 C6 HTF HLF HUF
          clear n0 n1 n2 n3 n4 n5
          have k_0 := one_ HX2.out
          obtain ⟨k_1a, k_1b, k_1c, k_1d, k_1e, k_1f⟩ := six HQ2.out
          go_wp2_with fail
          refine (C1.out w2 HB2.out).mono ?_
          rintro e w3 ⟨L3, n3, c3, X3, rfl, hO, hR3, hb⟩
          have HF30 := hO.fs
          obtain ⟨V3, hV3⟩ : ∃ W, w3.alloc (.cells #[.slice L3 n3 c3] 24) = W := ⟨_, rfl⟩
          have b3 : Below w3.heap.size w3 V3 := by rw [← hV3]; exact on_alloc _ _
          have hbb := hb.trans (b3.mono hb.size)
          have HBX3 : Hid (Blk V3 w3.heap.size 24 #[.slice L3 n3 c3]) := hide (by rw [← hV3]; exact Blk.new w3 _ _)
          have HX2n := hide (HX2.out.below hbb HX2.out.lt)
          have HQ2n := hide (HQ2.out.below hbb HQ2.out.lt)
          have HF3 := hide ((HF30.below b3).more b3.size)
          have HB3 := hide (HB2.out.trans (hbb.mono HB2.out.size))
          clear hbb hb b3 HX2 HQ2 k_0 k_1a k_1b k_1c k_1d k_1e k_1f HF30
          have k_0 := one_ HX2n.out
          obtain ⟨k_1a, k_1b, k_1c, k_1d, k_1e, k_1f⟩ := six HQ2n.out
          have k_3 := one_ HBX3.out
          go_wp2_with (first | rw [hV3])
          refine (C2.out V3 HB3.out).mono ?_
          rintro e w4 ⟨L4, n4, c4, X4, rfl, hF4, hR4, hb⟩
          have HF40 := hF4
          obtain ⟨V4, hV4⟩ : ∃ W, w4.alloc (.cells #[.slice L4 n4 c4] 24) = W := ⟨_, rfl⟩
          have b4 : Below w4.heap.size w4 V4 := by rw [← hV4]; exact on_alloc _ _
          have hbb := hb.trans (b4.mono hb.size)
          have HBX4 : Hid (Blk V4 w4.heap.size 24 #[.slice L4 n4 c4]) := hide (by rw [← hV4]; exact Blk.new w4 _ _)
          have HX2nn := hide (HX2n.out.below hbb HX2n.out.lt)
          have HQ2nn := hide (HQ2n.out.below hbb HQ2n.out.lt)
          have HF3n := hide ((HF3.out.below hbb).more hbb.size)
          have HBX3n := hide (HBX3.out.below hbb HBX3.out.lt)
          have HF4 := hide ((HF40.below b4).more b4.size)
          have HB4 := hide (HB3.out.trans (hbb.mono HB3.out.size))
          clear hbb hb b4 HX2n HQ2n HF3 HBX3 k_0 k_1a k_1b k_1c k_1d k_1e k_1f k_3 HF40
          have k_0 := one_ HX2nn.out
          have k_2 := one_ HBX3n.out
          have k_4 := one_ HBX4.out
          go_wp2_with (first | rw [hV4])
          refine (C3.out V4 HB4.out).mono ?_
          rintro e w5 ⟨L5, n5, c5, X5, rfl, hO5, hR5, hb⟩
          have HF50 := hO5.fs
          obtain ⟨V5, hV5⟩ : ∃ W, w5.alloc (.cells #[.slice L5 n5 c5] 24) = W := ⟨_, rfl⟩
          have b5 : Below w5.heap.size w5 V5 := by rw [← hV5]; exact on_alloc _ _
          have hbb := hb.trans (b5.mono hb.size)
          have HBX5 : Hid (Blk V5 w5.heap.size 24 #[.slice L5 n5 c5]) := hide (by rw [← hV5]; exact Blk.new w5 _ _)
          have HX2nnn := hide (HX2nn.out.below hbb HX2nn.out.lt)
          have HF3nn := hide ((HF3n.out.below hbb).more hbb.size)
          have HBX3nn := hide (HBX3n.out.below hbb HBX3n.out.lt)
          have HF4n := hide ((HF4.out.below hbb).more hbb.size)
          have HBX4n := hide (HBX4.out.below hbb HBX4.out.lt)
          have HF5 := hide ((HF50.below b5).more b5.size)
          have HB5 := hide (HB4.out.trans (hbb.mono HB4.out.size))
          clear hbb hb b5 HX2nn HF3n HBX3n HF4 HBX4 k_0 k_2 k_4 HF50
          have k_0 := one_ HX2nnn.out
          have k_2 := one_ HBX3nn.out
          have k_4 := one_ HBX4n.out
          have k_6 := one_ HBX5.out
          go_wp2_with (first | rw [hV5])
          refine (C4.out V5 HB5.out).mono ?_
          rintro e w6 ⟨L6, n7, c6, X6, rfl, hF6, hR6, hb⟩
          have HF60 := hF6
          obtain ⟨V6, hV6⟩ : ∃ W, w6.alloc (.cells #[.slice L6 n7 c6] 24) = W := ⟨_, rfl⟩
          have b6 : Below w6.heap.size w6 V6 := by rw [← hV6]; exact on_alloc _ _
          have hbb := hb.trans (b6.mono hb.size)
          have HBX6 : Hid (Blk V6 w6.heap.size 24 #[.slice L6 n7 c6]) := hide (by rw [← hV6]; exact Blk.new w6 _ _)
          have HX2nnnn := hide (HX2nnn.out.below hbb HX2nnn.out.lt)
          have HF3nnn := hide ((HF3nn.out.below hbb).more hbb.size)
          have HBX3nnn := hide (HBX3nn.out.below hbb HBX3nn.out.lt)
          have HF4nn := hide ((HF4n.out.below hbb).more hbb.size)
          have HBX4nn := hide (HBX4n.out.below hbb HBX4n.out.lt)
          have HF5n := hide ((HF5.out.below hbb).more hbb.size)
          have HBX5n := hide (HBX5.out.below hbb HBX5.out.lt)
          have HF6 := hide ((HF60.below b6).more b6.size)
          have HB6 := hide (HB5.out.trans (hbb.mono HB5.out.size))
          clear hbb hb b6 HX2nnn HF3nn HBX3nn HF4n HBX4n HF5 HBX5 k_0 k_2 k_4 k_6 HF60
          have k_0 := one_ HX2nnnn.out
          have k_2 := one_ HBX3nnn.out
          have k_4 := one_ HBX4nn.out
          have k_6 := one_ HBX5n.out
          have k_8 := one_ HBX6.out
          go_wp2_with (first | rw [hV6])
          refine (C5.out V6 HB6.out).mono ?_
          rintro e w7 ⟨L7, n8, c7, X7, rfl, hO7, hR7, hb⟩
          have HF70 := hO7.fs
          obtain ⟨V7, hV7⟩ : ∃ W, w7.alloc (.cells #[.slice L7 n8 c7] 24) = W := ⟨_, rfl⟩
          have b7 : Below w7.heap.size w7 V7 := by rw [← hV7]; exact on_alloc _ _
          have hbb := hb.trans (b7.mono hb.size)
          have HBX7 : Hid (Blk V7 w7.heap.size 24 #[.slice L7 n8 c7]) := hide (by rw [← hV7]; exact Blk.new w7 _ _)
          have HX2nnnnn := hide (HX2nnnn.out.below hbb HX2nnnn.out.lt)
          have HF3nnnn := hide ((HF3nnn.out.below hbb).more hbb.size)
          have HBX3nnnn := hide (HBX3nnn.out.below hbb HBX3nnn.out.lt)
          have HF4nnn := hide ((HF4nn.out.below hbb).more hbb.size)
          have HBX4nnn := hide (HBX4nn.out.below hbb HBX4nn.out.lt)
          have HF5nn := hide ((HF5n.out.below hbb).more hbb.size)
          have HBX5nn := hide (HBX5n.out.below hbb HBX5n.out.lt)
          have HF6n := hide ((HF6.out.below hbb).more hbb.size)
          have HBX6n := hide (HBX6.out.below hbb HBX6.out.lt)
          have HF7 := hide ((HF70.below b7).more b7.size)
          have HB7 := hide (HB6.out.trans (hbb.mono HB6.out.size))
          clear hbb hb b7 HX2nnnn HF3nnn HBX3nnn HF4nn HBX4nn HF5n HBX5n HF6 HBX6 k_0 k_2 k_4 k_6 k_8 HF70
          have k_0 := one_ HX2nnnnn.out
          have k_2 := one_ HBX3nnnn.out
          have k_4 := one_ HBX4nnn.out
          have k_6 := one_ HBX5nn.out
          have k_8 := one_ HBX6n.out
          have k_10 := one_ HBX7.out
          go_wp2_with (first | rw [hV7])
          refine (C6.out V7 HB7.out).mono ?_
          rintro e w8 ⟨L8, n9, c8, X8, rfl, hF8, hR8, hb⟩
          have HF80 := hF8
          obtain ⟨V8, hV8⟩ : ∃ W, w8.alloc (.cells #[.slice L8 n9 c8] 24) = W := ⟨_, rfl⟩
          have b8 : Below w8.heap.size w8 V8 := by rw [← hV8]; exact on_alloc _ _
          have hbb := hb.trans (b8.mono hb.size)
          have HBX8 : Hid (Blk V8 w8.heap.size 24 #[.slice L8 n9 c8]) := hide (by rw [← hV8]; exact Blk.new w8 _ _)
          have HX2nnnnnn := hide (HX2nnnnn.out.below hbb HX2nnnnn.out.lt)
          have HF3nnnnn := hide ((HF3nnnn.out.below hbb).more hbb.size)
          have HBX3nnnnn := hide (HBX3nnnn.out.below hbb HBX3nnnn.out.lt)
          have HF4nnnn := hide ((HF4nnn.out.below hbb).more hbb.size)
          have HBX4nnnn := hide (HBX4nnn.out.below hbb HBX4nnn.out.lt)
          have HF5nnn := hide ((HF5nn.out.below hbb).more hbb.size)
          have HBX5nnn := hide (HBX5nn.out.below hbb HBX5nn.out.lt)
          have HF6nn := hide ((HF6n.out.below hbb).more hbb.size)
          have HBX6nn := hide (HBX6n.out.below hbb HBX6n.out.lt)
          have HF7n := hide ((HF7.out.below hbb).more hbb.size)
          have HBX7n := hide (HBX7.out.below hbb HBX7.out.lt)
          have HF8 := hide ((HF80.below b8).more b8.size)
          have HB8 := hide (HB7.out.trans (hbb.mono HB7.out.size))
          clear hbb hb b8 HX2nnnnn HF3nnnn HBX3nnnn HF4nnn HBX4nnn HF5nn HBX5nn HF6n HBX6n HF7 HBX7 k_0 k_2 k_4 k_6 k_8 k_10 HF80
          have HN3 := hide hR3
          have HN4 := hide hR4
          have HN5 := hide hR5
          have HN6 := hide hR6
          have HN7 := hide hR7
          have HN8 := hide hR8
          clear hR3 hR4 hR5 hR6 hR7 hR8 hO hF4 hO5 hF6 hO7 hF8
          have k_1 := one_ HBX3nnnnn.out
          have k_3 := one_ HBX4nnnn.out
          have k_5 := one_ HBX5nnn.out
          have k_7 := one_ HBX6nn.out
          have k_9 := one_ HBX7n.out
          have k_11 := one_ HBX8.out
          go_wp2_with (first | rw [hV8])
          refine (rsame_l L3 L4 n3 n4 c3 c4 X3 X4 l1 V8 HF3nnnnn.out HF4nnnn.out HN3.out HN4.out HTF.out.1 HTF.out.2).mono ?_
          rintro e w9 ⟨rfl, hb⟩
          have hbb := hb
          have HF3nnnnnn := hide ((HF3nnnnn.out.below hbb).more hbb.size)
          have HBX3nnnnnn := hide (HBX3nnnnn.out.below hbb HBX3nnnnn.out.lt)
          have HF4nnnnn := hide ((HF4nnnn.out.below hbb).more hbb.size)
          have HBX4nnnnn := hide (HBX4nnnn.out.below hbb HBX4nnnn.out.lt)
          have HF5nnnn := hide ((HF5nnn.out.below hbb).more hbb.size)
          have HBX5nnnn := hide (HBX5nnn.out.below hbb HBX5nnn.out.lt)
          have HF6nnn := hide ((HF6nn.out.below hbb).more hbb.size)
          have HBX6nnn := hide (HBX6nn.out.below hbb HBX6nn.out.lt)
          have HF7nn := hide ((HF7n.out.below hbb).more hbb.size)
          have HBX7nn := hide (HBX7n.out.below hbb HBX7n.out.lt)
          have HF8n := hide ((HF8.out.below hbb).more hbb.size)
          have HBX8n := hide (HBX8.out.below hbb HBX8.out.lt)
          have HB9 := hide (HB8.out.trans (hbb.mono HB8.out.size))
          clear hbb hb HF3nnnnn HBX3nnnnn HF4nnnn HBX4nnnn HF5nnn HBX5nnn HF6nn HBX6nn HF7n HBX7n HF8 HBX8 k_1 k_3 k_5 k_7 k_9 k_11 
          have k_1 := one_ HBX5nnnn.out
          have k_3 := one_ HBX6nnn.out
          have k_5 := one_ HBX7nn.out
          have k_7 := one_ HBX8n.out
          go_wp2_with fail
          refine (rsame_l L5 L6 n5 n7 c5 c6 X5 X6 l2 w9 HF5nnnn.out HF6nnn.out HN5.out HN6.out HLF.out.1 HLF.out.2).mono ?_
          rintro e w10 ⟨rfl, hb⟩
          have hbb := hb
          have HF5nnnnn := hide ((HF5nnnn.out.below hbb).more hbb.size)
          have HBX5nnnnn := hide (HBX5nnnn.out.below hbb HBX5nnnn.out.lt)
          have HF6nnnn := hide ((HF6nnn.out.below hbb).more hbb.size)
          have HBX6nnnn := hide (HBX6nnn.out.below hbb HBX6nnn.out.lt)
          have HF7nnn := hide ((HF7nn.out.below hbb).more hbb.size)
          have HBX7nnn := hide (HBX7nn.out.below hbb HBX7nn.out.lt)
          have HF8nn := hide ((HF8n.out.below hbb).more hbb.size)
          have HBX8nn := hide (HBX8n.out.below hbb HBX8n.out.lt)
          have HB10 := hide (HB9.out.trans (hbb.mono HB9.out.size))
          clear hbb hb HF5nnnn HBX5nnnn HF6nnn HBX6nnn HF7nn HBX7nn HF8n HBX8n k_1 k_3 k_5 k_7 
          have k_1 := one_ HBX7nnn.out
          have k_3 := one_ HBX8nn.out
          go_wp2_with fail
          refine (rsame_l L7 L8 n8 n9 c7 c8 X7 X8 l3 w10 HF7nnn.out HF8nn.out HN7.out HN8.out HUF.out.1 HUF.out.2).mono ?_
          rintro e w11 ⟨rfl, hb⟩
          have hbb := hb
          have HF7nnnn := hide ((HF7nnn.out.below hbb).more hbb.size)
          have HBX7nnnn := hide (HBX7nnn.out.below hbb HBX7nnn.out.lt)
          have HF8nnn := hide ((HF8nn.out.below hbb).more hbb.size)
          have HBX8nnn := hide (HBX8nn.out.below hbb HBX8nn.out.lt)
          have HB11 := hide (HB10.out.trans (hbb.mono HB10.out.size))
          clear hbb hb HF7nnn HBX7nnn HF8nn HBX8nn k_1 k_3 
          have XH := hide (heads_n w11 (HST.out.below HB11.out))
          go_wp2_with fail
          refine XH.out.mono ?_
          rintro e wz ⟨rfl, hbz⟩
          have HE := hide (HB11.out.trans (hbz.mono HB11.out.size))
          clear hbz XH
          go_wp2_with fail
          go_ret
          exact ⟨rfl, HE.out⟩
        · have hm2 : ¬ ((5000 : Int) < (dn : Int)) := by omega
          have hm3 : (10 : Int) < (mn : Int) := by omega
          have XH := hide (heads_n w2 (HST.out.below HB2.out))
          go_wp2_with fail
          refine XH.out.mono ?_
          rintro e wz ⟨rfl, hbz⟩
          have HE := hide (HB2.out.trans (hbz.mono HB2.out.size))
          clear hbz XH
          go_wp2_with fail
          go_ret
          exact ⟨rfl, HE.out⟩
      · have hm2 : (5000 : Int) < (dn : Int) := by omega
        have XH := hide (heads_n w2 (HST.out.below HB2.out))
        go_wp2_with fail
        refine XH.out.mono ?_
        rintro e wz ⟨rfl, hbz⟩
        have HE := hide (HB2.out.trans (hbz.mono HB2.out.size))
        clear hbz XH
        go_wp2_with fail
        go_ret
        exact ⟨rfl, HE.out⟩
end Go.Proofs.YtlcoapignfmgcaaGreatDoor
