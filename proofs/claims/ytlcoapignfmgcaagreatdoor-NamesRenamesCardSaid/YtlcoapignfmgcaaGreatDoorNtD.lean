/- The law NamesRenames. -/
import Derived.Test.YtlcoapignfmgcaaGreatDoorNtC
import Derived.Test.YtlcoapignfmgcaaGreatDoorNsF
namespace Go.Proofs.YtlcoapignfmgcaaGreatDoor
open Go.RowKit
set_option linter.unusedVariables false
theorem rem_more {l : List ND} {d : Int} {s : List UInt8} {M : Nat} (hM : ∀ n ∈ l, n.names.length ≤ M) : (remP l d s).length = l.length ∧ ∀ n ∈ remP l d s, n.names.length ≤ M := by
  refine ⟨by unfold remP; rw [modA_length, modA_length], fun n hn => ?_⟩
  have h1 := modA_more l d (fun n => { n with names := remN n.names s }) 0 (fun n => remN_length _ _) M hM
  have h2 := modA_more _ _ (fun n => { n with links := n.links - 1 }) 0 (fun n => Nat.le_refl _) M h1 n hn
  omega
theorem rename_mid {l : List ND} {a b : Int} {old s : List UInt8} (h : l.length ≤ 100) (hM : ∀ n ∈ l, n.names.length ≤ 300) : Mid (renameP l a old b s).1 := by
  have h0 : Mid l := own_mid (Nat.le_trans h (by omega)) hM
  have h1 := rem_more (d := a) (s := old) hM
  have h2 := rem_more (d := b) (s := s) hM
  have h3 := rem_more (d := a) (s := old) h2.2
  unfold renameP
  split
  · dsimp only
    split
    · split
      · split
        · exact h0
        · split
          · split
            · exact h0
            · split
              · exact ins_mid (by rw [h3.1, h2.1]; omega) h3.2
              · exact h0
          · exact ins_mid (by rw [h1.1]; omega) h1.2
      · exact h0
    · exact h0
  · exact h0
set_option maxRecDepth 100000 in
set_option maxHeartbeats 16000000 in
theorem renames_b (L : Option Addr) (n c : Nat) (X : List DV) (a : Int) (o0 : ByteArray) (b : Int) (s0 : ByteArray) (w : World) (hS : Std w) (hF : FsR w w.heap.size L n X) (hn : n ≤ maxLen) :
    Calls Tryz.prog 4 #[.agg #[.slice L n c], .int .i64 a, .string o0, .int .i64 b, .string s0] w fun e w' => e = .returned (.bool true) ∧ Below w.heap.size w w' := by
  obtain ⟨old, rfl⟩ := bs_of o0
  obtain ⟨s, rfl⟩ := bs_of s0
  have HST := hide hS
  obtain ⟨W1, hW1⟩ : ∃ W, w.alloc (.cells #[.slice L n c] 24) = W := ⟨_, rfl⟩
  have h1 : Blk W1 w.heap.size 24 #[.slice L n c] := by rw [← hW1]; exact Blk.new w _ _
  have b1 : Below w.heap.size w W1 := by rw [← hW1]; exact on_alloc _ _
  have HX := hide h1
  have HB := hide b1
  have HF := hide (fun (W : World) (hW : Below w.heap.size w W) => (hF.below hW).more hW.size)
  have XF := hide (few_any L n c X W1 (HF.out W1 b1) hn)
  have k0 := one_ h1
  clear hF h1 b1 hS
  go_enter Tryz.func4, Tryz.ntmps4
  go_wp2_with (rw [hW1])
  refine XF.out.mono ?_
  rintro e w2 ⟨fw, rfl, hfw, hb2⟩
  have HX2 := hide (HX.out.below hb2 HX.out.lt)
  have HB2 := hide (HB.out.trans (hb2.mono HB.out.size))
  have HFW := hide hfw
  clear hb2 k0 HX HB XF hW1 hfw
  cases fw with
  | false =>
    have k0 := one_ HX2.out
    have XH := hide (heads_n w2 (HST.out.below HB2.out))
    go_wp2_with fail
    refine XH.out.mono ?_
    rintro e wz ⟨rfl, hbz⟩
    have HE := hide (HB2.out.trans (hbz.mono HB2.out.size))
    clear hbz XH
    go_wp2_with fail
    go_ret
    exact ⟨rfl, HE.out⟩
  | true =>
    have HFEW := hide (HFW.out rfl)
    have XS := hide (fun (W : World) => short_c old s W)
    obtain ⟨sb, hsb⟩ : ∃ b, shortB old s = b := ⟨_, rfl⟩
    rw [hsb] at XS
    have HSB := hide hsb
    clear hsb
    go_wp2_with fail
    refine (XS.out _).mono ?_
    rintro e w3 ⟨rfl, hw⟩
    subst hw
    clear XS
    cases sb with
    | false =>
      have XH := hide (heads_n w2 (HST.out.below HB2.out))
      go_wp2_with fail
      refine XH.out.mono ?_
      rintro e wz ⟨rfl, hbz⟩
      have HE := hide (HB2.out.trans (hbz.mono HB2.out.size))
      clear hbz XH
      go_wp2_with fail
      go_ret
      exact ⟨rfl, HE.out⟩
    | true =>
      have hsh : old.length ≤ 300 ∧ s.length ≤ 300 := by
        have h := HSB.out
        unfold shortB at h
        simp only [Bool.and_eq_true, decide_eq_true_eq] at h
        exact h
      have hnm : ∀ n ∈ nds X, n.names.length ≤ 300 := fun n hn => by
        unfold nds at hn
        obtain ⟨x, hx, rfl⟩ := List.mem_map.1 hn
        have := (HFEW.out.each x hx).n
        omega
      have hnl : (nds X).length ≤ 100 := by rw [nds_length]; exact HFEW.out.n
      have HTF := hide (rename_mid (a := a) (b := b) (old := old) (s := s) hnl hnm)
      have C1 := hide (fun (V : World) (hV : Below w.heap.size w V) => rename_c L n c X a b old s V (HST.out.below hV) (HF.out V hV) HFEW.out (by omega))
      have C2 := hide (fun (V : World) (hV : Below w.heap.size w V) => rrename_c L n c X a b old s V (HF.out V hV) HFEW.out (by omega))
      clear hnm hnl hsh
      generalize renameP (nds X) a old b s = T at *
      obtain ⟨l1, e1⟩ := T
      dsimp only at C1 C2 HTF
      have k_0 := one_ HX2.out
      go_wp2_with fail
      refine (C1.out w2 HB2.out).mono ?_
      rintro e w3 ⟨L3, n3, c3, X3, rfl, hO, hR3, hb⟩
      have HF30 := hO.fs
      obtain ⟨V3, hV3⟩ : ∃ W, w3.alloc (.cells #[.slice L3 n3 c3] 24) = W := ⟨_, rfl⟩
      have b3 : Below w3.heap.size w3 V3 := by rw [← hV3]; exact on_alloc _ _
      have hbb := hb.trans (b3.mono hb.size)
      have HBX3 : Hid (Blk V3 w3.heap.size 24 #[.slice L3 n3 c3]) := hide (by rw [← hV3]; exact Blk.new w3 _ _)
      have HX2n := hide (HX2.out.below hbb HX2.out.lt)
      have HF3 := hide ((HF30.below b3).more b3.size)
      have HB3 := hide (HB2.out.trans (hbb.mono HB2.out.size))
      clear hbb hb b3 HX2 k_0 HF30
      have k_0 := one_ HX2n.out
      have k_2 := one_ HBX3.out
      go_wp2_with (first | rw [hV3])
      refine (C2.out V3 HB3.out).mono ?_
      rintro e w4 ⟨L4, n4, c4, X4, rfl, hF4, hR4, hb⟩
      have HF40 := hF4
      obtain ⟨V4, hV4⟩ : ∃ W, w4.alloc (.cells #[.slice L4 n4 c4] 24) = W := ⟨_, rfl⟩
      have b4 : Below w4.heap.size w4 V4 := by rw [← hV4]; exact on_alloc _ _
      have hbb := hb.trans (b4.mono hb.size)
      have HBX4 : Hid (Blk V4 w4.heap.size 24 #[.slice L4 n4 c4]) := hide (by rw [← hV4]; exact Blk.new w4 _ _)
      have HX2nn := hide (HX2n.out.below hbb HX2n.out.lt)
      have HF3n := hide ((HF3.out.below hbb).more hbb.size)
      have HBX3n := hide (HBX3.out.below hbb HBX3.out.lt)
      have HF4 := hide ((HF40.below b4).more b4.size)
      have HB4 := hide (HB3.out.trans (hbb.mono HB3.out.size))
      clear hbb hb b4 HX2n HF3 HBX3 k_0 k_2 HF40
      have HN3 := hide hR3
      have HN4 := hide hR4
      clear hR3 hR4 hO hF4
      have k_0 := one_ HX2nn.out
      have k_2 := one_ HBX3n.out
      have k_4 := one_ HBX4.out
      go_wp2_with (first | rw [hV4])
      refine (rsame_l L3 L4 n3 n4 c3 c4 X3 X4 l1 V4 HF3n.out HF4.out HN3.out HN4.out HTF.out.1 HTF.out.2).mono ?_
      rintro e w9 ⟨rfl, hb⟩
      have hbb := hb
      have HX2nnn := hide (HX2nn.out.below hbb HX2nn.out.lt)
      have HF3nn := hide ((HF3n.out.below hbb).more hbb.size)
      have HBX3nn := hide (HBX3n.out.below hbb HBX3n.out.lt)
      have HF4n := hide ((HF4.out.below hbb).more hbb.size)
      have HBX4n := hide (HBX4.out.below hbb HBX4.out.lt)
      have HB9 := hide (HB4.out.trans (hbb.mono HB4.out.size))
      clear hbb hb HX2nn HF3n HBX3n HF4 HBX4 k_0 k_2 k_4 
      have XH := hide (heads_n w9 (HST.out.below HB9.out))
      go_wp2_with fail
      refine XH.out.mono ?_
      rintro e wz ⟨rfl, hbz⟩
      have HE := hide (HB9.out.trans (hbz.mono HB9.out.size))
      clear hbz XH
      go_wp2_with fail
      go_ret
      exact ⟨rfl, HE.out⟩
end Go.Proofs.YtlcoapignfmgcaaGreatDoor
