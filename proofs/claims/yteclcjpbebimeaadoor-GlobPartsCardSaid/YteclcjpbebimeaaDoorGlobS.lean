/- The contract of glob.Path. -/
import Derived.Test.YteclcjpbebimeaaDoorGlobR
namespace Go.Proofs.YteclcjpbebimeaaDoor
open Go.RowKit
set_option linter.unusedVariables false
def rootB (p : Bs) : Bool := Lib.hasPrefix p [47]
def PathP (p s : Bs) : Bool := if 1024 < p.length ∨ 1024 < s.length then false else if rootB p = true ∧ rootB s = true then M ((splitP p).map semS) (splitP s) else false
theorem info45 : (Tryd.prog.info? 45).map (fun i => (i.zero, i.size, i.bytes)) = some (some (.agg #[.bool false, .nilFunc]), 2, 16) := by kernel_rfl
theorem rootB_ne {p : Bs} (h : rootB p = true) : 1 ≤ p.length := by
  cases p with
  | nil => cases h
  | cons x r => simp
set_option maxRecDepth 100000 in
set_option maxHeartbeats 8000000 in
theorem path_go (p s : Bs) (hp : p.length ≤ 1024) (hs : s.length ≤ 1024) (hrp : rootB p = true) (hrs : rootB s = true) (w : World) (hS : Std w) : Calls Tryd.prog 10 #[.string ⟨p.toArray⟩, .string ⟨s.toArray⟩] w fun e w' => e = .returned (.bool (M ((splitP p).map semS) (splitP s))) ∧ Below w.heap.size w w' := by
  obtain ⟨i0, hi, hz0, hz1, hz2⟩ := info_parts info45
  have HS := hide hS
  have HP1 := hide (fun W => pre_l p [47] W)
  have HP2 := hide (fun W => pre_l s [47] W)
  have h1 : Lib.hasPrefix p [47] = true := hrp
  have h2 : Lib.hasPrefix s [47] = true := hrs
  rw [h1] at HP1
  rw [h2] at HP2
  have HX1 := hide (fun W (h : Std W) => split_any p (rootB_ne hrp) hp W h)
  have HX2 := hide (fun W (h : Std W) => split_any s (rootB_ne hrs) hs W h)
  have hE1 := splitP_each p
  have hE2 := splitP_each s
  have hL1 := splitP_len p
  have hL2 := splitP_len s
  have HE1 : Hid (∀ k ∈ splitP p, k.length ≤ 1024) := hide (fun k h => Nat.le_trans (hE1 k h) hp)
  have HE2 : Hid (∀ k ∈ splitP s, k.length ≤ 1024) := hide (fun k h => Nat.le_trans (hE2 k h) hs)
  obtain ⟨ks, hks⟩ : ∃ ks, splitP p = ks := ⟨_, rfl⟩
  obtain ⟨js, hjs⟩ : ∃ js, splitP s = js := ⟨_, rfl⟩
  rw [hks] at HX1 hL1 HE1 ⊢
  rw [hjs] at HX2 hL2 HE2 ⊢
  have hp' : ¬ (1024 : Int) < (p.length : Int) := by omega
  have hs' : ¬ (1024 : Int) < (s.length : Int) := by omega
  have HL1 : Hid (ks.length ≤ 1025) := hide (by omega)
  have HL2 : Hid (js.length ≤ 1025) := hide (by omega)
  clear hS h1 h2 hrp hrs hE1 hE2 hks hjs hL1 hL2
  go_enter Tryd.func10, Tryd.ntmps10
  go_wp2_with fail
  refine (HP1.out _).mono ?_
  rintro e w1 ⟨rfl, rfl⟩
  go_wp2_with fail
  refine (HP2.out _).mono ?_
  rintro e w1 ⟨rfl, rfl⟩
  go_wp2_with fail
  refine (HX1.out _ HS.out).mono ?_
  rintro e w1 ⟨A, n, c, rfl, hR, hb⟩
  have HR := hide hR
  have HB1 := hide hb
  have hn : n = ks.length := by have := hR.1; rw [svs_length] at this; omega
  subst hn
  clear hR hb
  go_wp2_with fail
  go_loopw [5, 27] (fun u5 u27 wx => ∃ (k : Nat) (A' : Option Addr) (n' c' : Nat) (cells : List Value), k ≤ ks.length ∧ u27 = .int .i64 k ∧ u5 = .slice A' n' c' ∧ Hid (wx.ownsRow w1.heap.size 45 2 (.slice A' n' c') n' cells) ∧ Hid (EsL wx (ks.take k) cells) ∧ Hid (n' = k) ∧ Hid (Below w1.heap.size w1 wx)) (fun _ u27 _ => ks.length - (intOf u27).toNat)
  case atStart => exact ⟨0, none, 0, 0, [], Nat.zero_le _, rfl, rfl, hide (World.ownsRow_nil _ _ _ _), hide (EsL.nil _), hide rfl, hide (Below.refl _ _)⟩
  case round =>
    obtain ⟨k, A', n', c', cells, hk, rfl, rfl, HO, HE, HN, HB⟩ := hrel
    by_cases hlt : k < ks.length
    · obtain ⟨g, o, rfl, hg, hcl⟩ := cells_of HR.out (by omega) (by rw [svs_length]; omega)
      have hcell := (HB.out.cell (p := ⟨g, o + k, none⟩) hg).trans (hcl k _ (svs_get ks k hlt))
      unfold sv at hcell
      have HTK : Hid (ks.take (k + 1) = ks.take k ++ [ks[k]]) := hide (by rw [List.take_succ_eq_append_getElem hlt])
      have hkn : n' ≤ 1025 := by have := HN.out; have := HL1.out; omega
      have hli : (0 : Int) ≤ (k : Int) := by omega
      have hlj : (k : Int) < (ks.length : Int) := by omega
      have HLT : Hid (k + 1 ≤ ks.length) := hide hlt
      have hkb : (k : Int) ≤ 1025 := by have := HL1.out; omega
      generalize ks[k] = x at *
      have hO2 := hide ((HO.out.alloc (.cells #[.string ⟨x.toArray⟩] 9)).alloc (.cells #[.bool (x == [42, 42]), .func (.func 19) #[] #[.pointer (some ⟨wr.heap.size, 0, none⟩)]] 45))
      have hr1' : Hid (Reads ((wr.alloc (.cells #[.string ⟨x.toArray⟩] 9)).alloc (.cells #[.bool (x == [42, 42]), .func (.func 19) #[] #[.pointer (some ⟨wr.heap.size, 0, none⟩)]] 45)) (wr.heap.size + 2) 2 (some ⟨wr.heap.size + 1, 0, none⟩) 1 [.bool (x == [42, 42]), .func (.func 19) #[] #[.pointer (some ⟨wr.heap.size, 0, none⟩)]]) := hide ⟨rfl, fun _ => ⟨_, rfl, by simp, fun j u hu => by
        have hb := Blk.new (wr.alloc (.cells #[.string ⟨x.toArray⟩] 9)) 45 #[.bool (x == [42, 42]), .func (.func 19) #[] #[.pointer (some ⟨wr.heap.size, 0, none⟩)]]
        rw [at_add, Nat.zero_add]
        have e : (wr.alloc (.cells #[.string ⟨x.toArray⟩] 9)).heap.size = wr.heap.size + 1 := by simp
        rw [e] at hb
        rw [hb.cell j]
        simpa using hu⟩⟩
      have HON : Hid (∀ u ∈ [Value.bool (x == [42, 42]), .func (.func 19) #[] #[.pointer (some ⟨wr.heap.size, 0, none⟩)]], u.oneCell' = true) := hide (fun u hu => by
        simp only [List.mem_cons, List.mem_nil_iff, or_false] at hu
        rcases hu with rfl | rfl <;> rfl)
      clear hcl
      go_wp2_with (at_builtin; (refine wpList_append_any _ rfl (.tmp 31) (.tmp 36) 42 rfl w1.heap.size 45 i0 _ 2 16 Tryd.underlying42 hi hz0 hz1 hz2 rfl (by omega) (.slice A' n' c') n' cells rfl hO2.out (wr.heap.size + 2) (some ⟨wr.heap.size + 1, 0, none⟩) 1 1 [.bool (x == [42, 42]), .func (.func 19) #[] #[.pointer (some ⟨wr.heap.size, 0, none⟩)]] rfl hr1'.out HON.out ?c1 ?c2 ?c3 ?_))
      case c1 => unfold maxLen; omega
      case c2 => omega
      case c3 => have := HB.out.size; simp; omega
      intro v1 w2 hown1 hg1 hat1
      obtain ⟨A2, c2, rfl⟩ := own_slice hown1
      have HO3 := hide hown1
      have HE3 : Hid (EsL w2 (ks.take (k + 1)) (cells ++ [.bool (x == [42, 42]), .func (.func 19) #[] #[.pointer (some ⟨wr.heap.size, 0, none⟩)]])) := hide (by
        have h2 := HE.out.below ((Below.refl _ _).alloc (Nat.le_refl _) (.cells #[.string ⟨x.toArray⟩] 9))
        have h3 := h2.below ((Below.refl _ _).alloc (Nat.le_refl _) (.cells #[.bool (x == [42, 42]), .func (.func 19) #[] #[.pointer (some ⟨wr.heap.size, 0, none⟩)]] 45))
        have hbk := (Blk.new wr 9 #[.string ⟨x.toArray⟩]).alloc (.cells #[.bool (x == [42, 42]), .func (.func 19) #[] #[.pointer (some ⟨wr.heap.size, 0, none⟩)]] 45)
        have h4 := (h3.snoc (e := x) ⟨rfl, wr.heap.size, rfl, hbk⟩).keepRow hO2.out hg1
        rw [HTK.out]
        exact h4)
      have HB3 : Hid (Below w1.heap.size w1 w2) := hide (by
        have h1 := (HB.out.alloc HB.out.size (.cells #[.string ⟨x.toArray⟩] 9))
        have h2 := h1.alloc h1.size (.cells #[.bool (x == [42, 42]), .func (.func 19) #[] #[.pointer (some ⟨wr.heap.size, 0, none⟩)]] 45)
        exact h2.grown hg1 h2.size (fun g hg => (World.ownsRow.lt hO2.out g hg).1))
      clear hown1 hg1 hat1
      go_wp2_with fail
      go_roundw
      case rel => exact ⟨k + 1, A2, n' + 1, c2, _, HLT.out, by go_num, rfl, HO3, HE3, hide (by rw [HN.out]), HB3⟩
      case measure =>
        have := HLT.out
        simp only [intOf]
        omega
    · obtain rfl : k = ks.length := by omega
      have hlj : ¬ (ks.length : Int) < (ks.length : Int) := by omega
      have HSW := hide (HS.out.below (below_more HB1.out (Nat.le_refl _) HB.out))
      have HEF : Hid (EsL wr ks cells) := hide (by have := HE.out; rw [List.take_length] at this; exact this)
      have hnn := HN.out
      subst hnn
      clear HE HN
      go_wp2_with fail
      refine (HX2.out _ HSW.out).mono ?_
      rintro e w3 ⟨B, m, d, rfl, hR3, hb3⟩
      have HR3 := hide hR3
      have HB3 := hide hb3
      clear hR3 hb3
      go_wp2_with fail
      refine (runs_any ks js cells A' B ks.length c' m d w3 rfl (((Reads.of_own HO.out).below HB3.out).more HB3.out.size) (HEF.out.below HB3.out) HR3.out (by have := HL1.out; omega) (by have := HL2.out; omega) HE1.out HE2.out).mono ?_
      rintro e w4 ⟨rfl, hb4⟩
      have HB4 := hide hb4
      clear hb4
      go_wp2_with fail
      go_ret
      exact ⟨rfl, below_more HB1.out (Nat.le_refl _) (below_more HB.out (Nat.le_refl _) (below_more HB3.out (Nat.le_refl _) HB4.out))⟩
set_option maxHeartbeats 2000000 in
theorem path_any (p s : Bs) (w : World) (hS : Std w) : Calls Tryd.prog 10 #[.string ⟨p.toArray⟩, .string ⟨s.toArray⟩] w fun e w' => e = .returned (.bool (PathP p s)) ∧ Below w.heap.size w w' := by
  by_cases h1 : 1024 < p.length
  · have HM : Hid (PathP p s = false) := hide (by unfold PathP; rw [if_pos (.inl h1)])
    have h1' : (1024 : Int) < (p.length : Int) := by omega
    go_enter Tryd.func10, Tryd.ntmps10
    go_wp2_with fail
    go_ret
    exact ⟨ret_bool HM.out.symm, Below.refl _ _⟩
  have h1' : ¬ (1024 : Int) < (p.length : Int) := by omega
  by_cases h2 : 1024 < s.length
  · have HM : Hid (PathP p s = false) := hide (by unfold PathP; rw [if_pos (.inr h2)])
    have h2' : (1024 : Int) < (s.length : Int) := by omega
    go_enter Tryd.func10, Tryd.ntmps10
    go_wp2_with fail
    go_ret
    exact ⟨ret_bool HM.out.symm, Below.refl _ _⟩
  have h2' : ¬ (1024 : Int) < (s.length : Int) := by omega
  by_cases hr : rootB p = true ∧ rootB s = true
  · have HM : PathP p s = M ((splitP p).map semS) (splitP s) := by unfold PathP; rw [if_neg (by omega), if_pos hr]
    rw [HM]
    exact path_go p s (by omega) (by omega) hr.1 hr.2 w hS
  · have HM : Hid (PathP p s = false) := hide (by unfold PathP; rw [if_neg (by omega), if_neg hr])
    have HP1 := hide (fun W => pre_l p [47] W)
    have HP2 := hide (fun W => pre_l s [47] W)
    have hr' : ¬ (Lib.hasPrefix p [47] = true ∧ Lib.hasPrefix s [47] = true) := hr
    generalize Lib.hasPrefix p [47] = a at *
    generalize Lib.hasPrefix s [47] = b at *
    clear hr
    cases a with
    | false =>
      clear hr'
      go_enter Tryd.func10, Tryd.ntmps10
      go_wp2_with fail
      refine (HP1.out _).mono ?_
      rintro e w1 ⟨rfl, rfl⟩
      go_wp2_with fail
      go_ret
      exact ⟨ret_bool HM.out.symm, Below.refl _ _⟩
    | true =>
      obtain rfl : b = false := by cases b <;> simp_all
      clear hr'
      go_enter Tryd.func10, Tryd.ntmps10
      go_wp2_with fail
      refine (HP1.out _).mono ?_
      rintro e w1 ⟨rfl, rfl⟩
      go_wp2_with fail
      refine (HP2.out _).mono ?_
      rintro e w1 ⟨rfl, rfl⟩
      go_wp2_with fail
      go_ret
      exact ⟨ret_bool HM.out.symm, Below.refl _ _⟩
end Go.Proofs.YteclcjpbebimeaaDoor
