/- The document's Of on settings (layer 11) and Env of variables. -/
import Derived.Test.YtaibmfahfkoahaaGreatEnvZ
namespace Go.Proofs.YtaibmfahfkoahaaGreat
open Go.RowKit
set_option linter.unusedVariables false
set_option maxRecDepth 100000 in
set_option maxHeartbeats 16000000 in
theorem rof_any (l : List LB) (hs : ∀ s ∈ l, s.length ≤ 1000000) (A : Option Addr) (n c : Nat) (w : World) (hR : Reads w w.heap.size 1 A n (svs l)) (hn : n ≤ 1000) :
    Calls Tryz.prog 12 #[.slice A n c] w fun e w' => ∃ A' c', e = .returned (.slice A' (ofP l).length c') ∧ Reads w' w'.heap.size 1 A' (ofP l).length (svs (ofP l)) ∧ Below w.heap.size w w' := by
  have hl : l.length = n := by have := hR.1; rw [svs_length] at this; omega
  have HR := hide hR
  have HL := hide hl
  have HS := hide hs
  clear hR hl hs
  go_enter Tryz.func12, Tryz.ntmps12
  go_wp2_with fail
  go_loopw [3, 4, 5, 6, 7] (fun u3 u4 _ _ _ wx => ∃ (i m : Nat) (A' : Option Addr) (c' : Nat), i ≤ n ∧ m ≤ i ∧ m ≤ c' ∧ u4 = .int .i64 (i : Int) ∧ u3 = .slice A' m c' ∧ Hid ((ofS (l.take i)).length = m) ∧ Hid (Reads wx wx.heap.size 1 A' m (svs ((ofS (l.take i)).map textS))) ∧ Hid (Below w.heap.size w wx)) (fun _ u4 _ _ _ _ => n - (intOf u4).toNat)
  case atStart => exact ⟨0, 0, none, 0, Nat.zero_le _, Nat.zero_le _, Nat.zero_le _, rfl, rfl, hide rfl, hide Reads.none_, hide (Below.refl _ _)⟩
  case round =>
    obtain ⟨i, m, A', c', hi, hmi, hmc, rfl, rfl, HM, HO, HB⟩ := hrel
    by_cases hlt : i < n
    · obtain ⟨s, hsx⟩ : ∃ s, l[i]? = some s := ⟨_, List.getElem?_eq_getElem (by have := HL.out; omega)⟩
      have hsl := HS.out s (List.mem_of_getElem? hsx)
      obtain ⟨g, o, rfl, hg, hcell⟩ := cells_str (HR.out.below HB.out) hsx
      have hia := fun W => str_at g o n c i (i : Int) rfl hlt W
      have HT := hide (of_take l i hsx)
      have XC := hide (fun W => rcut_any s W (by omega))
      have hlt' : (i : Int) < (n : Int) := by omega
      have HGL : Hid (g < wr.heap.size) := hide (Nat.lt_of_lt_of_le hg HB.out.size)
      clear hsx hg
      obtain ⟨q, hq⟩ : ∃ q, parseP s = q := ⟨_, rfl⟩
      have HQ := hide hq
      clear hq
      cases q with
      | none =>
        have HT2 : Hid (ofS (l.take (i + 1)) = ofS (l.take i)) := hide (by rw [HT.out, stepS_none HQ.out])
        have XC2 : Hid (∀ W, Calls Tryz.prog 22 #[.string ⟨s.toArray⟩] W fun e w' => e = .returned (.tuple #[.string ⟨#[]⟩, .string ⟨#[]⟩, .bool false]) ∧ Below W.heap.size W w') := hide (fun W => by
          have := XC.out W
          unfold rcutV at this
          rw [HQ.out] at this
          exact this)
        clear HT XC
        go_wp2_with fail
        refine (XC2.out _).mono ?_
        rintro e w1 ⟨rfl, hb⟩
        have HO2 := hide ((HO.out.below hb).more hb.size)
        have HB2 := hide (below_more HB.out (Nat.le_refl _) hb)
        clear hb
        go_wp2_with fail
        go_roundw
        case rel => exact ⟨i + 1, m, A', c', by omega, by omega, hmc, by go_num, rfl, hide (by rw [HT2.out]; exact HM.out), hide (by rw [HT2.out]; exact HO2.out), HB2⟩
        case measure => simp [intOf]; omega
      | some p =>
        have HT2 : Hid (ofS (l.take (i + 1)) = insS (ofS (l.take i)) p) := hide (by rw [HT.out, stepS_some HQ.out])
        have HGS := hide (ofS_good (l.take i))
        have HSS := hide (ofS_sorted (l.take i))
        obtain ⟨S, hS⟩ : ∃ S, ofS (l.take i) = S := ⟨_, rfl⟩
        rw [hS] at HT2 HM HO HGS HSS
        have HPI := hide (put_ins HSS.out p)
        have HPL : Hid ((insS S p).length = (notK p.1 S).length + 1) := hide (by
          rw [← HPI.out]
          have := atK_le p.1 (notK p.1 S)
          simp only [List.length_append, List.length_take, List.length_drop, List.length_singleton]
          omega)
        obtain ⟨k, hk⟩ : ∃ k, (notK p.1 S).length = k := ⟨_, rfl⟩
        have hkm : k ≤ m := by rw [← hk, ← HM.out]; exact List.length_filter_le _ _
        have XW := hide (fun W (h : Reads W W.heap.size 1 A' m (svs (S.map textS))) => rwithout_any S HGS.out p.1 A' m c' W h (by omega))
        rw [hk] at XW HPL
        have XPUT := hide (fun A2 c2 W (h : Reads W W.heap.size 1 A2 k (svs ((notK p.1 S).map textS))) (h2 : k ≤ c2) => rput11_any (notK p.1 S) (notK_good HGS.out p.1) s p HQ.out A2 k c2 W h (by omega) h2)
        rw [HPI.out] at XPUT
        have XC2 := XC
        rw [rcut_good HQ.out] at XC2
        obtain ⟨pn, pv⟩ := p
        dsimp only at XC2 XW
        clear HT XC hk hS
        go_wp2_with fail
        refine (XC2.out _).mono ?_
        rintro e w1 ⟨rfl, hb⟩
        have HO2 := hide ((HO.out.below hb).more hb.size)
        have HB2 := hide (below_more HB.out (Nat.le_refl _) hb)
        have HC1 := hide ((hb.cell (p := ⟨g, o + i, none⟩) HGL.out).trans hcell)
        have hg1 : g < w1.heap.size := Nat.lt_of_lt_of_le HGL.out hb.size
        clear hb hcell
        go_wp2_with fail
        have kW := hide ((Below.refl w1.heap.size w1).drew)
        refine wp_region_M (fun V => V.cell? ⟨g, o + i, none⟩ = some (.string ⟨s.toArray⟩)) 8 rfl HC1.out (fun hHeld => ?_)
        refine wpAnyM_take (i := 0) (v := ?_) rfl rfl (by kernel_rfl) (fun _ _ _ h => h) (Or.inl ⟨by rfl, ?_⟩) (by assumption) ?_
        rotate_left
        · (intro V hV; (try dsimp only at hV); go_simp; with_reducible rfl)
        try simp only [Act.put, List.setIfInBounds_toArray, List.set_cons_zero, List.set_cons_succ]
        refine wpAnyM_take (i := 1) (v := ?_) rfl rfl (by kernel_rfl) (fun _ _ _ h => h) (Or.inl ⟨by rfl, ?_⟩) (by assumption) ?_
        rotate_left
        · (intro V hV; (try dsimp only at hV); go_simp; with_reducible rfl)
        try simp only [Act.put, List.setIfInBounds_toArray, List.set_cons_zero, List.set_cons_succ]
        refine wpAnyM_take (i := 3) (v := ?_) rfl rfl (by kernel_rfl) (fun _ _ _ h => h) (Or.inl ⟨by rfl, ?_⟩) (by assumption) ?_
        rotate_left
        · (intro V hV; (try dsimp only at hV); go_simp; with_reducible rfl)
        try simp only [Act.put, List.setIfInBounds_toArray, List.set_cons_zero, List.set_cons_succ]
        refine wpAnyM_take (i := 4) (v := ?_) rfl rfl (by kernel_rfl) (fun _ _ _ h => h) (Or.inl ⟨by rfl, ?_⟩) (by assumption) ?_
        rotate_left
        · (intro V hV; (try dsimp only at hV); go_simp; with_reducible rfl)
        try simp only [Act.put, List.setIfInBounds_toArray, List.set_cons_zero, List.set_cons_succ]
        refine wpAnyM_take (i := 5) (v := ?_) rfl rfl (by kernel_rfl) (fun _ _ _ h => h) (Or.inl ⟨by rfl, ?_⟩) (by assumption) ?_
        rotate_left
        · (intro V hV; (try dsimp only at hV); go_simp; with_reducible rfl)
        try simp only [Act.put, List.setIfInBounds_toArray, List.set_cons_zero, List.set_cons_succ]
        refine wpAnyM_take (i := 6) (v := ?_) rfl rfl (by kernel_rfl) (fun _ _ _ h => h) (Or.inl ⟨by rfl, ?_⟩) (by assumption) ?_
        rotate_left
        · (intro V hV; (try dsimp only at hV); go_simp; with_reducible rfl)
        try simp only [Act.put, List.setIfInBounds_toArray, List.set_cons_zero, List.set_cons_succ]
        refine wpAnyM_step (i := 2) (by kernel_rfl) rfl rfl (fun K hK => ?_)
        go_simp
        refine (XW.out _ (by exact HO2.out)).mono ?_
        rintro e w2 ⟨A2, c2, rfl, hO, hb⟩
        have HOW := hide hO.rd
        have HOC := hide hO.addr.1
        have HB3 := hide (below_more HB2.out.drew (by exact Nat.le_refl _) hb)
        have hg2 : g < w2.heap.size := Nat.lt_of_lt_of_le hg1 (by exact hb.size)
        have HS2 : (fun V : World => V.cell? ⟨g, o + i, none⟩ = some (.string ⟨s.toArray⟩)) w2 := (hb.cell (p := ⟨g, o + i, none⟩) (by exact hg1)).trans HC1.out
        refine hK.out _ _ (fun _ => HS2) ?_
        clear hK K hHeld hO hb
        simp only [List.setIfInBounds_toArray]
        refine wpAnyM_step (i := 7) (by kernel_rfl) rfl rfl (fun K hK => ?_)
        go_simp
        refine (XPUT.out A2 c2 w2 HOW.out HOC.out).mono ?_
        rintro e w3 ⟨A3, c3, rfl, hO, hb⟩
        have HO3 := hide hO.rd
        have HC3 := hide hO.addr.1
        have HB4 := hide (below_more HB3.out (Nat.le_refl _) hb)
        have HS3 : (fun V : World => V.cell? ⟨g, o + i, none⟩ = some (.string ⟨s.toArray⟩)) w3 := (hb.cell (p := ⟨g, o + i, none⟩) (by exact hg2)).trans HS2
        refine hK.out _ _ (fun _ => HS3) ?_
        clear hK K hO hb
        simp only [List.setIfInBounds_toArray]
        refine wpAnyM_step (i := 8) (by kernel_rfl) rfl rfl (fun K hK => ?_)
        go_simp
        refine hK.out _ _ (fun h => absurd rfl h) ?_
        refine wpAnyM_done (by kernel_rfl) ?_ _
        clear hK K HS2 HS3
        have hkc := HC3.out
        go_wp2_with fail
        go_roundw
        case rel => exact ⟨i + 1, k + 1, A3, c3, by omega, by omega, hkc, by go_num, by first | rfl | go_num, hide (by rw [HT2.out]; exact HPL.out), hide (by rw [HT2.out]; exact HO3.out), HB4⟩
        case measure => simp [intOf]; omega
    · have hlt' : ¬ (i : Int) < (n : Int) := by omega
      obtain rfl : i = n := by omega
      have e1 : l.take i = l := List.take_of_length_le (by rw [HL.out]; exact Nat.le_refl _)
      rw [e1] at HM HO
      clear e1
      by_cases h32 : 32 < m
      · have k32 : (32 : Int) < (m : Int) := by omega
        have hsl := fun W => ssl_to A' m c' 32 32 rfl (by omega) W
        have HE : Hid ((ofP l).length = 32) := hide (by unfold ofP; rw [List.length_map, List.length_take, HM.out]; omega)
        have HRE : Hid (Reads wr wr.heap.size 1 A' 32 (svs (ofP l))) := hide (by
          have := reads_take HO.out (k := 32) (by omega)
          rwa [← List.map_take] at this)
        go_wp2_with fail
        go_ret
        first | exact ⟨A', c', by rw [HE.out]; rfl, by rw [HE.out]; exact HRE.out, HB.out⟩ | exact ⟨A', ⟨c', by rw [HE.out]; rfl⟩, by rw [HE.out]; exact HRE.out, HB.out⟩
      · have k32 : ¬ (32 : Int) < (m : Int) := by omega
        have HP : Hid (ofP l = (ofS l).map textS) := hide (by unfold ofP; rw [List.take_of_length_le (by rw [HM.out]; omega)])
        have HE : Hid ((ofP l).length = m) := hide (by rw [HP.out, List.length_map, HM.out])
        go_wp2_with fail
        go_ret
        first | exact ⟨A', c', by rw [HE.out]; rfl, by rw [HE.out, HP.out]; exact HO.out, HB.out⟩ | exact ⟨A', ⟨c', by rw [HE.out]; rfl⟩, by rw [HE.out, HP.out]; exact HO.out, HB.out⟩
end Go.Proofs.YtaibmfahfkoahaaGreat
