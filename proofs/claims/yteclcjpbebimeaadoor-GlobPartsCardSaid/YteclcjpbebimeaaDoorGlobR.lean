/- The contract of glob.run at texts: the walk. -/
import Derived.Test.YteclcjpbebimeaaDoorGlobQ
namespace Go.Proofs.YteclcjpbebimeaaDoor
open Go.RowKit
set_option linter.unusedVariables false
theorem semS_get (es : List Bs) (k : Nat) (h : k < es.length) (h' : k < (es.map semS).length) : (es.map semS)[k] = semS es[k] := by simp
set_option maxRecDepth 100000 in
set_option maxHeartbeats 8000000 in
theorem runs_any (es its : List Bs) (cells : List Value) (A B : Option Addr) (n c m d : Nat) (w : World) (hn : n = es.length) (hA : Reads w w.heap.size 2 A n cells) (hE : EsL w es cells) (hB : Reads w w.heap.size 1 B m (svs its)) (h1 : es.length ≤ 2000) (h2 : its.length ≤ 2000) (hes : ∀ k ∈ es, k.length ≤ 1024) (his : ∀ k ∈ its, k.length ≤ 1024) :
    Calls Tryd.prog 20 #[.slice A n c, .slice B m d] w fun e w' => e = .returned (.bool (M (es.map semS) its)) ∧ Below w.heap.size w w' := by
  subst hn
  have hm : its.length = m := by have := hB.1; rw [svs_length] at this; omega
  subst hm
  obtain ⟨out, ho⟩ : ∃ out, M (es.map semS) its = out := ⟨_, rfl⟩
  rw [ho]
  have HS : Hid (GInv (es.map semS) its out none 0 0 0) := hide (by rw [← ho]; exact GInv.start)
  have HL : Hid ((es.map semS).length = es.length) := hide (by simp)
  have HE := hide hE
  have HA := hide hA
  have HB := hide hB
  have HES := hide hes
  have HIS := hide his
  clear ho hE hA hB hes his
  go_enter Tryd.func20, Tryd.ntmps20
  go_wp2_with fail
  go_loopw [5, 6, 7, 8] (fun u5 u6 u7 u8 wx => ∃ (at_ item taken : Nat) (s : Option Nat) (st : Int), u5 = .int .i64 at_ ∧ u6 = .int .i64 item ∧ u7 = .int .i64 st ∧ u8 = .int .i64 taken ∧ Hid (Below w.heap.size w wx) ∧ Hid (GInv (es.map semS) its out s at_ item taken) ∧ at_ ≤ es.length ∧ item ≤ its.length ∧ taken ≤ item ∧ Hid (st = stI s) ∧ -1 ≤ st ∧ st ≤ 2000) (fun u5 _ u7 u8 _ => (4096 - (intOf u7 + 1).toNat) * 16777216 + (4096 - (intOf u8).toNat) * 4096 + (4096 - (intOf u5).toNat))
  case atStart => exact ⟨0, 0, 0, none, -1, rfl, rfl, rfl, rfl, hide (Below.refl _ _), HS, Nat.zero_le _, Nat.zero_le _, Nat.le_refl _, hide rfl, by omega, by omega⟩
  case round =>
    clear HS
    obtain ⟨at_, item, taken, s, st, rfl, rfl, rfl, rfl, HBW, HG, ha, hi, ht, HST, hs1, hs2⟩ := hrel
    by_cases hlt : item < its.length
    · have hlt' : (item : Int) < (its.length : Int) := by omega
      have hli : (0 : Int) ≤ (item : Int) := by omega
      by_cases hat : at_ < es.length
      · have hat' : (at_ : Int) < (es.length : Int) := by omega
        have hla : (0 : Int) ≤ (at_ : Int) := by omega
        have hgt : decide ((at_ : Int) < (es.length : Int)) = true := decide_eq_true hat'
        have hgt2 : decide (at_ < es.length) = true := decide_eq_true hat
        obtain ⟨g, o, rfl, hg, hcl⟩ := cells_of HA.out (by omega) (by rw [HE.out.1]; omega)
        obtain ⟨va, vb, hca0, hcb0, hev⟩ := es_at HE.out hcl at_ hat
        have hca := (HBW.out.cell (p := ⟨g, o + at_ * 2, none⟩) hg).trans hca0
        have hcb := (HBW.out.cell (p := ⟨g, o + at_ * 2 + 1, none⟩) hg).trans hcb0
        have hatm : at_ < (es.map semS).length := by rw [HL.out]; exact hat
        have HSEM := hide (semS_get es at_ hat hatm)
        have HKL := hide (HES.out es[at_] (List.getElem_mem _))
        generalize es[at_] = el at *
        clear hcl hca0 hcb0
        obtain ⟨x, hx⟩ : ∃ x, its[item] = x := ⟨_, rfl⟩
        have HX := hide hx
        have HXL := hide (HIS.out its[item] (List.getElem_mem _))
        obtain ⟨g2, o2, rfl, hg2, hcl2⟩ := cells_of HB.out (by omega) (by rw [svs_length]; omega)
        have hcx := (HBW.out.cell (p := ⟨g2, o2 + item, none⟩) hg2).trans (hcl2 item _ (svs_get its item hlt))
        unfold sv at hcx
        rw [hx] at hcx HXL
        clear hx hcl2
        obtain ⟨rfl, g3, rfl, hblk⟩ := hev
        have HBK := hide (hblk.below (HBW.out) hblk.lt)
        clear hblk
        have hgr : g < wr.heap.size := Nat.lt_of_lt_of_le hg HBW.out.size
        have hg2r : g2 < wr.heap.size := Nat.lt_of_lt_of_le hg2 HBW.out.size
        cases hmany : (el == [42, 42]) with
        | true =>
          have HG2 := hide (HG.out.star hatm (by rw [HSEM.out]; exact hmany))
          have hst : st + 1 ≤ at_ := by
            rw [HST.out]
            cases s with
            | none => show (-1 : Int) + 1 ≤ _; omega
            | some s =>
              have := HG.out.taken_le
              show (s : Int) + 1 ≤ _
              omega
          rw [hmany] at hca
          clear HG HST hmany
          go_wp2_with fail
          go_roundw
          case rel => exact ⟨at_ + 1, item, item, some at_, (at_ : Int), by go_num, rfl, rfl, rfl, HBW, HG2, by omega, by omega, by omega, hide rfl, by omega, by omega⟩
          case measure => simp only [intOf]; simp; omega
        | false =>
          have HCA := hide hca
          have HCB := hide hcb
          have HCX := hide hcx
          have HMANY := hide hmany
          rw [hmany] at hca
          have HF := hide (fun W (hW : Below wr.heap.size wr W) => fit_str x el HXL.out HKL.out g3 W (HBK.out.below hW HBK.out.lt))
          have HFT : Hid (∀ v, matchP el x = v → (es.map semS)[at_].2 its[item] = v) := hide (fun v h => by rw [HSEM.out, HX.out]; exact h)
          cases hv : matchP el x with
          | true =>
            have HG2 := hide (HG.out.fit hatm (by rw [HSEM.out]; exact hmany) hlt (HFT.out true hv))
            rw [hv] at HF
            clear HG hmany HFT hv
            go_wp2_with fail
            have kW := hide ((Below.refl wr.heap.size wr).drew)
            go_region_held3 (fun W => W.cell? ⟨g, o + at_ * 2 + 1, none⟩ = some (.func (.func 19) #[] #[.pointer (some ⟨g3, 0, none⟩)]) ∧ W.cell? ⟨g2, o2 + item, none⟩ = some (.string ⟨x.toArray⟩))
              (with_reducible exact ⟨(kW.out.cell (p := ⟨g, o + at_ * 2 + 1, none⟩) hgr).trans HCB.out, (kW.out.cell (p := ⟨g2, o2 + item, none⟩) hg2r).trans HCX.out⟩)
              (first
                | (go_at_call 19; with_reducible refine (HF.out _ kW.out).mono ?_
                   rintro e wx ⟨rfl, kx⟩
                   have kW := hide (below_more kW.out (Nat.le_refl _) kx)
                   clear kx))
            all_goals
              go_wp2_with fail
              go_roundw
              case rel => exact ⟨at_ + 1, item + 1, taken, s, st, by go_num, by go_num, rfl, rfl, hide (below_more HBW.out (Nat.le_refl _) kW.out), HG2, by omega, by omega, by omega, HST, hs1, hs2⟩
              case measure => simp only [intOf]; simp; omega
          | false =>
            have HM := hide (misses_fit (es := es.map semS) (it := its) hatm (by rw [HSEM.out]; exact hmany) hlt (HFT.out false hv))
            rw [hv] at HF
            clear hmany HFT hv
            cases s with
            | none =>
              obtain rfl : st = -1 := HST.out
              have HO := hide (HG.out.lost HM.out)
              clear HG HST HM
              go_wp2_with fail
              have kW := hide ((Below.refl wr.heap.size wr).drew)
              go_region_held3 (fun W => W.cell? ⟨g, o + at_ * 2 + 1, none⟩ = some (.func (.func 19) #[] #[.pointer (some ⟨g3, 0, none⟩)]) ∧ W.cell? ⟨g2, o2 + item, none⟩ = some (.string ⟨x.toArray⟩))
                (with_reducible exact ⟨(kW.out.cell (p := ⟨g, o + at_ * 2 + 1, none⟩) hgr).trans HCB.out, (kW.out.cell (p := ⟨g2, o2 + item, none⟩) hg2r).trans HCX.out⟩)
                (first
                  | (go_at_call 19; with_reducible refine (HF.out _ kW.out).mono ?_
                     rintro e wx ⟨rfl, kx⟩
                     have kW := hide (below_more kW.out (Nat.le_refl _) kx)
                     clear kx))
              all_goals
                go_wp2_with fail
                go_ret
                exact ⟨ret_bool HO.out.symm, below_more HBW.out (Nat.le_refl _) kW.out⟩
            | some s =>
              obtain rfl : st = (s : Int) := HST.out
              have htl : s < es.length := by have := HG.out.taken_le.1; rw [HL.out] at this; exact this
              have HG2 := hide (HG.out.back hlt HM.out)
              have hsn : (0 : Int) ≤ (s : Int) := by omega
              clear HG HST HM
              go_wp2_with fail
              have kW := hide ((Below.refl wr.heap.size wr).drew)
              go_region_held3 (fun W => W.cell? ⟨g, o + at_ * 2 + 1, none⟩ = some (.func (.func 19) #[] #[.pointer (some ⟨g3, 0, none⟩)]) ∧ W.cell? ⟨g2, o2 + item, none⟩ = some (.string ⟨x.toArray⟩))
                (with_reducible exact ⟨(kW.out.cell (p := ⟨g, o + at_ * 2 + 1, none⟩) hgr).trans HCB.out, (kW.out.cell (p := ⟨g2, o2 + item, none⟩) hg2r).trans HCX.out⟩)
                (first
                  | (go_at_call 19; with_reducible refine (HF.out _ kW.out).mono ?_
                     rintro e wx ⟨rfl, kx⟩
                     have kW := hide (below_more kW.out (Nat.le_refl _) kx)
                     clear kx))
              all_goals
                go_wp2_with fail
                go_roundw
                case rel => exact ⟨s + 1, taken + 1, taken + 1, some s, (s : Int), by go_num, by go_num, rfl, by go_num, hide (below_more HBW.out (Nat.le_refl _) kW.out), HG2, by omega, by omega, by omega, hide rfl, by omega, by omega⟩
                case measure => simp only [intOf]; simp; omega
      · have hat' : ¬ (at_ : Int) < (es.length : Int) := by omega
        have HM := hide (misses_end (es := es.map semS) (it := its) (at_ := at_) (item := item) (by rw [HL.out]; omega) hlt)
        have hgd : decide ((at_ : Int) < (es.length : Int)) = false := decide_eq_false hat'
        have hgd2 : decide (at_ < es.length) = false := decide_eq_false hat
        cases s with
        | none =>
          obtain rfl : st = -1 := HST.out
          have HO := hide (HG.out.lost HM.out)
          clear HG HST HM
          go_wp2_with fail
          go_quiet (fail)
          go_wp2_with fail
          go_ret
          exact ⟨ret_bool HO.out.symm, below_drewN HBW.out _⟩
        | some s =>
          obtain rfl : st = (s : Int) := HST.out
          have htl : s < es.length := by have := HG.out.taken_le.1; rw [HL.out] at this; exact this
          have HG2 := hide (HG.out.back hlt HM.out)
          have hsn : (0 : Int) ≤ (s : Int) := by omega
          clear HG HST HM
          go_wp2_with fail
          go_quiet (fail)
          go_wp2_with fail
          go_roundw
          case rel => exact ⟨s + 1, taken + 1, taken + 1, some s, (s : Int), by go_num, by go_num, rfl, by go_num, hide (below_drewN HBW.out _), HG2, by omega, by omega, by omega, hide rfl, by omega, by omega⟩
          case measure => simp only [intOf]; simp; omega
    · obtain rfl : item = its.length := by omega
      have HD := hide (HG.out.over rfl)
      have hge : ¬ (its.length : Int) < (its.length : Int) := by omega
      clear HG HST
      go_wp2_with fail
      go_loopw [5] (fun u5 wx => ∃ at2 : Nat, u5 = .int .i64 at2 ∧ wx = wr ∧ at2 ≤ es.length ∧ Hid (D (es.map semS) its at2 its.length = out)) (fun u5 _ => es.length - (intOf u5).toNat)
      case atStart => exact ⟨at_, rfl, rfl, ha, HD⟩
      case round =>
        clear HD ha
        obtain ⟨at2, rfl, rfl, ha, HD⟩ := hrel
        by_cases hat : at2 < es.length
        · have hat' : (at2 : Int) < (es.length : Int) := by omega
          obtain ⟨g, o, rfl, hg, hcl⟩ := cells_of HA.out (by omega) (by rw [HE.out.1]; omega)
          obtain ⟨va, vb, hca0, hcb0, hev⟩ := es_at HE.out hcl at2 hat
          have hca := (HBW.out.cell (p := ⟨g, o + at2 * 2, none⟩) hg).trans hca0
          have hatm : at2 < (es.map semS).length := by rw [HL.out]; exact hat
          have HSEM := hide (semS_get es at2 hat hatm)
          generalize es[at2] = el at *
          clear hcl hca0 hcb0
          obtain ⟨rfl, _⟩ := hev
          cases hmany : (el == [42, 42]) with
          | true =>
            have HD2 : Hid (D (es.map semS) its (at2 + 1) its.length = out) := hide (by rw [← HD.out, D_many_past _ _ hatm (by rw [HSEM.out]; exact hmany) (Nat.le_refl _)])
            rw [hmany] at hca
            clear HD hmany
            go_wp2_with fail
            go_roundw
            case rel => exact ⟨at2 + 1, by go_num, by first | rfl | trivial, by omega, HD2⟩
            case measure => simp only [intOf]; simp; omega
          | false =>
            have HO : Hid (out = false) := hide (by rw [← HD.out, D_none _ _ hatm (by rw [HSEM.out]; exact hmany) (Nat.le_refl _)])
            have hne : ((at2 : Int) == (es.length : Int)) = false := beq_eq_false_iff_ne.2 (by omega)
            rw [hmany] at hca
            clear HD hmany
            go_wp2_with fail
            go_ret
            exact ⟨ret_bool HO.out.symm, HBW.out⟩
        · obtain rfl : at2 = es.length := by omega
          have HO : Hid (out = true) := hide (by rw [← HD.out, D_done _ _ (by rw [HL.out]; exact Nat.le_refl _) (Nat.le_refl _)])
          have hge2 : ¬ (es.length : Int) < (es.length : Int) := by omega
          clear HD
          go_wp2_with fail
          go_ret
          exact ⟨ret_bool HO.out.symm, HBW.out⟩
end Go.Proofs.YteclcjpbebimeaaDoor
