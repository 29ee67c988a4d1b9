/- opsWord, settingWords. -/
import Derived.Test.YthbackkcamgidaaGreatDoorRuBd
import Derived.Test.YthbackkcamgidaaGreatDoorRuP
namespace Go.Proofs.YthbackkcamgidaaGreatDoor
open Go Go.RowKit
set_option linter.unusedVariables false
theorem own_addr {w : World} {B n c : Nat} {A : Option Addr} {t : TypeId} {xs : List Value} (h : w.ownsRow B t 1 (.slice A n c) n xs) : 0 < n → ∃ g o, A = some ⟨g, o, none⟩ := by
  intro h0
  rcases h.2 with ⟨_, hz⟩ | ⟨g, cap, cur, hv, _⟩
  · omega
  · injection hv with e1; exact ⟨g, 0, e1⟩
theorem take_snoc' {α : Type} {l : List α} {k : Nat} {p : α} (h : l[k]? = some p) : l.take (k + 1) = l.take k ++ [p] := by
  obtain ⟨h1, h2⟩ := List.getElem?_eq_some_iff.1 h
  rw [List.take_succ_eq_append_getElem h1, h2]
theorem wordO_len (o : Int) : (wordO o).length ≤ 7 := by
  unfold wordO
  repeat' split
  all_goals simp
theorem beq_go (l : List Int) : (l == GO) = decide (l = GO) := by
  by_cases h : l = GO
  · rw [h]; simp
  · rw [beq_eq_false_iff_ne.2 h, decide_eq_false h]
set_option maxRecDepth 100000 in
set_option maxHeartbeats 8000000 in
theorem opsWord_any (ops : List Int) (A : Option Addr) (n c : Nat) (w : World) (hR : Reads w w.heap.size 1 A n (ivs ops)) (hn : n ≤ 1000) (hS : StdR w) :
    Calls Tryz.prog 82 #[.slice A n c] w fun e w' => e = .returned (.string ⟨(opsWordU ops).toArray⟩) ∧ Below w.heap.size w w' := by
  obtain ⟨i0, hi, hz0, hz1, hz2⟩ := info_parts infoStr
  have hl : ops.length = n := by have := hR.1; rw [ivs_length] at this; omega
  have HS := hide hS
  have HR := hide hR
  have XG := hide (governed_any w)
  clear hS hR
  go_enter Tryz.func82, Tryz.ntmps82
  go_wp2_with fail
  refine XG.out.mono ?_
  rintro e w1 ⟨GA, gc, rfl, hown, hb1⟩
  have hr1 := HR.out.below hb1
  have XE := hide (eqI_any ops GO A GA n c 9 gc w1 (hr1.more hb1.size) ((Reads.of_own hown)) (by omega) (by omega))
  have HB1 := hide hb1
  have HR1 := hide hr1
  clear hown hb1 hr1 XG
  go_wp2_with fail
  refine XE.out.mono ?_
  rintro e w2 ⟨rfl, q, rfl⟩
  have HB2 := hide (below_drewN HB1.out q)
  have HR2 := hide (HR1.out.drewN q)
  clear HB1 HR1 XE
  by_cases hgo : ops = GO
  · have e1 : (ops == GO) = true := by rw [beq_go, decide_eq_true hgo]
    have HW : Hid (opsWordU ops = [42]) := hide (by unfold opsWordU; rw [if_pos hgo])
    clear hgo
    go_wp2_with fail
    go_ret
    exact ⟨by rw [HW.out]; rfl, HB2.out⟩
  have e1 : (ops == GO) = false := by rw [beq_go, decide_eq_false hgo]
  have HW : Hid (opsWordU ops = Lib.join (ops.map wordO) [44]) := hide (by unfold opsWordU; rw [if_neg hgo])
  clear hgo
  generalize w1.drewN q = W at *
  obtain ⟨y, hy⟩ : ∃ y, W.heap.size = y := ⟨_, rfl⟩
  have hyz : w.heap.size ≤ y := by have := HB2.out.size; omega
  have HSW := hide (HS.out.below HB2.out)
  have HRW := hide (HR2.out.more hyz)
  clear HS HR HR2
  go_wp2_with fail
  go_loopw [3, 11] (fun u3 u11 wx => ∃ i : Nat, i ≤ n ∧ u11 = .int .i64 i ∧ Hid (Below y W wx) ∧ Hid (wx.ownsRow y 9 1 u3 i (svs ((ops.take i).map wordO)))) (fun _ u11 _ => n - (intOf u11).toNat)
  case atStart => exact ⟨0, Nat.zero_le _, rfl, hide (Below.refl _ _), hide (World.ownsRow_nil _ _ _ _)⟩
  case round =>
    obtain ⟨i, hin, rfl, HB, HO⟩ := hrel
    have hszx := HB.out.size
    by_cases hlt : i < n
    · obtain ⟨o, ho⟩ : ∃ o, ops[i]? = some o := ⟨_, List.getElem?_eq_getElem (by omega)⟩
      obtain ⟨g, o1, rfl, hg, q0⟩ := cells_of HRW.out (by omega) (by rw [ivs_length]; omega)
      have hck : wr.cell? ⟨g, o1 + i, none⟩ = some (.int .i64 o) := by
        rw [HB.out.cell (p := ⟨g, o1 + i, none⟩) hg]
        have := q0 i _ (ivs_get ops i (by omega))
        rwa [(List.getElem?_eq_some_iff.1 ho).2] at this
      clear q0
      have hlt' : (i : Int) < (n : Int) := by omega
      have hi0 : (0 : Int) ≤ (i : Int) := by omega
      have kw : IntKind.i64.wrap ((i : Int) + 1) = (i : Int) + 1 := by simp [IntKind.wrap, IntKind.bits, IntKind.signed]; omega
      have XW := hide (word_any o wr (HSW.out.below (by rw [hy]; exact HB.out)))
      have HTK : Hid (svs ((ops.take (i + 1)).map wordO) = svs ((ops.take i).map wordO) ++ svs [wordO o]) := hide (by rw [take_snoc' ho, List.map_append]; simp [svs])
      generalize wordO o = nm at *
      clear ho
      go_wp2_with fail
      refine XW.out.mono ?_
      rintro e w3 ⟨rfl, rfl⟩
      clear XW hck
      go_wp2_with (refine wpList_append_any _ rfl (.tmp 15) (.tmp 18) 38 rfl y 9 i0 _ 1 16 Tryz.underlying38 hi hz0 hz1 hz2 rfl (by decide) _ _ _ rfl (World.ownsRow.alloc HO.out _) _ _ 1 1 (svs [nm]) rfl (one_str _ _) (svs_one _) ?c1 ?c2 ?c3 ?_)
      case c1 => unfold maxLen; omega
      case c2 => omega
      case c3 => simp; omega
      intro v' w3 hown2 hgr _
      have HB3 : Hid (Below y W w3) := hide (Below.grown (h := HB.out.alloc (by omega) _) (hg := hgr) (by simp; omega) (fun g hg => by have := (World.ownsRow.lt HO.out g hg).1; omega))
      have HO3 := hide hown2
      clear hgr hown2
      go_wp2_with fail
      go_roundw
      case rel => exact ⟨i + 1, by omega, by go_num, HB3, hide (by rw [HTK.out, List.map_take]; exact HO3.out)⟩
      case measure => simp [intOf]; omega
    · obtain rfl : i = n := by omega
      have hlt' : ¬ (i : Int) < (i : Int) := by omega
      have htk : ops.take i = ops := List.take_of_length_le (by omega)
      rw [htk] at HO
      obtain ⟨A3, c3, rfl⟩ := own_slice HO.out
      have hjl := join_len 44 (ops.map wordO) 7 (fun k hk => by obtain ⟨o, _, rfl⟩ := List.mem_map.1 hk; exact wordO_len o)
      rw [List.length_map] at hjl
      have XJ := hide (join_row 44 A3 i c3 (ops.map wordO) wr (Reads.of_own HO.out) (own_le HO.out) (own_addr HO.out) (by omega))
      clear htk hjl
      go_wp2_with fail
      refine XJ.out.mono ?_
      rintro e w4 ⟨rfl, hb4⟩
      have HB4 := hide (HB2.out.trans ((HB.out.trans (hb4.mono (by omega : y ≤ wr.heap.size))).mono hyz))
      clear hb4
      go_wp2_with fail
      go_ret
      exact ⟨by rw [HW.out]; rfl, HB4.out⟩
end Go.Proofs.YthbackkcamgidaaGreatDoor
