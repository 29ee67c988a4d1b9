/- write. -/
import Derived.Test.YthbackkcamgidaaGreatDoorRuWa
namespace Go.Proofs.YthbackkcamgidaaGreatDoor
open Go Go.RowKit
set_option linter.unusedVariables false
theorem lines_len {P : PL} (h : Sm P) : ∀ l ∈ linesW P, (Lib.join l [32]).length ≤ 30000 := by
  intro l hl
  unfold linesW at hl
  rcases List.mem_cons.1 hl with rfl | hl
  · have := join_sum 32 [wRoot, P.root]
    have h1 := h.root
    simp only [List.map_cons, List.sum_cons, List.map_nil, List.sum_nil] at this
    have h3 : wRoot.length = 4 := rfl
    omega
  · rcases List.mem_append.1 hl with hl | hl
    · obtain ⟨r, hr, rfl⟩ := List.mem_map.1 hl
      exact ruleW_len (h.ru r hr)
    · obtain ⟨e, he, rfl⟩ := List.mem_map.1 hl
      exact envW_len (h.en e he)
theorem part_len {P : PL} (h : Sm P) {ls : List (List LB)} (hs : ls.Sublist (linesW P)) : (textW ls).length ≤ 10000000 := by
  have h1 := textW_len 30000 ls fun l hl => lines_len h l (hs.subset hl)
  have h2 : ls.length ≤ 161 := by
    have := hs.length_le
    unfold linesW at this
    have h3 := h.nr
    have h4 := h.ne
    simp at this
    omega
  have := Nat.mul_le_mul h2 (Nat.le_refl (30000 + 1))
  omega
set_option maxRecDepth 100000 in
set_option maxHeartbeats 16000000 in
theorem write_any (P : PL) (s : RS) (w : World) (hP : PolR s P w) (hm : Sm P) (hS : StdR w) :
    Calls Tryz.prog 33 #[polV s P] w fun e w' => e = .returned (.string ⟨(writeU P).toArray⟩) ∧ Below w.heap.size w w' := by
  unfold polV
  obtain ⟨z, hz⟩ : ∃ z, w.heap.size = z := ⟨_, rfl⟩
  have hrn := hP.rn_
  have hen := hP.en_
  have hnr := hm.nr
  have hne := hm.ne
  have HP := hide hP
  have HM := hide hm
  have HS := hide hS
  clear hP hm hS
  have HD : Hid (∀ i j, (textW ([wRoot, P.root] :: ((P.rules.take i).map ruleW ++ (P.env.take j).map envW))).length ≤ 10000000) := hide fun i j => part_len HM.out (by
    unfold linesW
    exact ((((List.take_sublist i P.rules).map ruleW).append ((List.take_sublist j P.env).map envW)).cons_cons _))
  go_enter Tryz.func33, Tryz.ntmps33
  refine wp_seq ?_
  go_wp2_with fail
  have hk0 := Blk.new w 26 #[.string ⟨P.root.toArray⟩, .slice s.RA s.rn s.rc, .slice s.EA s.en s.ec]
  have hb0 := (Below.refl z w).alloc (by omega) (.cells #[.string ⟨P.root.toArray⟩, .slice s.RA s.rn s.rc, .slice s.EA s.en s.ec] 26)
  have hs0 : (w.alloc (.cells #[.string ⟨P.root.toArray⟩, .slice s.RA s.rn s.rc, .slice s.EA s.en s.ec] 26)).heap.size = z + 1 := by simp [hz]
  rw [hz] at hk0
  obtain ⟨W0, hW0⟩ : ∃ W0, w.alloc (.cells #[.string ⟨P.root.toArray⟩, .slice s.RA s.rn s.rc, .slice s.EA s.en s.ec] 26) = W0 := ⟨_, rfl⟩
  rw [hW0] at hk0 hb0 hs0 ⊢
  clear hW0
  try rw [hz]
  have HK0 := hide hk0
  have HB0 := hide hb0
  clear hk0 hb0
  have hI1 : Lib.IsBuilder 81 5 (z + 1) (z + 1) (bv []) (W0.alloc (.cells #[.pointer none, .slice none 0 0] 81)) := .inl ⟨Nat.le_refl _, .slice none 0 0, by
    have := Blk.new W0 81 #[.pointer none, .slice none 0 0]
    rw [← hs0]; exact this, World.ownsRow_nil _ _ _ _, by simp [Value.ownBlock]⟩
  have hk1 := HK0.out.alloc (.cells #[.pointer none, .slice none 0 0] 81)
  have hb1 := HB0.out.alloc (by omega) (.cells #[.pointer none, .slice none 0 0] 81)
  have hs1 : (W0.alloc (.cells #[.pointer none, .slice none 0 0] 81)).heap.size = z + 2 := by simp [hs0]
  try rw [hs0]
  obtain ⟨W1, hW1⟩ : ∃ W1, W0.alloc (.cells #[.pointer none, .slice none 0 0] 81) = W1 := ⟨_, rfl⟩
  rw [hW1] at hI1 hk1 hb1 hs1 ⊢
  clear hW1
  have HI1 := hide hI1
  have HK1 := hide hk1
  have HB1 := hide hb1
  clear hI1 hk1 hb1 HK0 HB0
  generalize hW : W1.alloc _ = W2
  have hW2 : W1.alloc (.cells (svs [wRoot, P.root]).toArray 9) = W2 := hW
  have ho2 := lit_own W1 [wRoot, P.root] (by simp)
  have hbe2 := (Below.refl W1.heap.size W1).alloc (Nat.le_refl _) (.cells (svs [wRoot, P.root]).toArray 9)
  rw [hW2] at ho2 hbe2
  have hs2 : z + 3 = W2.heap.size := by rw [← hW2]; simp [hs1]
  have HI2 := hide (ib_below HI1.out hbe2)
  have HK2 := hide (HK1.out.below hbe2 (by omega))
  have HB2 := hide (HB1.out.trans (hbe2.mono (by omega)))
  rw [hs1] at ho2
  have XA := hide (add_line (z + 1) (z + 1) [] [wRoot, P.root] (some ⟨z + 2, 0, none⟩) 2 2 W2 HI2.out (own_more ho2 (Nat.zero_le _)) (by
    have := lines_len HM.out [wRoot, P.root] (by unfold linesW; simp)
    omega) (by simp) (by omega))
  clear ho2 hbe2 hW hW2 HI1 HK1 HB1
  refine XA.out.mono ?_
  rintro e W3 ⟨rfl, hI3, hb3⟩
  have HT : Hid (textW [[wRoot, P.root]] = [] ++ (Lib.join [wRoot, P.root] [32] ++ [10])) := hide (by simp [textW])
  have HI3 : Hid (Lib.IsBuilder 81 5 (z + 1) (z + 1) (bv (textW [[wRoot, P.root]])) W3) := hide (by rw [HT.out]; exact hI3)
  have HK3 := hide (HK2.out.below hb3 (by omega))
  have HB3 := hide (HB2.out.trans (hb3.mono (by omega)))
  have hs3 : z + 3 ≤ W3.heap.size := by have := hb3.size; omega
  clear hI3 hb3 HI2 HK2 HB2 XA HT
  have c1 := HK3.out.cell 1
  go_wp2_with fail
  clear c1
  go_loopw [18] (fun u18 wx => ∃ i : Nat, i ≤ s.rn ∧ u18 = .int .i64 i ∧ Hid (Below (z + 1) W3 wx) ∧ Hid (Lib.IsBuilder 81 5 (z + 1) (z + 1) (bv (textW ([wRoot, P.root] :: (P.rules.take i).map ruleW))) wx)) (fun u18 _ => s.rn - (intOf u18).toNat)
  case atStart => exact ⟨0, Nat.zero_le _, rfl, hide (Below.refl _ _), HI3⟩
  case round =>
    clear HI3
    obtain ⟨i, hin, rfl, HBW, HIW⟩ := hrel
    have hsx := HBW.out.size
    by_cases hlt : i < s.rn
    · have hsl : s.L.length = s.rn := by have := congrArg List.length HP.out.eq; rw [List.length_map] at this; omega
      obtain ⟨x, hx⟩ : ∃ x, s.L[i]? = some x := ⟨_, List.getElem?_eq_getElem (by omega)⟩
      have hxm : x ∈ s.L := List.mem_of_getElem? hx
      have hpr : P.rules[i]? = some x.r := by rw [← HP.out.eq, List.getElem?_map, hx]; rfl
      obtain ⟨g, o, hRA, hg, hc⟩ := ru_cells HP.out.rules hx
      have hcw : ∀ j u, x.cs[j]? = some u → wr.cell? ⟨g, o + i * 6 + j, none⟩ = some u := fun j u hj => ((HB3.out.trans (HBW.out.mono (by omega : z ≤ z + 1))).cell (p := ⟨g, o + i * 6 + j, none⟩) (by show g < z; omega)).trans (hc j u hj)
      have r0 : wr.cell? ⟨g, o + i * 6, none⟩ = some (.bool x.r.al) := hcw 0 _ rfl
      have r1 : wr.cell? ⟨g, o + i * 6 + 1, none⟩ = some (.slice x.O x.on x.oc) := hcw 1 _ rfl
      have r2 : wr.cell? ⟨g, o + i * 6 + 2, none⟩ = some (.string ⟨x.r.path.toArray⟩) := hcw 2 _ rfl
      have r3 : wr.cell? ⟨g, o + i * 6 + 3, none⟩ = some (.bool x.r.wi) := hcw 3 _ rfl
      have r4 : wr.cell? ⟨g, o + i * 6 + 4, none⟩ = some (.slice x.A x.an x.ac) := hcw 4 _ rfl
      have r5 : wr.cell? ⟨g, o + i * 6 + 5, none⟩ = some (.bool x.r.mo) := hcw 5 _ rfl
      clear hc hcw
      have HRU := hide (HM.out.ru x.r (List.mem_of_getElem? hpr))
      have hia := fun W => ru_at g o s.rn s.rc i (i : Int) rfl hlt W
      have hlt' : (i : Int) < (s.rn : Int) := by omega
      have HTS : Hid (textW ([wRoot, P.root] :: (P.rules.take (i + 1)).map ruleW) = textW ([wRoot, P.root] :: (P.rules.take i).map ruleW) ++ (Lib.join (ruleW x.r) [32] ++ [10])) := hide (by rw [take_snoc' hpr, List.map_append, ← List.cons_append]; exact textW_snoc _ _)
      have HD1 := hide (HD.out i 0)
      have hpt : P.env.take 0 = [] := rfl
      rw [hpt, List.map_nil, List.append_nil] at HD1
      have HBa := hide (HBW.out.alloc (by omega) (.cells x.cs.toArray 40))
      have HIa := hide (ib_below HIW.out ((Below.refl _ wr).alloc (Nat.le_refl _) (.cells x.cs.toArray 40)))
      have hsa : z + 3 ≤ (wr.alloc (.cells x.cs.toArray 40)).heap.size := by simp; omega
      rw [hRA] at *
      clear hx hpr hsl hg
      obtain ⟨tx, htx⟩ : ∃ tx, textW ([wRoot, P.root] :: (P.rules.take i).map ruleW) = tx := ⟨_, rfl⟩
      rw [htx] at HTS HD1 HIa HIW
      clear htx
      have XR := hide (ruleWords_any x)
      go_wp2_with fail
      generalize hW : wr.alloc _ = Wa
      have hW' : wr.alloc (.cells x.cs.toArray 40) = Wa := hW
      rw [hW'] at HBa HIa hsa
      have hba := HB3.out.trans (HBa.out.mono (by omega : z ≤ z + 1))
      have hPa := (HP.out.below (by rw [hz]; exact hba)).ok x hxm
      have hxo : x.on ≤ 1000 := by have := hPa.1.1; rw [ivs_length] at this; have := HRU.out.1; omega
      have hxa : x.an ≤ 1000 := by have := hPa.2.1; rw [svs_length] at this; have := HRU.out.2.2.1; omega
      have HSa := hide (HS.out.below (by rw [hz]; exact hba))
      have HJ := hide (ruleW_len HRU.out)
      clear hia r0 r1 r2 r3 r4 r5 hW hW' HRU hxm
      refine (XR.out Wa HSa.out hPa.1 hPa.2 hxo hxa).mono ?_
      rintro e Wb ⟨An, n, c, rfl, ho, hbb⟩
      have hsb : z + 3 ≤ Wb.heap.size := by have := hbb.size; omega
      have HIb := hide (ib_below HIa.out hbb)
      have HBb := hide (HBa.out.trans (hbb.mono (by omega : z + 1 ≤ Wa.heap.size)))
      have XA := hide (add_line (z + 1) (z + 1) tx (ruleW x.r) An n c Wb HIb.out (own_more ho (Nat.zero_le _)) (by have := HJ.out; omega) (by have := HD1.out; omega) (by omega))
      clear ho hbb HIa HBa hPa HSa hba XR
      go_wp2_with fail
      refine XA.out.mono ?_
      rintro e Wc ⟨rfl, hIc, hbc⟩
      have HIc : Hid (Lib.IsBuilder 81 5 (z + 1) (z + 1) (bv (textW ([wRoot, P.root] :: (P.rules.take (i + 1)).map ruleW))) Wc) := hide (by rw [HTS.out]; exact hIc)
      have HBc := hide (HBb.out.trans hbc)
      clear hIc hbc XA HIb HBb HIW HBW
      go_wp2_with fail
      go_roundw
      case rel => exact ⟨i + 1, by omega, by go_num, HBc, HIc⟩
      case measure => simp [intOf]; omega
    · obtain rfl : i = s.rn := by omega
      have hlt' : ¬ (s.rn : Int) < (s.rn : Int) := by omega
      have htk : P.rules.take s.rn = P.rules := List.take_of_length_le (by omega)
      rw [htk] at HIW
      have hkx := HK3.out.below HBW.out (by omega)
      have HBX := hide (HB3.out.trans (HBW.out.mono (by omega : z ≤ z + 1)))
      have c2 := hkx.cell 2
      have hsx3 : z + 3 ≤ wr.heap.size := by omega
      clear htk hlt hkx HK3 HB3 HBW
      go_wp2_with fail
      clear c2
      have HIW0 : Hid (Lib.IsBuilder 81 5 (z + 1) (z + 1) (bv (textW ([wRoot, P.root] :: (P.rules.map ruleW ++ (P.env.take 0).map envW)))) wr) := hide (by
        rw [show (P.env.take 0).map envW = [] from rfl, List.append_nil]; exact HIW.out)
      have HDD : Hid (∀ j, (textW ([wRoot, P.root] :: (P.rules.map ruleW ++ (P.env.take j).map envW))).length ≤ 10000000) := hide (fun j => by
        have := HD.out s.rn j
        rwa [show P.rules.take s.rn = P.rules from List.take_of_length_le (by omega)] at this)
      clear HIW HD
      generalize wr = W5 at *
      go_loopw [30] (fun u30 wx => ∃ i : Nat, i ≤ s.en ∧ u30 = .int .i64 i ∧ Hid (Below (z + 1) W5 wx) ∧ Hid (Lib.IsBuilder 81 5 (z + 1) (z + 1) (bv (textW ([wRoot, P.root] :: (P.rules.map ruleW ++ (P.env.take i).map envW)))) wx)) (fun u30 _ => s.en - (intOf u30).toNat)
      case atStart => exact ⟨0, Nat.zero_le _, rfl, hide (Below.refl _ _), HIW0⟩
      case round =>
        clear HIW0
        obtain ⟨i, hin, rfl, HBW, HIW⟩ := hrel
        have hsx := HBW.out.size
        by_cases hlt : i < s.en
        · obtain ⟨x, hx⟩ : ∃ x, P.env[i]? = some x := ⟨_, List.getElem?_eq_getElem (by omega)⟩
          obtain ⟨g, o, hRA, hg, hc⟩ := en_cells HP.out.env hx
          have hcw : ∀ j u, x.cs[j]? = some u → wr.cell? ⟨g, o + i * 3 + j, none⟩ = some u := fun j u hj => ((HBX.out.trans (HBW.out.mono (by omega : z ≤ z + 1))).cell (p := ⟨g, o + i * 3 + j, none⟩) (by show g < z; omega)).trans (hc j u hj)
          have r0 : wr.cell? ⟨g, o + i * 3, none⟩ = some (.int .i64 x.k) := hcw 0 _ rfl
          have r1 : wr.cell? ⟨g, o + i * 3 + 1, none⟩ = some (.string ⟨x.pat.toArray⟩) := hcw 1 _ rfl
          have r2 : wr.cell? ⟨g, o + i * 3 + 2, none⟩ = some (.string ⟨x.val.toArray⟩) := hcw 2 _ rfl
          clear hc hcw
          have HEN := hide (HM.out.en x (List.mem_of_getElem? hx))
          have hia := fun W => en_at g o s.en s.ec i (i : Int) rfl hlt W
          have hlt' : (i : Int) < (s.en : Int) := by omega
          have HTS : Hid (textW ([wRoot, P.root] :: (P.rules.map ruleW ++ (P.env.take (i + 1)).map envW)) = textW ([wRoot, P.root] :: (P.rules.map ruleW ++ (P.env.take i).map envW)) ++ (Lib.join (envW x) [32] ++ [10])) := hide (by rw [take_snoc' hx, List.map_append, ← List.append_assoc, ← List.cons_append]; exact textW_snoc _ _)
          have HD1 := hide (HDD.out i)
          have HBa := hide (HBW.out.alloc (by omega) (.cells x.cs.toArray 42))
          have HIa := hide (ib_below HIW.out ((Below.refl _ wr).alloc (Nat.le_refl _) (.cells x.cs.toArray 42)))
          have hsa : z + 3 ≤ (wr.alloc (.cells x.cs.toArray 42)).heap.size := by simp; omega
          rw [hRA] at *
          clear hx hg
          obtain ⟨tx, htx⟩ : ∃ tx, textW ([wRoot, P.root] :: (P.rules.map ruleW ++ (P.env.take i).map envW)) = tx := ⟨_, rfl⟩
          rw [htx] at HTS HD1 HIa HIW
          clear htx
          have XR := hide (settingWords_any x)
          go_wp2_with fail
          generalize hW : wr.alloc _ = Wa
          have hW' : wr.alloc (.cells x.cs.toArray 42) = Wa := hW
          rw [hW'] at HBa HIa hsa
          have HJ := hide (envW_len HEN.out)
          clear hia r0 r1 r2 hW hW'
          refine (XR.out (by have := HEN.out.1; omega) (by have := HEN.out.2; omega) Wa).mono ?_
          rintro e Wb ⟨An, c, rfl, ho, hbb⟩
          have hsb : z + 3 ≤ Wb.heap.size := by have := hbb.size; omega
          have HIb := hide (ib_below HIa.out hbb)
          have HBb := hide (HBa.out.trans (hbb.mono (by omega : z + 1 ≤ Wa.heap.size)))
          have XA := hide (add_line (z + 1) (z + 1) tx (envW x) An 3 c Wb HIb.out (own_more ho (Nat.zero_le _)) (by have := HJ.out; omega) (by have := HD1.out; omega) (by omega))
          clear ho hbb HIa HBa XR HEN
          go_wp2_with fail
          refine XA.out.mono ?_
          rintro e Wc ⟨rfl, hIc, hbc⟩
          have HIc : Hid (Lib.IsBuilder 81 5 (z + 1) (z + 1) (bv (textW ([wRoot, P.root] :: (P.rules.map ruleW ++ (P.env.take (i + 1)).map envW)))) Wc) := hide (by rw [HTS.out]; exact hIc)
          have HBc := hide (HBb.out.trans hbc)
          clear hIc hbc XA HIb HBb HIW HBW
          go_wp2_with fail
          go_roundw
          case rel => exact ⟨i + 1, by omega, by go_num, HBc, HIc⟩
          case measure => simp [intOf]; omega
        · obtain rfl : i = s.en := by omega
          have hlt' : ¬ (s.en : Int) < (s.en : Int) := by omega
          have htk : P.env.take s.en = P.env := List.take_of_length_le (by omega)
          rw [htk] at HIW
          have HI2 : Hid (Lib.IsBuilder 81 5 (z + 1) (z + 1) (Lib.byteCells (writeU P)) wr) := hide (by rw [bcells]; exact HIW.out)
          have HBY := hide (HBX.out.trans (HBW.out.mono (by omega : z ≤ z + 1)))
          have hsx4 : z + 1 ≤ wr.heap.size := by omega
          clear htk hlt HIW HBW HBX HDD
          go_wp2_with fail
          refine (Any.Builder_String_any Tryz.lays169 Tryz.Builder_Extra_169 (z + 1) (z + 1) (writeU P) wr HI2.out hsx4).mono ?_
          rintro e w2 ⟨rfl, hb2⟩
          have HBZ := hide (HBY.out.trans (hb2.mono (by omega : z ≤ z + 1)))
          clear hb2
          go_wp2_with fail
          go_ret
          exact ⟨rfl, by rw [hz]; exact HBZ.out⟩
end Go.Proofs.YthbackkcamgidaaGreatDoor
