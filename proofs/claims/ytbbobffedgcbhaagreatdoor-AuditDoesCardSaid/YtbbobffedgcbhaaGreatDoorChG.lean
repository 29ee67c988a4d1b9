/- Rows of records that hold the same; few records. -/
import Derived.Test.YtbbobffedgcbhaaGreatDoorChN
import Derived.Deep.RegionHeld3
import Derived.Deep.DeepCutAuto
namespace Go.Proofs.YtbbobffedgcbhaaGreatDoor
open Go.RowKit
set_option linter.unusedVariables false
theorem own_grown {w w' : World} {B : Nat} {t : TypeId} {size n : Nat} {v : Value} {xs : List Value} {row : Option Nat} (h : w.ownsRow B t size v n xs) (hg : w.grownBy w' row) (hne : ∀ g, v.ownBlock = some g → some g ≠ row) : w'.ownsRow B t size v n xs := by
  refine ⟨h.1, ?_⟩
  rcases h.2 with h0 | ⟨g, cap, cur, e, hb, hh, r⟩
  · exact .inl h0
  · exact .inr ⟨g, cap, cur, e, hb, (hg.block g (Blk.lt hh) (hne g (by rw [e]; rfl))).trans hh, r⟩
theorem own_apart {w : World} {B C : Nat} {t u : TypeId} {s s' n m : Nat} {v v' : Value} {xs ys : List Value} (h : w.ownsRow B t s v n xs) (k : w.ownsRow C u s' v' m ys) (hne : t ≠ u) {g : Nat} (e1 : v.ownBlock = some g) : some g ≠ v'.ownBlock := by
  intro e2
  rcases h.2 with ⟨h0, _⟩ | ⟨g1, cap1, cur1, a1, _, hh1, _⟩
  · rw [h0] at e1; cases e1
  · rcases k.2 with ⟨h0, _⟩ | ⟨g2, cap2, cur2, a2, _, hh2, _⟩
    · rw [h0] at e2; cases e2
    · rw [a1] at e1
      rw [a2] at e2
      simp only [Value.ownBlock, Option.some.injEq] at e1 e2
      subst e1; subst e2
      exact absurd rfl (Blk.ne_ hh1 hh2 hne)
set_option maxRecDepth 100000 in
set_option maxHeartbeats 8000000 in
theorem rows_same (A B : Option Addr) (n c d : Nat) (l l2 : List RV) (w : World) (h1 : RowR w A n l) (h2 : RowR w B n l2) (he : l.map RV.r = l2.map RV.r) (hn : n ≤ 1000000) :
    Calls Tryz.prog 13 #[.slice A n c, .slice B n d] w fun e w' => e = .returned (.bool true) ∧ Below w.heap.size w w' := by
  have hl := h1.len
  have hl2 := h2.len
  have H1 := hide h1
  have H2 := hide h2
  have HE := hide he
  have HL := hide hl
  have HL2 := hide hl2
  clear h1 h2 he hl hl2
  go_enter Tryz.func13, Tryz.ntmps13
  go_wp2_with fail
  go_loopw [5] (fun u5 wx => ∃ i : Nat, i ≤ n ∧ u5 = .int .i64 (i : Int) ∧ Below w.heap.size w wx) (fun i _ => n - (intOf i).toNat)
  case atStart => exact ⟨0, Nat.zero_le _, rfl, Below.refl _ _⟩
  case round =>
    obtain ⟨i, hi, rfl, hb⟩ := hrel
    have HB := hide hb
    by_cases hlt : i < n
    · have hx : l[i]? = some (l[i]'(by rw [HL.out]; exact hlt)) := List.getElem?_eq_getElem _
      have hy : l2[i]? = some (l2[i]'(by rw [HL2.out]; exact hlt)) := List.getElem?_eq_getElem _
      have hxy : (l[i]'(by rw [HL.out]; exact hlt)).r = (l2[i]'(by rw [HL2.out]; exact hlt)).r := by
        have := congrArg (·[i]?) HE.out
        simpa [List.getElem?_map, hx, hy] using this
      obtain ⟨x, hxe⟩ : ∃ x, l[i]'(by rw [HL.out]; exact hlt) = x := ⟨_, rfl⟩
      obtain ⟨y, hye⟩ : ∃ y, l2[i]'(by rw [HL2.out]; exact hlt) = y := ⟨_, rfl⟩
      rw [hxe] at hx hxy
      rw [hye] at hy hxy
      clear hxe hye
      have kx := hide (H1.out.2 x (List.mem_of_getElem? hx))
      have ky := hide (H2.out.2 y (List.mem_of_getElem? hy))
      obtain ⟨g, o, rfl, hg, a0, a1, a2, a3, a4, a5⟩ := rec_cells H1.out.1 hx
      obtain ⟨g', o', rfl, hg', e0, e1, e2, e3, e4, e5⟩ := rec_cells H2.out.1 hy
      obtain ⟨rx, A1, n1, c1⟩ := x
      obtain ⟨ry, A2, n2, c2⟩ := y
      dsimp only at hxy
      subst hxy
      have XQ := hide (fun W (hW : Below w.heap.size w W) => rsame_any rx rx A1 A2 n1 c1 n2 c2 W (rb kx.out.1 hW) (rb ky.out.1 hW))
      rw [show sameP rx rx = true from (same_iff _ _).2 rfl] at XQ
      obtain ⟨q1, o1, p1, g1, d1, b1⟩ := rx
      unfold Rec.v at XQ
      dsimp only at *
      have CX : Hid (∀ V, Below w.heap.size w V → (V.cell? ⟨g, o + i * 6, none⟩ = some (.int .i64 q1) ∧ V.cell? ⟨g, o + i * 6 + 1, none⟩ = some (.int .i64 o1) ∧ V.cell? ⟨g, o + i * 6 + 2, none⟩ = some (.string ⟨p1.toArray⟩) ∧ V.cell? ⟨g, o + i * 6 + 3, none⟩ = some (.string ⟨g1.toArray⟩) ∧ V.cell? ⟨g, o + i * 6 + 4, none⟩ = some (.slice A1 n1 c1) ∧ V.cell? ⟨g, o + i * 6 + 5, none⟩ = some (.bool b1)) ∧ (V.cell? ⟨g', o' + i * 6, none⟩ = some (.int .i64 q1) ∧ V.cell? ⟨g', o' + i * 6 + 1, none⟩ = some (.int .i64 o1) ∧ V.cell? ⟨g', o' + i * 6 + 2, none⟩ = some (.string ⟨p1.toArray⟩) ∧ V.cell? ⟨g', o' + i * 6 + 3, none⟩ = some (.string ⟨g1.toArray⟩) ∧ V.cell? ⟨g', o' + i * 6 + 4, none⟩ = some (.slice A2 n2 c2) ∧ V.cell? ⟨g', o' + i * 6 + 5, none⟩ = some (.bool b1))) := hide (fun V hV => ⟨⟨(hV.cell (p := ⟨g, o + i * 6, none⟩) hg).trans a0, (hV.cell (p := ⟨g, o + i * 6 + 1, none⟩) hg).trans a1, (hV.cell (p := ⟨g, o + i * 6 + 2, none⟩) hg).trans a2, (hV.cell (p := ⟨g, o + i * 6 + 3, none⟩) hg).trans a3, (hV.cell (p := ⟨g, o + i * 6 + 4, none⟩) hg).trans a4, (hV.cell (p := ⟨g, o + i * 6 + 5, none⟩) hg).trans a5⟩, ⟨(hV.cell (p := ⟨g', o' + i * 6, none⟩) hg').trans e0, (hV.cell (p := ⟨g', o' + i * 6 + 1, none⟩) hg').trans e1, (hV.cell (p := ⟨g', o' + i * 6 + 2, none⟩) hg').trans e2, (hV.cell (p := ⟨g', o' + i * 6 + 3, none⟩) hg').trans e3, (hV.cell (p := ⟨g', o' + i * 6 + 4, none⟩) hg').trans e4, (hV.cell (p := ⟨g', o' + i * 6 + 5, none⟩) hg').trans e5⟩⟩)
      have i1 := fun W => rec_at g o n c i (i : Int) rfl hlt W
      have i2 := fun W => rec_at g' o' n d i (i : Int) rfl hlt W
      have hlt1 : (i : Int) < (n : Int) := by omega
      have v1 : IntKind.i64.wrap ((i : Int) + 1) = (i : Int) + 1 := by simp [IntKind.wrap, IntKind.bits, IntKind.signed]; omega
      clear a0 a1 a2 a3 a4 a5 e0 e1 e2 e3 e4 e5 hb hx hy kx ky
      have kW := hide HB.out
      obtain ⟨⟨a0, a1, a2, a3, a4, a5⟩, ⟨e0, e1, e2, e3, e4, e5⟩⟩ := CX.out _ kW.out
      go_wp2_with fail
      go_region_held3 (fun V => (V.cell? ⟨g, o + i * 6, none⟩ = some (.int .i64 q1) ∧ V.cell? ⟨g, o + i * 6 + 1, none⟩ = some (.int .i64 o1) ∧ V.cell? ⟨g, o + i * 6 + 2, none⟩ = some (.string ⟨p1.toArray⟩) ∧ V.cell? ⟨g, o + i * 6 + 3, none⟩ = some (.string ⟨g1.toArray⟩) ∧ V.cell? ⟨g, o + i * 6 + 4, none⟩ = some (.slice A1 n1 c1) ∧ V.cell? ⟨g, o + i * 6 + 5, none⟩ = some (.bool b1)) ∧ (V.cell? ⟨g', o' + i * 6, none⟩ = some (.int .i64 q1) ∧ V.cell? ⟨g', o' + i * 6 + 1, none⟩ = some (.int .i64 o1) ∧ V.cell? ⟨g', o' + i * 6 + 2, none⟩ = some (.string ⟨p1.toArray⟩) ∧ V.cell? ⟨g', o' + i * 6 + 3, none⟩ = some (.string ⟨g1.toArray⟩) ∧ V.cell? ⟨g', o' + i * 6 + 4, none⟩ = some (.slice A2 n2 c2) ∧ V.cell? ⟨g', o' + i * 6 + 5, none⟩ = some (.bool b1)))
        (first | with_reducible exact CX.out _ kW.out | with_reducible exact CX.out _ (Below.drew kW.out))
        (first
        | (go_at_call 37; with_reducible refine (XQ.out _ (Below.drew kW.out)).mono ?_
           rintro e wx ⟨rfl, kx⟩
           have kX := hide ((Below.drew kW.out).trans (kx.mono (Below.size (Below.drew kW.out))))
           clear kW kx
           have kW := hide kX.out
           clear kX)
        | (go_at_call 37; with_reducible refine (XQ.out _ kW.out).mono ?_
           rintro e wx ⟨rfl, kx⟩
           have kX := hide (kW.out.trans (kx.mono (Below.size kW.out)))
           clear kW kx
           have kW := hide kX.out
           clear kX))
      all_goals
        clear i1 i2
        go_wp2_with fail
        clear v1
        go_roundw
        case rel => exact ⟨i + 1, by omega, by go_num, kW.out⟩
        case measure => simp [intOf]; omega
    · obtain rfl : i = n := by omega
      have hlt1 : ¬ (i : Int) < (i : Int) := by omega
      go_wp2_with fail
      go_ret
      exact ⟨rfl, HB.out⟩
end Go.Proofs.YtbbobffedgcbhaaGreatDoor
