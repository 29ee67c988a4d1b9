/- The contracts of clone.List at texts and of texts. -/
import Derived.Test.YtaibmfahfkoahaaGreatEnvU
import Derived.Lib.AppendStr
namespace Go.Proofs.YtaibmfahfkoahaaGreat
open Go.RowKit
set_option linter.unusedVariables false
set_option maxRecDepth 100000 in
set_option maxHeartbeats 4000000 in
theorem tclone_any (l : List LB) (A : Option Addr) (n c : Nat) (w : World) (hR : Reads w w.heap.size 1 A n (svs l)) (h0 : 0 < n) (hn : n ≤ 1000000) : Calls Tryz.prog 45 #[.slice A n c] w fun e w' => ∃ A' c', e = .returned (.slice A' n c') ∧ Ow w.heap.size w' A' n c' l ∧ Below w.heap.size w w' := by
  obtain ⟨i0, hi, hz0, hz1, hz2⟩ := info_parts infoStr
  have hl := rd_len hR
  obtain ⟨x, hx⟩ : ∃ x, l[0]? = some x := ⟨_, List.getElem?_eq_getElem (by omega)⟩
  obtain ⟨g, o, rfl, hg, q0⟩ := cells_str hR hx
  clear hx q0
  have hnil := fun (W : World) => Lib.run_eql_slice_nil (P := Tryz.prog) W 22 9 (some ⟨g, o, none⟩) n c 0 0 Tryz.underlying22
  have hown0 : (w.alloc (.cells #[] 9)).ownsRow w.heap.size 9 1 (.slice (some ⟨w.heap.size, 0, none⟩) 0 0) 0 [] := by
    refine ⟨rfl, .inr ⟨w.heap.size, 0, #[], rfl, Nat.le_refl _, ?_⟩⟩
    exact ⟨Blk.new w 9 #[], Nat.le_refl _, by simp [maxLen], by simp, by simp⟩
  have hb0 := (Below.refl w.heap.size w).alloc (Nat.le_refl _) (.cells #[] 9)
  have hr0 := Reads.alloc hR (Nat.le_refl _) (.cells #[] 9)
  have HL := hide hl
  clear hl
  go_enter Tryz.func45, Tryz.ntmps45
  go_wp2_with (at_builtin; (refine wpList_append_any _ rfl (.tmp 5) (.tmp 6) 22 rfl w.heap.size 9 i0 _ 1 16 Tryz.underlying22 hi hz0 hz1 hz2 rfl (by omega) (.slice (some ⟨w.heap.size, 0, none⟩) 0 0) 0 [] rfl hown0 w.heap.size (some ⟨g, o, none⟩) n c (svs l) rfl hr0 (svs_one l) ?c1 ?c2 ?c3 ?_))
  case c1 => unfold maxLen; omega
  case c2 => omega
  case c3 => simp
  intro v1 w1 hown1 hg1 hat1
  obtain ⟨A', c', rfl⟩ := own_slice hown1
  go_wp2
  go_ret
  exact ⟨A', c', by simp, by unfold Ow; simpa using hown1, hb0.grown hg1 (by simp) (fun g hg => by simp [Value.ownBlock] at hg; omega)⟩
theorem tlist_any (l : List LB) (A : Option Addr) (n c : Nat) (w : World) (hR : Reads w w.heap.size 1 A n (svs l)) (hn : n ≤ 1000000) : Calls Tryz.prog 24 #[.slice A n c] w fun e w' => ∃ A' c', e = .returned (.slice A' n c') ∧ Ow w.heap.size w' A' n c' l ∧ Below w.heap.size w w' := by
  by_cases h0 : n = 0
  · subst h0
    have hl : l = [] := List.eq_nil_of_length_eq_zero (rd_len hR).symm
    subst hl
    clear hR
    go_enter Tryz.func24, Tryz.ntmps24
    go_wp2
    go_ret
    exact ⟨none, 0, rfl, World.ownsRow_nil _ _ _ _, Below.refl _ _⟩
  · have hz : ((n : Int) == 0) = false := beq_eq_false_iff_ne.2 (by omega)
    have X := hide (tclone_any l A n c w hR (by omega) hn)
    clear hR
    go_enter Tryz.func24, Tryz.ntmps24
    go_wp2_with fail
    refine X.out.mono ?_
    rintro e w1 ⟨A', c', rfl, hO, hb⟩
    have HO := hide hO
    have HB := hide hb
    clear hO hb
    go_wp2_with fail
    go_ret
    exact ⟨A', c', rfl, HO.out, HB.out⟩
set_option maxRecDepth 100000 in
set_option maxHeartbeats 8000000 in
theorem texts_any (S : List St) (hs : ∀ p ∈ S, p.1.length ≤ 100000 ∧ p.2.length ≤ 100000) (A : Option Addr) (n c : Nat) (w : World) (hR : RdS w A n S) (hn : n ≤ 100000) :
    Calls Tryz.prog 29 #[.slice A n c] w fun e w' => ∃ A' n' c', e = .returned (.slice A' n' c') ∧ Ow w.heap.size w' A' n' c' (S.map textS) ∧ Below w.heap.size w w' := by
  obtain ⟨i0, hi, hz0, hz1, hz2⟩ := info_parts infoStr
  have HN := hide hR.len
  have HR := hide hR
  have HS := hide hs
  clear hR hs
  go_enter Tryz.func29, Tryz.ntmps29
  go_wp2_with fail
  go_loopw [3, 5, 8] (fun u3 _ u8 wx => ∃ (k : Nat) (A' : Option Addr) (c' : Nat), k ≤ n ∧ u8 = .int .i64 (k : Int) ∧ u3 = .slice A' k c' ∧ Hid (Ow w.heap.size wx A' k c' ((S.map textS).take k)) ∧ Hid (Below w.heap.size w wx)) (fun _ _ u8 _ => n - (intOf u8).toNat)
  case atStart => exact ⟨0, none, 0, by omega, rfl, rfl, hide (Ow.none_ _ _), hide (Below.refl _ _)⟩
  case round =>
    obtain ⟨k, A', c', hk, rfl, rfl, HO, HB⟩ := hrel
    by_cases hlt : k < n
    · obtain ⟨p, hp⟩ : ∃ p, S[k]? = some p := ⟨_, List.getElem?_eq_getElem (by have := HN.out; omega)⟩
      obtain ⟨hs1, hs2⟩ := HS.out p (List.mem_of_getElem? hp)
      obtain ⟨g, o, rfl, hg, c0, c1⟩ := set_cells (HR.out.below HB.out) hp
      have hia := fun W => set_at g o n c k (k : Int) rfl hlt W
      have XT := hide (fun W => text_any p (by omega) (by omega) W)
      have HTX : Hid ((S.map textS).take (k + 1) = (S.map textS).take k ++ [textS p]) := hide (by
        have hp' : (S.map textS)[k]? = some (textS p) := by rw [List.getElem?_map, hp]; rfl
        obtain ⟨h1, h2⟩ := List.getElem?_eq_some_iff.1 hp'
        rw [List.take_succ_eq_append_getElem h1, h2])
      have hlt' : (k : Int) < (n : Int) := by omega
      have HB1 : Hid (∀ a : Obj, Below w.heap.size w (wr.alloc a)) := hide (fun a => HB.out.alloc HB.out.size a)
      have HO1 : Hid (∀ a : Obj, Ow w.heap.size (wr.alloc a) A' k c' ((S.map textS).take k)) := hide (fun a => HO.out.alloc a)
      unfold St.v at XT
      clear hp
      generalize textS p = x at *
      go_wp2_with fail
      refine (XT.out _).mono ?_
      rintro e w5 ⟨rfl, hb5⟩
      have HB5 : Hid (Below w.heap.size w w5) := hide (below_more (HB1.out _) (Nat.le_refl _) hb5)
      have HO5 : Hid (Ow w.heap.size w5 A' k c' ((S.map textS).take k)) := hide ((HO1.out _).below hb5)
      have hr1 := one_str w5 x
      have hO1 := HO5.out.alloc (.cells #[.string ⟨x.toArray⟩] 9)
      have hsz5 := HB5.out.size
      clear hb5 hia c0 c1
      go_wp2_with (at_builtin; (refine wpList_append_any _ rfl (.tmp 12) (.tmp 15) 22 rfl w.heap.size 9 i0 _ 1 16 Tryz.underlying22 hi hz0 hz1 hz2 rfl (by omega) (.slice A' k c') k (svs ((S.map textS).take k)) rfl hO1 (w5.heap.size + 1) (some ⟨w5.heap.size, 0, none⟩) 1 1 (svs [x]) rfl hr1 (svs_one _) ?c1 ?c2 ?c3 ?_))
      case c1 => unfold maxLen; omega
      case c2 => omega
      case c3 => simp; omega
      intro v1 w6 hown1 hg1 hat1
      obtain ⟨A2, c2, rfl, O2, W2⟩ := ow_next' HO5.out hown1 hg1 HB5.out (Nat.le_refl _)
      have HO6 : Hid (Ow w.heap.size w6 A2 (k + 1) c2 ((S.map textS).take (k + 1))) := hide (by rw [HTX.out]; exact O2)
      have HB6 := hide W2
      clear hown1 hg1 hat1 O2 W2 hr1 hO1
      go_wp2_with fail
      go_roundw
      case rel => exact ⟨k + 1, A2, c2, by omega, by go_num, rfl, HO6, HB6⟩
      case measure => simp [intOf]; omega
    · have hlt' : ¬ (k : Int) < (n : Int) := by omega
      obtain rfl : k = n := by omega
      have HOE : Hid (Ow w.heap.size wr A' k c' (S.map textS)) := hide (by have := HO.out; rwa [List.take_of_length_le (by rw [List.length_map, HN.out]; exact Nat.le_refl _)] at this)
      go_wp2_with fail
      go_ret
      first | exact ⟨A', k, c', rfl, HOE.out, HB.out⟩ | exact ⟨A', ⟨k, c', rfl⟩, HOE.out, HB.out⟩ | exact ⟨A', k, ⟨c', rfl⟩, HOE.out, HB.out⟩
end Go.Proofs.YtaibmfahfkoahaaGreat
