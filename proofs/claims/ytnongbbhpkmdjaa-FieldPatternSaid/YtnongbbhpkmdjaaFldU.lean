/- The document's Text, Quote, Pattern, class, Special; Pieces and Fields. -/
import Derived.Test.YtnongbbhpkmdjaaFldT
namespace Go.Proofs.Ytnongbbhpkmdjaa
open Go.RowKit
set_option linter.unusedVariables false
set_option maxHeartbeats 4000000 in
theorem rtext_any (l : List Pc) (A : Option Addr) (n c : Nat) (w : World) (hR : RdP w A n l) (hn : n ≤ 1000000) (hlen : (txl l).length ≤ 1000000) :
    Calls Try.prog 13 #[.slice A n c] w fun e w' => e = .returned (.string ⟨(txl l).toArray⟩) ∧ w = w' := by
  have hll : l.length = n := by have := hR.1; rw [pvs_length] at this; omega
  have HLL := hide hll
  have HR := hide hR
  clear hR hll
  go_enter Try.func13, Try.ntmps13
  go_wp2_with fail
  go_loop [3, 4] (fun u3 u4 => ∃ i : Nat, i ≤ n ∧ u4 = .int .i64 (i : Int) ∧ u3 = .string ⟨(txl (l.take i)).toArray⟩) (fun _ u4 => n - (intOf u4).toNat)
  case atStart => exact ⟨0, Nat.zero_le _, rfl, rfl⟩
  case round =>
    obtain ⟨i, hi, rfl, rfl⟩ := hrel
    by_cases hlt : i < n
    · obtain ⟨p, hp⟩ : ∃ p, l[i]? = some p := ⟨_, List.getElem?_eq_getElem (by have := HLL.out; omega)⟩
      obtain ⟨g, o, rfl, hg, q0, q1, q2, q3⟩ := pc_cells HR.out hp
      have hia := fun W => pc_at g o n c i (i : Int) rfl hlt W
      have hlt' : (i : Int) < (n : Int) := by omega
      have HTX : Hid (txl (l.take (i + 1)) = txl (l.take i) ++ p.text) := hide (by rw [take_snoc' hp, txl_snoc])
      have hl1 := txl_take l i
      have hl2 := txl_take l (i + 1)
      have hl3 : (txl (l.take i)).length + p.text.length ≤ 1000000 := by have := congrArg List.length HTX.out; rw [List.length_append] at this; omega
      obtain ⟨L, hL⟩ : ∃ L, txl (l.take i) = L := ⟨_, rfl⟩
      rw [hL] at HTX hl1 hl3 ⊢
      have b1 : ¬ (9223372036854775807 : Nat) < L.length + p.text.length := by omega
      clear hp hL
      go_wp2_with fail
      rw [catQ]
      go_round
      case rel => exact ⟨i + 1, by omega, by go_num, by rw [HTX.out]⟩
      case measure => simp [intOf]; omega
    · have hlt' : ¬ (i : Int) < (n : Int) := by omega
      have HE : Hid (txl (l.take i) = txl l) := hide (by rw [List.take_of_length_le (by have := HLL.out; omega)])
      rw [HE.out]
      go_wp2_with fail
      go_ret
      exact ⟨rfl, rfl⟩
theorem one_u8 (W : World) (c : UInt8) : Reads (W.alloc (.cells #[.int .u8 (c.toNat : Int)] 5)) (W.heap.size + 1) 1 (some ⟨W.heap.size, 0, none⟩) 1 (bv [c]) := by
  refine ⟨rfl, fun _ => ⟨_, rfl, by simp, ?_⟩⟩
  intro j u hu
  match j with
  | 0 =>
    simp only [bv, List.map_cons, List.map_nil, List.getElem?_cons_zero, Option.some.injEq] at hu
    subst hu
    rw [add_zero_]
    exact (Blk.new W 5 #[.int .u8 (c.toNat : Int)]).cell 0
  | j + 1 => simp [bv] at hu
theorem to_next {B : Nat} {w wr w2 : World} {A : Option Addr} {n c : Nat} {t : LB} {x : UInt8} {v1 : Value} {o : Obj} (h : To B wr A n c t) (h1 : w2.ownsRow B 5 1 v1 (n + 1) (bv t ++ bv [x])) (hg : (wr.alloc o).grownBy w2 (Value.slice A n c).ownBlock) (hw : Below w.heap.size w wr) (hCB : w.heap.size ≤ B) :
    ∃ A' c', v1 = .slice A' (n + 1) c' ∧ To B w2 A' (n + 1) c' (t ++ [x]) ∧ Below w.heap.size w w2 := by
  obtain ⟨A', c', rfl⟩ := own_slice h1
  exact ⟨A', c', rfl, by unfold To; rw [bv_append]; exact h1, Below.grown (h := hw.alloc hw.size o) (hg := hg) (by have := hw.size; simp; omega) (fun g hg => by have := (World.ownsRow.lt h g hg).1; omega)⟩
set_option maxRecDepth 100000 in
set_option maxHeartbeats 8000000 in
theorem rquote_any (s : LB) (hs : s.length ≤ 100000) (w : World) : Calls Try.prog 36 #[.string ⟨s.toArray⟩] w fun e w' => e = .returned (.string ⟨(quoteP s).toArray⟩) ∧ Below w.heap.size w w' := by
  obtain ⟨i0, hi, hz0, hz1, hz2⟩ := info_parts infoU8
  go_enter Try.func36, Try.ntmps36
  go_wp2_with fail
  go_loopw [3, 4] (fun u3 u4 wx => ∃ (i n : Nat) (A : Option Addr) (c : Nat), i ≤ s.length ∧ n ≤ 2 * i ∧ u4 = .int .i64 (i : Int) ∧ u3 = .slice A n c ∧ Hid (Below w.heap.size w wx) ∧ Hid (To w.heap.size wx A n c (quoteP (s.take i)))) (fun _ u4 _ => s.length - (intOf u4).toNat)
  case atStart => exact ⟨0, 0, none, 0, Nat.zero_le _, Nat.zero_le _, rfl, rfl, hide (Below.refl _ _), hide (World.ownsRow_nil _ _ _ _)⟩
  case round =>
    obtain ⟨i, n, A, c, hi', hn, rfl, rfl, HB, HO⟩ := hrel
    by_cases hlt : i < s.length
    · obtain ⟨y, hy⟩ : ∃ y, s[i]? = some y := ⟨_, List.getElem?_eq_getElem hlt⟩
      have hix := ix_l s i y hy
      have hlt' : (i : Int) < (s.length : Int) := by omega
      have HQ : Hid (quoteP (s.take (i + 1)) = quoteP (s.take i) ++ quoteC y) := hide (by rw [take_snoc' hy]; simp [quoteP])
      obtain ⟨Q, hQ⟩ : ∃ Q, quoteP (s.take i) = Q := ⟨_, rfl⟩
      rw [hQ] at HQ HO
      have t42 := u8_beq y 42
      have t63 := u8_beq y 63
      have t91 := u8_beq y 91
      have t92 := u8_beq y 92
      change ((y.toNat : Int) == 42) = _ at t42
      change ((y.toNat : Int) == 63) = _ at t63
      change ((y.toNat : Int) == 91) = _ at t91
      change ((y.toNat : Int) == 92) = _ at t92
      clear hy hQ
      have HO2 := hide (HO.out.alloc (.cells #[.int .u8 (y.toNat : Int)] 5))
      have HR := hide (one_u8 wr y)
      have hbw : w.heap.size ≤ wr.heap.size := HB.out.size
      by_cases hsp : y = 42 ∨ y = 63 ∨ y = 91 ∨ y = 92
      · have HQ2 : Hid (quoteP (s.take (i + 1)) = Q ++ [92] ++ [y]) := hide (by rw [HQ.out]; unfold quoteC; rw [if_pos (by rcases hsp with h | h | h | h <;> simp [h])]; simp)
        clear HQ HO2 HR
        have HO2 := hide (HO.out.alloc (.cells #[.int .u8 (((92 : UInt8).toNat : Nat) : Int)] 5))
        have HR := hide (one_u8 wr 92)
        have hway : ((y == 42) = true) ∨ ((y == 42) = false ∧ (y == 63) = true) ∨ ((y == 42) = false ∧ (y == 63) = false ∧ (y == 91) = true) ∨ ((y == 42) = false ∧ (y == 63) = false ∧ (y == 91) = false ∧ (y == 92) = true) := by
          rcases hsp with rfl | rfl | rfl | rfl <;> simp
        clear hsp
        have fin : ∀ (W1 : World) (A1 : Option Addr) (c1 : Nat), To w.heap.size W1 A1 (n + 1) c1 (Q ++ [92]) → True := fun _ _ _ _ => trivial
        clear fin
        rcases hway with e1 | ⟨e1, e2⟩ | ⟨e1, e2, e3⟩ | ⟨e1, e2, e3, e4⟩
        · rw [e1] at t42
          clear e1 t63 t91 t92
          go_wp2_with (at_builtin; (refine wpList_append_any _ rfl (.tmp 29) (.tmp 30) 41 rfl w.heap.size 5 i0 _ 1 1 Try.underlying41 hi hz0 hz1 hz2 rfl (by omega) (.slice A n c) n (bv Q) rfl (by exact HO2.out) (wr.heap.size + 1) (some ⟨wr.heap.size, 0, none⟩) 1 1 (bv [92]) rfl (by exact HR.out) (bv_one _) ?c1a1 ?c2a1 ?c3a1 ?_))
          case c1a1 => unfold maxLen; omega
          case c2a1 => omega
          case c3a1 => first | omega | (simp; omega)
          intro v1 W4 hown2 hg2 hat2
          obtain ⟨A4, c4, rfl, hO4, hB4⟩ := to_next (x := 92) HO.out hown2 hg2 HB.out (Nat.le_refl _)
          have HO4 := hide hO4
          have HB4 := hide hB4
          clear hown2 hg2 hat2 hO4 hB4 HO2 HR HO HB hbw
          have HO2 := hide (HO4.out.alloc (.cells #[.int .u8 (y.toNat : Int)] 5))
          have HR := hide (one_u8 W4 y)
          have hbw : w.heap.size ≤ W4.heap.size := HB4.out.size
          go_wp2_with (at_builtin; (refine wpList_append_any _ rfl (.tmp 32) (.tmp 34) 41 rfl w.heap.size 5 i0 _ 1 1 Try.underlying41 hi hz0 hz1 hz2 rfl (by omega) (.slice A4 (n + 1) c4) (n + 1) (bv (Q ++ [92])) rfl (by exact HO2.out) (W4.heap.size + 1) (some ⟨W4.heap.size, 0, none⟩) 1 1 (bv [y]) rfl (by exact HR.out) (bv_one _) ?c1b1 ?c2b1 ?c3b1 ?_))
          case c1b1 => unfold maxLen; omega
          case c2b1 => omega
          case c3b1 => first | omega | (simp; omega)
          intro v1 W5 hown2 hg2 hat2
          obtain ⟨A5, c5, rfl, hO5, hB5⟩ := to_next (x := y) HO4.out (by exact hown2) hg2 HB4.out (Nat.le_refl _)
          have HO5 : Hid (To w.heap.size W5 A5 (n + 1 + 1) c5 (quoteP (s.take (i + 1)))) := hide (by rw [HQ2.out]; exact hO5)
          have HB5 := hide hB5
          clear hown2 hg2 hat2 hO5 hB5 HO2 HR HO4 HB4
          go_wp2_with fail
          go_roundw
          case rel => exact ⟨i + 1, n + 1 + 1, A5, c5, by omega, by omega, by go_num, rfl, HB5, HO5⟩
          case measure => simp [intOf]; omega
        · rw [e1] at t42
          rw [e2] at t63
          clear e1 e2 t91 t92
          go_wp2_with (at_builtin; (refine wpList_append_any _ rfl (.tmp 29) (.tmp 30) 41 rfl w.heap.size 5 i0 _ 1 1 Try.underlying41 hi hz0 hz1 hz2 rfl (by omega) (.slice A n c) n (bv Q) rfl (by exact HO2.out) (wr.heap.size + 1) (some ⟨wr.heap.size, 0, none⟩) 1 1 (bv [92]) rfl (by exact HR.out) (bv_one _) ?c1a2 ?c2a2 ?c3a2 ?_))
          case c1a2 => unfold maxLen; omega
          case c2a2 => omega
          case c3a2 => first | omega | (simp; omega)
          intro v1 W4 hown2 hg2 hat2
          obtain ⟨A4, c4, rfl, hO4, hB4⟩ := to_next (x := 92) HO.out hown2 hg2 HB.out (Nat.le_refl _)
          have HO4 := hide hO4
          have HB4 := hide hB4
          clear hown2 hg2 hat2 hO4 hB4 HO2 HR HO HB hbw
          have HO2 := hide (HO4.out.alloc (.cells #[.int .u8 (y.toNat : Int)] 5))
          have HR := hide (one_u8 W4 y)
          have hbw : w.heap.size ≤ W4.heap.size := HB4.out.size
          go_wp2_with (at_builtin; (refine wpList_append_any _ rfl (.tmp 32) (.tmp 34) 41 rfl w.heap.size 5 i0 _ 1 1 Try.underlying41 hi hz0 hz1 hz2 rfl (by omega) (.slice A4 (n + 1) c4) (n + 1) (bv (Q ++ [92])) rfl (by exact HO2.out) (W4.heap.size + 1) (some ⟨W4.heap.size, 0, none⟩) 1 1 (bv [y]) rfl (by exact HR.out) (bv_one _) ?c1b2 ?c2b2 ?c3b2 ?_))
          case c1b2 => unfold maxLen; omega
          case c2b2 => omega
          case c3b2 => first | omega | (simp; omega)
          intro v1 W5 hown2 hg2 hat2
          obtain ⟨A5, c5, rfl, hO5, hB5⟩ := to_next (x := y) HO4.out (by exact hown2) hg2 HB4.out (Nat.le_refl _)
          have HO5 : Hid (To w.heap.size W5 A5 (n + 1 + 1) c5 (quoteP (s.take (i + 1)))) := hide (by rw [HQ2.out]; exact hO5)
          have HB5 := hide hB5
          clear hown2 hg2 hat2 hO5 hB5 HO2 HR HO4 HB4
          go_wp2_with fail
          go_roundw
          case rel => exact ⟨i + 1, n + 1 + 1, A5, c5, by omega, by omega, by go_num, rfl, HB5, HO5⟩
          case measure => simp [intOf]; omega
        · rw [e1] at t42
          rw [e2] at t63
          rw [e3] at t91
          clear e1 e2 e3 t92
          go_wp2_with (at_builtin; (refine wpList_append_any _ rfl (.tmp 29) (.tmp 30) 41 rfl w.heap.size 5 i0 _ 1 1 Try.underlying41 hi hz0 hz1 hz2 rfl (by omega) (.slice A n c) n (bv Q) rfl (by exact HO2.out) (wr.heap.size + 1) (some ⟨wr.heap.size, 0, none⟩) 1 1 (bv [92]) rfl (by exact HR.out) (bv_one _) ?c1a3 ?c2a3 ?c3a3 ?_))
          case c1a3 => unfold maxLen; omega
          case c2a3 => omega
          case c3a3 => first | omega | (simp; omega)
          intro v1 W4 hown2 hg2 hat2
          obtain ⟨A4, c4, rfl, hO4, hB4⟩ := to_next (x := 92) HO.out hown2 hg2 HB.out (Nat.le_refl _)
          have HO4 := hide hO4
          have HB4 := hide hB4
          clear hown2 hg2 hat2 hO4 hB4 HO2 HR HO HB hbw
          have HO2 := hide (HO4.out.alloc (.cells #[.int .u8 (y.toNat : Int)] 5))
          have HR := hide (one_u8 W4 y)
          have hbw : w.heap.size ≤ W4.heap.size := HB4.out.size
          go_wp2_with (at_builtin; (refine wpList_append_any _ rfl (.tmp 32) (.tmp 34) 41 rfl w.heap.size 5 i0 _ 1 1 Try.underlying41 hi hz0 hz1 hz2 rfl (by omega) (.slice A4 (n + 1) c4) (n + 1) (bv (Q ++ [92])) rfl (by exact HO2.out) (W4.heap.size + 1) (some ⟨W4.heap.size, 0, none⟩) 1 1 (bv [y]) rfl (by exact HR.out) (bv_one _) ?c1b3 ?c2b3 ?c3b3 ?_))
          case c1b3 => unfold maxLen; omega
          case c2b3 => omega
          case c3b3 => first | omega | (simp; omega)
          intro v1 W5 hown2 hg2 hat2
          obtain ⟨A5, c5, rfl, hO5, hB5⟩ := to_next (x := y) HO4.out (by exact hown2) hg2 HB4.out (Nat.le_refl _)
          have HO5 : Hid (To w.heap.size W5 A5 (n + 1 + 1) c5 (quoteP (s.take (i + 1)))) := hide (by rw [HQ2.out]; exact hO5)
          have HB5 := hide hB5
          clear hown2 hg2 hat2 hO5 hB5 HO2 HR HO4 HB4
          go_wp2_with fail
          go_roundw
          case rel => exact ⟨i + 1, n + 1 + 1, A5, c5, by omega, by omega, by go_num, rfl, HB5, HO5⟩
          case measure => simp [intOf]; omega
        · rw [e1] at t42
          rw [e2] at t63
          rw [e3] at t91
          rw [e4] at t92
          clear e1 e2 e3 e4
          go_wp2_with (at_builtin; (refine wpList_append_any _ rfl (.tmp 29) (.tmp 30) 41 rfl w.heap.size 5 i0 _ 1 1 Try.underlying41 hi hz0 hz1 hz2 rfl (by omega) (.slice A n c) n (bv Q) rfl (by exact HO2.out) (wr.heap.size + 1) (some ⟨wr.heap.size, 0, none⟩) 1 1 (bv [92]) rfl (by exact HR.out) (bv_one _) ?c1a4 ?c2a4 ?c3a4 ?_))
          case c1a4 => unfold maxLen; omega
          case c2a4 => omega
          case c3a4 => first | omega | (simp; omega)
          intro v1 W4 hown2 hg2 hat2
          obtain ⟨A4, c4, rfl, hO4, hB4⟩ := to_next (x := 92) HO.out hown2 hg2 HB.out (Nat.le_refl _)
          have HO4 := hide hO4
          have HB4 := hide hB4
          clear hown2 hg2 hat2 hO4 hB4 HO2 HR HO HB hbw
          have HO2 := hide (HO4.out.alloc (.cells #[.int .u8 (y.toNat : Int)] 5))
          have HR := hide (one_u8 W4 y)
          have hbw : w.heap.size ≤ W4.heap.size := HB4.out.size
          go_wp2_with (at_builtin; (refine wpList_append_any _ rfl (.tmp 32) (.tmp 34) 41 rfl w.heap.size 5 i0 _ 1 1 Try.underlying41 hi hz0 hz1 hz2 rfl (by omega) (.slice A4 (n + 1) c4) (n + 1) (bv (Q ++ [92])) rfl (by exact HO2.out) (W4.heap.size + 1) (some ⟨W4.heap.size, 0, none⟩) 1 1 (bv [y]) rfl (by exact HR.out) (bv_one _) ?c1b4 ?c2b4 ?c3b4 ?_))
          case c1b4 => unfold maxLen; omega
          case c2b4 => omega
          case c3b4 => first | omega | (simp; omega)
          intro v1 W5 hown2 hg2 hat2
          obtain ⟨A5, c5, rfl, hO5, hB5⟩ := to_next (x := y) HO4.out (by exact hown2) hg2 HB4.out (Nat.le_refl _)
          have HO5 : Hid (To w.heap.size W5 A5 (n + 1 + 1) c5 (quoteP (s.take (i + 1)))) := hide (by rw [HQ2.out]; exact hO5)
          have HB5 := hide hB5
          clear hown2 hg2 hat2 hO5 hB5 HO2 HR HO4 HB4
          go_wp2_with fail
          go_roundw
          case rel => exact ⟨i + 1, n + 1 + 1, A5, c5, by omega, by omega, by go_num, rfl, HB5, HO5⟩
          case measure => simp [intOf]; omega
      · have HQ2 : Hid (quoteP (s.take (i + 1)) = Q ++ [y]) := hide (by rw [HQ.out]; unfold quoteC; rw [if_neg (fun h => hsp (by rcases h with h | h | h | h <;> simp [h]))])
        rw [beq_eq_false_iff_ne.2 (fun h => hsp (.inl h))] at t42
        rw [beq_eq_false_iff_ne.2 (fun h => hsp (.inr (.inl h)))] at t63
        rw [beq_eq_false_iff_ne.2 (fun h => hsp (.inr (.inr (.inl h))))] at t91
        rw [beq_eq_false_iff_ne.2 (fun h => hsp (.inr (.inr (.inr h))))] at t92
        clear hsp HQ
        go_wp2_with (at_builtin; (refine wpList_append_any _ rfl (.tmp 32) (.tmp 34) 41 rfl w.heap.size 5 i0 _ 1 1 Try.underlying41 hi hz0 hz1 hz2 rfl (by omega) (.slice A n c) n (bv Q) rfl (by exact HO2.out) (wr.heap.size + 1) (some ⟨wr.heap.size, 0, none⟩) 1 1 (bv [y]) rfl (by exact HR.out) (bv_one _) ?c1 ?c2 ?c3 ?_))
        case c1 => unfold maxLen; omega
        case c2 => omega
        case c3 => first | omega | (simp; omega)
        intro v1 W5 hown2 hg2 hat2
        obtain ⟨A5, c5, rfl, hO5, hB5⟩ := to_next (x := y) HO.out hown2 hg2 HB.out (Nat.le_refl _)
        have HO5 : Hid (To w.heap.size W5 A5 (n + 1) c5 (quoteP (s.take (i + 1)))) := hide (by rw [HQ2.out]; exact hO5)
        have HB5 := hide hB5
        clear hown2 hg2 hat2 hO5 hB5 HO2 HR HO HB
        go_wp2_with fail
        go_roundw
        case rel => exact ⟨i + 1, n + 1, A5, c5, by omega, by omega, by go_num, rfl, HB5, HO5⟩
        case measure => simp [intOf]; omega
    · have hlt' : ¬ (i : Int) < (s.length : Int) := by omega
      have HE : Hid (quoteP (s.take i) = quoteP s) := hide (by rw [List.take_of_length_le (by omega)])
      rw [HE.out] at HO
      have hcv := run_string_of (P := Try.prog) wr wr.heap.size 41 9 5 A n c (quoteP s) Try.underlying41 Try.underlying5 Try.underlying9 (Reads.of_own HO.out)
      go_wp2_with fail
      go_ret
      exact ⟨rfl, HB.out⟩
end Go.Proofs.Ytnongbbhpkmdjaa
