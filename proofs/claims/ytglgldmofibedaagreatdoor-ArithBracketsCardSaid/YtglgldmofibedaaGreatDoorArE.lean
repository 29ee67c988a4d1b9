/- The contract of arith.Tokens. -/
import Derived.Test.YtglgldmofibedaaGreatDoorArD
import Derived.Test.YtglgldmofibedaaGreatDoorPgS
import Derived.ScopeJumps
namespace Go.Proofs.YtglgldmofibedaaGreatDoor
open Go.RowKit
set_option linter.unusedVariables false
theorem gen_frame {P : Program} {c : Code} {Q : Exit → Act → World → Prop} {J : Act → World → Prop} {a : Act} {w : World} (h : J a w) (hh : ∀ a' w', J a' w' → c.wp P Q a' w') : c.wp P Q a w := hh a w h
theorem wp_scope_twice {P : Program} {a : Act} {w : World} {Q : Exit → Act → World → Prop} {c X : Code} (l : Nat) (J : Act → World → Prop) (μ : Act → World → Nat) (hf : findLabel c l = some (Code.seq Code.skip X))
    (first : (∀ a w, J a w → X.wp P (Exit.jump l J Q) a w) → c.wp P (Exit.jump l J Q) a w)
    (pass : ∀ a w, J a w → X.wp P (Exit.jump l (fun a' w' => J a' w' ∧ μ a' w' < μ a w) Q) a w) : (Code.scope c).wp P Q a w :=
  wp_scope_jumps l J μ hf (first fun a w h => Code.wp_mono (fun e a' w' hq => by
    cases e <;> first | exact hq | exact ⟨hq.1, hq.2.1⟩) (pass a w h)) (fun a w h => wp_seq (wp_skip (pass a w h)))
def strL (v : Value) : Nat := match v with | .string s => s.size | _ => 0
/-- What holds where Tokens goes on. -/
def TJ (B : Nat) (s : Tok) (w : World) : Act → World → Prop := fun a' w' => s.length ≤ 1000 ∧ ∃ (t : Tok) (A : Option Addr) (n c : Nat) (ts : List Tok) (u1 u5 u6 u7 u8 u9 u10 u11 u12 u13 u14 u15 u16 u17 u18 u19 u20 u21 u22 u23 u24 u25 u26 : Value), a' = { tmps := #[.string ⟨t.toArray⟩, u1, .slice none 0 0, .bool false, .slice A n c, u5, u6, u7, u8, u9, u10, u11, u12, u13, u14, u15, u16, u17, u18, u19, u20, u21, u22, u23, u24, u25, u26], defers := [] } ∧ t.length + n ≤ 1000 ∧ Hid (Ow B w' A n c ts) ∧ Hid (Below B w w') ∧ Hid (tk s = (tk t).map (ts ++ ·))
/-- What Tokens gives. -/
def TokEnd (B : Nat) (s : Tok) (e : Ending) (w' : World) : Prop :=
  match toksP s with
  | none => e = .returned (.tuple #[.slice none 0 0, .bool false])
  | some ts => ∃ A n c, e = .returned (.tuple #[.slice A n c, .bool true]) ∧ Ow B w' A n c ts
set_option maxRecDepth 100000 in
set_option maxHeartbeats 8000000 in
theorem tokens_any (s : Tok) (w : World) (hs : s.length ≤ 1000000) (hS : StdO w) :
    Calls Tryz.prog 14 #[.string ⟨s.toArray⟩] w fun e w' => TokEnd w.heap.size s e w' ∧ Below w.heap.size w w' := by
  have HS := hide hS
  clear hS
  obtain ⟨i0, hi, hz0, hz1, hz2⟩ := info_parts infoStr
  go_enter Tryz.func14, Tryz.ntmps14
  go_wp2_with fail
  have HT : s.length ≤ 1000 → Hid (toksP s = tk s) := fun h => hide (toksP_eq h)
  refine wp_scope_twice 0 (TJ w.heap.size s w) (fun a _ => strL (a.tmps.getD 0 undef)) rfl ?_ ?_
  · intro hrest
    by_cases h0 : 1000 < s.length
    · have HE : Hid (toksP s = none) := hide (by unfold toksP; rw [if_pos h0])
      have hl : (1000 : Int) < (s.length : Int) := by omega
      go_wp2_with fail
      simp only [Exit.jump]
      go_ret2
      exact ⟨by unfold TokEnd; rw [HE.out]; rfl, Below.refl _ _⟩
    have hl : ¬ (1000 : Int) < (s.length : Int) := by omega
    go_wp2_with fail
    go_step3
    refine ‹∀ (a : Act) (w : World), Code.wp Tryz.prog _ _ a w → _› _ _ (hrest _ _ ⟨by omega, s, none, 0, 0, [], _, _, _, _, _, _, _, _, _, _, _, _, _, _, _, _, _, _, _, _, _, _, _, rfl, by omega, hide (Ow.none_ _ _), hide (Below.refl _ _), hide (by cases tk s <;> rfl)⟩)
  · rintro a w' ⟨hs0, t, A, n, c, ts, u1, u5, u6, u7, u8, u9, u10, u11, u12, u13, u14, u15, u16, u17, u18, u19, u20, u21, u22, u23, u24, u25, u26, rfl, hn, HO, HB, HK⟩
    have HT := HT hs0
    go_wp2_with fail
    refine (trimL_any t _).mono ?_
    rintro e w1 ⟨rfl, hb1⟩
    have HB1 : Hid (Below w.heap.size w w1) := hide (below_more HB.out (Nat.le_refl _) hb1)
    have HO1 := hide (HO.out.below hb1)
    have HS1 := hide (HS.out.below HB1.out)
    have htl := trimP_le t
    have HK1 : Hid (tk s = (if trimP t = [] then some [] else if tokP (trimP t) = 0 then none
      else (tk ((trimP t).drop (tokP (trimP t)))).map ((trimP t).take (tokP (trimP t)) :: ·)).map (ts ++ ·)) := hide (by rw [HK.out, ← tk_eq])
    clear hb1 HB HO HK
    generalize trimP t = x at *
    by_cases h0 : x = []
    · subst h0
      have HE : Hid (toksP s = some ts) := hide (by rw [HT.out, HK1.out, if_pos rfl]; simp)
      clear HK1
      go_wp2_with fail
      simp only [Exit.jump]
      go_ret2
      exact ⟨by unfold TokEnd; rw [HE.out]; exact ⟨A, n, c, rfl, HO1.out⟩, HB1.out⟩
    have hx0 : (x == []) = false := beq_eq_false_iff_ne.2 h0
    have hkl := tokP_le x
    have XT := hide (tok_any x w1 h0 (by omega) HS1.out)
    by_cases hk : tokP x = 0
    · have HE : Hid (toksP s = none) := hide (by rw [HT.out, HK1.out, if_neg h0, if_pos hk]; rfl)
      rw [hk] at XT
      clear HK1 hk h0
      go_wp2_with fail
      refine XT.out.mono ?_
      rintro e w2 ⟨rfl, rfl⟩
      go_wp2_with fail
      simp only [Exit.jump]
      go_ret2
      exact ⟨by unfold TokEnd; rw [HE.out]; rfl, HB1.out⟩
    have HK2 : Hid (tk s = (tk (x.drop (tokP x))).map ((ts ++ [x.take (tokP x)]) ++ ·)) := hide (by
      rw [HK1.out, if_neg h0, if_neg hk]
      cases tk (x.drop (tokP x)) <;> simp)
    clear HK1 h0
    generalize tokP x = k at *
    have hk0 : ((k : Int) == 0) = false := beq_eq_false_iff_ne.2 (by omega)
    have hs1 := sl_to x k hkl
    have hs2 := sl_from x k k rfl hkl
    have HOA := hide (HO1.out.alloc (.cells #[.string ⟨(x.take k).toArray⟩] 9))
    have HR := hide (one_str w1 (x.take k))
    have hbw1 : w.heap.size ≤ w1.heap.size := HB1.out.size
    go_wp2_with fail
    refine XT.out.mono ?_
    rintro e w2 ⟨rfl, rfl⟩
    clear XT
    go_wp2_with (at_builtin; (refine wpList_append_any _ rfl (.tmp 18) (.tmp 22) 31 rfl w.heap.size 9 i0 _ 1 16 Tryz.underlying31 hi hz0 hz1 hz2 rfl (by omega) (.slice A n c) n (svs ts) rfl (by exact HOA.out) (w1.heap.size + 1) (some ⟨w1.heap.size, 0, none⟩) 1 1 (svs [x.take k]) rfl (by exact HR.out) (svs_one _) ?c1 ?c2 ?c3 ?_))
    case c1 => unfold maxLen; omega
    case c2 => omega
    case c3 => simp; omega
    intro v1 W5 hown2 hg2 hat2
    obtain ⟨A5, c5, rfl, hO5, hB5⟩ := ow_next' HO1.out (x := x.take k) hown2 hg2 HB1.out (Nat.le_refl _)
    have HO5 := hide hO5
    have HB5 := hide hB5
    clear hown2 hg2 hat2 hO5 hB5 HO1 HOA HR HB1
    go_wp2_with fail
    go_step3
    refine ⟨rfl, ⟨hs0, x.drop k, A5, n + 1, c5, ts ++ [x.take k], _, _, _, _, _, _, _, _, _, _, _, _, _, _, _, _, _, _, _, _, _, _, _, rfl, by simp; omega, HO5, HB5, HK2⟩, ?_⟩
    show (x.drop k).length < t.length
    rw [List.length_drop]
    omega
end Go.Proofs.YtglgldmofibedaaGreatDoor
