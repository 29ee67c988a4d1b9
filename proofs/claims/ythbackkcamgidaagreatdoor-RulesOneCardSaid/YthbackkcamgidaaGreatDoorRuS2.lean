/- strings.SplitSeq at one byte. -/
import Derived.Test.YthbackkcamgidaaGreatDoorRuI
import Derived.Test.YthbackkcamgidaaGreatDoorRuR
import Derived.WalkKit
import Derived.OwnWalkIn
import Derived.TacticsInMore
import Derived.LoopNIn
import Derived.LoopIn
import Derived.Sort.QuietIn
namespace Go.Proofs.YthbackkcamgidaaGreatDoor
open Go Go.RowKit
set_option linter.unusedVariables false
theorem split_at {c : UInt8} : ∀ {t : LB} {k : Nat}, Lib.indexByte t c = (k : Int) → k < t.length ∧ splitC c t = t.take k :: splitC c (t.drop (k + 1))
  | [], k, h => by
    have : (-1 : Int) = (k : Int) := h
    omega
  | x :: r, k, h => by
    by_cases hx : x = c
    · have h0 : Lib.indexByte (x :: r) c = 0 := by simp [Lib.indexByte, hx]
      rw [h0] at h
      obtain rfl : k = 0 := by omega
      refine ⟨by simp, ?_⟩
      rw [splitC, if_pos hx]; rfl
    · have hb : (x == c) = false := beq_eq_false_iff_ne.2 hx
      rcases Decidable.em (Lib.indexByte r c = -1) with h2 | h2
      · have h0 : Lib.indexByte (x :: r) c = -1 := by simp [Lib.indexByte, hb, h2]
        rw [h0] at h; omega
      · have h3 := Lib.indexByte_ge r c
        have h2' : (Lib.indexByte r c == -1) = false := beq_eq_false_iff_ne.2 h2
        have h0 : Lib.indexByte (x :: r) c = Lib.indexByte r c + 1 := by simp [Lib.indexByte, hb, h2']
        rw [h0] at h
        obtain ⟨j, rfl⟩ : ∃ j, k = j + 1 := ⟨k - 1, by omega⟩
        have h6 : Lib.indexByte r c = (j : Int) := by
          have e : ((j + 1 : Nat) : Int) = (j : Int) + 1 := by simp
          rw [e] at h
          omega
        obtain ⟨h4, h5⟩ := split_at h6
        refine ⟨by simp; omega, ?_⟩
        rw [splitC, if_neg hx, h5]; rfl
theorem split_none {c : UInt8} {t : LB} (h : Lib.indexByte t c < 0) : splitC c t = [t] := by
  refine splitC_no c t fun hc => ?_
  have h1 := Lib.indexByte_ge t c
  have h2 : Lib.indexByte t c = -1 := by omega
  obtain ⟨k, hk, e⟩ := List.getElem_of_mem hc
  exact Lib.indexByte_none h2 k (by rw [List.getElem?_eq_getElem hk, e])
theorem sindex_any (l : LB) (c : UInt8) (w : World) : Calls Tryz.prog 79 #[.string ⟨l.toArray⟩, .string ⟨#[c]⟩] w fun e w' => e = .returned (.int .i64 (Lib.indexByte l c)) ∧ w = w' :=
  (Any.strings_Index_one Tryz.lays143 ⟨l.toArray⟩ c w).mono fun e w' h => ⟨h.1, h.2.symm⟩
theorem box_other {W : World} {B b : Nat} {t : TypeId} {v u : Value} (h : Boxed W B t v) (hne : B ≠ b) : Boxed (W.setCell ⟨b, 0, none⟩ u) B t v := (Below.heap_setCell W ⟨b, 0, none⟩ u B hne).trans h
def boxLen (w : World) (b : Nat) : Nat := match w.cell? ⟨b, 0, none⟩ with
  | some (.string s) => s.size
  | _ => 0
theorem boxLen_eq {w : World} {b : Nat} {t : TypeId} {s : LB} (h : Boxed w b t (.string ⟨s.toArray⟩)) : boxLen w b = s.length := by
  unfold boxLen
  rw [h.cell]; rfl
/-- The three boxes of the iterator. -/
structure B3 (W : World) (b1 b2 b3 : Nat) (c : UInt8) (t : LB) : Prop where
  sep : Boxed W b1 9 (.string ⟨#[c]⟩)
  txt : Boxed W b2 9 (.string ⟨t.toArray⟩)
  num : Boxed W b3 3 (.int .i64 0)
set_option maxRecDepth 100000 in
set_option maxHeartbeats 8000000 in
theorem split_iter (c : UInt8) (s : LB) (hs : s.length ≤ 4294967295) (b1 b2 b3 d : Nat) (R D : Obj) (T : World → World → Prop) (I : List LB → World → Prop) (Z : World → Prop) (Zp : List PanicEntry → World → Prop) (W : World)
    (hne : b1 ≠ b2 ∧ b3 ≠ b2 ∧ b2 ≠ d ∧ b2 ≠ d + 1) (hb : B3 W b1 b2 b3 c s) (h0 : JL d R I [] W)
    (hI : ∀ p W v u, I p W → Boxed W b2 9 v → I p (W.setCell ⟨b2, 0, none⟩ u))
    (hT : ∀ W W' t, T W W' → B3 W b1 b2 b3 c t → B3 W' b1 b2 b3 c t)
    (hY : ∀ pre x W1, JL d R I pre W1 → (pre ++ [x]) <+: splitC c s → YieldAt Fence.wide 0 Tryz.prog (d + 1) #[.string ⟨x.toArray⟩] W1 (YiEnd d R D T I Z Zp (pre ++ [x]) W1)) :
    CallsIn Fence.wide 0 Tryz.prog 77 #[.func (.yield (d + 1)) #[] #[], .pointer (some ⟨b1, 0, none⟩), .pointer (some ⟨b2, 0, none⟩), .pointer (some ⟨b3, 0, none⟩)] W (ItEnd d R D I Z Zp (splitC c s)) := by
  have c1 := hb.sep.cell
  obtain ⟨n1, n2, n3, n4⟩ := hne
  have HY := hide hY
  have HI := hide hI
  have HT := hide hT
  have HXI : Hid (∀ t V, CallsIn Fence.wide 0 Tryz.prog 79 #[.string ⟨List.toArray t⟩, .string ⟨#[c]⟩] V fun e w' => e = .returned (.int .i64 (Lib.indexByte t c)) ∧ V = w') := hide fun t V => callsIn_wide.2 (sindex_any t c V)
  clear hY hI hT
  refine callsIn_of_wp Tryz.func77 rfl trivial ?_ rfl
  simp only [Tryz.ntmps77, List.size_toArray, List.length_cons, List.length_nil, Nat.reduceAdd, Nat.reduceSub, Array.replicate_succ, Array.replicate_zero, List.push_toArray, List.append_toArray, List.nil_append, List.cons_append]
  gi_wp2
  clear c1
  gi_loopw [7] (fun _ wr => ∃ (pre : List LB) (t : LB), Hid (pre ++ splitC c t = splitC c s) ∧ t.length ≤ s.length ∧ Hid (B3 wr b1 b2 b3 c t) ∧ Hid (JL d R I pre wr)) (fun _ wr => boxLen wr b2)
  case atStart => exact ⟨[], s, hide rfl, Nat.le_refl _, hide hb, hide h0⟩
  case round =>
    clear hb h0
    obtain ⟨pre, t, HX, htl, HB, HJ⟩ := hrel
    have c1 := HB.out.sep.cell
    have c2 := HB.out.txt.cell
    have c3 := HB.out.num.cell
    have XI := HXI.out t
    rcases Int.lt_or_le (Lib.indexByte t c) 0 with hneg | hpos
    · have HS := hide (split_none hneg)
      have HY2 := hide (HY.out pre t wr HJ.out (by rw [← HX.out, HS.out]; exact List.prefix_refl _))
      generalize Lib.indexByte t c = z at *
      obtain ⟨fn, tmps, assign, body, hy, hR⟩ := HY2.out
      gi_wp2
      refine ⟨trivial, rfl, (XI _).mono ?_⟩
      rintro e w1 ⟨rfl, rfl⟩
      gi_wp2
      refine ⟨rfl, hR.mono ?_⟩
      rintro e W3 ⟨_, hc⟩
      rcases hc with ⟨rfl, hJ⟩ | ⟨rfl, hJ⟩ | ⟨ch, rfl, hJ⟩
      · gi_wp2
        go_end0
        refine .inl ⟨_, rfl, .inl ?_⟩
        rw [← HX.out, HS.out]; exact hJ
      · gi_wp2
        go_end0
        exact .inl ⟨_, rfl, .inr hJ⟩
      · exact ⟨rfl, .inr ⟨ch, rfl, hJ⟩⟩
    · obtain ⟨k, hk⟩ : ∃ k : Nat, Lib.indexByte t c = (k : Int) := ⟨(Lib.indexByte t c).toNat, by omega⟩
      obtain ⟨hkl, hsp⟩ := split_at hk
      have HS := hide hsp
      rw [hk] at XI
      have hs1 : ∀ V, (Instr.slice 9 (.string ⟨t.toArray⟩) none (some (.int .i64 (k : Int))) none).run Tryz.prog V = .ok (.string ⟨(t.take k).toArray⟩) V := fun V => sl_to t k _ rfl (by omega) V
      have hs2 : ∀ V, (Instr.slice 9 (.string ⟨t.toArray⟩) (some (.int .i64 ((k : Int) + 1))) none none).run Tryz.prog V = .ok (.string ⟨(t.drop (k + 1)).toArray⟩) V := fun V => by
        have := sl_from t (k + 1) (by omega) V
        rwa [show ((k + 1 : Nat) : Int) = (k : Int) + 1 by omega] at this
      have kw : IntKind.i64.wrap ((k : Int) + 1) = (k : Int) + 1 := by simp [IntKind.wrap, IntKind.bits, IntKind.signed]; omega
      have kw0 : IntKind.i64.wrap (k : Int) = (k : Int) := by simp [IntKind.wrap, IntKind.bits, IntKind.signed]; omega
      have k0 : ¬ (k : Int) < 0 := by omega
      have HY2 := hide (HY.out pre (t.take k) wr HJ.out (by rw [← HX.out, HS.out]; exact ⟨_, by rw [List.append_assoc]; rfl⟩))
      have hdl : (t.drop (k + 1)).length < t.length := by rw [List.length_drop]; omega
      have HM := hide (boxLen_eq HB.out.txt)
      clear hk hpos hsp
      obtain ⟨fn, tmps, assign, body, hy, hR⟩ := HY2.out
      generalize t.take k = x at *
      generalize t.drop (k + 1) = t2 at *
      gi_wp2
      refine ⟨trivial, rfl, (XI _).mono ?_⟩
      rintro e w1 ⟨rfl, rfl⟩
      gi_wp2
      refine ⟨rfl, hR.mono ?_⟩
      rintro e W3 ⟨hTT, hc⟩
      have HB3 := hide (HT.out _ _ t hTT HB.out)
      rcases hc with ⟨rfl, hJ⟩ | ⟨rfl, hJ⟩ | ⟨ch, rfl, hJ⟩
      · have HJ3 := hide hJ
        have e1 := HB3.out.sep.cell
        have e2 := HB3.out.txt.cell
        have ef := HB3.out.txt.frozen
        have hJ4 : JL d R I (pre ++ [x]) (W3.setCell ⟨b2, 0, none⟩ (.string ⟨t2.toArray⟩)) := by
          obtain ⟨q1, q2, q3⟩ := HJ3.out
          exact ⟨HI.out _ _ _ _ q1 HB3.out.txt, (Below.heap_setCell W3 ⟨b2, 0, none⟩ _ (d + 1) (by show d + 1 ≠ b2; omega)).trans q2, (Below.heap_setCell W3 ⟨b2, 0, none⟩ _ d (by show d ≠ b2; omega)).trans q3⟩
        have HJ4 := hide hJ4
        clear hJ hJ4
        gi_wp2
        go_roundw
        case rel => exact ⟨pre ++ [x], t2, hide (by rw [← HX.out, HS.out]; simp), by omega, hide ⟨box_other HB3.out.sep (by omega), HB3.out.txt.set _, box_other HB3.out.num (by omega)⟩, HJ4⟩
        case measure => rw [boxLen_eq (s := t2) (HB3.out.txt.set _), HM.out]; exact hdl
      · gi_wp2
        go_end0
        exact .inl ⟨_, rfl, .inr hJ⟩
      · exact ⟨rfl, .inr ⟨ch, rfl, hJ⟩⟩
end Go.Proofs.YthbackkcamgidaaGreatDoor
