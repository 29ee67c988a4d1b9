/- The contract of kinds: the map of the separating bytes. -/
import Derived.Test.YtnongbbhpkmdjaaFldH
namespace Go.Proofs.Ytnongbbhpkmdjaa
open Go.RowKit
open Go.Maps
set_option linter.unusedVariables false
theorem ix_l (l : Bs) (i : Nat) (c : UInt8) (h : l[i]? = some c) (W : World) : (Instr.index 9 (.string ⟨l.toArray⟩) (.int .i64 (i : Int))).run Try.prog W = .ok (.int .u8 (c.toNat : Int)) W := by
  obtain ⟨h1, h2⟩ := List.getElem?_eq_some_iff.1 h
  rw [run_index_string (P := Try.prog) W 9 _ .i64 (i : Int) Try.underlying9, dif_pos ⟨by omega, by show (i : Int) < ((l.length : Nat) : Int); omega⟩]
  simp only [Int.toNat_natCast]
  rw [← h2]
  rfl
theorem u8_beq (a b : UInt8) : ((a.toNat : Int) == (b.toNat : Int)) = (a == b) := by
  rw [Bool.eq_iff_iff, beq_iff_eq, beq_iff_eq]
  constructor
  · intro h; exact UInt8.toNat_inj.1 (by omega)
  · intro h; rw [h]
/-- A map under way: how it reads, and that it is one. -/
def KWay (w : World) (b n : Nat) (ifs : LB) (D : DataW Unit) : Prop := w.ownsMap Try.prog 5 (plainElem Try.prog 3) b n D ∧ ∀ c : UInt8, D.atKey (.int .u8 (c.toNat : Int)) (.lit (.int .i64 0)) = .lit (.int .i64 (kindP ifs c : Int))
theorem KWay.put {w w' : World} {b n : Nat} {ifs : LB} {D : DataW Unit} (h : KWay w b n ifs D) (c : UInt8) (v : Nat) (h' : w'.ownsMap Try.prog 5 (plainElem Try.prog 3) b (n + 1) (D.put (.int .u8 (c.toNat : Int)) (.lit (.int .i64 (v : Int))))) (hv : v = if c = 32 ∨ c = 9 ∨ c = 10 then 1 else 2) : KWay w' b (n + 1) (ifs ++ [c]) (D.put (.int .u8 (c.toNat : Int)) (.lit (.int .i64 (v : Int)))) := by
  refine ⟨h', fun x => ?_⟩
  rw [kind_snoc]
  by_cases hx : x = c
  · subst hx
    rw [if_pos rfl, ← hv]
    exact atKey_put_same h.1.isMap (by first | exact trivial | (simp [WideAt.IsKeyLit])) _ _
  · rw [if_neg hx, atKey_put_other (fun e => hx ?_)]
    · exact h.2 x
    · injection e with _ e
      exact UInt8.toNat_inj.1 (by omega)
theorem plainI (v : Nat) (hv : v ≤ 2) : plainElem (H := Unit) Try.prog 3 (.int .i64 (v : Int)) = some (.lit (.int .i64 (v : Int)), []) := plainElem_int Try.underlying3 (by
  simp [Lit.wf, IntKind.min, IntKind.max, IntKind.bits, IntKind.signed]
  try omega)
set_option maxRecDepth 100000 in
set_option maxHeartbeats 4000000 in
theorem kinds_any (ifs : LB) (hl : ifs.length ≤ 1000) (w : World) : Calls Try.prog 23 #[.string ⟨ifs.toArray⟩] w fun e w' => e = .returned (.map (some w.heap.size)) ∧ KMap w' w.heap.size ifs.length ifs ∧ Below w.heap.size w w' := by
  have hmm := @run_makeMap Try.prog
  go_enter Try.func23, Try.ntmps23
  go_wp2_with fail
  go_loopw [9] (fun u9 wx => ∃ k : Nat, k ≤ ifs.length ∧ u9 = .int .i64 (k : Int) ∧ Hid (∃ D, KWay wx w.heap.size k (ifs.take k) D) ∧ Hid (Below w.heap.size w wx)) (fun u9 _ => ifs.length - (intOf u9).toNat)
  case atStart => exact ⟨0, Nat.zero_le _, rfl, hide ⟨.map [], World.ownsMap_made _ _ _ _, fun c => by simp [kindP, DataW.atKey]⟩, hide ((Below.refl _ _).alloc (Nat.le_refl _) _)⟩
  case round =>
    obtain ⟨k, hk, rfl, HD, HB⟩ := hrel
    by_cases hlt : k < ifs.length
    · obtain ⟨D, hD⟩ := HD.out
      have HK := hide hD
      have hown := hD.1
      clear hD HD
      obtain ⟨c, hc⟩ : ∃ c, ifs[k]? = some c := ⟨_, List.getElem?_eq_getElem hlt⟩
      have hix := ix_l ifs k c hc
      have hts : ifs.take (k + 1) = ifs.take k ++ [c] := by
        obtain ⟨h1, h2⟩ := List.getElem?_eq_some_iff.1 hc
        rw [List.take_succ_eq_append_getElem h1, h2]
      have HTS := hide hts
      have hkey := key_u8 c
      have hp1 := plainI 1 (by omega)
      have hp2 := plainI 2 (by omega)
      have t32 := u8_beq c 32
      have t9 := u8_beq c 9
      have t10 := u8_beq c 10
      change ((c.toNat : Int) == 32) = _ at t32
      change ((c.toNat : Int) == 9) = _ at t9
      change ((c.toNat : Int) == 10) = _ at t10
      have hk1 : (k : Int) < (ifs.length : Int) := by omega
      clear hts hc
      have HKEY := hide hkey
      have HP1 := hide hp1
      have HP2 := hide hp2
      have HO := hide hown
      clear hkey hp1 hp2 hown
      have fin : ∀ (W : World) (v : Nat), v = (if c = 32 ∨ c = 9 ∨ c = 10 then 1 else 2) → W.ownsMap Try.prog 5 (plainElem Try.prog 3) w.heap.size (k + 1) (D.put (.int .u8 (c.toNat : Int)) (.lit (.int .i64 (v : Int)))) → Hid (∃ D, KWay W w.heap.size (k + 1) (ifs.take (k + 1)) D) := fun W v hv h => hide ⟨_, by rw [HTS.out]; exact HK.out.put c v h hv⟩
      have FIN := hide fin
      clear fin HTS HK
      have done : ∀ W, wr.grownBy W (some w.heap.size) → Hid (Below w.heap.size w W) := fun W hg => hide (HB.out.grown hg HB.out.size (fun j hj => by cases hj; exact Nat.le_refl _))
      have DONE := hide done
      clear done
      by_cases h1 : c = 32
      · have HV : Hid (1 = (if c = 32 ∨ c = 9 ∨ c = 10 then 1 else 2)) := hide (by rw [if_pos (.inl h1)])
        rw [beq_iff_eq.2 h1] at t32
        clear h1 t9 t10 HP2
        go_wp2_with (at_mapUpdate; refine wpList_mapUpdate_own _ rfl _ _ _ 38 rfl 5 3 keyU Try.underlying38 _ w.heap.size k _ rfl HO.out (by unfold maxLen; omega) _ _ _ rfl rfl HKEY.out _ [] HP1.out ?_; intro w1 hown1 hgrow1)
        have HX := FIN.out w1 1 HV.out hown1
        have HY := DONE.out w1 hgrow1
        clear hown1 hgrow1
        go_roundw
        case rel => exact ⟨k + 1, by omega, by go_num, HX, HY⟩
        case measure => simp [intOf]; omega
      rw [beq_eq_false_iff_ne.2 h1] at t32
      by_cases h2 : c = 9
      · have HV : Hid (1 = (if c = 32 ∨ c = 9 ∨ c = 10 then 1 else 2)) := hide (by rw [if_pos (.inr (.inl h2))])
        rw [beq_iff_eq.2 h2] at t9
        clear h1 h2 t10 HP2
        go_wp2_with (at_mapUpdate; refine wpList_mapUpdate_own _ rfl _ _ _ 38 rfl 5 3 keyU Try.underlying38 _ w.heap.size k _ rfl HO.out (by unfold maxLen; omega) _ _ _ rfl rfl HKEY.out _ [] HP1.out ?_; intro w1 hown1 hgrow1)
        have HX := FIN.out w1 1 HV.out hown1
        have HY := DONE.out w1 hgrow1
        clear hown1 hgrow1
        go_roundw
        case rel => exact ⟨k + 1, by omega, by go_num, HX, HY⟩
        case measure => simp [intOf]; omega
      rw [beq_eq_false_iff_ne.2 h2] at t9
      by_cases h3 : c = 10
      · have HV : Hid (1 = (if c = 32 ∨ c = 9 ∨ c = 10 then 1 else 2)) := hide (by rw [if_pos (.inr (.inr h3))])
        rw [beq_iff_eq.2 h3] at t10
        clear h1 h2 h3 HP2
        go_wp2_with (at_mapUpdate; refine wpList_mapUpdate_own _ rfl _ _ _ 38 rfl 5 3 keyU Try.underlying38 _ w.heap.size k _ rfl HO.out (by unfold maxLen; omega) _ _ _ rfl rfl HKEY.out _ [] HP1.out ?_; intro w1 hown1 hgrow1)
        have HX := FIN.out w1 1 HV.out hown1
        have HY := DONE.out w1 hgrow1
        clear hown1 hgrow1
        go_roundw
        case rel => exact ⟨k + 1, by omega, by go_num, HX, HY⟩
        case measure => simp [intOf]; omega
      rw [beq_eq_false_iff_ne.2 h3] at t10
      have HV : Hid (2 = (if c = 32 ∨ c = 9 ∨ c = 10 then 1 else 2)) := hide (by rw [if_neg (by simp [h1, h2, h3])])
      clear h1 h2 h3 HP1
      go_wp2_with (at_mapUpdate; refine wpList_mapUpdate_own _ rfl _ _ _ 38 rfl 5 3 keyU Try.underlying38 _ w.heap.size k _ rfl HO.out (by unfold maxLen; omega) _ _ _ rfl rfl HKEY.out _ [] HP2.out ?_; intro w1 hown1 hgrow1)
      have HX := FIN.out w1 2 HV.out hown1
      have HY := DONE.out w1 hgrow1
      clear hown1 hgrow1
      go_roundw
      case rel => exact ⟨k + 1, by omega, by go_num, HX, HY⟩
      case measure => simp [intOf]; omega
    · have hk1 : ¬ (k : Int) < (ifs.length : Int) := by omega
      have HM : Hid (KMap wr w.heap.size ifs.length ifs) := hide (by
        obtain ⟨D, h1, h2⟩ := HD.out
        rw [List.take_of_length_le (by omega)] at h2
        exact ⟨D, by rw [show ifs.length = k by omega]; exact h1, h2⟩)
      go_wp2_with fail
      go_ret
      exact ⟨rfl, HM.out, HB.out⟩
end Go.Proofs.Ytnongbbhpkmdjaa
