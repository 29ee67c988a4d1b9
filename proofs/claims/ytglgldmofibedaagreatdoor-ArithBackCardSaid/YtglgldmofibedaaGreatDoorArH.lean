/- Contracts of need, value. -/
import Derived.Test.YtglgldmofibedaaGreatDoorArG
namespace Go.Proofs.YtglgldmofibedaaGreatDoor
open Go.RowKit
set_option linter.unusedVariables false
theorem cat_b (a b : Tok) : (⟨a.toArray⟩ : ByteArray) ++ ⟨b.toArray⟩ = ⟨(a ++ b).toArray⟩ := by
  apply ByteArray.ext
  simp
theorem parse_v (s : Tok) (w : World) (hs : s.length ≤ 1000000) (h : Std w) :
    Calls Tryz.prog 65 #[.string ⟨s.toArray⟩] w fun e w' => (∃ b, e = .returned (.tuple #[.int .i64 (parseV s), .bool b])) ∧ Below w.heap.size w w' :=
  (parse_any ⟨s.toArray⟩ w (show s.length ≤ 1000000 from hs) h).mono fun e w' h => by
    obtain ⟨hb, ⟨v, hv, he, rfl⟩ | ⟨hno, rfl⟩⟩ := h
    · refine ⟨⟨true, ?_⟩, hb⟩
      have he' : Lib.itoa v = s := he
      have : parseV s = v := by
        unfold parseV
        rw [← he', atoi_itoa v hv]
        simp
      rw [this]
    · refine ⟨⟨false, ?_⟩, hb⟩
      have : parseV s = 0 := by
        unfold parseV
        split
        · rename_i v hv
          rw [if_neg]
          exact hno v (Lib.atoiAll_bounds hv)
        · rfl
      rw [this]
section
variable {W0 : World} {p : Nat} {A : Option Addr} {n c : Nat} {T : List Tok} {Va : Option Addr} {vn vc : Nat} {V : List Tok}
set_option maxRecDepth 100000 in
set_option maxHeartbeats 2000000 in
theorem need_ok (C : Cx W0 p A n c T Va vn vc V) (w : World) (a : Nat) (z : Bool) (o : Tok) (h : Pa W0 p A n c Va vn vc w a z) (ha : a < T.length) (ho : (hd (T.drop a) == o) = true) :
    Calls Tryz.prog 45 #[.pointer (some ⟨p, 0, none⟩), .string ⟨o.toArray⟩] w fun e w' => e = .returned (.tuple #[]) ∧ Kb p w w' ∧ Pa W0 p A n c Va vn vc w' (a + 1) z := by
  have tl := C.tl
  have X := hide (ptok_any C w a z h (by omega))
  have hw : IntKind.i64.wrap ((a : Int) + 1) = (a : Int) + 1 := by simp [IntKind.wrap, IntKind.bits, IntKind.signed]; omega
  have HW := hide hw
  clear hw
  have HP := hide h
  have hpl := h.blk.lt
  clear h C
  generalize hd (T.drop a) = y at *
  go_enter Tryz.func45, Tryz.ntmps45
  go_wp2_with fail
  refine X.out.mono ?_
  rintro e w1 ⟨rfl, m, rfl⟩
  have HP1 := hide (HP.out.drewN m)
  have HK := hide ((Kb.refl p w).drewN m)
  obtain ⟨⟨c0, c1, c2, c3⟩, f0, f1, f2, f3⟩ := HP1.out.blk.four_
  have hpl1 := HP1.out.blk.lt
  generalize w.drewN m = w1 at *
  clear HP X
  go_wp2_with fail
  go_end0
  refine ⟨rfl, HK.out.set hpl1 1 _, HP1.out.step (a + 1) ?_⟩
  omega
set_option maxRecDepth 100000 in
set_option maxHeartbeats 2000000 in
theorem need_bad (C : Cx W0 p A n c T Va vn vc V) (w : World) (a : Nat) (z : Bool) (o : Tok) (h : Pa W0 p A n c Va vn vc w a z) (ha : a ≤ T.length) (ho : (hd (T.drop a) == o) = false) :
    Calls Tryz.prog 45 #[.pointer (some ⟨p, 0, none⟩), .string ⟨o.toArray⟩] w fun e w' => e = badPanic 50 ∧ Kb p w w' := by
  have X := hide (ptok_any C w a z h ha)
  clear h C
  generalize hd (T.drop a) = y at *
  go_enter Tryz.func45, Tryz.ntmps45
  go_wp2_with fail
  refine X.out.mono ?_
  rintro e w1 ⟨rfl, m, rfl⟩
  have HK := hide ((Kb.refl p w).drewN m)
  generalize w.drewN m = w1 at *
  clear X
  go_wp2_with fail
  exact ⟨rfl, rfl, HK.out⟩
set_option maxRecDepth 100000 in
set_option maxHeartbeats 2000000 in
theorem value_any (C : Cx W0 p A n c T Va vn vc V) (w : World) (a : Nat) (z : Bool) (nm : Tok) (h : Pa W0 p A n c Va vn vc w a z) (hn : nm.length ≤ 1000) :
    Calls Tryz.prog 58 #[.pointer (some ⟨p, 0, none⟩), .string ⟨nm.toArray⟩] w fun e w' => e = .returned (.int .i64 (valueP nm V)) ∧ Below w.heap.size w w' := by
  have hV := C.vars.below (C.at_ h.bel)
  have hnn := rd_len hV
  have vl := C.vl
  have HV := hide hV
  have HS := hide (C.std.below (C.at_ h.bel))
  have HVS := hide C.vs
  have HL := hide hnn
  have HC := hide (cat_b nm [61])
  obtain ⟨⟨c0, c1, c2, c3⟩, _⟩ := h.blk.four_
  clear h C hV
  go_enter Tryz.func58, Tryz.ntmps58
  go_wp2_with fail
  go_loopw [16] (fun u16 wx => ∃ k : Nat, k ≤ vn ∧ u16 = .int .i64 (k : Int) ∧ wx = w ∧ Hid (valueP nm V = valueP nm (V.drop k))) (fun u16 _ => vn - (intOf u16).toNat)
  case atStart => exact ⟨0, Nat.zero_le _, rfl, rfl, hide rfl⟩
  case round =>
    obtain ⟨k, hk, rfl, rfl, HN⟩ := hrel
    by_cases hlt : k < vn
    · obtain ⟨g, o, rfl, hg, hc⟩ := rd_cells HV.out (by omega)
      have hkl : k < V.length := by have := HL.out; omega
      have hck := hc k hkl
      have hvl := HVS.out _ (List.getElem_mem hkl)
      have hia := fun W => str_at g o vn vc k (k : Int) rfl hlt W
      have hlt' : (k : Int) < (vn : Int) := by omega
      have HN1 : Hid (valueP nm V = if startsP V[k] (nm ++ [61]) then parseV (V[k].drop (nm.length + 1)) else valueP nm (V.drop (k + 1))) := hide (by rw [HN.out, List.drop_eq_getElem_cons hkl]; rfl)
      clear HN hc
      generalize V[k] = x at *
      have X := hide (fun W => cut_any x (nm ++ [61]) W (by omega))
      unfold cutP at X
      cases hb : startsP x (nm ++ [61]) with
      | true =>
        rw [hb] at HN1
        have X2 : Hid (∀ W, Calls Tryz.prog 64 #[.string ⟨x.toArray⟩, .string ⟨(nm ++ [61]).toArray⟩] W fun e w' => e = .returned (.tuple #[.string ⟨(x.drop (nm.length + 1)).toArray⟩, .bool true]) ∧ W = w') := hide fun W => by
          have h := X.out W
          rw [hb, if_pos rfl] at h
          simpa using h
        have Y := hide (parse_v (x.drop (nm.length + 1)) wr (by simp; omega) HS.out)
        clear X hb
        go_wp2_with fail
        rw [HC.out]
        refine (X2.out _).mono ?_
        rintro e w1 ⟨rfl, rfl⟩
        go_wp2_with fail
        refine Y.out.mono ?_
        rintro e w1 ⟨⟨b, rfl⟩, hb1⟩
        have HB := hide hb1
        clear hb1
        go_wp2_with fail
        go_ret
        exact ⟨by rw [HN1.out]; rfl, HB.out⟩
      | false =>
        rw [hb] at HN1
        have X2 : Hid (∀ W, Calls Tryz.prog 64 #[.string ⟨x.toArray⟩, .string ⟨(nm ++ [61]).toArray⟩] W fun e w' => e = .returned (.tuple #[.string ⟨x.toArray⟩, .bool false]) ∧ W = w') := hide fun W => by
          have h := X.out W
          rw [hb, if_neg (by simp)] at h
          exact h
        clear X hb
        go_wp2_with fail
        rw [HC.out]
        refine (X2.out _).mono ?_
        rintro e w1 ⟨rfl, rfl⟩
        go_wp2_with fail
        go_roundw
        case rel => exact ⟨k + 1, by omega, by go_num, by first | rfl | trivial, hide (by rw [HN1.out]; rfl)⟩
        case measure => simp [intOf]; omega
    · have hlt' : ¬ (k : Int) < (vn : Int) := by omega
      have HE : Hid (valueP nm V = 0) := hide (by rw [HN.out, List.drop_of_length_le (by have := HL.out; omega)]; rfl)
      clear HN
      go_wp2_with fail
      go_ret
      exact ⟨by rw [HE.out]; rfl, Below.refl _ _⟩
end
end Go.Proofs.YtglgldmofibedaaGreatDoor
