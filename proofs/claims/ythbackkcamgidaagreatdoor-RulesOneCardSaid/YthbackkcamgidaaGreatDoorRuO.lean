/- clone.List at texts; arguments. -/
import Derived.Test.YthbackkcamgidaaGreatDoorRuL
import Derived.Lib.AppendStr
namespace Go.Proofs.YthbackkcamgidaaGreatDoor
open Go Go.RowKit
set_option linter.unusedVariables false
theorem rd_len {w : World} {B n : Nat} {A : Option Addr} {ks : List LB} (h : Reads w B 1 A n (svs ks)) : n = ks.length := by have := h.1; rw [svs_length] at this; omega
set_option maxRecDepth 100000 in
set_option maxHeartbeats 4000000 in
theorem tclone_any (l : List LB) (A : Option Addr) (n c : Nat) (w : World) (hR : Reads w w.heap.size 1 A n (svs l)) (h0 : 0 < n) (hn : n ≤ 1000000) : Calls Tryz.prog 123 #[.slice A n c] w fun e w' => ∃ A' c', e = .returned (.slice A' n c') ∧ Ow w.heap.size w' A' n c' l ∧ Below w.heap.size w w' := by
  obtain ⟨i0, hi, hz0, hz1, hz2⟩ := info_parts infoStr
  have hl := rd_len hR
  obtain ⟨g, o, rfl, hg, q0⟩ := cells_of hR h0 (by rw [svs_length]; omega)
  clear q0
  have hnil := fun (W : World) => Lib.run_eql_slice_nil (P := Tryz.prog) W 38 9 (some ⟨g, o, none⟩) n c 0 0 Tryz.underlying38
  have hown0 : (w.alloc (.cells #[] 9)).ownsRow w.heap.size 9 1 (.slice (some ⟨w.heap.size, 0, none⟩) 0 0) 0 [] := by
    refine ⟨rfl, .inr ⟨w.heap.size, 0, #[], rfl, Nat.le_refl _, ?_⟩⟩
    exact ⟨Blk.new w 9 #[], Nat.le_refl _, by simp [maxLen], by simp, by simp⟩
  have hb0 := (Below.refl w.heap.size w).alloc (Nat.le_refl _) (.cells #[] 9)
  have hr0 := Reads.alloc hR (Nat.le_refl _) (.cells #[] 9)
  have HL := hide hl
  clear hl
  go_enter Tryz.func123, Tryz.ntmps123
  go_wp2_with (at_builtin; (refine wpList_append_any _ rfl (.tmp 5) (.tmp 6) 38 rfl w.heap.size 9 i0 _ 1 16 Tryz.underlying38 hi hz0 hz1 hz2 rfl (by omega) (.slice (some ⟨w.heap.size, 0, none⟩) 0 0) 0 [] rfl hown0 w.heap.size (some ⟨g, o, none⟩) n c (svs l) rfl hr0 (svs_one l) ?c1 ?c2 ?c3 ?_))
  case c1 => unfold maxLen; omega
  case c2 => omega
  case c3 => simp
  intro v1 w1 hown1 hg1 hat1
  obtain ⟨A', c', rfl⟩ := own_slice hown1
  go_wp2
  go_ret
  exact ⟨A', c', by simp, by unfold Ow; simpa using hown1, hb0.grown hg1 (by simp) (fun g hg => by simp [Value.ownBlock] at hg; omega)⟩
theorem tlist_any (l : List LB) (A : Option Addr) (n c : Nat) (w : World) (hR : Reads w w.heap.size 1 A n (svs l)) (hn : n ≤ 1000000) : Calls Tryz.prog 113 #[.slice A n c] w fun e w' => ∃ A' c', e = .returned (.slice A' n c') ∧ Ow w.heap.size w' A' n c' l ∧ Below w.heap.size w w' := by
  by_cases h0 : n = 0
  · subst h0
    have hl : l = [] := List.eq_nil_of_length_eq_zero (rd_len hR).symm
    subst hl
    clear hR
    go_enter Tryz.func113, Tryz.ntmps113
    go_wp2
    go_ret
    exact ⟨none, 0, rfl, World.ownsRow_nil _ _ _ _, Below.refl _ _⟩
  · have hz : ((n : Int) == 0) = false := beq_eq_false_iff_ne.2 (by omega)
    have X := hide (tclone_any l A n c w hR (by omega) hn)
    clear hR
    go_enter Tryz.func113, Tryz.ntmps113
    go_wp2_with fail
    refine X.out.mono ?_
    rintro e w1 ⟨A', c', rfl, hO, hb⟩
    have HO := hide hO
    have HB := hide hb
    clear hO hb
    go_wp2_with fail
    go_ret
    exact ⟨A', c', rfl, HO.out, HB.out⟩
def ArgEnd (num : Int) (R : Option (List LB × Bool)) (w : World) (e : Ending) (w' : World) : Prop := Below w.heap.size w w' ∧ match R with
  | none => e = .panicked (badV num)
  | some q => ∃ A n c, e = .returned (.tuple #[.slice A n c, .bool q.2]) ∧ Ow w.heap.size w' A n c q.1
theorem ArgEnd.no {num : Int} {R : Option (List LB × Bool)} {w : World} {e : Ending} {w' : World} (h : R = none) (hb : Below w.heap.size w w') (he : e = .panicked (badV num)) : ArgEnd num R w e w' := by subst h; exact ⟨hb, he⟩
theorem ArgEnd.ok {num : Int} {R : Option (List LB × Bool)} {q : List LB × Bool} {w : World} {e : Ending} {w' : World} {A : Option Addr} {n c : Nat} (h : R = some q) (hb : Below w.heap.size w w') (he : e = .returned (.tuple #[.slice A n c, .bool q.2])) (ho : Ow w.heap.size w' A n c q.1) : ArgEnd num R w e w' := by subst h; exact ⟨hb, A, n, c, he, ho⟩
theorem args_of {ws v : List LB} {mo : Bool} (hd : dotted ws = mo) (hv : (if mo = true then ws.dropLast else ws) = v) : argsU ws = if v.length ≤ 16 then (if (v.all fun w => decide (w.length ≤ 256)) = true then some (v, mo) else none) else none := by
  unfold argsU
  rw [hd, hv]
set_option maxRecDepth 100000 in
set_option maxHeartbeats 16000000 in
theorem arguments_any (p : Nat) (num : Int) (ws : List LB) (A : Option Addr) (n c : Nat) (w : World) (hc3 : w.cell? ⟨p, 3, none⟩ = some (.int .i64 num)) (hT : TyS w A n c ws) (hn : n ≤ 1000000) :
    Calls Tryz.prog 98 #[.pointer (some ⟨p, 0, none⟩), .slice A n c] w (ArgEnd num (argsU ws) w) := by
  have hl := hT.len
  have XNo := hide (need_no p num w hc3)
  have XOk := hide (need_ok p w)
  clear hc3
  obtain ⟨R, hR⟩ : ∃ R, argsU ws = R := ⟨_, rfl⟩
  rw [hR]
  have HR0 := hide hR
  clear hR
  have HT := hide hT
  have hcn := hT.le
  clear hT
  by_cases h0 : n = 0
  · -- no words
    subst h0
    obtain rfl := List.eq_nil_of_length_eq_zero hl
    have HRN : Hid (R = some ([], false)) := hide (HR0.out.symm.trans rfl)
    have XCl := hide (tlist_any [] A 0 c w HT.out.rd (by omega))
    clear HR0
    go_enter Tryz.func98, Tryz.ntmps98
    go_wp2_with fail
    refine XOk.out.mono ?_
    rintro e w1 ⟨rfl, rfl⟩
    go_wp2_with fail
    go_loopw [9, 34] (fun _ u34 wx => u34 = .int .i64 0 ∧ w = wx) (fun _ _ _ => 0)
    case atStart => exact ⟨rfl, rfl⟩
    case round =>
      obtain ⟨rfl, rfl⟩ := hrel
      go_wp2_with fail
      refine XCl.out.mono ?_
      rintro e w1 ⟨A', c', rfl, hO, hb⟩
      have HO := hide hO
      have HB := hide hb
      clear hO hb
      go_wp2_with fail
      refine bodyPost_ret (v := .tuple #[.slice A' 0 c', .bool false]) (by simp only [results, Tryz.results98]; go_simp) rfl ?_
      exact ArgEnd.ok (q := ([], false)) HRN.out HB.out rfl HO.out
  · obtain ⟨m, hnm⟩ : ∃ m, n = m + 1 := ⟨n - 1, by omega⟩
    have hm1 : (0 : Int) < (n : Int) := by omega
    have kw0 : IntKind.i64.wrap ((n : Int) - 1) = (m : Int) := by
      have : (n : Int) - 1 = (m : Int) := by omega
      rw [this]
      simp [IntKind.wrap, IntKind.bits, IntKind.signed]; omega
    obtain ⟨x, hx⟩ : ∃ x, ws[m]? = some x := ⟨_, List.getElem?_eq_getElem (by omega)⟩
    obtain ⟨g1, o1, rfl, hcl⟩ := HT.out.cell hx
    have hcm := hcl m x hx
    have hmi : (m : Int) < (n : Int) := by omega
    have hmle : m ≤ n := by omega
    have hm0 : (0 : Int) ≤ (m : Int) := by omega
    have hlast : ws.getLast? = some x := by
      rw [List.getLast?_eq_getElem?, hl, show n - 1 = m by omega]; exact hx
    cases hd : (x == [46, 46, 46]) with
    | true =>
      have hdt : dotted ws = true := by unfold dotted; rw [hlast]; simpa [wDots] using hd
      obtain ⟨v, hv⟩ : ∃ v, ws.dropLast = v := ⟨_, rfl⟩
      have hvl : v.length = m := by rw [← hv, List.length_dropLast]; omega
      have HR : Hid (R = if v.length ≤ 16 then (if (v.all fun w => decide (w.length ≤ 256)) = true then some (v, true) else none) else none) := hide (HR0.out.symm.trans (args_of hdt (by rw [if_pos rfl, hv])))
      have hvt : ws.take m = v := by rw [← hv, List.dropLast_eq_take, hl, show n - 1 = m by omega]
      have HTV : Hid (TyS w (some ⟨g1, o1, none⟩) m c v) := hide (by
        have := HT.out.take (k := m) (by omega)
        rw [hvt] at this
        exact ⟨this.rd, by omega, this.ty⟩)
      have HC : Hid (∀ j y, v[j]? = some y → w.cell? ⟨g1, o1 + j, none⟩ = some (.string ⟨y.toArray⟩)) := hide (fun j y hj => hcl j y (by
        rw [← hvt, List.getElem?_take] at hj
        split at hj
        · exact hj
        · cases hj))
      have hsl : ∀ W, (Instr.slice 38 (.slice (some ⟨g1, o1, none⟩) n c) none (some (.int .i64 (m : Int))) none).run Tryz.prog W = .ok (.slice (some ⟨g1, o1, none⟩) m c) W := fun W => by
        have := run_slice_to (P := Tryz.prog) 38 9 Tryz.underlying38 sizeStr (some ⟨g1, o1, none⟩) n c .i64 (m : Int) (by omega) (by omega) W
        rwa [Int.toNat_natCast] at this
      have XCl := hide (tlist_any v (some ⟨g1, o1, none⟩) m c w HTV.out.rd (by omega))
      have HVL := hide hvl
      clear hv hvt hdt HR0 HT hcl hlast hx HTV hl hnm hvl
      by_cases h16 : m ≤ 16
      · have h16' : (m : Int) ≤ 16 := by omega
        have HRA : Hid (R = if (v.all fun w => decide (w.length ≤ 256)) = true then some (v, true) else none) := hide (by rw [HR.out, if_pos (by have := HVL.out; omega)])
        clear HR
        go_enter Tryz.func98, Tryz.ntmps98
        go_wp2_with fail
        refine XOk.out.mono ?_
        rintro e w1 ⟨rfl, rfl⟩
        go_wp2_with fail
        go_loopw [9, 34] (fun _ u34 wx => ∃ (i : Nat), i ≤ v.length ∧ u34 = .int .i64 i ∧ Hid (∀ j (hj : j < v.length), j < i → (v[j]).length ≤ 256) ∧ w = wx) (fun _ u34 _ => v.length - (intOf u34).toNat)
        case atStart => exact ⟨0, Nat.zero_le _, rfl, hide (fun j hj h => absurd h (by omega)), rfl⟩
        case round =>
          obtain ⟨i, hi, rfl, HA, rfl⟩ := hrel
          by_cases hlt : i < v.length
          · have hcell : w.cell? ⟨g1, o1 + i, none⟩ = some (.string ⟨(v[i]).toArray⟩) := HC.out i _ (List.getElem?_eq_getElem hlt)
            have hi1 : (i : Int) < (m : Int) := by have := HVL.out; omega
            have hi0 : (0 : Int) ≤ (i : Int) := by omega
            have kw : IntKind.i64.wrap ((i : Int) + 1) = (i : Int) + 1 := by simp [IntKind.wrap, IntKind.bits, IntKind.signed]; omega
            by_cases h256 : (v[i]).length ≤ 256
            · have HA2 : Hid (∀ j (hj : j < v.length), j < i + 1 → (v[j]).length ≤ 256) := hide (fun j hj h => by
                rcases Nat.lt_or_ge j i with h3 | h3
                · exact HA.out j hj h3
                · obtain rfl : j = i := by omega
                  exact h256)
              have h256' : ((v[i]).length : Int) ≤ 256 := by omega
              generalize v[i] = x at *
              go_wp2_with fail
              refine XOk.out.mono ?_
              rintro e w1 ⟨rfl, rfl⟩
              go_wp2_with fail
              go_roundw
              case rel => exact ⟨i + 1, by omega, by go_num, HA2, by trivial⟩
              case measure => simp [intOf]; omega
            · have HRN : Hid (R = none) := hide (by
                rw [HRA.out, if_neg]
                rw [List.all_eq_true]
                intro h
                exact h256 (by simpa using h _ (List.getElem_mem hlt)))
              have h256' : ¬ ((v[i]).length : Int) ≤ 256 := by omega
              have hdec : decide (((v[i]).length : Int) ≤ 256) = false := decide_eq_false h256'
              generalize v[i] = x at *
              go_wp2_with fail
              refine XNo.out.mono ?_
              rintro e w1 ⟨rfl, rfl⟩
              exact ⟨rfl, ArgEnd.no HRN.out (Below.refl _ _) rfl⟩
          · obtain rfl : i = v.length := by omega
            have hlt' : ¬ ((v.length : Nat) : Int) < (m : Int) := by have := HVL.out; omega
            have HRY : Hid (R = some (v, true)) := hide (by
              rw [HRA.out, if_pos]
              rw [List.all_eq_true]
              intro x hx
              obtain ⟨j, hj, rfl⟩ := List.getElem_of_mem hx
              simpa using HA.out j hj hj)
            go_wp2_with fail
            refine XCl.out.mono ?_
            rintro e w1 ⟨A', c', rfl, hO, hb⟩
            have HO := hide hO
            have HB := hide hb
            clear hO hb
            go_wp2_with fail
            refine bodyPost_ret (v := .tuple #[.slice A' m c', .bool true]) (by simp only [results, Tryz.results98]; go_simp) rfl ?_
            exact ArgEnd.ok (q := (v, true)) HRY.out HB.out rfl HO.out
      · have h16' : ¬ (m : Int) ≤ 16 := by omega
        have hdec : decide ((m : Int) ≤ 16) = false := decide_eq_false h16'
        have HRN : Hid (R = none) := hide (by rw [HR.out, if_neg (by have := HVL.out; omega)])
        clear HR
        go_enter Tryz.func98, Tryz.ntmps98
        go_wp2_with fail
        refine XNo.out.mono ?_
        rintro e w1 ⟨rfl, rfl⟩
        exact ⟨rfl, ArgEnd.no HRN.out (Below.refl _ _) rfl⟩
    | false =>
      have hdt : dotted ws = false := by
        unfold dotted; rw [hlast]
        simpa [wDots] using hd
      obtain ⟨v, hv⟩ : ∃ v, ws = v := ⟨_, rfl⟩
      have hvl : v.length = n := by rw [← hv]; omega
      have HR : Hid (R = if v.length ≤ 16 then (if (v.all fun w => decide (w.length ≤ 256)) = true then some (v, false) else none) else none) := hide (HR0.out.symm.trans (args_of hdt (by rw [if_neg (by decide), hv])))
      have HC : Hid (∀ j y, v[j]? = some y → w.cell? ⟨g1, o1 + j, none⟩ = some (.string ⟨y.toArray⟩)) := hide (by rw [← hv]; exact hcl)
      have XCl := hide (tlist_any v (some ⟨g1, o1, none⟩) n c w (by rw [← hv]; exact HT.out.rd) (by omega))
      have HVL := hide hvl
      clear hv hdt HR0 HT hcl hlast hx hl hnm hvl
      by_cases h16 : n ≤ 16
      · have h16' : (n : Int) ≤ 16 := by omega
        have HRA : Hid (R = if (v.all fun w => decide (w.length ≤ 256)) = true then some (v, false) else none) := hide (by rw [HR.out, if_pos (by have := HVL.out; omega)])
        clear HR
        go_enter Tryz.func98, Tryz.ntmps98
        go_wp2_with fail
        refine XOk.out.mono ?_
        rintro e w1 ⟨rfl, rfl⟩
        go_wp2_with fail
        go_loopw [9, 34] (fun _ u34 wx => ∃ (i : Nat), i ≤ v.length ∧ u34 = .int .i64 i ∧ Hid (∀ j (hj : j < v.length), j < i → (v[j]).length ≤ 256) ∧ w = wx) (fun _ u34 _ => v.length - (intOf u34).toNat)
        case atStart => exact ⟨0, Nat.zero_le _, rfl, hide (fun j hj h => absurd h (by omega)), rfl⟩
        case round =>
          obtain ⟨i, hi, rfl, HA, rfl⟩ := hrel
          by_cases hlt : i < v.length
          · have hcell : w.cell? ⟨g1, o1 + i, none⟩ = some (.string ⟨(v[i]).toArray⟩) := HC.out i _ (List.getElem?_eq_getElem hlt)
            have hi1 : (i : Int) < (n : Int) := by have := HVL.out; omega
            have hi0 : (0 : Int) ≤ (i : Int) := by omega
            have kw : IntKind.i64.wrap ((i : Int) + 1) = (i : Int) + 1 := by simp [IntKind.wrap, IntKind.bits, IntKind.signed]; omega
            by_cases h256 : (v[i]).length ≤ 256
            · have HA2 : Hid (∀ j (hj : j < v.length), j < i + 1 → (v[j]).length ≤ 256) := hide (fun j hj h => by
                rcases Nat.lt_or_ge j i with h3 | h3
                · exact HA.out j hj h3
                · obtain rfl : j = i := by omega
                  exact h256)
              have h256' : ((v[i]).length : Int) ≤ 256 := by omega
              generalize v[i] = x at *
              go_wp2_with fail
              refine XOk.out.mono ?_
              rintro e w1 ⟨rfl, rfl⟩
              go_wp2_with fail
              go_roundw
              case rel => exact ⟨i + 1, by omega, by go_num, HA2, by trivial⟩
              case measure => simp [intOf]; omega
            · have HRN : Hid (R = none) := hide (by
                rw [HRA.out, if_neg]
                rw [List.all_eq_true]
                intro h
                exact h256 (by simpa using h _ (List.getElem_mem hlt)))
              have h256' : ¬ ((v[i]).length : Int) ≤ 256 := by omega
              have hdec : decide (((v[i]).length : Int) ≤ 256) = false := decide_eq_false h256'
              generalize v[i] = x at *
              go_wp2_with fail
              refine XNo.out.mono ?_
              rintro e w1 ⟨rfl, rfl⟩
              exact ⟨rfl, ArgEnd.no HRN.out (Below.refl _ _) rfl⟩
          · obtain rfl : i = v.length := by omega
            have hlt' : ¬ ((v.length : Nat) : Int) < (n : Int) := by have := HVL.out; omega
            have HRY : Hid (R = some (v, false)) := hide (by
              rw [HRA.out, if_pos]
              rw [List.all_eq_true]
              intro x hx
              obtain ⟨j, hj, rfl⟩ := List.getElem_of_mem hx
              simpa using HA.out j hj hj)
            go_wp2_with fail
            refine XCl.out.mono ?_
            rintro e w1 ⟨A', c', rfl, hO, hb⟩
            have HO := hide hO
            have HB := hide hb
            clear hO hb
            go_wp2_with fail
            refine bodyPost_ret (v := .tuple #[.slice A' n c', .bool false]) (by simp only [results, Tryz.results98]; go_simp) rfl ?_
            exact ArgEnd.ok (q := (v, false)) HRY.out HB.out rfl HO.out
      · have h16' : ¬ (n : Int) ≤ 16 := by omega
        have hdec : decide ((n : Int) ≤ 16) = false := decide_eq_false h16'
        have HRN : Hid (R = none) := hide (by rw [HR.out, if_neg (by have := HVL.out; omega)])
        clear HR
        go_enter Tryz.func98, Tryz.ntmps98
        go_wp2_with fail
        refine XNo.out.mono ?_
        rintro e w1 ⟨rfl, rfl⟩
        exact ⟨rfl, ArgEnd.no HRN.out (Below.refl _ _) rfl⟩
end Go.Proofs.YthbackkcamgidaaGreatDoor
