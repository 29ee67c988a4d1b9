/- The bytes of a reply, reading one back, as plain functions. No program. -/
import Derived.Test.YtedacfjkbfgikaaPrH
import Derived.Test.YtedacfjkbfgikaaPrZ
namespace Go.Proofs.Ytedacfjkbfgikaa
set_option linter.unusedVariables false
def encR (u : Int) (r : RP) : List LB := [on u 1 (intP r.n) [], on u 2 (intP r.h) [], on u 4 (intP r.h2) [], on u 1024 (txtP r.d) [], on u 2048 (lstP r.names) []]
def encP (u : Int) (r : RP) : LB := opB r.err :: catP (encR (r.eff u) r)
def zP (err : Int) : RP := ⟨err, 0, 0, 0, [], []⟩
def rpN (p : RP × St) : RP × St := ({ p.1 with n := (intS p.2).1 }, (intS p.2).2)
def rpH (p : RP × St) : RP × St := ({ p.1 with h := (intS p.2).1 }, (intS p.2).2)
def rpH2 (p : RP × St) : RP × St := ({ p.1 with h2 := (intS p.2).1 }, (intS p.2).2)
def rpD (p : RP × St) : RP × St := ({ p.1 with d := (txtS p.2).1 }, (txtS p.2).2)
def rpS (p : RP × St) : RP × St := ({ p.1 with names := (listS txtS p.2).1 }, (listS txtS p.2).2)
def fldP : List (Int × (RP × St → RP × St)) := [(1, rpN), (2, rpH), (4, rpH2), (1024, rpD), (2048, rpS)]
def dcP (u : Int) (p : RP × St) : Nat → RP × St
  | 0 => p
  | k + 1 => on u (fldP.getD k (0, id)).1 ((fldP.getD k (0, id)).2 (dcP u p k)) (dcP u p k)
def c1 (u : Int) (st : St) : Int × St := on u 1 (intS st) (0, st)
def c2 (u : Int) (st : St) : Int × St := on u 2 (intS st) (0, st)
def c3 (u : Int) (st : St) : Int × St := on u 4 (intS st) (0, st)
def c4 (u : Int) (st : St) : LB × St := on u 1024 (txtS st) ([], st)
def c5 (u : Int) (st : St) : List LB × St := on u 2048 (listS txtS st) ([], st)
def decY (u err : Int) (st : St) : RP × St :=
  (⟨err, (c2 u (c1 u st).2).1, (c3 u (c2 u (c1 u st).2).2).1, (c1 u st).1, (c4 u (c3 u (c2 u (c1 u st).2).2).2).1, (c5 u (c4 u (c3 u (c2 u (c1 u st).2).2).2).2).1⟩,
   (c5 u (c4 u (c3 u (c2 u (c1 u st).2).2).2).2).2)
theorem dcP_eq (u err : Int) (st : St) : dcP u (zP err, st) 5 = decY u err st := by
  have h1 : dcP u (zP err, st) 1 = ({ zP err with n := (c1 u st).1 }, (c1 u st).2) := by
    show on u 1 (rpN (zP err, st)) (zP err, st) = _
    unfold c1 on; split <;> rfl
  generalize he1 : c1 u st = x1 at h1
  have h2 : dcP u (zP err, st) 2 = ({ zP err with n := x1.1, h := (c2 u x1.2).1 }, (c2 u x1.2).2) := by
    show on u 2 (rpH (dcP u (zP err, st) 1)) (dcP u (zP err, st) 1) = _
    rw [h1]; unfold c2 on; split <;> rfl
  generalize he2 : c2 u x1.2 = x2 at h2
  have h3 : dcP u (zP err, st) 3 = ({ zP err with n := x1.1, h := x2.1, h2 := (c3 u x2.2).1 }, (c3 u x2.2).2) := by
    show on u 4 (rpH2 (dcP u (zP err, st) 2)) (dcP u (zP err, st) 2) = _
    rw [h2]; unfold c3 on; split <;> rfl
  generalize he3 : c3 u x2.2 = x3 at h3
  have h4 : dcP u (zP err, st) 4 = ({ zP err with n := x1.1, h := x2.1, h2 := x3.1, d := (c4 u x3.2).1 }, (c4 u x3.2).2) := by
    show on u 1024 (rpD (dcP u (zP err, st) 3)) (dcP u (zP err, st) 3) = _
    rw [h3]; unfold c4 on; split <;> rfl
  generalize he4 : c4 u x3.2 = x4 at h4
  have h5 : dcP u (zP err, st) 5 = ({ zP err with n := x1.1, h := x2.1, h2 := x3.1, d := x4.1, names := (c5 u x4.2).1 }, (c5 u x4.2).2) := by
    show on u 2048 (rpS (dcP u (zP err, st) 4)) (dcP u (zP err, st) 4) = _
    rw [h4]; unfold c5 on; split <;> rfl
  rw [h5]
  unfold decY
  simp only [he1, he2, he3, he4]
  rfl
def RP.fit (r : RP) : Prop := wideP r.n = true ∧ wideP r.h = true ∧ wideP r.h2 = true ∧ r.d.length ≤ 65535 ∧ (r.names.length ≤ 255 ∧ ∀ x ∈ r.names, x.length ≤ 65535)
def RP.zer (u : Int) (r : RP) : Prop := (bits .and .i64 u 1 = 0 → r.n = 0) ∧ (bits .and .i64 u 2 = 0 → r.h = 0) ∧ (bits .and .i64 u 4 = 0 → r.h2 = 0) ∧ (bits .and .i64 u 1024 = 0 → r.d = []) ∧ (bits .and .i64 u 2048 = 0 → r.names = [])
theorem decY_app (u : Int) (r : RP) (rest : LB) (h : r.fit) (hz : r.zer u) : decY u r.err (catP (encR u r) ++ rest, false) = (r, (rest, false)) := by
  obtain ⟨err, hh, h2, n, d, names⟩ := r
  obtain ⟨f1, f2, f3, f4, f5⟩ := h
  obtain ⟨z1, z2, z3, z4, z5⟩ := hz
  dsimp only at *
  have E : catP (encR u ⟨err, hh, h2, n, d, names⟩) ++ rest = on u 1 (intP n) [] ++ (on u 2 (intP hh) [] ++ (on u 4 (intP h2) [] ++ (on u 1024 (txtP d) [] ++ (on u 2048 (lstP names) [] ++ rest)))) := by
    simp only [encR, catP, List.append_assoc, List.append_nil]
  rw [E]
  have g1 := fun r => on_app u 1 intS intP 0 n r (fun _ => intS_app r f1) z1
  have g2 := fun r => on_app u 2 intS intP 0 hh r (fun _ => intS_app r f2) z2
  have g3 := fun r => on_app u 4 intS intP 0 h2 r (fun _ => intS_app r f3) z3
  have g4 := fun r => on_app u 1024 txtS txtP [] d r (fun _ => txtS_app r f4) z4
  have g5 := fun r => on_app u 2048 (listS txtS) lstP [] names r (fun _ => listT_app names r f5.1 f5.2) z5
  unfold decY c1 c2 c3 c4 c5
  simp only [g1, g2, g3, g4, g5]
theorem decY_back (u err : Int) (st : St) (rest : LB) (h : (decY u err st).2 = (rest, false)) : st = (catP (encR u (decY u err st).1) ++ rest, false) ∧ (decY u err st).1.fit ∧ (decY u err st).1.zer u ∧ (decY u err st).1.err = err := by
  unfold decY at h ⊢
  dsimp only at h ⊢
  generalize e1 : c1 u st = x1 at *
  generalize e2 : c2 u x1.2 = x2 at *
  generalize e3 : c3 u x2.2 = x3 at *
  generalize e4 : c4 u x3.2 = x4 at *
  generalize e5 : c5 u x4.2 = x5 at *
  have g5 := on_back u 2048 (listS txtS) lstP (fun l => l.length ≤ 255 ∧ ∀ x ∈ l, x.length ≤ 65535) [] x4.2 rest (fun v h => listT_back _ _ _ h) (by unfold c5 at e5; rw [e5]; exact h)
  unfold c5 at e5
  rw [e5] at g5
  have g4 := on_back u 1024 txtS txtP (fun s => s.length ≤ 65535) [] x3.2 _ (fun v h => txtS_back h) (by unfold c4 at e4; rw [e4]; exact g5.1)
  unfold c4 at e4
  rw [e4] at g4
  have g3 := on_back u 4 intS intP (fun s => wideP s = true) 0 x2.2 _ (fun v h => intS_back h) (by unfold c3 at e3; rw [e3]; exact g4.1)
  unfold c3 at e3
  rw [e3] at g3
  have g2 := on_back u 2 intS intP (fun s => wideP s = true) 0 x1.2 _ (fun v h => intS_back h) (by unfold c2 at e2; rw [e2]; exact g3.1)
  unfold c2 at e2
  rw [e2] at g2
  have g1 := on_back u 1 intS intP (fun s => wideP s = true) 0 st _ (fun v h => intS_back h) (by unfold c1 at e1; rw [e1]; exact g2.1)
  unfold c1 at e1
  rw [e1] at g1
  have F : ∀ (k : Int) (A B C : Prop), on u k A B → (A → C) → (B → C) → C := fun k A B C h hA hB => by
    unfold on at h; split at h
    · exact hB h
    · exact hA h
  have Z : ∀ (k : Int) (A B : Prop), on u k A B → bits .and .i64 u k = 0 → B := fun k A B h hk => by rw [on_no hk] at h; exact h
  refine ⟨?_, ⟨?_, ?_, ?_, ?_, ?_⟩, ⟨Z _ _ _ g1.2, Z _ _ _ g2.2, Z _ _ _ g3.2, Z _ _ _ g4.2, Z _ _ _ g5.2⟩, rfl⟩
  · rw [g1.1]
    simp only [encR, catP, List.append_assoc, List.append_nil]
  · exact F _ _ _ _ g1.2 id (fun h => by show wideP x1.1 = true; rw [h]; rfl)
  · exact F _ _ _ _ g2.2 id (fun h => by show wideP x2.1 = true; rw [h]; rfl)
  · exact F _ _ _ _ g3.2 id (fun h => by show wideP x3.1 = true; rw [h]; rfl)
  · exact F _ _ _ _ g4.2 id (fun h => by show x4.1.length ≤ 65535; rw [h]; simp)
  · exact F _ _ _ _ g5.2 id (fun h => by show x5.1.length ≤ 255 ∧ ∀ x ∈ x5.1, x.length ≤ 65535; rw [h]; simp)
def usedC (b1 b2 b3 b4 b5 : Bool) : Int := or64 (or64 (or64 (or64 (pres b1 1) (pres b2 2)) (pres b3 4)) (pres b4 1024)) (pres b5 2048)
def okC (u : Int) (b1 b2 b3 b4 b5 : Bool) : Bool := !(bits .andNot .i64 (usedC b1 b2 b3 b4 b5) u == 0) || ((!(bits .and .i64 u 1 == 0) || !b1) && (!(bits .and .i64 u 2 == 0) || !b2) && (!(bits .and .i64 u 4 == 0) || !b3) && (!(bits .and .i64 u 1024 == 0) || !b4) && (!(bits .and .i64 u 2048 == 0) || !b5))
theorem okC_all : (((0, 0) :: repL).all fun e => allB fun b1 => allB fun b2 => allB fun b3 => allB fun b4 => allB fun b5 => okC e.2 b1 b2 b3 b4 b5) = true := by kernel_rfl
theorem rep_mem {op : Int} (h : (repU op).2 = true) : ∃ e ∈ repL, (repU op).1 = e.2 := by
  rcases useD_mem op repL (0, false) h with h1 | ⟨e, he, h1⟩
  · unfold repU at h; rw [h1] at h; cases h
  · exact ⟨e, he, by unfold repU; rw [h1]⟩
theorem eff_mem {op : Int} (h : (repU op).2 = true) (r : RP) : ∃ e ∈ ((0, 0) :: repL), r.eff (repU op).1 = e.2 := by
  unfold RP.eff
  split
  · obtain ⟨e, he, h1⟩ := rep_mem h
    exact ⟨e, List.mem_cons_of_mem _ he, h1⟩
  · exact ⟨(0, 0), List.mem_cons_self .., rfl⟩
theorem rok_parts {u : Int} {r : RP} (h : r.ok u = true) : (0 ≤ r.err ∧ r.err ≤ 255) ∧ bits .andNot .i64 r.used (r.eff u) = 0 ∧ (wideP r.h = true ∧ wideP r.h2 = true ∧ wideP r.n = true) ∧ r.d.length ≤ 2048 ∧ r.names.length ≤ 255 ∧ ∀ x ∈ r.names, x.length ≤ 32 := by
  unfold RP.ok at h
  simp only [Bool.and_eq_true, beq_iff_eq, Bool.not_eq_true', decide_eq_true_eq] at h
  obtain ⟨⟨⟨h1, h2⟩, h3⟩, h4⟩ := h
  refine ⟨h1, h2, ⟨h3.1.1, h3.1.2, h3.2⟩, h4.1.1, h4.1.2, fun x hx => ?_⟩
  have h7 := h4.2
  unfold anyL at h7
  rw [List.any_eq_false] at h7
  have := h7 x hx
  simp at this
  omega
theorem usedC_eq (r : RP) : r.used = usedC (r.n != 0) (r.h != 0) (r.h2 != 0) (decide (0 < r.d.length)) (decide (0 < r.names.length)) := rfl
theorem rok_zer {op : Int} {r : RP} (h0 : (repU op).2 = true) (h : r.ok (repU op).1 = true) : r.zer (r.eff (repU op).1) := by
  obtain ⟨-, h2, -⟩ := rok_parts h
  obtain ⟨e, he, hu⟩ := eff_mem h0 r
  have h0 := List.all_eq_true.1 okC_all e he
  rw [usedC_eq] at h2
  rw [hu] at h2 ⊢
  have h3 := allB_at (allB_at (allB_at (allB_at (allB_at h0 (r.n != 0)) (r.h != 0)) (r.h2 != 0)) (decide (0 < r.d.length))) (decide (0 < r.names.length))
  unfold okC at h3
  rw [h2] at h3
  simp only [beq_self_eq_true, Bool.not_true, Bool.false_or, Bool.and_eq_true, Bool.or_eq_true, Bool.not_eq_true', beq_eq_false_iff_ne, bne_eq_false_iff_eq, decide_eq_false_iff_not] at h3
  obtain ⟨⟨⟨⟨k1, k2⟩, k3⟩, k4⟩, k5⟩ := h3
  have L : ∀ {α : Type} (l : List α), ¬ 0 < l.length → l = [] := fun l hl => List.eq_nil_of_length_eq_zero (by omega)
  have G : ∀ {a : Prop} {x : Int}, (x ≠ 0 ∨ a) → x = 0 → a := fun h hx => h.resolve_left (fun k => k hx)
  exact ⟨fun hb => G k1 hb, fun hb => G k2 hb, fun hb => G k3 hb, fun hb => L _ (G k4 hb), fun hb => L _ (G k5 hb)⟩
def RP.small (r : RP) : Prop := i64ok r.h ∧ i64ok r.h2 ∧ i64ok r.n ∧ r.d.length ≤ 2048 ∧ (r.names.length ≤ 255 ∧ ∀ x ∈ r.names, x.length ≤ 32) ∧ 0 ≤ r.err ∧ r.err ≤ 255
theorem rok_small {u : Int} {r : RP} (h : r.ok u = true) : r.small := by
  obtain ⟨h1, h2, ⟨h3a, h3b, h3c⟩, h4, h5, h6⟩ := rok_parts h
  exact ⟨wide_i64 h3a, wide_i64 h3b, wide_i64 h3c, h4, ⟨h5, h6⟩, h1.1, h1.2⟩
theorem rok_fit {u : Int} {r : RP} (h : r.ok u = true) : r.fit := by
  obtain ⟨h1, h2, ⟨h3a, h3b, h3c⟩, h4, h5, h6⟩ := rok_parts h
  exact ⟨h3c, h3a, h3b, by omega, ⟨h5, fun x hx => by have := h6 x hx; omega⟩⟩
theorem RP.small.names {r : RP} (h : r.small) : (catP (r.names.map txtP)).length ≤ 9000 := by
  have := catP_bound txtP 34 r.names (fun x hx => by rw [txt_len]; have := h.2.2.2.2.1.2 x hx; omega)
  have h2 := h.2.2.2.2.1.1
  omega
theorem RP.small.pieces {r : RP} (h : r.small) (u : Int) : ∀ x ∈ encR u r, x.length ≤ 10000 := by
  obtain ⟨s0, s1, s2, s3, s4, s5⟩ := id h
  have ha := h.names
  intro x hx
  simp only [encR, List.mem_cons, List.mem_nil_iff, or_false] at hx
  rcases hx with rfl | rfl | rfl | rfl | rfl
  · exact on_len (by rw [int_len]; omega)
  · exact on_len (by rw [int_len]; omega)
  · exact on_len (by rw [int_len]; omega)
  · exact on_len (by rw [txt_len]; omega)
  · exact on_len (by simp only [lstP, List.length_append, be_length]; omega)
theorem RP.small.sofar {r : RP} (h : r.small) (u : Int) (o : LB) (ho : o.length ≤ 1) (k : Nat) : (o ++ catP ((encR u r).take k)).length ≤ 90000 := by
  have h1 := catP_len ((encR u r).take k) 10000 (fun x hx => h.pieces u x (List.mem_of_mem_take hx))
  have h2 : ((encR u r).take k).length ≤ 5 := by rw [List.length_take, show (encR u r).length = 5 from rfl]; omega
  rw [List.length_append]
  omega
theorem err_byte {r : RP} (h : r.small) : IntKind.u8.wrap r.err = ((opB r.err).toNat : Int) := by
  have h1 := h.2.2.2.2.2
  simp [opB, IntKind.wrap, IntKind.bits, IntKind.signed]
  omega
end Go.Proofs.Ytedacfjkbfgikaa
