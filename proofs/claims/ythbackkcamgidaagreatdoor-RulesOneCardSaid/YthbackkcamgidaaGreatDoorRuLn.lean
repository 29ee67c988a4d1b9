/- line. -/
import Derived.Test.YthbackkcamgidaaGreatDoorRuQ
namespace Go.Proofs.YthbackkcamgidaaGreatDoor
open Go Go.RowKit
set_option linter.unusedVariables false
theorem fr_set {p : Nat} {w : World} {cs : Array Value} (h : Blk w p 67 cs) (i : Nat) (v : Value) : Fr p w (w.setCell ⟨p, i, none⟩ v) := ⟨rfl, rfl, rfl, by simp, fun k o ho hc => by
  refine (Below.heap_setCell w ⟨p, i, none⟩ _ k ?_).trans ho
  intro e
  have e' : k = p := e
  rw [e'] at ho hc
  rcases hc with hc | hc
  · omega
  · unfold Blk at h
    rw [h] at ho
    injection ho with ho
    exact (hc _ _ _ ho.symm).1 rfl⟩
theorem RdI.upd {p B : Nat} {s : RS} {P P' : PL} {num num' : Int} {fi fi' : Bool} {w : World} (h : RdI p B s P num fi w) (i : Nat) (v : Value)
    (hb : Blk (w.setCell ⟨p, i, none⟩ v) p 67 #[.string ⟨P'.root.toArray⟩, .slice s.RA s.rn s.rc, .slice s.EA s.en s.ec, .int .i64 num', .bool fi']) (hr : P'.rules = P.rules) (he : P'.env = P.env) : RdI p B s P' num' fi' (w.setCell ⟨p, i, none⟩ v) :=
  ⟨hb, own_far h.rules (p := ⟨p, i, none⟩) h.lo _, fun x hx => (h.ok x hx).fr (fr_set h.blk i v), by rw [hr]; exact h.eq, by rw [he]; exact own_far h.env (p := ⟨p, i, none⟩) h.lo _, h.lo, by simpa using h.hi⟩
theorem lineU_len {P Q : PL} {fi : Bool} {ws : List LB} (h : lineU P fi ws = some Q) (h1 : P.rules.length ≤ 64) (h2 : P.env.length ≤ 64) : Q.rules.length ≤ 64 ∧ Q.env.length ≤ 64 := by
  cases ws with
  | nil => cases h
  | cons w ws =>
    rw [lineU_cons] at h
    by_cases q1 : w = wRoot
    · rw [if_pos q1] at h
      obtain ⟨_, h⟩ := if_some h
      obtain ⟨_, h⟩ := if_some h
      obtain ⟨_, h⟩ := if_some h
      injection h with h
      subst h
      exact ⟨h1, h2⟩
    rw [if_neg q1] at h
    by_cases q2 : w = wAllow ∨ w = wDeny
    · rw [if_pos q2] at h
      match ws, h with
      | [], h => cases h
      | [_], h => cases h
      | o :: path :: more, h =>
        refine ⟨ruleU_len h, ?_⟩
        unfold ruleU at h
        obtain ⟨_, h⟩ := if_some h
        cases ho : opsU o with
        | none => rw [ho] at h; cases h
        | some l =>
          rw [ho] at h
          dsimp only at h
          obtain ⟨_, h⟩ := if_some h
          obtain ⟨_, h⟩ := if_some h
          cases more with
          | nil => injection h with h; subst h; exact h2
          | cons a ws =>
            dsimp only at h
            obtain ⟨_, h⟩ := if_some h
            obtain ⟨_, h⟩ := if_some h
            cases hq : argsU ws with
            | none => rw [hq] at h; cases h
            | some x => rw [hq] at h; injection h with h; subst h; exact h2
    rw [if_neg q2] at h
    obtain ⟨_, h⟩ := if_some h
    have rl : ∀ {e : EU} {A B : PL}, addU A e = some B → B.rules = A.rules := fun {e A B} h => by
      unfold addU at h
      obtain ⟨_, h⟩ := if_some h
      obtain ⟨_, h⟩ := if_some h
      injection h with h
      subst h; rfl
    have pl : ∀ (k : Int) (l : List LB) (A B : PL), patU k l A = some B → B.rules = A.rules := by
      intro k l
      induction l with
      | nil => intro A B h; unfold patU at h; injection h with h; rw [h]
      | cons x r ih =>
        intro A B h
        unfold patU at h
        cases ha : addU A ⟨k, x, []⟩ with
        | none => rw [ha] at h; cases h
        | some C => rw [ha] at h; exact (ih C B h).trans (rl ha)
    match ws, h with
    | [], h => cases h
    | [_], h => cases h
    | k :: v :: more, h =>
      dsimp only at h
      unfold setU at h
      by_cases k1 : k = wKeep
      · rw [if_pos k1] at h; exact ⟨by rw [pl _ _ _ _ h]; exact h1, patU_len h2 h⟩
      rw [if_neg k1] at h
      by_cases k2 : k = wDrop
      · rw [if_pos k2] at h; exact ⟨by rw [pl _ _ _ _ h]; exact h1, patU_len h2 h⟩
      rw [if_neg k2] at h
      obtain ⟨_, h⟩ := if_some h
      obtain ⟨_, h⟩ := if_some h
      obtain ⟨_, h⟩ := if_some h
      exact ⟨by rw [rl h]; exact h1, addU_len h⟩
theorem ruleL_eq (P : PL) (f : Bool) (w : LB) (ws : List LB) (h1 : w ≠ wRoot) (h2 : w = wAllow ∨ w = wDeny) : lineU P f (w :: ws) = ruleL P (w == wAllow) ws := by
  rw [lineU_cons, if_neg h1, if_pos h2]
  match ws with
  | [] => rfl
  | [_] => rfl
  | _ :: _ :: _ => rfl
theorem setL_eq (P : PL) (f : Bool) (w : LB) (ws : List LB) (h1 : w ≠ wRoot) (h2 : ¬ (w = wAllow ∨ w = wDeny)) (h3 : w = wEnv) : lineU P f (w :: ws) = setL P ws := by
  rw [lineU_cons, if_neg h1, if_neg h2, if_pos h3]
  match ws with
  | [] => rfl
  | [_] => rfl
  | _ :: _ :: _ => rfl
set_option maxRecDepth 100000 in
set_option maxHeartbeats 16000000 in
theorem line_any (p B : Nat) (s : RS) (P : PL) (num : Int) (fi : Bool) (w0 : LB) (ws : List LB) (A : Option Addr) (n c : Nat) (w : World) (h : RdI p B s P num fi w) (hT : TyS w A n c (w0 :: ws)) (hn : n ≤ 1000000) (hw : ∀ x ∈ ws, x.length ≤ 90000) (hE1 : P.rules.length ≤ 64) (hE2 : P.env.length ≤ 64) (hS : StdR w) :
    Calls Tryz.prog 44 #[.pointer (some ⟨p, 0, none⟩), .slice A n c] w (LnEnd p B num false (lineU P fi (w0 :: ws)) w) := by
  have hl := hT.len
  have HI := hide h
  obtain ⟨R, hR⟩ : ∃ R, lineU P fi (w0 :: ws) = R := ⟨_, rfl⟩
  rw [hR]
  have HR := hide hR.symm
  clear hR
  obtain ⟨g1, o1, rfl, hcl⟩ := hT.cell (i := 0) (x := w0) rfl
  have hc0 := hcl 0 w0 rfl
  rw [Nat.add_zero] at hc0
  have hi0 : (0 : Int) < (n : Int) := by simp at hl; omega
  have hn0 : 0 < n := by omega
  obtain ⟨d0, d1, d2, d3, d4⟩ := h.blk.five_
  clear d0 d1 d2
  have XNo := hide (need_no p num w d3)
  have XOk := hide (need_ok p w)
  have f0 := h.blk.frozen 0
  have f4 := h.blk.frozen 4
  clear d3 h
  by_cases q1 : w0 = wRoot
  · subst q1
    have HR1 : Hid (R = if fi = true then (if ws.length = 1 then (if rootedU (ws.headD []) = true then some { P with root := ws.headD [] } else none) else none) else none) := hide (by rw [HR.out, lineU_cons, if_pos rfl])
    have HLN : Hid (n = ws.length + 1) := hide (by simpa using hl.symm)
    unfold wRoot at *
    clear HR hl
    cases fi with
    | false =>
      have HRN : Hid (R = none) := hide HR1.out
      clear HR1
      go_enter Tryz.func44, Tryz.ntmps44
      go_wp2_with fail
      refine XNo.out.mono ?_
      rintro e w1 ⟨rfl, rfl⟩
      exact ⟨rfl, LnEnd.no HRN.out (Fr.refl _ _) rfl⟩
    | true =>
      by_cases hl1 : ws.length = 1
      · obtain ⟨x, rfl⟩ := List.length_eq_one_iff.1 hl1
        have HR2 : Hid (R = if rootedU x = true then some { P with root := x } else none) := hide HR1.out
        have hn2 : n = 2 := by have := HLN.out; simpa using this
        subst hn2
        have hc1 := hcl 1 x rfl
        have hxl := hw x (by simp)
        have XP := hide (perr_any x w hS.std hxl)
        have HPR := hide (perr_rooted x)
        clear HR1 hcl hw hT hS
        generalize perrU x = z at *
        cases hro : rootedU x with
        | false =>
          rw [hro] at HPR
          have hz := HPR.out
          have HRN : Hid (R = none) := hide (by rw [HR2.out, hro]; rfl)
          clear HR2 hro
          go_enter Tryz.func44, Tryz.ntmps44
          go_wp2_with fail
          refine XP.out.mono ?_
          rintro e w1 ⟨rfl, hb⟩
          have HI1 := hide (HI.out.below hb)
          have XN1 := hide (need_no p num w1 (HI1.out.blk.cell 3))
          have HF := hide (Fr.of (p := p) hb)
          clear hb
          go_wp2_with fail
          refine XN1.out.mono ?_
          rintro e w2 ⟨rfl, rfl⟩
          exact ⟨rfl, LnEnd.no HRN.out HF.out rfl⟩
        | true =>
          rw [hro] at HPR
          have hz := HPR.out
          have HRN : Hid (R = some { P with root := x }) := hide (by rw [HR2.out, hro]; rfl)
          clear HR2 hro
          have hglt := World.block_lt_of_cell? w ⟨g1, o1, none⟩ hc0
          go_enter Tryz.func44, Tryz.ntmps44
          go_wp2_with fail
          refine XP.out.mono ?_
          rintro e w1 ⟨rfl, hb⟩
          have HI1 := hide (HI.out.below hb)
          have XN1 := hide (need_ok p w1)
          have HF := hide (Fr.of (p := p) hb)
          have hc1' : w1.cell? ⟨g1, o1 + 1, none⟩ = some (.string ⟨x.toArray⟩) := (hb.cell (p := ⟨g1, o1 + 1, none⟩) hglt).trans hc1
          have e0 := HI1.out.blk.cell 0
          have ef0 := HI1.out.blk.frozen 0
          have e4 := HI1.out.blk.cell 4
          have ef4 := HI1.out.blk.frozen 4
          simp only [List.getElem?_toArray, List.getElem?_cons_succ, List.getElem?_cons_zero] at e0 e4
          clear hb hc1 hc0 d4 f0 f4
          have HI2 := hide (HI1.out.upd (P' := { P with root := x }) (num' := num) (fi' := true) 0 (.string ⟨x.toArray⟩) (HI1.out.blk.set_ 0 _) rfl rfl)
          have HF2 := hide (HF.out.trans (fr_set HI1.out.blk 0 (.string ⟨x.toArray⟩)))
          have HI3 := hide (HI2.out.upd (P' := { P with root := x }) (num' := num) (fi' := false) 4 (.bool false) (HI2.out.blk.set_ 4 _) rfl rfl)
          have HF3 := hide (HF2.out.trans (fr_set HI2.out.blk 4 (.bool false)))
          clear HI2 HF2 HI1 HF
          go_wp2_with fail
          refine XN1.out.mono ?_
          rintro e w2 ⟨rfl, rfl⟩
          go_wp2_with fail
          go_end0
          exact LnEnd.ok HRN.out HF3.out rfl HI3.out
      · have hq : ((n : Int) == 2) = false := beq_eq_false_iff_ne.2 (by have := HLN.out; omega)
        have HRN : Hid (R = none) := hide (by rw [HR1.out, if_pos rfl, if_neg hl1])
        clear HR1 hl1
        go_enter Tryz.func44, Tryz.ntmps44
        go_wp2_with fail
        refine XNo.out.mono ?_
        rintro e w1 ⟨rfl, rfl⟩
        exact ⟨rfl, LnEnd.no HRN.out (Fr.refl _ _) rfl⟩
  have t1 : (w0 == [114, 111, 111, 116]) = false := beq_eq_false_iff_ne.2 q1
  by_cases q2 : w0 = wAllow ∨ w0 = wDeny
  · have XR : Hid (Calls Tryz.prog 74 #[.pointer (some ⟨p, 0, none⟩), .slice (some ⟨g1, o1, none⟩) n c] w (LnEnd p B num fi R w)) := hide (by
      rw [HR.out, ruleL_eq P fi w0 ws q1 q2]
      exact rule_any p B s P num fi w0 ws _ n c w HI.out hT hn hw hE1 hS)
    clear HR hT hw hcl hl XNo XOk
    rcases q2 with q2 | q2
    · have t2 : (w0 == [97, 108, 108, 111, 119]) = true := beq_iff_eq.2 q2
      clear q2 q1
      go_enter Tryz.func44, Tryz.ntmps44
      go_wp2_with fail
      refine XR.out.mono ?_
      rintro e w1 ⟨hf, he⟩
      cases R with
      | none =>
        change e = .panicked (badV num) at he
        subst he
        exact ⟨rfl, LnEnd.no rfl hf rfl⟩
      | some Q =>
        obtain ⟨rfl, s2, hI2⟩ := he
        have HI2 := hide hI2
        have e4 := hI2.blk.cell 4
        have ef4 := hI2.blk.frozen 4
        simp only [List.getElem?_toArray, List.getElem?_cons_succ, List.getElem?_cons_zero] at e4
        have HI3 := hide (hI2.upd (P' := Q) (num' := num) (fi' := false) 4 (.bool false) (hI2.blk.set_ 4 _) rfl rfl)
        have HF3 := hide (hf.trans (fr_set hI2.blk 4 (.bool false)))
        clear hI2 hf
        go_wp2_with fail
        go_end0
        exact LnEnd.ok rfl HF3.out rfl HI3.out
    · have t3 : (w0 == [97, 108, 108, 111, 119]) = false := by rw [q2]; rfl
      have t2 : (w0 == [100, 101, 110, 121]) = true := beq_iff_eq.2 q2
      clear q2 q1
      go_enter Tryz.func44, Tryz.ntmps44
      go_wp2_with fail
      refine XR.out.mono ?_
      rintro e w1 ⟨hf, he⟩
      cases R with
      | none =>
        change e = .panicked (badV num) at he
        subst he
        exact ⟨rfl, LnEnd.no rfl hf rfl⟩
      | some Q =>
        obtain ⟨rfl, s2, hI2⟩ := he
        have HI2 := hide hI2
        have e4 := hI2.blk.cell 4
        have ef4 := hI2.blk.frozen 4
        simp only [List.getElem?_toArray, List.getElem?_cons_succ, List.getElem?_cons_zero] at e4
        have HI3 := hide (hI2.upd (P' := Q) (num' := num) (fi' := false) 4 (.bool false) (hI2.blk.set_ 4 _) rfl rfl)
        have HF3 := hide (hf.trans (fr_set hI2.blk 4 (.bool false)))
        clear hI2 hf
        go_wp2_with fail
        go_end0
        exact LnEnd.ok rfl HF3.out rfl HI3.out
  have t2 : (w0 == [97, 108, 108, 111, 119]) = false := beq_eq_false_iff_ne.2 (fun h => q2 (.inl h))
  have t3 : (w0 == [100, 101, 110, 121]) = false := beq_eq_false_iff_ne.2 (fun h => q2 (.inr h))
  by_cases q3 : w0 = wEnv
  · have XR : Hid (Calls Tryz.prog 75 #[.pointer (some ⟨p, 0, none⟩), .slice (some ⟨g1, o1, none⟩) n c] w (LnEnd p B num fi R w)) := hide (by
      rw [HR.out, setL_eq P fi w0 ws q1 q2 q3]
      exact setting_any p B s P num fi w0 ws _ n c w HI.out hT (by omega) hw hE2)
    have t4 : (w0 == [101, 110, 118]) = true := beq_iff_eq.2 q3
    clear HR hT hw hcl hl XNo XOk q1 q2 q3
    go_enter Tryz.func44, Tryz.ntmps44
    go_wp2_with fail
    refine XR.out.mono ?_
    rintro e w1 ⟨hf, he⟩
    cases R with
    | none =>
      change e = .panicked (badV num) at he
      subst he
      exact ⟨rfl, LnEnd.no rfl hf rfl⟩
    | some Q =>
      obtain ⟨rfl, s2, hI2⟩ := he
      have HI2 := hide hI2
      have e4 := hI2.blk.cell 4
      have ef4 := hI2.blk.frozen 4
      simp only [List.getElem?_toArray, List.getElem?_cons_succ, List.getElem?_cons_zero] at e4
      have HI3 := hide (hI2.upd (P' := Q) (num' := num) (fi' := false) 4 (.bool false) (hI2.blk.set_ 4 _) rfl rfl)
      have HF3 := hide (hf.trans (fr_set hI2.blk 4 (.bool false)))
      clear hI2 hf
      go_wp2_with fail
      go_end0
      exact LnEnd.ok rfl HF3.out rfl HI3.out
  · have t4 : (w0 == [101, 110, 118]) = false := beq_eq_false_iff_ne.2 q3
    have HRN : Hid (R = none) := hide (by rw [HR.out, lineU_cons, if_neg q1, if_neg q2, if_neg q3])
    clear HR hT hw hcl hl q1 q2 q3
    go_enter Tryz.func44, Tryz.ntmps44
    go_wp2_with fail
    refine XNo.out.mono ?_
    rintro e w1 ⟨rfl, rfl⟩
    exact ⟨rfl, LnEnd.no HRN.out (Fr.refl _ _) rfl⟩
end Go.Proofs.YthbackkcamgidaaGreatDoor
