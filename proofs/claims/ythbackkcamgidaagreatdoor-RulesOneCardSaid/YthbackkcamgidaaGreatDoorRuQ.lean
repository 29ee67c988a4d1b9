/- rule. -/
import Derived.Test.YthbackkcamgidaaGreatDoorRuP
namespace Go.Proofs.YthbackkcamgidaaGreatDoor
open Go Go.RowKit
set_option linter.unusedVariables false
theorem ruleU_len {P Q : PL} {al : Bool} {o path : LB} {more : List LB} (h : ruleU P al o path more = some Q) : Q.rules.length ≤ 64 := by
  unfold ruleU at h
  obtain ⟨hl, h⟩ := if_some h
  cases ho : opsU o with
  | none => rw [ho] at h; cases h
  | some l =>
    rw [ho] at h
    dsimp only at h
    obtain ⟨_, h⟩ := if_some h
    obtain ⟨_, h⟩ := if_some h
    cases more with
    | nil => injection h with h; subst h; simp; omega
    | cons a ws =>
      dsimp only at h
      obtain ⟨_, h⟩ := if_some h
      obtain ⟨_, h⟩ := if_some h
      cases hq : argsU ws with
      | none => rw [hq] at h; cases h
      | some x => rw [hq] at h; injection h with h; subst h; simp; omega
/-- A line that allows or denies, its first word left out. -/
def ruleL (P : PL) (al : Bool) : List LB → Option PL
  | o :: path :: more => ruleU P al o path more
  | _ => none
theorem one_rule (W : World) (x : RV) : Reads (W.alloc (.cells #[.bool x.r.al, .slice x.O x.on x.oc, .string ⟨x.r.path.toArray⟩, .bool x.r.wi, .slice x.A x.an x.ac, .bool x.r.mo] 40)) (W.heap.size + 1) 6 (some ⟨W.heap.size, 0, none⟩) 1 x.cs := by
  refine ⟨rfl, fun _ => ⟨_, rfl, by simp, ?_⟩⟩
  intro j u hu
  rw [at_add, Nat.zero_add, (Blk.new W 40 _).cell j]
  simpa [RV.cs] using hu
/-- What follows a rule's path. -/
def ruleM (P : PL) (al : Bool) (l : List Int) (path : LB) : List LB → Option PL
  | [] => some { P with rules := P.rules ++ [⟨al, l, path, false, [], false⟩] }
  | a :: ws => if a = wArgs then (if l = [7] then match argsU ws with
      | none => none
      | some q => some { P with rules := P.rules ++ [⟨al, l, path, true, q.1, q.2⟩] } else none) else none
def ruleT (P : PL) (al : Bool) (l : List Int) (path : LB) (more : List LB) : Option PL := if rooted path = true then (if path.length ≤ 256 then ruleM P al l path more else none) else none
theorem ruleU_no {P : PL} {al : Bool} {o path : LB} {more : List LB} (h : P.rules.length < 64) (ho : opsU o = none) : ruleU P al o path more = none := by
  unfold ruleU; rw [if_pos h, ho]
theorem ruleU_ok {P : PL} {al : Bool} {o path : LB} {more : List LB} {l : List Int} (h : P.rules.length < 64) (ho : opsU o = some l) : ruleU P al o path more = ruleT P al l path more := by
  unfold ruleU
  rw [if_pos h, ho]
  cases more <;> rfl
set_option maxRecDepth 100000 in
set_option maxHeartbeats 16000000 in
theorem rule_any (p B : Nat) (s : RS) (P : PL) (num : Int) (fi : Bool) (w0 : LB) (ws : List LB) (A : Option Addr) (n c : Nat) (w : World) (h : RdI p B s P num fi w) (hT : TyS w A n c (w0 :: ws)) (hn : n ≤ 1000000) (hw : ∀ x ∈ ws, x.length ≤ 90000) (hE : P.rules.length ≤ 64) (hS : StdR w) :
    Calls Tryz.prog 74 #[.pointer (some ⟨p, 0, none⟩), .slice A n c] w (LnEnd p B num fi (ruleL P (w0 == wAllow) ws) w) := by
  have hl := hT.len
  have HI := hide h
  have hrn := h.rn_
  have hp0 : p < w.heap.size := h.blk.lt
  have hlo := h.lo
  have hhi := h.hi
  obtain ⟨R, hR⟩ : ∃ R, ruleL P (w0 == wAllow) ws = R := ⟨_, rfl⟩
  rw [hR]
  have HR := hide hR
  clear hR
  have c3 := h.blk.cell 3
  obtain ⟨d0, d1, d2, d3, d4⟩ := h.blk.five_
  clear h d0 d2 d3 d4
  have XNo := hide (need_no p num w c3)
  have XOk := hide (need_ok p w)
  clear c3
  match ws, hT, hl, hw, HR with
  | [], hT, hl, hw, HR =>
    have hdec : decide ((3 : Int) ≤ (n : Int)) = false := decide_eq_false (by simp at hl; omega)
    have h3 : ¬ (3 : Int) ≤ (n : Int) := by simp at hl; omega
    have HRN : Hid (R = none) := hide HR.out.symm
    clear HR hl hT
    go_enter Tryz.func74, Tryz.ntmps74
    go_wp2_with fail
    refine XNo.out.mono ?_
    rintro e w1 ⟨rfl, rfl⟩
    exact ⟨rfl, LnEnd.no HRN.out (Fr.refl _ _) rfl⟩
  | [k], hT, hl, hw, HR =>
    have hdec : decide ((3 : Int) ≤ (n : Int)) = false := decide_eq_false (by simp at hl; omega)
    have h3 : ¬ (3 : Int) ≤ (n : Int) := by simp at hl; omega
    have HRN : Hid (R = none) := hide HR.out.symm
    clear HR hl hT
    go_enter Tryz.func74, Tryz.ntmps74
    go_wp2_with fail
    refine XNo.out.mono ?_
    rintro e w1 ⟨rfl, rfl⟩
    exact ⟨rfl, LnEnd.no HRN.out (Fr.refl _ _) rfl⟩
  | o :: path :: more, hT, hl, hw, HR =>
    have h3 : (3 : Int) ≤ (n : Int) := by simp at hl; omega
    have hn3 : 3 ≤ n := by omega
    have HT := hide hT
    obtain ⟨g1, o1, rfl, hcl⟩ := hT.cell (i := 0) (x := w0) rfl
    have hc0 := hcl 0 w0 rfl
    have hc1 := hcl 1 o rfl
    have hc2 := hcl 2 path rfl
    rw [Nat.add_zero] at hc0
    have hol := hw o (by simp)
    have hpl := hw path (by simp)
    have HML : Hid (more.length + 3 = n) := hide (by simpa using hl)
    have HMW : Hid (∀ x ∈ more, x.length ≤ 90000) := hide (fun x hx => hw x (by simp [hx]))
    have hi0 : (0 : Int) < (n : Int) := by omega
    have hn0 : 0 < n := by omega
    have hn1 : 1 < n := by omega
    have hn2 : 2 < n := by omega
    have hi1 : (1 : Int) < (n : Int) := by omega
    have hi2 : (2 : Int) < (n : Int) := by omega
    have HRU : Hid (R = ruleU P (w0 == wAllow) o path more) := hide HR.out.symm
    clear HR hl hT hcl hw
    by_cases h64 : s.rn < 64
    · have h64' : (s.rn : Int) < 64 := by omega
      have HLT : Hid (P.rules.length < 64) := hide (by omega)
      have XO := hide (ops_any o (by omega) w hS)
      have HS := hide hS
      clear hS
      go_enter Tryz.func74, Tryz.ntmps74
      go_wp2_with fail
      refine XOk.out.mono ?_
      rintro e w1 ⟨rfl, rfl⟩
      go_wp2_with fail
      refine XO.out.mono ?_
      rintro e w1 ⟨hb, he⟩
      have HI1 := hide (HI.out.below hb)
      have HT1 := hide (HT.out.below hb)
      have HF1 := hide (Fr.of (p := p) hb)
      have HB1 := hide hb
      have HS1 := hide (HS.out.below hb)
      have XNo1 := hide (need_no p num w1 (HI1.out.blk.cell 3))
      have XOk1 := hide (need_ok p w1)
      have HWL := hide hb.size
      clear hb hc0 hc1 hc2 XO d1
      cases ho : opsU o with
      | none =>
        rw [ho] at he
        have HRN : Hid (R = none) := hide (HRU.out.trans (ruleU_no HLT.out ho))
        subst he
        clear HRU ho
        go_wp2_with fail
        refine XNo1.out.mono ?_
        rintro e w2 ⟨rfl, rfl⟩
        exact ⟨rfl, LnEnd.no HRN.out HF1.out rfl⟩
      | some l =>
        rw [ho] at he
        obtain ⟨OA, on, oc, rfl, hown⟩ := he
        have HR2 := hide (HRU.out.trans (ruleU_ok HLT.out ho))
        have hlo : l.length ≤ 9 := (opsU_right ho).2.length_le
        have HO1 := hide hown
        clear hown HRU ho
        go_wp2_with fail
        refine XOk1.out.mono ?_
        rintro e w2 ⟨rfl, rfl⟩
        have hcl := (HT1.out.cell (i := 0) (x := w0) rfl)
        obtain ⟨g1', o1', e1, hcl⟩ := hcl
        injection e1 with e1
        injection e1 with e1 e2
        subst e1; subst e2
        have hc0 := hcl 0 w0 rfl
        have hc2 := hcl 2 path rfl
        rw [Nat.add_zero] at hc0
        obtain ⟨al, hal⟩ : ∃ al, (w0 == [97, 108, 108, 111, 119]) = al := ⟨_, rfl⟩
        have hal2 : (w0 == wAllow) = al := hal
        rw [hal2] at HR2
        clear hcl hal2
        go_wp2_with fail
        refine wp_region_K (fun V => V.cell? ⟨g1, o1, none⟩ = some (.string ⟨w0.toArray⟩) ∧ V.cell? ⟨g1, o1 + 2, none⟩ = some (.string ⟨path.toArray⟩)) [10] rfl ⟨hc0, hc2⟩ (fun hHeld => ?_)
        refine wpAnyK_takeF (i := 0) (v := ?_) rfl rfl (by kernel_rfl) (fun _ _ _ h => h) (Or.inl ⟨by rfl, ?_⟩) ?_
        rotate_left
        · (intro V hV; (try dsimp only at hV); go_simp; with_reducible rfl)
        try simp only [Act.put, List.setIfInBounds_toArray, List.set_cons_zero, List.set_cons_succ]
        refine wpAnyK_take (i := 1) (v := ?_) rfl rfl (by kernel_rfl) (fun _ _ _ h => h) (Or.inl ⟨by rfl, ?_⟩) (by assumption) ?_
        rotate_left
        · (intro V hV; (try dsimp only at hV); go_simp; with_reducible rfl)
        try simp only [Act.put, List.setIfInBounds_toArray, List.set_cons_zero, List.set_cons_succ]
        refine wpAnyK_take (i := 2) (v := ?_) rfl rfl (by kernel_rfl) (fun _ _ _ h => h) (Or.inl ⟨by rfl, ?_⟩) (by assumption) ?_
        rotate_left
        · (intro V hV; (try dsimp only at hV); go_simp; with_reducible rfl)
        try simp only [Act.put, List.setIfInBounds_toArray, List.set_cons_zero, List.set_cons_succ]
        refine wpAnyK_take (i := 3) (v := ?_) rfl rfl (by kernel_rfl) (fun _ _ _ h => h) (Or.inl ⟨by rfl, ?_⟩) (by assumption) ?_
        rotate_left
        · (intro V hV; (try dsimp only at hV); go_simp; with_reducible rfl)
        try simp only [Act.put, List.setIfInBounds_toArray, List.set_cons_zero, List.set_cons_succ]
        refine wpAnyK_takeF (i := 4) (v := ?_) rfl rfl (by kernel_rfl) (fun _ _ _ h => h) (Or.inl ⟨by rfl, ?_⟩) ?_
        rotate_left
        · (intro V hV; (try dsimp only at hV); go_simp; with_reducible rfl)
        try simp only [Act.put, List.setIfInBounds_toArray, List.set_cons_zero, List.set_cons_succ]
        refine wpAnyK_takeF (i := 5) (v := ?_) rfl rfl (by kernel_rfl) (fun _ _ _ h => h) (Or.inl ⟨by rfl, ?_⟩) ?_
        rotate_left
        · (intro V hV; (try dsimp only at hV); go_simp; with_reducible rfl)
        try simp only [Act.put, List.setIfInBounds_toArray, List.set_cons_zero, List.set_cons_succ]
        refine wpAnyK_take (i := 6) (v := ?_) rfl rfl (by kernel_rfl) (fun _ _ _ h => h) (Or.inl ⟨by rfl, ?_⟩) (by assumption) ?_
        rotate_left
        · (intro V hV; (try dsimp only at hV); go_simp; with_reducible rfl)
        try simp only [Act.put, List.setIfInBounds_toArray, List.set_cons_zero, List.set_cons_succ]
        refine wpAnyK_take (i := 7) (v := ?_) rfl rfl (by kernel_rfl) (fun _ _ _ h => h) (Or.inl ⟨by rfl, ?_⟩) (by assumption) ?_
        rotate_left
        · (intro V hV; (try dsimp only at hV); go_simp; with_reducible rfl)
        try simp only [Act.put, List.setIfInBounds_toArray, List.set_cons_zero, List.set_cons_succ]
        refine wpAnyK_take (i := 8) (v := ?_) rfl rfl (by kernel_rfl) (fun _ _ _ h => h) (Or.inl ⟨by rfl, ?_⟩) (by assumption) ?_
        rotate_left
        · (intro V hV; (try dsimp only at hV); go_simp; with_reducible rfl)
        try simp only [Act.put, List.setIfInBounds_toArray, List.set_cons_zero, List.set_cons_succ]
        refine wpAnyK_step (i := 9) (by kernel_rfl) rfl rfl (fun K hK => ?_)
        go_simp
        have hgl1 := World.block_lt_of_cell? w1 ⟨g1, o1, none⟩ hc0
        refine hK.out _ _ (fun _ _ => ⟨(World.cell?_alloc_lt w1 _ ⟨g1, o1, none⟩ hgl1).trans hc0, (World.cell?_alloc_lt w1 _ ⟨g1, o1 + 2, none⟩ hgl1).trans hc2⟩) ?_
        clear hK K hHeld hgl1
        simp only [List.setIfInBounds_toArray]
        refine wpAnyK_step (i := 10) (by kernel_rfl) rfl rfl (fun K hK => ?_)
        go_simp
        have hbb : Below w1.heap.size w1 (w1.alloc (.cells #[.bool al, .slice OA on oc, .string ⟨path.toArray⟩, .bool false, .slice none 0 0, .bool false] 40)).drew := below_drewN ((Below.refl _ _).alloc (Nat.le_refl _) _) 1
        have HK3 : Hid (Blk (w1.alloc (.cells #[.bool al, .slice OA on oc, .string ⟨path.toArray⟩, .bool false, .slice none 0 0, .bool false] 40)).drew w1.heap.size 40 #[.bool al, .slice OA on oc, .string ⟨path.toArray⟩, .bool false, .slice none 0 0, .bool false]) := hide (Blk.new w1 _ _)
        have HI3 := hide (HI1.out.below hbb)
        have HT3 := hide (HT1.out.below hbb)
        have HF3 := hide (HF1.out.trans (Fr.of (p := p) hbb))
        have HB3 := hide (below_more HB1.out (Nat.le_refl _) hbb)
        have HO3 := hide (own_below HO1.out hbb)
        have hp1 := HI1.out.blk.lt
        refine hK.out _ _ (fun _ h => absurd (by simp) h) ?_
        clear hK K HI1 HT1 HF1 HO1 HS1 hbb hc0 hc2 XNo1 XOk1
        simp only [List.setIfInBounds_toArray]
        have hwl := HWL.out
        generalize (w1.alloc (.cells #[.bool al, .slice OA on oc, .string ⟨path.toArray⟩, .bool false, .slice none 0 0, .bool false] 40)).drew = W3 at *
        generalize w1.heap.size = g at *
        have XNo3 := hide (need_no p num W3 (HI3.out.blk.cell 3))
        have XOk3 := hide (need_ok p W3)
        have XP3 := hide (slash_l path W3)
        have hgl3 := HK3.out.lt
        have k2 := HK3.out.cell 2
        simp only [List.getElem?_toArray, List.getElem?_cons_succ, List.getElem?_cons_zero] at k2
        refine wpAnyK_done (by kernel_rfl) ?_ _
        (try simp only [Exit.then])
        cases hro : rooted path with
        | false =>
          have HRN : Hid (R = none) := hide (by rw [HR2.out]; unfold ruleT; rw [if_neg (by rw [hro]; decide)])
          rw [hro] at XP3
          clear HR2 hro
          go_wp2_with fail
          refine XP3.out.mono ?_
          rintro e w2 ⟨rfl, rfl⟩
          go_wp2_with fail
          refine XNo3.out.mono ?_
          rintro e w2 ⟨rfl, rfl⟩
          exact ⟨rfl, LnEnd.no HRN.out HF3.out rfl⟩
        | true =>
          rw [hro] at XP3
          by_cases h256 : path.length ≤ 256
          · have HR3 : Hid (R = ruleM P al l path more) := hide (by rw [HR2.out]; unfold ruleT; rw [if_pos hro, if_pos h256])
            have h256' : (path.length : Int) ≤ 256 := by omega
            clear HR2 hro
            go_wp2_with fail
            refine XP3.out.mono ?_
            rintro e w2 ⟨rfl, rfl⟩
            go_wp2_with fail
            refine XOk3.out.mono ?_
            rintro e w2 ⟨rfl, rfl⟩
            match more, HML, HMW, HR3, HT3 with
            | [], HML, HMW, HR3, HT3 =>
              have hnn : n = 3 := by have := HML.out; simp at this; omega
              have h33 : ¬ (3 : Int) < (n : Int) := by omega
              have hn33 : ¬ 3 < n := by omega
              have HRN : Hid (R = some { P with rules := P.rules ++ [⟨al, l, path, false, [], false⟩] }) := hide HR3.out
              have HVf : Hid (RVok B W3 (⟨⟨al, l, path, false, [], false⟩, OA, on, oc, none, 0, 0⟩ : RV)) := hide ⟨own_more HO3.out (by omega), World.ownsRow_nil _ _ _ _⟩
              have HIf := HI3
              have HKf := HK3
              have HFf := HF3
              clear HI3 HK3 HF3 HO3 HR3 HML hnn k2 XNo3 XOk3 XP3 HB3
              obtain ⟨Wf, hWf⟩ : ∃ Wf, W3 = Wf := ⟨_, rfl⟩
              subst hWf
              obtain ⟨c0, c1, c2, c3, c4⟩ := HIf.out.blk.five_
              have q0 := HKf.out.cell 0
              have q1 := HKf.out.cell 1
              have q2 := HKf.out.cell 2
              have q3 := HKf.out.cell 3
              have q4 := HKf.out.cell 4
              have q5 := HKf.out.cell 5
              simp only [List.getElem?_toArray, List.getElem?_cons_succ, List.getElem?_cons_zero] at q0 q1 q2 q3 q4 q5
              have hplf := HIf.out.blk.lt
              have hBf := HIf.out.hi
              obtain ⟨i0, hi, hz0, hz1, hz2⟩ := info_parts infoRu
              clear c0 c2 c3 c4
              go_wp2_with fail
              refine wp_region_K (fun V => V.cell? ⟨p, 1, none⟩ = some (.slice s.RA s.rn s.rc) ∧ V.cell? ⟨g, 0, none⟩ = some (.bool al) ∧ V.cell? ⟨g, 1, none⟩ = some (.slice OA on oc) ∧ V.cell? ⟨g, 2, none⟩ = some (.string ⟨path.toArray⟩) ∧ V.cell? ⟨g, 3, none⟩ = some (.bool false) ∧ V.cell? ⟨g, 4, none⟩ = some (.slice none 0 0) ∧ V.cell? ⟨g, 5, none⟩ = some (.bool false)) [8, 12] rfl ⟨c1, q0, q1, q2, q3, q4, q5⟩ (fun hHeld => ?_)
              refine wpAnyK_takeF (i := 0) (v := ?_) rfl rfl (by kernel_rfl) (fun _ _ _ h => h) (Or.inl ⟨by rfl, ?_⟩) ?_
              rotate_left
              · (intro V hV; (try dsimp only at hV); go_simp; with_reducible rfl)
              try simp only [Act.put, List.setIfInBounds_toArray, List.set_cons_zero, List.set_cons_succ]
              refine wpAnyK_takeF (i := 1) (v := ?_) rfl rfl (by kernel_rfl) (fun _ _ _ h => h) (Or.inl ⟨by rfl, ?_⟩) ?_
              rotate_left
              · (intro V hV; (try dsimp only at hV); go_simp; with_reducible rfl)
              try simp only [Act.put, List.setIfInBounds_toArray, List.set_cons_zero, List.set_cons_succ]
              refine wpAnyK_takeF (i := 2) (v := ?_) rfl rfl (by kernel_rfl) (fun _ _ _ h => h) (Or.inl ⟨by rfl, ?_⟩) ?_
              rotate_left
              · (intro V hV; (try dsimp only at hV); go_simp; with_reducible rfl)
              try simp only [Act.put, List.setIfInBounds_toArray, List.set_cons_zero, List.set_cons_succ]
              refine wpAnyK_takeF (i := 3) (v := ?_) rfl rfl (by kernel_rfl) (fun _ _ _ h => h) (Or.inl ⟨by rfl, ?_⟩) ?_
              rotate_left
              · (intro V hV; (try dsimp only at hV); go_simp; with_reducible rfl)
              try simp only [Act.put, List.setIfInBounds_toArray, List.set_cons_zero, List.set_cons_succ]
              refine wpAnyK_takeF (i := 4) (v := ?_) rfl rfl (by kernel_rfl) (fun _ _ _ h => h) (Or.inl ⟨by rfl, ?_⟩) ?_
              rotate_left
              · (intro V hV; (try dsimp only at hV); go_simp; with_reducible rfl)
              try simp only [Act.put, List.setIfInBounds_toArray, List.set_cons_zero, List.set_cons_succ]
              refine wpAnyK_take (i := 5) (v := ?_) rfl rfl (by kernel_rfl) (fun _ _ _ h => h) (Or.inl ⟨by rfl, ?_⟩) (by assumption) ?_
              rotate_left
              · (intro V hV; (try dsimp only at hV); go_simp; with_reducible rfl)
              try simp only [Act.put, List.setIfInBounds_toArray, List.set_cons_zero, List.set_cons_succ]
              refine wpAnyK_take (i := 6) (v := ?_) rfl rfl (by kernel_rfl) (fun _ _ _ h => h) (Or.inl ⟨by rfl, ?_⟩) (by assumption) ?_
              rotate_left
              · (intro V hV; (try dsimp only at hV); go_simp; with_reducible rfl)
              try simp only [Act.put, List.setIfInBounds_toArray, List.set_cons_zero, List.set_cons_succ]
              refine wpAnyK_step (i := 7) (by kernel_rfl) rfl rfl (fun K hK => ?_)
              go_simp
              have hbb : Below W3.heap.size W3 (W3.alloc (.cells #[.bool al, .slice OA on oc, .string ⟨path.toArray⟩, .bool false, .slice none 0 0, .bool false] 40)).drew := below_drewN ((Below.refl _ _).alloc (Nat.le_refl _) _) 1
              have HI7 := hide (HIf.out.below hbb)
              have HK7 := hide (HKf.out.below hbb HKf.out.lt)
              have HV7 : Hid (RVok B (W3.alloc (.cells #[.bool al, .slice OA on oc, .string ⟨path.toArray⟩, .bool false, .slice none 0 0, .bool false] 40)).drew (⟨⟨al, l, path, false, [], false⟩, OA, on, oc, none, 0, 0⟩ : RV)) := hide (HVf.out.fr (Fr.of (p := p) hbb))
              have HR7 : Hid (Reads (W3.alloc (.cells #[.bool al, .slice OA on oc, .string ⟨path.toArray⟩, .bool false, .slice none 0 0, .bool false] 40)).drew (W3.heap.size + 1) 6 (some ⟨W3.heap.size, 0, none⟩) 1 (RV.cs (⟨⟨al, l, path, false, [], false⟩, OA, on, oc, none, 0, 0⟩ : RV))) := hide (one_rule W3 (⟨⟨al, l, path, false, [], false⟩, OA, on, oc, none, 0, 0⟩ : RV))
              have HF7 := hide (HFf.out.trans (Fr.of (p := p) hbb))
              have hs7 : (W3.alloc (.cells #[.bool al, .slice OA on oc, .string ⟨path.toArray⟩, .bool false, .slice none 0 0, .bool false] 40)).drew.heap.size = W3.heap.size + 1 := World.size_alloc _ _
              clear HIf HKf HVf HFf hbb hHeld c1 q0 q1 q2 q3 q4 q5
              generalize (W3.alloc (.cells #[.bool al, .slice OA on oc, .string ⟨path.toArray⟩, .bool false, .slice none 0 0, .bool false] 40)).drew = Ua at *
              have d1 := (HI7.out.blk.five_).2.1
              have q0 := HK7.out.cell 0
              have q1 := HK7.out.cell 1
              have q2 := HK7.out.cell 2
              have q3 := HK7.out.cell 3
              have q4 := HK7.out.cell 4
              have q5 := HK7.out.cell 5
              refine hK.out _ _ (fun _ _ => ⟨d1, q0, q1, q2, q3, q4, q5⟩) ?_
              clear hK K d1 q0 q1 q2 q3 q4 q5
              simp only [List.setIfInBounds_toArray]
              refine wpAnyK_step (i := 8) (by kernel_rfl) rfl rfl (fun K hK => ?_)
              refine step_append_any _ rfl (.tmp 80) (.tmp 82) 23 rfl B 40 i0 _ 6 88 Tryz.underlying23 hi hz0 hz1 hz2 rfl (by omega) (.slice s.RA s.rn s.rc) s.rn (rus s.L) rfl HI7.out.rules _ (some ⟨W3.heap.size, 0, none⟩) 1 1 (RV.cs (⟨⟨al, l, path, false, [], false⟩, OA, on, oc, none, 0, 0⟩ : RV)) rfl HR7.out (by intro u hu; exact rus_one [(⟨⟨al, l, path, false, [], false⟩, OA, on, oc, none, 0, 0⟩ : RV)] u (by simpa [rus] using hu)) (by unfold maxLen; omega) (by omega) (by rw [hs7]; omega) ?_
              intro v9 Ub hown hgr hat
              obtain ⟨A9, c9, rfl⟩ := own_slice hown
              obtain ⟨hRd, hFr⟩ := HI7.out.push_rule (⟨⟨al, l, path, false, [], false⟩, OA, on, oc, none, 0, 0⟩ : RV) HV7.out hown hgr
              have HRd := hide hRd
              have HFr := hide (HF7.out.trans hFr)
              have hb2 : Blk Ub p 67 _ := (hgr.block p (by rw [hs7]; omega) (fun ee => by have := (World.ownsRow.lt HI7.out.rules p ee.symm).1; omega)).trans HI7.out.blk
              have e2 := (hb2.five_).2.1
              have f2 := hb2.frozen 1
              refine hK.out _ _ (fun _ hh => absurd (by simp) hh) ?_
              clear hK K hRd hFr hown hgr hat hb2 HI7 HK7 HR7 HF7 HV7
              simp only [List.setIfInBounds_toArray, Act.put]
              refine wpAnyK_takeF (i := 9) (v := ?_) rfl rfl (by kernel_rfl) (fun _ _ _ h => h) (Or.inl ⟨by rfl, ?_⟩) ?_
              rotate_left
              · (intro V hV; (try dsimp only at hV); go_simp; with_reducible rfl)
              try simp only [Act.put, List.setIfInBounds_toArray, List.set_cons_zero, List.set_cons_succ]
              refine wpAnyK_takeF (i := 10) (v := ?_) rfl rfl (by kernel_rfl) (fun _ _ _ h => h) (Or.inl ⟨by rfl, ?_⟩) ?_
              rotate_left
              · (intro V hV; (try dsimp only at hV); go_simp; with_reducible rfl)
              try simp only [Act.put, List.setIfInBounds_toArray, List.set_cons_zero, List.set_cons_succ]
              refine wpAnyK_takeF (i := 11) (v := ?_) rfl rfl (by kernel_rfl) (fun _ _ _ h => h) (Or.inl ⟨by rfl, ?_⟩) ?_
              rotate_left
              · (intro V hV; (try dsimp only at hV); go_simp; with_reducible rfl)
              try simp only [Act.put, List.setIfInBounds_toArray, List.set_cons_zero, List.set_cons_succ]
              refine wpAnyK_step (i := 12) (by kernel_rfl) rfl rfl (fun K hK => ?_)
              go_simp
              refine hK.out _ _ (fun _ hh => absurd (by simp) hh) ?_
              clear hK K
              simp only [List.setIfInBounds_toArray]
              refine wpAnyK_done (by kernel_rfl) ?_ _
              go_end0
              exact LnEnd.ok HRN.out HFr.out rfl HRd.out
            | a :: ws2, HML, HMW, HR3, HT3 =>
              have hn4 : 4 ≤ n := by have := HML.out; simp at this; omega
              have h33 : (3 : Int) < (n : Int) := by omega
              have hn33 : 3 < n := by omega
              have hn44 : (4 : Int) ≤ (n : Int) := by omega
              have HR4 : Hid (R = if a = wArgs then (if l = [7] then match argsU ws2 with
                | none => none
                | some q => some { P with rules := P.rules ++ [⟨al, l, path, true, q.1, q.2⟩] } else none) else none) := hide HR3.out
              obtain ⟨g1', o1', e1, hcl⟩ := HT3.out.cell (i := 0) (x := w0) rfl
              injection e1 with e1
              injection e1 with e1 e2
              subst e1; subst e2
              have hc3 := hcl 3 a rfl
              clear hcl HR3 HML
              by_cases ha : a = wArgs
              · have ta : (a == [97, 114, 103, 115]) = true := beq_iff_eq.2 ha
                have HR5 : Hid (R = if l = [7] then match argsU ws2 with
                  | none => none
                  | some q => some { P with rules := P.rules ++ [⟨al, l, path, true, q.1, q.2⟩] } else none) := hide (by rw [HR4.out, if_pos ha])
                have hb4 : Below W3.heap.size W3 (W3.alloc (.cells #[.int .i64 7] 3)) := (Below.refl _ _).alloc (Nat.le_refl _) _
                have hO4 := own_below HO3.out hb4
                have hon : on ≤ 1000000 := by have := hO4.1; rw [ivs_length] at this; omega
                have XE := hide (eqI_any l [7] OA (some ⟨W3.heap.size, 0, none⟩) on oc 1 1 (W3.alloc (.cells #[.int .i64 7] 3)) (Reads.of_own hO4) ((one_int W3 7).more (by simp)) hon (by omega))
                have HI4 := hide (HI3.out.below hb4)
                have HK4 := hide (HK3.out.below hb4 hgl3)
                have HF4 := hide (HF3.out.trans (Fr.of (p := p) hb4))
                have HB4 := hide (below_more HB3.out (Nat.le_refl _) hb4)
                have HT4 := hide (HT3.out.below hb4)
                have HO4 := hide hO4
                clear HR4 ha hb4 hO4 HI3 HK3 HF3 HT3 HO3 k2 XNo3 XOk3 XP3
                go_wp2_with fail
                refine XE.out.mono ?_
                rintro e w2 ⟨rfl, q, rfl⟩
                have hbq : Below (W3.alloc (.cells #[.int .i64 7] 3)).heap.size (W3.alloc (.cells #[.int .i64 7] 3)) ((W3.alloc (.cells #[.int .i64 7] 3)).drewN q) := below_drewN (Below.refl _ _) q
                have HI5 := hide (HI4.out.below hbq)
                have HK5 := hide (HK4.out.below hbq HK4.out.lt)
                have HF5 := hide (HF4.out.trans (Fr.of (p := p) hbq))
                have HB5 := hide (below_more HB4.out (Nat.le_refl _) hbq)
                have HT5 := hide (HT4.out.below hbq)
                have HO5 := hide (own_below HO4.out hbq)
                have hg5 : g < ((W3.alloc (.cells #[.int .i64 7] 3)).drewN q).heap.size := HK5.out.lt
                clear XE HI4 HK4 HF4 HT4 HO4 hbq hc3
                generalize (W3.alloc (.cells #[.int .i64 7] 3)).drewN q = W5 at *
                have XNo5 := hide (need_no p num W5 (HI5.out.blk.cell 3))
                have XOk5 := hide (need_ok p W5)
                cases h7 : (l == [7]) with
                | false =>
                  have HRN : Hid (R = none) := hide (by rw [HR5.out, if_neg (beq_eq_false_iff_ne.1 h7)])
                  clear h7 HR5
                  go_wp2_with fail
                  refine XNo5.out.mono ?_
                  rintro e w2 ⟨rfl, rfl⟩
                  exact ⟨rfl, LnEnd.no HRN.out HF5.out rfl⟩
                | true =>
                  have HR6 : Hid (R = match argsU ws2 with
                    | none => none
                    | some q => some { P with rules := P.rules ++ [⟨al, l, path, true, q.1, q.2⟩] }) := hide (by rw [HR5.out, if_pos (beq_iff_eq.1 h7)])
                  clear h7 HR5
                  go_wp2_with fail
                  refine XOk5.out.mono ?_
                  rintro e w2 ⟨rfl, rfl⟩
                  have f3 := HK5.out.frozen 3
                  have k3 := HK5.out.cell 3
                  simp only [List.getElem?_toArray, List.getElem?_cons_succ, List.getElem?_cons_zero] at k3
                  obtain ⟨A4, hA4⟩ : ∃ A4, (if c = 4 then (some ⟨g1, o1, none⟩ : Option Addr) else (some ⟨g1, o1, none⟩ : Option Addr).map (·.add 4)) = A4 := ⟨_, rfl⟩
                  have hsl := fun W => ssl_from (some ⟨g1, o1, none⟩) n c 4 hn4 W
                  rw [hA4] at hsl
                  have hsl2 : ∀ W, (Instr.slice 38 (.slice (some ⟨g1, o1, none⟩) n c) (some (.int .i64 4)) none none).run Tryz.prog W = .ok (.slice A4 (n - 4) (c - 4)) W := hsl
                  have HB6 := hide (HB5.out.setCell (p := ⟨g, 3, none⟩) (by show w.heap.size ≤ g; omega) (.bool true))
                  have HK6 := hide (HK5.out.set_ 3 (.bool true))
                  have HO6 := hide (own_set_blk HO5.out (p := ⟨g, 3, none⟩) HK5.out (by decide) (.bool true))
                  have hs6 : (W5.setCell ⟨g, 3, none⟩ (.bool true)).heap.size = W5.heap.size := by simp
                  clear hsl HI5 HF5 HB5 HO5 HT5 HK5
                  have HI6 := hide (HI.out.below HB6.out)
                  have ht6 := (HT.out.below HB6.out).drop (k := 4) hn4
                  rw [hA4] at ht6
                  have HT6 : Hid (TyS (W5.setCell ⟨g, 3, none⟩ (.bool true)) A4 (n - 4) (c - 4) ws2) := hide ht6
                  have XA := hide (arguments_any p num ws2 A4 (n - 4) (c - 4) _ (HI6.out.blk.cell 3) HT6.out (by omega))
                  clear ht6 hA4
                  go_wp2_with fail
                  refine XA.out.mono ?_
                  rintro e W7 ⟨hb7, he⟩
                  have HB7 := hide (HB6.out.trans (hb7.mono HB6.out.size))
                  have HK7 := hide (HK6.out.below hb7 HK6.out.lt)
                  have HO7 := hide (own_below HO6.out hb7)
                  clear hb7 XA HB6 HK6 HO6 HI6 HT6 f3 k3
                  cases hq : argsU ws2 with
                  | none =>
                    rw [hq] at he HR6
                    change e = .panicked (badV num) at he
                    subst he
                    have HRN : Hid (R = none) := hide HR6.out
                    exact ⟨rfl, LnEnd.no HRN.out (Fr.of HB7.out) rfl⟩
                  | some q =>
                    obtain ⟨ar, mo⟩ := q
                    rw [hq] at he HR6
                    obtain ⟨AA, an, ac, rfl, hoA⟩ := he
                    have HRN : Hid (R = some { P with rules := P.rules ++ [⟨al, l, path, true, ar, mo⟩] }) := hide HR6.out
                    have HOA := hide hoA
                    clear hoA hq HR6
                    dsimp only at HOA
                    have f4 := HK7.out.frozen 4
                    have f5 := HK7.out.frozen 5
                    have k4 := HK7.out.cell 4
                    have k5 := HK7.out.cell 5
                    simp only [List.setIfInBounds_toArray, List.set_cons_succ, List.set_cons_zero, List.getElem?_toArray, List.getElem?_cons_succ, List.getElem?_cons_zero] at k4 k5
                    have HBf := hide ((HB7.out.setCell (p := ⟨g, 4, none⟩) (by show w.heap.size ≤ g; omega) (.slice AA an ac)).setCell (p := ⟨g, 5, none⟩) (by show w.heap.size ≤ g; omega) (.bool mo))
                    have HKf : Hid (Blk ((W7.setCell ⟨g, 4, none⟩ (.slice AA an ac)).setCell ⟨g, 5, none⟩ (.bool mo)) g 40 #[.bool al, .slice OA on oc, .string ⟨path.toArray⟩, .bool true, .slice AA an ac, .bool mo]) := hide ((HK7.out.set_ 4 (.slice AA an ac)).set_ 5 (.bool mo))
                    have HOf := hide (own_set_blk (own_set_blk HO7.out (p := ⟨g, 4, none⟩) HK7.out (by decide) (.slice AA an ac)) (p := ⟨g, 5, none⟩) (HK7.out.set_ 4 (.slice AA an ac)) (by decide) (.bool mo))
                    have HAf := hide (own_far (own_far HOA.out (p := ⟨g, 4, none⟩) (by show g < _; omega) (.slice AA an ac)) (p := ⟨g, 5, none⟩) (by show g < _; omega) (.bool mo))
                    clear HB7 HO7 HOA
                    go_wp2_with fail
                    clear HK7 f4 f5 k4 k5
                    generalize ((W7.setCell ⟨g, 4, none⟩ (.slice AA an ac)).setCell ⟨g, 5, none⟩ (.bool mo)) = Wf at *
                    have HIf := hide (HI.out.below HBf.out)
                    have HFf := hide (Fr.of (p := p) HBf.out)
                    have HVf : Hid (RVok B Wf (⟨⟨al, l, path, true, ar, mo⟩, OA, on, oc, AA, an, ac⟩ : RV)) := hide ⟨own_more HOf.out (by omega), Ow.more HAf.out (by omega)⟩
                    clear HBf HOf HAf
                    obtain ⟨c0, c1, c2, c3, c4⟩ := HIf.out.blk.five_
                    have q0 := HKf.out.cell 0
                    have q1 := HKf.out.cell 1
                    have q2 := HKf.out.cell 2
                    have q3 := HKf.out.cell 3
                    have q4 := HKf.out.cell 4
                    have q5 := HKf.out.cell 5
                    simp only [List.getElem?_toArray, List.getElem?_cons_succ, List.getElem?_cons_zero] at q0 q1 q2 q3 q4 q5
                    have hplf := HIf.out.blk.lt
                    have hBf := HIf.out.hi
                    obtain ⟨i0, hi, hz0, hz1, hz2⟩ := info_parts infoRu
                    clear c0 c2 c3 c4
                    refine wp_region_K (fun V => V.cell? ⟨p, 1, none⟩ = some (.slice s.RA s.rn s.rc) ∧ V.cell? ⟨g, 0, none⟩ = some (.bool al) ∧ V.cell? ⟨g, 1, none⟩ = some (.slice OA on oc) ∧ V.cell? ⟨g, 2, none⟩ = some (.string ⟨path.toArray⟩) ∧ V.cell? ⟨g, 3, none⟩ = some (.bool true) ∧ V.cell? ⟨g, 4, none⟩ = some (.slice AA an ac) ∧ V.cell? ⟨g, 5, none⟩ = some (.bool mo)) [8, 12] rfl ⟨c1, q0, q1, q2, q3, q4, q5⟩ (fun hHeld => ?_)
                    refine wpAnyK_takeF (i := 0) (v := ?_) rfl rfl (by kernel_rfl) (fun _ _ _ h => h) (Or.inl ⟨by rfl, ?_⟩) ?_
                    rotate_left
                    · (intro V hV; (try dsimp only at hV); go_simp; with_reducible rfl)
                    try simp only [Act.put, List.setIfInBounds_toArray, List.set_cons_zero, List.set_cons_succ]
                    refine wpAnyK_takeF (i := 1) (v := ?_) rfl rfl (by kernel_rfl) (fun _ _ _ h => h) (Or.inl ⟨by rfl, ?_⟩) ?_
                    rotate_left
                    · (intro V hV; (try dsimp only at hV); go_simp; with_reducible rfl)
                    try simp only [Act.put, List.setIfInBounds_toArray, List.set_cons_zero, List.set_cons_succ]
                    refine wpAnyK_takeF (i := 2) (v := ?_) rfl rfl (by kernel_rfl) (fun _ _ _ h => h) (Or.inl ⟨by rfl, ?_⟩) ?_
                    rotate_left
                    · (intro V hV; (try dsimp only at hV); go_simp; with_reducible rfl)
                    try simp only [Act.put, List.setIfInBounds_toArray, List.set_cons_zero, List.set_cons_succ]
                    refine wpAnyK_takeF (i := 3) (v := ?_) rfl rfl (by kernel_rfl) (fun _ _ _ h => h) (Or.inl ⟨by rfl, ?_⟩) ?_
                    rotate_left
                    · (intro V hV; (try dsimp only at hV); go_simp; with_reducible rfl)
                    try simp only [Act.put, List.setIfInBounds_toArray, List.set_cons_zero, List.set_cons_succ]
                    refine wpAnyK_takeF (i := 4) (v := ?_) rfl rfl (by kernel_rfl) (fun _ _ _ h => h) (Or.inl ⟨by rfl, ?_⟩) ?_
                    rotate_left
                    · (intro V hV; (try dsimp only at hV); go_simp; with_reducible rfl)
                    try simp only [Act.put, List.setIfInBounds_toArray, List.set_cons_zero, List.set_cons_succ]
                    refine wpAnyK_take (i := 5) (v := ?_) rfl rfl (by kernel_rfl) (fun _ _ _ h => h) (Or.inl ⟨by rfl, ?_⟩) (by assumption) ?_
                    rotate_left
                    · (intro V hV; (try dsimp only at hV); go_simp; with_reducible rfl)
                    try simp only [Act.put, List.setIfInBounds_toArray, List.set_cons_zero, List.set_cons_succ]
                    refine wpAnyK_take (i := 6) (v := ?_) rfl rfl (by kernel_rfl) (fun _ _ _ h => h) (Or.inl ⟨by rfl, ?_⟩) (by assumption) ?_
                    rotate_left
                    · (intro V hV; (try dsimp only at hV); go_simp; with_reducible rfl)
                    try simp only [Act.put, List.setIfInBounds_toArray, List.set_cons_zero, List.set_cons_succ]
                    refine wpAnyK_step (i := 7) (by kernel_rfl) rfl rfl (fun K hK => ?_)
                    go_simp
                    have hbb : Below Wf.heap.size Wf (Wf.alloc (.cells #[.bool al, .slice OA on oc, .string ⟨path.toArray⟩, .bool true, .slice AA an ac, .bool mo] 40)).drew := below_drewN ((Below.refl _ _).alloc (Nat.le_refl _) _) 1
                    have HI7 := hide (HIf.out.below hbb)
                    have HK7 := hide (HKf.out.below hbb HKf.out.lt)
                    have HV7 : Hid (RVok B (Wf.alloc (.cells #[.bool al, .slice OA on oc, .string ⟨path.toArray⟩, .bool true, .slice AA an ac, .bool mo] 40)).drew (⟨⟨al, l, path, true, ar, mo⟩, OA, on, oc, AA, an, ac⟩ : RV)) := hide (HVf.out.fr (Fr.of (p := p) hbb))
                    have HR7 : Hid (Reads (Wf.alloc (.cells #[.bool al, .slice OA on oc, .string ⟨path.toArray⟩, .bool true, .slice AA an ac, .bool mo] 40)).drew (Wf.heap.size + 1) 6 (some ⟨Wf.heap.size, 0, none⟩) 1 (RV.cs (⟨⟨al, l, path, true, ar, mo⟩, OA, on, oc, AA, an, ac⟩ : RV))) := hide (one_rule Wf (⟨⟨al, l, path, true, ar, mo⟩, OA, on, oc, AA, an, ac⟩ : RV))
                    have HF7 := hide (HFf.out.trans (Fr.of (p := p) hbb))
                    have hs7 : (Wf.alloc (.cells #[.bool al, .slice OA on oc, .string ⟨path.toArray⟩, .bool true, .slice AA an ac, .bool mo] 40)).drew.heap.size = Wf.heap.size + 1 := World.size_alloc _ _
                    clear HIf HKf HVf HFf hbb hHeld c1 q0 q1 q2 q3 q4 q5
                    generalize (Wf.alloc (.cells #[.bool al, .slice OA on oc, .string ⟨path.toArray⟩, .bool true, .slice AA an ac, .bool mo] 40)).drew = Ua at *
                    have d1 := (HI7.out.blk.five_).2.1
                    have q0 := HK7.out.cell 0
                    have q1 := HK7.out.cell 1
                    have q2 := HK7.out.cell 2
                    have q3 := HK7.out.cell 3
                    have q4 := HK7.out.cell 4
                    have q5 := HK7.out.cell 5
                    refine hK.out _ _ (fun _ _ => ⟨d1, q0, q1, q2, q3, q4, q5⟩) ?_
                    clear hK K d1 q0 q1 q2 q3 q4 q5
                    simp only [List.setIfInBounds_toArray]
                    refine wpAnyK_step (i := 8) (by kernel_rfl) rfl rfl (fun K hK => ?_)
                    refine step_append_any _ rfl (.tmp 80) (.tmp 82) 23 rfl B 40 i0 _ 6 88 Tryz.underlying23 hi hz0 hz1 hz2 rfl (by omega) (.slice s.RA s.rn s.rc) s.rn (rus s.L) rfl HI7.out.rules _ (some ⟨Wf.heap.size, 0, none⟩) 1 1 (RV.cs (⟨⟨al, l, path, true, ar, mo⟩, OA, on, oc, AA, an, ac⟩ : RV)) rfl HR7.out (by intro u hu; exact rus_one [(⟨⟨al, l, path, true, ar, mo⟩, OA, on, oc, AA, an, ac⟩ : RV)] u (by simpa [rus] using hu)) (by unfold maxLen; omega) (by omega) (by rw [hs7]; omega) ?_
                    intro v9 Ub hown hgr hat
                    obtain ⟨A9, c9, rfl⟩ := own_slice hown
                    obtain ⟨hRd, hFr⟩ := HI7.out.push_rule (⟨⟨al, l, path, true, ar, mo⟩, OA, on, oc, AA, an, ac⟩ : RV) HV7.out hown hgr
                    have HRd := hide hRd
                    have HFr := hide (HF7.out.trans hFr)
                    have hb2 : Blk Ub p 67 _ := (hgr.block p (by rw [hs7]; omega) (fun ee => by have := (World.ownsRow.lt HI7.out.rules p ee.symm).1; omega)).trans HI7.out.blk
                    have e2 := (hb2.five_).2.1
                    have f2 := hb2.frozen 1
                    refine hK.out _ _ (fun _ hh => absurd (by simp) hh) ?_
                    clear hK K hRd hFr hown hgr hat hb2 HI7 HK7 HR7 HF7 HV7
                    simp only [List.setIfInBounds_toArray, Act.put]
                    refine wpAnyK_takeF (i := 9) (v := ?_) rfl rfl (by kernel_rfl) (fun _ _ _ h => h) (Or.inl ⟨by rfl, ?_⟩) ?_
                    rotate_left
                    · (intro V hV; (try dsimp only at hV); go_simp; with_reducible rfl)
                    try simp only [Act.put, List.setIfInBounds_toArray, List.set_cons_zero, List.set_cons_succ]
                    refine wpAnyK_takeF (i := 10) (v := ?_) rfl rfl (by kernel_rfl) (fun _ _ _ h => h) (Or.inl ⟨by rfl, ?_⟩) ?_
                    rotate_left
                    · (intro V hV; (try dsimp only at hV); go_simp; with_reducible rfl)
                    try simp only [Act.put, List.setIfInBounds_toArray, List.set_cons_zero, List.set_cons_succ]
                    refine wpAnyK_takeF (i := 11) (v := ?_) rfl rfl (by kernel_rfl) (fun _ _ _ h => h) (Or.inl ⟨by rfl, ?_⟩) ?_
                    rotate_left
                    · (intro V hV; (try dsimp only at hV); go_simp; with_reducible rfl)
                    try simp only [Act.put, List.setIfInBounds_toArray, List.set_cons_zero, List.set_cons_succ]
                    refine wpAnyK_step (i := 12) (by kernel_rfl) rfl rfl (fun K hK => ?_)
                    go_simp
                    refine hK.out _ _ (fun _ hh => absurd (by simp) hh) ?_
                    clear hK K
                    simp only [List.setIfInBounds_toArray]
                    refine wpAnyK_done (by kernel_rfl) ?_ _
                    go_end0
                    exact LnEnd.ok HRN.out HFr.out rfl HRd.out
              · have ta : (a == [97, 114, 103, 115]) = false := beq_eq_false_iff_ne.2 ha
                have HRN : Hid (R = none) := hide (by rw [HR4.out, if_neg ha])
                clear HR4 ha
                go_wp2_with fail
                refine XNo3.out.mono ?_
                rintro e w2 ⟨rfl, rfl⟩
                exact ⟨rfl, LnEnd.no HRN.out HF3.out rfl⟩
          · have HRN : Hid (R = none) := hide (by rw [HR2.out]; unfold ruleT; rw [if_pos hro, if_neg h256])
            have h256' : ¬ (path.length : Int) ≤ 256 := by omega
            have hdec : decide ((path.length : Int) ≤ 256) = false := decide_eq_false h256'
            clear HR2 hro
            go_wp2_with fail
            refine XP3.out.mono ?_
            rintro e w2 ⟨rfl, rfl⟩
            go_wp2_with fail
            refine XNo3.out.mono ?_
            rintro e w2 ⟨rfl, rfl⟩
            exact ⟨rfl, LnEnd.no HRN.out HF3.out rfl⟩
    · have h64' : ¬ (s.rn : Int) < 64 := by omega
      have hdec : decide ((s.rn : Int) < 64) = false := decide_eq_false h64'
      have HRN : Hid (R = none) := hide (by rw [HRU.out]; unfold ruleU; rw [if_neg (by omega)])
      clear HRU
      go_enter Tryz.func74, Tryz.ntmps74
      go_wp2_with fail
      refine XNo.out.mono ?_
      rintro e w1 ⟨rfl, rfl⟩
      exact ⟨rfl, LnEnd.no HRN.out (Fr.refl _ _) rfl⟩
end Go.Proofs.YthbackkcamgidaaGreatDoor
