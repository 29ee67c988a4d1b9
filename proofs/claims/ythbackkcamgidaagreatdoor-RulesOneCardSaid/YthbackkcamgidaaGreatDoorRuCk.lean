/- equal, Check, Print. -/
import Derived.Test.YthbackkcamgidaaGreatDoorRuEs
namespace Go.Proofs.YthbackkcamgidaaGreatDoor
open Go Go.RowKit
set_option linter.unusedVariables false
def eqP (P Q : PL) : Bool := P.root == Q.root && (eqEs P.env Q.env && eqRs P.rules Q.rules)
theorem eqP_iff (P Q : PL) : eqP P Q = true ↔ P = Q := by
  obtain ⟨a, b, c⟩ := P
  obtain ⟨a', b', c'⟩ := Q
  simp [eqP, eqEs_iff, eqRs_iff]
  intro _
  constructor
  · rintro ⟨h1, h2⟩; exact ⟨h2, h1⟩
  · rintro ⟨h1, h2⟩; exact ⟨h2, h1⟩
/-- Lengths that are no worry. -/
structure Lo (P : PL) : Prop where
  nr : P.rules.length ≤ 1000
  ne : P.env.length ≤ 1000
  ru : ∀ r ∈ P.rules, r.ops.length ≤ 1000 ∧ r.args.length ≤ 1000
theorem Sm.lo {P : PL} (h : Sm P) : Lo P := ⟨by have := h.nr; omega, by have := h.ne; omega, fun r hr => by have := h.ru r hr; omega⟩
theorem PolR.rwl {s : RS} {P : PL} {w : World} (h : PolR s P w) (hm : Lo P) : RwR s.RA s.rn s.L w :=
  ⟨h.rules, h.ok, fun x hx => by
    have hr : x.r ∈ P.rules := by rw [← h.eq]; exact List.mem_map_of_mem hx
    obtain ⟨h1, h2⟩ := h.ok x hx
    have e1 := h1.1; rw [ivs_length] at e1
    have e2 := h2.1; rw [svs_length] at e2
    have := hm.ru x.r hr
    omega⟩
set_option maxRecDepth 100000 in
set_option maxHeartbeats 8000000 in
theorem equal_any (P Q : PL) (s t : RS) (w : World) (hp : PolR s P w) (hq : PolR t Q w) (hm : Lo P) (hm' : Lo Q) :
    Calls Tryz.prog 34 #[polV s P, polV t Q] w fun e w' => e = .returned (.bool (eqP P Q)) ∧ Below w.heap.size w w' := by
  obtain ⟨pr, pu, pe⟩ := P
  obtain ⟨qr, qu, qe⟩ := Q
  unfold polV
  obtain ⟨z, hz⟩ : ∃ z, w.heap.size = z := ⟨_, rfl⟩
  have hprn := hp.rn_
  have hpen := hp.en_
  have hqrn := hq.rn_
  have hqen := hq.en_
  have hml := hm.nr
  have hml2 := hm.ne
  have hml3 := hm'.nr
  have hml4 := hm'.ne
  dsimp only at hprn hpen hqrn hqen hml hml2 hml3 hml4 ⊢
  have hk1 := (Blk.new w 26 #[.string ⟨pr.toArray⟩, .slice s.RA s.rn s.rc, .slice s.EA s.en s.ec]).alloc (.cells #[.string ⟨qr.toArray⟩, .slice t.RA t.rn t.rc, .slice t.EA t.en t.ec] 26)
  have hk2 := Blk.new (w.alloc (.cells #[.string ⟨pr.toArray⟩, .slice s.RA s.rn s.rc, .slice s.EA s.en s.ec] 26)) 26 #[.string ⟨qr.toArray⟩, .slice t.RA t.rn t.rc, .slice t.EA t.en t.ec]
  have hbe := ((Below.refl z w).alloc (by omega) (.cells #[.string ⟨pr.toArray⟩, .slice s.RA s.rn s.rc, .slice s.EA s.en s.ec] 26)).alloc (by simp; omega) (.cells #[.string ⟨qr.toArray⟩, .slice t.RA t.rn t.rc, .slice t.EA t.en t.ec] 26)
  rw [World.size_alloc] at hk2
  rw [hz] at hk1 hk2
  have hs0 : ((w.alloc (.cells #[.string ⟨pr.toArray⟩, .slice s.RA s.rn s.rc, .slice s.EA s.en s.ec] 26)).alloc (.cells #[.string ⟨qr.toArray⟩, .slice t.RA t.rn t.rc, .slice t.EA t.en t.ec] 26)).heap.size = z + 2 := by simp [hz]
  obtain ⟨b1, e1⟩ : ∃ b, (pr == qr) = b := ⟨_, rfl⟩
  obtain ⟨b2, e2⟩ : ∃ b, eqEs pe qe = b := ⟨_, rfl⟩
  obtain ⟨b3, e3⟩ : ∃ b, eqRs pu qu = b := ⟨_, rfl⟩
  have HR : Hid (eqP ⟨pr, pu, pe⟩ ⟨qr, qu, qe⟩ = (b1 && (b2 && b3))) := hide (by unfold eqP; rw [e1, e2, e3])
  have HP := hide hp
  have HQ := hide hq
  have HM := hide hm
  have HM' := hide hm'
  clear hp hq hm hm'
  go_enter Tryz.func34, Tryz.ntmps34
  refine wp_seq ?_
  go_upto_region 1 with (fail)
  obtain ⟨W0, hW0⟩ : ∃ W, (w.alloc (.cells #[.string ⟨pr.toArray⟩, .slice s.RA s.rn s.rc, .slice s.EA s.en s.ec] 26)).alloc (.cells #[.string ⟨qr.toArray⟩, .slice t.RA t.rn t.rc, .slice t.EA t.en t.ec] 26) = W := ⟨_, rfl⟩
  rw [hW0] at hk1 hk2 hbe hs0 ⊢
  clear hW0
  have hp1 := HP.out.below (by rw [hz]; exact hbe)
  have hq1 := HQ.out.below (by rw [hz]; exact hbe)
  have X1 := hide (eqEn_any pe qe s.EA t.EA s.en s.ec t.en t.ec W0 hp1.env hq1.env (by omega) (by omega))
  have X2 := hide (fun W (hB : Below W0.heap.size W0 W) => eqRules_any s.L t.L s.RA t.RA s.rn s.rc t.rn t.rc W ((hp1.below hB).rwl HM.out) ((hq1.below hB).rwl HM'.out) (by omega) (by omega))
  have hpe := hp1.eq
  have hqe := hq1.eq
  dsimp only at hpe hqe
  rw [e2] at X1
  rw [hpe, hqe, e3] at X2
  have HB := hide hbe
  have HK1 := hide hk1
  have HK2 := hide hk2
  have c0 := hk1.cell 0
  have c1 := hk1.cell 1
  have c2 := hk1.cell 2
  have d0 := hk2.cell 0
  have d1 := hk2.cell 1
  have d2 := hk2.cell 2
  clear hk1 hk2 hbe hp1 hq1 hpe hqe e2 e3
  cases b1 with
  | false =>
    go_wp2_with fail
    go_ret
    exact ⟨by rw [HR.out]; rfl, by rw [hz]; exact HB.out⟩
  | true =>
    go_wp2_with fail
    refine X1.out.mono ?_
    rintro e w1 ⟨rfl, hb1⟩
    have hk3 := HK1.out.below hb1 (by omega)
    have hk4 := HK2.out.below hb1 (by omega)
    have X3 := hide (X2.out w1 hb1)
    have HB3 := hide (HB.out.trans (hb1.mono (by omega : z ≤ W0.heap.size)))
    have hsz1 := hb1.size
    clear hb1 X1 X2 c0 c1 c2 d0 d1 d2 HK1 HK2 HB
    have c1 := hk3.cell 1
    have d1 := hk4.cell 1
    clear hk3 hk4
    cases b2 with
    | false =>
      go_wp2_with fail
      go_ret
      exact ⟨by rw [HR.out]; rfl, by rw [hz]; exact HB3.out⟩
    | true =>
      go_wp2_with fail
      refine X3.out.mono ?_
      rintro e w2 ⟨rfl, hb2⟩
      have HB4 := hide (HB3.out.trans (hb2.mono (by omega : z ≤ w1.heap.size)))
      clear hb2
      go_wp2_with fail
      go_ret
      exact ⟨by rw [HR.out]; rfl, by rw [hz]; exact HB4.out⟩
end Go.Proofs.YthbackkcamgidaaGreatDoor
