/- EqualFunc of rules; equal. -/
import Derived.Test.YthbackkcamgidaaGreatDoorRuEr
namespace Go.Proofs.YthbackkcamgidaaGreatDoor
open Go Go.RowKit
set_option linter.unusedVariables false
/-- Rows of rules that are read. -/
structure RwR (A : Option Addr) (n : Nat) (L : List RV) (w : World) : Prop where
  rd : Reads w w.heap.size 6 A n (rus L)
  ok : ∀ x ∈ L, Reads w w.heap.size 1 x.O x.on (ivs x.r.ops) ∧ Reads w w.heap.size 1 x.A x.an (svs x.r.args)
  sm : ∀ x ∈ L, x.on ≤ 1000 ∧ x.an ≤ 1000
theorem RwR.below {A : Option Addr} {n : Nat} {L : List RV} {w w' : World} (h : RwR A n L w) (hb : Below w.heap.size w w') : RwR A n L w' :=
  ⟨(h.rd.below hb).more hb.size, fun x hx => ⟨((h.ok x hx).1.below hb).more hb.size, ((h.ok x hx).2.below hb).more hb.size⟩, h.sm⟩
theorem PolR.rw_ {s : RS} {P : PL} {w : World} (h : PolR s P w) (hm : Sm P) : RwR s.RA s.rn s.L w :=
  ⟨h.rules, h.ok, fun x hx => by
    have hr : x.r ∈ P.rules := by rw [← h.eq]; exact List.mem_map_of_mem hx
    obtain ⟨h1, h2⟩ := h.ok x hx
    have e1 := h1.1; rw [ivs_length] at e1
    have e2 := h2.1; rw [svs_length] at e2
    have := hm.ru x.r hr
    omega⟩
set_option maxRecDepth 100000 in
set_option maxHeartbeats 8000000 in
theorem eqRules_any (l1 l2 : List RV) (A B : Option Addr) (n c m d : Nat) (w : World) (h1 : RwR A n l1 w) (h2 : RwR B m l2 w) (hn : n ≤ 1000000) (hm : m ≤ 1000000) :
    Calls Tryz.prog 58 #[.slice A n c, .slice B m d, .func (.func 59) #[] #[]] w fun e w' => e = .returned (.bool (eqRs (l1.map RV.r) (l2.map RV.r))) ∧ Below w.heap.size w w' := by
  have hl1 : l1.length = n := by have := h1.rd.1; rw [rus_length] at this; omega
  have hl2 : l2.length = m := by have := h2.rd.1; rw [rus_length] at this; omega
  by_cases hnm : n = m
  · subst hnm
    have H1 := hide h1
    have H2 := hide h2
    have hnn : ((n : Int) == (n : Int)) = true := by simp
    clear h1 h2
    go_enter Tryz.func58, Tryz.ntmps58
    go_wp2_with fail
    go_loopw [17] (fun u17 wx => ∃ i : Nat, i ≤ n ∧ u17 = .int .i64 i ∧ Hid (Below w.heap.size w wx) ∧ Hid (eqRs (l1.map RV.r) (l2.map RV.r) = eqRs ((l1.drop i).map RV.r) ((l2.drop i).map RV.r))) (fun u17 _ => n - (intOf u17).toNat)
    case atStart => exact ⟨0, Nat.zero_le _, rfl, hide (Below.refl _ _), hide rfl⟩
    case round =>
      obtain ⟨i, hin, rfl, HB, HE⟩ := hrel
      by_cases hlt : i < n
      · obtain ⟨x, hx⟩ : ∃ x, l1[i]? = some x := ⟨_, List.getElem?_eq_getElem (by omega)⟩
        obtain ⟨y, hy⟩ : ∃ y, l2[i]? = some y := ⟨_, List.getElem?_eq_getElem (by omega)⟩
        have hw1 := H1.out.below HB.out
        have hw2 := H2.out.below HB.out
        obtain ⟨g, o, hAe, hg, hc⟩ := ru_cells hw1.rd hx
        obtain ⟨g', o', hBe, hg', hc'⟩ := ru_cells hw2.rd hy
        have r0 : wr.cell? ⟨g, o + i * 6, none⟩ = some (.bool x.r.al) := hc 0 _ rfl
        have r1 : wr.cell? ⟨g, o + i * 6 + 1, none⟩ = some (.slice x.O x.on x.oc) := hc 1 _ rfl
        have r2 : wr.cell? ⟨g, o + i * 6 + 2, none⟩ = some (.string ⟨x.r.path.toArray⟩) := hc 2 _ rfl
        have r3 : wr.cell? ⟨g, o + i * 6 + 3, none⟩ = some (.bool x.r.wi) := hc 3 _ rfl
        have r4 : wr.cell? ⟨g, o + i * 6 + 4, none⟩ = some (.slice x.A x.an x.ac) := hc 4 _ rfl
        have r5 : wr.cell? ⟨g, o + i * 6 + 5, none⟩ = some (.bool x.r.mo) := hc 5 _ rfl
        have hws1 : g < wr.heap.size := hg
        have hws2 : g' < wr.heap.size := hg'
        have s0 : (wr.alloc (.cells #[.bool x.r.al, .slice x.O x.on x.oc, .string ⟨x.r.path.toArray⟩, .bool x.r.wi, .slice x.A x.an x.ac, .bool x.r.mo] 40)).cell? ⟨g', o' + i * 6, none⟩ = some (.bool y.r.al) := (World.cell?_alloc_lt wr _ ⟨g', _, none⟩ hws2).trans (hc' 0 _ rfl)
        have s1 : (wr.alloc (.cells #[.bool x.r.al, .slice x.O x.on x.oc, .string ⟨x.r.path.toArray⟩, .bool x.r.wi, .slice x.A x.an x.ac, .bool x.r.mo] 40)).cell? ⟨g', o' + i * 6 + 1, none⟩ = some (.slice y.O y.on y.oc) := (World.cell?_alloc_lt wr _ ⟨g', _, none⟩ hws2).trans (hc' 1 _ rfl)
        have s2 : (wr.alloc (.cells #[.bool x.r.al, .slice x.O x.on x.oc, .string ⟨x.r.path.toArray⟩, .bool x.r.wi, .slice x.A x.an x.ac, .bool x.r.mo] 40)).cell? ⟨g', o' + i * 6 + 2, none⟩ = some (.string ⟨y.r.path.toArray⟩) := (World.cell?_alloc_lt wr _ ⟨g', _, none⟩ hws2).trans (hc' 2 _ rfl)
        have s3 : (wr.alloc (.cells #[.bool x.r.al, .slice x.O x.on x.oc, .string ⟨x.r.path.toArray⟩, .bool x.r.wi, .slice x.A x.an x.ac, .bool x.r.mo] 40)).cell? ⟨g', o' + i * 6 + 3, none⟩ = some (.bool y.r.wi) := (World.cell?_alloc_lt wr _ ⟨g', _, none⟩ hws2).trans (hc' 3 _ rfl)
        have s4 : (wr.alloc (.cells #[.bool x.r.al, .slice x.O x.on x.oc, .string ⟨x.r.path.toArray⟩, .bool x.r.wi, .slice x.A x.an x.ac, .bool x.r.mo] 40)).cell? ⟨g', o' + i * 6 + 4, none⟩ = some (.slice y.A y.an y.ac) := (World.cell?_alloc_lt wr _ ⟨g', _, none⟩ hws2).trans (hc' 4 _ rfl)
        have s5 : (wr.alloc (.cells #[.bool x.r.al, .slice x.O x.on x.oc, .string ⟨x.r.path.toArray⟩, .bool x.r.wi, .slice x.A x.an x.ac, .bool x.r.mo] 40)).cell? ⟨g', o' + i * 6 + 5, none⟩ = some (.bool y.r.mo) := (World.cell?_alloc_lt wr _ ⟨g', _, none⟩ hws2).trans (hc' 5 _ rfl)
        have hia := fun W => ru_at g o n c i (i : Int) rfl hlt W
        have hib := fun W => ru_at g' o' n d i (i : Int) rfl hlt W
        have hlt' : (i : Int) < (n : Int) := by omega
        have kw : IntKind.i64.wrap ((i : Int) + 1) = (i : Int) + 1 := by simp [IntKind.wrap, IntKind.bits, IntKind.signed]; omega
        have HS : Hid (eqRs ((l1.drop i).map RV.r) ((l2.drop i).map RV.r) = (eqR x.r y.r && eqRs ((l1.drop (i + 1)).map RV.r) ((l2.drop (i + 1)).map RV.r))) := hide (by
          rw [List.drop_eq_getElem_cons (by omega : i < l1.length), List.drop_eq_getElem_cons (by omega : i < l2.length), List.map_cons, List.map_cons, eqRs]
          rw [(List.getElem?_eq_some_iff.1 hx).2, (List.getElem?_eq_some_iff.1 hy).2])
        have hxm := List.mem_of_getElem? hx
        have hym := List.mem_of_getElem? hy
        have hba : Below wr.heap.size wr ((wr.alloc (.cells x.cs.toArray 40)).alloc (.cells y.cs.toArray 40)) := ((Below.refl _ wr).alloc (Nat.le_refl _) _).alloc (by simp) _
        have ho1 := (hw1.below hba).ok x hxm
        have ho2 := (hw2.below hba).ok y hym
        have XE := hide (eqOne_any x y _ ho1.1 ho1.2 ho2.1 ho2.2 ⟨(hw1.sm x hxm).1, (hw1.sm x hxm).2, (hw2.sm y hym).1, (hw2.sm y hym).2⟩)
        have HBA := hide ((HB.out.trans (hba.mono HB.out.size)))
        rw [hAe, hBe] at *
        clear hc hc' hx hy hw1 hw2 hxm hym ho1 ho2 hba hg hg'
        cases hb : eqR x.r y.r with
        | true =>
          have HE2 : Hid (eqRs (l1.map RV.r) (l2.map RV.r) = eqRs ((l1.drop (i + 1)).map RV.r) ((l2.drop (i + 1)).map RV.r)) := hide (by rw [HE.out, HS.out, hb, Bool.true_and])
          rw [hb] at XE
          go_wp2_with fail
          refine XE.out.mono ?_
          rintro e w2 ⟨rfl, hb2⟩
          have HB2 := hide (HBA.out.trans (hb2.mono HBA.out.size))
          clear hb2 r0 r1 r2 r3 r4 r5 s0 s1 s2 s3 s4 s5 hia hib XE
          go_wp2_with fail
          go_roundw
          case rel => exact ⟨i + 1, by omega, by go_num, HB2, HE2⟩
          case measure => simp [intOf]; omega
        | false =>
          have HE2 : Hid (eqRs (l1.map RV.r) (l2.map RV.r) = false) := hide (by rw [HE.out, HS.out, hb, Bool.false_and])
          rw [hb] at XE
          go_wp2_with fail
          refine XE.out.mono ?_
          rintro e w2 ⟨rfl, hb2⟩
          have HB2 := hide (HBA.out.trans (hb2.mono HBA.out.size))
          clear hb2 r0 r1 r2 r3 r4 r5 s0 s1 s2 s3 s4 s5 hia hib XE
          go_wp2_with fail
          go_ret
          exact ⟨by rw [HE2.out]; rfl, HB2.out⟩
      · obtain rfl : i = n := by omega
        have hlt' : ¬ (i : Int) < (i : Int) := by omega
        have HE2 : Hid (eqRs (l1.map RV.r) (l2.map RV.r) = true) := hide (by
          rw [HE.out, List.drop_of_length_le (by omega), List.drop_of_length_le (by omega)]; rfl)
        go_wp2_with fail
        go_ret
        exact ⟨by rw [HE2.out]; rfl, HB.out⟩
  · have HE2 : Hid (eqRs (l1.map RV.r) (l2.map RV.r) = false) := hide (eqRs_len (by simp; omega))
    have hnn : ((n : Int) == (m : Int)) = false := beq_eq_false_iff_ne.2 (by omega)
    clear h1 h2
    go_enter Tryz.func58, Tryz.ntmps58
    go_wp2_with fail
    go_ret
    exact ⟨by rw [HE2.out]; rfl, Below.refl _ _⟩
end Go.Proofs.YthbackkcamgidaaGreatDoor
