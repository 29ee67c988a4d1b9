/- The contract of sha.Block. -/
import Derived.Test.YtelfdgliogaleaaDoorShaX
import Derived.Outline
namespace Go.Proofs.YtelfdgliogaleaaDoor
open Go.RowKit
set_option linter.unusedVariables false
def St.of (ws : List Nat) : St := ⟨ws.getD 0 0, ws.getD 1 0, ws.getD 2 0, ws.getD 3 0, ws.getD 4 0, ws.getD 5 0, ws.getD 6 0, ws.getD 7 0⟩
theorem St.of_list {ws : List Nat} (h : ws.length = 8) : (St.of ws).list = ws := by
  match ws, h with
  | [a, b, c, d, e, f, g, x], _ => rfl
set_option maxHeartbeats 1000000 in
theorem block_no (A B : Option Addr) (n c m d : Nat) (w : World) (h : n ≠ 8 ∨ m ≠ 64) :
    Calls Tryd.prog 13 #[.slice A n c, .slice B m d] w fun e w' => e = .returned (.tuple #[.slice none 0 0, .int .i64 2]) ∧ w = w' := by
  by_cases h8 : n = 8
  · subst h8
    have h64 : ((m : Int) != 64) = true := by rw [bne_iff_ne]; omega
    go_enter Tryd.func13, Tryd.ntmps13
    go_wp2
    go_ret2
    exact ⟨rfl, rfl⟩
  · have h64 : ((n : Int) != 8) = true := by rw [bne_iff_ne]; omega
    go_enter Tryd.func13, Tryd.ntmps13
    go_wp2
    go_ret2
    exact ⟨rfl, rfl⟩
set_option maxRecDepth 100000 in
set_option maxHeartbeats 2000000 in
theorem block_yes (A B : Option Addr) (c d : Nat) (ws : List Nat) (bs : List UInt8) (w : World) (hs : Reads w w.heap.size 1 A 8 (wv ws)) (hok : ∀ x ∈ ws, x < 4294967296) (hb : Rd w B 64 bs) (hc : 8 ≤ c) (hd : 64 ≤ d) (hk : KeysAt w) (h1 : 1 < w.heap.size) :
    Calls Tryd.prog 13 #[.slice A 8 c, .slice B 64 d] w fun e w' => ∃ v, e = .returned (.tuple #[v, .int .i64 0]) ∧ RetWords w (comp (St.of ws) bs).list v w' := by
  have hl : ws.length = 8 := by have := hs.1; simpa using this
  have hbl : bs.length = 64 := hb.len
  obtain ⟨g2, o2, rfl, hg2, hby⟩ := BytesAt.of_reads hb (by omega)
  obtain ⟨ad, rfl, hadl, hadc⟩ := hs.2 (by omega)
  have hcell : ∀ j (hj : j < 8), w.cell? (ad.add j) = some (.int .u32 (ws.getD j 0 : Nat)) := fun j hj => hadc j _ (by simp [List.getElem?_eq_getElem (show j < ws.length by omega), List.getD_eq_getElem?_getD])
  have hspot : ad = ⟨ad.block, ad.off, none⟩ := spot_none (u := .int .u32 (ws.getD 0 0 : Nat)) (by have := hcell 0 (by omega); rwa [add_zero_] at this)
  obtain ⟨g, o, sp⟩ := ad
  injection hspot with _ _ hsp
  subst hsp
  have c0 : w.cell? ⟨g, o, none⟩ = some (.int .u32 ((St.of ws).a : Nat)) := by have := hcell 0 (by omega); rw [at_add] at this; exact this
  have c1 : w.cell? ⟨g, o + 1, none⟩ = some (.int .u32 ((St.of ws).b : Nat)) := by have := hcell 1 (by omega); rw [at_add] at this; exact this
  have c2 : w.cell? ⟨g, o + 2, none⟩ = some (.int .u32 ((St.of ws).c : Nat)) := by have := hcell 2 (by omega); rw [at_add] at this; exact this
  have c3 : w.cell? ⟨g, o + 3, none⟩ = some (.int .u32 ((St.of ws).d : Nat)) := by have := hcell 3 (by omega); rw [at_add] at this; exact this
  have c4 : w.cell? ⟨g, o + 4, none⟩ = some (.int .u32 ((St.of ws).e : Nat)) := by have := hcell 4 (by omega); rw [at_add] at this; exact this
  have c5 : w.cell? ⟨g, o + 5, none⟩ = some (.int .u32 ((St.of ws).f : Nat)) := by have := hcell 5 (by omega); rw [at_add] at this; exact this
  have c6 : w.cell? ⟨g, o + 6, none⟩ = some (.int .u32 ((St.of ws).g : Nat)) := by have := hcell 6 (by omega); rw [at_add] at this; exact this
  have c7 : w.cell? ⟨g, o + 7, none⟩ = some (.int .u32 ((St.of ws).h : Nat)) := by have := hcell 7 (by omega); rw [at_add] at this; exact this
  have hsok : (St.of ws).ok := by unfold St.ok; rw [St.of_list hl]; exact hok
  obtain ⟨s, hs'⟩ : ∃ s, St.of ws = s := ⟨_, rfl⟩
  rw [hs'] at c0 c1 c2 c3 c4 c5 c6 c7 hsok
  have H := hide (comp_any w.heap.size 42 g2 o2 s bs (w.alloc (.cells (wv s.list).toArray 42)) (hby.keep fun p hp => World.cell?_alloc_lt w _ p (by omega)) (by simp; omega) hbl (Blk.new _ _ _) hsok (by omega) (hk.alloc h1 _) h1)
  rw [st_cells] at H
  have HS := hide hs'
  have hall : ∀ W, (Instr.sliceAt 42 (.pointer (some ⟨w.heap.size, 0, none⟩)) none none none).run Tryd.prog W = .ok (.slice (some ⟨w.heap.size, 0, none⟩) 8 8) W := fun W => by rfl
  have ha8 : ∀ W, (Instr.arrayAt 42 (.slice (some ⟨g, o, none⟩) 8 c)).run Tryd.prog W = .ok (.pointer (some ⟨g, o, none⟩)) W := fun W => by simp [Instr.arrayAt, run_underlying Tryd.underlying42]
  have ha64 : ∀ W, (Instr.arrayAt 50 (.slice (some ⟨g2, o2, none⟩) 64 d)).run Tryd.prog W = .ok (.pointer (some ⟨g2, o2, none⟩)) W := fun W => by simp [Instr.arrayAt, run_underlying Tryd.underlying50]
  clear hs hok hb hk hl hbl hby hadc hcell hs' hsok
  go_enter Tryd.func13, Tryd.ntmps13
  go_wp2_with fail
  refine H.out.mono ?_
  rintro e w1 ⟨rfl, hb1, hg1⟩
  have HB1 := hide hb1
  have HBE : Hid (Below w.heap.size w w1) := hide (((Below.refl _ _).alloc (Nat.le_refl _) _).grown hg1 (by simp) (fun g h => by injection h with h; omega))
  clear hb1 hg1 c0 c1 c2 c3 c4 c5 c6 c7 H
  go_wp2_with fail
  go_ret2
  exact ⟨_, rfl, w.heap.size, rfl, Nat.le_refl _, by rw [HS.out]; exact HB1.out, HBE.out⟩
end Go.Proofs.YtelfdgliogaleaaDoor
