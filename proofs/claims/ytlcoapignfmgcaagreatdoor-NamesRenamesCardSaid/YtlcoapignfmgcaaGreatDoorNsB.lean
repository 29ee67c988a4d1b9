/- The document's put. -/
import Derived.Test.YtlcoapignfmgcaaGreatDoorNsA
import Derived.Deep.DeepCutAuto
import Derived.Deep.CutBlock
namespace Go.Proofs.YtlcoapignfmgcaaGreatDoor
open Go.RowKit
set_option linter.unusedVariables false
/-- What may be stored into. -/
def Okay (X : List DV) : Prop := ∀ x ∈ X, x.mn ≤ 1000 ∧ 0 ≤ x.r.links ∧ x.r.links ≤ 1000000
/-- Only one block is written. -/
def Only (g : Nat) (w V : World) : Prop := ∀ p t cs, p ≠ g → Blk w p t cs → Blk V p t cs
theorem Only.of {g : Nat} {w V : World} (h : Below w.heap.size w V) : Only g w V := fun p t cs _ hp => hp.below h hp.lt
theorem Only.then {g : Nat} {w V U : World} (h : Only g w V) (hb : Below V.heap.size V U) : Only g w U := fun p t cs hn hp => (h p t cs hn hp).below hb (h p t cs hn hp).lt
theorem Only.put {g j : Nat} {w V : World} (h : Only g w V) (v : Value) : Only g w (V.setCell ⟨g, j, none⟩ v) := fun p t cs hn hp => (h p t cs hn hp).far (p := ⟨g, j, none⟩) hn v
/-- Between the two stores. -/
def Half (B C p : Nat) (g n c : Nat) (Y : List DV) (m : Nat) (r : ND) (w V : World) : Prop :=
  ∃ x', x'.r = r ∧ OG B C V (some ⟨g, 0, none⟩) n c (Y.set m x') ∧ Blk V p 24 #[.slice (some ⟨g, 0, none⟩) n c] ∧ Below C w V ∧ Only g w V
theorem OG.cells {B C : Nat} {w : World} {g n c : Nat} {X : List DV} (h : OG B C w (some ⟨g, 0, none⟩) n c X) {k : Nat} {x : DV} (hx : X[k]? = some x) :
    (w.cell? ⟨g, k * 6, none⟩ = some (.int .i64 x.r.kind) ∧ w.cell? ⟨g, k * 6 + 1, none⟩ = some (.int .i64 x.r.mode) ∧ w.cell? ⟨g, k * 6 + 2, none⟩ = some (.int .i64 x.r.links) ∧ w.cell? ⟨g, k * 6 + 3, none⟩ = some (.slice x.D x.dn x.dc) ∧ w.cell? ⟨g, k * 6 + 4, none⟩ = some (.slice x.M x.mn x.mc) ∧ w.cell? ⟨g, k * 6 + 5, none⟩ = some (.string ⟨x.r.to.toArray⟩)) ∧
    ∀ j, w.frozen? ⟨g, j, none⟩ = false := by
  have hl := h.len
  obtain ⟨hk, hx⟩ := List.getElem?_eq_some_iff.1 hx
  have key : ∀ j, j < 6 → w.cell? ⟨g, k * 6 + j, none⟩ = x.cs[j]? := fun j hj => by
    rw [World.ownsRow.cellAt h.own (k * 6 + j) (by omega), dcs_at X k j hk hj, hx]
  exact ⟨⟨key 0 (by omega), key 1 (by omega), key 2 (by omega), key 3 (by omega), key 4 (by omega), key 5 (by omega)⟩, fun j => World.ownsRow.frozenAt h.own j⟩
theorem nm_atA {A : Option Addr} {g1 o : Nat} (hA : A = some ⟨g1, o, none⟩) (m k q : Nat) (i : Int) (hi : i = (q : Int)) (hq : q < m) (W : World) : (Instr.indexAt 26 (.slice A m k) (.int .i64 i)).run Tryz.prog W = .ok (.pointer (some ⟨g1, o + q * 2, none⟩)) W := by
  subst hA
  exact nm_at g1 o m k q i hi hq W
theorem sl_pre (A : Option Addr) (n c q : Nat) (hq : q ≤ c) (W : World) : (Instr.slice 26 (.slice A n c) none (some (.int .i64 (q : Int))) none).run Tryz.prog W = .ok (.slice A q c) W := by
  have hE : Tryz.prog.elem 26 = 59 := by simp [Program.elem, Tryz.underlying26]
  rw [run_slice_h W 26 A n c (slice_ht Tryz.underlying26) .i64 (q : Int) (by omega) (by omega), hE, run_sizeOf_n sizeName W]
  simp only [Result.andThen, sliced, Int.toNat_natCast, Nat.zero_mul, map_zero_, ite_self, Nat.sub_zero]
theorem Reads.bef {W : World} {B n q : Nat} {A : Option Addr} {l : List NM} (h : Reads W B 2 A n (ncs l)) (hq : q ≤ n) : Reads W B 2 A q (ncs (l.take q)) := by
  have hl := h.1
  refine ⟨by rw [ncs_take, List.length_take, hl]; omega, fun h0 => ?_⟩
  obtain ⟨ad, rfl, hb, hx⟩ := h.2 (by omega)
  refine ⟨ad, rfl, hb, fun j u hj => ?_⟩
  rw [ncs_take, List.getElem?_take] at hj
  split at hj
  · exact hx j u hj
  · cases hj
set_option maxRecDepth 100000 in
set_option maxHeartbeats 16000000 in
theorem rput_c (B C g n c m k : Nat) (X : List DV) (s : List UInt8) (w : World) (hO : OG B C w (some ⟨g, 0, none⟩) n c X) (hBC : B ≤ C) (hCw : C ≤ w.heap.size) (hs : Okay X) (hm : m < n) (hk : k < n) (hst : sortedP (ndAt (nds X) (m : Int)).names) :
    Calls Tryz.prog 41 #[.agg #[.slice (some ⟨g, 0, none⟩) n c], .int .i64 (m : Int), .string ⟨s.toArray⟩, .int .i64 (k : Int)] w fun e w' => e = .returned (.tuple #[]) ∧ ∃ X', OG B C w' (some ⟨g, 0, none⟩) n c X' ∧ nds X' = insP (nds X) (m : Int) s (k : Int) ∧ Below C w w' ∧ Only g w w' := by
  obtain ⟨x, hx⟩ : ∃ x, X[m]? = some x := ⟨_, List.getElem?_eq_getElem (by have := hO.len; omega)⟩
  have hxm := List.mem_of_getElem? hx
  rw [nds_at hx] at hst
  have hgC : C ≤ g ∧ g < w.heap.size := by obtain ⟨g1, e1, h0, h1⟩ := hO.addr (by omega); injection e1 with e1; injection e1 with e1 _; omega
  obtain ⟨W1, hW1⟩ : ∃ W, w.alloc (.cells #[.slice (some ⟨g, 0, none⟩) n c] 24) = W := ⟨_, rfl⟩
  have h1 : Blk W1 w.heap.size 24 #[.slice (some ⟨g, 0, none⟩) n c] := by rw [← hW1]; exact Blk.new w _ _
  have b1 : Below w.heap.size w W1 := by rw [← hW1]; exact on_alloc _ _
  have HO := hide (fun (W : World) (hW : Below w.heap.size w W) => hO.below hW)
  have HMN := hide (hs x hxm).1
  have HCP := hide (hO.cap x hxm)
  have HNL := hide (hO.ok x hxm).nl
  have HM := hide (fun (W : World) (hW : Below w.heap.size w W) => ((hO.ok x hxm).n.below hW).more hW.size)
  have HGC := hide hgC
  have HS := hide hs
  have HX := hide hx
  have hp := find_place hst s
  obtain ⟨q, hq⟩ : ∃ q, findP x.r.names s = q := ⟨_, rfl⟩
  rw [hq] at hp
  have HP := hide hp
  have HQ := hide hq
  have hqm : q ≤ x.mn := by rw [← HNL.out]; exact hp.1
  obtain ⟨⟨d0, d1, d2, d3, d4, d5⟩, -⟩ := (HO.out W1 b1).cells hx
  have i1 := fun W => nd_at0 g n c m (m : Int) rfl hm W
  have HB := hide b1
  have HK := hide h1
  have k0 := one_ h1
  clear hO hs hx hxm hgC h1 b1 hp hq hst
  go_enter Tryz.func41, Tryz.ntmps41
  go_upto_block 0 with (rw [hW1])
  clear hW1 k0 d0 d1 d2 d3 d4 d5
  go_cut [9] (fun u9 wx => u9 = .int .i64 (q : Int) ∧ Hid (Blk wx w.heap.size 24 #[.slice (some ⟨g, 0, none⟩) n c]) ∧ Hid (Below w.heap.size w wx))
  case first =>
    go_wp2_with fail
    go_loopw [9] (fun u9 wx => ∃ i : Nat, i ≤ q ∧ u9 = .int .i64 (i : Int) ∧ Hid (Blk wx w.heap.size 24 #[.slice (some ⟨g, 0, none⟩) n c]) ∧ Hid (Below w.heap.size w wx)) (fun i _ => x.mn - (intOf i).toNat)
    case atStart => exact ⟨0, Nat.zero_le _, rfl, HK, HB⟩
    case round =>
      clear HB HK
      obtain ⟨i, hi, rfl, HKJ, HBJ⟩ := hrel
      have hmx := HMN.out
      by_cases hiq : i < q
      · have hin : i < x.mn := by omega
        have hlt : (i : Int) < (x.mn : Int) := by omega
        obtain ⟨g', o', y, hM, hg', hy, n0, n1⟩ := nm_cells (HM.out wr HBJ.out) hin
        have i2 := fun W => nm_atA hM x.mn x.mc i (i : Int) rfl hin W
        have hys : y.name < s := by rw [← nmAt_get hy]; exact HP.out.2.1 i hiq
        obtain ⟨ys, hye⟩ : ∃ ys, y.name = ys := ⟨_, rfl⟩
        rw [hye] at n0 hys
        have hyd : Op.bytesLess ys s = true := by rw [bytesLess_eq]; exact decide_eq_true hys
        clear hy hM hye n1 hys
        go_wp2_with fail
        go_roundw
        case rel => exact ⟨i + 1, by omega, by go_num, HKJ, HBJ⟩
        case measure => simp [intOf]; omega
      · have hiq' : i = q := by omega
        subst hiq'
        by_cases hin : i < x.mn
        · have hlt : (i : Int) < (x.mn : Int) := by omega
          obtain ⟨g', o', y, hM, hg', hy, n0, n1⟩ := nm_cells (HM.out wr HBJ.out) hin
          have i2 := fun W => nm_atA hM x.mn x.mc i (i : Int) rfl hin W
          have hys : ¬ y.name < s := by rw [← nmAt_get hy]; exact HP.out.2.2 i (Nat.le_refl _) (by rw [HNL.out]; exact hin)
          obtain ⟨ys, hye⟩ : ∃ ys, y.name = ys := ⟨_, rfl⟩
          rw [hye] at n0 hys
          have hyd : Op.bytesLess ys s = false := by rw [bytesLess_eq]; exact decide_eq_false hys
          clear hy hM hye n1 hys
          go_wp2_with fail
          go_meet
          exact ⟨rfl, HKJ, HBJ⟩
        · have hlt : ¬ ((i : Int) < (x.mn : Int)) := by omega
          go_wp2_with fail
          go_meet
          exact ⟨rfl, HKJ, HBJ⟩
  case rest =>
    obtain ⟨rfl, HK2, HB2⟩ := hcut
    clear HB HK
    have hmx := HMN.out
    have s1 := fun W => sl_pre x.M x.mn x.mc q (Nat.le_trans hqm HCP.out) W
    have s2 := fun W => sl_aft x.M x.mn x.mc q hqm W
    obtain ⟨V2, hV2⟩ : ∃ W, wc.alloc (.cells #[] 59) = W := ⟨_, rfl⟩
    have b2 : Below wc.heap.size wc V2 := by rw [← hV2]; exact on_alloc _ _
    have hE2 : Blk V2 wc.heap.size 59 #[] := by rw [← hV2]; exact Blk.new wc _ _
    have hown2 : V2.ownsRow wc.heap.size 59 2 (.slice (some ⟨wc.heap.size, 0, none⟩) 0 0) 0 [] := ⟨rfl, .inr ⟨wc.heap.size, 0, #[], rfl, Nat.le_refl _, hE2, Nat.le_refl _, by unfold maxLen; omega, rfl, rfl⟩⟩
    have HOWN2 := hide hown2
    have HB3 := hide (HB2.out.trans (b2.mono HB2.out.size))
    have HB23 := hide b2
    have HS2 := hide b2.size
    have HM2 := hide ((HM.out V2 HB3.out).bef hqm)
    obtain ⟨i0, hi0, hz0, hz1, hz2⟩ := info_parts infoName
    clear b2 hE2 hown2
    go_wp2_with (first | rw [hV2] | (at_builtin; (refine wpList_append_any _ rfl (.tmp 32) (.tmp 35) 26 rfl wc.heap.size 59 i0 _ 2 24 Tryz.underlying26 hi0 hz0 hz1 hz2 rfl (by omega) (.slice (some ⟨wc.heap.size, 0, none⟩) 0 0) 0 [] rfl HOWN2.out V2.heap.size x.M q x.mc (ncs (x.r.names.take q)) rfl HM2.out ?h1 ?c1 ?c2 ?c3 ?_)))
    case h1 => exact ncs_one _
    case c1 => unfold maxLen; omega
    case c2 => omega
    case c3 => exact HS2.out
    intro v1 V3 hown hg hat
    obtain ⟨M3, mc3, rfl⟩ := own_slice hown
    have b3 : Below wc.heap.size wc V3 := HB23.out.grown hg HS2.out (fun z hz => Nat.le_of_eq (by simpa [Value.ownBlock] using hz))
    obtain ⟨V4, hV4⟩ : ∃ W, V3.alloc (.cells #[.string ⟨s.toArray⟩, .int .i64 (k : Int)] 59) = W := ⟨_, rfl⟩
    have b4 : Below V3.heap.size V3 V4 := by rw [← hV4]; exact on_alloc _ _
    have b24 : Below wc.heap.size wc V4 := b3.trans (b4.mono b3.size)
    have HOW4 := hide (own_below hown b4)
    have HR4 : Hid (Reads V4 V4.heap.size 2 (some ⟨V3.heap.size, 0, none⟩) 1 (ncs [⟨s, (k : Int)⟩])) := hide ⟨rfl, fun _ => ⟨_, rfl, by rw [← hV4]; simp, fun j u hj => by
      rw [Addr.add_lit, Nat.zero_add, ← hV4]
      exact ((Blk.new V3 _ _).cell j).trans (by rw [List.getElem?_toArray]; exact hj)⟩⟩
    have HB4 := hide b24
    have HS4 := hide b24.size
    clear hown hg hat b3 b4 b24 HOWN2 HM2 HB23
    go_wp2_with (first | rw [hV4] | (at_builtin; (refine wpList_append_any _ rfl (.tmp 37) (.tmp 41) 26 rfl wc.heap.size 59 i0 _ 2 24 Tryz.underlying26 hi0 hz0 hz1 hz2 rfl (by omega) (.slice M3 q mc3) q (ncs (x.r.names.take q)) rfl HOW4.out V4.heap.size (some ⟨V3.heap.size, 0, none⟩) 1 1 (ncs [⟨s, (k : Int)⟩]) rfl HR4.out ?h2 ?c4 ?c5 ?c6 ?_)))
    case h2 => exact ncs_one _
    case c4 => unfold maxLen; omega
    case c5 => omega
    case c6 => exact HS4.out
    intro v2 V5 hown hg hat
    obtain ⟨M5, mc5, rfl⟩ := own_slice hown
    have b5 : Below wc.heap.size wc V5 := HB4.out.grown hg HS4.out (fun z hz => by
      cases M3 with
      | none => simp [Value.ownBlock] at hz
      | some a =>
        have h1 : a.block = z := by simpa [Value.ownBlock] using hz
        have h2 := (own_base HOW4.out a rfl).1
        omega)
    have HB5 := hide (HB2.out.trans (b5.mono HB2.out.size))
    have HC5 := hide b5
    have HS5 := hide b5.size
    have HO5 := hide (HO.out V5 HB5.out)
    have HK5 := hide (HK2.out.below b5 HK2.out.lt)
    have HW5 := hide hown
    have HM5 := hide ((HM.out V5 HB5.out).aft hqm HCP.out)
    clear hown hg hat b5 HOW4 HR4 HB4 HS4 s1
    go_upto_region 7 with (fail)
    go_cut [] (fun wx => Hid (Half B C w.heap.size g n c X m { x.r with names := insN x.r.names s (k : Int) } w wx))
    case first =>
      have hdr : Below V5.heap.size V5 (World.drew V5) := bl_drewN (n := 1) (Below.refl _ _)
      obtain ⟨wd, hwd⟩ : ∃ W, World.drew V5 = W := ⟨_, rfl⟩
      rw [hwd] at hdr
      have HOd := hide (HO5.out.below hdr)
      have HKd := hide (HK5.out.below hdr HK5.out.lt)
      have HWd := hide (own_below HW5.out hdr)
      have HMd := hide ((HM5.out.below hdr).more hdr.size)
      have HBd := hide (HB5.out.trans (hdr.mono HB5.out.size))
      have HSd := hide (Nat.le_trans HS5.out hdr.size)
      have s0 := one_ HKd.out
      refine wp_region_K (fun V' : World => V'.cell? ⟨w.heap.size, 0, none⟩ = some (.slice (some ⟨g, 0, none⟩) n c)) [10] rfl (by rw [hwd]; exact s0) (fun hHeld => ?_)
      rw [hwd] at hHeld ⊢
      clear hdr s0 hwd HO5 HK5 HW5 HM5 HB5 HS5
      refine wpAnyK_take (i := 0) (v := ?_) rfl rfl (by kernel_rfl) (fun _ _ _ h => h) (Or.inl ⟨by rfl, ?_⟩) (by assumption) ?_
      rotate_left
      · (intro V hV; (try dsimp only at hV); go_simp; with_reducible rfl)
      try simp only [Act.put, List.setIfInBounds_toArray, List.set_cons_zero, List.set_cons_succ]
      refine wpAnyK_take (i := 1) (v := ?_) rfl rfl (by kernel_rfl) (fun _ _ _ h => h) (Or.inl ⟨by rfl, ?_⟩) (by assumption) ?_
      rotate_left
      · (intro V hV; (try dsimp only at hV); go_simp; with_reducible rfl)
      try simp only [Act.put, List.setIfInBounds_toArray, List.set_cons_zero, List.set_cons_succ]
      refine wpAnyK_take (i := 2) (v := ?_) rfl rfl (by kernel_rfl) (fun _ _ _ h => h) (Or.inl ⟨by rfl, ?_⟩) (by assumption) ?_
      rotate_left
      · (intro V hV; (try dsimp only at hV); go_simp; with_reducible rfl)
      try simp only [Act.put, List.setIfInBounds_toArray, List.set_cons_zero, List.set_cons_succ]
      refine wpAnyK_take (i := 3) (v := ?_) rfl rfl (by kernel_rfl) (fun _ _ _ h => h) (Or.inl ⟨by rfl, ?_⟩) (by assumption) ?_
      rotate_left
      · (intro V hV; (try dsimp only at hV); go_simp; with_reducible rfl)
      try simp only [Act.put, List.setIfInBounds_toArray, List.set_cons_zero, List.set_cons_succ]
      refine wpAnyK_take (i := 4) (v := ?_) rfl rfl (by kernel_rfl) (fun _ _ _ h => h) (Or.inl ⟨by rfl, ?_⟩) (by assumption) ?_
      rotate_left
      · (intro V hV; (try dsimp only at hV); go_simp; with_reducible rfl)
      try simp only [Act.put, List.setIfInBounds_toArray, List.set_cons_zero, List.set_cons_succ]
      refine wpAnyK_take (i := 5) (v := ?_) rfl rfl (by kernel_rfl) (fun _ _ _ h => h) (Or.inl ⟨by rfl, ?_⟩) (by assumption) ?_
      rotate_left
      · (intro V hV; (try dsimp only at hV); go_simp; with_reducible rfl)
      try simp only [Act.put, List.setIfInBounds_toArray, List.set_cons_zero, List.set_cons_succ]
      refine wpAnyK_take (i := 6) (v := ?_) rfl rfl (by kernel_rfl) (fun _ _ _ h => h) (Or.inl ⟨by rfl, ?_⟩) (by assumption) ?_
      rotate_left
      · (intro V hV; (try dsimp only at hV); go_simp; with_reducible rfl)
      try simp only [Act.put, List.setIfInBounds_toArray, List.set_cons_zero, List.set_cons_succ]
      refine wpAnyK_step (i := 7) (by kernel_rfl) rfl rfl (fun K hK => ?_)
      refine step_append_any _ rfl (.tmp 46) (.tmp 49) 26 rfl wc.heap.size 59 i0 _ 2 24 Tryz.underlying26 hi0 hz0 hz1 hz2 rfl (by omega) (.slice M5 (q + 1) mc5) (q + 1) _ rfl (by exact HWd.out) wd.heap.size (aftA x.M x.mc q) (x.mn - q) (x.mc - q) (ncs (x.r.names.drop q)) rfl (by exact HMd.out) (ncs_one _) (by unfold maxLen; omega) (by omega) (by exact HSd.out) ?_
      intro v3 V6 hown hg hat
      obtain ⟨M6, mc6, rfl⟩ := own_slice hown
      have hxs : ncs (x.r.names.take q) ++ ncs [⟨s, (k : Int)⟩] ++ ncs (x.r.names.drop q) = ncs (insN x.r.names s (k : Int)) := by
        unfold insN
        rw [HQ.out, ncs_append, ncs_append]
      have hn1 : q + 1 + (x.mn - q) = x.mn + 1 := by omega
      rw [hn1, hxs] at hown
      have b6 : Below wc.heap.size wd V6 := (Below.refl _ _).grown hg HSd.out (fun z hz => by
        cases M5 with
        | none => simp [Value.ownBlock] at hz
        | some a =>
          have h1 : a.block = z := by simpa [Value.ownBlock] using hz
          have h2 := (own_base HWd.out a rfl).1
          omega)
      have hwc := HB2.out.size
      have hK6 := HKd.out.below b6 HK2.out.lt
      have hB6 : Below w.heap.size w V6 := HBd.out.trans (b6.mono hwc)
      have hO6 := HO.out V6 hB6
      have hgC := HGC.out
      have hxm := List.mem_of_getElem? HX.out
      have hxok := hO6.ok x hxm
      have hlo6 : Lo M6 (x.mn + 1) wc.heap.size := lo_own hown
      obtain ⟨x', hx'⟩ : ∃ x' : DV, (⟨{ x.r with names := insN x.r.names s (k : Int) }, x.D, x.dn, x.dc, M6, x.mn + 1, mc6⟩ : DV) = x' := ⟨_, rfl⟩
      have hpg : w.heap.size ≠ g := by omega
      have HO7 := hide (hO6.set_ hBC (k := m) (j := 4) (x' := x') (v := .slice M6 (x.mn + 1) mc6) hm (by omega) (fun y hy => by rw [HX.out] at hy; injection hy with hy; subst hy; rw [← hx']; rfl)
        (by rw [← hx']; exact ⟨hxok.d, Reads.of_own hown⟩) (by rw [← hx']; exact hlo6.off (by omega)) (by rw [← hx']; exact hlo6.less (by omega)) (by rw [← hx']; exact hO6.hi x hxm) (by rw [← hx']; exact own_cap hown))
      have HK7 := hide (hK6.far (p := ⟨g, m * 6 + 4, none⟩) hpg (.slice M6 (x.mn + 1) mc6))
      have HB7 := hide ((hB6.mono hCw).setCell (p := ⟨g, m * 6 + 4, none⟩) (by show C ≤ g; omega) (.slice M6 (x.mn + 1) mc6))
      have HON7 := hide ((Only.of (g := g) hB6).put (j := m * 6 + 4) (.slice M6 (x.mn + 1) mc6))
      have HR7 : Hid (x'.r = { x.r with names := insN x.r.names s (k : Int) }) := hide (by rw [← hx'])
      obtain ⟨⟨d0, d1, d2, d3, d4, d5⟩, hfz⟩ := hO6.cells HX.out
      have f4 := hfz (m * 6 + 4)
      have k6 := one_ hK6
      have i1' := nd_at0 g n c m (m : Int) rfl hm V6
      rw [hn1]
      refine hK.out _ _ (fun _ _ => by exact k6) ?_
      clear hK K hHeld hown hg hat hxs b6 hwc hK6 hB6 hO6 hgC hxm hxok hlo6 hx' hpg d0 d1 d2 d3 d5 hfz
      simp only [Act.put, List.setIfInBounds_toArray, List.set_cons_zero, List.set_cons_succ]
      refine wpAnyK_takeF (i := 8) (v := ?_) rfl rfl (by kernel_rfl) (fun _ _ _ h => h) (Or.inl ⟨by rfl, ?_⟩) ?_
      rotate_left
      · (intro V hV; (try dsimp only at hV); go_simp; with_reducible rfl)
      try simp only [Act.put, List.setIfInBounds_toArray, List.set_cons_zero, List.set_cons_succ]
      refine wpAnyK_takeF (i := 9) (v := ?_) rfl rfl (by kernel_rfl) (fun _ _ _ h => h) (Or.inl ⟨by rfl, ?_⟩) ?_
      rotate_left
      · (intro V hV; (try dsimp only at hV); go_simp; with_reducible rfl)
      try simp only [Act.put, List.setIfInBounds_toArray, List.set_cons_zero, List.set_cons_succ]
      refine wpAnyK_step (i := 10) (by kernel_rfl) rfl rfl (fun K hK => ?_)
      go_simp
      refine hK.out _ _ (fun _ h => absurd (by simp) h) ?_
      clear hK K
      refine wpAnyK_done (by kernel_rfl) ?_ _
      (try simp only [Exit.then])
      go_wp2_with fail
      go_meet
      exact hide ⟨x', HR7.out, HO7.out, HK7.out, HB7.out, HON7.out⟩
    case rest =>
      obtain ⟨x', hx', hO, hK, hB, hN⟩ := hcut.out
      have hxm := List.mem_of_getElem? HX.out
      obtain ⟨y, hy⟩ : ∃ y, (X.set m x')[k]? = some y := ⟨_, List.getElem?_eq_getElem (by rw [List.length_set]; have := hO.len; rw [List.length_set] at this; omega)⟩
      have hym := List.mem_of_getElem? hy
      obtain ⟨⟨d0, d1, d2, d3, d4, d5⟩, hfz⟩ := hO.cells hy
      have f2 := hfz (k * 6 + 2)
      have k6 := one_ hK
      have i1 := fun W => nd_at0 g n c k (k : Int) rfl hk W
      have hyl : 0 ≤ y.r.links ∧ y.r.links ≤ 1000000 := by
        rcases List.mem_or_eq_of_mem_set hym with h | h
        · exact (HS.out y h).2
        · rw [h, hx']; exact (HS.out x hxm).2
      have hwr : IntKind.i64.wrap (y.r.links + 1) = y.r.links + 1 := by simp [IntKind.wrap, IntKind.bits, IntKind.signed]; omega
      have hgC := HGC.out
      have HOP := hide (hO.set_ hBC (k := k) (j := 2) (x' := ⟨{ y.r with links := y.r.links + 1 }, y.D, y.dn, y.dc, y.M, y.mn, y.mc⟩) (v := .int .i64 (y.r.links + 1)) hk (by omega) (fun z hz => by rw [hy] at hz; injection hz with hz; subst hz; rfl)
        ⟨(hO.ok y hym).d, (hO.ok y hym).n⟩ (hO.off _ rfl y hym) (hO.lo y hym) (hO.hi y hym) (hO.cap y hym))
      have hls : nds ((X.set m x').set k ⟨{ y.r with links := y.r.links + 1 }, y.D, y.dn, y.dc, y.M, y.mn, y.mc⟩) = insP (nds X) (m : Int) s (k : Int) := by
        have e1 : modA (nds X) (m : Int) (fun n => { n with names := insN n.names s (k : Int) }) = nds (X.set m x') := by
          unfold modA
          rw [nds_set, nds_at HX.out, hx']
          rfl
        unfold insP
        rw [e1]
        unfold modA
        rw [nds_set, nds_at hy]
        rfl
      have HLS := hide hls
      have HBE := hide (hB.setCell (p := ⟨g, k * 6 + 2, none⟩) (by show C ≤ g; omega) (.int .i64 (y.r.links + 1)))
      have HNE := hide (hN.put (j := k * 6 + 2) (.int .i64 (y.r.links + 1)))
      clear hN hx' hO hK hB hxm hy hym hfz d0 d1 d3 d4 d5 hyl hls hgC s2
      go_wp2_with fail
      go_end0
      exact ⟨rfl, _, HOP.out, HLS.out, HBE.out, HNE.out⟩
end Go.Proofs.YtlcoapignfmgcaaGreatDoor
