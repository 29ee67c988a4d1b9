/- The document's drop. -/
import Derived.Test.YtlcoapignfmgcaaGreatDoorNsB
namespace Go.Proofs.YtlcoapignfmgcaaGreatDoor
open Go.RowKit
set_option linter.unusedVariables false
theorem modA_comm {l : List ND} {i j : Nat} (hi : i < l.length) (hj : j < l.length) {f g : ND → ND} (hfg : ∀ n, f (g n) = g (f n)) : modA (modA l (i : Int) f) (j : Int) g = modA (modA l (j : Int) g) (i : Int) f := by
  have h1 : ∀ (l : List ND) (k : Nat) (h : ND → ND), modA l (k : Int) h = l.set k (h (ndAt l (k : Int))) := fun l k h => by unfold modA; rw [Int.toNat_natCast]
  by_cases e : i = j
  · subst e
    rw [h1 (modA l (i : Int) f), h1 (modA l (i : Int) g), ndAt_modA hi, ndAt_modA hi, Int.toNat_natCast, if_pos rfl, if_pos rfl, h1, h1, List.set_set, List.set_set, hfg]
  · rw [h1 (modA l (i : Int) f), h1 (modA l (j : Int) g), ndAt_modA hi, ndAt_modA hj, Int.toNat_natCast, Int.toNat_natCast, if_neg (fun h => e h.symm), if_neg e, h1, h1, List.set_comm _ _ e]
theorem sl_aftI (A : Option Addr) (n c q : Nat) (hq : q ≤ n) (i : Int) (hi : i = (q : Int)) (W : World) : (Instr.slice 26 (.slice A n c) (some (.int .i64 i)) none none).run Tryz.prog W = .ok (.slice (aftA A c q) (n - q) (c - q)) W := by
  subst hi
  exact sl_aft A n c q hq W
set_option maxRecDepth 100000 in
set_option maxHeartbeats 16000000 in
theorem rdrop_c (B C g n c m k q : Nat) (X : List DV) (s : List UInt8) (y : NM) (w : World) (hO : OG B C w (some ⟨g, 0, none⟩) n c X) (hBC : B ≤ C) (hCw : C ≤ w.heap.size) (hs : Okay X) (hm : m < n) (hk : k < n)
    (hq : findP (ndAt (nds X) (m : Int)).names s = q) (hy : (ndAt (nds X) (m : Int)).names[q]? = some y) (hyk : y.node = (k : Int)) (hlk : (lkP (nds X) (m : Int) s).1 = (k : Int)) :
    Calls Tryz.prog 45 #[.agg #[.slice (some ⟨g, 0, none⟩) n c], .int .i64 (m : Int), .int .i64 (q : Int)] w fun e w' => e = .returned (.tuple #[]) ∧ ∃ X', OG B C w' (some ⟨g, 0, none⟩) n c X' ∧ nds X' = remP (nds X) (m : Int) s ∧ Below C w w' ∧ Only g w w' := by
  obtain ⟨x, hx⟩ : ∃ x, X[m]? = some x := ⟨_, List.getElem?_eq_getElem (by have := hO.len; omega)⟩
  obtain ⟨z, hz⟩ : ∃ z, X[k]? = some z := ⟨_, List.getElem?_eq_getElem (by have := hO.len; omega)⟩
  have hxm := List.mem_of_getElem? hx
  have hzm := List.mem_of_getElem? hz
  rw [nds_at hx] at hq hy
  have hgC : C ≤ g ∧ g < w.heap.size := by obtain ⟨g1, e1, h0, h1⟩ := hO.addr (by omega); injection e1 with e1; injection e1 with e1 _; omega
  obtain ⟨W1, hW1⟩ : ∃ W, w.alloc (.cells #[.slice (some ⟨g, 0, none⟩) n c] 24) = W := ⟨_, rfl⟩
  have h1 : Blk W1 w.heap.size 24 #[.slice (some ⟨g, 0, none⟩) n c] := by rw [← hW1]; exact Blk.new w _ _
  have b1 : Below w.heap.size w W1 := by rw [← hW1]; exact on_alloc _ _
  have hO1 := hO.below b1
  have hNL := (hO.ok x hxm).nl
  have hqx : q < x.mn := by have := (List.getElem?_eq_some_iff.1 hy).1; omega
  have hmx := (hs x hxm).1
  have hcp := hO.cap x hxm
  obtain ⟨⟨d0, d1, d2, d3, d4, d5⟩, hfz⟩ := hO1.cells hx
  obtain ⟨⟨c0, c1, c2, c3, c4, c5⟩, -⟩ := hO1.cells hz
  obtain ⟨gn, on, y', hM, hgn, hy', n0, n1⟩ := nm_cells ((hO.ok x hxm).n.below b1) hqx
  obtain rfl : y = y' := by rw [hy] at hy'; injection hy'
  rw [hyk] at n1
  have i1 := fun W => nd_at0 g n c m (m : Int) rfl hm W
  have i2 := fun W => nd_at0 g n c k (k : Int) rfl hk W
  have i3 := fun W => nm_atA hM x.mn x.mc q (q : Int) rfl hqx W
  have hzl := (hs z hzm).2
  have hwr : IntKind.i64.wrap (z.r.links - 1) = z.r.links - 1 := by simp [IntKind.wrap, IntKind.bits, IntKind.signed]; omega
  have HX := hide hx
  have HZ := hide hz
  have HQ := hide hq
  have HLK := hide hlk
  have HNL := hide hNL
  have HGC := hide hgC
  have HMX := hide hmx
  have HCP := hide hcp
  have hpg : w.heap.size ≠ g := by omega
  have hkl : k < X.length := (List.getElem?_eq_some_iff.1 hz).1
  have hml : m < X.length := (List.getElem?_eq_some_iff.1 hx).1
  have HXL := hide (And.intro hml hkl)
  obtain ⟨z1, hz1⟩ : ∃ z1 : DV, (⟨{ z.r with links := z.r.links - 1 }, z.D, z.dn, z.dc, z.M, z.mn, z.mc⟩ : DV) = z1 := ⟨_, rfl⟩
  have HO1 := hide hO1
  have HK1 := hide h1
  have HB1 := hide b1
  have hset := fun (V : World) (hV : OG B C V (some ⟨g, 0, none⟩) n c X) => hV.set_ hBC (k := k) (j := 2) (x' := z1) (v := .int .i64 (z.r.links - 1)) hk (by omega) (fun y hy => by rw [hz] at hy; injection hy with hy; subst hy; rw [← hz1]; rfl)
        (by rw [← hz1]; exact ⟨(hV.ok z hzm).d, (hV.ok z hzm).n⟩) (by rw [← hz1]; exact hV.off _ rfl z hzm) (by rw [← hz1]; exact hV.lo z hzm) (by rw [← hz1]; exact hV.hi z hzm) (by rw [← hz1]; exact hV.cap z hzm)
  have HSET := hide hset
  have HZ1 := hide hz1
  have k0 := one_ h1
  clear hM hO hs hx hz hxm hzm hgC h1 b1 hq hy hyk hlk hO1 hNL hcp c0 c1 c3 c4 c5 d0 d1 d2 d3 d5 hfz hy' n0 hzl hset hz1 hkl hml
  go_enter Tryz.func45, Tryz.ntmps45
  go_upto_region 2 with (first | rw [hW1] | fail)
  clear hW1
  go_cut [] (fun wx => Hid (OG B C wx (some ⟨g, 0, none⟩) n c (X.set k z1) ∧ Blk wx w.heap.size 24 #[.slice (some ⟨g, 0, none⟩) n c] ∧ Below C w wx ∧ w.heap.size < wx.heap.size ∧ Only g w wx))
  case first =>
    have hdr : Below W1.heap.size W1 (World.drew W1) := bl_drewN (n := 1) (Below.refl _ _)
    obtain ⟨wd, hwd⟩ : ∃ W, World.drew W1 = W := ⟨_, rfl⟩
    rw [hwd] at hdr
    have HOd := hide (HO1.out.below hdr)
    have HKd := hide (HK1.out.below hdr HK1.out.lt)
    have HBd := hide (HB1.out.trans (hdr.mono HB1.out.size))
    have s0 := one_ HKd.out
    have s1 : wd.cell? ⟨gn, on + q * 2 + 1, none⟩ = some (.int .i64 (k : Int)) := by rw [hdr.cell (by exact Nat.lt_of_lt_of_le hgn HB1.out.size)]; exact n1
    have s2 : wd.cell? ⟨g, k * 6 + 2, none⟩ = some (.int .i64 z.r.links) := (HOd.out.cells HZ.out).1.2.2.1
    refine wp_region_K (fun V' : World => V'.cell? ⟨w.heap.size, 0, none⟩ = some (.slice (some ⟨g, 0, none⟩) n c) ∧ V'.cell? ⟨gn, on + q * 2 + 1, none⟩ = some (.int .i64 (k : Int)) ∧ V'.cell? ⟨g, k * 6 + 2, none⟩ = some (.int .i64 z.r.links)) [13] rfl (by rw [hwd]; exact ⟨s0, s1, s2⟩) (fun hHeld => ?_)
    rw [hwd] at hHeld ⊢
    have f2 := (HOd.out.cells HZ.out).2 (k * 6 + 2)
    have HO7 := hide (HSET.out wd HOd.out)
    have HK7 := hide (HKd.out.far (p := ⟨g, k * 6 + 2, none⟩) hpg (.int .i64 (z.r.links - 1)))
    have HB7 := hide ((HBd.out.mono hCw).setCell (p := ⟨g, k * 6 + 2, none⟩) (by show C ≤ g; exact HGC.out.1) (.int .i64 (z.r.links - 1)))
    have HN7 := hide ((Only.of (g := g) HBd.out).put (j := k * 6 + 2) (.int .i64 (z.r.links - 1)))
    have HS7 : Hid (w.heap.size < (wd.setCell ⟨g, k * 6 + 2, none⟩ (.int .i64 (z.r.links - 1))).heap.size) := hide HK7.out.lt
    clear hdr s0 s1 hwd n1 c2 d4 k0 HO1 HK1 HB1 HOd HKd HBd
    refine wpAnyK_take (i := 0) (v := ?_) rfl rfl (by kernel_rfl) (fun _ _ _ h => h) (Or.inl ⟨by rfl, ?_⟩) (by assumption) ?_
    rotate_left
    · (intro V hV; (try dsimp only at hV); go_simp; with_reducible rfl)
    try simp only [Act.put, List.setIfInBounds_toArray, List.set_cons_zero, List.set_cons_succ]
    refine wpAnyK_take (i := 1) (v := ?_) rfl rfl (by kernel_rfl) (fun _ _ _ h => h) (Or.inl ⟨by rfl, ?_⟩) (by assumption) ?_
    rotate_left
    · (intro V hV; (try dsimp only at hV); go_simp; with_reducible rfl)
    try simp only [Act.put, List.setIfInBounds_toArray, List.set_cons_zero, List.set_cons_succ]
    refine wpAnyK_take (i := 2) (v := ?_) rfl rfl (by kernel_rfl) (fun _ _ _ h => h) (Or.inl ⟨by rfl, ?_⟩) (by assumption) ?_
    rotate_left
    · (intro V hV; (try dsimp only at hV); go_simp; with_reducible rfl)
    try simp only [Act.put, List.setIfInBounds_toArray, List.set_cons_zero, List.set_cons_succ]
    refine wpAnyK_take (i := 3) (v := ?_) rfl rfl (by kernel_rfl) (fun _ _ _ h => h) (Or.inl ⟨by rfl, ?_⟩) (by assumption) ?_
    rotate_left
    · (intro V hV; (try dsimp only at hV); go_simp; with_reducible rfl)
    try simp only [Act.put, List.setIfInBounds_toArray, List.set_cons_zero, List.set_cons_succ]
    refine wpAnyK_take (i := 4) (v := ?_) rfl rfl (by kernel_rfl) (fun _ _ _ h => h) (Or.inl ⟨by rfl, ?_⟩) (by assumption) ?_
    rotate_left
    · (intro V hV; (try dsimp only at hV); go_simp; with_reducible rfl)
    try simp only [Act.put, List.setIfInBounds_toArray, List.set_cons_zero, List.set_cons_succ]
    refine wpAnyK_take (i := 5) (v := ?_) rfl rfl (by kernel_rfl) (fun _ _ _ h => h) (Or.inl ⟨by rfl, ?_⟩) (by assumption) ?_
    rotate_left
    · (intro V hV; (try dsimp only at hV); go_simp; with_reducible rfl)
    try simp only [Act.put, List.setIfInBounds_toArray, List.set_cons_zero, List.set_cons_succ]
    refine wpAnyK_take (i := 6) (v := ?_) rfl rfl (by kernel_rfl) (fun _ _ _ h => h) (Or.inl ⟨by rfl, ?_⟩) (by assumption) ?_
    rotate_left
    · (intro V hV; (try dsimp only at hV); go_simp; with_reducible rfl)
    try simp only [Act.put, List.setIfInBounds_toArray, List.set_cons_zero, List.set_cons_succ]
    refine wpAnyK_take (i := 7) (v := ?_) rfl rfl (by kernel_rfl) (fun _ _ _ h => h) (Or.inl ⟨by rfl, ?_⟩) (by assumption) ?_
    rotate_left
    · (intro V hV; (try dsimp only at hV); go_simp; with_reducible rfl)
    try simp only [Act.put, List.setIfInBounds_toArray, List.set_cons_zero, List.set_cons_succ]
    refine wpAnyK_take (i := 8) (v := ?_) rfl rfl (by kernel_rfl) (fun _ _ _ h => h) (Or.inl ⟨by rfl, ?_⟩) (by assumption) ?_
    rotate_left
    · (intro V hV; (try dsimp only at hV); go_simp; with_reducible rfl)
    try simp only [Act.put, List.setIfInBounds_toArray, List.set_cons_zero, List.set_cons_succ]
    refine wpAnyK_take (i := 9) (v := ?_) rfl rfl (by kernel_rfl) (fun _ _ _ h => h) (Or.inl ⟨by rfl, ?_⟩) (by assumption) ?_
    rotate_left
    · (intro V hV; (try dsimp only at hV); go_simp; with_reducible rfl)
    try simp only [Act.put, List.setIfInBounds_toArray, List.set_cons_zero, List.set_cons_succ]
    refine wpAnyK_take (i := 10) (v := ?_) rfl rfl (by kernel_rfl) (fun _ _ _ h => h) (Or.inl ⟨by rfl, ?_⟩) (by assumption) ?_
    rotate_left
    · (intro V hV; (try dsimp only at hV); go_simp; with_reducible rfl)
    try simp only [Act.put, List.setIfInBounds_toArray, List.set_cons_zero, List.set_cons_succ]
    refine wpAnyK_take (i := 11) (v := ?_) rfl rfl (by kernel_rfl) (fun _ _ _ h => h) (Or.inl ⟨by rfl, ?_⟩) (by assumption) ?_
    rotate_left
    · (intro V hV; (try dsimp only at hV); go_simp; with_reducible rfl)
    try simp only [Act.put, List.setIfInBounds_toArray, List.set_cons_zero, List.set_cons_succ]
    refine wpAnyK_take (i := 12) (v := ?_) rfl rfl (by kernel_rfl) (fun _ _ _ h => h) (Or.inl ⟨by rfl, ?_⟩) (by assumption) ?_
    rotate_left
    · (intro V hV; (try dsimp only at hV); go_simp; with_reducible rfl)
    try simp only [Act.put, List.setIfInBounds_toArray, List.set_cons_zero, List.set_cons_succ]
    refine wpAnyK_step (i := 13) (by kernel_rfl) rfl rfl (fun K hK => ?_)
    go_simp
    refine hK.out _ _ (fun _ h => absurd (by simp) h) ?_
    clear hK K
    refine wpAnyK_done (by kernel_rfl) ?_ _
    (try simp only [Exit.then])
    go_wp2_with fail
    go_meet
    exact hide ⟨HO7.out, HK7.out, HB7.out, HS7.out, HN7.out⟩
  case rest =>
    obtain ⟨hO, hK, hB, hS, hN⟩ := hcut.out
    clear d4 c2 n1 i2 i3 HO1 HK1 HB1 k0 hwr
    obtain ⟨x1, hx1, e1, e2, e3, e4⟩ : ∃ x1, (X.set k z1)[m]? = some x1 ∧ x1.M = x.M ∧ x1.mn = x.mn ∧ x1.mc = x.mc ∧ x1.r.names = x.r.names := by
      by_cases e : k = m
      · subst e
        have hxz : x = z := by have := HX.out; rw [HZ.out] at this; injection this with this; exact this.symm
        refine ⟨z1, by rw [List.getElem?_set]; simp [HXL.out.2], ?_⟩
        rw [← HZ1.out, hxz]
        exact ⟨rfl, rfl, rfl, rfl⟩
      · exact ⟨x, by rw [List.getElem?_set, if_neg e]; exact HX.out, rfl, rfl, rfl, rfl⟩
    have hxm := List.mem_of_getElem? hx1
    have hRX := (hO.ok x1 hxm).n
    rw [e1, e2, e4] at hRX
    have hmx := HMX.out
    have s1 := fun W => sl_pre x.M x.mn x.mc q (by have := HCP.out; omega) W
    have hwq : IntKind.i64.wrap ((q : Int) + 1) = (q : Int) + 1 := by simp [IntKind.wrap, IntKind.bits, IntKind.signed]; omega
    have s2 := fun W => sl_aftI x.M x.mn x.mc (q + 1) (by omega) ((q : Int) + 1) (by omega) W
    have hdr : Below wc.heap.size wc (World.drew wc) := bl_drewN (n := 1) (Below.refl _ _)
    obtain ⟨wd, hwd⟩ : ∃ W, World.drew wc = W := ⟨_, rfl⟩
    rw [hwd] at hdr
    have hKd := hK.below hdr hK.lt
    have s0 := one_ hKd
    go_upto_region 3 with (fail)
    refine wp_region_K (fun V' : World => V'.cell? ⟨w.heap.size, 0, none⟩ = some (.slice (some ⟨g, 0, none⟩) n c)) [15] rfl (by rw [hwd]; exact s0) (fun hHeld => ?_)
    rw [hwd] at hHeld ⊢
    obtain ⟨V2, hV2⟩ : ∃ W, wd.alloc (.cells #[] 59) = W := ⟨_, rfl⟩
    have b2 : Below wd.heap.size wd V2 := by rw [← hV2]; exact on_alloc _ _
    have hE2 : Blk V2 wd.heap.size 59 #[] := by rw [← hV2]; exact Blk.new wd _ _
    have hown2 : V2.ownsRow wd.heap.size 59 2 (.slice (some ⟨wd.heap.size, 0, none⟩) 0 0) 0 [] := ⟨rfl, .inr ⟨wd.heap.size, 0, #[], rfl, Nat.le_refl _, hE2, Nat.le_refl _, by unfold maxLen; omega, rfl, rfl⟩⟩
    have HOWN2 := hide hown2
    have bc2 : Below wc.heap.size wc V2 := hdr.trans (b2.mono hdr.size)
    have HM2 := hide (((hRX.below bc2).more bc2.size).bef (Nat.le_of_lt hqx))
    have HBc2 := hide bc2
    have HB2 := hide b2
    have HS2 := hide b2.size
    have HSd := hide hdr.size
    have hk2 := one_ (hKd.below b2 hKd.lt)
    obtain ⟨i0, hi0, hz0, hz1, hz2⟩ := info_parts infoName
    have HOc := hide hO
    have HKc := hide hK
    have HBc := hide hB
    have HNc := hide hN
    have HRX := hide hRX
    have HX1 := hide hx1
    have HE := hide (And.intro e1 (And.intro e2 (And.intro e3 e4)))
    clear hN hO hK hB hS hx1 e1 e2 e3 e4 hRX hdr hKd s0 hwd b2 hE2 hown2 bc2
    refine wpAnyK_take (i := 0) (v := ?_) rfl rfl (by kernel_rfl) (fun _ _ _ h => h) (Or.inl ⟨by rfl, ?_⟩) (by assumption) ?_
    rotate_left
    · (intro V hV; (try dsimp only at hV); go_simp; with_reducible rfl)
    try simp only [Act.put, List.setIfInBounds_toArray, List.set_cons_zero, List.set_cons_succ]
    refine wpAnyK_take (i := 1) (v := ?_) rfl rfl (by kernel_rfl) (fun _ _ _ h => h) (Or.inl ⟨by rfl, ?_⟩) (by assumption) ?_
    rotate_left
    · (intro V hV; (try dsimp only at hV); go_simp; with_reducible rfl)
    try simp only [Act.put, List.setIfInBounds_toArray, List.set_cons_zero, List.set_cons_succ]
    refine wpAnyK_take (i := 2) (v := ?_) rfl rfl (by kernel_rfl) (fun _ _ _ h => h) (Or.inl ⟨by rfl, ?_⟩) (by assumption) ?_
    rotate_left
    · (intro V hV; (try dsimp only at hV); go_simp; with_reducible rfl)
    try simp only [Act.put, List.setIfInBounds_toArray, List.set_cons_zero, List.set_cons_succ]
    refine wpAnyK_take (i := 4) (v := ?_) rfl rfl (by kernel_rfl) (fun _ _ _ h => h) (Or.inl ⟨by rfl, ?_⟩) (by assumption) ?_
    rotate_left
    · (intro V hV; (try dsimp only at hV); go_simp; with_reducible rfl)
    try simp only [Act.put, List.setIfInBounds_toArray, List.set_cons_zero, List.set_cons_succ]
    refine wpAnyK_take (i := 5) (v := ?_) rfl rfl (by kernel_rfl) (fun _ _ _ h => h) (Or.inl ⟨by rfl, ?_⟩) (by assumption) ?_
    rotate_left
    · (intro V hV; (try dsimp only at hV); go_simp; with_reducible rfl)
    try simp only [Act.put, List.setIfInBounds_toArray, List.set_cons_zero, List.set_cons_succ]
    refine wpAnyK_take (i := 6) (v := ?_) rfl rfl (by kernel_rfl) (fun _ _ _ h => h) (Or.inl ⟨by rfl, ?_⟩) (by assumption) ?_
    rotate_left
    · (intro V hV; (try dsimp only at hV); go_simp; with_reducible rfl)
    try simp only [Act.put, List.setIfInBounds_toArray, List.set_cons_zero, List.set_cons_succ]
    refine wpAnyK_take (i := 8) (v := ?_) rfl rfl (by kernel_rfl) (fun _ _ _ h => h) (Or.inl ⟨by rfl, ?_⟩) (by assumption) ?_
    rotate_left
    · (intro V hV; (try dsimp only at hV); go_simp; with_reducible rfl)
    try simp only [Act.put, List.setIfInBounds_toArray, List.set_cons_zero, List.set_cons_succ]
    refine wpAnyK_take (i := 9) (v := ?_) rfl rfl (by kernel_rfl) (fun _ _ _ h => h) (Or.inl ⟨by rfl, ?_⟩) (by assumption) ?_
    rotate_left
    · (intro V hV; (try dsimp only at hV); go_simp; with_reducible rfl)
    try simp only [Act.put, List.setIfInBounds_toArray, List.set_cons_zero, List.set_cons_succ]
    refine wpAnyK_take (i := 10) (v := ?_) rfl rfl (by kernel_rfl) (fun _ _ _ h => h) (Or.inl ⟨by rfl, ?_⟩) (by assumption) ?_
    rotate_left
    · (intro V hV; (try dsimp only at hV); go_simp; with_reducible rfl)
    try simp only [Act.put, List.setIfInBounds_toArray, List.set_cons_zero, List.set_cons_succ]
    refine wpAnyK_take (i := 11) (v := ?_) rfl rfl (by kernel_rfl) (fun _ _ _ h => h) (Or.inl ⟨by rfl, ?_⟩) (by assumption) ?_
    rotate_left
    · (intro V hV; (try dsimp only at hV); go_simp; with_reducible rfl)
    try simp only [Act.put, List.setIfInBounds_toArray, List.set_cons_zero, List.set_cons_succ]
    refine wpAnyK_step (i := 3) (by kernel_rfl) rfl rfl (fun K hK => ?_)
    go_simp
    try rw [hV2]
    refine hK.out _ _ (fun _ _ => by exact hk2) ?_
    clear hK K hHeld
    simp only [List.setIfInBounds_toArray]
    refine wpAnyK_step (i := 7) (by kernel_rfl) rfl rfl (fun K hK => ?_)
    refine step_append_any _ rfl (.tmp 29) (.tmp 32) 26 rfl wd.heap.size 59 i0 _ 2 24 Tryz.underlying26 hi0 hz0 hz1 hz2 rfl (by omega) (.slice (some ⟨wd.heap.size, 0, none⟩) 0 0) 0 [] rfl (by exact HOWN2.out) V2.heap.size x.M q x.mc (ncs (x.r.names.take q)) rfl (by exact HM2.out) (ncs_one _) (by unfold maxLen; omega) (by omega) (by exact HS2.out) ?_
    intro v1 V3 hown hg hat
    obtain ⟨M3, mc3, rfl⟩ := own_slice hown
    have hnn : 0 + q = q := Nat.zero_add q
    rw [hnn, List.nil_append] at hown
    rw [hnn]
    have b3 : Below wd.heap.size wd V3 := HB2.out.grown hg HS2.out (fun z hz => Nat.le_of_eq (by simpa [Value.ownBlock] using hz))
    have hcV : Below wc.heap.size wc V3 := HBc2.out.grown hg HBc2.out.size (fun z hz => by
      have h1 : wd.heap.size = z := by simpa [Value.ownBlock] using hz
      have h2 := HSd.out
      omega)
    have hK3 := HKc.out.below hcV HKc.out.lt
    have s3 := one_ hK3
    refine hK.out _ _ (fun _ _ => by exact s3) ?_
    have HW3 := hide hown
    have HM3 := hide (((HRX.out.below hcV).more hcV.size).aft (show q + 1 ≤ x.mn by omega) HCP.out)
    have HC3 := hide hcV
    have HS3 := hide b3.size
    clear hK K hown hg hat b3 hcV s3 hK3 hnn
    simp only [Act.put, List.setIfInBounds_toArray, List.set_cons_zero, List.set_cons_succ]
    refine wpAnyK_step (i := 12) (by kernel_rfl) rfl rfl (fun K hK => ?_)
    refine step_append_any _ rfl (.tmp 33) (.tmp 37) 26 rfl wd.heap.size 59 i0 _ 2 24 Tryz.underlying26 hi0 hz0 hz1 hz2 rfl (by omega) (.slice M3 q mc3) q (ncs (x.r.names.take q)) rfl (by exact HW3.out) V3.heap.size (aftA x.M x.mc (q + 1)) (x.mn - (q + 1)) (x.mc - (q + 1)) (ncs (x.r.names.drop (q + 1))) rfl (by exact HM3.out) (ncs_one _) (by unfold maxLen; omega) (by omega) (by exact HS3.out) ?_
    intro v2 V6 hown hg hat
    obtain ⟨M6, mc6, rfl⟩ := own_slice hown
    have hxs : ncs (x.r.names.take q) ++ ncs (x.r.names.drop (q + 1)) = ncs (remN x.r.names s) := by
      unfold remN
      rw [HQ.out, ncs_append]
    have hn1 : q + (x.mn - (q + 1)) = x.mn - 1 := by omega
    rw [hn1, hxs] at hown
    have b6 : Below wc.heap.size wc V6 := HC3.out.grown hg HC3.out.size (fun z hz => by
      cases M3 with
      | none => simp [Value.ownBlock] at hz
      | some a =>
        have h1 : a.block = z := by simpa [Value.ownBlock] using hz
        have h2 := (own_base HW3.out a rfl).1
        have h3 := HSd.out
        omega)
    have hK6 := HKc.out.below b6 HKc.out.lt
    have hO6 := HOc.out.below b6
    have hgC := HGC.out
    obtain ⟨e1, e2, e3, e4⟩ := HE.out
    have hxm := List.mem_of_getElem? HX1.out
    have hxok := hO6.ok x1 hxm
    have hlo6 : Lo M6 (x.mn - 1) wd.heap.size := lo_own hown
    have hsd := HSd.out
    have hkl := HKc.out.lt
    obtain ⟨x', hx'⟩ : ∃ x' : DV, (⟨{ x1.r with names := remN x1.r.names s }, x1.D, x1.dn, x1.dc, M6, x.mn - 1, mc6⟩ : DV) = x' := ⟨_, rfl⟩
    have HO7 := hide (hO6.set_ hBC (k := m) (j := 4) (x' := x') (v := .slice M6 (x.mn - 1) mc6) hm (by omega) (fun y hy => by rw [HX1.out] at hy; injection hy with hy; subst hy; rw [← hx']; rfl)
      (by rw [← hx']; exact ⟨hxok.d, by rw [e4]; exact Reads.of_own hown⟩) (by rw [← hx']; exact hlo6.off (by omega)) (by rw [← hx']; exact hlo6.less (by omega)) (by rw [← hx']; exact hO6.hi x1 hxm) (by rw [← hx']; exact own_cap hown))
    have hls : nds ((X.set k z1).set m x') = remP (nds X) (m : Int) s := by
      unfold remP
      rw [HLK.out, modA_comm (by rw [nds_length]; exact HXL.out.1) (by rw [nds_length]; exact HXL.out.2) (f := fun n => { n with names := remN n.names s }) (g := fun n => { n with links := n.links - 1 }) (fun n => rfl)]
      have e1 : modA (nds X) (k : Int) (fun n => { n with links := n.links - 1 }) = nds (X.set k z1) := by
        unfold modA
        rw [nds_set, nds_at HZ.out, ← HZ1.out]
        rfl
      rw [e1]
      unfold modA
      rw [nds_set, nds_at HX1.out, ← hx']
      rfl
    have HLS := hide hls
    have HBE := hide ((HBc.out.trans (b6.mono (by have := HBc.out.size; omega))).setCell (p := ⟨g, m * 6 + 4, none⟩) (by show C ≤ g; omega) (.slice M6 (x.mn - 1) mc6))
    have HNE := hide ((HNc.out.then b6).put (j := m * 6 + 4) (.slice M6 (x.mn - 1) mc6))
    obtain ⟨⟨d0, d1, d2, d3, d4, d5⟩, hfz⟩ := hO6.cells HX1.out
    have f4 := hfz (m * 6 + 4)
    have s6 := one_ hK6
    rw [hn1]
    refine hK.out _ _ (fun _ _ => by exact s6) ?_
    clear hK K hown hg hat hxs b6 hK6 hO6 hgC e1 e2 e3 e4 hxm hxok hlo6 hx' d0 d1 d2 d3 d5 hfz hls
    simp only [Act.put, List.setIfInBounds_toArray, List.set_cons_zero, List.set_cons_succ]
    refine wpAnyK_takeF (i := 13) (v := ?_) rfl rfl (by kernel_rfl) (fun _ _ _ h => h) (Or.inl ⟨by rfl, ?_⟩) ?_
    rotate_left
    · (intro V hV; (try dsimp only at hV); go_simp; with_reducible rfl)
    try simp only [Act.put, List.setIfInBounds_toArray, List.set_cons_zero, List.set_cons_succ]
    refine wpAnyK_takeF (i := 14) (v := ?_) rfl rfl (by kernel_rfl) (fun _ _ _ h => h) (Or.inl ⟨by rfl, ?_⟩) ?_
    rotate_left
    · (intro V hV; (try dsimp only at hV); go_simp; with_reducible rfl)
    try simp only [Act.put, List.setIfInBounds_toArray, List.set_cons_zero, List.set_cons_succ]
    refine wpAnyK_step (i := 15) (by kernel_rfl) rfl rfl (fun K hK => ?_)
    go_simp
    refine hK.out _ _ (fun _ h => absurd (by simp) h) ?_
    clear hK K
    refine wpAnyK_done (by kernel_rfl) ?_ _
    (try simp only [Exit.then])
    go_wp2_with fail
    go_end0
    exact ⟨rfl, _, HO7.out, HLS.out, HBE.out, HNE.out⟩
end Go.Proofs.YtlcoapignfmgcaaGreatDoor
