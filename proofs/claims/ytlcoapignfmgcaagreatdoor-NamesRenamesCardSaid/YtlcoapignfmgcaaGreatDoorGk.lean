/- names.insert. names.remove. names.checkFile, replaceable, Trunc. -/
import Derived.Test.YtlcoapignfmgcaaGreatDoorGi
import Derived.Test.YtlcoapignfmgcaaGreatDoorGj
import Derived.ArgAppend
namespace Go.Proofs.YtlcoapignfmgcaaGreatDoor
open Go.RowKit
set_option linter.unusedVariables false
theorem ncs_drop : ∀ (l : List NM) (q : Nat), ncs (l.drop q) = (ncs l).drop (q * 2)
  | l, 0 => by simp
  | [], q + 1 => by simp [ncs]
  | x :: l, q + 1 => by
    rw [List.drop_succ_cons, ncs_drop l q, ncs, show (q + 1) * 2 = q * 2 + 1 + 1 by omega]
    rfl
theorem ncs_take : ∀ (l : List NM) (q : Nat), ncs (l.take q) = (ncs l).take (q * 2)
  | l, 0 => by simp [ncs]
  | [], q + 1 => by simp [ncs]
  | x :: l, q + 1 => by
    rw [List.take_succ_cons, ncs, ncs, ncs_take l q, show (q + 1) * 2 = q * 2 + 1 + 1 by omega]
    rfl
/-- What lies before a name, and behind. -/
theorem sl_bef (A : Option Addr) (n c q : Nat) (hq : q ≤ c) (W : World) : (Instr.slice 26 (.slice A n c) none (some (.int .i64 (q : Int))) (some (.int .i64 (q : Int)))).run Tryz.prog W = .ok (.slice A q q) W := by
  have hE : Tryz.prog.elem 26 = 59 := by simp [Program.elem, Tryz.underlying26]
  rw [run_slice_hm W 26 A n c (slice_ht Tryz.underlying26) .i64 .i64 (q : Int) (q : Int) (by omega) (by omega) (by omega), hE, run_sizeOf_n sizeName W]
  simp only [Result.andThen, sliced, Int.toNat_natCast, Nat.zero_mul, map_zero_, ite_self, Nat.sub_zero]
def aftA (A : Option Addr) (c q : Nat) : Option Addr := if c = q then A else A.map (fun a => a.add (q * 2))
theorem sl_aft (A : Option Addr) (n c q : Nat) (hq : q ≤ n) (W : World) : (Instr.slice 26 (.slice A n c) (some (.int .i64 (q : Int))) none none).run Tryz.prog W = .ok (.slice (aftA A c q) (n - q) (c - q)) W := by
  have hE : Tryz.prog.elem 26 = 59 := by simp [Program.elem, Tryz.underlying26]
  rw [run_slice_l W 26 A n c (slice_ht Tryz.underlying26) .i64 (q : Int) (by omega) (by omega), hE, run_sizeOf_n sizeName W]
  simp only [Result.andThen, sliced, Int.toNat_natCast]
  rfl
theorem Reads.aft {W : World} {B n c q : Nat} {A : Option Addr} {l : List NM} (h : Reads W B 2 A n (ncs l)) (hq : q ≤ n) (hc : n ≤ c) : Reads W B 2 (aftA A c q) (n - q) (ncs (l.drop q)) := by
  have hl := h.1
  refine ⟨by rw [ncs_drop, List.length_drop, hl]; omega, fun h0 => ?_⟩
  obtain ⟨ad, rfl, hb, hx⟩ := h.2 (by omega)
  refine ⟨ad.add (q * 2), by unfold aftA; rw [if_neg (by omega)]; rfl, by rw [block_of_add]; exact hb, fun j u hj => ?_⟩
  rw [ncs_drop, List.getElem?_drop] at hj
  rw [← hx _ _ hj]
  congr 1
  unfold Addr.add
  by_cases e1 : q * 2 = 0
  · simp [e1]
  · by_cases e2 : j = 0
    · simp [e1, e2]
    · simp [e1, e2]
      omega
theorem nds_set (X : List DV) (m : Nat) (x : DV) : nds (X.set m x) = (nds X).set m x.r := by unfold nds; rw [List.map_set]
theorem hO1r {B : Nat} {w : World} {L : Option Addr} {n c m : Nat} {X : List DV} {x : DV} (h : OF B w L n c X) (hx : X[m]? = some x) : Reads w w.heap.size 2 x.M x.mn (ncs x.r.names) := (h.ok x (List.mem_of_getElem? hx)).n
set_option maxRecDepth 100000 in
set_option maxHeartbeats 8000000 in
theorem insert_c (B p g n c m k : Nat) (X : List DV) (s : List UInt8) (w : World) (hO : OF B w (some ⟨g, 0, none⟩) n c X) (hP : Blk w p 24 #[.slice (some ⟨g, 0, none⟩) n c]) (hBw : B ≤ w.heap.size)
    (hs : ∀ x ∈ X, x.mn ≤ 1000 ∧ 0 ≤ x.r.links ∧ x.r.links ≤ 1000000) (hm : m < n) (hk : k < n) :
    Calls Tryz.prog 35 #[.pointer (some ⟨p, 0, none⟩), .int .i64 (m : Int), .string ⟨s.toArray⟩, .int .i64 (k : Int)] w fun e w' => e = .returned (.tuple #[]) ∧ ∃ X', OF B w' (some ⟨g, 0, none⟩) n c X' ∧ nds X' = insP (nds X) (m : Int) s (k : Int) ∧ Blk w' p 24 #[.slice (some ⟨g, 0, none⟩) n c] ∧ Below B w w' := by
  obtain ⟨x, hx⟩ : ∃ x, X[m]? = some x := ⟨_, List.getElem?_eq_getElem (by have := hO.len; omega)⟩
  have hxm := List.mem_of_getElem? hx
  have XS := hide (search_c (some ⟨g, 0, none⟩) n c X m s w hO.fs (fun x hx => (hs x hx).1) hm)
  rw [nds_at hx] at XS
  obtain ⟨q, hq⟩ : ∃ q, findP x.r.names s = q := ⟨_, rfl⟩
  rw [hq] at XS
  generalize foundP x.r.names s = G at XS
  have HO := hide hO
  have HP := hide hP
  have hpl := hP.lt
  have hgl : g < w.heap.size := by obtain ⟨g1, e1, _, h1⟩ := hO.addr (by omega); injection e1 with e1; injection e1 with e1; omega
  have hmc := (hO.lo x hxm).2.2.2
  have hmn := (hs x hxm).1
  have hnl := (hO.ok x hxm).nl
  have hqm : q ≤ x.mn := by rw [← hq, ← hnl]; exact (bsF_le x.r.names s _ 0 _ (Nat.zero_le _)).2
  have k0 := one_ hP
  have i1 := fun W => nd_at0 g n c m (m : Int) rfl hm W
  have i2 := fun W => nd_at0 g n c k (k : Int) rfl hk W
  have s1 := fun W => sl_bef x.M x.mn x.mc q (by omega) W
  have s2 := fun W => sl_aft x.M x.mn x.mc q hqm W
  clear hO hP
  go_enter Tryz.func35, Tryz.ntmps35
  go_wp2_with fail
  refine XS.out.mono ?_
  rintro e w1 ⟨rfl, hb1⟩
  have HO1 := hide (HO.out.below hb1)
  have HP1 := hide (HP.out.below hb1 hpl)
  obtain ⟨⟨c0, c1, c2, c3, c4, c5⟩, hfz⟩ := HO1.out.cells hx
  have HB1 := hide hb1
  have hg1 : g < w1.heap.size := Nat.lt_of_lt_of_le hgl hb1.size
  clear hb1 XS k0
  have k0 := one_ HP1.out
  go_wp2_with fail
  have HRX := hide ((hO1r HO1.out hx))
  have HMC := hide hmc
  have HS := hide hs
  have HGB : Hid (B ≤ g) := hide (by obtain ⟨g1, e1, h1, _⟩ := HO.out.addr (by omega); injection e1 with e1; injection e1 with e1; omega)
  clear hfz hmc hs
  go_quiet (fail)
  obtain ⟨i0, hi, hz0, hz1, hz2⟩ := info_parts infoName
  go_wp2_with (at_builtin; (refine wpList_append_grows _ rfl (.tmp 42) (.tmp 46) 26 rfl 59 i0 _ 2 24 Tryz.underlying26 hi hz0 hz1 hz2 rfl (by omega) x.M q q ((ncs x.r.names).take (q * 2)) rfl ?c1 ?c2 ?c3 ⟨w1.heap.size, 0, none⟩ 1 1 [.string ⟨s.toArray⟩, .int .i64 (k : Int)] rfl rfl ?c4 ?c5 (by omega) ?c6 ?c7 ?_))
  case c1 => intro h; have := HRX.out.2; rcases Nat.eq_zero_or_pos q with h0 | h0; exact ⟨h0, h0⟩; obtain ⟨ad, e, _⟩ := this (by omega); rw [e] at h; cases h
  case c2 => rw [List.length_take, ncs_length]; omega
  case c3 =>
    intro b hb j u hj
    rw [List.getElem?_take] at hj
    split at hj
    · obtain ⟨ad, e, hbl, hcc⟩ := HRX.out.2 (by omega)
      rw [hb] at e; injection e with e; subst e
      rw [World.cell?_alloc_lt _ _ _ (by rw [block_of_add]; simpa using hbl)]
      exact hcc j u hj
    · cases hj
  case c4 =>
    intro j u hj
    match j, hj with
    | 0, hj => injection hj with hj; subst hj; exact (Blk.new (w1.drewN nq) 59 #[.string ⟨s.toArray⟩, .int .i64 (k : Int)]).cell 0
    | 1, hj => injection hj with hj; subst hj; exact (Blk.new (w1.drewN nq) 59 #[.string ⟨s.toArray⟩, .int .i64 (k : Int)]).cell 1
    | j + 2, hj => simp at hj
  case c5 => intro u hu; simp only [List.mem_cons, List.not_mem_nil, or_false] at hu; rcases hu with rfl | rfl <;> rfl
  case c6 => unfold maxLen; omega
  case c7 => omega
  intro v1 w2 hown1 hg2
  have hb2 : Below w1.heap.size w1 w2 := ((bl_drewN (n := nq) (Below.refl w1.heap.size w1)).alloc (Nat.le_refl _) (.cells #[.string ⟨s.toArray⟩, .int .i64 (k : Int)] 59)).grown hg2 (by simp) (by simp)
  obtain ⟨A1, cc1, rfl⟩ := own_slice hown1
  have HOW := hide (own_more (base' := w1.heap.size) hown1 (by simp))
  have HRA := hide (((HRX.out.aft hqm (HMC.out)).below hb2).more hb2.size)
  clear hown1 hg2 c0 c1 c2 c3 c4 c5 k0
  go_wp2_with (at_builtin; (refine wpList_append_any _ rfl (.tmp 47) (.tmp 48) 26 rfl w1.heap.size 59 i0 _ 2 24 Tryz.underlying26 hi hz0 hz1 hz2 rfl (by omega) (.slice A1 (q + 1) cc1) (q + 1) _ rfl HOW.out w2.heap.size (aftA x.M x.mc q) (x.mn - q) (x.mc - q) (ncs (x.r.names.drop q)) rfl HRA.out (ncs_one _) ?c1 ?c2 ?c3 ?_))
  case c1 => unfold maxLen; omega
  case c2 => omega
  case c3 => exact hb2.size
  intro v2 w3 hown2 hg3 hat3
  have hA1 : ∀ z, (Value.slice A1 (q + 1) cc1).ownBlock = some z → w1.heap.size ≤ z := fun z hz => by
    obtain ⟨g1, cap, cur, hv, hbg, _⟩ := HOW.out.2.resolve_left (fun h => by have := h.2; omega)
    injection hv with hv1
    rw [hv1] at hz
    have hz' : g1 = z := by simpa [Value.ownBlock] using hz
    omega
  have hb3 : Below w1.heap.size w1 w3 := hb2.grown hg3 hb2.size hA1
  obtain ⟨A2, cc2, rfl⟩ := own_slice hown2
  have hxs : (ncs x.r.names).take (q * 2) ++ Value.string ⟨s.toArray⟩ :: Value.int .i64 (k : Int) :: ncs (x.r.names.drop q) = ncs (insN x.r.names s (k : Int)) := by
    unfold insN
    rw [hq, ncs_append, ncs_append, ncs_take, List.append_assoc]
    rfl
  have hn1 : q + 1 + (x.mn - q) = x.mn + 1 := by omega
  rw [hn1] at hown2
  rw [hxs] at hown2
  have HO3 := HO1.out.below hb3
  have HP3 := hide (HP1.out.below hb3 HP1.out.lt)
  have hpg : p ≠ g := by
    have h1 : w3.ownsRow B 28 6 (.slice (some ⟨g, 0, none⟩) n c) n (dcs X) := HO3.own
    have := own_blk_ne h1 HP3.out (by decide)
    intro e
    exact this (by rw [e]; rfl)
  have hlo2 : Lo A2 (x.mn + 1) w1.heap.size := lo_own hown2
  have hB1 : B ≤ w1.heap.size := Nat.le_trans hBw HB1.out.size
  have hxlo := HO3.lo x hxm
  have hxok := HO3.ok x hxm
  have hxof := HO3.off _ rfl x hxm
  obtain ⟨x', hx'⟩ : ∃ x' : DV, (⟨{ x.r with names := insN x.r.names s (k : Int) }, x.D, x.dn, x.dc, A2, x.mn + 1, cc2⟩ : DV) = x' := ⟨_, rfl⟩
  have HO4 := hide (HO3.put (k := m) (j := 4) (x' := x') (v := .slice A2 (x.mn + 1) cc2) hm (by omega) (fun y hy => by rw [hx] at hy; injection hy with hy; subst hy; rw [← hx']; rfl)
    (by rw [← hx']; exact ⟨hxok.d, Reads.of_own hown2⟩) (by rw [← hx']; exact ⟨hxof.1, hlo2.off hg1⟩) (by rw [← hx']; exact ⟨hxlo.1, hlo2.less hB1, hxlo.2.2.1, own_cap hown2⟩))
  obtain ⟨y, hy⟩ : ∃ y, (X.set m x')[k]? = some y := ⟨_, List.getElem?_eq_getElem (by rw [List.length_set]; have := HO3.len; omega)⟩
  obtain ⟨w4, hw4⟩ : ∃ W, w3.setCell ⟨g, m * 6 + 4, none⟩ (.slice A2 (x.mn + 1) cc2) = W := ⟨_, rfl⟩
  have hb4 : Below B w1 w4 := by rw [← hw4]; exact (hb3.mono hB1).setCell (p := ⟨g, m * 6 + 4, none⟩) (HGB.out) _
  have HP4 : Hid (Blk w4 p 24 #[.slice (some ⟨g, 0, none⟩) n c]) := hide (by rw [← hw4]; exact HP3.out.far (p := ⟨g, m * 6 + 4, none⟩) hpg _)
  rw [hw4] at HO4
  obtain ⟨⟨d0, d1, d2, d3, d4, d5⟩, hfz4⟩ := HO4.out.cells hy
  obtain ⟨⟨e0, e1, e2, e3, e4, e5⟩, hfz3⟩ := HO3.cells hx
  have k4 := one_ HP4.out
  have hyl : 0 ≤ y.r.links ∧ y.r.links ≤ 1000000 := by
    rcases List.mem_or_eq_of_mem_set (List.mem_of_getElem? hy) with h | h
    · exact (HS.out y h).2
    · rw [h, ← hx']; exact (HS.out x hxm).2
  have hwr : IntKind.i64.wrap (y.r.links + 1) = y.r.links + 1 := by simp [IntKind.wrap, IntKind.bits, IntKind.signed]; omega
  have f3 := hfz3 (m * 6 + 4)
  have f4 := hfz4 (k * 6 + 2)
  rw [hn1]
  clear hxlo hxok hxof hown2 hA1 hb2 hg3 hat3 HRA HOW HRX HMC hxs HO3 hfz3 hfz4 hlo2 e0 e1 e2 e3 e5 d0 d1 d3 d4 d5 s1 s2
  go_wp2_with (rw [hw4])
  have hym := List.mem_of_getElem? hy
  have hOP := HO4.out.put (k := k) (j := 2) (x' := ⟨{ y.r with links := y.r.links + 1 }, y.D, y.dn, y.dc, y.M, y.mn, y.mc⟩) (v := .int .i64 (y.r.links + 1)) hk (by omega) (fun z hz => by rw [hy] at hz; injection hz with hz; subst hz; rfl)
    ⟨(HO4.out.ok y hym).d, (HO4.out.ok y hym).n⟩ (HO4.out.off _ rfl y hym) (HO4.out.lo y hym)
  have hBB : Below B w w4 := (HB1.out.mono hBw).trans hb4
  have hls : nds ((X.set m x').set k ⟨{ y.r with links := y.r.links + 1 }, y.D, y.dn, y.dc, y.M, y.mn, y.mc⟩) = insP (nds X) (m : Int) s (k : Int) := by
    have e1 : modA (nds X) (m : Int) (fun n => { n with names := insN n.names s (k : Int) }) = nds (X.set m x') := by
      unfold modA
      rw [nds_set, nds_at hx, ← hx']
      rfl
    unfold insP
    rw [e1]
    unfold modA
    rw [nds_set, nds_at hy]
    rfl
  go_end0
  exact ⟨rfl, _, hOP, hls, HP4.out.far (p := ⟨g, k * 6 + 2, none⟩) hpg _, hBB.setCell (p := ⟨g, k * 6 + 2, none⟩) HGB.out _⟩
end Go.Proofs.YtlcoapignfmgcaaGreatDoor
namespace Go.Proofs.YtlcoapignfmgcaaGreatDoor
open Go.RowKit
set_option linter.unusedVariables false
set_option maxRecDepth 100000 in
set_option maxHeartbeats 8000000 in
theorem remove_c (B p g n c m k : Nat) (X : List DV) (s : List UInt8) (w : World) (hO : OF B w (some ⟨g, 0, none⟩) n c X) (hP : Blk w p 24 #[.slice (some ⟨g, 0, none⟩) n c]) (hBw : B ≤ w.heap.size)
    (hs : ∀ x ∈ X, x.mn ≤ 1000 ∧ 0 ≤ x.r.links ∧ x.r.links ≤ 1000000) (hm : m < n) (hk : k < n) (hsrt : sortedP (ndAt (nds X) (m : Int)).names) (hlk : lkP (nds X) (m : Int) s = ((k : Int), true)) :
    Calls Tryz.prog 44 #[.pointer (some ⟨p, 0, none⟩), .int .i64 (m : Int), .string ⟨s.toArray⟩] w fun e w' => e = .returned (.tuple #[]) ∧ ∃ X', OF B w' (some ⟨g, 0, none⟩) n c X' ∧ nds X' = remP (nds X) (m : Int) s ∧ Blk w' p 24 #[.slice (some ⟨g, 0, none⟩) n c] ∧ Below B w w' := by
  obtain ⟨x, hx⟩ : ∃ x, X[m]? = some x := ⟨_, List.getElem?_eq_getElem (by have := hO.len; omega)⟩
  have hxm := List.mem_of_getElem? hx
  have XS := hide (search_c (some ⟨g, 0, none⟩) n c X m s w hO.fs (fun x hx => (hs x hx).1) hm)
  have hsp := lk_found hsrt (s := s)
  rw [nds_at hx] at XS hsp
  obtain ⟨q, hq⟩ : ∃ q, findP x.r.names s = q := ⟨_, rfl⟩
  rw [hq] at XS hsp
  obtain ⟨hfd, z, hz, hzk⟩ : foundP x.r.names s = true ∧ ∃ y, x.r.names[q]? = some y ∧ y.node = (k : Int) := by
    rcases hsp with ⟨h1, y, h2, h3⟩ | ⟨h1, h2⟩
    · rw [hlk] at h3
      injection h3 with h3 h4
      exact ⟨h1, y, h2, h3.symm⟩
    · rw [hlk] at h2
      injection h2 with h2 h4
      cases h4
  rw [hfd] at XS
  clear hsp
  have HO := hide hO
  have HP := hide hP
  have hpl := hP.lt
  have hgl : g < w.heap.size := by obtain ⟨g1, e1, _, h1⟩ := hO.addr (by omega); injection e1 with e1; injection e1 with e1; omega
  have hmc := (hO.lo x hxm).2.2.2
  have hmn := (hs x hxm).1
  have hnl := (hO.ok x hxm).nl
  have hqm : q < x.mn := by have := (List.getElem?_eq_some_iff.1 hz).1; omega
  have k0 := one_ hP
  have i1 := fun W => nd_at0 g n c m (m : Int) rfl hm W
  have i2 := fun W => nd_at0 g n c k (k : Int) rfl hk W
  have s1 := fun W => sl_bef x.M x.mn x.mc q (by omega) W
  have s2 := fun W => sl_aft x.M x.mn x.mc (q + 1) (by omega) W
  have hq1 : ((q + 1 : Nat) : Int) = (q : Int) + 1 := by omega
  rw [hq1] at s2
  have hwq : IntKind.i64.wrap ((q : Int) + 1) = (q : Int) + 1 := by simp [IntKind.wrap, IntKind.bits, IntKind.signed]; omega
  clear hO hP
  go_enter Tryz.func44, Tryz.ntmps44
  go_wp2_with fail
  refine XS.out.mono ?_
  rintro e w1 ⟨rfl, hb1⟩
  have HO1 := hide (HO.out.below hb1)
  have HP1 := hide (HP.out.below hb1 hpl)
  obtain ⟨⟨c0, c1, c2, c3, c4, c5⟩, hfz⟩ := HO1.out.cells hx
  have HB1 := hide hb1
  have hg1 : g < w1.heap.size := Nat.lt_of_lt_of_le hgl hb1.size
  clear hb1 XS k0
  have k0 := one_ HP1.out
  have HRX := hide ((hO1r HO1.out hx))
  obtain ⟨g', o', z', hM, hg', hz', n0, n1⟩ := nm_cells HRX.out hqm
  obtain rfl : z = z' := by rw [hz] at hz'; injection hz'
  have i3 := fun W => nm_at g' o' x.mn x.mc q (q : Int) rfl hqm W
  have HMC := hide hmc
  have HS := hide hs
  have HGB : Hid (B ≤ g) := hide (by obtain ⟨g1, e1, h1, _⟩ := HO.out.addr (by omega); injection e1 with e1; injection e1 with e1; omega)
  have hMh := hide hM
  rw [hM] at s1 s2 c4
  rw [hzk] at n1
  clear hfz hmc hs hz' hM
  go_wp2_with fail
  go_quiet (fail)
  obtain ⟨i0, hi, hz0, hz1, hz2⟩ := info_parts infoName
  have hn1 : q + (x.mn - (q + 1)) = x.mn - 1 := by omega
  have hrl : (ncs x.r.names).take (q * 2) ++ ncs (x.r.names.drop (q + 1)) = ncs (remN x.r.names s) := by
    unfold remN
    rw [hq, ncs_append, ncs_take]
  have hra := hide (HRX.out.aft (q := q + 1) (by omega) HMC.out)
  have hrlen : x.mn - (q + 1) = 0 → (ncs x.r.names).take (q * 2) = ncs (remN x.r.names s) := fun h0 => by
    rw [← hrl, List.drop_of_length_le (by omega)]
    simp [ncs]
  have hcell : ∀ j u, ((ncs x.r.names).take (q * 2))[j]? = some u → w1.cell? ⟨g', o' + j, none⟩ = some u := fun j u hj => by
    rw [List.getElem?_take] at hj
    split at hj
    · obtain ⟨ad, e, hbl, hcc⟩ := HRX.out.2 (by omega)
      rw [hMh.out] at e
      injection e with e
      subst e
      have := hcc j u hj
      rwa [Addr.add_lit] at this
    · cases hj
  obtain ⟨ad, had⟩ : ∃ ad, aftA (some ⟨g', o', none⟩) x.mc (q + 1) = some ad := by unfold aftA; split; exact ⟨_, rfl⟩; exact ⟨_, rfl⟩
  rw [hMh.out, had] at hra
  rw [had]
  have hacell : ∀ j u, (ncs (x.r.names.drop (q + 1)))[j]? = some u → w1.cell? (ad.add j) = some u := fun j u hj => by
    have hlj := (List.getElem?_eq_some_iff.1 hj).1
    rw [ncs_length, List.length_drop] at hlj
    obtain ⟨ad1, e, hbl, hcc⟩ := hra.out.2 (by omega)
    injection e with e
    subst e
    exact hcc j u hj
  go_wp2_with (at_builtin; (refine wpList_append_arg _ rfl (.tmp 50) (.tmp 51) 26 rfl 59 i0 _ 2 24 Tryz.underlying26 hi hz0 hz1 hz2 rfl (by omega) g' o' q q ((ncs x.r.names).take (q * 2)) rfl ?c1 ?c2 ad (x.mn - (q + 1)) (x.mc - (q + 1)) (ncs (x.r.names.drop (q + 1))) rfl ?c3 ?c4 (ncs_one _) ?c5 ?c6 ?c7 ?hroom ?hgrow))
  case c1 => rw [List.length_take, ncs_length]; omega
  case c2 => exact fun j u hj => hcell j u hj
  case c3 => rw [ncs_length, List.length_drop]; omega
  case c4 => exact fun j u hj => hacell j u hj
  case c5 => intro h j hj; rw [ncs_length, List.length_drop] at hj; omega
  case c6 => unfold maxLen; omega
  case c7 => omega
  case hroom =>
    intro h
    have h0 : x.mn - (q + 1) = 0 := by omega
    rw [List.drop_of_length_le (by omega)]
    simp only [ncs, World.setCells]
    try rw [hn1]
    obtain ⟨w2, hw2⟩ : ∃ W, w1.drewN nq = W := ⟨_, rfl⟩
    have hb2 : Below w1.heap.size w1 w2 := by rw [← hw2]; exact bl_drewN (Below.refl _ _)
    have HR2 : Hid (Reads w2 w2.heap.size 2 (some ⟨g', o', none⟩) (x.mn - 1) (ncs (remN x.r.names s))) := hide (by
      rw [← hrlen h0]
      refine ⟨by rw [List.length_take, ncs_length]; omega, fun _ => ⟨⟨g', o', none⟩, rfl, Nat.lt_of_lt_of_le hg' hb2.size, fun j u hj => ?_⟩⟩
      rw [Addr.add_lit, ← hw2]
      exact hcell j u hj)
    rw [hw2]
    go_wp2_with fail
    refine (nlist_any (remN x.r.names s) _ _ _ w2 HR2.out (by omega)).mono ?_
    rintro e w3 ⟨A2, cc2, rfl, hown2, hb3'⟩
    have hb3 : Below w1.heap.size w1 w3 := hb2.trans (hb3'.mono hb2.size)
    have HO3 := HO1.out.below hb3
    have HP3 := hide (HP1.out.below hb3 HP1.out.lt)
    have hpg : p ≠ g := by
      have h1 : w3.ownsRow B 28 6 (.slice (some ⟨g, 0, none⟩) n c) n (dcs X) := HO3.own
      have := own_blk_ne h1 HP3.out (by decide)
      intro e
      exact this (by rw [e]; rfl)
    have hlo2 : Lo A2 (x.mn - 1) w1.heap.size := (lo_own hown2).less hb2.size
    have hB1 : B ≤ w1.heap.size := Nat.le_trans hBw HB1.out.size
    have hxlo := HO3.lo x hxm
    have hxok := HO3.ok x hxm
    have hxof := HO3.off _ rfl x hxm
    obtain ⟨x', hx'⟩ : ∃ x' : DV, (⟨{ x.r with names := remN x.r.names s }, x.D, x.dn, x.dc, A2, x.mn - 1, cc2⟩ : DV) = x' := ⟨_, rfl⟩
    have HO4 := hide (HO3.put (k := m) (j := 4) (x' := x') (v := .slice A2 (x.mn - 1) cc2) hm (by omega) (fun y hy => by rw [hx] at hy; injection hy with hy; subst hy; rw [← hx']; rfl)
      (by rw [← hx']; exact ⟨hxok.d, Reads.of_own hown2⟩) (by rw [← hx']; exact ⟨hxof.1, hlo2.off hg1⟩) (by rw [← hx']; exact ⟨hxlo.1, hlo2.less hB1, hxlo.2.2.1, own_cap hown2⟩))
    obtain ⟨y, hy⟩ : ∃ y, (X.set m x')[k]? = some y := ⟨_, List.getElem?_eq_getElem (by rw [List.length_set]; have := HO3.len; omega)⟩
    obtain ⟨w4, hw4⟩ : ∃ W, w3.setCell ⟨g, m * 6 + 4, none⟩ (.slice A2 (x.mn - 1) cc2) = W := ⟨_, rfl⟩
    have hb4 : Below B w1 w4 := by rw [← hw4]; exact (hb3.mono hB1).setCell (p := ⟨g, m * 6 + 4, none⟩) (HGB.out) _
    have HP4 : Hid (Blk w4 p 24 #[.slice (some ⟨g, 0, none⟩) n c]) := hide (by rw [← hw4]; exact HP3.out.far (p := ⟨g, m * 6 + 4, none⟩) hpg _)
    rw [hw4] at HO4
    obtain ⟨⟨d0, d1, d2, d3, d4, d5⟩, hfz4⟩ := HO4.out.cells hy
    obtain ⟨⟨e0, e1, e2, e3, e4, e5⟩, hfz3⟩ := HO3.cells hx
    have k4 := one_ HP4.out
    have hyl : 0 ≤ y.r.links ∧ y.r.links ≤ 1000000 := by
      rcases List.mem_or_eq_of_mem_set (List.mem_of_getElem? hy) with h | h
      · exact (HS.out y h).2
      · rw [h, ← hx']; exact (HS.out x hxm).2
    have hwr : IntKind.i64.wrap (y.r.links - 1) = y.r.links - 1 := by simp [IntKind.wrap, IntKind.bits, IntKind.signed]; omega
    have f3 := hfz3 (m * 6 + 4)
    have f4 := hfz4 (k * 6 + 2)
    clear hxlo hxok hxof hown2 hb2 hb3' HR2 HRX HMC HO3 hfz3 hfz4 hlo2 e0 e1 e2 e3 e5 d0 d1 d3 d4 d5 s1 s2 c0 c1 c2 c3 c4 c5 n0 n1 k0 hra hacell hcell
    go_wp2_with (rw [hw4])
    have hym := List.mem_of_getElem? hy
    have hOP := HO4.out.put (k := k) (j := 2) (x' := ⟨{ y.r with links := y.r.links - 1 }, y.D, y.dn, y.dc, y.M, y.mn, y.mc⟩) (v := .int .i64 (y.r.links - 1)) hk (by omega) (fun z hz => by rw [hy] at hz; injection hz with hz; subst hz; rfl)
      ⟨(HO4.out.ok y hym).d, (HO4.out.ok y hym).n⟩ (HO4.out.off _ rfl y hym) (HO4.out.lo y hym)
    have hBB : Below B w w4 := (HB1.out.mono hBw).trans hb4
    have hls : nds ((X.set m x').set k ⟨{ y.r with links := y.r.links - 1 }, y.D, y.dn, y.dc, y.M, y.mn, y.mc⟩) = remP (nds X) (m : Int) s := by
      have e1 : modA (nds X) (m : Int) (fun n => { n with names := remN n.names s }) = nds (X.set m x') := by
        unfold modA
        rw [nds_set, nds_at hx, ← hx']
        rfl
      unfold remP
      rw [e1, hlk]
      unfold modA
      rw [nds_set, nds_at hy]
      rfl
    go_end0
    exact ⟨rfl, _, hOP, hls, HP4.out.far (p := ⟨g, k * 6 + 2, none⟩) hpg _, hBB.setCell (p := ⟨g, k * 6 + 2, none⟩) HGB.out _⟩
  case hgrow =>
    intro h v1 w2 hown1 hg2
    have hb2 : Below w1.heap.size w1 w2 := (bl_drewN (n := nq) (Below.refl w1.heap.size w1)).grown hg2 (Nat.le_refl _) (by simp)
    obtain ⟨A1, cc1, rfl⟩ := own_slice hown1
    try rw [hn1] at hown1
    try rw [hrl] at hown1
    try rw [hn1]
    have HR2 := hide (Reads.of_own hown1)
    clear hown1 hg2
    go_wp2_with fail
    refine (nlist_any (remN x.r.names s) _ _ _ w2 HR2.out (by omega)).mono ?_
    rintro e w3 ⟨A2, cc2, rfl, hown2, hb3'⟩
    have hb3 : Below w1.heap.size w1 w3 := hb2.trans (hb3'.mono hb2.size)
    have HO3 := HO1.out.below hb3
    have HP3 := hide (HP1.out.below hb3 HP1.out.lt)
    have hpg : p ≠ g := by
      have h1 : w3.ownsRow B 28 6 (.slice (some ⟨g, 0, none⟩) n c) n (dcs X) := HO3.own
      have := own_blk_ne h1 HP3.out (by decide)
      intro e
      exact this (by rw [e]; rfl)
    have hlo2 : Lo A2 (x.mn - 1) w1.heap.size := (lo_own hown2).less hb2.size
    have hB1 : B ≤ w1.heap.size := Nat.le_trans hBw HB1.out.size
    have hxlo := HO3.lo x hxm
    have hxok := HO3.ok x hxm
    have hxof := HO3.off _ rfl x hxm
    obtain ⟨x', hx'⟩ : ∃ x' : DV, (⟨{ x.r with names := remN x.r.names s }, x.D, x.dn, x.dc, A2, x.mn - 1, cc2⟩ : DV) = x' := ⟨_, rfl⟩
    have HO4 := hide (HO3.put (k := m) (j := 4) (x' := x') (v := .slice A2 (x.mn - 1) cc2) hm (by omega) (fun y hy => by rw [hx] at hy; injection hy with hy; subst hy; rw [← hx']; rfl)
      (by rw [← hx']; exact ⟨hxok.d, Reads.of_own hown2⟩) (by rw [← hx']; exact ⟨hxof.1, hlo2.off hg1⟩) (by rw [← hx']; exact ⟨hxlo.1, hlo2.less hB1, hxlo.2.2.1, own_cap hown2⟩))
    obtain ⟨y, hy⟩ : ∃ y, (X.set m x')[k]? = some y := ⟨_, List.getElem?_eq_getElem (by rw [List.length_set]; have := HO3.len; omega)⟩
    obtain ⟨w4, hw4⟩ : ∃ W, w3.setCell ⟨g, m * 6 + 4, none⟩ (.slice A2 (x.mn - 1) cc2) = W := ⟨_, rfl⟩
    have hb4 : Below B w1 w4 := by rw [← hw4]; exact (hb3.mono hB1).setCell (p := ⟨g, m * 6 + 4, none⟩) (HGB.out) _
    have HP4 : Hid (Blk w4 p 24 #[.slice (some ⟨g, 0, none⟩) n c]) := hide (by rw [← hw4]; exact HP3.out.far (p := ⟨g, m * 6 + 4, none⟩) hpg _)
    rw [hw4] at HO4
    obtain ⟨⟨d0, d1, d2, d3, d4, d5⟩, hfz4⟩ := HO4.out.cells hy
    obtain ⟨⟨e0, e1, e2, e3, e4, e5⟩, hfz3⟩ := HO3.cells hx
    have k4 := one_ HP4.out
    have hyl : 0 ≤ y.r.links ∧ y.r.links ≤ 1000000 := by
      rcases List.mem_or_eq_of_mem_set (List.mem_of_getElem? hy) with h | h
      · exact (HS.out y h).2
      · rw [h, ← hx']; exact (HS.out x hxm).2
    have hwr : IntKind.i64.wrap (y.r.links - 1) = y.r.links - 1 := by simp [IntKind.wrap, IntKind.bits, IntKind.signed]; omega
    have f3 := hfz3 (m * 6 + 4)
    have f4 := hfz4 (k * 6 + 2)
    clear hxlo hxok hxof hown2 hb2 hb3' HR2 HRX HMC HO3 hfz3 hfz4 hlo2 e0 e1 e2 e3 e5 d0 d1 d3 d4 d5 s1 s2 c0 c1 c2 c3 c4 c5 n0 n1 k0 hra hacell hcell
    go_wp2_with (rw [hw4])
    have hym := List.mem_of_getElem? hy
    have hOP := HO4.out.put (k := k) (j := 2) (x' := ⟨{ y.r with links := y.r.links - 1 }, y.D, y.dn, y.dc, y.M, y.mn, y.mc⟩) (v := .int .i64 (y.r.links - 1)) hk (by omega) (fun z hz => by rw [hy] at hz; injection hz with hz; subst hz; rfl)
      ⟨(HO4.out.ok y hym).d, (HO4.out.ok y hym).n⟩ (HO4.out.off _ rfl y hym) (HO4.out.lo y hym)
    have hBB : Below B w w4 := (HB1.out.mono hBw).trans hb4
    have hls : nds ((X.set m x').set k ⟨{ y.r with links := y.r.links - 1 }, y.D, y.dn, y.dc, y.M, y.mn, y.mc⟩) = remP (nds X) (m : Int) s := by
      have e1 : modA (nds X) (m : Int) (fun n => { n with names := remN n.names s }) = nds (X.set m x') := by
        unfold modA
        rw [nds_set, nds_at hx, ← hx']
        rfl
      unfold remP
      rw [e1, hlk]
      unfold modA
      rw [nds_set, nds_at hy]
      rfl
    go_end0
    exact ⟨rfl, _, hOP, hls, HP4.out.far (p := ⟨g, k * 6 + 2, none⟩) hpg _, hBB.setCell (p := ⟨g, k * 6 + 2, none⟩) HGB.out _⟩
end Go.Proofs.YtlcoapignfmgcaaGreatDoor
namespace Go.Proofs.YtlcoapignfmgcaaGreatDoor
open Go.RowKit
set_option linter.unusedVariables false
theorem ivs_one (w : World) (k : Int) (t : TypeId) : Reads (w.alloc (.cells #[.int .i64 k] t)) (w.alloc (.cells #[.int .i64 k] t)).heap.size 1 (some ⟨w.heap.size, 0, none⟩) 1 (ivs [k]) := by
  refine ⟨rfl, fun _ => ⟨_, rfl, by simp, fun j u hj => ?_⟩⟩
  match j, hj with
  | 0, hj => injection hj with hj; subst hj; exact (Blk.new w t #[.int .i64 k]).cell 0
  | j + 1, hj => simp [ivs] at hj
theorem ivs_two (w : World) (k d : Int) (t : TypeId) : Reads (w.alloc (.cells #[.int .i64 k, .int .i64 d] t)) (w.alloc (.cells #[.int .i64 k, .int .i64 d] t)).heap.size 1 (some ⟨w.heap.size, 0, none⟩) 2 (ivs [k, d]) := by
  refine ⟨rfl, fun _ => ⟨_, rfl, by simp, fun j u hj => ?_⟩⟩
  match j, hj with
  | 0, hj => injection hj with hj; subst hj; exact (Blk.new w t #[.int .i64 k, .int .i64 d]).cell 0
  | 1, hj => injection hj with hj; subst hj; exact (Blk.new w t #[.int .i64 k, .int .i64 d]).cell 1
  | j + 2, hj => simp [ivs] at hj
theorem ivs_three (w : World) (k d m : Int) (t : TypeId) : Reads (w.alloc (.cells #[.int .i64 k, .int .i64 d, .int .i64 m] t)) (w.alloc (.cells #[.int .i64 k, .int .i64 d, .int .i64 m] t)).heap.size 1 (some ⟨w.heap.size, 0, none⟩) 3 (ivs [k, d, m]) := by
  refine ⟨rfl, fun _ => ⟨_, rfl, by simp, fun j u hj => ?_⟩⟩
  match j, hj with
  | 0, hj => injection hj with hj; subst hj; exact (Blk.new w t #[.int .i64 k, .int .i64 d, .int .i64 m]).cell 0
  | 1, hj => injection hj with hj; subst hj; exact (Blk.new w t #[.int .i64 k, .int .i64 d, .int .i64 m]).cell 1
  | 2, hj => injection hj with hj; subst hj; exact (Blk.new w t #[.int .i64 k, .int .i64 d, .int .i64 m]).cell 2
  | j + 3, hj => simp [ivs] at hj
theorem hasP_in {l : List ND} {is : List Int} (h : hasP l is = true) {i : Int} (hi : i ∈ is) : ∃ k : Nat, i = (k : Int) ∧ k < l.length := by
  unfold hasP at h
  simp only [Bool.and_eq_true] at h
  obtain ⟨h1, h2⟩ := inB_iff.1 (List.all_eq_true.1 h.1 i hi)
  exact ⟨i.toNat, by omega, by omega⟩
theorem hasP_check {l : List ND} {is : List Int} (h : hasP l is = true) : checkB l = true := by
  unfold hasP at h
  simp only [Bool.and_eq_true] at h
  exact h.2
set_option maxRecDepth 100000 in
set_option maxHeartbeats 4000000 in
theorem file_c (L : Option Addr) (n c : Nat) (l : List DV) (d : Int) (w : World) (hF : FsR w w.heap.size L n l) (hB : FewB l) :
    Calls Tryz.prog 50 #[.agg #[.slice L n c], .int .i64 d] w fun e w' => e = .returned (.int .i64 (fileP (nds l) d)) ∧ Below w.heap.size w w' := by
  have hl := hF.len
  have hln : (nds l).length = n := by rw [nds_length, hl]
  obtain ⟨W1, hW1⟩ : ∃ W, w.alloc (.cells #[.slice L n c] 24) = W := ⟨_, rfl⟩
  have HX : Hid (Blk W1 w.heap.size 24 #[.slice L n c]) := hide (by rw [← hW1]; exact Blk.new w _ _)
  have b1 : Below w.heap.size w W1 := by rw [← hW1]; exact on_alloc _ _
  obtain ⟨W2, hW2⟩ : ∃ W, W1.alloc (.cells #[.int .i64 d] 3) = W := ⟨_, rfl⟩
  have b2 : Below W1.heap.size W1 W2 := by rw [← hW2]; exact on_alloc _ _
  have XR : Reads W2 W2.heap.size 1 (some ⟨W1.heap.size, 0, none⟩) 1 (ivs [d]) := by rw [← hW2]; exact ivs_one W1 d _
  have hb : Below w.heap.size w W2 := b1.trans (b2.mono b1.size)
  have XC := hide (has_c L n c l [d] (some ⟨W1.heap.size, 0, none⟩) 1 1 W2 ((hF.below hb).more hb.size) hB XR (by omega))
  have HF := hide hF
  have HB := hide hb
  have HX2 := hide (HX.out.below b2 HX.out.lt)
  have HR : Hid (fileP (nds l) d = if hasP (nds l) [d] then (if (ndAt (nds l) d).kind = 2 then 23 else if (ndAt (nds l) d).kind = 3 then 32 else 0) else 2) := hide rfl
  have k0 := one_ HX.out
  generalize fileP (nds l) d = R at *
  clear hF hB XR hb b1 b2
  go_enter Tryz.func50, Tryz.ntmps50
  go_wp2_with (first | rw [hW1] | rw [hW2])
  refine XC.out.mono ?_
  rintro e w3 ⟨rfl, hb3⟩
  have HB3 := hide (HB.out.trans (hb3.mono HB.out.size))
  have HX3 := hide (HX2.out.below hb3 HX2.out.lt)
  clear hb3 XC k0 HX HX2 hW1 hW2
  have k0 := one_ HX3.out
  cases hh : hasP (nds l) [d] with
  | false =>
    have hR : R = 2 := by rw [HR.out, hh]; rfl
    subst hR
    clear HR hh
    go_wp2_with fail
    go_ret
    exact ⟨rfl, HB3.out⟩
  | true =>
    obtain ⟨m, rfl, hml⟩ := hasP_in hh (List.mem_singleton.2 rfl)
    have hm : m < n := by omega
    obtain ⟨g, o, x, rfl, hg, hx, hok, hc⟩ := HF.out.at_ hm
    obtain ⟨d0, d1, d2, d3, d4, d5⟩ := NdCells.below hc hg HB3.out
    have i1 := fun W => nd_at g o n c m (m : Int) rfl hm W
    have HR2 : Hid (R = if x.r.kind = 2 then 23 else if x.r.kind = 3 then 32 else 0) := hide (by rw [HR.out, hh, nds_at hx]; rfl)
    clear HR hh hx hok hc hml hln
    by_cases h2 : x.r.kind = 2
    · have hkb : (x.r.kind == 2) = true := beq_iff_eq.2 h2
      have hR : R = 23 := by rw [HR2.out, if_pos h2]
      subst hR
      clear HR2 h2
      go_wp2_with fail
      go_ret
      exact ⟨rfl, HB3.out⟩
    · have hkb : (x.r.kind == 2) = false := beq_eq_false_iff_ne.2 h2
      by_cases h3 : x.r.kind = 3
      · have hkc : (x.r.kind == 3) = true := beq_iff_eq.2 h3
        have hR : R = 32 := by rw [HR2.out, if_neg h2, if_pos h3]
        subst hR
        clear HR2 h2 h3
        go_wp2_with fail
        go_ret
        exact ⟨rfl, HB3.out⟩
      · have hkc : (x.r.kind == 3) = false := beq_eq_false_iff_ne.2 h3
        have hR : R = 0 := by rw [HR2.out, if_neg h2, if_neg h3]
        subst hR
        clear HR2 h2 h3
        go_wp2_with fail
        go_ret
        exact ⟨rfl, HB3.out⟩
theorem small_of {w : World} {B n : Nat} {L : Option Addr} {l : List DV} (hF : FsR w B L n l) (hB : FewB l) : SmallV l := by
  refine ⟨by have := hB.n; omega, fun x hx => ?_⟩
  have h1 := hB.each x hx
  have h2 := (hF.ok x hx).nl
  have h3 := (hF.ok x hx).dl
  have := h1.n
  have := h1.d
  omega
/-- What a change leaves. -/
def FsEnd (w : World) (l' : List ND) (es : List Value) (e : Ending) (w' : World) : Prop :=
  ∃ L' n' c' X, e = .returned (.tuple (Value.agg #[.slice L' n' c'] :: es).toArray) ∧ OF w.heap.size w' L' n' c' X ∧ nds X = l' ∧ Below w.heap.size w w'
theorem file_in {l : List ND} {d : Int} (h : fileP l d = 0) : ∃ k : Nat, d = (k : Int) ∧ k < l.length := by
  unfold fileP at h
  cases hh : hasP l [d] with
  | false => rw [hh] at h; simp at h
  | true => exact hasP_in hh (List.mem_singleton.2 rfl)
set_option maxRecDepth 100000 in
set_option maxHeartbeats 8000000 in
theorem trunc_c (L : Option Addr) (n c : Nat) (l : List DV) (d : Int) (w : World) (hF : FsR w w.heap.size L n l) (hB : FewB l) :
    Calls Tryz.prog 22 #[.agg #[.slice L n c], .int .i64 d] w (FsEnd w (truncP (nds l) d).1 [.int .i64 (truncP (nds l) d).2]) := by
  have hl := hF.len
  have hln : (nds l).length = n := by rw [nds_length, hl]
  obtain ⟨W1, hW1⟩ : ∃ W, (w.alloc (.cells #[.slice L n c] 24)).alloc (.cells #[.slice none 0 0] 24) = W := ⟨_, rfl⟩
  have HX : Hid (Blk W1 w.heap.size 24 #[.slice L n c]) := hide (by rw [← hW1]; exact (Blk.new w _ _).alloc _)
  have HY : Hid (Blk W1 (w.heap.size + 1) 24 #[.slice none 0 0]) := hide (by rw [← hW1]; have := Blk.new (w.alloc (.cells #[.slice L n c] 24)) 24 #[.slice none 0 0]; simpa only [World.size_alloc] using this)
  have b1 : Below w.heap.size w W1 := by rw [← hW1]; exact ((Below.refl _ _).alloc (Nat.le_refl _) _).alloc (by simp) _
  have hsz : w.heap.size + 2 = W1.heap.size := by rw [← hW1]; simp
  have XF := hide (fs_any L n c l W1 ((hF.below b1).more b1.size) (small_of hF hB))
  have XC := hide (fun (W : World) (hW : Below w.heap.size w W) => file_c L n c l d W ((hF.below hW).more hW.size) hB)
  have HB := hide b1
  have HLN := hide hln
  have HT : Hid (truncP (nds l) d = if fileP (nds l) d = 0 then (modA (nds l) d fun n => { n with data := [] }, 0) else (nds l, fileP (nds l) d)) := hide rfl
  generalize truncP (nds l) d = T at *
  obtain ⟨E, hE⟩ : ∃ E, fileP (nds l) d = E := ⟨_, rfl⟩
  have HE := hide hE
  rw [hE] at HT XC
  have k0 := one_ HX.out
  have k1 := one_ HY.out
  clear hF hB b1 hl hln hE
  go_enter Tryz.func22, Tryz.ntmps22
  go_wp2_with (rw [hW1])
  refine XF.out.mono ?_
  rintro e w2 ⟨L', c', X, rfl, hO, hR, hS, hb2⟩
  obtain ⟨W3, hW3⟩ : ∃ W, w2.alloc (.cells #[.slice L' n c'] 24) = W := ⟨_, rfl⟩
  have b3 : Below w2.heap.size w2 W3 := by rw [← hW3]; exact on_alloc _ _
  have HP3 : Hid (Blk W3 w2.heap.size 24 #[.slice L' n c']) := hide (by rw [← hW3]; exact Blk.new w2 _ _)
  have hz2 := hb2.size
  have HX3 := hide ((HX.out.below hb2 HX.out.lt).below b3 (Nat.lt_of_lt_of_le HX.out.lt hz2))
  have HY3 := hide ((HY.out.below hb2 HY.out.lt).below b3 (Nat.lt_of_lt_of_le HY.out.lt hz2))
  have HO3 := hide (hO.below b3)
  have HB3 := hide ((HB.out.trans (hb2.mono (by omega))).trans (b3.mono (by omega)))
  have X3 := hide (XC.out W3 HB3.out)
  have hz3 := b3.size
  have HRX : Hid (nds X = nds l) := hide hR
  have hpl := HP3.out.lt
  clear b3 hO hb2 XC XF HX HY k0 k1 hR hS HB
  have k0 := one_ HX3.out
  have k1 := one_ HY3.out
  have k2 := one_ HP3.out
  go_wp2_with (rw [hW3])
  refine X3.out.mono ?_
  rintro e w4 ⟨rfl, hb4⟩
  have HO4 := hide (HO3.out.below hb4)
  have HY4 := hide (HY3.out.below hb4 HY3.out.lt)
  have HP4 := hide (HP3.out.below hb4 hpl)
  have HB4 := hide (HB3.out.trans (hb4.mono HB3.out.size))
  have hz4 := hb4.size
  clear hb4 X3 k0 k1 k2 HX3 HY3 HP3 HO3 HB3 hW3 hW1
  by_cases h0 : E = 0
  · subst h0
    obtain ⟨m, rfl, hml⟩ := file_in HE.out
    have hm : m < n := by have := HLN.out; omega
    have hTe : Hid (T = (modA (nds l) (m : Int) fun n => { n with data := [] }, 0)) := hide (by rw [HT.out, if_pos rfl])
    obtain ⟨g, rfl, hgB, hgl⟩ := HO4.out.addr (by omega)
    obtain ⟨x, hx⟩ : ∃ x, X[m]? = some x := ⟨_, List.getElem?_eq_getElem (by have := HO4.out.len; omega)⟩
    have hxm := List.mem_of_getElem? hx
    obtain ⟨⟨-, -, -, c3, -, -⟩, hfz⟩ := HO4.out.cells hx
    have i1 := fun W => nd_at0 g n c' m (m : Int) rfl hm W
    have hpg : w2.heap.size ≠ g := by
      have := own_blk_ne HO4.out.own HP4.out (by decide)
      intro e
      exact this (by rw [e]; rfl)
    have hxlo := HO4.out.lo x hxm
    have hxok := HO4.out.ok x hxm
    have hxof := HO4.out.off _ rfl x hxm
    have HO5 := hide (HO4.out.put (k := m) (j := 3) (x' := ⟨{ x.r with data := [] }, none, 0, 0, x.M, x.mn, x.mc⟩) (v := .slice none 0 0) hm (by omega) (fun y hy => by rw [hx] at hy; injection hy with hy; subst hy; rfl)
      ⟨Reads.none_, hxok.n⟩ ⟨Off.nil _ _, hxof.2⟩ ⟨Lo.zero _ _, hxlo.2.1, Nat.le_refl _, hxlo.2.2.2⟩)
    have hfx := hfz (m * 6 + 3)
    have hls : nds (X.set m ⟨{ x.r with data := [] }, none, 0, 0, x.M, x.mn, x.mc⟩) = T.1 := by
      rw [hTe.out]
      dsimp only
      unfold modA
      rw [nds_set, ← HRX.out, nds_at hx]
      rfl
    have HY5 := hide (HY4.out.far (p := ⟨g, m * 6 + 3, none⟩) (by show w.heap.size + 1 ≠ g; omega) (.slice none 0 0))
    have HP5 := hide (HP4.out.far (p := ⟨g, m * 6 + 3, none⟩) hpg (.slice none 0 0))
    have HB5 := hide (HB4.out.setCell (p := ⟨g, m * 6 + 3, none⟩) (by show w.heap.size ≤ g; omega) (.slice none 0 0))
    obtain ⟨w5, hw5⟩ : ∃ W, w4.setCell ⟨g, m * 6 + 3, none⟩ (.slice none 0 0) = W := ⟨_, rfl⟩
    have k4 := one_ HP4.out
    rw [hw5] at HO5 HY5 HP5 HB5
    have k5 := one_ HP5.out
    have k6 := HY5.out.frozen 0
    have k7 := one_ HY5.out
    have hT2 : T.2 = 0 := by rw [hTe.out]
    clear hfz hxlo hxok hxof HT hTe hx hxm HY4 HP4 HB4 HO4 HE
    rw [hT2]
    go_wp2_with (rw [hw5])
    refine bodyPost_ret (v := .tuple #[.agg #[.slice (some ⟨g, 0, none⟩) n c'], .int .i64 0]) (by simp only [results, Tryz.results22]; go_simp) rfl ?_
    refine ⟨_, _, _, _, by first | rfl | rw [hT2], OF.less (OF.far HO5.out (p := ⟨w.heap.size + 1, 0, none⟩) (by show w.heap.size + 1 < W1.heap.size; omega) _) (by omega), hls, HB5.out.setCell (p := ⟨w.heap.size + 1, 0, none⟩) (by show w.heap.size ≤ w.heap.size + 1; omega) _⟩
  · have hTe : T = (nds l, E) := by rw [HT.out, if_neg h0]
    subst hTe
    have hEb : (E == 0) = false := beq_eq_false_iff_ne.2 h0
    have k5 := one_ HP4.out
    have k6 := HY4.out.frozen 0
    have k7 := one_ HY4.out
    clear HT h0
    go_wp2_with fail
    refine bodyPost_ret (v := .tuple #[.agg #[.slice L' n c'], .int .i64 E]) (by simp only [results, Tryz.results22]; go_simp) rfl ?_
    refine ⟨_, _, _, _, rfl, OF.less (OF.far HO4.out (p := ⟨w.heap.size + 1, 0, none⟩) (by show w.heap.size + 1 < W1.heap.size; omega) _) (by omega), HRX.out, HB4.out.setCell (p := ⟨w.heap.size + 1, 0, none⟩) (by show w.heap.size ≤ w.heap.size + 1; omega) _⟩
end Go.Proofs.YtlcoapignfmgcaaGreatDoor
