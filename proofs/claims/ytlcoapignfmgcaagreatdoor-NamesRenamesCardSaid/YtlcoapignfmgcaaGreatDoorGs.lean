/- The document's counts. The document's Check. Two operations of a drawn region may come up (out of NdQe). The document's New; its Same at a root. -/
import Derived.Test.YtlcoapignfmgcaaGreatDoorGp
import Derived.Test.YtlcoapignfmgcaaGreatDoorGh
namespace Go.Proofs.YtlcoapignfmgcaaGreatDoor
open Go.RowKit
set_option linter.unusedVariables false
theorem infoInt : (Tryz.prog.info? 3).map (fun i => (i.zero, i.size, i.bytes)) = some (some (.int .i64 0), 1, 8) := by kernel_rfl
theorem csizeInt : (Tryz.prog.info? 3).map (·.size) = some 1 := by kernel_rfl
def iv (zs : List Int) : List Value := zs.map fun z => .int .i64 z
theorem iv_length (zs : List Int) : (iv zs).length = zs.length := by simp [iv]
theorem iv_at {zs : List Int} {k : Nat} {z : Int} (h : zs[k]? = some z) : (iv zs)[k]? = some (.int .i64 z) := by simp [iv, h]
/-- A block of ints. -/
def IB (V : World) (g : Nat) (zs : List Int) : Prop := Blk V g 3 (iv zs).toArray
theorem IB.lt {V : World} {g : Nat} {zs : List Int} (h : IB V g zs) : g < V.heap.size := Blk.lt h
theorem IB.below {V V' : World} {g : Nat} {zs : List Int} (h : IB V g zs) (hb : Below V.heap.size V V') : IB V' g zs := Blk.below h hb h.lt
theorem IB.cell {V : World} {g k : Nat} {zs : List Int} {z : Int} (h : IB V g zs) (hk : zs[k]? = some z) : V.cell? ⟨g, k, none⟩ = some (.int .i64 z) := by
  rw [Blk.cell h k]
  simpa using iv_at hk
theorem IB.set {V : World} {g k : Nat} {zs : List Int} (h : IB V g zs) (z : Int) : IB (V.setCell ⟨g, k, none⟩ (.int .i64 z)) g (zs.set k z) := by
  have := Blk.set_ h k (.int .i64 z)
  unfold IB
  rw [show (iv (zs.set k z)).toArray = (iv zs).toArray.setIfInBounds k (.int .i64 z) by simp [iv, List.map_set]]
  exact this
theorem IB.far {V : World} {g : Nat} {zs : List Int} (h : IB V g zs) {p : Addr} (hp : g ≠ p.block) (u : Value) : IB (V.setCell p u) g zs := Blk.far h hp u
theorem ints_make (n : Nat) (i : Int) (hi : i = (n : Int)) (hn : n ≤ 2000) (W : World) : (Instr.makeSlice 85 (.int .i64 i) (.int .i64 i)).run Tryz.prog W = .ok (.slice (some ⟨W.heap.size, 0, none⟩) n n) (W.alloc (.cells (iv (List.replicate n 0)).toArray 3)) := by
  subst hi
  obtain ⟨i, hi, hz0, hz1, hz2⟩ := info_parts infoInt
  have := run_make_rowN (P := Tryz.prog) 85 3 i _ Tryz.underlying85 hi hz0 .i64 .i64 n n (Nat.le_refl _) (by rw [hz2]; omega) (by omega) W
  rw [this, hz1, Nat.mul_one]
  have e : madeCells (Value.int IntKind.i64 0).cells n = (iv (List.replicate n 0)).toArray := by
    apply Array.toList_inj.1
    have := toList_madeCells_one (Value.int IntKind.i64 0) n
    rw [show madeCells (Value.int IntKind.i64 0).cells n = madeCells #[Value.int IntKind.i64 0] n from rfl, this]
    simp [iv]
  rw [← e]
theorem cint_at (g m k q : Nat) (i : Int) (hi : i = (q : Int)) (hq : q < m) (W : World) : (Instr.indexAt 85 (.slice (some ⟨g, 0, none⟩) m k) (.int .i64 i)).run Tryz.prog W = .ok (.pointer (some ⟨g, q, none⟩)) W := by
  subst hi
  have hE : Tryz.prog.elem 85 = 3 := by simp [Program.elem, Tryz.underlying85]
  rw [run_indexAt_slice W 85 ⟨g, 0, none⟩ m k .i64 (q : Int) (slice_ht Tryz.underlying85), if_pos ⟨by omega, by omega⟩]
  rw [hE, run_sizeOf_n csizeInt W]
  simp only [Result.andThen, Int.toNat_natCast, at_add, Nat.zero_add, Nat.mul_one]
theorem prN_le {l : List ND} {i k : Nat} (hi : i < l.length) : (prN l i k).length ≤ (allNames l).length := by
  have h1 : (prs l (i + 1)).length ≤ (prs l l.length).length := by
    obtain ⟨d, hd⟩ : ∃ d, l.length = i + 1 + d := ⟨l.length - (i + 1), by omega⟩
    rw [hd]
    unfold prs
    rw [show List.range (i + 1 + d) = List.range (i + 1) ++ (List.range d).map (fun x => i + 1 + x) from List.range_add .., List.flatMap_append, List.length_append]
    omega
  have h2 : (prs l l.length).length = (allNames l).length := by
    have := congrArg List.length (prs_nodes l)
    simpa using this
  have h3 : (prN l i k).length ≤ (prs l (i + 1)).length := by
    unfold prN prs
    rw [List.range_succ, List.flatMap_append, List.length_append, List.length_append]
    simp
    omega
  omega
def CountsEnd (l : List ND) (n : Nat) (w : World) (e : Ending) (w' : World) : Prop :=
  ∃ g1 g2, e = .returned (.tuple #[.slice (some ⟨g1, 0, none⟩) n n, .slice (some ⟨g2, 0, none⟩) n n]) ∧ IB w' g1 (zsN (prs l n) n) ∧ IB w' g2 (zsI (prs l n) n) ∧ Below w.heap.size w w'
set_option maxRecDepth 100000 in
set_option maxHeartbeats 8000000 in
theorem rcounts_any (L : Option Addr) (n c : Nat) (l : List DV) (w : World) (hF : FsR w w.heap.size L n l) (hB : FewB l) (hr : RefsOk (nds l)) :
    Calls Tryz.prog 54 #[.agg #[.slice L n c]] w (CountsEnd (nds l) n w) := by
  have hl := hF.len
  have hln : (nds l).length = n := by rw [nds_length, hl]
  have hn : n ≤ 100 := by have := hB.n; omega
  have HNF := hide (names_few hB)
  obtain ⟨W1, hW1⟩ : ∃ W, w.alloc (.cells #[.slice L n c] 24) = W := ⟨_, rfl⟩
  have b1 : Below w.heap.size w W1 := by rw [← hW1]; exact on_alloc _ _
  have k1 : Blk W1 w.heap.size 24 #[.slice L n c] := by rw [← hW1]; exact Blk.new w _ _
  have s1 : W1.heap.size = w.heap.size + 1 := by rw [← hW1]; simp
  obtain ⟨W2, hW2⟩ : ∃ W, W1.alloc (.cells (iv (List.replicate n 0)).toArray 3) = W := ⟨_, rfl⟩
  have b2 : Below W1.heap.size W1 W2 := by rw [← hW2]; exact on_alloc _ _
  have k2 : IB W2 (w.heap.size + 1) (List.replicate n 0) := by rw [← hW2, ← s1]; exact Blk.new W1 _ _
  have s2 : W2.heap.size = w.heap.size + 2 := by rw [← hW2]; simp [s1]
  obtain ⟨W3, hW3⟩ : ∃ W, W2.alloc (.cells (iv (List.replicate n 0)).toArray 3) = W := ⟨_, rfl⟩
  have b3 : Below W2.heap.size W2 W3 := by rw [← hW3]; exact on_alloc _ _
  have k3 : IB W3 (w.heap.size + 2) (List.replicate n 0) := by rw [← hW3, ← s2]; exact Blk.new W2 _ _
  have bA : Below w.heap.size w W3 := b1.trans ((b2.mono (by omega)).trans (b3.mono (by omega)))
  have m1 : (Instr.makeSlice 85 (.int .i64 (n : Int)) (.int .i64 (n : Int))).run Tryz.prog W1 = .ok (.slice (some ⟨w.heap.size + 1, 0, none⟩) n n) W2 := by rw [ints_make n (n : Int) rfl (by omega) W1, hW2, s1]
  have m2 : (Instr.makeSlice 85 (.int .i64 (n : Int)) (.int .i64 (n : Int))).run Tryz.prog W2 = .ok (.slice (some ⟨w.heap.size + 2, 0, none⟩) n n) W3 := by rw [ints_make n (n : Int) rfl (by omega) W2, hW3, s2]
  have HK := hide ((k1.below b2 (by omega)).below b3 (by omega))
  have HN : Hid (IB W3 (w.heap.size + 1) (zsN (prN (nds l) 0 0) n)) := hide (by rw [prN_zero]; show IB W3 _ (zsN [] n); rw [zsN_nil]; exact k2.below b3)
  have HI : Hid (IB W3 (w.heap.size + 2) (zsI (prN (nds l) 0 0) n)) := hide (by rw [prN_zero]; show IB W3 _ (zsI [] n); rw [zsI_nil]; exact k3)
  have HB := hide bA
  have HFS := hide (fun (V : World) (hV : Below w.heap.size w V) => (hF.below hV).more hV.size)
  have HR := hide hr
  have HLN := hide hln
  have HL := hide hl
  have HFEW := hide hB.each
  have k0 := one_ k1
  have kk0 := one_ (k1.below b2 (by omega))
  clear hF hB hr hln hl b1 k1 b2 k2 b3 k3 bA s1 s2
  go_enter Tryz.func54, Tryz.ntmps54
  go_wp2_with fail
  clear m1 m2 k0 kk0 hW1 hW2 hW3
  go_loopw [6] (fun u6 wx => ∃ i : Nat, i ≤ n ∧ u6 = .int .i64 (i : Int) ∧ Hid (IB wx (w.heap.size + 1) (zsN (prN (nds l) i 0) n)) ∧ Hid (IB wx (w.heap.size + 2) (zsI (prN (nds l) i 0) n)) ∧ Hid (Below w.heap.size w wx) ∧ Hid (Blk wx w.heap.size 24 #[.slice L n c])) (fun i _ => n - (intOf i).toNat)
  case atStart => exact ⟨0, Nat.zero_le _, rfl, HN, HI, HB, HK⟩
  case round =>
    clear HN HI HB HK
    obtain ⟨i, hi, rfl, HN, HI, HB, HK⟩ := hrel
    have k0 := one_ HK.out
    have kl := HK.out.lt
    by_cases hin : i < n
    · have hlt : (i : Int) < (n : Int) := by omega
      obtain ⟨g, o, x, hL, hg, hx, hok, hc⟩ := (HFS.out _ HB.out).at_ hin
      subst hL
      have i1 := fun W => nd_at g o n c i (i : Int) rfl hin W
      have HXR : Hid (ndAt (nds l) (i : Int) = x.r) := hide (nds_at hx)
      have hmx : x.mn ≤ 200 := by have := (HFEW.out x (List.mem_of_getElem? hx)).n; have := hok.nl; omega
      have HNL := hide hok.nl
      have HX := hide hx
      clear hx hok hc
      go_wp2_with fail
      go_loopw [7] (fun u7 wy => ∃ k : Nat, k ≤ x.mn ∧ u7 = .int .i64 (k : Int) ∧ Hid (IB wy (w.heap.size + 1) (zsN (prN (nds l) i k) n)) ∧ Hid (IB wy (w.heap.size + 2) (zsI (prN (nds l) i k) n)) ∧ Hid (Below w.heap.size w wy) ∧ Hid (Blk wy w.heap.size 24 #[.slice (some ⟨g, o, none⟩) n c])) (fun k _ => x.mn - (intOf k).toNat)
      case atStart => exact ⟨0, Nat.zero_le _, rfl, HN, HI, HB, HK⟩
      case round =>
        clear HN HI HB HK k0 kl
        obtain ⟨k, hk, rfl, HN, HI, HB, HK⟩ := hrel
        have k0 := one_ HK.out
        have kl := HK.out.lt
        obtain ⟨g', o', x', hL, hg', hx', hok', hc'⟩ := (HFS.out _ HB.out).at_ hin
        injection hL with hL
        injection hL with e1 e2
        subst e1; subst e2
        obtain rfl : x = x' := by rw [HX.out] at hx'; injection hx'
        obtain ⟨d0, d1, d2, d3, d4, d5⟩ := hc'
        clear hx' d0 d1 d2 d3 d5
        by_cases hkn : k < x.mn
        · have hlt2 : (k : Int) < (x.mn : Int) := by omega
          obtain ⟨gm, om, y, hM, hgm, hy, n0, n1⟩ := nm_cells hok'.n hkn
          have i2 := fun W => nm_at gm om x.mn x.mc k (k : Int) rfl hkn W
          have hrf := HR.out x.r (by unfold nds; exact List.mem_map.2 ⟨x, List.mem_of_getElem? HX.out, rfl⟩) y (List.mem_of_getElem? hy)
          rw [HLN.out] at hrf
          obtain ⟨v, hv⟩ : ∃ v : Nat, y.node = (v : Int) := ⟨y.node.toNat, by omega⟩
          have hvn : v < n := by omega
          have HP : Hid (prN (nds l) i (k + 1) = prN (nds l) i k ++ [(i, (v : Int))]) := hide (by rw [prN_succ (y := y) (by rw [HXR.out]; exact hy), hv])
          have hle := prN_le (l := nds l) (i := i) (k := k) (by rw [HLN.out]; exact hin)
          have hcl : cN (prN (nds l) i k) (v : Int) ≤ 100000 := Nat.le_trans (List.countP_le_length) (Nat.le_trans hle HNF.out)
          have HSN := hide (zsN_set (ps := prN (nds l) i k) (i := i) hvn)
          have HSI := hide (zsI_set (ps := prN (nds l) i k) (i := i) hvn)
          have c0 := HN.out.cell (zsN_at hvn)
          obtain ⟨q, hq⟩ : ∃ q, cN (prN (nds l) i k) (v : Int) = q := ⟨_, rfl⟩
          rw [hq] at c0 HSN hcl
          have kw : IntKind.i64.wrap ((q : Int) + 1) = (q : Int) + 1 := by simp [IntKind.wrap, IntKind.bits, IntKind.signed]; omega
          obtain ⟨WA, hWA⟩ : ∃ W, wr.setCell ⟨w.heap.size + 1, v, none⟩ (.int .i64 ((q : Int) + 1)) = W := ⟨_, rfl⟩
          have HN1 : Hid (IB WA (w.heap.size + 1) (zsN (prN (nds l) i (k + 1)) n)) := hide (by rw [← hWA, HP.out, ← HSN.out]; exact HN.out.set _)
          have hI1 : IB WA (w.heap.size + 2) (zsI (prN (nds l) i k) n) := by rw [← hWA]; exact HI.out.far (p := ⟨w.heap.size + 1, v, none⟩) (by show w.heap.size + 2 ≠ w.heap.size + 1; omega) _
          have HK1 : Hid (Blk WA w.heap.size 24 #[.slice (some ⟨g, o, none⟩) n c]) := hide (by rw [← hWA]; exact HK.out.far (p := ⟨w.heap.size + 1, v, none⟩) (by show w.heap.size ≠ w.heap.size + 1; omega) _)
          have bWA : Below w.heap.size wr WA := by rw [← hWA]; exact (Below.refl w.heap.size wr).setCell (p := ⟨w.heap.size + 1, v, none⟩) (by show w.heap.size ≤ w.heap.size + 1; omega) _
          have HB1 := hide (HB.out.trans bWA)
          obtain ⟨WB, hWB⟩ : ∃ W, WA.setCell ⟨w.heap.size + 2, v, none⟩ (.int .i64 (i : Int)) = W := ⟨_, rfl⟩
          have HI2 : Hid (IB WB (w.heap.size + 2) (zsI (prN (nds l) i (k + 1)) n)) := hide (by rw [← hWB, HP.out, ← HSI.out]; exact hI1.set _)
          have HN2 : Hid (IB WB (w.heap.size + 1) (zsN (prN (nds l) i (k + 1)) n)) := hide (by rw [← hWB]; exact HN1.out.far (p := ⟨w.heap.size + 2, v, none⟩) (by show w.heap.size + 1 ≠ w.heap.size + 2; omega) _)
          have HK2 : Hid (Blk WB w.heap.size 24 #[.slice (some ⟨g, o, none⟩) n c]) := hide (by rw [← hWB]; exact HK1.out.far (p := ⟨w.heap.size + 2, v, none⟩) (by show w.heap.size ≠ w.heap.size + 2; omega) _)
          have HB2 : Hid (Below w.heap.size w WB) := hide (by rw [← hWB]; exact HB1.out.setCell (p := ⟨w.heap.size + 2, v, none⟩) (by show w.heap.size ≤ w.heap.size + 2; omega) _)
          have f0 := HN.out.frozen v
          have f1 := HN.out.lt
          have c1 := hI1.cell (zsI_at hvn)
          have f2 := hI1.frozen v
          have f3 := hI1.lt
          have k1 := one_ HK1.out
          have kl1 := HK1.out.lt
          have d4' : WA.cell? ⟨g, o + i * 6 + 4, none⟩ = some (.slice x.M x.mn x.mc) := by
            obtain ⟨g3, o3, x3, hL3, hg3, hx3, hok3, hc3⟩ := (HFS.out _ HB1.out).at_ hin
            injection hL3 with hL3
            injection hL3 with e1 e2
            subst e1; subst e2
            obtain rfl : x = x3 := by have := HX.out; rw [this] at hx3; injection hx3
            exact hc3.2.2.2.2.1
          have n1' : WA.cell? ⟨gm, om + k * 2 + 1, none⟩ = some (.int .i64 y.node) := by
            obtain ⟨gm', om', y', hM', hgm', hy', n0', n1'⟩ := nm_cells ((HFS.out _ HB1.out).ok x (List.mem_of_getElem? HX.out)).n hkn
            rw [hM] at hM'
            injection hM' with hM'
            injection hM' with e1 e2
            subst e1; subst e2
            obtain rfl : y = y' := by rw [hy] at hy'; injection hy'
            exact n1'
          have i3 := fun W => cint_at (w.heap.size + 1) n n v y.node hv hvn W
          have i4 := fun W => cint_at (w.heap.size + 2) n n v y.node hv hvn W
          rw [hM] at d4 d4'
          clear hok' hy hM hrf hv hle hcl hq bWA hI1 n0
          go_wp2_with fail
          go_roundw
          case rel => exact ⟨k + 1, by omega, by go_num, HN2, HI2, HB2, HK2⟩
          case measure => simp [intOf]; omega
        · have hlt2 : ¬ (k : Int) < (x.mn : Int) := by omega
          have hpe : prN (nds l) i k = prN (nds l) (i + 1) 0 := by rw [prN_zero]; exact prN_next (by rw [HXR.out]; have := HNL.out; omega)
          rw [hpe] at HN HI
          clear hpe hok'
          go_wp2_with fail
          go_roundw
          case rel => exact ⟨i + 1, by omega, by go_num, HN, HI, HB, HK⟩
          case measure => simp [intOf]; omega
    · have hlt : ¬ (i : Int) < (n : Int) := by omega
      obtain rfl : n = i := by omega
      rw [prN_zero] at HN HI
      go_wp2_with fail
      refine bodyPost_ret (v := .tuple #[.slice (some ⟨w.heap.size + 1, 0, none⟩) n n, .slice (some ⟨w.heap.size + 2, 0, none⟩) n n]) (by simp only [results, Tryz.results54]; go_simp) rfl ⟨_, _, rfl, HN.out, HI.out, HB.out⟩
end Go.Proofs.YtlcoapignfmgcaaGreatDoor
namespace Go.Proofs.YtlcoapignfmgcaaGreatDoor
open Go.RowKit
set_option linter.unusedVariables false
theorem zsC_at {l : List ND} {n v : Nat} (hn : l.length = n) (h : v < n) : (zsN (prs l n) n)[v]? = some (cnt l (v : Int) : Int) := by
  rw [zsN_at h, ← hn, cN_all]
theorem zsU_at {l : List ND} {n v : Nat} (hn : l.length = n) (h : v < n) : (zsI (prs l n) n)[v]? = some (pUp l (v : Int)) := by
  rw [zsI_at h, ← hn]
  rfl
theorem ck_no_node {l : List ND} {i : Nat} (hi : i < l.length) (h : nodeB (ndAt l (i : Int)) l.length = false) : checkB l = false := by
  cases hc : checkB l with
  | false => rfl
  | true => rw [node_ok hc hi] at h; cases h
theorem ck_no_link {l : List ND} {i : Nat} (hi : i < l.length) (h : linkB l i = false) : checkB l = false := by
  cases hc : checkB l with
  | false => rfl
  | true => rw [links_at hc hi] at h; cases h
theorem link_zero (l : List ND) : linkB l 0 = (decide ((ndAt l 0).kind = 2) && decide ((ndAt l 0).links = 1) && decide (cnt l 0 = 0)) := by unfold linkB; rw [if_pos rfl]
theorem link_pos (l : List ND) {i : Nat} (h : i ≠ 0) : linkB l i = (decide ((ndAt l i).links = (cnt l i : Int)) && !(decide ((ndAt l i).kind = 2) && (decide (1 < (ndAt l i).links) || (decide ((ndAt l i).links = 0) && !(ndAt l i).names.isEmpty)))) := by unfold linkB; rw [if_neg h]
/-- So far up. -/
def Up (l : List ND) (i : Int) (k : Nat) : Prop := ∀ j, j < k → itr (pUp l) j i ≠ 0 ∧ cnt l (itr (pUp l) j i) ≠ 0
theorem ck_no_up {l : List ND} {i k : Nat} (hi : i < l.length) (h0 : i ≠ 0) (hk : (ndAt l (i : Int)).kind = 2) (hc : cnt l (i : Int) ≠ 0) (hu : Up l (i : Int) k) (hz : itr (pUp l) k (i : Int) ≠ 0) (hend : k = l.length ∨ cnt l (itr (pUp l) k (i : Int)) = 0) : checkB l = false := by
  cases hcb : checkB l with
  | false => rfl
  | true =>
    obtain ⟨m, hm, h1, h2⟩ := ck_chain hcb hi h0 hk hc
    rcases Nat.lt_trichotomy m k with h | h | h
    · exact absurd h1 (hu m h).1
    · subst h; exact absurd h1 hz
    · rcases hend with he | he
      · omega
      · exact absurd he (h2 k h).2
theorem isEmpty_of {l : List NM} {n : Nat} (h : l.length = n) : l.isEmpty = decide (n = 0) := by
  subst h
  cases l <;> simp
set_option maxRecDepth 100000 in
set_option maxHeartbeats 16000000 in
theorem rcheck_any (L : Option Addr) (n c : Nat) (l : List DV) (w : World) (hF : FsR w w.heap.size L n l) (hB : FewB l) :
    Calls Tryz.prog 26 #[.agg #[.slice L n c]] w fun e w' => e = .returned (.bool (checkB (nds l))) ∧ Below w.heap.size w w' := by
  have hl := hF.len
  have hln : (nds l).length = n := by rw [nds_length, hl]
  have hn : n ≤ 100 := by have := hB.n; omega
  obtain ⟨W1, hW1⟩ : ∃ W, w.alloc (.cells #[.slice L n c] 24) = W := ⟨_, rfl⟩
  have b1 : Below w.heap.size w W1 := by rw [← hW1]; exact on_alloc _ _
  have k1 : Blk W1 w.heap.size 24 #[.slice L n c] := by rw [← hW1]; exact Blk.new w _ _
  have HFS := hide (fun (V : World) (hV : Below w.heap.size w V) => (hF.below hV).more hV.size)
  have HFEWB := hide hB
  have HLN := hide hln
  have HL := hide hl
  have HK := hide k1
  have HB := hide b1
  have k0 := one_ k1
  have kl := k1.lt
  obtain ⟨R, hR⟩ : ∃ R, checkB (nds l) = R := ⟨_, rfl⟩
  rw [hR]
  have HR := hide hR
  clear hF hB hl hln b1 k1 hR
  go_enter Tryz.func26, Tryz.ntmps26
  by_cases hz : n = 0
  · have hRe : R = false := by rw [← HR.out]; unfold checkB; rw [HLN.out, hz]; rfl
    subst hRe
    have hz1 : (n : Int) < 1 := by omega
    clear hz
    go_wp2_with fail
    go_ret
    exact ⟨rfl, HB.out⟩
  have hz1 : ¬ ((n : Int) < 1) := by omega
  have hz2 : ¬ ((256 : Int) < (n : Int)) := by omega
  have hnp : 0 < n := by omega
  obtain ⟨g, o, x0, hL, hg, hx0, hok0, hc0⟩ := (HFS.out _ HB.out).at_ hnp
  subst hL
  have i0 := fun W => nd_at g o n c 0 0 rfl hnp W
  have HX0 : Hid (ndAt (nds l) 0 = x0.r) := hide (nds_at (k := 0) hx0)
  obtain ⟨d0, d1, d2, d3, d4, d5⟩ := hc0
  simp only [Nat.zero_mul, Nat.add_zero] at d0 d2 i0
  clear hx0 hok0 d1 d3 d4 d5
  by_cases hk0 : x0.r.kind = 2
  case neg =>
    have hk0b : (x0.r.kind != 2) = true := bne_iff_ne.2 hk0
    have hRe : R = false := by rw [← HR.out]; exact ck_no_link (i := 0) (by rw [HLN.out]; exact hnp) (by rw [link_zero, HX0.out, decide_eq_false hk0]; rfl)
    subst hRe
    clear hk0
    go_wp2_with fail
    go_ret
    exact ⟨rfl, HB.out⟩
  have hk0b : (x0.r.kind != 2) = false := by rw [hk0]; rfl
  by_cases hl0 : x0.r.links = 1
  case neg =>
    have hl0b : (x0.r.links != 1) = true := bne_iff_ne.2 hl0
    have hRe : R = false := by rw [← HR.out]; exact ck_no_link (i := 0) (by rw [HLN.out]; exact hnp) (by rw [link_zero, HX0.out, decide_eq_false hl0]; simp)
    subst hRe
    clear hk0 hl0
    go_wp2_with fail
    go_ret
    exact ⟨rfl, HB.out⟩
  have hl0b : (x0.r.links != 1) = false := by rw [hl0]; rfl
  have HK0 := hide (And.intro hk0 hl0)
  clear hk0 hl0
  go_wp2_with fail
  clear i0 d0 d2 hk0b hl0b k0 kl
  go_loopw [3] (fun u3 wx => ∃ i : Nat, i ≤ n ∧ u3 = .int .i64 (i : Int) ∧ Hid (∀ j, j < i → nodeB (ndAt (nds l) (j : Int)) (n : Int) = true) ∧ Hid (Below w.heap.size w wx) ∧ Hid (Blk wx w.heap.size 24 #[.slice (some ⟨g, o, none⟩) n c])) (fun i _ => n - (intOf i).toNat)
  case atStart => exact ⟨0, Nat.zero_le _, rfl, hide (fun j hj => absurd hj (by omega)), HB, HK⟩
  case round =>
    clear HB HK
    obtain ⟨i, hi, rfl, HA, HB, HK⟩ := hrel
    have k0 := one_ HK.out
    have kl := HK.out.lt
    by_cases hin : i < n
    · have hlt : (i : Int) < (n : Int) := by omega
      obtain ⟨g', o', x, hL, hg', hx, hok, hc⟩ := (HFS.out _ HB.out).at_ hin
      injection hL with hL
      injection hL with e1 e2
      subst e1; subst e2
      have i1 := fun W => nd_at g o n c i (i : Int) rfl hin W
      have HXR : Hid (ndAt (nds l) (i : Int) = x.r) := hide (nds_at hx)
      have XPL := hide (rplain_any x (n : Int) wr.drew ((hok.below (bl_drewN (n := 1) (Below.refl _ _))).more (Nat.le_refl _)) (HFEWB.out.each x (List.mem_of_getElem? hx)))
      unfold DV.cs at XPL
      have HC := hide hc
      clear hx hok hc
      go_wp2_with fail
      refine wp_region_K (fun V => V.cell? ⟨w.heap.size, 0, none⟩ = some (.slice (some ⟨g, o, none⟩) n c) ∧ V.cell? ⟨g, o + i * 6, none⟩ = some (.int .i64 x.r.kind) ∧ V.cell? ⟨g, o + i * 6 + 1, none⟩ = some (.int .i64 x.r.mode) ∧ V.cell? ⟨g, o + i * 6 + 2, none⟩ = some (.int .i64 x.r.links) ∧ V.cell? ⟨g, o + i * 6 + 3, none⟩ = some (.slice x.D x.dn x.dc) ∧ V.cell? ⟨g, o + i * 6 + 4, none⟩ = some (.slice x.M x.mn x.mc) ∧ V.cell? ⟨g, o + i * 6 + 5, none⟩ = some (.string ⟨x.r.to.toArray⟩)) [8, 9] rfl ⟨k0, HC.out⟩ (fun hHeld => ?_)
      refine wpAnyK_take (i := 0) (v := ?_) rfl rfl (by kernel_rfl) (fun _ _ _ h => h) (Or.inl ⟨by rfl, ?_⟩) (by assumption) ?_
      rotate_left
      · (intro V hV; (try dsimp only at hV); go_simp; with_reducible rfl)
      try simp only [Act.put, List.setIfInBounds_toArray, List.set_cons_zero, List.set_cons_succ]
      refine wpAnyK_take (i := 1) (v := ?_) rfl rfl (by kernel_rfl) (fun _ _ _ h => h) (Or.inl ⟨by rfl, ?_⟩) (by assumption) ?_
      rotate_left
      · (intro V hV; (try dsimp only at hV); go_simp; with_reducible rfl)
      try simp only [Act.put, List.setIfInBounds_toArray, List.set_cons_zero, List.set_cons_succ]
      refine wpAnyK_take (i := 2) (v := ?_) rfl rfl (by kernel_rfl) (fun _ _ _ h => h) (Or.inl ⟨by rfl, ?_⟩) (by assumption) ?_
      rotate_left
      · (intro V hV; (try dsimp only at hV); go_simp; with_reducible rfl)
      try simp only [Act.put, List.setIfInBounds_toArray, List.set_cons_zero, List.set_cons_succ]
      refine wpAnyK_take (i := 3) (v := ?_) rfl rfl (by kernel_rfl) (fun _ _ _ h => h) (Or.inl ⟨by rfl, ?_⟩) (by assumption) ?_
      rotate_left
      · (intro V hV; (try dsimp only at hV); go_simp; with_reducible rfl)
      try simp only [Act.put, List.setIfInBounds_toArray, List.set_cons_zero, List.set_cons_succ]
      refine wpAnyK_take (i := 4) (v := ?_) rfl rfl (by kernel_rfl) (fun _ _ _ h => h) (Or.inl ⟨by rfl, ?_⟩) (by assumption) ?_
      rotate_left
      · (intro V hV; (try dsimp only at hV); go_simp; with_reducible rfl)
      try simp only [Act.put, List.setIfInBounds_toArray, List.set_cons_zero, List.set_cons_succ]
      refine wpAnyK_take (i := 5) (v := ?_) rfl rfl (by kernel_rfl) (fun _ _ _ h => h) (Or.inl ⟨by rfl, ?_⟩) (by assumption) ?_
      rotate_left
      · (intro V hV; (try dsimp only at hV); go_simp; with_reducible rfl)
      try simp only [Act.put, List.setIfInBounds_toArray, List.set_cons_zero, List.set_cons_succ]
      refine wpAnyK_take (i := 6) (v := ?_) rfl rfl (by kernel_rfl) (fun _ _ _ h => h) (Or.inl ⟨by rfl, ?_⟩) (by assumption) ?_
      rotate_left
      · (intro V hV; (try dsimp only at hV); go_simp; with_reducible rfl)
      try simp only [Act.put, List.setIfInBounds_toArray, List.set_cons_zero, List.set_cons_succ]
      refine wpAnyK_take (i := 7) (v := ?_) rfl rfl (by kernel_rfl) (fun _ _ _ h => h) (Or.inl ⟨by rfl, ?_⟩) (by assumption) ?_
      rotate_left
      · (intro V hV; (try dsimp only at hV); go_simp; with_reducible rfl)
      try simp only [Act.put, List.setIfInBounds_toArray, List.set_cons_zero, List.set_cons_succ]
      refine wpAnyK_step (i := 8) (by kernel_rfl) rfl rfl (fun K hK => ?_)
      go_simp
      with_reducible refine XPL.out.mono ?_
      rintro e w6 ⟨rfl, hb⟩
      have hb6 : Below wr.heap.size wr w6 := ⟨hb.os, hb.tape, hb.output, hb.size, hb.block⟩
      have HB6 := hide (HB.out.trans (hb6.mono HB.out.size))
      have HK6 := hide (HK.out.below hb6 HK.out.lt)
      refine hK.out _ _ (fun _ h => absurd (by simp) h) ?_
      clear hK K hb hb6 XPL hHeld k0 kl i1
      simp only [List.setIfInBounds_toArray]
      refine wpAnyK_step (i := 9) (by kernel_rfl) rfl rfl (fun K hK => ?_)
      go_simp
      refine hK.out _ _ (fun _ h => absurd (by simp) h) ?_
      clear hK K
      simp only [List.setIfInBounds_toArray]
      refine wpAnyK_done (by kernel_rfl) ?_ _
      (try simp only [Exit.then])
      cases hnb : nodeB x.r (n : Int) with
      | false =>
        have hRe : R = false := by
          rw [← HR.out]
          exact ck_no_node (i := i) (by rw [HLN.out]; exact hin) (by rw [HXR.out, HLN.out]; exact hnb)
        subst hRe
        clear hnb
        go_wp2_with fail
        go_ret
        exact ⟨rfl, HB6.out⟩
      | true =>
        have HNB := hide hnb
        clear hnb
        go_wp2_with fail
        go_roundw
        case rel =>
          refine ⟨i + 1, by omega, by go_num, hide (fun j hj => ?_), HB6, HK6⟩
          rcases Nat.lt_or_ge j i with h | h
          · exact HA.out j h
          · obtain rfl : j = i := by omega
            rw [HXR.out]
            exact HNB.out
        case measure => simp [intOf]; omega
    · have hlt : ¬ (i : Int) < (n : Int) := by omega
      obtain rfl : n = i := by omega
      have hallN : ∀ m ∈ nds l, nodeB m ((nds l).length : Int) = true := fun m hm => by
        obtain ⟨j, hj, e⟩ := List.getElem_of_mem hm
        have h2 := HA.out j (by rw [HLN.out] at hj; exact hj)
        rw [ndAt_nat, List.getD_eq_getElem?_getD, List.getElem?_eq_getElem hj] at h2
        rw [HLN.out, ← e]
        exact h2
      have HALL := hide hallN
      have XCN := hide (rcounts_any (some ⟨g, o, none⟩) n c l wr (HFS.out _ HB.out) HFEWB.out (refs_of hallN))
      clear hallN HA
      go_wp2_with fail
      with_reducible refine XCN.out.mono ?_
      rintro e w4 ⟨g1, g2, rfl, hN, hI, hb⟩
      have HK := hide (HK.out.below hb HK.out.lt)
      have HB := hide (HB.out.trans (hb.mono HB.out.size))
      have HN := hide hN
      have HI := hide hI
      clear hN hI hb XCN k0 kl
      have c0 := HN.out.cell (zsC_at HLN.out hnp)
      have i1 := fun W => cint_at g1 n n 0 0 rfl hnp W
      by_cases hc0 : cnt (nds l) 0 = 0
      case neg =>
        have hRe : R = false := by rw [← HR.out]; exact ck_no_link (i := 0) (by rw [HLN.out]; exact hnp) (by rw [link_zero, decide_eq_false hc0]; simp)
        subst hRe
        obtain ⟨q, hq⟩ : ∃ q, cnt (nds l) ((0 : Nat) : Int) = q := ⟨_, rfl⟩
        rw [hq] at c0
        have hqb : ((q : Int) != 0) = true := bne_iff_ne.2 (by have : cnt (nds l) 0 = q := hq; omega)
        clear hc0 hq
        go_wp2_with fail
        go_ret
        exact ⟨rfl, HB.out⟩
      rw [show cnt (nds l) ((0 : Nat) : Int) = 0 from hc0] at c0
      have HC0 := hide hc0
      clear hc0
      have hqb : (((0 : Nat) : Int) != 0) = false := rfl
      go_wp2_with fail
      clear c0 i1 hqb
      go_loopw [6] (fun u6 wx => ∃ i : Nat, 1 ≤ i ∧ i ≤ n ∧ u6 = .int .i64 (i : Int) ∧ Hid (∀ j, j < i → linkB (nds l) j = true) ∧ Hid (∀ j, j < i → j ≠ 0 → (ndAt (nds l) (j : Int)).kind = 2 → cnt (nds l) (j : Int) ≠ 0 → ∃ m, UpOk (nds l) (j : Int) m) ∧ Hid (Below w4.heap.size w4 wx)) (fun i _ => n - (intOf i).toNat)
      case atStart => exact ⟨1, Nat.le_refl _, by omega, rfl, hide (fun j hj => by
        obtain rfl : j = 0 := by omega
        rw [link_zero, HX0.out, HK0.out.1, HK0.out.2, HC0.out]
        rfl), hide (fun j hj h0 => absurd h0 (by omega)), hide (Below.refl _ _)⟩
      case round =>
        obtain ⟨i, h1i, hi, rfl, HA, HU, HW⟩ := hrel
        have HWW := hide (HB.out.trans (HW.out.mono HB.out.size))
        have HKW := hide (HK.out.below HW.out HK.out.lt)
        have k0 := one_ HKW.out
        have kl := HKW.out.lt
        by_cases hin : i < n
        · have hlt : (i : Int) < (n : Int) := by omega
          obtain ⟨g', o', x, hL, hg', hx, hok, hc⟩ := (HFS.out _ HWW.out).at_ hin
          injection hL with hL
          injection hL with e1 e2
          subst e1; subst e2
          have i1 := fun W => nd_at g o n c i (i : Int) rfl hin W
          have HXR : Hid (ndAt (nds l) (i : Int) = x.r) := hide (nds_at hx)
          have HEM : Hid (x.r.names.isEmpty = decide (x.mn = 0)) := hide (isEmpty_of hok.nl)
          obtain ⟨d0, d1, d2, d3, d4, d5⟩ := hc
          have hgw : g < wr.heap.size := hg'
          obtain ⟨WC, hWC⟩ : ∃ W, wr.alloc (.cells #[Value.int .i64 x.r.kind, .int .i64 x.r.mode, .int .i64 x.r.links, .slice x.D x.dn x.dc, .slice x.M x.mn x.mc, .string ⟨x.r.to.toArray⟩] 28) = W := ⟨_, rfl⟩
          have bC : Below wr.heap.size wr WC := by rw [← hWC]; exact on_alloc _ _
          have kC : Blk WC wr.heap.size 28 #[Value.int .i64 x.r.kind, .int .i64 x.r.mode, .int .i64 x.r.links, .slice x.D x.dn x.dc, .slice x.M x.mn x.mc, .string ⟨x.r.to.toArray⟩] := by rw [← hWC]; exact Blk.new wr _ _
          have HWC := hide (below_more HW.out (Nat.le_refl _) bC)
          obtain ⟨e0, e1, e2, e3, e4, e5⟩ := six kC
          have e9 := kC.lt
          have c0 := (HN.out.below HWC.out).cell (zsC_at HLN.out hin)
          have i2 := fun W => cint_at g1 n n i (i : Int) rfl hin W
          have HLP := hide (link_pos (nds l) (i := i) (by omega))
          rw [HXR.out] at HLP
          obtain ⟨q, hq⟩ : ∃ q, cnt (nds l) (i : Int) = q := ⟨_, rfl⟩
          rw [hq] at c0 HLP
          have HQ := hide hq
          clear hx hok bC kC hq hg'
          go_wp2_with fail
          clear d0 d1 d2 d3 d4 d5 i1 k0 kl hWC hgw
          by_cases hlk : x.r.links = (q : Int)
          case neg =>
            have hlb : (x.r.links != (q : Int)) = true := bne_iff_ne.2 hlk
            have hRe : R = false := by rw [← HR.out]; exact ck_no_link (i := i) (by rw [HLN.out]; exact hin) (by rw [HLP.out, decide_eq_false hlk]; rfl)
            subst hRe
            clear hlk
            go_quiet (fail)
            go_wp2_with fail
            go_ret
            exact ⟨rfl, bl_drewN (HB.out.trans (HWC.out.mono HB.out.size))⟩
          have hlb : (x.r.links != (q : Int)) = false := by rw [hlk]; simp
          rw [hlk] at HLP
          clear hlk
          by_cases hk2 : x.r.kind = 2
          case neg =>
            have hkb : (x.r.kind == 2) = false := beq_eq_false_iff_ne.2 hk2
            have hkc : (x.r.kind != 2) = true := bne_iff_ne.2 hk2
            have HLI : Hid (linkB (nds l) i = true) := hide (by rw [HLP.out, decide_eq_false hk2]; simp)
            have HNK := hide hk2
            clear hk2
            go_quiet (fail)
            go_wp2_with fail
            go_roundw
            case rel =>
              refine ⟨i + 1, by omega, by omega, by go_num, hide (fun j hj => ?_), hide (fun j hj h0 hjk hjc => ?_), hide (bl_drewN HWC.out)⟩
              · rcases Nat.lt_or_ge j i with h | h
                · exact HA.out j h
                · obtain rfl : j = i := by omega
                  exact HLI.out
              · rcases Nat.lt_or_ge j i with h | h
                · exact HU.out j h h0 hjk hjc
                · obtain rfl : j = i := by omega
                  rw [HXR.out] at hjk
                  exact absurd hjk HNK.out
            case measure => simp [intOf]; omega
          have hkb : (x.r.kind == 2) = true := by rw [hk2]; rfl
          have hkc : (x.r.kind != 2) = false := by rw [hk2]; rfl
          have HK2 := hide hk2
          by_cases hq1 : 1 < q
          case pos =>
            have hq1b : decide ((1 : Int) < (q : Int)) = true := decide_eq_true (by omega)
            have hq1c : (1 : Int) < (q : Int) := by omega
            have hRe : R = false := by rw [← HR.out]; exact ck_no_link (i := i) (by rw [HLN.out]; exact hin) (by rw [HLP.out, hk2, decide_eq_true hq1c]; simp)
            subst hRe
            clear hk2 hq1
            go_quiet (fail)
            go_wp2_with fail
            go_ret
            exact ⟨rfl, bl_drewN (HB.out.trans (HWC.out.mono HB.out.size))⟩
          have hq1b : decide ((1 : Int) < (q : Int)) = false := decide_eq_false (by omega)
          have hq1c : ¬ (1 : Int) < (q : Int) := by omega
          by_cases hq0 : q = 0
          case pos =>
            have hqb : ((q : Int) == 0) = true := beq_iff_eq.2 (by omega)
            have HQ0 := hide hq0
            by_cases hmn : x.mn = 0
            case neg =>
              have hmb : decide ((0 : Int) < (x.mn : Int)) = true := decide_eq_true (by omega)
              have hmc : (0 : Int) < (x.mn : Int) := by omega
              have hRe : R = false := by rw [← HR.out]; exact ck_no_link (i := i) (by rw [HLN.out]; exact hin) (by rw [HLP.out, hk2, HEM.out, decide_eq_false hmn, HQ0.out]; simp)
              subst hRe
              clear hk2 hmn hq1 hq0
              go_quiet (fail)
              go_wp2_with fail
              go_ret
              exact ⟨rfl, bl_drewN (HB.out.trans (HWC.out.mono HB.out.size))⟩
            have hmb : decide ((0 : Int) < (x.mn : Int)) = false := decide_eq_false (by omega)
            have hmc : ¬ (0 : Int) < (x.mn : Int) := by omega
            have HLI : Hid (linkB (nds l) i = true) := hide (by rw [HLP.out, HEM.out, decide_eq_true hmn, HQ0.out]; simp)
            clear hk2 hmn hq1 hq0
            go_quiet (fail)
            go_wp2_with fail
            go_roundw
            case rel =>
              refine ⟨i + 1, by omega, by omega, by go_num, hide (fun j hj => ?_), hide (fun j hj h0 hjk hjc => ?_), hide (bl_drewN HWC.out)⟩
              · rcases Nat.lt_or_ge j i with h | h
                · exact HA.out j h
                · obtain rfl : j = i := by omega
                  exact HLI.out
              · rcases Nat.lt_or_ge j i with h | h
                · exact HU.out j h h0 hjk hjc
                · obtain rfl : j = i := by omega
                  exact absurd (HQ.out.trans HQ0.out) hjc
            case measure => simp [intOf]; omega
          have HQ1 : Hid (q = 1) := hide (by omega)
          have hqb : ((q : Int) == 0) = false := beq_eq_false_iff_ne.2 (by omega)
          have HLI : Hid (linkB (nds l) i = true) := hide (by rw [HLP.out, HQ1.out]; simp)
          clear hk2 hq1 hq0 HLP
          go_quiet (fail)
          go_wp2_with fail
          obtain ⟨WZ, hWZ⟩ : ∃ W, WC.drewN nq = W := ⟨_, rfl⟩
          have HWZ : Hid (Below w4.heap.size w4 WZ) := hide (by rw [← hWZ]; exact bl_drewN HWC.out)
          rw [hWZ]
          clear hWZ c0 e0 e1 e2 e3 e4 e5 e9 i2 hkb hkc hq1b hq1c hqb hlb
          have HWWZ := hide (HB.out.trans (HWZ.out.mono HB.out.size))
          have HKZ := hide (HK.out.below HWZ.out HK.out.lt)
          have k0 := one_ HKZ.out
          have kl := HKZ.out.lt
          go_loopw [8, 9] (fun u8 u9 wy => ∃ k a : Nat, k ≤ n ∧ a < n ∧ u8 = .int .i64 (a : Int) ∧ u9 = .int .i64 (k : Int) ∧ Hid ((a : Int) = itr (pUp (nds l)) k (i : Int)) ∧ Hid (Up (nds l) (i : Int) k) ∧ Hid (WZ = wy)) (fun _ k _ => n - (intOf k).toNat)
          case atStart => exact ⟨0, i, Nat.zero_le _, hin, rfl, rfl, hide rfl, hide (fun j hj => absurd hj (by omega)), hide (by trivial)⟩
          case round =>
            obtain ⟨k, a, hk, han, rfl, rfl, HIT, HUP, HZ⟩ := hrel
            obtain rfl := HZ.out
            by_cases hkn : k < n
            · have hlt5 : (k : Int) < (n : Int) := by omega
              have hlt6 : decide ((k : Int) < (n : Int)) = true := decide_eq_true hlt5
              by_cases ha : a = 0
              · skip
                have HA0 : Hid ((a : Int) = 0) := hide (by omega)
                have hab : ((a : Int) != 0) = false := by rw [HA0.out]; rfl
                clear ha
                go_wp2_with fail
                go_roundw
                case rel =>
                  refine ⟨i + 1, by omega, by omega, by go_num, hide (fun j hj => ?_), hide (fun j hj h0 hjk hjc => ?_), HWZ⟩
                  · rcases Nat.lt_or_ge j i with h | h
                    · exact HA.out j h
                    · obtain rfl : j = i := by omega
                      exact HLI.out
                  · rcases Nat.lt_or_ge j i with h | h
                    · exact HU.out j h h0 hjk hjc
                    · obtain rfl : j = i := by omega
                      exact ⟨k, by rw [← HIT.out]; exact HA0.out, HUP.out⟩
                case measure => simp [intOf]; omega
              · have hab : ((a : Int) != 0) = true := bne_iff_ne.2 (by omega)
                have c1 := (HN.out.below HWZ.out).cell (zsC_at HLN.out han)
                have c2 := (HI.out.below HWZ.out).cell (zsU_at HLN.out han)
                have i3 := fun W => cint_at g1 n n a (a : Int) rfl han W
                have i4 := fun W => cint_at g2 n n a (a : Int) rfl han W
                obtain ⟨q2, hq2⟩ : ∃ q, cnt (nds l) (a : Int) = q := ⟨_, rfl⟩
                have hur := up_range (l := nds l) (by rw [HLN.out]; exact hnp) (a : Int)
                rw [HLN.out] at hur
                obtain ⟨a2, ha2⟩ : ∃ b : Nat, pUp (nds l) (a : Int) = (b : Int) := ⟨(pUp (nds l) (a : Int)).toNat, by omega⟩
                rw [hq2] at c1
                rw [ha2] at c2
                have ha2n : a2 < n := by omega
                have HQ2 := hide hq2
                have HA2 := hide ha2
                clear hq2 ha2 hur
                by_cases hqz : q2 = 0
                · have hqzb : ((q2 : Int) == 0) = true := beq_iff_eq.2 (by omega)
                  have hRe : R = false := by
                    rw [← HR.out]
                    exact ck_no_up (i := i) (k := k) (by rw [HLN.out]; exact hin) (by omega) (by rw [HXR.out]; exact HK2.out) (by rw [HQ.out, HQ1.out]; omega) HUP.out (by rw [← HIT.out]; omega) (.inr (by rw [← HIT.out, HQ2.out, hqz]))
                  subst hRe
                  clear hqz ha
                  go_wp2_with fail
                  go_ret
                  exact ⟨rfl, HWWZ.out⟩
                · have hqzb : ((q2 : Int) == 0) = false := beq_eq_false_iff_ne.2 (by omega)
                  have HIT2 : Hid ((a2 : Int) = itr (pUp (nds l)) (k + 1) (i : Int)) := hide (by
                    show _ = pUp (nds l) (itr (pUp (nds l)) k (i : Int))
                    rw [← HIT.out, HA2.out])
                  have HUP2 : Hid (Up (nds l) (i : Int) (k + 1)) := hide (fun j hj => by
                    rcases Nat.lt_or_ge j k with h | h
                    · exact HUP.out j h
                    · obtain rfl : j = k := by omega
                      rw [← HIT.out, HQ2.out]
                      exact ⟨by omega, hqz⟩)
                  clear hqz ha
                  go_wp2_with fail
                  go_roundw
                  case rel => exact ⟨k + 1, a2, by omega, ha2n, rfl, by go_num, HIT2, HUP2, hide (by trivial)⟩
                  case measure => simp [intOf]; omega
            · have hlt5 : ¬ (k : Int) < (n : Int) := by omega
              have hlt6 : decide ((k : Int) < (n : Int)) = false := decide_eq_false hlt5
              by_cases ha : a = 0
              · skip
                have HA0 : Hid ((a : Int) = 0) := hide (by omega)
                have hab : ((a : Int) != 0) = false := by rw [HA0.out]; rfl
                clear ha
                go_wp2_with fail
                go_roundw
                case rel =>
                  refine ⟨i + 1, by omega, by omega, by go_num, hide (fun j hj => ?_), hide (fun j hj h0 hjk hjc => ?_), HWZ⟩
                  · rcases Nat.lt_or_ge j i with h | h
                    · exact HA.out j h
                    · obtain rfl : j = i := by omega
                      exact HLI.out
                  · rcases Nat.lt_or_ge j i with h | h
                    · exact HU.out j h h0 hjk hjc
                    · obtain rfl : j = i := by omega
                      exact ⟨k, by rw [← HIT.out]; exact HA0.out, HUP.out⟩
                case measure => simp [intOf]; omega
              · have hab : ((a : Int) != 0) = true := bne_iff_ne.2 (by omega)
                have hRe : R = false := by
                  rw [← HR.out]
                  exact ck_no_up (i := i) (k := k) (by rw [HLN.out]; exact hin) (by omega) (by rw [HXR.out]; exact HK2.out) (by rw [HQ.out, HQ1.out]; omega) HUP.out (by rw [← HIT.out]; omega) (.inl (by rw [HLN.out]; omega))
                subst hRe
                clear ha
                go_wp2_with fail
                go_ret
                exact ⟨rfl, HWWZ.out⟩
        · have hlt : ¬ (i : Int) < (n : Int) := by omega
          obtain rfl : n = i := by omega
          have hRe : R = true := by
            rw [← HR.out]
            refine ck_yes (by rw [HLN.out]; omega) (by rw [HLN.out]; omega) HALL.out (List.all_eq_true.2 fun j hj => HA.out j (by have := List.mem_range.1 hj; rw [HLN.out] at this; exact this)) (fun j hj => HU.out j (by rw [HLN.out] at hj; exact hj))
          subst hRe
          go_wp2_with fail
          go_ret
          exact ⟨rfl, HWW.out⟩
end Go.Proofs.YtlcoapignfmgcaaGreatDoor
namespace Go.Proofs.YtlcoapignfmgcaaGreatDoor
open Go
set_option linter.unusedVariables false
section
variable {P : Program} {ops : Array Oper} {Q : Exit → Act → World → Prop} {md : Region.Mode} {S : World → Prop} {L : List Nat}
/-- Two operations may come up. -/
theorem wpAnyK_two {l : List Oper} {i j : Nat} {o p : Oper} {fuel : Nat} {listed : Array Bool} {a : Act} {w : World} (hr : Region.ready md l.toArray listed = [i, j]) (ho : l[i]? = some o) (hi' : l.toArray[i]? = l[i]?) (hp : l[j]? = some p) (hj' : l.toArray[j]? = l[j]?)
    (h1 : ∀ K' : Act → World → Prop, Shut (∀ a' w', (S w → i ∉ L → S w') → wpAnyK P md l.toArray Q S L fuel (listed.setIfInBounds i true) a' w' → K' a' w') → if Region.wanted o (yielded l.toArray a.tmps) = true then Oper.wp P o a w K' Q else K' (a.put o.dst undef) w)
    (h2 : ∀ K' : Act → World → Prop, Shut (∀ a' w', (S w → j ∉ L → S w') → wpAnyK P md l.toArray Q S L fuel (listed.setIfInBounds j true) a' w' → K' a' w') → if Region.wanted p (yielded l.toArray a.tmps) = true then Oper.wp P p a w K' Q else K' (a.put p.dst undef) w) :
    wpAnyK P md l.toArray Q S L (fuel + 1) listed a w := by
  refine ⟨fun h0 => (by rw [hr] at h0; cases h0), fun k hk => ?_⟩
  rw [hr] at hk
  rcases List.mem_cons.1 hk with rfl | hk
  · exact wpOp_step (hi'.trans ho) (fun K' hK => h1 K' (fun a w hS hW => hK a w ⟨hS, hW⟩))
  · obtain rfl : k = j := by simpa using hk
    exact wpOp_step (hj'.trans hp) (fun K' hK => h2 K' (fun a w hS hW => hK a w ⟨hS, hW⟩))
end
end Go.Proofs.YtlcoapignfmgcaaGreatDoor
namespace Go.Proofs.YtlcoapignfmgcaaGreatDoor
open Go.RowKit
set_option linter.unusedVariables false
set_option maxRecDepth 100000 in
set_option maxHeartbeats 4000000 in
theorem rnew_any (w : World) : Calls Tryz.prog 25 #[] w fun e w' => e = .returned (.agg #[.slice (some ⟨w.heap.size + 1, 0, none⟩) 1 1]) ∧ FsR w' w'.heap.size (some ⟨w.heap.size + 1, 0, none⟩) 1 [rootV] ∧ Below w.heap.size w w' := by
  go_enter Tryz.func25, Tryz.ntmps25
  go_wp2_with fail
  obtain ⟨W2, hW2⟩ : ∃ W, ((w.alloc (.cells #[.slice (some ⟨w.heap.size + 1, 0, none⟩) 1 1] 24)).alloc (.cells rootV.cs.toArray 28)) = W := ⟨_, rfl⟩
  have h1 : Blk W2 w.heap.size 24 #[.slice (some ⟨w.heap.size + 1, 0, none⟩) 1 1] := by rw [← hW2]; exact (Blk.new w _ _).alloc _
  have h2 : Blk W2 (w.heap.size + 1) 28 rootV.cs.toArray := by
    have := Blk.new (w.alloc (.cells #[.slice (some ⟨w.heap.size + 1, 0, none⟩) 1 1] 24)) 28 rootV.cs.toArray
    rw [hW2] at this
    simpa using this
  have hb : Below w.heap.size w W2 := by rw [← hW2]; exact (on_alloc w _).trans ((on_alloc _ _).mono (by simp))
  have HEND : Hid (FsR W2 W2.heap.size (some ⟨w.heap.size + 1, 0, none⟩) 1 [rootV] ∧ Below w.heap.size w W2) := hide ⟨⟨⟨rfl, fun _ => ⟨_, rfl, h2.lt, fun j u hj => by
    rw [at_add, Nat.zero_add, h2.cell j]
    simpa [dcs] using hj⟩⟩, fun x hx => by
      obtain rfl := List.mem_singleton.1 hx
      exact root_ok _ _⟩, hb⟩
  have k0 := one_ h1
  unfold rootV DV.cs at hW2
  dsimp only at hW2
  rw [show (([] : List UInt8).toArray) = #[] from rfl] at hW2
  clear h1 h2 hb
  rw [hW2]
  refine bodyPost_ret (v := .agg #[.slice (some ⟨w.heap.size + 1, 0, none⟩) 1 1]) (by simp only [results, Tryz.results25]; go_simp) rfl ⟨rfl, HEND.out⟩
set_option maxRecDepth 100000 in
theorem rnames_nil (w : World) : Calls Tryz.prog 46 #[.slice none 0 0, .slice none 0 0] w fun e w' => e = .returned (.bool true) ∧ Below w.heap.size w w' := by
  go_enter Tryz.func46, Tryz.ntmps46
  go_wp2_with fail
  go_loopw [5] (fun u5 wx => u5 = .int .i64 0 ∧ Hid (w = wx)) (fun _ _ => 0)
  case atStart => exact ⟨rfl, hide (by trivial)⟩
  case round =>
    obtain ⟨rfl, HW⟩ := hrel
    obtain rfl := HW.out
    go_wp2_with fail
    go_ret
    exact ⟨rfl, Below.refl _ _⟩
set_option maxRecDepth 100000 in
set_option maxHeartbeats 8000000 in
theorem rsame_root (L1 L2 : Option Addr) (w : World) (h1 : FsR w w.heap.size L1 1 [rootV]) (h2 : FsR w w.heap.size L2 1 [rootV]) :
    Calls Tryz.prog 15 #[.agg #[.slice L1 1 1], .agg #[.slice L2 1 1]] w fun e w' => e = .returned (.bool true) ∧ Below w.heap.size w w' := by
  obtain ⟨W1, hW1⟩ : ∃ W, w.alloc (.cells #[.slice L1 1 1] 24) = W := ⟨_, rfl⟩
  have b1 : Below w.heap.size w W1 := by rw [← hW1]; exact on_alloc _ _
  have k1 : Blk W1 w.heap.size 24 #[.slice L1 1 1] := by rw [← hW1]; exact Blk.new w _ _
  have s1 : W1.heap.size = w.heap.size + 1 := by rw [← hW1]; simp
  obtain ⟨W2, hW2⟩ : ∃ W, W1.alloc (.cells #[.slice L2 1 1] 24) = W := ⟨_, rfl⟩
  have b2 : Below W1.heap.size W1 W2 := by rw [← hW2]; exact on_alloc _ _
  have k2 : Blk W2 (w.heap.size + 1) 24 #[.slice L2 1 1] := by rw [← hW2, ← s1]; exact Blk.new W1 _ _
  have bA : Below w.heap.size w W2 := b1.trans (b2.mono (by omega))
  have HK1 := hide (k1.below b2 (by omega))
  have HK2 := hide k2
  have HB := hide bA
  obtain ⟨g1, o1, x1, rfl, hg1, hx1, hok1, hc1⟩ := h1.at_ (k := 0) (by omega)
  obtain ⟨g2, o2, x2, rfl, hg2, hx2, hok2, hc2⟩ := h2.at_ (k := 0) (by omega)
  obtain rfl : rootV = x1 := by simpa using hx1
  obtain rfl : rootV = x2 := by simpa using hx2
  have HC1 := hide (fun (V : World) (hV : Below w.heap.size w V) => NdCells.below hc1 hg1 hV)
  have HC2 := hide (fun (V : World) (hV : Below w.heap.size w V) => NdCells.below hc2 hg2 hV)
  have hcv : ∀ W, (convert 25 9 (.slice none 0 0)).run Tryz.prog W = .ok (.string ⟨#[]⟩) W := fun W => by
    have := run_string_of (P := Tryz.prog) W W.heap.size 25 9 5 none 0 0 [] Tryz.underlying25 Tryz.underlying5 Tryz.underlying9 Reads.none_
    exact this
  have HG := hide (And.intro hg1 hg2)
  have k0 := one_ HK1.out
  have k9 := one_ HK2.out
  have kl := HK1.out.lt
  have kl2 := HK2.out.lt
  clear h1 h2 b1 k1 b2 k2 bA hx1 hok1 hc1 hx2 hok2 hc2
  go_enter Tryz.func15, Tryz.ntmps15
  go_wp2_with fail
  clear hW1 hW2 k0 k9 kl kl2 s1
  go_loopw [5] (fun u5 wx => ∃ i : Nat, i ≤ 1 ∧ u5 = .int .i64 (i : Int) ∧ Hid (Below w.heap.size w wx) ∧ Hid (Blk wx w.heap.size 24 #[.slice (some ⟨g1, o1, none⟩) 1 1]) ∧ Hid (Blk wx (w.heap.size + 1) 24 #[.slice (some ⟨g2, o2, none⟩) 1 1])) (fun i _ => 1 - (intOf i).toNat)
  case atStart => exact ⟨0, by omega, rfl, HB, HK1, HK2⟩
  case round =>
    clear HB HK1 HK2
    obtain ⟨i, hi, rfl, HB, HK1, HK2⟩ := hrel
    have k0 := one_ HK1.out
    have k9 := one_ HK2.out
    have kl := HK1.out.lt
    have kl2 := HK2.out.lt
    by_cases hin : i < 1
    · have hlt : (i : Int) < 1 := by omega
      obtain rfl : i = 0 := by omega
      have c1 := HC1.out _ HB.out
      have c2 := HC2.out _ HB.out
      have HG1 : Hid (g1 < wr.heap.size ∧ g2 < wr.heap.size) := hide (by have := HG.out; have := HB.out.size; omega)
      have i1 := fun W => nd_at g1 o1 1 1 0 0 rfl (by omega) W
      have i2 := fun W => nd_at g2 o2 1 1 0 0 rfl (by omega) W
      simp only [Nat.zero_mul, Nat.add_zero] at i1 i2
      go_upto_region 6 with (fail)
      go_cut [6, 7] (fun u6 u7 wx => ∃ a b : Nat, u6 = .pointer (some ⟨a, 0, none⟩) ∧ u7 = .pointer (some ⟨b, 0, none⟩) ∧ Hid (Blk wx a 28 #[Value.int .i64 2, .int .i64 7, .int .i64 1, .slice none 0 0, .slice none 0 0, .string ⟨#[]⟩]) ∧ Hid (Blk wx b 28 #[Value.int .i64 2, .int .i64 7, .int .i64 1, .slice none 0 0, .slice none 0 0, .string ⟨#[]⟩]) ∧ Hid (Below wr.heap.size wr wx))
      case first =>
        have HSB : Hid (∀ V, Below wr.heap.size wr V → (fun V' : World => V'.cell? ⟨w.heap.size, 0, none⟩ = some (.slice (some ⟨g1, o1, none⟩) 1 1) ∧ V'.cell? ⟨w.heap.size + 1, 0, none⟩ = some (.slice (some ⟨g2, o2, none⟩) 1 1) ∧ V'.cell? ⟨g1, o1, none⟩ = some (.int .i64 2) ∧ V'.cell? ⟨g1, o1 + 1, none⟩ = some (.int .i64 7) ∧ V'.cell? ⟨g1, o1 + 2, none⟩ = some (.int .i64 1) ∧ V'.cell? ⟨g1, o1 + 3, none⟩ = some (.slice none 0 0) ∧ V'.cell? ⟨g1, o1 + 4, none⟩ = some (.slice none 0 0) ∧ V'.cell? ⟨g1, o1 + 5, none⟩ = some (.string ⟨#[]⟩) ∧ V'.cell? ⟨g2, o2, none⟩ = some (.int .i64 2) ∧ V'.cell? ⟨g2, o2 + 1, none⟩ = some (.int .i64 7) ∧ V'.cell? ⟨g2, o2 + 2, none⟩ = some (.int .i64 1) ∧ V'.cell? ⟨g2, o2 + 3, none⟩ = some (.slice none 0 0) ∧ V'.cell? ⟨g2, o2 + 4, none⟩ = some (.slice none 0 0) ∧ V'.cell? ⟨g2, o2 + 5, none⟩ = some (.string ⟨#[]⟩)) V) := hide (fun V hV => by
          obtain ⟨d0, d1, d2, d3, d4, d5⟩ := HC1.out V (below_more HB.out (by have := HB.out.size; omega) hV)
          obtain ⟨e0, e1, e2, e3, e4, e5⟩ := HC2.out V (below_more HB.out (by have := HB.out.size; omega) hV)
          unfold rootV at d0 d1 d2 d3 d4 d5 e0 e1 e2 e3 e4 e5
          dsimp only at d0 d1 d2 d3 d4 d5 e0 e1 e2 e3 e4 e5
          simp only [Nat.zero_mul, Nat.add_zero] at d0 d1 d2 d3 d4 d5 e0 e1 e2 e3 e4 e5
          exact ⟨one_ (HK1.out.below hV HK1.out.lt), one_ (HK2.out.below hV HK2.out.lt), d0, d1, d2, d3, d4, d5, e0, e1, e2, e3, e4, e5⟩)
        rw [show ((0 : Nat) : Int) = 0 from rfl]
        refine wp_region_K (fun V' : World => V'.cell? ⟨w.heap.size, 0, none⟩ = some (.slice (some ⟨g1, o1, none⟩) 1 1) ∧ V'.cell? ⟨w.heap.size + 1, 0, none⟩ = some (.slice (some ⟨g2, o2, none⟩) 1 1) ∧ V'.cell? ⟨g1, o1, none⟩ = some (.int .i64 2) ∧ V'.cell? ⟨g1, o1 + 1, none⟩ = some (.int .i64 7) ∧ V'.cell? ⟨g1, o1 + 2, none⟩ = some (.int .i64 1) ∧ V'.cell? ⟨g1, o1 + 3, none⟩ = some (.slice none 0 0) ∧ V'.cell? ⟨g1, o1 + 4, none⟩ = some (.slice none 0 0) ∧ V'.cell? ⟨g1, o1 + 5, none⟩ = some (.string ⟨#[]⟩) ∧ V'.cell? ⟨g2, o2, none⟩ = some (.int .i64 2) ∧ V'.cell? ⟨g2, o2 + 1, none⟩ = some (.int .i64 7) ∧ V'.cell? ⟨g2, o2 + 2, none⟩ = some (.int .i64 1) ∧ V'.cell? ⟨g2, o2 + 3, none⟩ = some (.slice none 0 0) ∧ V'.cell? ⟨g2, o2 + 4, none⟩ = some (.slice none 0 0) ∧ V'.cell? ⟨g2, o2 + 5, none⟩ = some (.string ⟨#[]⟩)) [13] rfl (HSB.out _ (bl_drewN (n := 1) (Below.refl _ _))) (fun hHeld => ?_)
        clear c1 c2
        refine wpAnyK_take (i := 0) (v := ?_) rfl rfl (by kernel_rfl) (fun _ _ _ h => h) (Or.inl ⟨by rfl, ?_⟩) (by assumption) ?_
        rotate_left
        · (intro V hV; (try dsimp only at hV); go_simp; with_reducible rfl)
        try simp only [Act.put, List.setIfInBounds_toArray, List.set_cons_zero, List.set_cons_succ]
        refine wpAnyK_take (i := 1) (v := ?_) rfl rfl (by kernel_rfl) (fun _ _ _ h => h) (Or.inl ⟨by rfl, ?_⟩) (by assumption) ?_
        rotate_left
        · (intro V hV; (try dsimp only at hV); go_simp; with_reducible rfl)
        try simp only [Act.put, List.setIfInBounds_toArray, List.set_cons_zero, List.set_cons_succ]
        refine wpAnyK_take (i := 2) (v := ?_) rfl rfl (by kernel_rfl) (fun _ _ _ h => h) (Or.inl ⟨by rfl, ?_⟩) (by assumption) ?_
        rotate_left
        · (intro V hV; (try dsimp only at hV); go_simp; with_reducible rfl)
        try simp only [Act.put, List.setIfInBounds_toArray, List.set_cons_zero, List.set_cons_succ]
        refine wpAnyK_take (i := 3) (v := ?_) rfl rfl (by kernel_rfl) (fun _ _ _ h => h) (Or.inl ⟨by rfl, ?_⟩) (by assumption) ?_
        rotate_left
        · (intro V hV; (try dsimp only at hV); go_simp; with_reducible rfl)
        try simp only [Act.put, List.setIfInBounds_toArray, List.set_cons_zero, List.set_cons_succ]
        refine wpAnyK_take (i := 4) (v := ?_) rfl rfl (by kernel_rfl) (fun _ _ _ h => h) (Or.inl ⟨by rfl, ?_⟩) (by assumption) ?_
        rotate_left
        · (intro V hV; (try dsimp only at hV); go_simp; with_reducible rfl)
        try simp only [Act.put, List.setIfInBounds_toArray, List.set_cons_zero, List.set_cons_succ]
        refine wpAnyK_take (i := 5) (v := ?_) rfl rfl (by kernel_rfl) (fun _ _ _ h => h) (Or.inl ⟨by rfl, ?_⟩) (by assumption) ?_
        rotate_left
        · (intro V hV; (try dsimp only at hV); go_simp; with_reducible rfl)
        try simp only [Act.put, List.setIfInBounds_toArray, List.set_cons_zero, List.set_cons_succ]
        refine wpAnyK_take (i := 6) (v := ?_) rfl rfl (by kernel_rfl) (fun _ _ _ h => h) (Or.inl ⟨by rfl, ?_⟩) (by assumption) ?_
        rotate_left
        · (intro V hV; (try dsimp only at hV); go_simp; with_reducible rfl)
        try simp only [Act.put, List.setIfInBounds_toArray, List.set_cons_zero, List.set_cons_succ]
        refine wpAnyK_take (i := 7) (v := ?_) rfl rfl (by kernel_rfl) (fun _ _ _ h => h) (Or.inl ⟨by rfl, ?_⟩) (by assumption) ?_
        rotate_left
        · (intro V hV; (try dsimp only at hV); go_simp; with_reducible rfl)
        try simp only [Act.put, List.setIfInBounds_toArray, List.set_cons_zero, List.set_cons_succ]
        refine wpAnyK_take (i := 8) (v := ?_) rfl rfl (by kernel_rfl) (fun _ _ _ h => h) (Or.inl ⟨by rfl, ?_⟩) (by assumption) ?_
        rotate_left
        · (intro V hV; (try dsimp only at hV); go_simp; with_reducible rfl)
        try simp only [Act.put, List.setIfInBounds_toArray, List.set_cons_zero, List.set_cons_succ]
        refine wpAnyK_take (i := 9) (v := ?_) rfl rfl (by kernel_rfl) (fun _ _ _ h => h) (Or.inl ⟨by rfl, ?_⟩) (by assumption) ?_
        rotate_left
        · (intro V hV; (try dsimp only at hV); go_simp; with_reducible rfl)
        try simp only [Act.put, List.setIfInBounds_toArray, List.set_cons_zero, List.set_cons_succ]
        obtain ⟨wd, hwd⟩ : ∃ W, World.drew wr = W := ⟨_, rfl⟩
        have hdr : Below wr.heap.size wr wd := by rw [← hwd]; exact bl_drewN (n := 1) (Below.refl _ _)
        rw [hwd] at hHeld ⊢
        clear hwd
        refine wpAnyK_two (i := 10) (j := 11) (by kernel_rfl) rfl rfl rfl rfl (fun K hK => ?_) (fun K hK => ?_)
        · go_simp
          have hb1 : Below wr.heap.size wr (wd.alloc (.cells #[Value.int .i64 0, .int .i64 0, .int .i64 0, .slice none 0 0, .slice none 0 0, .string ⟨#[]⟩] 28)) := hdr.trans ((on_alloc _ _).mono hdr.size)
          refine hK.out _ _ (fun _ _ => HSB.out _ hb1) ?_
          clear hK K hHeld
          simp only [List.setIfInBounds_toArray]
          refine wpAnyK_step (i := 11) (by kernel_rfl) rfl rfl (fun K hK => ?_)
          go_simp
          have hb2 : Below wr.heap.size wr ((wd.alloc (.cells #[Value.int .i64 0, .int .i64 0, .int .i64 0, .slice none 0 0, .slice none 0 0, .string ⟨#[]⟩] 28)).alloc (.cells #[Value.int .i64 0, .int .i64 0, .int .i64 0, .slice none 0 0, .slice none 0 0, .string ⟨#[]⟩] 28)) := hb1.trans ((on_alloc _ _).mono hb1.size)
          refine hK.out _ _ (fun _ _ => HSB.out _ hb2) ?_
          clear hK K
          simp only [List.setIfInBounds_toArray]
          refine wpAnyK_step (i := 12) (by kernel_rfl) rfl rfl (fun K hK => ?_)
          go_simp
          have hb3 : Below wr.heap.size wr ((wd.alloc (.cells #[Value.int .i64 2, .int .i64 7, .int .i64 1, .slice none 0 0, .slice none 0 0, .string ⟨#[]⟩] 28)).alloc (.cells #[Value.int .i64 0, .int .i64 0, .int .i64 0, .slice none 0 0, .slice none 0 0, .string ⟨#[]⟩] 28)) := (hdr.trans ((on_alloc _ _).mono hdr.size)).trans ((on_alloc _ _).mono (by have := hdr.size; simp; omega))
          refine hK.out _ _ (fun _ _ => HSB.out _ hb3) ?_
          clear hK K
          simp only [List.setIfInBounds_toArray]
          refine wpAnyK_step (i := 13) (by kernel_rfl) rfl rfl (fun K hK => ?_)
          go_simp
          refine hK.out _ _ (fun _ h => absurd (by simp) h) ?_
          clear hK K
          refine wpAnyK_done (by kernel_rfl) ?_ _
          (try simp only [Exit.then])
          have hz1 : Blk ((wd.alloc (.cells #[Value.int .i64 2, .int .i64 7, .int .i64 1, .slice none 0 0, .slice none 0 0, .string ⟨#[]⟩] 28)).alloc (.cells #[Value.int .i64 2, .int .i64 7, .int .i64 1, .slice none 0 0, .slice none 0 0, .string ⟨#[]⟩] 28)) wd.heap.size 28 #[Value.int .i64 2, .int .i64 7, .int .i64 1, .slice none 0 0, .slice none 0 0, .string ⟨#[]⟩] := (Blk.new wd _ _).alloc _
          have hz2 : Blk ((wd.alloc (.cells #[Value.int .i64 2, .int .i64 7, .int .i64 1, .slice none 0 0, .slice none 0 0, .string ⟨#[]⟩] 28)).alloc (.cells #[Value.int .i64 2, .int .i64 7, .int .i64 1, .slice none 0 0, .slice none 0 0, .string ⟨#[]⟩] 28)) (wd.heap.size + 1) 28 #[Value.int .i64 2, .int .i64 7, .int .i64 1, .slice none 0 0, .slice none 0 0, .string ⟨#[]⟩] := by
            have := Blk.new (wd.alloc (.cells #[Value.int .i64 2, .int .i64 7, .int .i64 1, .slice none 0 0, .slice none 0 0, .string ⟨#[]⟩] 28)) 28 #[Value.int .i64 2, .int .i64 7, .int .i64 1, .slice none 0 0, .slice none 0 0, .string ⟨#[]⟩]
            simpa using this
          have hb4 : Below wr.heap.size wr ((wd.alloc (.cells #[Value.int .i64 2, .int .i64 7, .int .i64 1, .slice none 0 0, .slice none 0 0, .string ⟨#[]⟩] 28)).alloc (.cells #[Value.int .i64 2, .int .i64 7, .int .i64 1, .slice none 0 0, .slice none 0 0, .string ⟨#[]⟩] 28)) := (hdr.trans ((on_alloc _ _).mono hdr.size)).trans ((on_alloc _ _).mono (by have := hdr.size; simp; omega))
          have HZ := hide (And.intro hz1 (And.intro hz2 hb4))
          clear hz1 hz2 hb4 hb1 hb2 hb3
          go_wp2_with fail
          go_meet
          exact ⟨_, _, rfl, rfl, hide HZ.out.1, hide HZ.out.2.1, hide HZ.out.2.2⟩
        · go_simp
          have hb1 : Below wr.heap.size wr (wd.alloc (.cells #[Value.int .i64 0, .int .i64 0, .int .i64 0, .slice none 0 0, .slice none 0 0, .string ⟨#[]⟩] 28)) := hdr.trans ((on_alloc _ _).mono hdr.size)
          refine hK.out _ _ (fun _ _ => HSB.out _ hb1) ?_
          clear hK K hHeld
          simp only [List.setIfInBounds_toArray]
          refine wpAnyK_step (i := 10) (by kernel_rfl) rfl rfl (fun K hK => ?_)
          go_simp
          have hb2 : Below wr.heap.size wr ((wd.alloc (.cells #[Value.int .i64 0, .int .i64 0, .int .i64 0, .slice none 0 0, .slice none 0 0, .string ⟨#[]⟩] 28)).alloc (.cells #[Value.int .i64 0, .int .i64 0, .int .i64 0, .slice none 0 0, .slice none 0 0, .string ⟨#[]⟩] 28)) := hb1.trans ((on_alloc _ _).mono hb1.size)
          refine hK.out _ _ (fun _ _ => HSB.out _ hb2) ?_
          clear hK K
          simp only [List.setIfInBounds_toArray]
          refine wpAnyK_step (i := 12) (by kernel_rfl) rfl rfl (fun K hK => ?_)
          go_simp
          have hb3 : Below wr.heap.size wr ((wd.alloc (.cells #[Value.int .i64 0, .int .i64 0, .int .i64 0, .slice none 0 0, .slice none 0 0, .string ⟨#[]⟩] 28)).alloc (.cells #[Value.int .i64 2, .int .i64 7, .int .i64 1, .slice none 0 0, .slice none 0 0, .string ⟨#[]⟩] 28)) := (hdr.trans ((on_alloc _ _).mono hdr.size)).trans ((on_alloc _ _).mono (by have := hdr.size; simp; omega))
          refine hK.out _ _ (fun _ _ => HSB.out _ hb3) ?_
          clear hK K
          simp only [List.setIfInBounds_toArray]
          refine wpAnyK_step (i := 13) (by kernel_rfl) rfl rfl (fun K hK => ?_)
          go_simp
          refine hK.out _ _ (fun _ h => absurd (by simp) h) ?_
          clear hK K
          refine wpAnyK_done (by kernel_rfl) ?_ _
          (try simp only [Exit.then])
          have hz1 : Blk ((wd.alloc (.cells #[Value.int .i64 2, .int .i64 7, .int .i64 1, .slice none 0 0, .slice none 0 0, .string ⟨#[]⟩] 28)).alloc (.cells #[Value.int .i64 2, .int .i64 7, .int .i64 1, .slice none 0 0, .slice none 0 0, .string ⟨#[]⟩] 28)) wd.heap.size 28 #[Value.int .i64 2, .int .i64 7, .int .i64 1, .slice none 0 0, .slice none 0 0, .string ⟨#[]⟩] := (Blk.new wd _ _).alloc _
          have hz2 : Blk ((wd.alloc (.cells #[Value.int .i64 2, .int .i64 7, .int .i64 1, .slice none 0 0, .slice none 0 0, .string ⟨#[]⟩] 28)).alloc (.cells #[Value.int .i64 2, .int .i64 7, .int .i64 1, .slice none 0 0, .slice none 0 0, .string ⟨#[]⟩] 28)) (wd.heap.size + 1) 28 #[Value.int .i64 2, .int .i64 7, .int .i64 1, .slice none 0 0, .slice none 0 0, .string ⟨#[]⟩] := by
            have := Blk.new (wd.alloc (.cells #[Value.int .i64 2, .int .i64 7, .int .i64 1, .slice none 0 0, .slice none 0 0, .string ⟨#[]⟩] 28)) 28 #[Value.int .i64 2, .int .i64 7, .int .i64 1, .slice none 0 0, .slice none 0 0, .string ⟨#[]⟩]
            simpa using this
          have hb4 : Below wr.heap.size wr ((wd.alloc (.cells #[Value.int .i64 2, .int .i64 7, .int .i64 1, .slice none 0 0, .slice none 0 0, .string ⟨#[]⟩] 28)).alloc (.cells #[Value.int .i64 2, .int .i64 7, .int .i64 1, .slice none 0 0, .slice none 0 0, .string ⟨#[]⟩] 28)) := (hdr.trans ((on_alloc _ _).mono hdr.size)).trans ((on_alloc _ _).mono (by have := hdr.size; simp; omega))
          have HZ := hide (And.intro hz1 (And.intro hz2 hb4))
          clear hz1 hz2 hb4 hb1 hb2 hb3
          go_wp2_with fail
          go_meet
          exact ⟨_, _, rfl, rfl, hide HZ.out.2.1, hide HZ.out.1, hide HZ.out.2.2⟩
      case rest =>
        obtain ⟨a, b, rfl, rfl, HA, HBB, HW⟩ := hcut
        have HB2 := hide (below_more HB.out (by have := HB.out.size; omega) HW.out)
        have HK1' := hide (HK1.out.below HW.out HK1.out.lt)
        have HK2' := hide (HK2.out.below HW.out HK2.out.lt)
        obtain ⟨a0, a1, a2, a3, a4, a5⟩ := six HA.out
        obtain ⟨b0, b1, b2, b3, b4, b5⟩ := six HBB.out
        have al := HA.out.lt
        have bl := HBB.out.lt
        go_wp2_with fail
        with_reducible refine (rnames_nil _).mono ?_
        rintro e w6 ⟨rfl, hb⟩
        have HB6 := hide (below_more HB2.out (by have := HB2.out.size; omega) hb)
        have HK1'' := hide (HK1'.out.below hb HK1'.out.lt)
        have HK2'' := hide (HK2'.out.below hb HK2'.out.lt)
        clear hb a0 a1 a2 a3 a4 a5 b0 b1 b2 b3 b4 b5
        go_wp2_with fail
        go_roundw
        case rel => exact ⟨1, by omega, by go_num, HB6, HK1'', HK2''⟩
        case measure => simp [intOf]
    · have hlt : ¬ (i : Int) < 1 := by omega
      go_wp2_with fail
      go_ret
      exact ⟨rfl, HB.out⟩
end Go.Proofs.YtlcoapignfmgcaaGreatDoor
