/- The document's counts. -/
import Derived.Test.YtnhfpaobocbieaaNdQp
namespace Go.Proofs.Ytnhfpaobocbieaa
open Go.RowKit
set_option linter.unusedVariables false
theorem infoInt : (Try.prog.info? 3).map (fun i => (i.zero, i.size, i.bytes)) = some (some (.int .i64 0), 1, 8) := by kernel_rfl
theorem sizeInt : (Try.prog.info? 3).map (·.size) = some 1 := by kernel_rfl
def iv (zs : List Int) : List Value := zs.map fun z => .int .i64 z
theorem iv_length (zs : List Int) : (iv zs).length = zs.length := by simp [iv]
theorem iv_at {zs : List Int} {k : Nat} {z : Int} (h : zs[k]? = some z) : (iv zs)[k]? = some (.int .i64 z) := by simp [iv, h]
/-- A block of ints. -/
def IB (V : World) (g : Nat) (zs : List Int) : Prop := Blk V g 3 (iv zs).toArray
theorem IB.lt {V : World} {g : Nat} {zs : List Int} (h : IB V g zs) : g < V.heap.size := Blk.lt h
theorem IB.below {V V' : World} {g : Nat} {zs : List Int} (h : IB V g zs) (hb : Below V.heap.size V V') : IB V' g zs := Blk.below h hb h.lt
theorem IB.cell {V : World} {g k : Nat} {zs : List Int} {z : Int} (h : IB V g zs) (hk : zs[k]? = some z) : V.cell? ⟨g, k, none⟩ = some (.int .i64 z) := by
  rw [Blk.cell h k]
  simpa using iv_at hk
theorem IB.set {V : World} {g k : Nat} {zs : List Int} (h : IB V g zs) (z : Int) : IB (V.setCell ⟨g, k, none⟩ (.int .i64 z)) g (zs.set k z) := by
  have := Blk.set_ h k (.int .i64 z)
  unfold IB
  rw [show (iv (zs.set k z)).toArray = (iv zs).toArray.setIfInBounds k (.int .i64 z) by simp [iv, List.map_set]]
  exact this
theorem IB.far {V : World} {g : Nat} {zs : List Int} (h : IB V g zs) {p : Addr} (hp : g ≠ p.block) (u : Value) : IB (V.setCell p u) g zs := Blk.far h hp u
theorem ints_make (n : Nat) (i : Int) (hi : i = (n : Int)) (hn : n ≤ 2000) (W : World) : (Instr.makeSlice 69 (.int .i64 i) (.int .i64 i)).run Try.prog W = .ok (.slice (some ⟨W.heap.size, 0, none⟩) n n) (W.alloc (.cells (iv (List.replicate n 0)).toArray 3)) := by
  subst hi
  obtain ⟨i, hi, hz0, hz1, hz2⟩ := info_parts infoInt
  have := run_make_rowN (P := Try.prog) 69 3 i _ Try.underlying69 hi hz0 .i64 .i64 n n (Nat.le_refl _) (by rw [hz2]; omega) (by omega) W
  rw [this, hz1, Nat.mul_one]
  have e : madeCells (Value.int IntKind.i64 0).cells n = (iv (List.replicate n 0)).toArray := by
    apply Array.toList_inj.1
    have := toList_madeCells_one (Value.int IntKind.i64 0) n
    rw [show madeCells (Value.int IntKind.i64 0).cells n = madeCells #[Value.int IntKind.i64 0] n from rfl, this]
    simp [iv]
  rw [← e]
theorem int_at (g m k q : Nat) (i : Int) (hi : i = (q : Int)) (hq : q < m) (W : World) : (Instr.indexAt 69 (.slice (some ⟨g, 0, none⟩) m k) (.int .i64 i)).run Try.prog W = .ok (.pointer (some ⟨g, q, none⟩)) W := by
  subst hi
  have hE : Try.prog.elem 69 = 3 := by simp [Program.elem, Try.underlying69]
  rw [run_indexAt_slice W 69 ⟨g, 0, none⟩ m k .i64 (q : Int) (slice_ht Try.underlying69), if_pos ⟨by omega, by omega⟩]
  rw [hE, run_sizeOf_n sizeInt W]
  simp only [Result.andThen, Int.toNat_natCast, at_add, Nat.zero_add, Nat.mul_one]
theorem prN_le {l : List ND} {i k : Nat} (hi : i < l.length) : (prN l i k).length ≤ (allNames l).length := by
  have h1 : (prs l (i + 1)).length ≤ (prs l l.length).length := by
    obtain ⟨d, hd⟩ : ∃ d, l.length = i + 1 + d := ⟨l.length - (i + 1), by omega⟩
    rw [hd]
    unfold prs
    rw [show List.range (i + 1 + d) = List.range (i + 1) ++ (List.range d).map (fun x => i + 1 + x) from List.range_add .., List.flatMap_append, List.length_append]
    omega
  have h2 : (prs l l.length).length = (allNames l).length := by
    have := congrArg List.length (prs_nodes l)
    simpa using this
  have h3 : (prN l i k).length ≤ (prs l (i + 1)).length := by
    unfold prN prs
    rw [List.range_succ, List.flatMap_append, List.length_append, List.length_append]
    simp
    omega
  omega
def CountsEnd (l : List ND) (n : Nat) (w : World) (e : Ending) (w' : World) : Prop :=
  ∃ g1 g2, e = .returned (.tuple #[.slice (some ⟨g1, 0, none⟩) n n, .slice (some ⟨g2, 0, none⟩) n n]) ∧ IB w' g1 (zsN (prs l n) n) ∧ IB w' g2 (zsI (prs l n) n) ∧ Below w.heap.size w w'
set_option maxRecDepth 100000 in
set_option maxHeartbeats 8000000 in
theorem rcounts_any (L : Option Addr) (n c : Nat) (l : List DV) (w : World) (hF : FsR w w.heap.size L n l) (hB : FewB l) (hr : RefsOk (nds l)) :
    Calls Try.prog 41 #[.agg #[.slice L n c]] w (CountsEnd (nds l) n w) := by
  have hl := hF.len
  have hln : (nds l).length = n := by rw [nds_length, hl]
  have hn : n ≤ 60 := by have := hB.n; omega
  have HNF := hide (names_few hB)
  obtain ⟨W1, hW1⟩ : ∃ W, w.alloc (.cells #[.slice L n c] 24) = W := ⟨_, rfl⟩
  have b1 : Below w.heap.size w W1 := by rw [← hW1]; exact on_alloc _ _
  have k1 : Blk W1 w.heap.size 24 #[.slice L n c] := by rw [← hW1]; exact Blk.new w _ _
  have s1 : W1.heap.size = w.heap.size + 1 := by rw [← hW1]; simp
  obtain ⟨W2, hW2⟩ : ∃ W, W1.alloc (.cells (iv (List.replicate n 0)).toArray 3) = W := ⟨_, rfl⟩
  have b2 : Below W1.heap.size W1 W2 := by rw [← hW2]; exact on_alloc _ _
  have k2 : IB W2 (w.heap.size + 1) (List.replicate n 0) := by rw [← hW2, ← s1]; exact Blk.new W1 _ _
  have s2 : W2.heap.size = w.heap.size + 2 := by rw [← hW2]; simp [s1]
  obtain ⟨W3, hW3⟩ : ∃ W, W2.alloc (.cells (iv (List.replicate n 0)).toArray 3) = W := ⟨_, rfl⟩
  have b3 : Below W2.heap.size W2 W3 := by rw [← hW3]; exact on_alloc _ _
  have k3 : IB W3 (w.heap.size + 2) (List.replicate n 0) := by rw [← hW3, ← s2]; exact Blk.new W2 _ _
  have bA : Below w.heap.size w W3 := b1.trans ((b2.mono (by omega)).trans (b3.mono (by omega)))
  have m1 : (Instr.makeSlice 69 (.int .i64 (n : Int)) (.int .i64 (n : Int))).run Try.prog W1 = .ok (.slice (some ⟨w.heap.size + 1, 0, none⟩) n n) W2 := by rw [ints_make n (n : Int) rfl (by omega) W1, hW2, s1]
  have m2 : (Instr.makeSlice 69 (.int .i64 (n : Int)) (.int .i64 (n : Int))).run Try.prog W2 = .ok (.slice (some ⟨w.heap.size + 2, 0, none⟩) n n) W3 := by rw [ints_make n (n : Int) rfl (by omega) W2, hW3, s2]
  have HK := hide ((k1.below b2 (by omega)).below b3 (by omega))
  have HN : Hid (IB W3 (w.heap.size + 1) (zsN (prN (nds l) 0 0) n)) := hide (by rw [prN_zero]; show IB W3 _ (zsN [] n); rw [zsN_nil]; exact k2.below b3)
  have HI : Hid (IB W3 (w.heap.size + 2) (zsI (prN (nds l) 0 0) n)) := hide (by rw [prN_zero]; show IB W3 _ (zsI [] n); rw [zsI_nil]; exact k3)
  have HB := hide bA
  have HFS := hide (fun (V : World) (hV : Below w.heap.size w V) => (hF.below hV).more hV.size)
  have HR := hide hr
  have HLN := hide hln
  have HL := hide hl
  have HFEW := hide hB.each
  have k0 := one_ k1
  have kk0 := one_ (k1.below b2 (by omega))
  clear hF hB hr hln hl b1 k1 b2 k2 b3 k3 bA s1 s2
  go_enter Try.func41, Try.ntmps41
  go_wp2_with fail
  clear m1 m2 k0 kk0 hW1 hW2 hW3
  go_loopw [6] (fun u6 wx => ∃ i : Nat, i ≤ n ∧ u6 = .int .i64 (i : Int) ∧ Hid (IB wx (w.heap.size + 1) (zsN (prN (nds l) i 0) n)) ∧ Hid (IB wx (w.heap.size + 2) (zsI (prN (nds l) i 0) n)) ∧ Hid (Below w.heap.size w wx) ∧ Hid (Blk wx w.heap.size 24 #[.slice L n c])) (fun i _ => n - (intOf i).toNat)
  case atStart => exact ⟨0, Nat.zero_le _, rfl, HN, HI, HB, HK⟩
  case round =>
    clear HN HI HB HK
    obtain ⟨i, hi, rfl, HN, HI, HB, HK⟩ := hrel
    have k0 := one_ HK.out
    have kl := HK.out.lt
    by_cases hin : i < n
    · have hlt : (i : Int) < (n : Int) := by omega
      obtain ⟨g, o, x, hL, hg, hx, hok, hc⟩ := (HFS.out _ HB.out).at_ hin
      subst hL
      have i1 := fun W => nd_at g o n c i (i : Int) rfl hin W
      have HXR : Hid (ndAt (nds l) (i : Int) = x.r) := hide (nds_at hx)
      have hmx : x.mn ≤ 100 := by have := (HFEW.out x (List.mem_of_getElem? hx)).n; have := hok.nl; omega
      have HNL := hide hok.nl
      have HX := hide hx
      clear hx hok hc
      go_wp2_with fail
      go_loopw [7] (fun u7 wy => ∃ k : Nat, k ≤ x.mn ∧ u7 = .int .i64 (k : Int) ∧ Hid (IB wy (w.heap.size + 1) (zsN (prN (nds l) i k) n)) ∧ Hid (IB wy (w.heap.size + 2) (zsI (prN (nds l) i k) n)) ∧ Hid (Below w.heap.size w wy) ∧ Hid (Blk wy w.heap.size 24 #[.slice (some ⟨g, o, none⟩) n c])) (fun k _ => x.mn - (intOf k).toNat)
      case atStart => exact ⟨0, Nat.zero_le _, rfl, HN, HI, HB, HK⟩
      case round =>
        clear HN HI HB HK k0 kl
        obtain ⟨k, hk, rfl, HN, HI, HB, HK⟩ := hrel
        have k0 := one_ HK.out
        have kl := HK.out.lt
        obtain ⟨g', o', x', hL, hg', hx', hok', hc'⟩ := (HFS.out _ HB.out).at_ hin
        injection hL with hL
        injection hL with e1 e2
        subst e1; subst e2
        obtain rfl : x = x' := by rw [HX.out] at hx'; injection hx'
        obtain ⟨d0, d1, d2, d3, d4, d5⟩ := hc'
        clear hx' d0 d1 d2 d3 d5
        by_cases hkn : k < x.mn
        · have hlt2 : (k : Int) < (x.mn : Int) := by omega
          obtain ⟨gm, om, y, hM, hgm, hy, n0, n1⟩ := nm_cells hok'.n hkn
          have i2 := fun W => nm_at gm om x.mn x.mc k (k : Int) rfl hkn W
          have hrf := HR.out x.r (by unfold nds; exact List.mem_map.2 ⟨x, List.mem_of_getElem? HX.out, rfl⟩) y (List.mem_of_getElem? hy)
          rw [HLN.out] at hrf
          obtain ⟨v, hv⟩ : ∃ v : Nat, y.node = (v : Int) := ⟨y.node.toNat, by omega⟩
          have hvn : v < n := by omega
          have HP : Hid (prN (nds l) i (k + 1) = prN (nds l) i k ++ [(i, (v : Int))]) := hide (by rw [prN_succ (y := y) (by rw [HXR.out]; exact hy), hv])
          have hle := prN_le (l := nds l) (i := i) (k := k) (by rw [HLN.out]; exact hin)
          have hcl : cN (prN (nds l) i k) (v : Int) ≤ 100000 := Nat.le_trans (List.countP_le_length) (Nat.le_trans hle HNF.out)
          have HSN := hide (zsN_set (ps := prN (nds l) i k) (i := i) hvn)
          have HSI := hide (zsI_set (ps := prN (nds l) i k) (i := i) hvn)
          have c0 := HN.out.cell (zsN_at hvn)
          obtain ⟨q, hq⟩ : ∃ q, cN (prN (nds l) i k) (v : Int) = q := ⟨_, rfl⟩
          rw [hq] at c0 HSN hcl
          have kw : IntKind.i64.wrap ((q : Int) + 1) = (q : Int) + 1 := by simp [IntKind.wrap, IntKind.bits, IntKind.signed]; omega
          obtain ⟨WA, hWA⟩ : ∃ W, wr.setCell ⟨w.heap.size + 1, v, none⟩ (.int .i64 ((q : Int) + 1)) = W := ⟨_, rfl⟩
          have HN1 : Hid (IB WA (w.heap.size + 1) (zsN (prN (nds l) i (k + 1)) n)) := hide (by rw [← hWA, HP.out, ← HSN.out]; exact HN.out.set _)
          have hI1 : IB WA (w.heap.size + 2) (zsI (prN (nds l) i k) n) := by rw [← hWA]; exact HI.out.far (p := ⟨w.heap.size + 1, v, none⟩) (by show w.heap.size + 2 ≠ w.heap.size + 1; omega) _
          have HK1 : Hid (Blk WA w.heap.size 24 #[.slice (some ⟨g, o, none⟩) n c]) := hide (by rw [← hWA]; exact HK.out.far (p := ⟨w.heap.size + 1, v, none⟩) (by show w.heap.size ≠ w.heap.size + 1; omega) _)
          have bWA : Below w.heap.size wr WA := by rw [← hWA]; exact (Below.refl w.heap.size wr).setCell (p := ⟨w.heap.size + 1, v, none⟩) (by show w.heap.size ≤ w.heap.size + 1; omega) _
          have HB1 := hide (HB.out.trans bWA)
          obtain ⟨WB, hWB⟩ : ∃ W, WA.setCell ⟨w.heap.size + 2, v, none⟩ (.int .i64 (i : Int)) = W := ⟨_, rfl⟩
          have HI2 : Hid (IB WB (w.heap.size + 2) (zsI (prN (nds l) i (k + 1)) n)) := hide (by rw [← hWB, HP.out, ← HSI.out]; exact hI1.set _)
          have HN2 : Hid (IB WB (w.heap.size + 1) (zsN (prN (nds l) i (k + 1)) n)) := hide (by rw [← hWB]; exact HN1.out.far (p := ⟨w.heap.size + 2, v, none⟩) (by show w.heap.size + 1 ≠ w.heap.size + 2; omega) _)
          have HK2 : Hid (Blk WB w.heap.size 24 #[.slice (some ⟨g, o, none⟩) n c]) := hide (by rw [← hWB]; exact HK1.out.far (p := ⟨w.heap.size + 2, v, none⟩) (by show w.heap.size ≠ w.heap.size + 2; omega) _)
          have HB2 : Hid (Below w.heap.size w WB) := hide (by rw [← hWB]; exact HB1.out.setCell (p := ⟨w.heap.size + 2, v, none⟩) (by show w.heap.size ≤ w.heap.size + 2; omega) _)
          have f0 := HN.out.frozen v
          have f1 := HN.out.lt
          have c1 := hI1.cell (zsI_at hvn)
          have f2 := hI1.frozen v
          have f3 := hI1.lt
          have k1 := one_ HK1.out
          have kl1 := HK1.out.lt
          have d4' : WA.cell? ⟨g, o + i * 6 + 4, none⟩ = some (.slice x.M x.mn x.mc) := by
            obtain ⟨g3, o3, x3, hL3, hg3, hx3, hok3, hc3⟩ := (HFS.out _ HB1.out).at_ hin
            injection hL3 with hL3
            injection hL3 with e1 e2
            subst e1; subst e2
            obtain rfl : x = x3 := by have := HX.out; rw [this] at hx3; injection hx3
            exact hc3.2.2.2.2.1
          have n1' : WA.cell? ⟨gm, om + k * 2 + 1, none⟩ = some (.int .i64 y.node) := by
            obtain ⟨gm', om', y', hM', hgm', hy', n0', n1'⟩ := nm_cells ((HFS.out _ HB1.out).ok x (List.mem_of_getElem? HX.out)).n hkn
            rw [hM] at hM'
            injection hM' with hM'
            injection hM' with e1 e2
            subst e1; subst e2
            obtain rfl : y = y' := by rw [hy] at hy'; injection hy'
            exact n1'
          have i3 := fun W => int_at (w.heap.size + 1) n n v y.node hv hvn W
          have i4 := fun W => int_at (w.heap.size + 2) n n v y.node hv hvn W
          rw [hM] at d4 d4'
          clear hok' hy hM hrf hv hle hcl hq bWA hI1 n0
          go_wp2_with fail
          go_roundw
          case rel => exact ⟨k + 1, by omega, by go_num, HN2, HI2, HB2, HK2⟩
          case measure => simp [intOf]; omega
        · have hlt2 : ¬ (k : Int) < (x.mn : Int) := by omega
          have hpe : prN (nds l) i k = prN (nds l) (i + 1) 0 := by rw [prN_zero]; exact prN_next (by rw [HXR.out]; have := HNL.out; omega)
          rw [hpe] at HN HI
          clear hpe hok'
          go_wp2_with fail
          go_roundw
          case rel => exact ⟨i + 1, by omega, by go_num, HN, HI, HB, HK⟩
          case measure => simp [intOf]; omega
    · have hlt : ¬ (i : Int) < (n : Int) := by omega
      obtain rfl : n = i := by omega
      rw [prN_zero] at HN HI
      go_wp2_with fail
      refine bodyPost_ret (v := .tuple #[.slice (some ⟨w.heap.size + 1, 0, none⟩) n n, .slice (some ⟨w.heap.size + 2, 0, none⟩) n n]) (by simp only [results, Try.results41]; go_simp) rfl ⟨_, _, rfl, HN.out, HI.out, HB.out⟩
end Go.Proofs.Ytnhfpaobocbieaa
