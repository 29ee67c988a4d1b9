/- What the rows' lists give, the witness's world, and how slices of texts are opened. -/
import Derived.Test.YtglgldmofibedaaGreatDoorRows
import Derived.Test.YtglgldmofibedaaGreatDoorArV
import Derived.WalkKit
import Derived.ProofKit
import Derived.OpenShut
import Derived.ShutString
import Derived.ChangeOld
import Derived.LaidMore
import Derived.LaidHandle
import Derived.Lib.LaidTab
import Derived.Lib.SmallJoins
import Derived.Stop.LaidErr
import Derived.Stop.Joined
import Derived.Deep.Strs
import Derived.Lay
namespace Go.Proofs.YtglgldmofibedaaGreatDoor
open Go.ChangeShapes Go.WideShapes Go.ChangeAt Go.RowKit
open Go.ChangeMaps (open_string shut_string)
open Go.Deep (open_strs)
set_option linter.unusedVariables false
theorem i64R_of {x : Int} (h : (Lit.int .i64 x).wf = true) : i64R x := by
  have e1 : IntKind.i64.min = -9223372036854775808 := rfl
  have e2 : IntKind.i64.max = 9223372036854775807 := rfl
  simp only [Lit.wf, e1, e2, Bool.and_eq_true, decide_eq_true_eq] at h
  exact h
theorem own : ownKnob Tryz.prog.godebug = none := by kernel_rfl
theorem laidOut : laidOutB Tryz.prog = true := by kernel_rfl
theorem g0 : Tryz.prog.globalNamed "strconv.ErrSyntax" = some 6 := by kernel_rfl
theorem g1 : Tryz.prog.globalNamed "strconv.ErrRange" = some 7 := by kernel_rfl
theorem g2 : Tryz.prog.globalNamed "internal/strconv.uint64pow10" = some 8 := by kernel_rfl
theorem ge : Tryz.prog.globalNamed "errors.errorType" = some 1 := by kernel_rfl
theorem gl : Tryz.prog.globalNamed "turnkey/arith.levels" = some 2 := by kernel_rfl
theorem go : Tryz.prog.globalNamed "turnkey/arith.operators" = some 0 := by kernel_rfl
theorem gt0 : (Tryz.prog.globals[6]?).map (·.type) = some 49 := by kernel_rfl
theorem gt1 : (Tryz.prog.globals[7]?).map (·.type) = some 49 := by kernel_rfl
theorem gt2 : (Tryz.prog.globals[8]?).map (·.type) = some 144 := by kernel_rfl
theorem gtl : (Tryz.prog.globals[2]?).map (·.type) = some 102 := by kernel_rfl
theorem gto : (Tryz.prog.globals[0]?).map (·.type) = some 67 := by kernel_rfl
theorem c22 : Tryz.prog.cellsOf 112 = 1 := by kernel_rfl
theorem c77 : Tryz.prog.cellsOf 144 = 20 := by kernel_rfl
theorem cStr : Tryz.prog.cellsOf 9 = 1 := by kernel_rfl
theorem cRow : Tryz.prog.cellsOf 31 = 1 := by kernel_rfl
theorem cOps : Tryz.prog.cellsOf 67 = 24 := by kernel_rfl
theorem cLev : Tryz.prog.cellsOf 102 = 10 := by kernel_rfl
theorem cES : Tryz.prog.cellsOf 138 = 1 := by kernel_rfl
theorem rtR : (Tryz.prog.cutTypes.find? (·.1 == "internal/reflectlite.rtype")).map (·.2) = some 88 := by kernel_rfl
theorem oneRow : ((List.range 179).filter fun t => Tryz.prog.rowNamed t [101, 114, 114, 111, 114]) = [49] := by kernel_rfl
theorem tySize : Tryz.prog.types.size = 179 := by kernel_rfl
theorem row72 (u : TypeId) (h : Tryz.prog.typeName? 3 u = some "*errors.errorString") : u = 136 :=
  typeName_ptr_named (nm := "errors.errorString") (by kernel_rfl) (by kernel_rfl) (by decide) u h
abbrev laidAll : List (String × DataW Unit) := [("math/bits.deBruijn32tab", Rows.laid_math_bits_deBruijn32tab), ("math/bits.deBruijn64tab", Rows.laid_math_bits_deBruijn64tab), ("internal/strconv.uint64pow10", Rows.laid_internal_strconv_uint64pow10), ("unicode/utf8.acceptRanges", Rows.laid_unicode_utf8_acceptRanges), ("errors.errorType", Rows.laid_errors_errorType), ("strconv.ErrRange", Rows.laid_strconv_ErrRange), ("strconv.ErrSyntax", Rows.laid_strconv_ErrSyntax), ("turnkey/arith.levels", Rows.laid_turnkey_arith_levels), ("turnkey/arith.operators", Rows.laid_turnkey_arith_operators), ("unicode/utf8.first", Rows.laid_unicode_utf8_first)]
theorem pow_data : (Rows.laid_internal_strconv_uint64pow10 : DataW Unit) = Lib.tabData .u64 Lib.pow10Tab := by rfl
theorem ops_data : (Rows.laid_turnkey_arith_operators : DataW Unit) = .agg (opsP.map fun z => .lit (.string z)) := by rfl
theorem lev_data : (Rows.laid_turnkey_arith_levels : DataW Unit) = .agg (lvls.map fun zs => .slice (zs.map fun z => .lit (.string z)) []) := by rfl
theorem cells_of_strs {H : Type} {enc : TypeId × Value → H} {P : Program} {w : World} {base : Nat} {sp : Nat → Bool} {held : Bool} {fuel : Nat} {t e : TypeId} {n : Nat} {cs : List Value} {zs : List (List UInt8)} {p : List MemPlace}
    (ht : P.underlying t = some (.array n e)) (he : P.underlying e = some .string) (hce : P.cellsOf e = 1) (hct : P.cellsOf t = n)
    (h : DataW.trod enc P w base sp held fuel t cs = some (.agg (zs.map fun z => .lit (.string z)), p)) : cs = zs.map fun z => Value.string ⟨z.toArray⟩ := by
  cases fuel with
  | zero => simp [DataW.trod] at h
  | succ fuel =>
    simp only [DataW.trod, ht, hce, hct, Nat.mul_one] at h
    split at h
    · rename_i hl
      obtain ⟨xs, hm, hx⟩ := Option.map_eq_some_iff.1 h
      have hxs : xs.map (·.1) = zs.map fun z => (DataW.lit (.string z) : DataW H) := by
        have := congrArg Prod.fst hx
        simpa using this
      have hxl : xs.length = n := by simpa using Lib.mapM_length hm
      have hzl : zs.length = n := by
        have := congrArg List.length hxs
        simp at this
        omega
      apply List.ext_getElem?
      intro i
      by_cases hi : i < n
      · obtain ⟨b, hb, hf⟩ := Lib.mapM_at hm i i (by simp [hi])
        have h2 : (xs.map (·.1))[i]? = some b.1 := by simp [hb]
        rw [hxs] at h2
        simp only [List.getElem?_map, Option.map_eq_some_iff] at h2
        obtain ⟨z, hz, hzb⟩ := h2
        have hzz : zs[i]? = some z := hz
        have h1 : cs[i]? = some (.string ⟨z.toArray⟩) := by
          obtain ⟨z', hc, hb', _⟩ := DataW.trod_string he hf
          rw [hb'] at hzb
          have hzz' : z = z'.data.toList := by simpa using hzb
          have := congrArg (·[0]?) hc
          simp [List.getElem?_drop] at this
          rw [this, hzz']
        simp [h1, hzz]
      · rw [List.getElem?_eq_none (by omega), List.getElem?_eq_none (by simp; omega)]
    · cases h
theorem rd_of_strs {W : World} {a : Addr} {len m : Nat} {Sx : Nat → ByteArray} (hl : len ≤ m) (hc : ∀ i, i < m → W.cell? (a.add i) = some (.string (Sx i)) ∧ (Sx i).size ≤ maxLen) :
    Reads W W.heap.size 1 (some a) len (svs ((List.range len).map fun i => (Sx i).data.toList)) ∧ ∀ k ∈ (List.range len).map (fun i => (Sx i).data.toList), k.length ≤ maxLen := by
  refine ⟨⟨by simp [svs], fun hn => ⟨a, rfl, ?_, ?_⟩⟩, ?_⟩
  · have := World.block_lt_of_cell? W _ (hc 0 (by omega)).1
    rwa [block_of_add] at this
  · intro j u hj
    have hjl : j < len := by
      rcases Nat.lt_or_ge j len with h | h
      · exact h
      · rw [List.getElem?_eq_none (by simp [svs]; omega)] at hj; cases hj
    rw [(hc j (by omega)).1, ← hj]
    simp [svs, sv, hjl]
  · intro k hk
    simp only [List.mem_map, List.mem_range] at hk
    obtain ⟨i, hi, rfl⟩ := hk
    have := (hc i (by omega)).2
    rw [Array.length_toList]
    exact this
set_option maxRecDepth 100000 in
theorem strs_of {H : Type} {enc : TypeId × Value → H} {W : World} {base base' : Nat} {spare : Nat → Bool} {held : Bool} {v : Value} {d : DataW H} {p : List MemPlace}
    (hv : Value.okWide Tryz.prog W .any base' 31 v) (h : DataW.Trod enc Tryz.prog W base spare held 31 v d p) :
    ∃ A n c ks, v = .slice A n c ∧ Reads W W.heap.size 1 A n (svs ks) ∧ n ≤ c ∧ c ≤ maxLen ∧ (∀ k ∈ ks, k.length ≤ maxLen) := by
  obtain ⟨A, n, c, rfl⟩ := okWide_slice Tryz.underlying31 hv
  obtain ⟨fuel, hf⟩ := h
  rcases open_strs Tryz.underlying31 Tryz.underlying9 cStr hf with ⟨hcs, _⟩ | ⟨x, l, cc, m, Sx, hcs, _, hl, hm, hmm, hd, hcell⟩
  · simp [Value.cells] at hcs
    obtain ⟨rfl, rfl, rfl⟩ := hcs
    exact ⟨none, 0, 0, [], rfl, Reads.none_, Nat.le_refl _, Nat.zero_le _, (fun x h => by cases h)⟩
  · simp [Value.cells] at hcs
    obtain ⟨rfl, rfl, rfl⟩ := hcs
    have hlm : n ≤ m := by rw [hmm]; split <;> omega
    obtain ⟨h1, h2⟩ := rd_of_strs (W := W) hlm hcell
    exact ⟨some x, n, c, _, rfl, h1, hl, hm, h2⟩
set_option maxRecDepth 100000 in
theorem cells_of_rows {W : World} {base : Nat} {sp : Nat → Bool} {held : Bool} {enc : TypeId × Value → Unit} {fuel n : Nat} {cs : List Value} {zss : List (List (List UInt8))} {t e s : TypeId} {p : List MemPlace}
    (ht : Tryz.prog.underlying t = some (.array n e)) (he : Tryz.prog.underlying e = some (.slice s)) (hs : Tryz.prog.underlying s = some .string) (hce : Tryz.prog.cellsOf e = 1) (hct : Tryz.prog.cellsOf t = n) (hcs : Tryz.prog.cellsOf s = 1)
    (h : DataW.trod enc Tryz.prog W base sp held fuel t cs = some (.agg (zss.map fun zs => .slice (zs.map fun z => .lit (.string z)) []), p)) :
    ∀ j (hj : j < zss.length), ∃ A len cap, cs[j]? = some (.slice A len cap) ∧ Reads W W.heap.size 1 A len (svs (zss[j]'hj)) := by
  cases fuel with
  | zero => simp [DataW.trod] at h
  | succ fuel =>
    simp only [DataW.trod, ht, hce, hct, Nat.mul_one] at h
    split at h
    · rename_i hl
      obtain ⟨xs, hm, hx⟩ := Option.map_eq_some_iff.1 h
      have hxs : xs.map (·.1) = zss.map fun zs => (DataW.slice (zs.map fun z => .lit (.string z)) [] : DataW Unit) := by
        have := congrArg Prod.fst hx
        simpa using this
      have hxl : xs.length = n := by simpa using Lib.mapM_length hm
      have hzl : zss.length = n := by
        have := congrArg List.length hxs
        simp at this
        omega
      intro j hj
      obtain ⟨b, hb, hf⟩ := Lib.mapM_at hm j j (by rw [List.getElem?_range (by omega)])
      have h2 : (xs.map (·.1))[j]? = some b.1 := by simp [hb]
      rw [hxs] at h2
      simp only [List.getElem?_map, Option.map_eq_some_iff] at h2
      obtain ⟨zs, hz, hzb⟩ := h2
      have hzz : zss[j]'hj = zs := by
        have := List.getElem?_eq_getElem hj
        rw [hz] at this
        injection this with this
        exact this.symm
      rcases open_strs he hs hcs hf with ⟨hc, hd⟩ | ⟨x, l, cc, m, Sx, hc, _, hll, hmx, hmm, hd, hcell⟩
      · rw [hd] at hzb; cases hzb
      · have h1 : cs[j]? = some (.slice (some x) l cc) := by
          have := congrArg (·[0]?) hc
          simp [List.getElem?_drop] at this
          exact this
        rw [hd] at hzb
        simp only [DataW.slice.injEq] at hzb
        obtain ⟨hr, _⟩ := rd_of_strs (W := W) (show l ≤ m by rw [hmm]; split <;> omega) hcell
        refine ⟨some x, l, cc, h1, ?_⟩
        have hks : ((List.range l).map fun i => (Sx i).data.toList) = zs := by
          have e := hzb.1
          apply List.ext_getElem?
          intro i
          have ei := congrArg (·[i]?) e
          simp only [List.getElem?_map] at ei ⊢
          cases h1 : zs[i]? with
          | none =>
            rw [h1] at ei
            cases h2 : (List.range l)[i]? with
            | none => rfl
            | some k => rw [h2] at ei; simp at ei
          | some z =>
            rw [h1] at ei
            cases h2 : (List.range l)[i]? with
            | none => rw [h2] at ei; simp at ei
            | some k => rw [h2] at ei; simp at ei; simp [ei]
        rw [hzz, ← hks]
        exact hr
    · cases h
theorem std_of_laid {W : World} (h : laidMetH Tryz.prog laidAll W) : StdA W := by
  have h' : laidMet Tryz.prog [("math/bits.deBruijn32tab", Rows.laid_math_bits_deBruijn32tab), ("math/bits.deBruijn64tab", Rows.laid_math_bits_deBruijn64tab), ("internal/strconv.uint64pow10", Rows.laid_internal_strconv_uint64pow10), ("unicode/utf8.acceptRanges", Rows.laid_unicode_utf8_acceptRanges), ("strconv.ErrRange", Rows.laid_strconv_ErrRange), ("strconv.ErrSyntax", Rows.laid_strconv_ErrSyntax), ("turnkey/arith.levels", Rows.laid_turnkey_arith_levels), ("turnkey/arith.operators", Rows.laid_turnkey_arith_operators), ("unicode/utf8.first", Rows.laid_unicode_utf8_first)] W ∧ handlesMet Tryz.prog [("errors.errorType", Rows.laid_errors_errorType)] W := h
  obtain ⟨hp, hh⟩ := h'
  have h2 := hp.tail.tail
  refine ⟨⟨?_, ?_, ?_⟩, ?_, ?_, ?_⟩
  · exact Lib.tabIs_of_head (n := 20) g2 gt2 Tryz.underlying144 Tryz.underlying112 c22 c77 (by rw [← pow_data]; exact h2)
  · obtain ⟨a0, s0, hv0, -, -, -⟩ := laid_sentinel h2.tail.tail.tail g0 gt0 Tryz.underlying49 row72 Tryz.underlying136 Tryz.underlying138 rfl rfl Tryz.underlying9 cES cStr
    exact ⟨_, _, by have h0 := World.var?_cell g0 hv0 0; simpa using h0⟩
  · obtain ⟨a0, s0, hv0, -, -, -⟩ := laid_sentinel h2.tail.tail g1 gt1 Tryz.underlying49 row72 Tryz.underlying136 Tryz.underlying138 rfl rfl Tryz.underlying9 cES cStr
    exact ⟨_, _, by have h0 := World.var?_cell g1 hv0 0; simpa using h0⟩
  · obtain ⟨ps, ⟨g', t', cs, fuel, p, q, hg', ht', hvar, hd, _, _⟩, _⟩ := h2.tail.tail.tail.tail.tail
    obtain rfl := Option.some.inj (go.symm.trans hg')
    obtain rfl := Option.some.inj (gto.symm.trans ht')
    rw [ops_data] at hd
    have hc := cells_of_strs Tryz.underlying67 Tryz.underlying9 cStr cOps hd
    intro k hk
    have h0 := World.var?_cell go hvar k
    rw [h0]
    have : cs[k]? = cs.toList[k]? := by simp
    rw [this, hc, List.getElem?_map, List.getElem?_eq_getElem (show k < opsP.length from hk)]
    rfl
  · obtain ⟨ps, ⟨g', t', cs, fuel, p, q, hg', ht', hvar, hd, _, _⟩, _⟩ := h2.tail.tail.tail.tail
    obtain rfl := Option.some.inj (gl.symm.trans hg')
    obtain rfl := Option.some.inj (gtl.symm.trans ht')
    rw [lev_data] at hd
    have hc := cells_of_rows Tryz.underlying102 Tryz.underlying31 Tryz.underlying9 cRow cLev cStr hd
    intro k hk
    obtain ⟨A, n, c, h1, h3⟩ := hc k hk
    refine ⟨A, n, c, ?_, h3⟩
    have h0 := World.var?_cell gl hvar k
    rw [h0]
    have : cs[k]? = cs.toList[k]? := by simp
    rw [this, h1]
  · obtain ⟨name, u, ty, e1, e2, e3, e4, e5⟩ := hh _ (List.mem_singleton.2 rfl)
    have en : name = [101, 114, 114, 111, 114] := (Option.some.inj e1).symm
    subst en
    obtain rfl := Option.some.inj (rtR.symm.trans e2)
    have hm : ty ∈ (List.range 179).filter fun t => Tryz.prog.rowNamed t [101, 114, 114, 111, 114] := List.mem_filter.2 ⟨List.mem_range.2 (by rw [← tySize]; exact e3), e4⟩
    rw [oneRow] at hm
    obtain rfl := List.mem_singleton.1 hm
    have hty : typeHandle Tryz.prog 49 = .pointer (some ⟨11, 49, none⟩) := by kernel_rfl
    rw [hty] at e5
    show W.cell? _ = _
    simpa using World.var?_cell ge e5 0
abbrev doorSteps : Nat := 99
theorem laidMet_over {P : Program} {w0 : World} {laid : List (String × DataW Unit)} (args : Array Value) (hf : w0.layFits P laid [] = true) (hi : w0.layIfaces P laid (w0.layVars P laid) = true) :
    laidMet P laid ((w0.layVars P laid).forCall (fun _ _ => 0) ⟨#[], args, []⟩).memory := by
  have e1 : (laid.filter fun x => (laid.map (·.1)).contains x.1) = laid := List.filter_eq_self.2 fun x hx => List.contains_iff_mem.2 (List.mem_map.2 ⟨x, hx, rfl⟩)
  have e2 : (laid.filter fun x => !(laid.map (·.1)).contains x.1) = [] := List.filter_eq_nil_iff.2 fun x hx => by rw [List.contains_iff_mem.2 (List.mem_map.2 ⟨x, hx, rfl⟩)]; simp
  have h : laidMet P laid (w0.layVars P laid) := laidMet_layVars (w0 := w0) (laid.map (·.1)) [] (by rw [e1]) (by rw [e1]; exact hf) (by rw [e1]; exact hi) (by rw [e2]; exact LaidIn.none)
  exact h.of_heap (by simp [World.memory, World.forCall, Input.heap])
/-- The plain data among what is laid. -/
abbrev laidPlain : List (String × DataW Unit) := laidAll.filter fun x => x.2.handleName?.isNone
noncomputable def doorW (os : Os) : World := (World.doorLaid Tryz.prog doorSteps os).layVars Tryz.prog laidPlain
theorem doorW_os (os : Os) : (doorW os).os = os := World.layVars_os _ _ _
theorem door_met (os : Os) (args : Array Value) : laidMetH Tryz.prog laidAll ((doorW os).forCall (fun _ _ => 0) ⟨#[], args, []⟩).memory :=
  laidMetH_of_parts3 (fuel := 8) (laidMet_over _ (by kernel_rfl) (by kernel_rfl)) (by kernel_rfl) (by kernel_rfl)
end Go.Proofs.YtglgldmofibedaaGreatDoor
