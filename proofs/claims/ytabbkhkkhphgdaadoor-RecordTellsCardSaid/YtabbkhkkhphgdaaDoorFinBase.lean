/- What the rows' lists give, the witness's world, and how slices of bytes and records are opened. -/
import Derived.Test.YtabbkhkkhphgdaaDoorRows
import Derived.Test.YtabbkhkkhphgdaaDoorRecA
import Derived.Test.YtabbkhkkhphgdaaDoorDecP
import Derived.WalkKit
import Derived.ProofKit
import Derived.OpenShut
import Derived.ShutString
import Derived.ChangeOld
import Derived.LaidMore
import Derived.LaidHandle
import Derived.Lib.LaidTab
import Derived.Lib.SmallJoins
import Derived.Stop.LaidErr
import Derived.Stop.Joined
namespace Go.Proofs.YtabbkhkkhphgdaaDoor
open Go.ChangeShapes Go.WideShapes Go.ChangeAt Go.RowKit
open Go.ChangeMaps (open_string shut_string)
set_option linter.unusedVariables false
theorem i64R_of {x : Int} (h : (Lit.int .i64 x).wf = true) : i64R x := by
  have e1 : IntKind.i64.min = -9223372036854775808 := rfl
  have e2 : IntKind.i64.max = 9223372036854775807 := rfl
  simp only [Lit.wf, e1, e2, Bool.and_eq_true, decide_eq_true_eq] at h
  exact h
theorem u64_of {x : Int} (h : (Lit.int .u64 x).wf = true) : ∃ n : Nat, x = n ∧ n < 18446744073709551616 := by
  have e1 : IntKind.u64.min = 0 := rfl
  have e2 : IntKind.u64.max = 18446744073709551615 := rfl
  simp only [Lit.wf, e1, e2, Bool.and_eq_true, decide_eq_true_eq] at h
  exact ⟨x.toNat, by omega, by omega⟩
theorem own : ownKnob Tryd.prog.godebug = none := by kernel_rfl
theorem laidOut : laidOutB Tryd.prog = true := by kernel_rfl
theorem gp : Tryd.prog.globalNamed "internal/strconv.uint64pow10" = some 3 := by kernel_rfl
theorem gpt : (Tryd.prog.globals[3]?).map (·.type) = some 114 := by kernel_rfl
theorem ge : Tryd.prog.globalNamed "errors.errorType" = some 1 := by kernel_rfl
theorem gw : Tryd.prog.globalNamed "turnkey/record.words" = some 0 := by kernel_rfl
theorem gwt : (Tryd.prog.globals[0]?).map (·.type) = some 63 := by kernel_rfl
theorem c22 : Tryd.prog.cellsOf 47 = 1 := by kernel_rfl
theorem c77 : Tryd.prog.cellsOf 114 = 20 := by kernel_rfl
theorem cStr : Tryd.prog.cellsOf 9 = 1 := by kernel_rfl
theorem cArr : Tryd.prog.cellsOf 63 = 15 := by kernel_rfl
theorem rtR : (Tryd.prog.cutTypes.find? (·.1 == "internal/reflectlite.rtype")).map (·.2) = some 91 := by kernel_rfl
theorem oneRow : ((List.range 148).filter fun t => Tryd.prog.rowNamed t [101, 114, 114, 111, 114]) = [44] := by kernel_rfl
theorem tySize : Tryd.prog.types.size = 148 := by kernel_rfl
abbrev laidAll : List (String × DataW Unit) := [("math/bits.deBruijn32tab", Rows.laid_math_bits_deBruijn32tab), ("math/bits.deBruijn64tab", Rows.laid_math_bits_deBruijn64tab), ("internal/strconv.uint64pow10", Rows.laid_internal_strconv_uint64pow10), ("errors.errorType", Rows.laid_errors_errorType), ("turnkey/record.words", Rows.laid_turnkey_record_words)]
theorem pow_data : (Rows.laid_internal_strconv_uint64pow10 : DataW Unit) = Lib.tabData .u64 Lib.pow10Tab := by rfl
def wordsL : List LB := (List.range 15).map wordL
theorem words_data : (Rows.laid_turnkey_record_words : DataW Unit) = .agg (wordsL.map fun z => .lit (.string z)) := by rfl
theorem cells_of_strs {H : Type} {enc : TypeId × Value → H} {P : Program} {w : World} {base : Nat} {sp : Nat → Bool} {held : Bool} {fuel : Nat} {t e : TypeId} {n : Nat} {cs : List Value} {zs : List (List UInt8)} {p : List MemPlace}
    (ht : P.underlying t = some (.array n e)) (he : P.underlying e = some .string) (hce : P.cellsOf e = 1) (hct : P.cellsOf t = n)
    (h : DataW.trod enc P w base sp held fuel t cs = some (.agg (zs.map fun z => .lit (.string z)), p)) : cs = zs.map fun z => Value.string ⟨z.toArray⟩ := by
  cases fuel with
  | zero => simp [DataW.trod] at h
  | succ fuel =>
    simp only [DataW.trod, ht, hce, hct, Nat.mul_one] at h
    split at h
    · rename_i hl
      obtain ⟨xs, hm, hx⟩ := Option.map_eq_some_iff.1 h
      have hxs : xs.map (·.1) = zs.map fun z => (DataW.lit (.string z) : DataW H) := by
        have := congrArg Prod.fst hx
        simpa using this
      have hxl : xs.length = n := by simpa using Lib.mapM_length hm
      have hzl : zs.length = n := by
        have := congrArg List.length hxs
        simp at this
        omega
      apply List.ext_getElem?
      intro i
      by_cases hi : i < n
      · obtain ⟨b, hb, hf⟩ := Lib.mapM_at hm i i (by simp [hi])
        have h2 : (xs.map (·.1))[i]? = some b.1 := by simp [hb]
        rw [hxs] at h2
        simp only [List.getElem?_map, Option.map_eq_some_iff] at h2
        obtain ⟨z, hz, hzb⟩ := h2
        have hzz : zs[i]? = some z := hz
        have h1 : cs[i]? = some (.string ⟨z.toArray⟩) := by
          obtain ⟨z', hc, hb', _⟩ := DataW.trod_string he hf
          rw [hb'] at hzb
          have hzz' : z = z'.data.toList := by simpa using hzb
          have := congrArg (·[0]?) hc
          simp [List.getElem?_drop] at this
          rw [this, hzz']
        simp [h1, hzz]
      · rw [List.getElem?_eq_none (by omega), List.getElem?_eq_none (by simp; omega)]
    · cases h
theorem std_of_laid {W : World} (h : laidMetH Tryd.prog laidAll W) : Std W := by
  have h' : laidMet Tryd.prog [("math/bits.deBruijn32tab", Rows.laid_math_bits_deBruijn32tab), ("math/bits.deBruijn64tab", Rows.laid_math_bits_deBruijn64tab), ("internal/strconv.uint64pow10", Rows.laid_internal_strconv_uint64pow10), ("turnkey/record.words", Rows.laid_turnkey_record_words)] W ∧ handlesMet Tryd.prog [("errors.errorType", Rows.laid_errors_errorType)] W := h
  obtain ⟨hp, hh⟩ := h'
  have h2 := hp.tail.tail
  refine ⟨?_, ?_, ?_⟩
  · exact Lib.tabIs_of_head (n := 20) gp gpt Tryd.underlying114 Tryd.underlying47 c22 c77 (by rw [← pow_data]; exact h2)
  · obtain ⟨name, u, ty, e1, e2, e3, e4, e5⟩ := hh _ (List.mem_singleton.2 rfl)
    have en : name = [101, 114, 114, 111, 114] := (Option.some.inj e1).symm
    subst en
    obtain rfl := Option.some.inj (rtR.symm.trans e2)
    have hm : ty ∈ (List.range 148).filter fun t => Tryd.prog.rowNamed t [101, 114, 114, 111, 114] := List.mem_filter.2 ⟨List.mem_range.2 (by rw [← tySize]; exact e3), e4⟩
    rw [oneRow] at hm
    obtain rfl := List.mem_singleton.1 hm
    have hty : typeHandle Tryd.prog 44 = .pointer (some ⟨6, 44, none⟩) := by kernel_rfl
    rw [hty] at e5
    simpa using World.var?_cell ge e5 0
  · obtain ⟨ps, ⟨g', t', cs, fuel, p, q, hg', ht', hvar, hd, _, _⟩, _⟩ := h2.tail
    obtain rfl := Option.some.inj (gw.symm.trans hg')
    obtain rfl := Option.some.inj (gwt.symm.trans ht')
    rw [words_data] at hd
    have hc := cells_of_strs Tryd.underlying63 Tryd.underlying9 cStr cArr hd
    intro k hk
    have h0 := World.var?_cell gw hvar k
    rw [h0]
    have : cs[k]? = cs.toList[k]? := by simp
    rw [this, hc, List.getElem?_map]
    simp [wordsL, hk]
abbrev doorSteps : Nat := 65
theorem door_met (os : Os) (args : Array Value) : laidMetH Tryd.prog laidAll ((World.doorLaid Tryd.prog doorSteps os).forCall (fun _ _ => 0) ⟨#[], args, []⟩).memory :=
  laidMetH_of_parts3 (fuel := 8) (laidMet_of_run' 8 (by kernel_rfl) (by kernel_rfl)) (by kernel_rfl) (by kernel_rfl)
/-- A slice of bytes that came in. -/
theorem rd_of_ints {W : World} {a : Addr} {len : Nat} {zs : List Int} (hl : len ≤ zs.length) (hc : ∀ i, i < zs.length → W.cell? (a.add i) = some (.int .u8 (zs.getD i 0))) (hw : ∀ n ∈ zs, (Lit.int .u8 n).wf = true) :
    Rd W (some a) len ((zs.take len).map fun z => UInt8.ofNat z.toNat) := by
  refine ⟨by simp [bv]; omega, fun hn => ⟨a, rfl, ?_, ?_⟩⟩
  · have := World.block_lt_of_cell? W _ (hc 0 (by omega))
    rwa [block_of_add] at this
  · intro j u hj
    have hjl : j < len := by
      rcases Nat.lt_or_ge j len with h | h
      · exact h
      · rw [List.getElem?_eq_none (by simp [bv]; omega)] at hj; cases hj
    have hwj := hw (zs.getD j 0) (by rw [List.getD_eq_getElem?_getD, List.getElem?_eq_getElem (by omega)]; exact List.getElem_mem _)
    rw [hc j (by omega), ← hj]
    have hz : 0 ≤ zs.getD j 0 ∧ zs.getD j 0 ≤ 255 := by
      have e1 : IntKind.u8.min = 0 := rfl
      have e2 : IntKind.u8.max = 255 := rfl
      simp only [Lit.wf, e1, e2, Bool.and_eq_true, decide_eq_true_eq] at hwj
      exact hwj
    have hg : zs[j]? = some (zs.getD j 0) := by rw [List.getD_eq_getElem?_getD, List.getElem?_eq_getElem (by omega)]; rfl
    generalize zs.getD j 0 = z at *
    simp only [bv, List.map_map, List.getElem?_map, List.getElem?_take, hjl, if_true, hg, Option.map_some, Function.comp]
    congr 2
    simp
    omega
theorem bytes_of_trod {H : Type} {enc : TypeId × Value → H} {W : World} {base : Nat} {spare : Nat → Bool} {held : Bool} {t e : TypeId} {fuel : Nat} {v : Value} {x : DataW H × List MemPlace}
    (ht : Tryd.prog.underlying t = some (.slice e)) (he : Tryd.prog.underlying e = some (.int .u8)) (hc : Tryd.prog.cellsOf e = 1)
    (hf : DataW.trod enc Tryd.prog W base spare held fuel t [v] = some x) : ∃ A n c bs, v = .slice A n c ∧ Rd W A n bs ∧ n ≤ c ∧ c ≤ maxLen := by
  rcases open_ints ht he hc hf with ⟨hcs, _⟩ | ⟨y, l, cc, zs, hcs, _, hl, hm, hz, _, hcell, hwz⟩
  · injection hcs with hcs
    exact ⟨none, 0, 0, [], hcs, Reads.none_, Nat.le_refl _, Nat.zero_le _⟩
  · injection hcs with hcs
    refine ⟨_, _, _, _, hcs, rd_of_ints (zs := zs) ?_ hcell hwz, hl, hm⟩
    rw [hz]
    split <;> omega
theorem bytes_of {H : Type} {enc : TypeId × Value → H} {W : World} {base : Nat} {spare : Nat → Bool} {held : Bool} {t e : TypeId} {A : Option Addr} {n c : Nat} {d : DataW H} {p : List MemPlace}
    (ht : Tryd.prog.underlying t = some (.slice e)) (he : Tryd.prog.underlying e = some (.int .u8)) (hc : Tryd.prog.cellsOf e = 1)
    (h : DataW.Trod enc Tryd.prog W base spare held t (.slice A n c) d p) : ∃ bs, Rd W A n bs ∧ n ≤ c ∧ c ≤ maxLen := by
  obtain ⟨fuel, hf⟩ := h
  simp only [Value.cells] at hf
  obtain ⟨A', n', c', bs, hv, h1, h2, h3⟩ := bytes_of_trod ht he hc hf
  injection hv with e1 e2 e3
  subst e1; subst e2; subst e3
  exact ⟨bs, h1, h2, h3⟩
set_option maxRecDepth 100000 in
theorem rec_of {H : Type} {enc : TypeId × Value → H} {W : World} {base : Nat} {sp : Nat → Bool} {held : Bool} {v : Value} {d : DataW H} {p : List MemPlace}
    (hval : Value.okWide Tryd.prog W .any base 24 v) (h : DataW.Trod enc Tryd.prog W 0 sp held 24 v d p) :
    ∃ (r : Rec) (A : Option Addr) (n c : Nat), v = Rec.v r A n c ∧ Rd W A n r.dig ∧ n ≤ c ∧ c ≤ maxLen ∧ i64R r.seq ∧ i64R r.op ∧ r.path.length ≤ maxLen ∧ r.path2.length ≤ maxLen := by
  obtain ⟨cells, rfl, hsize⟩ := okWide_struct Tryd.underlying24 hval
  have h5 : cells.size = 6 := hsize.trans (by kernel_rfl)
  obtain ⟨fuel, hf⟩ := h
  obtain ⟨xs, m, _, _, _, hxs, hat⟩ := DataW.trod_struct Tryd.underlying24 hf
  match cells, h5 with
  | ⟨[v0, v1, v2, v3, v4, v5]⟩, _ =>
    match xs, hxs with
    | [y0, y1, y2, y3, y4, y5], _ =>
      have f0 := hat 0 _ rfl
      have f1 := hat 1 _ rfl
      have f2 := hat 2 _ rfl
      have f3 := hat 3 _ rfl
      have f4 := hat 4 _ rfl
      have f5 := hat 5 _ rfl
      have k1 : Tryd.prog.cellsOf 22 = 1 := by kernel_rfl
      have k2 : Tryd.prog.cellsOf 3 = 1 := by kernel_rfl
      have k3 : Tryd.prog.cellsOf 4 = 1 := by kernel_rfl
      simp [Value.cells, k1, k2, k3, cStr] at f0 f1 f2 f3 f4 f5
      obtain ⟨q, e0, _, wq⟩ := DataW.trod_int Tryd.underlying3 f0
      obtain ⟨o, e1, _, wo⟩ := DataW.trod_int Tryd.underlying3 f1
      obtain ⟨s, e2, _, ws⟩ := DataW.trod_string Tryd.underlying9 f2
      obtain ⟨s2, e3, _, ws2⟩ := DataW.trod_string Tryd.underlying9 f3
      obtain ⟨b, e5, _⟩ := DataW.trod_bool Tryd.underlying4 f5
      injection e0 with e0
      injection e1 with e1
      injection e2 with e2
      injection e3 with e3
      injection e5 with e5
      subst e0; subst e1; subst e2; subst e3; subst e5
      obtain ⟨A, n, c, dg, rfl, hr, hl, hm⟩ := bytes_of_trod Tryd.underlying22 Tryd.underlying5 (by kernel_rfl) f4
      refine ⟨⟨q, o, s.data.toList, s2.data.toList, dg, b⟩, A, n, c, ?_, hr, hl, hm, i64R_of wq, i64R_of wo, ?_, ?_⟩
      · rfl
      · simpa using ws
      · simpa using ws2
end Go.Proofs.YtabbkhkkhphgdaaDoor
