/- What the rows' lists give, and the witness's world. -/
import Derived.Test.YtlkccboongnneaaGreatDoorRows
import Derived.Test.YtlkccboongnneaaGreatDoorPgAG
import Derived.WalkKit
import Derived.ProofKit
import Derived.OpenShut
import Derived.ShutString
import Derived.ChangeOld
import Derived.LaidMore
import Derived.Lay
import Derived.HandedShaped
import Derived.Shelf.Vars
import Derived.Stop.Joined
import Derived.Stop.LaidErr
import Derived.Deep.Slices
import Derived.SizedLaws
import Derived.Shelf.Bytes.SlIndexWhole
namespace Go.Proofs.YtlkccboongnneaaGreatDoor
open Go.ChangeShapes Go.WideShapes Go.ChangeAt Go.RowKit Go.Joins
open Go.ChangeMaps (open_string shut_string)
set_option linter.unusedVariables false

theorem own : ownKnob Tryz.prog.godebug = none := by kernel_rfl
theorem laidOut : laidOutB Tryz.prog = true := by kernel_rfl
abbrev laidAll : List (String × DataW Unit) := [("math/bits.deBruijn32tab", Rows.laid_math_bits_deBruijn32tab), ("math/bits.deBruijn64tab", Rows.laid_math_bits_deBruijn64tab), ("internal/strconv.uint64pow10", Rows.laid_internal_strconv_uint64pow10), ("unicode/utf8.acceptRanges", Rows.laid_unicode_utf8_acceptRanges), ("strconv.ErrRange", Rows.laid_strconv_ErrRange), ("strconv.ErrSyntax", Rows.laid_strconv_ErrSyntax), ("unicode/utf8.first", Rows.laid_unicode_utf8_first)]
theorem i64R_of {x : Int} (h : (Lit.int .i64 x).wf = true) : i64R x := by
  have e1 : IntKind.i64.min = -9223372036854775808 := rfl
  have e2 : IntKind.i64.max = 9223372036854775807 := rfl
  simp only [Lit.wf, e1, e2, Bool.and_eq_true, decide_eq_true_eq] at h
  exact h
theorem u8_of {x : Int} (h : (Lit.int .u8 x).wf = true) : ∃ b : UInt8, x = (b.toNat : Int) := by
  have e1 : IntKind.u8.min = 0 := rfl
  have e2 : IntKind.u8.max = 255 := rfl
  simp only [Lit.wf, e1, e2, Bool.and_eq_true, decide_eq_true_eq] at h
  exact ⟨UInt8.ofNat x.toNat, by simp; omega⟩
theorem g0 : Tryz.prog.globalNamed "strconv.ErrSyntax" = some 4 := by kernel_rfl
theorem g1 : Tryz.prog.globalNamed "strconv.ErrRange" = some 5 := by kernel_rfl
theorem g2 : Tryz.prog.globalNamed "internal/strconv.uint64pow10" = some 3 := by kernel_rfl
theorem gt0 : (Tryz.prog.globals[4]?).map (·.type) = some 102 := by kernel_rfl
theorem gt1 : (Tryz.prog.globals[5]?).map (·.type) = some 102 := by kernel_rfl
theorem gt2 : (Tryz.prog.globals[3]?).map (·.type) = some 140 := by kernel_rfl
theorem c22 : Tryz.prog.cellsOf 123 = 1 := by kernel_rfl
theorem c77 : Tryz.prog.cellsOf 140 = 20 := by kernel_rfl
theorem pow_data : (Rows.laid_internal_strconv_uint64pow10 : DataW Unit) = Lib.tabData .u64 Lib.pow10Tab := by rfl
theorem row72 (u : TypeId) (h : Tryz.prog.typeName? 3 u = some "*errors.errorString") : u = 152 :=
  typeName_ptr_named (nm := "errors.errorString") (by kernel_rfl) (by kernel_rfl) (by decide) u h
theorem c74 : Tryz.prog.cellsOf 154 = 1 := by kernel_rfl
theorem c9 : Tryz.prog.cellsOf 9 = 1 := by kernel_rfl
theorem std_of_laid {W : World} (h : laidMetH Tryz.prog laidAll W) : Std W := by
  rw [MakeChecks.laidMetH_plain _ _ _ (by kernel_rfl)] at h
  have h2 := h.tail.tail
  refine ⟨?_, ?_, ?_⟩
  · exact Lib.tabIs_of_head (n := 20) g2 gt2 Tryz.underlying140 Tryz.underlying123 c22 c77 (by rw [← pow_data]; exact h2)
  · obtain ⟨a0, s0, hv0, -, -, -⟩ := laid_sentinel h2.tail.tail.tail g0 gt0 Tryz.underlying102 row72 Tryz.underlying152 Tryz.underlying154 rfl rfl Tryz.underlying9 c74 c9
    exact ⟨_, _, by have h0 := World.var?_cell g0 hv0 0; simpa using h0⟩
  · obtain ⟨a0, s0, hv0, -, -, -⟩ := laid_sentinel h2.tail.tail g1 gt1 Tryz.underlying102 row72 Tryz.underlying152 Tryz.underlying154 rfl rfl Tryz.underlying9 c74 c9
    exact ⟨_, _, by have h0 := World.var?_cell g1 hv0 0; simpa using h0⟩
theorem door_met (os : Os) (args : Array Value) : laidMetH Tryz.prog laidAll ((World.laidAll Tryz.prog os laidAll).forCall (fun _ _ => 0) ⟨#[], args, []⟩).memory := by
  rw [MakeChecks.laidMetH_plain _ _ _ (by kernel_rfl)]; exact laidMet_laidAll _ (by kernel_rfl) (by kernel_rfl)

section
variable {H : Type} {enc : TypeId × Value → H}
/-- The contract is handed the world's shape besides, and what the arguments weigh. -/
theorem handed_sized {a : Assume} {C : Checked} {os : Os} {f : FuncId} {fn : Func} {s : ChangeSpec} {apart fresh handsOn again : Bool} {X : World → Array Value → Prop}
    (hX : ∀ (w w' : World) (args : Array Value), w.heap = w'.heap → X w args → X w' args)
    (own : ownKnob C.prog.godebug = none) (started : os.Started) (noInit : C.prog.inits.idxOf? f = none) (hfn : C.prog.funcs[f]? = some fn)
    (witness : ∃ (w : World) (tape : Tape) (i : Input), w.os = os ∧ (w.forCall tape i).Shaped C.prog ∧ i.vars = [] ∧ Input.okWide C.prog (w.forCall tape i) .any w.heap.size f i ∧
      ((s.pre enc C.prog fn [] apart (w.forCall tape i).memory i.args ∧ X (w.forCall tape i).memory i.args) ∧ sizedMet enc C.prog fn (OpenSpec.ofChange s) apart (w.forCall tape i).memory i.args) ∧ a.holds C.prog (lone (Frame.enter C.prog f i.args .normal) [] (w.forCall tape i)))
    (contract : ∀ (W : World) (base : Nat) (args : Array Value) (ds gs : List (DataW H)) (before : List MemPlace),
      (∀ (j : Nat) t v, fn.params[j]? = some t → args[j]? = some v → Value.okWide C.prog W .any base t v) →
      DataW.Whole enc C.prog fn.params.toList s.vars apart W args.toList ds gs before → W.ShapedOpen C.prog → X W args →
      (DataW.weightsEach C.prog (fn.params.toList ++ s.plain.varTypes C.prog) (ds ++ gs)).all (· ≤ reachBytes) = true →
      Calls C.prog f args W fun e W' => ∃ v, e = .returned v ∧ s.post enc C.prog fn apart fresh handsOn again W args v W') :
    ReturnsInHanded a C os f .any (fun w args => (s.pre enc C.prog fn [] apart w args ∧ X w args) ∧ sizedMet enc C.prog fn (OpenSpec.ofChange s) apart w args) (s.post enc C.prog fn apart fresh handsOn again) := by
  refine returnsInHanded_of_calls own started noInit witness ?_
  intro w tape i _ hsh _ hok hpre _
  obtain ⟨_, _, _, fn', hfn', _, _, _, _, hval⟩ := hok
  obtain rfl : fn' = fn := Option.some.inj (hfn'.symm.trans hfn)
  obtain ⟨⟨⟨ds, gs, before, hw, _⟩, hx⟩, hz⟩ := hpre
  refine (contract (w.forCall tape i) w.heap.size i.args ds gs before hval (hw.of_heap (by rfl)) hsh (hX _ _ _ (by rfl) hx) (hz.weights hw)).mono ?_
  rintro e W' ⟨v, rfl, hp⟩
  exact ChangeSpec.post_blind hp
end
/-- A slice of bytes that came in. -/
theorem rd_of_ints {W : World} {a : Addr} {len : Nat} {zs : List Int} (hl : len ≤ zs.length) (hc : ∀ i, i < zs.length → W.cell? (a.add i) = some (.int .u8 (zs.getD i 0))) (hw : ∀ n ∈ zs, (Lit.int .u8 n).wf = true) :
    Rd W (some a) len ((zs.take len).map fun z => UInt8.ofNat z.toNat) := by
  refine ⟨by simp [bv]; omega, fun hn => ⟨a, rfl, ?_, ?_⟩⟩
  · have := World.block_lt_of_cell? W _ (hc 0 (by omega))
    rwa [block_of_add] at this
  · intro j u hj
    have hjl : j < len := by
      rcases Nat.lt_or_ge j len with h | h
      · exact h
      · rw [List.getElem?_eq_none (by simp [bv]; omega)] at hj; cases hj
    have hwj := hw (zs.getD j 0) (by rw [List.getD_eq_getElem?_getD, List.getElem?_eq_getElem (by omega)]; exact List.getElem_mem _)
    rw [hc j (by omega), ← hj]
    have hz : 0 ≤ zs.getD j 0 ∧ zs.getD j 0 ≤ 255 := by
      have e1 : IntKind.u8.min = 0 := rfl
      have e2 : IntKind.u8.max = 255 := rfl
      simp only [Lit.wf, e1, e2, Bool.and_eq_true, decide_eq_true_eq] at hwj
      exact hwj
    have hg : zs[j]? = some (zs.getD j 0) := by rw [List.getD_eq_getElem?_getD, List.getElem?_eq_getElem (by omega)]; rfl
    generalize zs.getD j 0 = z at *
    simp only [bv, List.map_map, List.getElem?_map, List.getElem?_take, hjl, if_true, hg, Option.map_some, Function.comp]
    congr 2
    simp
    omega

theorem bytes_of {H : Type} {enc : TypeId × Value → H} {W : World} {base : Nat} {spare : Nat → Bool} {held : Bool} {t e : TypeId} {A : Option Addr} {n c : Nat} {d : DataW H} {p : List MemPlace}
    (ht : Tryz.prog.underlying t = some (.slice e)) (he : Tryz.prog.underlying e = some (.int .u8)) (hc : Tryz.prog.cellsOf e = 1)
    (h : DataW.Trod enc Tryz.prog W base spare held t (.slice A n c) d p) : ∃ bs, Rd W A n bs ∧ n ≤ c ∧ c ≤ maxLen := by
  obtain ⟨fuel, hf⟩ := h
  rcases open_ints ht he hc hf with ⟨hcs, _⟩ | ⟨x, l, cc, zs, hcs, _, hl, hm, hz, _, hcell, hwz⟩
  · simp [Value.cells] at hcs
    obtain ⟨rfl, rfl, rfl⟩ := hcs
    exact ⟨[], Reads.none_, Nat.le_refl _, Nat.zero_le _⟩
  · simp [Value.cells] at hcs
    obtain ⟨rfl, rfl, rfl⟩ := hcs
    refine ⟨_, rd_of_ints (zs := zs) ?_ hcell hwz, hl, hm⟩
    rw [hz]
    split <;> omega
theorem bytes_of_trod {H : Type} {enc : TypeId × Value → H} {W : World} {base : Nat} {spare : Nat → Bool} {held : Bool} {t e : TypeId} {fuel : Nat} {v : Value} {x : DataW H × List MemPlace}
    (ht : Tryz.prog.underlying t = some (.slice e)) (he : Tryz.prog.underlying e = some (.int .u8)) (hc : Tryz.prog.cellsOf e = 1)
    (hf : DataW.trod enc Tryz.prog W base spare held fuel t [v] = some x) : ∃ A n c bs, v = .slice A n c ∧ Rd W A n bs ∧ n ≤ c ∧ c ≤ maxLen := by
  rcases open_ints ht he hc hf with ⟨hcs, _⟩ | ⟨y, l, cc, zs, hcs, _, hl, hm, hz, _, hcell, hwz⟩
  · injection hcs with hcs
    exact ⟨none, 0, 0, [], hcs, Reads.none_, Nat.le_refl _, Nat.zero_le _⟩
  · injection hcs with hcs
    refine ⟨some y, l, cc, _, hcs, rd_of_ints (zs := zs) ?_ hcell hwz, hl, hm⟩
    rw [hz]
    split <;> omega
theorem b24 : Tryz.prog.bytesOf 24 = 24 := by kernel_rfl
set_option maxRecDepth 100000 in
theorem rws_of {H : Type} {enc : TypeId × Value → H} {W : World} {base : Nat} {sp : Nat → Bool} {held : Bool} {v : Value} {d : DataW H} {p : List MemPlace}
    (hval : Value.okWide Tryz.prog W .any base 36 v) (h : DataW.Trod enc Tryz.prog W 0 sp held 36 v d p)
    (hz : ∀ el spr, d = .slice el spr → (el.length + spr.length) * Tryz.prog.bytesOf 24 ≤ reachBytes) :
    ∃ L n c bs, v = .slice L n c ∧ RowsP W L n bs ∧ n ≤ 5864062014805 := by
  obtain ⟨L, n, c, rfl⟩ := okWide_slice Tryz.underlying36 hval
  obtain ⟨fuel, hf⟩ := h
  simp only [Value.cells] at hf
  rcases Go.Deep.open_slice1 Tryz.underlying36 (by kernel_rfl) hf with ⟨hcs, _⟩ | ⟨a, l, cc, m, k, V, D, Pl, hcs, _, hl, hm, hmm, hx, hat⟩
  · injection hcs with hcs
    injection hcs with e1 e2 e3
    subst e1; subst e2; subst e3
    exact ⟨none, 0, 0, [], rfl, ⟨rfl, fun i b h => by simp at h⟩, by omega⟩
  · injection hcs with hcs
    injection hcs with e1 e2 e3
    subst e1; subst e2; subst e3
    injection hx with hx _
    have hn := hz _ _ hx
    rw [b24] at hn
    simp only [List.length_map, List.length_range] at hn
    have hreach : reachBytes = 140737488351232 := by rfl
    have key : ∀ i, i < n → ∃ A q cq bs, W.cell? (a.add i) = some (.slice A q cq) ∧ q ≤ cq ∧ Rd W A q bs := by
      intro i hi
      obtain ⟨hcell, ht⟩ := hat i (by rw [hmm]; split <;> omega)
      obtain ⟨A, q, cq, bs, hv, hr, h1, h2⟩ := bytes_of_trod Tryz.underlying24 Tryz.underlying5 (by kernel_rfl) ht
      rw [hv] at hcell
      exact ⟨A, q, cq, bs, hcell, h1, hr⟩
    obtain ⟨bs, hbs⟩ : ∃ bs : List Bs, bs.length = n ∧ ∀ i b, bs[i]? = some b → ∃ A q cq, W.cell? (a.add i) = some (.slice A q cq) ∧ q ≤ cq ∧ Rd W A q b := by
      clear hn hx hat hmm hf hval hl
      induction n with
      | zero => exact ⟨[], rfl, fun i b h => by simp at h⟩
      | succ n ih =>
        obtain ⟨bs, h1, h2⟩ := ih (fun i hi => key i (by omega))
        obtain ⟨A, q, cq, b, hc, hq, hr⟩ := key n (by omega)
        refine ⟨bs ++ [b], by simp [h1], fun i x hi => ?_⟩
        rcases Nat.lt_or_ge i bs.length with hl | hl
        · rw [List.getElem?_append_left hl] at hi; exact h2 i x hi
        · rw [List.getElem?_append_right hl] at hi
          rcases Nat.eq_zero_or_pos (i - bs.length) with h0 | h0
          · rw [h0] at hi
            simp at hi
            subst hi
            have : i = n := by omega
            rw [this]; exact ⟨A, q, cq, hc, hq, hr⟩
          · rw [List.getElem?_eq_none (by simp; omega)] at hi; cases hi
    refine ⟨some a, n, c, bs, rfl, ⟨hbs.1, fun i b hb => ?_⟩, by omega⟩
    obtain ⟨A, q, cq, hc, hq, hr⟩ := hbs.2 i b hb
    have hin : i < n := by
      rcases Nat.lt_or_ge i n with h | h
      · exact h
      · rw [List.getElem?_eq_none (by rw [hbs.1]; exact h)] at hb; cases hb
    obtain ⟨A0, q0, cq0, b0, hc0, _, _⟩ := key 0 (by omega)
    have hlt := World.block_lt_of_cell? W _ hc0
    rw [block_of_add] at hlt
    have hpl : a = ⟨a.block, a.off, none⟩ := by
      have := Go.Lib.plain_of_cell hc0
      unfold Addr.add at this
      revert this
      obtain ⟨ab, ao, asp⟩ := a
      cases asp with
      | none => intro _; rfl
      | some sp => simp
    exact ⟨a.block, a.off, A, q, cq, by rw [← hpl], hlt, by rw [← add_plain_, ← hpl]; exact hc, hq, hr⟩
end Go.Proofs.YtlkccboongnneaaGreatDoor
