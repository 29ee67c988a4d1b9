/- What the rows' lists give, the witness's world, and how slices of bytes and records are opened. -/
import Derived.Test.YtbbobffedgcbhaaGreatDoorRows
import Derived.Test.YtbbobffedgcbhaaGreatDoorRecA
import Derived.Test.YtbbobffedgcbhaaGreatDoorShaC8
import Derived.Test.YtbbobffedgcbhaaGreatDoorAuP
import Derived.WalkKit
import Derived.ProofKit
import Derived.OpenShut
import Derived.ShutString
import Derived.ChangeOld
import Derived.LaidMore
import Derived.LaidHandle
import Derived.Lib.LaidTab
import Derived.Lib.SmallJoins
import Derived.Stop.LaidErr
import Derived.Stop.LaidTwo
import Derived.LaidSub
import Derived.Stop.Joined
namespace Go.Proofs.YtbbobffedgcbhaaGreatDoor
open Go.ChangeShapes Go.WideShapes Go.ChangeAt Go.RowKit
open Go.ChangeMaps (open_string shut_string)
set_option linter.unusedVariables false
def i64R (x : Int) : Prop := -9223372036854775808 ≤ x ∧ x ≤ 9223372036854775807
theorem i64R_of {x : Int} (h : (Lit.int .i64 x).wf = true) : i64R x := by
  have e1 : IntKind.i64.min = -9223372036854775808 := rfl
  have e2 : IntKind.i64.max = 9223372036854775807 := rfl
  simp only [Lit.wf, e1, e2, Bool.and_eq_true, decide_eq_true_eq] at h
  exact h
theorem u64_of {x : Int} (h : (Lit.int .u64 x).wf = true) : ∃ n : Nat, x = n ∧ n < 18446744073709551616 := by
  have e1 : IntKind.u64.min = 0 := rfl
  have e2 : IntKind.u64.max = 18446744073709551615 := rfl
  simp only [Lit.wf, e1, e2, Bool.and_eq_true, decide_eq_true_eq] at h
  exact ⟨x.toNat, by omega, by omega⟩
theorem own : ownKnob Tryz.prog.godebug = none := by kernel_rfl
theorem laidOut : laidOutB Tryz.prog = true := by kernel_rfl
theorem ge : Tryz.prog.globalNamed "errors.errorType" = some 4 := by kernel_rfl
theorem cStr : Tryz.prog.cellsOf 9 = 1 := by kernel_rfl
theorem rtR : (Tryz.prog.cutTypes.find? (·.1 == "internal/reflectlite.rtype")).map (·.2) = some 129 := by kernel_rfl
theorem oneRow : ((List.range 205).filter fun t => Tryz.prog.rowNamed t [101, 114, 114, 111, 114]) = [57] := by kernel_rfl
theorem tySize : Tryz.prog.types.size = 205 := by kernel_rfl
abbrev laidAll : List (String × DataW Unit) := [("errors.errorType", Rows.laid_errors_errorType), ("turnkey/sha.first", Rows.laid_turnkey_sha_first), ("turnkey/sha.constants", Rows.laid_turnkey_sha_constants), ("turnkey/audit.errArgument", Rows.laid_turnkey_audit_errArgument), ("turnkey/audit.errMedium", Rows.laid_turnkey_audit_errMedium), ("turnkey/audit.errStopped", Rows.laid_turnkey_audit_errStopped)]
theorem g0 : Tryz.prog.globalNamed "turnkey/sha.first" = some 3 := by kernel_rfl
theorem g1 : Tryz.prog.globalNamed "turnkey/sha.constants" = some 5 := by kernel_rfl
theorem gt0 : (Tryz.prog.globals[3]?).map (·.type) = some 146 := by kernel_rfl
theorem gt1 : (Tryz.prog.globals[5]?).map (·.type) = some 163 := by kernel_rfl
theorem c39 : Tryz.prog.cellsOf 143 = 1 := by kernel_rfl
theorem c42 : Tryz.prog.cellsOf 146 = 8 := by kernel_rfl
theorem c52 : Tryz.prog.cellsOf 163 = 64 := by kernel_rfl
theorem first_data : (Rows.laid_turnkey_sha_first : DataW Unit) = Lib.tabData .u32 (firstL.map fun (x : Nat) => (x : Int)) := by rfl
theorem keys_data : (Rows.laid_turnkey_sha_constants : DataW Unit) = Lib.tabData .u32 (keysL.map fun (x : Nat) => (x : Int)) := by rfl
theorem getD_cast (l : List Nat) (t : Nat) (h : t < l.length) : (l.map fun (x : Nat) => (x : Int)).getD t 0 = ((l.getD t 0 : Nat) : Int) := by
  rw [List.getD_eq_getElem?_getD, List.getD_eq_getElem?_getD, List.getElem?_map, List.getElem?_eq_getElem h]
  rfl
theorem gA : Tryz.prog.globalNamed "turnkey/audit.errArgument" = some 1 := by kernel_rfl
theorem gM : Tryz.prog.globalNamed "turnkey/audit.errMedium" = some 0 := by kernel_rfl
theorem gS : Tryz.prog.globalNamed "turnkey/audit.errStopped" = some 2 := by kernel_rfl
theorem gAT : (Tryz.prog.globals[1]?).map (·.type) = some 57 := by kernel_rfl
theorem gMT : (Tryz.prog.globals[0]?).map (·.type) = some 57 := by kernel_rfl
theorem gST : (Tryz.prog.globals[2]?).map (·.type) = some 57 := by kernel_rfl
theorem cES : Tryz.prog.cellsOf 193 = 1 := by kernel_rfl
theorem starES : "*" ++ "errors.errorString" = "*errors.errorString" := by decide
theorem rowES (u : TypeId) (h : Tryz.prog.typeName? 3 u = some "*errors.errorString") : u = 172 := typeName_ptr_named (nm := "errors.errorString") (by rw [starES]; kernel_rfl) (by kernel_rfl) (by decide) u (by rw [starES]; exact h)
abbrev StdAll (W : World) : Prop := Std W ∧ Tabs W ∧ ∃ a0 a1 a2, Sent a0 a1 a2 W
theorem sent_of {W : World} (hp : laidMet Tryz.prog [("turnkey/audit.errArgument", Rows.laid_turnkey_audit_errArgument), ("turnkey/audit.errMedium", Rows.laid_turnkey_audit_errMedium), ("turnkey/audit.errStopped", Rows.laid_turnkey_audit_errStopped)] W) : ∃ a0 a1 a2, Sent a0 a1 a2 W := by
  have hf : laidMet Tryz.prog [("turnkey/audit.errArgument", Rows.laid_turnkey_audit_errArgument), ("turnkey/audit.errStopped", Rows.laid_turnkey_audit_errStopped)] W := hp.filter (fun x => x.1 != "turnkey/audit.errMedium")
  obtain ⟨aA, aM, sA, sM, cA, cM, tA, tM, hvA, hvM, _, _, _, _, _, _, hne, hbA, hbM⟩ := laid_sentinels2 hp gA gAT gM gMT Tryz.underlying57 rowES Tryz.underlying172 Tryz.underlying193 rfl rfl Tryz.underlying9 cES cStr
  obtain ⟨aA2, aS, _, sS, _, cS, _, tS, hvA2, hvS, _, _, _, _, _, _, hne2, _, hbS⟩ := laid_sentinels2 hf gA gAT gS gST Tryz.underlying57 rowES Tryz.underlying172 Tryz.underlying193 rfl rfl Tryz.underlying9 cES cStr
  have hAA : aA2 = aA := by
    have h := hvA2.symm.trans hvA
    simpa using h
  subst hAA
  exact ⟨aM, aA2, aS, by simpa using World.var?_cell gM hvM 0, by simpa using World.var?_cell gA hvA 0, by simpa using World.var?_cell gS hvS 0, ⟨cM, tM, hbM⟩, ⟨cA, tA, hbA⟩, ⟨cS, tS, hbS⟩, hne.symm, hne2.symm⟩
theorem std_of_laid {W : World} (h : laidMetH Tryz.prog laidAll W) : StdAll W := by
  have h' : laidMet Tryz.prog [("turnkey/sha.first", Rows.laid_turnkey_sha_first), ("turnkey/sha.constants", Rows.laid_turnkey_sha_constants), ("turnkey/audit.errArgument", Rows.laid_turnkey_audit_errArgument), ("turnkey/audit.errMedium", Rows.laid_turnkey_audit_errMedium), ("turnkey/audit.errStopped", Rows.laid_turnkey_audit_errStopped)] W ∧ handlesMet Tryz.prog [("errors.errorType", Rows.laid_errors_errorType)] W := h
  obtain ⟨hp, hh⟩ := h'
  have t0 : Lib.TabIs Tryz.prog W "turnkey/sha.first" .u32 (firstL.map fun (x : Nat) => (x : Int)) := Lib.tabIs_of_head (n := 8) g0 gt0 Tryz.underlying146 Tryz.underlying143 c39 c42 (by rw [← first_data]; exact hp)
  have t1 : Lib.TabIs Tryz.prog W "turnkey/sha.constants" .u32 (keysL.map fun (x : Nat) => (x : Int)) := Lib.tabIs_of_head (n := 64) g1 gt1 Tryz.underlying163 Tryz.underlying143 c39 c52 (by rw [← keys_data]; exact hp.tail)
  have hk : KeysAt W := fun t ht => by
    have := t1.cell g1 t (by rw [List.length_map, keysL_len]; exact ht)
    rw [getD_cast _ _ (by rw [keysL_len]; exact ht)] at this
    exact this
  refine ⟨⟨?_⟩, ⟨fun t ht => ?_, hk, ?_⟩, sent_of hp.tail.tail⟩
  · obtain ⟨name, u, ty, e1, e2, e3, e4, e5⟩ := hh _ (List.mem_singleton.2 rfl)
    have en : name = [101, 114, 114, 111, 114] := (Option.some.inj e1).symm
    subst en
    obtain rfl := Option.some.inj (rtR.symm.trans e2)
    have hm : ty ∈ (List.range 205).filter fun t => Tryz.prog.rowNamed t [101, 114, 114, 111, 114] := List.mem_filter.2 ⟨List.mem_range.2 (by rw [← tySize]; exact e3), e4⟩
    rw [oneRow] at hm
    obtain rfl := List.mem_singleton.1 hm
    have hty : typeHandle Tryz.prog 57 = .pointer (some ⟨6, 57, none⟩) := by kernel_rfl
    rw [hty] at e5
    simpa using World.var?_cell ge e5 0
  · have := t0.cell g0 t (by rw [List.length_map]; exact ht)
    rw [getD_cast _ _ ht] at this
    exact this
  · exact World.block_lt_of_cell? W ⟨5, 0, none⟩ (hk 0 (by omega))
abbrev doorSteps : Nat := 83
theorem door_met (os : Os) (args : Array Value) : laidMetH Tryz.prog laidAll ((World.doorLaid Tryz.prog doorSteps os).forCall (fun _ _ => 0) ⟨#[], args, []⟩).memory :=
  laidMetH_of_parts3 (fuel := 8) (laidMet_of_run' 8 (by kernel_rfl) (by kernel_rfl)) (by kernel_rfl) (by kernel_rfl)
/-- A slice of bytes that came in. -/
theorem rd_of_ints {W : World} {a : Addr} {len : Nat} {zs : List Int} (hl : len ≤ zs.length) (hc : ∀ i, i < zs.length → W.cell? (a.add i) = some (.int .u8 (zs.getD i 0))) (hw : ∀ n ∈ zs, (Lit.int .u8 n).wf = true) :
    Rd W (some a) len ((zs.take len).map fun z => UInt8.ofNat z.toNat) := by
  refine ⟨by simp [bv]; omega, fun hn => ⟨a, rfl, ?_, ?_⟩⟩
  · have := World.block_lt_of_cell? W _ (hc 0 (by omega))
    rwa [block_of_add] at this
  · intro j u hj
    have hjl : j < len := by
      rcases Nat.lt_or_ge j len with h | h
      · exact h
      · rw [List.getElem?_eq_none (by simp [bv]; omega)] at hj; cases hj
    have hwj := hw (zs.getD j 0) (by rw [List.getD_eq_getElem?_getD, List.getElem?_eq_getElem (by omega)]; exact List.getElem_mem _)
    rw [hc j (by omega), ← hj]
    have hz : 0 ≤ zs.getD j 0 ∧ zs.getD j 0 ≤ 255 := by
      have e1 : IntKind.u8.min = 0 := rfl
      have e2 : IntKind.u8.max = 255 := rfl
      simp only [Lit.wf, e1, e2, Bool.and_eq_true, decide_eq_true_eq] at hwj
      exact hwj
    have hg : zs[j]? = some (zs.getD j 0) := by rw [List.getD_eq_getElem?_getD, List.getElem?_eq_getElem (by omega)]; rfl
    generalize zs.getD j 0 = z at *
    simp only [bv, List.map_map, List.getElem?_map, List.getElem?_take, hjl, if_true, hg, Option.map_some, Function.comp]
    congr 2
    simp
    omega
theorem bytes_of_trod {H : Type} {enc : TypeId × Value → H} {W : World} {base : Nat} {spare : Nat → Bool} {held : Bool} {t e : TypeId} {fuel : Nat} {v : Value} {x : DataW H × List MemPlace}
    (ht : Tryz.prog.underlying t = some (.slice e)) (he : Tryz.prog.underlying e = some (.int .u8)) (hc : Tryz.prog.cellsOf e = 1)
    (hf : DataW.trod enc Tryz.prog W base spare held fuel t [v] = some x) : ∃ A n c bs, v = .slice A n c ∧ Rd W A n bs ∧ n ≤ c ∧ c ≤ maxLen := by
  rcases open_ints ht he hc hf with ⟨hcs, _⟩ | ⟨y, l, cc, zs, hcs, _, hl, hm, hz, _, hcell, hwz⟩
  · injection hcs with hcs
    exact ⟨none, 0, 0, [], hcs, Reads.none_, Nat.le_refl _, Nat.zero_le _⟩
  · injection hcs with hcs
    refine ⟨_, _, _, _, hcs, rd_of_ints (zs := zs) ?_ hcell hwz, hl, hm⟩
    rw [hz]
    split <;> omega
theorem bytes_of {H : Type} {enc : TypeId × Value → H} {W : World} {base : Nat} {spare : Nat → Bool} {held : Bool} {t e : TypeId} {A : Option Addr} {n c : Nat} {d : DataW H} {p : List MemPlace}
    (ht : Tryz.prog.underlying t = some (.slice e)) (he : Tryz.prog.underlying e = some (.int .u8)) (hc : Tryz.prog.cellsOf e = 1)
    (h : DataW.Trod enc Tryz.prog W base spare held t (.slice A n c) d p) : ∃ bs, Rd W A n bs ∧ n ≤ c ∧ c ≤ maxLen := by
  obtain ⟨fuel, hf⟩ := h
  simp only [Value.cells] at hf
  obtain ⟨A', n', c', bs, hv, h1, h2, h3⟩ := bytes_of_trod ht he hc hf
  injection hv with e1 e2 e3
  subst e1; subst e2; subst e3
  exact ⟨bs, h1, h2, h3⟩
set_option maxRecDepth 100000 in
theorem rec_of {H : Type} {enc : TypeId × Value → H} {W : World} {base : Nat} {sp : Nat → Bool} {held : Bool} {v : Value} {d : DataW H} {p : List MemPlace}
    (hval : Value.okWide Tryz.prog W .any base 28 v) (h : DataW.Trod enc Tryz.prog W 0 sp held 28 v d p) :
    ∃ (r : Rec) (A : Option Addr) (n c : Nat), v = Rec.v r A n c ∧ Rd W A n r.dig ∧ n ≤ c ∧ c ≤ maxLen ∧ i64R r.seq ∧ i64R r.op ∧ r.path.length ≤ maxLen ∧ r.path2.length ≤ maxLen := by
  obtain ⟨cells, rfl, hsize⟩ := okWide_struct Tryz.underlying28 hval
  have h5 : cells.size = 6 := hsize.trans (by kernel_rfl)
  obtain ⟨fuel, hf⟩ := h
  obtain ⟨xs, m, _, _, _, hxs, hat⟩ := DataW.trod_struct Tryz.underlying28 hf
  match cells, h5 with
  | ⟨[v0, v1, v2, v3, v4, v5]⟩, _ =>
    match xs, hxs with
    | [y0, y1, y2, y3, y4, y5], _ =>
      have f0 := hat 0 _ rfl
      have f1 := hat 1 _ rfl
      have f2 := hat 2 _ rfl
      have f3 := hat 3 _ rfl
      have f4 := hat 4 _ rfl
      have f5 := hat 5 _ rfl
      have k1 : Tryz.prog.cellsOf 22 = 1 := by kernel_rfl
      have k2 : Tryz.prog.cellsOf 3 = 1 := by kernel_rfl
      have k3 : Tryz.prog.cellsOf 4 = 1 := by kernel_rfl
      simp [Value.cells, k1, k2, k3, cStr] at f0 f1 f2 f3 f4 f5
      obtain ⟨q, e0, _, wq⟩ := DataW.trod_int Tryz.underlying3 f0
      obtain ⟨o, e1, _, wo⟩ := DataW.trod_int Tryz.underlying3 f1
      obtain ⟨s, e2, _, ws⟩ := DataW.trod_string Tryz.underlying9 f2
      obtain ⟨s2, e3, _, ws2⟩ := DataW.trod_string Tryz.underlying9 f3
      obtain ⟨b, e5, _⟩ := DataW.trod_bool Tryz.underlying4 f5
      injection e0 with e0
      injection e1 with e1
      injection e2 with e2
      injection e3 with e3
      injection e5 with e5
      subst e0; subst e1; subst e2; subst e3; subst e5
      obtain ⟨A, n, c, dg, rfl, hr, hl, hm⟩ := bytes_of_trod Tryz.underlying22 Tryz.underlying5 (by kernel_rfl) f4
      refine ⟨⟨q, o, s.data.toList, s2.data.toList, dg, b⟩, A, n, c, ?_, hr, hl, hm, i64R_of wq, i64R_of wo, ?_, ?_⟩
      · rfl
      · simpa using ws
      · simpa using ws2
end Go.Proofs.YtbbobffedgcbhaaGreatDoor
