/- The contract of record.Decode. -/
import Derived.Test.YtbbobffedgcbhaaGreatDoorRecC
namespace Go.Proofs.YtbbobffedgcbhaaGreatDoor
open Go.RowKit
set_option linter.unusedVariables false
theorem cells_of {w : World} {B size n : Nat} {A : Option Addr} {xs : List Value} (h : Reads w B size A n xs) (h0 : 0 < n) (hx : 0 < xs.length) : ∃ g o, A = some ⟨g, o, none⟩ ∧ g < B ∧ ∀ j u, xs[j]? = some u → w.cell? ⟨g, o + j, none⟩ = some u := by
  obtain ⟨ad, rfl, hb, hc⟩ := h.2 h0
  have h00 := hc 0 xs[0] (List.getElem?_eq_getElem hx)
  rw [add_zero_] at h00
  have hs : ad = ⟨ad.block, ad.off, none⟩ := by
    obtain ⟨b, o, s⟩ := ad
    cases s with
    | none => rfl
    | some x =>
      unfold World.cell? at h00
      split at h00 <;> simp at h00
  refine ⟨ad.block, ad.off, by rw [← hs], hb, fun j u hj => ?_⟩
  have := hc j u hj
  rw [hs, at_add] at this
  exact this

theorem u8_at (g1 o m k q : Nat) (i : Int) (hi : i = (q : Int)) (hq : q < m) (W : World) : (Instr.indexAt 22 (.slice (some ⟨g1, o, none⟩) m k) (.int .i64 i)).run Tryz.prog W = .ok (.pointer (some ⟨g1, o + q, none⟩)) W := by
  subst hi
  have hE : Tryz.prog.elem 22 = 5 := by simp [Program.elem, Tryz.underlying22]
  rw [run_indexAt_slice W 22 ⟨g1, o, none⟩ m k .i64 (q : Int) (slice_ht Tryz.underlying22), if_pos ⟨by omega, by omega⟩]
  rw [hE, run_sizeOf_one _ sizeU8 W]
  simp only [Result.andThen, Int.toNat_natCast, at_add, Nat.mul_one]
set_option maxHeartbeats 2000000 in
theorem lclone_any (A : Option Addr) (n c : Nat) (bs : LB) (w : World) (hr : Rd w A n bs) (hn : n ≤ 1000000) : Calls Tryz.prog 46 #[.slice A n c] w fun e w' => ∃ A' c', e = .returned (.slice A' n c') ∧ OwB w.heap.size w' A' n c' bs ∧ Below w.heap.size w w' := by
  by_cases h0 : n = 0
  · subst h0
    have hl : bs = [] := List.eq_nil_of_length_eq_zero hr.len
    subst hl
    clear hr
    go_enter Tryz.func46, Tryz.ntmps46
    go_wp2
    go_ret
    exact ⟨none, 0, rfl, World.ownsRow_nil _ _ _ _, Below.refl _ _⟩
  · have hz : ((n : Int) == 0) = false := beq_eq_false_iff_ne.2 (by omega)
    obtain ⟨ad, rfl, _, _⟩ := hr.get (k := 0) (by omega)
    have X := hide (sclone_any ad n c bs w hr hn)
    clear hr
    go_enter Tryz.func46, Tryz.ntmps46
    go_wp2_with fail
    refine X.out.mono ?_
    rintro e w1 ⟨v, rfl, hO, hb⟩
    obtain ⟨A', c', rfl⟩ := own_slice hO
    have HO := hide hO
    have HB := hide hb
    clear hO hb
    go_wp2_with fail
    go_ret
    exact ⟨A', c', rfl, HO.out, HB.out⟩
theorem own_six {B b : Nat} {w : World} {A : Option Addr} {n c : Nat} {bs : LB} {cs : Array Value} (h : OwB B w A n c bs) (hb : Blk w b 28 cs) (v0 v1 v2 v3 v4 v5 : Value) :
    OwB B ((((((w.setCell ⟨b, 0, none⟩ v0).setCell ⟨b, 1, none⟩ v1).setCell ⟨b, 2, none⟩ v2).setCell ⟨b, 3, none⟩ v3).setCell ⟨b, 4, none⟩ v4).setCell ⟨b, 5, none⟩ v5) A n c bs := by
  have ne : (5 : TypeId) ≠ 28 := by decide
  exact own_set_blk (own_set_blk (own_set_blk (own_set_blk (own_set_blk (own_set_blk h (p := ⟨b, 0, none⟩) hb ne v0) (p := ⟨b, 1, none⟩) (hb.set_ 0 v0) ne v1) (p := ⟨b, 2, none⟩) ((hb.set_ 0 v0).set_ 1 v1) ne v2) (p := ⟨b, 3, none⟩) (((hb.set_ 0 v0).set_ 1 v1).set_ 2 v2) ne v3) (p := ⟨b, 4, none⟩) ((((hb.set_ 0 v0).set_ 1 v1).set_ 2 v2).set_ 3 v3) ne v4) (p := ⟨b, 5, none⟩) (((((hb.set_ 0 v0).set_ 1 v1).set_ 2 v2).set_ 3 v3).set_ 4 v4) ne v5
def zR : Rec := ⟨0, 0, [], [], [], false⟩
theorem dec_raw {b : LB} (h : rawP b = none) : decP b = none := by unfold decP; rw [h]
theorem raw_short {b : LB} (h : b.length < 6 ∨ 1 < (b.getD 5 0).toNat) : rawP b = none := by unfold rawP; rw [if_pos h]
theorem raw_one {b : LB} (h : takeT (b.drop 6) = none) : rawP b = none := by
  unfold rawP
  split
  · rfl
  · rw [h]
theorem raw_two {b p r : LB} (h1 : takeT (b.drop 6) = some (p, r)) (h : takeT r = none) : rawP b = none := by
  unfold rawP
  split
  · rfl
  · rw [h1]
    dsimp only
    rw [h]
theorem raw_all {b p r p2 d : LB} (h0 : ¬ (b.length < 6 ∨ 1 < (b.getD 5 0).toNat)) (h1 : takeT (b.drop 6) = some (p, r)) (h : takeT r = some (p2, d)) : rawP b = some (recOf b p p2 d) := by
  unfold rawP
  rw [if_neg h0, h1]
  dsimp only
  rw [h]
/-- What Decode hands back. -/
theorem OwB.fresh {B : Nat} {w : World} {A : Option Addr} {n c : Nat} {bs : LB} (h : OwB B w A n c bs) (h0 : 0 < n) : ∃ ad, A = some ad ∧ B ≤ ad.block := by
  rcases h.2 with ⟨hv, h1⟩ | ⟨g, cap, cur, hv, hb, r⟩
  · omega
  · injection hv with e1 e2 e3
    exact ⟨⟨g, 0, none⟩, e1, hb⟩
def DecEnd (D : Option Rec) (n : Nat) (w : World) (e : Ending) (w' : World) : Prop := ∃ A' n' c', e = .returned (.tuple #[Rec.v (D.getD zR) A' n' c', .int .i64 (if D.isSome = true then 0 else 5)]) ∧ Rd w' A' n' (D.getD zR).dig ∧ n' ≤ c' ∧ n' ≤ n ∧ Below w.heap.size w w' ∧ (0 < n' → ∃ ad, A' = some ad ∧ w.heap.size ≤ ad.block)
theorem dec_bad (n : Nat) (w w' : World) (hb : Below w.heap.size w w') : DecEnd none n w (.returned (.tuple #[.agg #[.int .i64 0, .int .i64 0, .string ⟨#[]⟩, .string ⟨#[]⟩, .slice none 0 0, .bool false], .int .i64 5])) w' := ⟨none, 0, 0, rfl, Reads.none_, Nat.le_refl _, Nat.zero_le _, hb, fun h => absurd h (Nat.lt_irrefl _)⟩
set_option maxRecDepth 100000 in
set_option maxHeartbeats 8000000 in
theorem dec_any (A : Option Addr) (n c : Nat) (bs : LB) (w : World) (hR : Rd w A n bs) (hnc : n ≤ c) (hn : n ≤ 1000000) (hS : Std w) :
    Calls Tryz.prog 61 #[.slice A n c] w (DecEnd (decP bs) n w) := by
  have hl := hR.len
  have hb := (Below.refl w.heap.size w).alloc (Nat.le_refl _) (.cells #[.int .i64 0, .int .i64 0, .string ⟨#[]⟩, .string ⟨#[]⟩, .slice none 0 0, .bool false] 28)
  have HB := hide hb
  have HZ := hide (Blk.new w 28 #[.int .i64 0, .int .i64 0, .string ⟨#[]⟩, .string ⟨#[]⟩, .slice none 0 0, .bool false])
  by_cases h6 : n < 6
  · have k6 : (n : Int) < 6 := by omega
    rw [dec_raw (raw_short (.inl (by omega)))]
    clear hR hS hb hl
    go_enter Tryz.func61, Tryz.ntmps61
    go_wp2_with fail
    refine bodyPost_ret (v := .tuple #[.agg #[.int .i64 0, .int .i64 0, .string ⟨#[]⟩, .string ⟨#[]⟩, .slice none 0 0, .bool false], .int .i64 5]) (by simp only [results, Tryz.results61]; go_simp) rfl (dec_bad _ _ _ HB.out)
  have k6 : ¬ (n : Int) < 6 := by omega
  obtain ⟨g, oo, rfl, hg, hcl⟩ := cells_of hR (by omega) (by rw [bv_length]; omega)
  have c4 := hcl 4 _ (bv_get bs 4 (by omega))
  have c5 := hcl 5 _ (bv_get bs 5 (by omega))
  have e4 : bs.getD 4 0 = bs[4] := by simp [List.getD_eq_getElem?_getD, show 4 < bs.length by omega]
  have e5 : bs.getD 5 0 = bs[5] := by simp [List.getD_eq_getElem?_getD, show 5 < bs.length by omega]
  rw [← e4] at c4
  rw [← e5] at c5
  have hx4 := (bs.getD 4 0).toNat_lt
  have hx5 := (bs.getD 5 0).toNat_lt
  have hal : (((bs.getD 5 0).toNat : Int) == 1) = (bs.getD 5 0 == 1) := by
    by_cases h : bs.getD 5 0 = 1
    · rw [h]; rfl
    · have h2 : (bs.getD 5 0).toNat ≠ 1 := fun k => h (UInt8.toNat_inj.1 k)
      rw [beq_eq_false_iff_ne.2 h]
      exact beq_eq_false_iff_ne.2 (by omega)
  have i4 := fun W => u8_at g oo n c 4 4 rfl (by omega) W
  have i5 := fun W => u8_at g oo n c 5 5 rfl (by omega) W
  have d4 := (hb.cell (p := ⟨g, oo + 4, none⟩) hg).trans c4
  have d5 := (hb.cell (p := ⟨g, oo + 5, none⟩) hg).trans c5
  by_cases h1 : 1 < (bs.getD 5 0).toNat
  · have k1 : (1 : Int) < ((bs.getD 5 0).toNat : Int) := by omega
    rw [dec_raw (raw_short (.inr h1))]
    clear hR hS hb hl hcl e4 e5 c4 c5 hal h1
    generalize (bs.getD 5 0).toNat = x5 at *
    generalize (bs.getD 4 0).toNat = x4 at *
    go_enter Tryz.func61, Tryz.ntmps61
    go_wp2_with fail
    refine bodyPost_ret (v := .tuple #[.agg #[.int .i64 0, .int .i64 0, .string ⟨#[]⟩, .string ⟨#[]⟩, .slice none 0 0, .bool false], .int .i64 5]) (by simp only [results, Tryz.results61]; go_simp) rfl (dec_bad _ _ _ HB.out)
  have k1 : ¬ (1 : Int) < ((bs.getD 5 0).toNat : Int) := by omega
  have h0 : ¬ (bs.length < 6 ∨ 1 < (bs.getD 5 0).toNat) := by omega
  have s1 := fun W => sl_to (some ⟨g, oo, none⟩) n c 4 .i64 4 rfl (by omega) W
  have s2 := fun W => sl_from (some ⟨g, oo, none⟩) n c 6 .i64 6 rfl (by omega) W
  have HR1 := hide (rb hR hb)
  have XG := hide (get_yes (some ⟨g, oo, none⟩) 4 c (bs.take 4) _ (by omega) (by omega) (rd_to HR1.out (by omega)))
  have XT := hide (text_any (from_ c 6 (some ⟨g, oo, none⟩)) (n - 6) (c - 6) (bs.drop 6) _ (rd_from HR1.out (by omega) hnc) (by omega) (by omega))
  generalize from_ c 6 (some (⟨g, oo, none⟩ : Addr)) = A6 at *
  obtain ⟨n6, hn6⟩ : ∃ x, n - 6 = x := ⟨_, rfl⟩
  obtain ⟨c6, hc6⟩ : ∃ x, c - 6 = x := ⟨_, rfl⟩
  have hn6n : n6 ≤ n := by omega
  rw [hn6] at s2 XT
  rw [hc6] at s2 XT
  clear hn6 hc6
  have HS := hide (hS.below hb)
  have HS0 := hide hS
  have HT1 := hide (raw_one (b := bs))
  have HT2 := hide (fun p r => raw_two (b := bs) (p := p) (r := r))
  have HT3 := hide (fun p r p2 d => raw_all (b := bs) (p := p) (r := r) (p2 := p2) (d := d) h0)
  have HD0 := hide (dec_raw (b := bs))
  have HD1 : Hid (∀ r, rawP bs = some r → decP bs = if validP r = true then some r else none) := hide (fun r h => by unfold decP; rw [h])
  have hqb : numB (bs.take 4) < 4294967296 := by
    have := numB_lt (bs.take 4)
    rw [List.length_take, show min 4 bs.length = 4 by omega] at this
    exact this
  have HREC : Hid (∀ p p2 d, recOf bs p p2 d = ⟨(numB (bs.take 4) : Int), ((bs.getD 4 0).toNat : Int), p, p2, d, bs.getD 5 0 == 1⟩) := hide (fun p p2 d => rfl)
  have hc4 := c4
  have hc5 := c5
  clear h0 hR hl hcl e4 e5 c4 c5 hb hS h1
  generalize (bs.getD 5 0 == 1) = al at *
  generalize (bs.getD 5 0).toNat = x5 at *
  generalize (bs.getD 4 0).toNat = x4 at *
  generalize numB (bs.take 4) = q at *
  have wq : IntKind.i64.wrap (q : Int) = (q : Int) := by simp [IntKind.wrap, IntKind.bits, IntKind.signed]; omega
  have w4 : IntKind.i64.wrap (x4 : Int) = (x4 : Int) := by simp [IntKind.wrap, IntKind.bits, IntKind.signed]; omega
  have HG := hide hg
  have HC4 := hide hc4
  have HC5 := hide hc5
  generalize decP bs = D at *
  generalize rawP bs = RW at *
  obtain ⟨t6, ht6⟩ : ∃ t, bs.drop 6 = t := ⟨_, rfl⟩
  rw [ht6] at XT HT1 HT2 HT3
  clear ht6
  unfold tP tR tOk at XT
  obtain ⟨T1, hT1⟩ : ∃ t, takeT t6 = t := ⟨_, rfl⟩
  rw [hT1] at XT HT1 HT2 HT3
  clear hT1
  cases T1 with
  | none =>
    obtain rfl : D = none := HD0.out (HT1.out rfl)
    dsimp only [Option.getD, Option.isSome] at XT
    clear HT1 HT2 HT3 HD0 HD1 HREC
    go_enter Tryz.func61, Tryz.ntmps61
    go_wp2_with fail
    with_reducible refine XG.out.mono ?_
    rintro e w1 ⟨rfl, rfl⟩
    go_wp2_with fail
    with_reducible refine XT.out.mono ?_
    rintro e w2 ⟨A7, n7, c7, rfl, hr7, hc7, hl7, hb⟩
    have HB2 := hide (below_more HB.out (Nat.le_refl _) hb)
    have HZ2 := hide (HZ.out.below hb HZ.out.lt)
    have HR7 := hide hr7
    clear hb hr7
    go_wp2_with fail
    refine (text_any A7 n7 c7 [] _ HR7.out hc7 (by omega)).mono ?_
    rintro e w3 ⟨A8, n8, c8, rfl, hr8, hc8, hl8, hb⟩
    have HB3 := hide (below_more HB2.out (Nat.le_refl _) hb)
    have HZ3 := hide (HZ2.out.below hb HZ2.out.lt)
    clear hb hr8
    generalize tOk [] = ok2
    generalize tP [] = pp2
    have z0 := HZ3.out.cell 0
    have z1 := HZ3.out.cell 1
    have z2 := HZ3.out.cell 2
    have z3 := HZ3.out.cell 3
    have z4 := HZ3.out.cell 4
    have z5 := HZ3.out.cell 5
    simp only [List.getElem?_toArray, List.getElem?_cons_succ, List.getElem?_cons_zero] at z0 z1 z2 z3 z4 z5
    have zz0 := HZ3.out.frozen 0
    have zz1 := HZ3.out.frozen 1
    have zz2 := HZ3.out.frozen 2
    have zz3 := HZ3.out.frozen 3
    have zz4 := HZ3.out.frozen 4
    have zz5 := HZ3.out.frozen 5
    have hzl := HZ3.out.lt
    go_wp2_with fail
    refine bodyPost_ret (v := .tuple #[.agg #[.int .i64 0, .int .i64 0, .string ⟨#[]⟩, .string ⟨#[]⟩, .slice none 0 0, .bool false], .int .i64 5]) (by simp only [results, Tryz.results61]; go_simp) rfl (dec_bad _ _ _ ((((((HB3.out.setCell (by exact Nat.le_refl _) _).setCell (by exact Nat.le_refl _) _).setCell (by exact Nat.le_refl _) _).setCell (by exact Nat.le_refl _) _).setCell (by exact Nat.le_refl _) _).setCell (by exact Nat.le_refl _) _))
  | some T =>
    obtain ⟨p, t7⟩ := T
    dsimp only [Option.getD, Option.isSome] at XT
    obtain ⟨T2, hT2⟩ : ∃ t, takeT t7 = t := ⟨_, rfl⟩
    replace hT2 := hide hT2
    cases T2 with
    | none =>
      obtain rfl : D = none := HD0.out (HT2.out p t7 rfl hT2.out)
      clear HT1 HT2 HT3 HD0 HD1 HREC
      go_enter Tryz.func61, Tryz.ntmps61
      go_wp2_with fail
      with_reducible refine XG.out.mono ?_
      rintro e w1 ⟨rfl, rfl⟩
      go_wp2_with fail
      with_reducible refine XT.out.mono ?_
      rintro e w2 ⟨A7, n7, c7, rfl, hr7, hc7, hl7, hb⟩
      have HB2 := hide (below_more HB.out (Nat.le_refl _) hb)
      have HZ2 := hide (HZ.out.below hb HZ.out.lt)
      have HS2 := hide (HS.out.below hb)
      have HR7 := hide hr7
      clear hb hr7
      have XT2 := hide (text_any A7 n7 c7 t7 _ HR7.out hc7 (by omega))
      unfold tP tR tOk at XT2
      rw [hT2.out] at XT2
      dsimp only [Option.getD, Option.isSome] at XT2
      go_wp2_with fail
      with_reducible refine XT2.out.mono ?_
      rintro e w3 ⟨A8, n8, c8, rfl, hr8, hc8, hl8, hb⟩
      have HB3 := hide (below_more HB2.out (Nat.le_refl _) hb)
      have HZ3 := hide (HZ2.out.below hb HZ2.out.lt)
      have HS3 := hide (HS2.out.below hb)
      have HR8 := hide hr8
      have hn8 : n8 ≤ n := by omega
      clear hb hr8 XT2 HR7 HB2 HZ2 HS2
      have z0 := HZ3.out.cell 0
      have z1 := HZ3.out.cell 1
      have z2 := HZ3.out.cell 2
      have z3 := HZ3.out.cell 3
      have z4 := HZ3.out.cell 4
      have z5 := HZ3.out.cell 5
      simp only [List.getElem?_toArray, List.getElem?_cons_succ, List.getElem?_cons_zero] at z0 z1 z2 z3 z4 z5
      have zz0 := HZ3.out.frozen 0
      have zz1 := HZ3.out.frozen 1
      have zz2 := HZ3.out.frozen 2
      have zz3 := HZ3.out.frozen 3
      have zz4 := HZ3.out.frozen 4
      have zz5 := HZ3.out.frozen 5
      have hzl := HZ3.out.lt
      go_wp2_with fail
      refine bodyPost_ret (v := .tuple #[.agg #[.int .i64 0, .int .i64 0, .string ⟨#[]⟩, .string ⟨#[]⟩, .slice none 0 0, .bool false], .int .i64 5]) (by simp only [results, Tryz.results61]; go_simp) rfl (dec_bad _ _ _ ((((((HB3.out.setCell (by exact Nat.le_refl _) _).setCell (by exact Nat.le_refl _) _).setCell (by exact Nat.le_refl _) _).setCell (by exact Nat.le_refl _) _).setCell (by exact Nat.le_refl _) _).setCell (by exact Nat.le_refl _) _))
    | some T2 =>
      obtain ⟨p2, d⟩ := T2
      have HRW := hide (HT3.out p t7 p2 d rfl hT2.out)
      have HDV := hide (HD1.out _ HRW.out)
      rw [HREC.out p p2 d] at HDV
      clear HT1 HT2 HT3 HD0 HD1 HREC HRW
      go_enter Tryz.func61, Tryz.ntmps61
      go_wp2_with fail
      with_reducible refine XG.out.mono ?_
      rintro e w1 ⟨rfl, rfl⟩
      go_wp2_with fail
      with_reducible refine XT.out.mono ?_
      rintro e w2 ⟨A7, n7, c7, rfl, hr7, hc7, hl7, hb⟩
      have HB2 := hide (below_more HB.out (Nat.le_refl _) hb)
      have HZ2 := hide (HZ.out.below hb HZ.out.lt)
      have HS2 := hide (HS.out.below hb)
      have HR7 := hide hr7
      clear hb hr7
      have XT2 := hide (text_any A7 n7 c7 t7 _ HR7.out hc7 (by omega))
      unfold tP tR tOk at XT2
      rw [hT2.out] at XT2
      dsimp only [Option.getD, Option.isSome] at XT2
      go_wp2_with fail
      with_reducible refine XT2.out.mono ?_
      rintro e w3 ⟨A8, n8, c8, rfl, hr8, hc8, hl8, hb⟩
      have HB3 := hide (below_more HB2.out (Nat.le_refl _) hb)
      have HZ3 := hide (HZ2.out.below hb HZ2.out.lt)
      have HS3 := hide (HS2.out.below hb)
      have HR8 := hide hr8
      have hn8 : n8 ≤ n := by omega
      clear hb hr8 XT2 HR7 HB2 HZ2 HS2
      have k4 : w3.cell? ⟨g, oo + 4, none⟩ = some (.int .u8 (x4 : Int)) := (HB3.out.cell (p := ⟨g, oo + 4, none⟩) HG.out).trans HC4.out
      have k5 : w3.cell? ⟨g, oo + 5, none⟩ = some (.int .u8 (x5 : Int)) := (HB3.out.cell (p := ⟨g, oo + 5, none⟩) HG.out).trans HC5.out
      go_upto_region 8 with (fail)
      go_cut [12] (fun u12 wx => ∃ gb, u12 = .pointer (some ⟨gb, 0, none⟩) ∧ w.heap.size < gb ∧ Hid (Blk wx gb 28 #[.int .i64 (q : Int), .int .i64 (x4 : Int), .string ⟨p.toArray⟩, .string ⟨p2.toArray⟩, .slice none 0 0, .bool al]) ∧ Hid (Below w.heap.size w wx) ∧ Hid (Blk wx w.heap.size 28 #[.int .i64 0, .int .i64 0, .string ⟨#[]⟩, .string ⟨#[]⟩, .slice none 0 0, .bool false]) ∧ Hid (Rd wx A8 n8 d) ∧ Hid (Std wx))
      case first =>
        refine wp_region_M (fun V => V.cell? ⟨g, oo + 4, none⟩ = some (.int .u8 (x4 : Int)) ∧ V.cell? ⟨g, oo + 5, none⟩ = some (.int .u8 (x5 : Int))) 14 rfl ⟨k4, k5⟩ (fun hHeld => ?_)
        refine wpAnyM_take (i := 0) (v := ?_) rfl rfl (by kernel_rfl) (fun _ _ _ h => h) (Or.inl ⟨by rfl, ?_⟩) (by assumption) ?_
        rotate_left
        · (intro V hV; (try dsimp only at hV); go_simp; with_reducible rfl)
        try simp only [Act.put, List.setIfInBounds_toArray, List.set_cons_zero, List.set_cons_succ]
        refine wpAnyM_take (i := 1) (v := ?_) rfl rfl (by kernel_rfl) (fun _ _ _ h => h) (Or.inl ⟨by rfl, ?_⟩) (by assumption) ?_
        rotate_left
        · (intro V hV; (try dsimp only at hV); go_simp; with_reducible rfl)
        try simp only [Act.put, List.setIfInBounds_toArray, List.set_cons_zero, List.set_cons_succ]
        refine wpAnyM_take (i := 2) (v := ?_) rfl rfl (by kernel_rfl) (fun _ _ _ h => h) (Or.inl ⟨by rfl, ?_⟩) (by assumption) ?_
        rotate_left
        · (intro V hV; (try dsimp only at hV); go_simp; with_reducible rfl)
        try simp only [Act.put, List.setIfInBounds_toArray, List.set_cons_zero, List.set_cons_succ]
        refine wpAnyM_take (i := 3) (v := ?_) rfl rfl (by kernel_rfl) (fun _ _ _ h => h) (Or.inl ⟨by rfl, ?_⟩) (by assumption) ?_
        rotate_left
        · (intro V hV; (try dsimp only at hV); go_simp; with_reducible rfl)
        try simp only [Act.put, List.setIfInBounds_toArray, List.set_cons_zero, List.set_cons_succ]
        refine wpAnyM_take (i := 4) (v := ?_) rfl rfl (by kernel_rfl) (fun _ _ _ h => h) (Or.inl ⟨by rfl, ?_⟩) (by assumption) ?_
        rotate_left
        · (intro V hV; (try dsimp only at hV); go_simp; with_reducible rfl)
        try simp only [Act.put, List.setIfInBounds_toArray, List.set_cons_zero, List.set_cons_succ]
        refine wpAnyM_take (i := 5) (v := ?_) rfl rfl (by kernel_rfl) (fun _ _ _ h => h) (Or.inl ⟨by rfl, ?_⟩) (by assumption) ?_
        rotate_left
        · (intro V hV; (try dsimp only at hV); go_simp; with_reducible rfl)
        try simp only [Act.put, List.setIfInBounds_toArray, List.set_cons_zero, List.set_cons_succ]
        refine wpAnyM_take (i := 6) (v := ?_) rfl rfl (by kernel_rfl) (fun _ _ _ h => h) (Or.inl ⟨by rfl, ?_⟩) (by assumption) ?_
        rotate_left
        · (intro V hV; (try dsimp only at hV); go_simp; with_reducible rfl)
        try simp only [Act.put, List.setIfInBounds_toArray, List.set_cons_zero, List.set_cons_succ]
        refine wpAnyM_take (i := 7) (v := ?_) rfl rfl (by kernel_rfl) (fun _ _ _ h => h) (Or.inl ⟨by rfl, ?_⟩) (by assumption) ?_
        rotate_left
        · (intro V hV; (try dsimp only at hV); go_simp; with_reducible rfl)
        try simp only [Act.put, List.setIfInBounds_toArray, List.set_cons_zero, List.set_cons_succ]
        refine wpAnyM_take (i := 8) (v := ?_) rfl rfl (by kernel_rfl) (fun _ _ _ h => h) (Or.inl ⟨by rfl, ?_⟩) (by assumption) ?_
        rotate_left
        · (intro V hV; (try dsimp only at hV); go_simp; with_reducible rfl)
        try simp only [Act.put, List.setIfInBounds_toArray, List.set_cons_zero, List.set_cons_succ]
        refine wpAnyM_take (i := 9) (v := ?_) rfl rfl (by kernel_rfl) (fun _ _ _ h => h) (Or.inl ⟨by rfl, ?_⟩) (by assumption) ?_
        rotate_left
        · (intro V hV; (try dsimp only at hV); go_simp; with_reducible rfl)
        try simp only [Act.put, List.setIfInBounds_toArray, List.set_cons_zero, List.set_cons_succ]
        refine wpAnyM_take (i := 10) (v := ?_) rfl rfl (by kernel_rfl) (fun _ _ _ h => h) (Or.inl ⟨by rfl, ?_⟩) (by assumption) ?_
        rotate_left
        · (intro V hV; (try dsimp only at hV); go_simp; with_reducible rfl)
        try simp only [Act.put, List.setIfInBounds_toArray, List.set_cons_zero, List.set_cons_succ]
        refine wpAnyM_take (i := 11) (v := ?_) rfl rfl (by kernel_rfl) (fun _ _ _ h => h) (Or.inl ⟨by rfl, ?_⟩) (by assumption) ?_
        rotate_left
        · (intro V hV; (try dsimp only at hV); go_simp; with_reducible rfl)
        try simp only [Act.put, List.setIfInBounds_toArray, List.set_cons_zero, List.set_cons_succ]
        refine wpAnyM_take (i := 12) (v := ?_) rfl rfl (by kernel_rfl) (fun _ _ _ h => h) (Or.inl ⟨by rfl, ?_⟩) (by assumption) ?_
        rotate_left
        · (intro V hV; (try dsimp only at hV); go_simp; with_reducible rfl)
        try simp only [Act.put, List.setIfInBounds_toArray, List.set_cons_zero, List.set_cons_succ]
        refine wpAnyM_step (i := 13) (by kernel_rfl) rfl rfl (fun K hK => ?_)
        go_simp
        have HBa := hide (HB3.out.drew.alloc HB3.out.size (.cells #[.int .i64 0, .int .i64 0, .string ⟨#[]⟩, .string ⟨#[]⟩, .slice none 0 0, .bool false] 28))
        have j4 := (HBa.out.cell (p := ⟨g, oo + 4, none⟩) HG.out).trans HC4.out
        have j5 := (HBa.out.cell (p := ⟨g, oo + 5, none⟩) HG.out).trans HC5.out
        refine hK.out _ _ (fun _ => ⟨j4, j5⟩) ?_
        clear hK K hHeld
        simp only [List.setIfInBounds_toArray]
        refine wpAnyM_step (i := 14) (by kernel_rfl) rfl rfl (fun K hK => ?_)
        go_simp
        refine hK.out _ _ (fun h => absurd rfl h) ?_
        refine wpAnyM_done (by kernel_rfl) ?_ _
        clear hK K
        go_wp2_with fail
        go_meet
        have bq := (Below.refl w3.heap.size w3).alloc (Nat.le_refl _) (.cells #[.int .i64 (q : Int), .int .i64 (x4 : Int), .string ⟨p.toArray⟩, .string ⟨p2.toArray⟩, .slice none 0 0, .bool al] 28)
        exact ⟨w3.heap.size, rfl, by have := HZ3.out.lt; omega, hide (Blk.drew (Blk.new w3 28 #[.int .i64 (q : Int), .int .i64 (x4 : Int), .string ⟨p.toArray⟩, .string ⟨p2.toArray⟩, .slice none 0 0, .bool al])), hide ((HB3.out.alloc HB3.out.size _).drew), hide ((HZ3.out.alloc _).drew), hide ((rb HR8.out bq).drew), hide (HS3.out.below bq.drew)⟩
      case rest =>
        obtain ⟨gb, rfl, hgb, HC, HB4, HZ4, HR9, HS4⟩ := hcut
        clear HB3 HZ3 HS3 HR8 HB HZ HS HC4 HC5 HG k4 k5 i4 i5 s1 s2 XG XT d4 d5
        go_wp2_with fail
        with_reducible refine (lclone_any A8 n8 c8 d _ HR9.out (by omega)).mono ?_
        rintro e w5 ⟨A10, c10, rfl, hO, hb⟩
        have HO := hide hO
        have HB5 := hide (below_more HB4.out (Nat.le_refl _) hb)
        have HZ5 := hide (HZ4.out.below hb HZ4.out.lt)
        have HK5 := hide (HC.out.below hb HC.out.lt)
        have hsz4 := HB4.out.size
        clear hb HC HZ4 HR9 HS4
        have u0 := HK5.out.cell 0
        have u1 := HK5.out.cell 1
        have u2 := HK5.out.cell 2
        have u3 := HK5.out.cell 3
        have u4 := HK5.out.cell 4
        have u5 := HK5.out.cell 5
        simp only [List.getElem?_toArray, List.getElem?_cons_succ, List.getElem?_cons_zero] at u0 u1 u2 u3 u4 u5
        have uz0 := HK5.out.frozen 0
        have uz1 := HK5.out.frozen 1
        have uz2 := HK5.out.frozen 2
        have uz3 := HK5.out.frozen 3
        have uz4 := HK5.out.frozen 4
        have uz5 := HK5.out.frozen 5
        have hgl := HK5.out.lt
        obtain ⟨W6, hW6⟩ : ∃ W, w5.setCell ⟨gb, 4, none⟩ (.slice A10 n8 c10) = W := ⟨_, rfl⟩
        have HB6 : Hid (Below w.heap.size w W6) := hide (by rw [← hW6]; exact HB5.out.setCell (by show w.heap.size ≤ gb; omega) _)
        have HK6 : Hid (Blk W6 gb 28 #[.int .i64 (q : Int), .int .i64 (x4 : Int), .string ⟨p.toArray⟩, .string ⟨p2.toArray⟩, .slice A10 n8 c10, .bool al]) := hide (by rw [← hW6]; exact HK5.out.set_ 4 _)
        have HZ6 : Hid (Blk W6 w.heap.size 28 #[.int .i64 0, .int .i64 0, .string ⟨#[]⟩, .string ⟨#[]⟩, .slice none 0 0, .bool false]) := hide (by rw [← hW6]; exact HZ5.out.far (by show w.heap.size ≠ gb; omega) _)
        have HO6 : Hid (OwB w.heap.size W6 A10 n8 c10 d) := hide (by
          rw [← hW6]
          exact own_set_blk (own_more HO.out hsz4) HK5.out (by decide) _)
        have HS6 : Hid (Std W6) := hide (HS0.out.below HB6.out)
        have HW6 := hide hW6
        have HDL := hide HO.out.rd.len
        clear hW6 hO HO HB4 hsz4 HZ5 HB5 HK5
        have XCK := hide (check_any (q : Int) (x4 : Int) p p2 d al A10 n8 c10 HDL.out W6 HS6.out)
        unfold Rec.v at XCK
        dsimp only at XCK
        obtain ⟨V, hV⟩ : ∃ V, validP ⟨(q : Int), (x4 : Int), p, p2, d, al⟩ = V := ⟨_, rfl⟩
        rw [hV] at XCK HDV
        clear hV
        go_wp2_with fail
        rw [HW6.out]
        with_reducible refine XCK.out.mono ?_
        rintro e w7 ⟨rfl, hb⟩
        have HB7 := hide (below_more HB6.out (Nat.le_refl _) hb)
        have HK7 := hide (HK6.out.below hb HK6.out.lt)
        have HZ7 := hide (HZ6.out.below hb HZ6.out.lt)
        have HO7 := hide (HO6.out.below hb)
        clear hb HB6 HK6 HZ6 HO6 HS6 HW6 XCK u0 u1 u2 u3 u4 u5 uz0 uz1 uz2 uz3 uz4 uz5 hgl
        have u0 := HK7.out.cell 0
        have u1 := HK7.out.cell 1
        have u2 := HK7.out.cell 2
        have u3 := HK7.out.cell 3
        have u4 := HK7.out.cell 4
        have u5 := HK7.out.cell 5
        simp only [List.getElem?_toArray, List.getElem?_cons_succ, List.getElem?_cons_zero] at u0 u1 u2 u3 u4 u5
        have uz0 := HK7.out.frozen 0
        have uz1 := HK7.out.frozen 1
        have uz2 := HK7.out.frozen 2
        have uz3 := HK7.out.frozen 3
        have uz4 := HK7.out.frozen 4
        have uz5 := HK7.out.frozen 5
        have z0 := HZ7.out.cell 0
        have z1 := HZ7.out.cell 1
        have z2 := HZ7.out.cell 2
        have z3 := HZ7.out.cell 3
        have z4 := HZ7.out.cell 4
        have z5 := HZ7.out.cell 5
        simp only [List.getElem?_toArray, List.getElem?_cons_succ, List.getElem?_cons_zero] at z0 z1 z2 z3 z4 z5
        have zz0 := HZ7.out.frozen 0
        have zz1 := HZ7.out.frozen 1
        have zz2 := HZ7.out.frozen 2
        have zz3 := HZ7.out.frozen 3
        have zz4 := HZ7.out.frozen 4
        have zz5 := HZ7.out.frozen 5
        have hgl := HK7.out.lt
        have hzl := HZ7.out.lt
        cases V with
        | false =>
          obtain rfl : D = none := HDV.out
          clear HO7 HK7 HZ7 HDV HDL
          go_wp2_with fail
          refine bodyPost_ret (v := .tuple #[.agg #[.int .i64 0, .int .i64 0, .string ⟨#[]⟩, .string ⟨#[]⟩, .slice none 0 0, .bool false], .int .i64 5]) (by simp only [results, Tryz.results61]; go_simp) rfl (dec_bad _ _ _ ((((((HB7.out.setCell (by exact Nat.le_refl _) _).setCell (by exact Nat.le_refl _) _).setCell (by exact Nat.le_refl _) _).setCell (by exact Nat.le_refl _) _).setCell (by exact Nat.le_refl _) _).setCell (by exact Nat.le_refl _) _))
        | true =>
          have HDE := hide HDV.out
          rw [if_pos rfl] at HDE
          clear HDV
          obtain ⟨WE, hWE⟩ : ∃ W, ((((((w7.setCell ⟨w.heap.size, 0, none⟩ (.int .i64 (q : Int))).setCell ⟨w.heap.size, 1, none⟩ (.int .i64 (x4 : Int))).setCell ⟨w.heap.size, 2, none⟩ (.string ⟨p.toArray⟩)).setCell ⟨w.heap.size, 3, none⟩ (.string ⟨p2.toArray⟩)).setCell ⟨w.heap.size, 4, none⟩ (.slice A10 n8 c10)).setCell ⟨w.heap.size, 5, none⟩ (.bool al)) = W := ⟨_, rfl⟩
          have HBE : Hid (Below w.heap.size w WE) := hide (by rw [← hWE]; exact ((((((HB7.out.setCell (by exact Nat.le_refl _) _).setCell (by exact Nat.le_refl _) _).setCell (by exact Nat.le_refl _) _).setCell (by exact Nat.le_refl _) _).setCell (by exact Nat.le_refl _) _).setCell (by exact Nat.le_refl _) _))
          have HRE : Hid (OwB w.heap.size WE A10 n8 c10 d) := hide (by
            rw [← hWE]
            exact own_six HO7.out HZ7.out _ _ _ _ _ _)
          have HZE : Hid (Blk WE w.heap.size 28 #[.int .i64 (q : Int), .int .i64 (x4 : Int), .string ⟨p.toArray⟩, .string ⟨p2.toArray⟩, .slice A10 n8 c10, .bool al]) := hide (by
            rw [← hWE]
            exact (((((HZ7.out.set_ 0 _).set_ 1 _).set_ 2 _).set_ 3 _).set_ 4 _).set_ 5 _)
          have hDe : (D.getD zR) = ⟨(q : Int), (x4 : Int), p, p2, d, al⟩ := by rw [HDE.out]; rfl
          have hDs : D.isSome = true := by rw [HDE.out]; rfl
          have HEND : Hid (DecEnd D n w (.returned (.tuple #[.agg #[.int .i64 (q : Int), .int .i64 (x4 : Int), .string ⟨p.toArray⟩, .string ⟨p2.toArray⟩, .slice A10 n8 c10, .bool al], .int .i64 0])) WE) := hide ⟨A10, n8, c10, by rw [hDe, hDs]; rfl, by rw [hDe]; exact HRE.out.rd, HRE.out.le, hn8, HBE.out, HRE.out.fresh⟩
          clear HK7 HZ7 HDL HO7 HDE hDe hDs
          go_wp2_with fail
          clear hWE u0 u1 u2 u3 u4 u5 uz0 uz1 uz2 uz3 uz4 uz5 z0 z1 z2 z3 z4 z5 zz0 zz1 zz2 zz3 zz4 zz5
          have y0 := HZE.out.cell 0
          have y1 := HZE.out.cell 1
          have y2 := HZE.out.cell 2
          have y3 := HZE.out.cell 3
          have y4 := HZE.out.cell 4
          have y5 := HZE.out.cell 5
          simp only [List.getElem?_toArray, List.getElem?_cons_succ, List.getElem?_cons_zero] at y0 y1 y2 y3 y4 y5
          have yz0 := HZE.out.frozen 0
          have yz1 := HZE.out.frozen 1
          have yz2 := HZE.out.frozen 2
          have yz3 := HZE.out.frozen 3
          have yz4 := HZE.out.frozen 4
          have yz5 := HZE.out.frozen 5
          refine bodyPost_ret (v := .tuple #[.agg #[.int .i64 (q : Int), .int .i64 (x4 : Int), .string ⟨p.toArray⟩, .string ⟨p2.toArray⟩, .slice A10 n8 c10, .bool al], .int .i64 0]) (by simp only [results, Tryz.results61]; go_simp) rfl HEND.out
end Go.Proofs.YtbbobffedgcbhaaGreatDoor
