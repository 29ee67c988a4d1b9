/- PipeOrder's walk. -/
import Derived.Test.YtpbhkceinnganaaPipeW
import Derived.Test.YtpbhkceinnganaaPipeO
import Derived.Test.YtpbhkceinnganaaPipeD
import Derived.Test.YtpbhkceinnganaaLawR
import Derived.Deep.DeepCutAuto
namespace Go.Proofs.Ytpbhkceinnganaa
open Go.RowKit
set_option linter.unusedVariables false

/-- A slice of slices of bytes that came in. -/
def Rws (W : World) (L : Option Addr) (n : Nat) : Prop := ∀ i, i < n → ∃ ad A k c bs, L = some ad ∧ ad.block < W.heap.size ∧ W.cell? (ad.add i) = some (.slice A k c) ∧ Rd W A k bs ∧ k ≤ c ∧ c ≤ maxLen
/-- A slice of ints that came in. -/
def Ins (W : World) (L : Option Addr) (n : Nat) : Prop := ∀ i, i < n → ∃ (ad : Addr) (z : Int), L = some ad ∧ ad.block < W.heap.size ∧ W.cell? (ad.add i) = some (.int .i64 z) ∧ -9223372036854775808 ≤ z ∧ z ≤ 9223372036854775807

theorem okP11 {n : Nat} (h : n ≤ 64) : okP n 1 1 = true := okP_yes h (by omega) (by omega) (by omega) (by omega)
theorem wr11 {n m : Nat} (h : n ≤ 64) (hm : m ≠ 0) : wrN n 1 1 m = min m (64 - n) ∧ wrE n 1 1 m = if n = 64 then 29 else 0 := by
  unfold wrN wrE
  rw [okP11 h]
  by_cases h64 : n = 64
  · simp [h64, hm]
  · simp [h64, hm]
theorem rd11 {n : Nat} {k : Int} (h : n ≤ 64) (hk : 0 ≤ k) : rdQ n 1 1 k = min k.toNat n ∧ rdE n 1 1 k = if n = 0 ∧ 0 < k then 29 else 0 := by
  unfold rdQ rdE
  rw [okP11 h]
  by_cases h0 : n = 0
  · by_cases hk0 : k = 0
    · simp [h0, hk0]
    · have : 0 < k := by omega
      simp [h0, hk0, this]; omega
  · by_cases hk0 : k = 0
    · simp [h0, hk0]
    · have : 0 < k := by omega
      simp [h0, hk0, this]; omega

theorem write_l (A : Option Addr) (k cA : Nat) (d : List UInt8) (B : Option Addr) (q cB : Nat) (x : List UInt8) (V : World) (hr : Rd V A k d) (hk : k ≤ 64) (hb : Rd V B q x) (hq : q ≤ 100) (hqc : q ≤ cB) (hq0 : 0 < q) (N : Nat) (E : Int) (hN : min q (64 - k) = N) (hE : (if k = 64 then (29 : Int) else 0) = E) :
    Calls Try.prog 7 #[pv A k cA 1 1, .slice B q cB] V fun e w' => ∃ A' c', e = .returned (.tuple #[pv A' (k + N) c' 1 1, .int .i64 N, .int .i64 E]) ∧ Rc V.heap.size w' A' (k + N) c' (d ++ x.take N) ∧ Below V.heap.size V w' := by
  have hl := hr.len
  have hl2 := hb.len
  obtain ⟨e1, e2⟩ := wr11 (n := k) (m := q) hk (by omega)
  refine (write_any A k cA 1 1 d B q cB x V hr (by omega) hb (by omega) hqc).mono ?_
  rintro e w' ⟨A', n', c', rfl, h, hb'⟩
  rw [hl, hl2, e1, hN] at h
  have h3 := h.rd.len
  obtain rfl : n' = k + N := by rw [List.length_append, List.length_take, hl, hl2] at h3; omega
  exact ⟨A', c', by rw [hl, hl2, e1, e2, hN, hE], h, hb'⟩
theorem read_l (A : Option Addr) (k cA : Nat) (d : List UInt8) (z : Int) (V : World) (hr : Rd V A k d) (hk : k ≤ 64) (hc : k ≤ cA) (hcc : cA ≤ maxLen) (hz : 0 ≤ z) (hz1 : z ≤ 9223372036854775807) (N M : Nat) (E : Int) (hN : min z.toNat k = N) (hM : k - N = M) (hE : (if k = 0 ∧ 0 < z then (29 : Int) else 0) = E) :
    Calls Try.prog 9 #[pv A k cA 1 1, .int .i64 z] V fun e w' => ∃ A' c' B' c2, e = .returned (.tuple #[pv A' M c' 1 1, .slice B' N c2, .int .i64 E]) ∧ Rc V.heap.size w' A' M c' (d.drop N) ∧ Rd w' B' N (d.take N) ∧ Below V.heap.size V w' := by
  have hl := hr.len
  obtain ⟨e1, e2⟩ := rd11 (n := k) (k := z) hk hz
  subst hl
  refine (read_any A cA 1 1 d z V hr (by omega) hc hcc (by omega) hz1).mono ?_
  rintro e w' ⟨A', n', c', B', m', c2, rfl, h, h2, hb'⟩
  rw [e1, hN] at h h2
  have h3 := h.rd.len
  have h4 := h2.len
  obtain rfl : n' = M := by rw [List.length_drop] at h3; omega
  obtain rfl : m' = N := by rw [List.length_take] at h4; omega
  exact ⟨A', c', B', c2, by rw [e2, hE], h, h2, hb'⟩
theorem write_at {w wr V : World} {g : Nat} {p : Addr} {u : Value} {cs : Array Value} (A : Option Addr) (k cA : Nat) (d : List UInt8) (B : Option Addr) (q cB : Nat) (x : List UInt8) (bD : Blk V g 24 cs) (hc : V.cell? p = some u) (hp : p.block < V.heap.size) (KV : Below w.heap.size w V) (LV : Below wr.heap.size wr V)
    (hr : Rd V A k d) (hk : k ≤ 64) (hb : Rd V B q x) (hq : q ≤ 100) (hqc : q ≤ cB) (hq0 : 0 < q) (N : Nat) (E : Int) (hN : min q (64 - k) = N) (hE : (if k = 64 then (29 : Int) else 0) = E) :
    Calls Try.prog 7 #[pv A k cA 1 1, .slice B q cB] V fun e w' => ∃ A' c', e = .returned (.tuple #[pv A' (k + N) c' 1 1, .int .i64 N, .int .i64 E]) ∧ Hid (Rc w.heap.size w' A' (k + N) c' (d ++ x.take N)) ∧ Hid (Blk w' g 24 cs) ∧ Hid (w'.cell? p = some u) ∧ Hid (Below w.heap.size w w') ∧ Hid (Below wr.heap.size wr w') ∧ Hid (Below V.heap.size V w') := by
  refine (write_l A k cA d B q cB x V hr hk hb hq hqc hq0 N E hN hE).mono ?_
  rintro e w' ⟨A', c', rfl, h, h2⟩
  exact ⟨A', c', rfl, hide (own_more h KV.size), hide (bD.below h2 bD.lt), hide ((h2.cell hp).trans hc), hide (below_more KV (Nat.le_refl _) h2), hide (below_more LV (Nat.le_refl _) h2), hide h2⟩
theorem read_at {w wr V : World} {g : Nat} {p : Addr} {u : Value} {cs : Array Value} (A : Option Addr) (k cA : Nat) (d : List UInt8) (z : Int) (bD : Blk V g 24 cs) (hc : V.cell? p = some u) (hp : p.block < V.heap.size) (KV : Below w.heap.size w V) (LV : Below wr.heap.size wr V)
    (hr : Rd V A k d) (hk : k ≤ 64) (hcA : k ≤ cA) (hcc : cA ≤ maxLen) (hz : 0 ≤ z) (hz1 : z ≤ 9223372036854775807) (N M : Nat) (E : Int) (hN : min z.toNat k = N) (hM : k - N = M) (hE : (if k = 0 ∧ 0 < z then (29 : Int) else 0) = E) :
    Calls Try.prog 9 #[pv A k cA 1 1, .int .i64 z] V fun e w' => ∃ A' c' B' c2, e = .returned (.tuple #[pv A' M c' 1 1, .slice B' N c2, .int .i64 E]) ∧ Hid (Rc w.heap.size w' A' M c' (d.drop N)) ∧ Hid (Rd w' B' N (d.take N)) ∧ Hid (Blk w' g 24 cs) ∧ Hid (w'.cell? p = some u) ∧ Hid (Below w.heap.size w w') ∧ Hid (Below wr.heap.size wr w') ∧ Hid (Below V.heap.size V w') := by
  refine (read_l A k cA d z V hr hk hcA hcc hz hz1 N M E hN hM hE).mono ?_
  rintro e w' ⟨A', c', B', c2, rfl, h, h1, h2⟩
  exact ⟨A', c', B', c2, rfl, hide (own_more h KV.size), hide h1, hide (bD.below h2 bD.lt), hide ((h2.cell hp).trans hc), hide (below_more KV (Nat.le_refl _) h2), hide (below_more LV (Nat.le_refl _) h2), hide h2⟩
/-- What is told of the strings at a round's end. -/
theorem str_facts {T U : ByteArray} {I O d : List UInt8} (hT : T.data = I.toArray) (hU : U.data = O.toArray) (hI : I = O ++ d) :
    U.size + d.length = T.size ∧ T.extract 0 U.size = U ∧ T.extract U.size T.size = ⟨d.toArray⟩ := by
  have sT : T.size = I.length := by show T.data.size = _; rw [hT]; simp
  have sU : U.size = O.length := by show U.data.size = _; rw [hU]; simp
  subst hI
  refine ⟨by rw [sT, sU]; simp, ?_, ?_⟩
  · apply ByteArray.ext
    rw [ByteArray.data_extract, hT, hU, sU]
    simp
  · apply ByteArray.ext
    rw [ByteArray.data_extract, hT, sU, sT]
    simp
theorem str_more {T : ByteArray} {I y : List UInt8} (hT : T.data = I.toArray) : (T ++ (⟨y.toArray⟩ : ByteArray)).data = (I ++ y).toArray := by
  rw [ByteArray.data_append, hT]; simp

theorem drewRc {B : Nat} {w : World} {A : Option Addr} {n c : Nat} {bs : List UInt8} (h : Rc B w A n c bs) : Rc B w.drew A n c bs := World.ownsRow.drew h
theorem Reads.set1 {w : World} {B : Nat} {A : Option Addr} {n : Nat} {xs : List UInt8} (h : Reads w B 1 A n (bv xs)) {p : Addr} {v0 : Value} (hp : w.cell? p = some v0) (hv : ∀ z, v0 ≠ .int .u8 z) (u : Value) : Reads (w.setCell p u) B 1 A n (bv xs) := by
  refine ⟨h.1, fun h0 => ?_⟩
  obtain ⟨ad, e, hb, hc⟩ := h.2 h0
  refine ⟨ad, e, hb, fun j y hj => ?_⟩
  rw [World.cell?_setCell_other w p (ad.add j) u ?_]
  · exact hc j y hj
  · intro e2
    have h1 := hc j y hj
    rw [← e2, hp] at h1
    have hm := List.mem_of_getElem? hj
    simp only [bv, List.mem_map] at hm
    obtain ⟨b, _, rfl⟩ := hm
    injection h1 with h1
    exact hv _ h1
theorem keep4 {w : World} {g : Nat} {t : TypeId} {x y z u : Value} {p : Addr} (h : Blk w g t #[x, y, z]) (hc : w.cell? p = some u) : w.cell? ⟨g, 0, none⟩ = some x ∧ w.cell? ⟨g, 1, none⟩ = some y ∧ w.cell? ⟨g, 2, none⟩ = some z ∧ w.cell? p = some u := ⟨h.three.1, h.three.2.1, h.three.2.2.1, hc⟩
theorem cell3 {w : World} {p : Addr} {u : Value} (h : w.cell? p = some u) {g : Nat} (hne : p.block ≠ g) (a b c : Value) : (((w.setCell ⟨g, 0, none⟩ a).setCell ⟨g, 1, none⟩ b).setCell ⟨g, 2, none⟩ c).cell? p = some u := by
  have f : ∀ (v : World) (i : Nat) (y : Value), (v.setCell ⟨g, i, none⟩ y).cell? p = v.cell? p := fun v i y => World.cell?_of_block (w := v) (Below.heap_setCell v ⟨g, i, none⟩ y p.block hne)
  rw [f, f, f, h]

set_option maxRecDepth 10000 in
set_option maxHeartbeats 8000000 in
theorem order_law (hh : HeadsOk) (L : Option Addr) (n c : Nat) (M : Option Addr) (m c2 : Nat) (w : World) (hL : Rws w L n) (hM : Ins w M m) (hn : n ≤ maxLen) (hm : m ≤ maxLen) :
    Calls Try.prog 4 #[.slice L n c, .slice M m c2] w fun e w' => e = .returned (.bool true) ∧ Below w.heap.size w w' := by
  unfold maxLen at hn hm
  by_cases c1 : 60 < n
  · go_enter Try.func4, Try.ntmps4
    go_wp2_with fail
    refine (hh _).mono ?_
    rintro e w2 ⟨rfl, k2⟩
    go_wp2
    go_ret
    exact ⟨rfl, k2⟩
  by_cases c2 : m < n
  · go_enter Try.func4, Try.ntmps4
    go_wp2_with fail
    refine (hh _).mono ?_
    rintro e w2 ⟨rfl, k2⟩
    go_wp2
    go_ret
    exact ⟨rfl, k2⟩
  obtain ⟨i0, hi, hz0', hz1', hz2'⟩ := info_parts infoU8
  go_enter Try.func4, Try.ntmps4
  go_wp2_with fail
  refine (open_any none 0 0 1 [] false 1 _ Reads.none_ (by simp)).mono ?_
  rintro e w1 ⟨A1, c1', rfl, h1, k1⟩
  rw [show opR ([] : List UInt8).length 0 1 false 1 = 1 by decide, show opU ([] : List UInt8).length 0 1 false 1 = 1 by decide, show opE ([] : List UInt8).length 0 1 false 1 = 0 by decide]
  have K1 := hide k1
  have R1 := hide h1
  have zz := k1.size
  clear k1 h1
  go_wp2
  generalize hg5 : w1.heap.size = g5
  go_loopw [7, 8, 9] (fun vin vout vi wr => ∃ j : Nat, j ≤ n ∧ vi = .int .i64 j ∧ ∃ (T U : ByteArray) (I O : List UInt8) (A : Option Addr) (k c : Nat) (d : List UInt8), vin = .string T ∧ vout = .string U ∧ T.data = I.toArray ∧ U.data = O.toArray ∧ I = O ++ d ∧ d.length = k ∧ k ≤ 64 ∧ I.length ≤ 100 * j ∧ Blk wr g5 24 #[.slice A k c, .int .i64 1, .int .i64 1] ∧ Rc w.heap.size wr A k c d ∧ Below w.heap.size w wr) (fun _ _ i _ => n - (intOf i).toNat)
  case atStart =>
    subst hg5
    refine ⟨0, by omega, rfl, _, _, [], [], A1, 0, c1', [], rfl, rfl, rfl, rfl, rfl, rfl, by omega, by simp, Blk.new w1 24 _, R1.out.alloc _, K1.out.alloc K1.out.size _⟩
  case round =>
    obtain ⟨j, hj, rfl, T, U, I, O, A, k, cA, d, rfl, rfl, hT', hU', hI', hd', hk, hIl', bD', RA', KR'⟩ := hrel
    have hT := hide hT'
    have hU := hide hU'
    have hI := hide hI'
    have hd := hide hd'
    have hIl := hide hIl'
    have bD := hide bD'
    have RA := hide RA'
    have KR := hide KR'
    have zl := bD.out.lt
    have zw := KR.out.size
    have hgw : Hid (w.heap.size ≤ g5) := hide (by omega)
    clear bD' RA' KR' hT' hU' hI' hd' hIl' hg5 R1
    obtain ⟨x0, x1, x2, y0, y1, y2⟩ := bD.out.three
    by_cases hlt : j < n
    · obtain ⟨ad, B, q, cB, x, rfl, hadb, hcell', hx', hqc, hcm⟩ := hL j hlt
      have hcell : wr.cell? (ad.add j) = some (.slice B q cB) := by rw [KR.out.cell (by rw [block_of_add]; exact hadb)]; exact hcell'
      have HX := hide ((Reads.below hx' KR.out).more KR.out.size)
      have hxl := hide hx'.len
      clear hcell' hx'
      unfold maxLen at hcm
      by_cases hq1 : 100 < q
      · go_wp2_with fail
        refine (hh _).mono ?_
        rintro e w2 ⟨rfl, k2⟩
        have K2 := hide (below_more KR.out (Nat.le_refl _) k2)
        clear k2
        go_wp2
        go_ret
        exact ⟨rfl, K2.out⟩
      · have HU := hide (str_facts hT.out hU.out hI.out)
        have hIl2 : I.length ≤ 6000 := by have := hIl.out; omega
        have hsz := HU.out.1
        have sT : T.size = I.length := by show T.data.size = _; rw [hT.out]; simp
        rw [hd.out] at hsz
        have HSZ := hide hsz
        have HST := hide sT
        clear hsz sT
        by_cases hq0 : 0 < q
        · obtain ⟨N, hN⟩ : ∃ N, min q (64 - k) = N := ⟨_, rfl⟩
          obtain ⟨E, hE⟩ : ∃ E, (if k = 64 then (29 : Int) else 0) = E := ⟨_, rfl⟩
          have HN := hide hN
          have HE := hide hE
          clear hN hE hIl2
          go_upto_region 13 with (fail)
          go_cut [10, 11, 12] (fun s10 s11 s12 wx => s11 = .int .i64 N ∧ s12 = .int .i64 E ∧ ∃ (gq : Nat) (A' : Option Addr) (c' : Nat), s10 = .pointer (some ⟨gq, 0, none⟩) ∧ Blk wx g5 24 #[.slice A k cA, .int .i64 1, .int .i64 1] ∧ Blk wx gq 24 #[.slice A' (k + N) c', .int .i64 1, .int .i64 1] ∧ Rc w.heap.size wx A' (k + N) c' (d ++ x.take N) ∧ g5 ≠ gq ∧ w.heap.size ≤ gq ∧ Below w.heap.size w wx ∧ Below wr.heap.size wr wx)
          case first =>
            have HC0 : Hid (wr.drew.cell? (ad.add j) = some (.slice B q cB)) := hide hcell
            have HC1 : Hid ((wr.alloc (.cells #[Value.slice none 0 0, .int .i64 0, .int .i64 0] 24)).drew.cell? (ad.add j) = some (.slice B q cB)) := hide ((World.cell?_alloc_lt wr (.cells #[Value.slice none 0 0, .int .i64 0, .int .i64 0] 24) (ad.add j) (by rw [block_of_add]; omega)).trans hcell)
            have hpb : (ad.add j).block < wr.heap.size := by rw [block_of_add]; omega
            have X1 := hide (write_at (w := w) (wr := wr) (V := wr.drew) A k cA d B q cB x bD.out.drew HC0.out hpb KR.out.drew (Below.refl wr.heap.size wr).drew RA.out.rd.drew hk HX.out.drew (by omega) hqc hq0 N E HN.out HE.out)
            have X2 := hide (write_at (w := w) (wr := wr) (V := (wr.alloc (.cells #[Value.slice none 0 0, .int .i64 0, .int .i64 0] 24)).drew) A k cA d B q cB x (bD.out.alloc (.cells #[Value.slice none 0 0, .int .i64 0, .int .i64 0] 24)).drew HC1.out (Nat.lt_of_lt_of_le hpb (by simp)) (KR.out.alloc KR.out.size (.cells #[Value.slice none 0 0, .int .i64 0, .int .i64 0] 24)).drew ((Below.refl wr.heap.size wr).alloc (Nat.le_refl _) (.cells #[Value.slice none 0 0, .int .i64 0, .int .i64 0] 24)).drew (RA.out.alloc (.cells #[Value.slice none 0 0, .int .i64 0, .int .i64 0] 24)).rd.drew hk ((HX.out.alloc (Nat.le_refl _) (.cells #[Value.slice none 0 0, .int .i64 0, .int .i64 0] 24)).more (by simp)).drew (by omega) hqc hq0 N E HN.out HE.out)
            have hq5 : g5 ≠ wr.heap.size := Nat.ne_of_lt zl
            have hbne : (ad.add j).block ≠ wr.heap.size := Nat.ne_of_lt hpb
            clear hpb
            go_region_held3 (fun W => W.cell? ⟨g5, 0, none⟩ = some (.slice A k cA) ∧ W.cell? ⟨g5, 1, none⟩ = some (.int .i64 1) ∧ W.cell? ⟨g5, 2, none⟩ = some (.int .i64 1) ∧ W.cell? (ad.add j) = some (.slice B q cB))
              (first | with_reducible exact keep4 bD.out hcell | with_reducible exact keep4 bD.out.drew HC0.out | with_reducible exact keep4 (bD.out.alloc (.cells #[Value.slice none 0 0, .int .i64 0, .int .i64 0] 24)).drew HC1.out | with_reducible exact keep4 bD4.out HC4.out | with_reducible exact keep4 (bD4.out.alloc _) ((World.cell?_alloc_lt w4 _ (ad.add j) (World.block_lt_of_cell? w4 _ HC4.out)).trans HC4.out) | with_reducible exact keep4 (((bD4.out.far (p := ⟨wr.heap.size, 0, none⟩) hq4 _).far (p := ⟨wr.heap.size, 1, none⟩) hq4 _).far (p := ⟨wr.heap.size, 2, none⟩) hq4 _) (cell3 HC4.out hbne _ _ _))
              (first
                | (go_at_call 7; with_reducible refine X1.out.mono ?_
                   rintro e w4 ⟨A4, c4, rfl, R4, bD4, HC4, K4, L4, M4⟩
                   have hq4 : g5 ≠ w4.heap.size := Nat.ne_of_lt bD4.out.lt
                   have bQ4 : True := trivial
                   obtain ⟨u0, u1, u2, v0, v1, v2⟩ := bD4.out.three)
                | (go_at_call 7; with_reducible refine X2.out.mono ?_
                   rintro e w4 ⟨A4, c4, rfl, R4, bD4, HC4, K4, L4, M4⟩
                   have hq4 : g5 ≠ wr.heap.size := hq5
                   have bQ4 := hide ((Blk.new wr 24 #[Value.slice none 0 0, .int .i64 0, .int .i64 0]).drew.below M4.out (Blk.new wr 24 #[Value.slice none 0 0, .int .i64 0, .int .i64 0]).drew.lt)
                   obtain ⟨u0, u1, u2, v0, v1, v2⟩ := bD4.out.three
                   obtain ⟨t0, t1, t2, r0, r1, r2⟩ := bQ4.out.three))
            all_goals
              go_wp2_with fail
              go_meet
            · exact ⟨rfl, rfl, w4.heap.size, A4, c4, rfl, bD4.out.alloc _, Blk.new w4 24 _, R4.out.alloc _, hq4, K4.out.size, K4.out.alloc K4.out.size _, L4.out.alloc L4.out.size _⟩
            · refine ⟨rfl, rfl, wr.heap.size, A4, c4, rfl, ((bD4.out.far (p := ⟨wr.heap.size, 0, none⟩) hq4 _).far (p := ⟨wr.heap.size, 1, none⟩) hq4 _).far (p := ⟨wr.heap.size, 2, none⟩) hq4 _, ((bQ4.out.set_ 0 _).set_ 1 _).set_ 2 _, ((R4.out.set_ (p := ⟨wr.heap.size, 0, none⟩) bQ4.out (by decide) _).set_ (p := ⟨wr.heap.size, 1, none⟩) (bQ4.out.set_ 0 _) (by decide) _).set_ (p := ⟨wr.heap.size, 2, none⟩) ((bQ4.out.set_ 0 _).set_ 1 _) (by decide) _, hq4, zw, ?_, ?_⟩
              · exact ((K4.out.setCell (by simp; omega) _).setCell (by simp; omega) _).setCell (by simp; omega) _
              · exact ((L4.out.setCell (by simp) _).setCell (by simp) _).setCell (by simp) _
          case rest =>
            obtain ⟨rfl, rfl, gq, A4, c4, rfl, bD4, bQ4, R4', hne, hgq, K4', L4'⟩ := hcut
            have BD4 := hide bD4
            have BQ4 := hide bQ4
            have RR4 := hide R4'
            have KK4 := hide K4'
            have hpb : (ad.add j).block < wr.heap.size := by rw [block_of_add]; omega
            have hcc : wc.cell? (ad.add j) = some (.slice B q cB) := (L4'.cell hpb).trans hcell
            have HXc := hide ((Reads.below HX.out L4').more L4'.size)
            have z4 := bD4.lt
            have z4q := bQ4.lt
            clear bD4 bQ4 R4' K4' hpb hcell x0 x1 x2 y0 y1 y2
            obtain ⟨x0, x1, x2, y0, y1, y2⟩ := BD4.out.three
            obtain ⟨t0, t1, t2, r0, r1, r2⟩ := BQ4.out.three
            have hNq : (N : Int) ≤ q := by have := HN.out; omega
            have hNc : (N : Int) ≤ cB := by omega
            have hN0 : (0 : Int) ≤ N := by omega
            have hsl := fun W => run_slice_to (P := Try.prog) 22 5 Try.underlying22 sizeU8 B q cB .i64 (N : Int) hN0 hNc W
            simp only [Int.toNat_natCast] at hsl
            have rs := run_string_of (P := Try.prog) wc _ 22 9 5 B N cB (x.take N) Try.underlying22 Try.underlying5 Try.underlying9 (by have h := Reads.take HXc.out (q := N) (by omega); rw [← bv_take] at h; exact h)
            have HTd : Hid ((T ++ (⟨(x.take N).toArray⟩ : ByteArray)).data = (I ++ x.take N).toArray) := hide (str_more hT.out)
            have HId : Hid (I ++ x.take N = O ++ (d ++ x.take N)) := hide (by rw [hI.out, List.append_assoc])
            have kd : Hid ((d ++ x.take N).length = k + N) := hide (by rw [List.length_append, List.length_take, hd.out, hxl.out]; omega)
            have kI : Hid ((I ++ x.take N).length ≤ 100 * (j + 1)) := hide (by rw [List.length_append, List.length_take, hxl.out]; have := hIl.out; omega)
            have HU2 := hide (str_facts HTd.out hU.out HId.out)
            have sT6 : (T.size : Int) ≤ 6000 := by have := HST.out; have := hIl.out; omega
            have sU0 : (0 : Int) ≤ U.size := by omega
            have sUT : (U.size : Int) ≤ T.size := by have := HSZ.out; omega
            by_cases hk64 : k = 64
            · obtain rfl : E = 29 := by rw [← HE.out, if_pos hk64]
              have hs64 : (T.size : Int) - U.size = 64 := by have := HSZ.out; omega
              clear hk64
              go_upto_region 24 with (fail)
              generalize hTT : T ++ (⟨(x.take N).toArray⟩ : ByteArray) = TT at HTd HU2 ⊢
              generalize hWn : (((wc.setCell ⟨g5, 0, none⟩ (.slice A4 (k + N) c4)).setCell ⟨g5, 1, none⟩ (.int .i64 1)).setCell ⟨g5, 2, none⟩ (.int .i64 1)) = Wn
              have bDn : Hid (Blk Wn g5 24 #[.slice A4 (k + N) c4, .int .i64 1, .int .i64 1]) := hide (by rw [← hWn]; exact ((BD4.out.set_ 0 _).set_ 1 _).set_ 2 _)
              have RAn : Hid (Rc w.heap.size Wn A4 (k + N) c4 (d ++ x.take N)) := hide (by rw [← hWn]; exact ((RR4.out.set_ (p := ⟨g5, 0, none⟩) BD4.out (by decide) _).set_ (p := ⟨g5, 1, none⟩) (BD4.out.set_ 0 _) (by decide) _).set_ (p := ⟨g5, 2, none⟩) ((BD4.out.set_ 0 _).set_ 1 _) (by decide) _)
              have hg5w : w.heap.size ≤ g5 := hgw.out
              have KRn : Hid (Below w.heap.size w Wn) := hide (by rw [← hWn]; exact ((KK4.out.setCell hg5w _).setCell hg5w _).setCell hg5w _)
              clear hTT hWn rs hsl hs64 x0 x1 x2 y0 y1 y2 t0 t1 t2 r0 r1 r2 hcc
              obtain ⟨f1, f2, f3⟩ := HU2.out
              have f1' := f1
              rw [kd.out] at f1'
              have F1 : (U.size : Int) ≤ TT.size := by omega
              have F2 : (0 : Int) ≤ U.size := by omega
              have F3 : ((((k + N) : Nat)) : Int) ≤ 64 := by first | omega | (have := HN.out; omega) | (have := HM.out; omega)
              have F4 : decide (TT.size < U.size) = false := decide_eq_false (by omega)
              have F5 : decide ((TT.size : Int) < U.size) = false := decide_eq_false (by omega)
              have F6 : decide ((64 : Int) < (((k + N) : Nat) : Int)) = false := decide_eq_false (by omega)
              have F7 : decide (64 < (k + N)) = false := decide_eq_false (by omega)
              clear f1 f1'
              have allS : Hid (∀ V, Below Wn.heap.size Wn V → (V.cell? ⟨g5, 0, none⟩ = some (.slice A4 (k + N) c4) ∧ V.cell? ⟨g5, 1, none⟩ = some (.int .i64 1) ∧ V.cell? ⟨g5, 2, none⟩ = some (.int .i64 1) ∧ (convert 22 9 (.slice A4 (k + N) c4)).run Try.prog V = .ok (.string ⟨((d ++ x.take N)).toArray⟩) V)) := hide fun V h => by
                obtain ⟨a0, a1, a2⟩ := blk3 (bDn.out.below h bDn.out.lt)
                exact ⟨a0, a1, a2, run_string_of (P := Try.prog) V _ 22 9 5 A4 (k + N) c4 (d ++ x.take N) Try.underlying22 Try.underlying5 Try.underlying9 (Reads.below RAn.out.rd h)⟩
              have kW := hide ((Below.refl Wn.heap.size Wn).drew)
              go_region_held3 (fun V => V.cell? ⟨g5, 0, none⟩ = some (.slice A4 (k + N) c4) ∧ V.cell? ⟨g5, 1, none⟩ = some (.int .i64 1) ∧ V.cell? ⟨g5, 2, none⟩ = some (.int .i64 1) ∧ (convert 22 9 (.slice A4 (k + N) c4)).run Try.prog V = .ok (.string ⟨((d ++ x.take N)).toArray⟩) V)
                (with_reducible exact allS.out _ kW.out)
                (fail)
              all_goals
                go_wp2
                go_roundw
                case rel => exact ⟨j + 1, by omega, by go_num, TT, U, I ++ x.take N, O, A4, k + N, c4, d ++ x.take N, rfl, rfl, HTd.out, hU.out, HId.out, kd.out, by omega, kI.out, bDn.out.drew, drewRc RAn.out, KRn.out.drew⟩
                case measure => simp [intOf]; omega
            · obtain rfl : E = 0 := by rw [← HE.out, if_neg hk64]
              clear hk64
              go_upto_region 24 with (fail)
              generalize hTT : T ++ (⟨(x.take N).toArray⟩ : ByteArray) = TT at HTd HU2 ⊢
              generalize hWn : (((wc.setCell ⟨g5, 0, none⟩ (.slice A4 (k + N) c4)).setCell ⟨g5, 1, none⟩ (.int .i64 1)).setCell ⟨g5, 2, none⟩ (.int .i64 1)) = Wn
              have bDn : Hid (Blk Wn g5 24 #[.slice A4 (k + N) c4, .int .i64 1, .int .i64 1]) := hide (by rw [← hWn]; exact ((BD4.out.set_ 0 _).set_ 1 _).set_ 2 _)
              have RAn : Hid (Rc w.heap.size Wn A4 (k + N) c4 (d ++ x.take N)) := hide (by rw [← hWn]; exact ((RR4.out.set_ (p := ⟨g5, 0, none⟩) BD4.out (by decide) _).set_ (p := ⟨g5, 1, none⟩) (BD4.out.set_ 0 _) (by decide) _).set_ (p := ⟨g5, 2, none⟩) ((BD4.out.set_ 0 _).set_ 1 _) (by decide) _)
              have hg5w : w.heap.size ≤ g5 := hgw.out
              have KRn : Hid (Below w.heap.size w Wn) := hide (by rw [← hWn]; exact ((KK4.out.setCell hg5w _).setCell hg5w _).setCell hg5w _)
              clear hTT hWn rs hsl x0 x1 x2 y0 y1 y2 t0 t1 t2 r0 r1 r2 hcc
              obtain ⟨f1, f2, f3⟩ := HU2.out
              have f1' := f1
              rw [kd.out] at f1'
              have F1 : (U.size : Int) ≤ TT.size := by omega
              have F2 : (0 : Int) ≤ U.size := by omega
              have F3 : ((((k + N) : Nat)) : Int) ≤ 64 := by first | omega | (have := HN.out; omega) | (have := HM.out; omega)
              have F4 : decide (TT.size < U.size) = false := decide_eq_false (by omega)
              have F5 : decide ((TT.size : Int) < U.size) = false := decide_eq_false (by omega)
              have F6 : decide ((64 : Int) < (((k + N) : Nat) : Int)) = false := decide_eq_false (by omega)
              have F7 : decide (64 < (k + N)) = false := decide_eq_false (by omega)
              clear f1 f1'
              have allS : Hid (∀ V, Below Wn.heap.size Wn V → (V.cell? ⟨g5, 0, none⟩ = some (.slice A4 (k + N) c4) ∧ V.cell? ⟨g5, 1, none⟩ = some (.int .i64 1) ∧ V.cell? ⟨g5, 2, none⟩ = some (.int .i64 1) ∧ (convert 22 9 (.slice A4 (k + N) c4)).run Try.prog V = .ok (.string ⟨((d ++ x.take N)).toArray⟩) V)) := hide fun V h => by
                obtain ⟨a0, a1, a2⟩ := blk3 (bDn.out.below h bDn.out.lt)
                exact ⟨a0, a1, a2, run_string_of (P := Try.prog) V _ 22 9 5 A4 (k + N) c4 (d ++ x.take N) Try.underlying22 Try.underlying5 Try.underlying9 (Reads.below RAn.out.rd h)⟩
              have kW := hide ((Below.refl Wn.heap.size Wn).drew)
              go_region_held3 (fun V => V.cell? ⟨g5, 0, none⟩ = some (.slice A4 (k + N) c4) ∧ V.cell? ⟨g5, 1, none⟩ = some (.int .i64 1) ∧ V.cell? ⟨g5, 2, none⟩ = some (.int .i64 1) ∧ (convert 22 9 (.slice A4 (k + N) c4)).run Try.prog V = .ok (.string ⟨((d ++ x.take N)).toArray⟩) V)
                (with_reducible exact allS.out _ kW.out)
                (fail)
              all_goals
                go_wp2
                go_roundw
                case rel => exact ⟨j + 1, by omega, by go_num, TT, U, I ++ x.take N, O, A4, k + N, c4, d ++ x.take N, rfl, rfl, HTd.out, hU.out, HId.out, kd.out, by omega, kI.out, bDn.out.drew, drewRc RAn.out, KRn.out.drew⟩
                case measure => simp [intOf]; omega
        · obtain ⟨ad2, z, rfl, hadb2, hcell2', hz0, hz1⟩ := hM j (by omega)
          have hcell2 : wr.cell? (ad2.add j) = some (.int .i64 z) := by rw [KR.out.cell (by rw [block_of_add]; exact hadb2)]; exact hcell2'
          clear hcell2' HX hxl
          have hjm : (j : Int) < m := by omega
          have hjm2 : j < m := by omega
          have hj0 : (0 : Int) ≤ j := by omega
          by_cases hzn : z < 0
          · have HST2 := HU
            have kd : Hid (d.length = k) := hd
            have Wnn : True := trivial
            obtain ⟨Wn, hWn⟩ : ∃ Wn, Wn = wr := ⟨_, rfl⟩
            go_upto_region 24 with (fail)
            subst hWn
            have bDn := bD
            have RAn := RA
            have KRn := KR
            obtain ⟨f1, f2, f3⟩ := HU.out
            have f1' := f1
            rw [kd.out] at f1'
            have F1 : (U.size : Int) ≤ T.size := by omega
            have F2 : (0 : Int) ≤ U.size := by omega
            have F3 : (((k : Nat)) : Int) ≤ 64 := by first | omega | (have := HN.out; omega) | (have := HM.out; omega)
            have F4 : decide (T.size < U.size) = false := decide_eq_false (by omega)
            have F5 : decide ((T.size : Int) < U.size) = false := decide_eq_false (by omega)
            have F6 : decide ((64 : Int) < ((k : Nat) : Int)) = false := decide_eq_false (by omega)
            have F7 : decide (64 < k) = false := decide_eq_false (by omega)
            clear f1 f1'
            have allS : Hid (∀ V, Below Wn.heap.size Wn V → (V.cell? ⟨g5, 0, none⟩ = some (.slice A k cA) ∧ V.cell? ⟨g5, 1, none⟩ = some (.int .i64 1) ∧ V.cell? ⟨g5, 2, none⟩ = some (.int .i64 1) ∧ (convert 22 9 (.slice A k cA)).run Try.prog V = .ok (.string ⟨(d).toArray⟩) V)) := hide fun V h => by
              obtain ⟨a0, a1, a2⟩ := blk3 (bDn.out.below h bDn.out.lt)
              exact ⟨a0, a1, a2, run_string_of (P := Try.prog) V _ 22 9 5 A k cA d Try.underlying22 Try.underlying5 Try.underlying9 (Reads.below RAn.out.rd h)⟩
            have kW := hide ((Below.refl Wn.heap.size Wn).drew)
            go_region_held3 (fun V => V.cell? ⟨g5, 0, none⟩ = some (.slice A k cA) ∧ V.cell? ⟨g5, 1, none⟩ = some (.int .i64 1) ∧ V.cell? ⟨g5, 2, none⟩ = some (.int .i64 1) ∧ (convert 22 9 (.slice A k cA)).run Try.prog V = .ok (.string ⟨(d).toArray⟩) V)
              (with_reducible exact allS.out _ kW.out)
              (fail)
            all_goals
              go_wp2
              go_roundw
              case rel => exact ⟨j + 1, by omega, by go_num, T, U, I, O, A, k, cA, d, rfl, rfl, hT.out, hU.out, hI.out, hd.out, hk, by have := hIl.out; omega, bDn.out.drew, drewRc RAn.out, KRn.out.drew⟩
              case measure => simp [intOf]; omega
          · have hzp : 0 ≤ z := by omega
            obtain ⟨N, hN⟩ : ∃ N, min z.toNat k = N := ⟨_, rfl⟩
            obtain ⟨Mk, hMk⟩ : ∃ Mk, k - N = Mk := ⟨_, rfl⟩
            obtain ⟨E, hE⟩ : ∃ E, (if k = 0 ∧ 0 < z then (29 : Int) else 0) = E := ⟨_, rfl⟩
            have HN := hide hN
            have HM := hide hMk
            have HE := hide hE
            have capA := hide RA.out.caps
            clear hN hMk hE hIl2
            go_upto_region 19 with (fail)
            go_cut [13, 14, 15] (fun s13 s14 s15 wx => s15 = .int .i64 E ∧ ∃ (gq : Nat) (A' : Option Addr) (c' : Nat) (B' : Option Addr) (c3 : Nat), s13 = .pointer (some ⟨gq, 0, none⟩) ∧ s14 = .slice B' N c3 ∧ Blk wx g5 24 #[.slice A k cA, .int .i64 1, .int .i64 1] ∧ Blk wx gq 24 #[.slice A' Mk c', .int .i64 1, .int .i64 1] ∧ Rc w.heap.size wx A' Mk c' (d.drop N) ∧ Rd wx B' N (d.take N) ∧ g5 ≠ gq ∧ Below w.heap.size w wx ∧ Below wr.heap.size wr wx)
            case first =>
              have HC0 : Hid (wr.drew.cell? (ad2.add j) = some (.int .i64 z)) := hide hcell2
              have HC1 : Hid ((wr.alloc (.cells #[Value.slice none 0 0, .int .i64 0, .int .i64 0] 24)).drew.cell? (ad2.add j) = some (.int .i64 z)) := hide ((World.cell?_alloc_lt wr (.cells #[Value.slice none 0 0, .int .i64 0, .int .i64 0] 24) (ad2.add j) (by rw [block_of_add]; omega)).trans hcell2)
              have hpb : (ad2.add j).block < wr.heap.size := by rw [block_of_add]; omega
              have X1 := hide (read_at (w := w) (wr := wr) (V := wr.drew) A k cA d z bD.out.drew HC0.out hpb KR.out.drew (Below.refl wr.heap.size wr).drew RA.out.rd.drew hk capA.out.1 capA.out.2 hzp hz1 N Mk E HN.out HM.out HE.out)
              have X2 := hide (read_at (w := w) (wr := wr) (V := (wr.alloc (.cells #[Value.slice none 0 0, .int .i64 0, .int .i64 0] 24)).drew) A k cA d z (bD.out.alloc (.cells #[Value.slice none 0 0, .int .i64 0, .int .i64 0] 24)).drew HC1.out (Nat.lt_of_lt_of_le hpb (by simp)) (KR.out.alloc KR.out.size (.cells #[Value.slice none 0 0, .int .i64 0, .int .i64 0] 24)).drew ((Below.refl wr.heap.size wr).alloc (Nat.le_refl _) (.cells #[Value.slice none 0 0, .int .i64 0, .int .i64 0] 24)).drew (RA.out.alloc (.cells #[Value.slice none 0 0, .int .i64 0, .int .i64 0] 24)).rd.drew hk capA.out.1 capA.out.2 hzp hz1 N Mk E HN.out HM.out HE.out)
              have hq5 : g5 ≠ wr.heap.size := Nat.ne_of_lt zl
              have hbne : (ad2.add j).block ≠ wr.heap.size := Nat.ne_of_lt hpb
              clear hpb
              go_region_held3 (fun W => W.cell? ⟨g5, 0, none⟩ = some (.slice A k cA) ∧ W.cell? ⟨g5, 1, none⟩ = some (.int .i64 1) ∧ W.cell? ⟨g5, 2, none⟩ = some (.int .i64 1) ∧ W.cell? (ad2.add j) = some (.int .i64 z))
                (first | with_reducible exact keep4 bD.out hcell2 | with_reducible exact keep4 bD.out.drew HC0.out | with_reducible exact keep4 (bD.out.alloc (.cells #[Value.slice none 0 0, .int .i64 0, .int .i64 0] 24)).drew HC1.out | with_reducible exact keep4 bD4.out HC4.out | with_reducible exact keep4 (bD4.out.alloc _) ((World.cell?_alloc_lt w4 _ (ad2.add j) (World.block_lt_of_cell? w4 _ HC4.out)).trans HC4.out) | with_reducible exact keep4 (((bD4.out.far (p := ⟨wr.heap.size, 0, none⟩) hq4 _).far (p := ⟨wr.heap.size, 1, none⟩) hq4 _).far (p := ⟨wr.heap.size, 2, none⟩) hq4 _) (cell3 HC4.out hbne _ _ _))
                (first
                  | (go_at_call 9; with_reducible refine X1.out.mono ?_
                     rintro e w4 ⟨A4, c4, B4, e4, rfl, R4, S4, bD4, HC4, K4, L4, M4⟩
                     have hq4 : g5 ≠ w4.heap.size := Nat.ne_of_lt bD4.out.lt
                     have bQ4 : True := trivial
                     obtain ⟨u0, u1, u2, v0, v1, v2⟩ := bD4.out.three)
                  | (go_at_call 9; with_reducible refine X2.out.mono ?_
                     rintro e w4 ⟨A4, c4, B4, e4, rfl, R4, S4, bD4, HC4, K4, L4, M4⟩
                     have hq4 : g5 ≠ wr.heap.size := hq5
                     have bQ4 := hide ((Blk.new wr 24 #[Value.slice none 0 0, .int .i64 0, .int .i64 0]).drew.below M4.out (Blk.new wr 24 #[Value.slice none 0 0, .int .i64 0, .int .i64 0]).drew.lt)
                     obtain ⟨u0, u1, u2, v0, v1, v2⟩ := bD4.out.three
                     obtain ⟨t0, t1, t2, r0, r1, r2⟩ := bQ4.out.three))
              all_goals
                go_wp2_with fail
                go_meet
              · exact ⟨rfl, w4.heap.size, A4, c4, B4, e4, rfl, rfl, bD4.out.alloc _, Blk.new w4 24 _, R4.out.alloc _, (S4.out.alloc (Nat.le_refl _) _).more (by simp), hq4, K4.out.alloc K4.out.size _, L4.out.alloc L4.out.size _⟩
              · refine ⟨rfl, wr.heap.size, A4, c4, B4, e4, rfl, rfl, ((bD4.out.far (p := ⟨wr.heap.size, 0, none⟩) hq4 _).far (p := ⟨wr.heap.size, 1, none⟩) hq4 _).far (p := ⟨wr.heap.size, 2, none⟩) hq4 _, ((bQ4.out.set_ 0 _).set_ 1 _).set_ 2 _, ((R4.out.set_ (p := ⟨wr.heap.size, 0, none⟩) bQ4.out (by decide) _).set_ (p := ⟨wr.heap.size, 1, none⟩) (bQ4.out.set_ 0 _) (by decide) _).set_ (p := ⟨wr.heap.size, 2, none⟩) ((bQ4.out.set_ 0 _).set_ 1 _) (by decide) _, ?_, hq4, ?_, ?_⟩
                · have s1 := Reads.set1 S4.out bQ4.out.three.1 (by intro z h; cases h) (.slice A4 Mk c4)
                  have s2 := Reads.set1 s1 (bQ4.out.set_ 0 (.slice A4 Mk c4)).three.2.1 (by intro z h; cases h) (.int .i64 1)
                  have s3 := Reads.set1 s2 ((bQ4.out.set_ 0 (.slice A4 Mk c4)).set_ 1 (.int .i64 1)).three.2.2.1 (by intro z h; cases h) (.int .i64 1)
                  exact s3.more (by simp [World.setCell])
                · exact ((K4.out.setCell (by simp; omega) _).setCell (by simp; omega) _).setCell (by simp; omega) _
                · exact ((L4.out.setCell (by simp) _).setCell (by simp) _).setCell (by simp) _
            case rest =>
              obtain ⟨rfl, gq, A4, c4, B4, e4, rfl, rfl, bD4, bQ4, R4', S4', hne, K4', L4'⟩ := hcut
              have BD4 := hide bD4
              have BQ4 := hide bQ4
              have RR4 := hide R4'
              have SS4 := hide S4'
              have KK4 := hide K4'
              have hpb : (ad2.add j).block < wr.heap.size := by rw [block_of_add]; omega
              have hcc : wc.cell? (ad2.add j) = some (.int .i64 z) := (L4'.cell hpb).trans hcell2
              have z4 := bD4.lt
              have z4q := bQ4.lt
              clear bD4 bQ4 R4' S4' K4' hpb hcell2 x0 x1 x2 y0 y1 y2
              obtain ⟨x0, x1, x2, y0, y1, y2⟩ := BD4.out.three
              obtain ⟨t0, t1, t2, r0, r1, r2⟩ := BQ4.out.three
              have hNz : (N : Int) ≤ z := by have := HN.out; omega
              have hNk : N ≤ k := by have := HN.out; omega
              have sT6 : (T.size : Int) ≤ 6000 := by have := HST.out; have := hIl.out; omega
              have sU0 : (0 : Int) ≤ U.size := by omega
              have sU6 : (U.size : Int) ≤ 6000 := by have := HSZ.out; omega
              have rs := run_string_of (P := Try.prog) wc _ 22 9 5 B4 N e4 (d.take N) Try.underlying22 Try.underlying5 Try.underlying9 SS4.out
              have HUd : Hid ((U ++ (⟨(d.take N).toArray⟩ : ByteArray)).data = (O ++ d.take N).toArray) := hide (str_more hU.out)
              have HId : Hid (I = (O ++ d.take N) ++ d.drop N) := hide (by rw [hI.out, List.append_assoc, List.take_append_drop])
              have kd : Hid ((d.drop N).length = Mk) := hide (by rw [List.length_drop, hd.out]; exact HM.out)
              have kI : Hid (I.length ≤ 100 * (j + 1)) := hide (by have := hIl.out; omega)
              have HU2 := hide (str_facts hT.out HUd.out HId.out)
              by_cases hk0 : k = 0 ∧ 0 < z
              · obtain rfl : E = 29 := by rw [← HE.out, if_pos hk0]
                have hs64 : T.size = U.size := by have := HSZ.out; omega
                clear hk0
                go_upto_region 24 with (fail)
                generalize hUU : U ++ (⟨(d.take N).toArray⟩ : ByteArray) = UU at HUd HU2 ⊢
                generalize hWn : (((wc.setCell ⟨g5, 0, none⟩ (.slice A4 Mk c4)).setCell ⟨g5, 1, none⟩ (.int .i64 1)).setCell ⟨g5, 2, none⟩ (.int .i64 1)) = Wn
                have bDn : Hid (Blk Wn g5 24 #[.slice A4 Mk c4, .int .i64 1, .int .i64 1]) := hide (by rw [← hWn]; exact ((BD4.out.set_ 0 _).set_ 1 _).set_ 2 _)
                have RAn : Hid (Rc w.heap.size Wn A4 Mk c4 (d.drop N)) := hide (by rw [← hWn]; exact ((RR4.out.set_ (p := ⟨g5, 0, none⟩) BD4.out (by decide) _).set_ (p := ⟨g5, 1, none⟩) (BD4.out.set_ 0 _) (by decide) _).set_ (p := ⟨g5, 2, none⟩) ((BD4.out.set_ 0 _).set_ 1 _) (by decide) _)
                have hg5w : w.heap.size ≤ g5 := hgw.out
                have KRn : Hid (Below w.heap.size w Wn) := hide (by rw [← hWn]; exact ((KK4.out.setCell hg5w _).setCell hg5w _).setCell hg5w _)
                clear hUU hWn rs hs64 x0 x1 x2 y0 y1 y2 t0 t1 t2 r0 r1 r2 hcc
                obtain ⟨f1, f2, f3⟩ := HU2.out
                have f1' := f1
                rw [kd.out] at f1'
                have F1 : (UU.size : Int) ≤ T.size := by omega
                have F2 : (0 : Int) ≤ UU.size := by omega
                have F3 : (((Mk : Nat)) : Int) ≤ 64 := by first | omega | (have := HN.out; omega) | (have := HM.out; omega)
                have F4 : decide (T.size < UU.size) = false := decide_eq_false (by omega)
                have F5 : decide ((T.size : Int) < UU.size) = false := decide_eq_false (by omega)
                have F6 : decide ((64 : Int) < ((Mk : Nat) : Int)) = false := decide_eq_false (by omega)
                have F7 : decide (64 < Mk) = false := decide_eq_false (by omega)
                clear f1 f1'
                have allS : Hid (∀ V, Below Wn.heap.size Wn V → (V.cell? ⟨g5, 0, none⟩ = some (.slice A4 Mk c4) ∧ V.cell? ⟨g5, 1, none⟩ = some (.int .i64 1) ∧ V.cell? ⟨g5, 2, none⟩ = some (.int .i64 1) ∧ (convert 22 9 (.slice A4 Mk c4)).run Try.prog V = .ok (.string ⟨((d.drop N)).toArray⟩) V)) := hide fun V h => by
                  obtain ⟨a0, a1, a2⟩ := blk3 (bDn.out.below h bDn.out.lt)
                  exact ⟨a0, a1, a2, run_string_of (P := Try.prog) V _ 22 9 5 A4 Mk c4 (d.drop N) Try.underlying22 Try.underlying5 Try.underlying9 (Reads.below RAn.out.rd h)⟩
                have kW := hide ((Below.refl Wn.heap.size Wn).drew)
                go_region_held3 (fun V => V.cell? ⟨g5, 0, none⟩ = some (.slice A4 Mk c4) ∧ V.cell? ⟨g5, 1, none⟩ = some (.int .i64 1) ∧ V.cell? ⟨g5, 2, none⟩ = some (.int .i64 1) ∧ (convert 22 9 (.slice A4 Mk c4)).run Try.prog V = .ok (.string ⟨((d.drop N)).toArray⟩) V)
                  (with_reducible exact allS.out _ kW.out)
                  (fail)
                all_goals
                  go_wp2
                  go_roundw
                  case rel => exact ⟨j + 1, by omega, by go_num, T, UU, I, O ++ d.take N, A4, Mk, c4, d.drop N, rfl, rfl, hT.out, HUd.out, HId.out, kd.out, by omega, kI.out, bDn.out.drew, drewRc RAn.out, KRn.out.drew⟩
                  case measure => simp [intOf]; omega
              · obtain rfl : E = 0 := by rw [← HE.out, if_neg hk0]
                clear hk0
                go_upto_region 24 with (fail)
                generalize hUU : U ++ (⟨(d.take N).toArray⟩ : ByteArray) = UU at HUd HU2 ⊢
                generalize hWn : (((wc.setCell ⟨g5, 0, none⟩ (.slice A4 Mk c4)).setCell ⟨g5, 1, none⟩ (.int .i64 1)).setCell ⟨g5, 2, none⟩ (.int .i64 1)) = Wn
                have bDn : Hid (Blk Wn g5 24 #[.slice A4 Mk c4, .int .i64 1, .int .i64 1]) := hide (by rw [← hWn]; exact ((BD4.out.set_ 0 _).set_ 1 _).set_ 2 _)
                have RAn : Hid (Rc w.heap.size Wn A4 Mk c4 (d.drop N)) := hide (by rw [← hWn]; exact ((RR4.out.set_ (p := ⟨g5, 0, none⟩) BD4.out (by decide) _).set_ (p := ⟨g5, 1, none⟩) (BD4.out.set_ 0 _) (by decide) _).set_ (p := ⟨g5, 2, none⟩) ((BD4.out.set_ 0 _).set_ 1 _) (by decide) _)
                have hg5w : w.heap.size ≤ g5 := hgw.out
                have KRn : Hid (Below w.heap.size w Wn) := hide (by rw [← hWn]; exact ((KK4.out.setCell hg5w _).setCell hg5w _).setCell hg5w _)
                clear hUU hWn rs x0 x1 x2 y0 y1 y2 t0 t1 t2 r0 r1 r2 hcc
                obtain ⟨f1, f2, f3⟩ := HU2.out
                have f1' := f1
                rw [kd.out] at f1'
                have F1 : (UU.size : Int) ≤ T.size := by omega
                have F2 : (0 : Int) ≤ UU.size := by omega
                have F3 : (((Mk : Nat)) : Int) ≤ 64 := by first | omega | (have := HN.out; omega) | (have := HM.out; omega)
                have F4 : decide (T.size < UU.size) = false := decide_eq_false (by omega)
                have F5 : decide ((T.size : Int) < UU.size) = false := decide_eq_false (by omega)
                have F6 : decide ((64 : Int) < ((Mk : Nat) : Int)) = false := decide_eq_false (by omega)
                have F7 : decide (64 < Mk) = false := decide_eq_false (by omega)
                clear f1 f1'
                have allS : Hid (∀ V, Below Wn.heap.size Wn V → (V.cell? ⟨g5, 0, none⟩ = some (.slice A4 Mk c4) ∧ V.cell? ⟨g5, 1, none⟩ = some (.int .i64 1) ∧ V.cell? ⟨g5, 2, none⟩ = some (.int .i64 1) ∧ (convert 22 9 (.slice A4 Mk c4)).run Try.prog V = .ok (.string ⟨((d.drop N)).toArray⟩) V)) := hide fun V h => by
                  obtain ⟨a0, a1, a2⟩ := blk3 (bDn.out.below h bDn.out.lt)
                  exact ⟨a0, a1, a2, run_string_of (P := Try.prog) V _ 22 9 5 A4 Mk c4 (d.drop N) Try.underlying22 Try.underlying5 Try.underlying9 (Reads.below RAn.out.rd h)⟩
                have kW := hide ((Below.refl Wn.heap.size Wn).drew)
                go_region_held3 (fun V => V.cell? ⟨g5, 0, none⟩ = some (.slice A4 Mk c4) ∧ V.cell? ⟨g5, 1, none⟩ = some (.int .i64 1) ∧ V.cell? ⟨g5, 2, none⟩ = some (.int .i64 1) ∧ (convert 22 9 (.slice A4 Mk c4)).run Try.prog V = .ok (.string ⟨((d.drop N)).toArray⟩) V)
                  (with_reducible exact allS.out _ kW.out)
                  (fail)
                all_goals
                  go_wp2
                  go_roundw
                  case rel => exact ⟨j + 1, by omega, by go_num, T, UU, I, O ++ d.take N, A4, Mk, c4, d.drop N, rfl, rfl, hT.out, HUd.out, HId.out, kd.out, by omega, kI.out, bDn.out.drew, drewRc RAn.out, KRn.out.drew⟩
                  case measure => simp [intOf]; omega
    · obtain rfl : j = n := by omega
      go_wp2_with fail
      refine (hh _).mono ?_
      rintro e w2 ⟨rfl, k2⟩
      have K2 := hide (below_more KR.out (Nat.le_refl _) k2)
      clear k2
      go_wp2
      go_ret
      exact ⟨rfl, K2.out⟩
#print axioms order_law
end Go.Proofs.Ytpbhkceinnganaa
