/- The document's Write. -/
import Derived.Test.YtlcoapignfmgcaaGreatDoorNrC
namespace Go.Proofs.YtlcoapignfmgcaaGreatDoor
open Go.RowKit
set_option linter.unusedVariables false
theorem FsR.far {w : World} {B n : Nat} {L : Option Addr} {X : List DV} (h : FsR w B L n X) {p : Addr} (ho : Off L n p.block ∧ ∀ x ∈ X, Off x.D x.dn p.block ∧ Off x.M x.mn p.block) (u : Value) : FsR (w.setCell p u) B L n X :=
  ⟨Reads.far h.rd ho.1 u, fun x hx => ⟨Reads.far (h.ok x hx).d (ho.2 x hx).1 u, Reads.far (h.ok x hx).n (ho.2 x hx).2 u⟩⟩
def lenV : Value → Nat
  | .slice _ n _ => n
  | _ => 0
/-- A row with the first bytes of another laid over. -/
def fillP (ds : List UInt8) (q : Nat) (b : List UInt8) (i : Nat) : List UInt8 := ds.take q ++ b.take i ++ ds.drop (q + i)
theorem fill_zero (ds : List UInt8) (q : Nat) (b : List UInt8) : fillP ds q b 0 = ds := by
  unfold fillP
  rw [List.take_zero, List.append_nil, Nat.add_zero, List.take_append_drop]
theorem fill_length (ds : List UInt8) (q : Nat) (b : List UInt8) (i : Nat) (hi : i ≤ b.length) (hq : q + i ≤ ds.length) : (fillP ds q b i).length = ds.length := by
  unfold fillP
  rw [List.length_append, List.length_append, List.length_take, List.length_take, List.length_drop]
  omega
theorem fill_step (ds : List UInt8) (q : Nat) (b : List UInt8) (i : Nat) (v : UInt8) (hv : b[i]? = some v) (hq : q + i < ds.length) : (fillP ds q b i).set (q + i) v = fillP ds q b (i + 1) := by
  obtain ⟨hi, e⟩ := List.getElem?_eq_some_iff.1 hv
  have h1 : (ds.take q ++ b.take i).length = q + i := by rw [List.length_append, List.length_take, List.length_take]; omega
  unfold fillP
  rw [List.set_append, if_neg (by omega), h1, Nat.sub_self, List.drop_eq_getElem_cons hq, List.set_cons_zero, List.take_add_one, hv]
  simp [Nat.add_assoc]
theorem fill_put (old b : List UInt8) (q tn nn : Nat) (hq : q ≤ 4096) (hnn : nn = min b.length (4096 - q)) (htn : tn = max old.length (q + nn)) : fillP (old ++ List.replicate (tn - old.length) 0) q b nn = putB old q b := by
  unfold fillP putB
  dsimp only
  have e2 : (old ++ List.replicate (tn - old.length) (0 : UInt8)).take q = old.take q ++ List.replicate (q - old.length) 0 := by
    rw [List.take_append, List.take_replicate]
    congr 2
    omega
  have e3 : (old ++ List.replicate (tn - old.length) (0 : UInt8)).drop (q + nn) = old.drop (q + min b.length (4096 - q)) := by
    rw [List.drop_append, List.drop_replicate]
    rw [show tn - old.length - (q + nn - old.length) = 0 by omega, hnn]
    simp
  rw [e2, e3, hnn]
theorem u8_at (g1 o m k q : Nat) (i : Int) (hi : i = (q : Int)) (hq : q < m) (W : World) : (Instr.indexAt 25 (.slice (some ⟨g1, o, none⟩) m k) (.int .i64 i)).run Tryz.prog W = .ok (.pointer (some ⟨g1, o + q, none⟩)) W := by
  subst hi
  have hE : Tryz.prog.elem 25 = 5 := by simp [Program.elem, Tryz.underlying25]
  rw [run_indexAt_slice W 25 ⟨g1, o, none⟩ m k .i64 (q : Int) (slice_ht Tryz.underlying25), if_pos ⟨by omega, by omega⟩]
  rw [hE, run_sizeOf_n sizeU8 W]
  simp only [Result.andThen, Int.toNat_natCast, at_add, Nat.mul_one]
theorem rwr_0 {l : List ND} {k off : Int} {b : List UInt8} (h : hasP l [k] = false) : writeP l k off b = (l, 0, 2) := wr_0 (by rw [fileP_eq, h]; rfl) (by decide)
theorem rwr_1 {l : List ND} {k off : Int} {b : List UInt8} (h : hasP l [k] = true) {E : Int} (hE : rfileP l k = E) (h0 : E ≠ 0) : writeP l k off b = (l, 0, E) := wr_0 (by rw [fileP_eq, h, if_pos rfl, hE]) h0
theorem rfp {l : List ND} {k : Int} (h : hasP l [k] = true) (hE : rfileP l k = 0) : fileP l k = 0 := by rw [fileP_eq, h, if_pos rfl, hE]
set_option maxRecDepth 100000 in
set_option maxHeartbeats 16000000 in
theorem rwrite_c (L : Option Addr) (n c : Nat) (X : List DV) (k off : Int) (A : Option Addr) (bn bc : Nat) (b : List UInt8) (w : World) (hF : FsR w w.heap.size L n X) (hB : FewB X) (hA : Rd w A bn b) (hbn : bn ≤ 100000) :
    Calls Tryz.prog 19 #[.agg #[.slice L n c], .int .i64 k, .int .i64 off, .slice A bn bc] w (RefEnd w (writeP (nds X) k off b).1 [.int .i64 (writeP (nds X) k off b).2.1, .int .i64 (writeP (nds X) k off b).2.2]) := by
  have HA := hide (fun (W : World) (hW : Below w.heap.size w W) => (Reads.below hA hW).more hW.size)
  have hbl := hA.len
  have HBL := hide hbl
  clear hA hbl
  have hl := hF.len
  have hln : (nds X).length = n := by rw [nds_length, hl]
  obtain ⟨W1, hW1⟩ : ∃ W, (w.alloc (.cells #[.slice L n c] 24)).alloc (.cells #[.slice none 0 0] 24) = W := ⟨_, rfl⟩
  have HX : Hid (Blk W1 w.heap.size 24 #[.slice L n c]) := hide (by rw [← hW1]; exact (Blk.new w _ _).alloc _)
  have HY : Hid (Blk W1 (w.heap.size + 1) 24 #[.slice none 0 0]) := hide (by rw [← hW1]; have := Blk.new (w.alloc (.cells #[.slice L n c] 24)) 24 #[.slice none 0 0]; simpa only [World.size_alloc] using this)
  have b1 : Below w.heap.size w W1 := by rw [← hW1]; exact (on_alloc w _).trans ((on_alloc _ _).mono (by simp))
  have HF := hide (fun (W : World) (hW : Below w.heap.size w W) => (hF.below hW).more hW.size)
  have HHI := hide (fun (x : DV) (hx : x ∈ X) => hi_of (hF.ok x hx).d)
  have HFW := hide hB
  have HB := hide b1
  have HLN := hide hln
  have XK := hide (rknown_c L n c X k k W1 (HF.out W1 b1) hB)
  obtain ⟨hk, hhk⟩ : ∃ b, hasP (nds X) [k] = b := ⟨_, rfl⟩
  rw [has_two, hhk] at XK
  have HH := hide hhk
  obtain ⟨T, hT⟩ : ∃ T, writeP (nds X) k off b = T := ⟨_, rfl⟩
  have HT := hide hT
  rw [hT]
  have k0 := one_ HX.out
  clear hF hB b1 hl hln hhk hT
  go_enter Tryz.func19, Tryz.ntmps19
  go_wp2_with (rw [hW1])
  refine XK.out.mono ?_
  rintro e w2 ⟨rfl, hb2⟩
  have HX2 := hide (HX.out.below hb2 HX.out.lt)
  have HY2 := hide (HY.out.below hb2 HY.out.lt)
  have HB2 := hide (HB.out.trans (hb2.mono HB.out.size))
  clear hb2 k0 HX HB XK hW1 HY
  cases hk with
  | false =>
    have hTe : T = (nds X, 0, 2) := by rw [← HT.out]; exact rwr_0 HH.out
    subst hTe
    have k5 := one_ HX2.out
    have k6 := HY2.out.frozen 0
    have k7 := one_ HY2.out
    have k8 := HY2.out.lt
    have HBE : Hid (Below w.heap.size w (w2.setCell ⟨w.heap.size + 1, 0, none⟩ (.slice L n c))) := hide (HB2.out.setCell (p := ⟨w.heap.size + 1, 0, none⟩) (by show w.heap.size ≤ w.heap.size + 1; omega) _)
    clear HT
    go_wp2_with fail
    refine bodyPost_ret (v := .tuple #[.agg #[.slice L n c], .int .i64 0, .int .i64 2]) (by simp only [results, Tryz.results19]; go_simp) rfl ?_
    first | exact ⟨L, n, c, X, rfl, HF.out _ HBE.out, rfl, HBE.out⟩ | exact ⟨L, n, c, rfl, X, HF.out _ HBE.out, rfl, HBE.out⟩
  | true =>
    obtain ⟨m, rfl, hml⟩ := hasP_in HH.out (List.mem_singleton.2 rfl)
    have hm : m < n := by have := HLN.out; omega
    have XE := hide (rfile_c L n c X m w2 (HF.out w2 HB2.out) hm)
    obtain ⟨E, hE⟩ : ∃ E, rfileP (nds X) (m : Int) = E := ⟨_, rfl⟩
    rw [hE] at XE
    have HE := hide hE
    have k0 := one_ HX2.out
    clear hE
    go_wp2_with fail
    refine XE.out.mono ?_
    rintro e w3 ⟨rfl, hb3⟩
    have HX3 := hide (HX2.out.below hb3 HX2.out.lt)
    have HY3 := hide (HY2.out.below hb3 HY2.out.lt)
    have HB3 := hide (HB2.out.trans (hb3.mono HB2.out.size))
    clear hb3 k0 HX2 HB2 XE HY2
    by_cases h0 : E = 0
    · subst h0
      by_cases ho : off < 0
      · have HH1 := hide (show off < 0 ∨ 4096 < off from .inl ho)
        have hTe : T = (nds X, 0, 2) := by rw [← HT.out]; exact wr_1 (rfp HH.out HE.out) HH1.out
        subst hTe
        have k5 := one_ HX3.out
        have k6 := HY3.out.frozen 0
        have k7 := one_ HY3.out
        have k8 := HY3.out.lt
        have HBE : Hid (Below w.heap.size w (w3.setCell ⟨w.heap.size + 1, 0, none⟩ (.slice L n c))) := hide (HB3.out.setCell (p := ⟨w.heap.size + 1, 0, none⟩) (by show w.heap.size ≤ w.heap.size + 1; omega) _)
        clear HT
        go_wp2_with fail
        refine bodyPost_ret (v := .tuple #[.agg #[.slice L n c], .int .i64 0, .int .i64 2]) (by simp only [results, Tryz.results19]; go_simp) rfl ?_
        first | exact ⟨L, n, c, X, rfl, HF.out _ HBE.out, rfl, HBE.out⟩ | exact ⟨L, n, c, rfl, X, HF.out _ HBE.out, rfl, HBE.out⟩
      by_cases ho2 : 4096 < off
      · have HH1 := hide (show off < 0 ∨ 4096 < off from .inr ho2)
        have hTe : T = (nds X, 0, 2) := by rw [← HT.out]; exact wr_1 (rfp HH.out HE.out) HH1.out
        subst hTe
        have k5 := one_ HX3.out
        have k6 := HY3.out.frozen 0
        have k7 := one_ HY3.out
        have k8 := HY3.out.lt
        have HBE : Hid (Below w.heap.size w (w3.setCell ⟨w.heap.size + 1, 0, none⟩ (.slice L n c))) := hide (HB3.out.setCell (p := ⟨w.heap.size + 1, 0, none⟩) (by show w.heap.size ≤ w.heap.size + 1; omega) _)
        clear HT
        go_wp2_with fail
        refine bodyPost_ret (v := .tuple #[.agg #[.slice L n c], .int .i64 0, .int .i64 2]) (by simp only [results, Tryz.results19]; go_simp) rfl ?_
        first | exact ⟨L, n, c, X, rfl, HF.out _ HBE.out, rfl, HBE.out⟩ | exact ⟨L, n, c, rfl, X, HF.out _ HBE.out, rfl, HBE.out⟩
      have HH1 := hide (show ¬ (off < 0 ∨ 4096 < off) from fun h => h.elim ho ho2)
      obtain ⟨q, rfl⟩ : ∃ q : Nat, off = (q : Int) := ⟨off.toNat, by omega⟩
      have hw0 : IntKind.i64.wrap (4096 - (q : Int)) = 4096 - (q : Int) := by simp [IntKind.wrap, IntKind.bits, IntKind.signed]; omega
      by_cases hb0 : bn = 0
      · have HNB : Hid (b = []) := hide (List.eq_nil_of_length_eq_zero (by rw [HBL.out, hb0]))
        have hbz : ¬ ((0 : Int) < (bn : Int)) := by omega
        have hmin : min (bn : Int) (4096 - (q : Int)) = 0 := by omega
        have k0 := one_ HX3.out
        have hTe : T = (nds X, 0, 0) := by rw [← HT.out]; exact wr_2 (rfp HH.out HE.out) HH1.out HNB.out
        subst hTe
        have k6 := HY3.out.frozen 0
        have k7 := one_ HY3.out
        have k8 := HY3.out.lt
        have HBE : Hid (Below w.heap.size w (w3.setCell ⟨w.heap.size + 1, 0, none⟩ (.slice L n c))) := hide (HB3.out.setCell (p := ⟨w.heap.size + 1, 0, none⟩) (by show w.heap.size ≤ w.heap.size + 1; omega) _)
        clear HT hb0
        go_wp2_with (rw [hmin])
        refine bodyPost_ret (v := .tuple #[.agg #[.slice L n c], .int .i64 0, .int .i64 0]) (by simp only [results, Tryz.results19]; go_simp) rfl ?_
        first | exact ⟨L, n, c, X, rfl, HF.out _ HBE.out, rfl, HBE.out⟩ | exact ⟨L, n, c, rfl, X, HF.out _ HBE.out, rfl, HBE.out⟩
      have HNB : Hid (¬ b = []) := hide (fun e => hb0 (by rw [← HBL.out, e]; rfl))
      have hbz : (0 : Int) < (bn : Int) := by omega
      by_cases h4 : (q : Int) = 4096
      · have H4 := hide h4
        have h4b : ((q : Int) == 4096) = true := beq_iff_eq.2 h4
        clear h4 hb0
        have hTe : T = (nds X, 0, 35) := by rw [← HT.out]; exact wr_3 (rfp HH.out HE.out) HH1.out HNB.out H4.out
        subst hTe
        have k5 := one_ HX3.out
        have k6 := HY3.out.frozen 0
        have k7 := one_ HY3.out
        have k8 := HY3.out.lt
        have HBE : Hid (Below w.heap.size w (w3.setCell ⟨w.heap.size + 1, 0, none⟩ (.slice L n c))) := hide (HB3.out.setCell (p := ⟨w.heap.size + 1, 0, none⟩) (by show w.heap.size ≤ w.heap.size + 1; omega) _)
        clear HT
        go_wp2_with fail
        refine bodyPost_ret (v := .tuple #[.agg #[.slice L n c], .int .i64 0, .int .i64 35]) (by simp only [results, Tryz.results19]; go_simp) rfl ?_
        first | exact ⟨L, n, c, X, rfl, HF.out _ HBE.out, rfl, HBE.out⟩ | exact ⟨L, n, c, rfl, X, HF.out _ HBE.out, rfl, HBE.out⟩
      have h4b : ((q : Int) == 4096) = false := beq_eq_false_iff_ne.2 h4
      have H4 := hide h4
      have hq : q < 4096 := by omega
      obtain ⟨nn, HNN⟩ : ∃ nn : Nat, Hid (nn = min bn (4096 - q)) := ⟨_, hide rfl⟩
      have hnn0 : 0 < nn := by have := HNN.out; omega
      have hnnb : nn ≤ bn := by have := HNN.out; omega
      have hnn4 : q + nn ≤ 4096 := by have := HNN.out; omega
      have hmin : min (bn : Int) (4096 - (q : Int)) = (nn : Int) := by have := HNN.out; omega
      have hnz : ((nn : Int) == 0) = false := beq_eq_false_iff_ne.2 (by omega)
      have XC := hide (rcopied_c L n c X w.heap.size w3 (HF.out w3 HB3.out) HFW.out HB3.out.size HHI.out)
      have k0 := one_ HX3.out
      clear h4 hb0 ho ho2
      go_wp2_with (rw [hmin])
      refine XC.out.mono ?_
      rintro e w4 ⟨L', c', X', rfl, hO, hR, hb4⟩
      obtain ⟨W5, hW5⟩ : ∃ W, w4.alloc (.cells #[.slice L' n c'] 24) = W := ⟨_, rfl⟩
      have b5 : Below w4.heap.size w4 W5 := by rw [← hW5]; exact on_alloc _ _
      have b35 := hb4.trans (b5.mono hb4.size)
      have HP5 : Hid (Blk W5 w4.heap.size 24 #[.slice L' n c']) := hide (by rw [← hW5]; exact Blk.new w4 _ _)
      have HX5 := hide (HX3.out.below b35 HX3.out.lt)
      have HY5 := hide (HY3.out.below b35 HY3.out.lt)
      have HO5 := hide (hO.below b5)
      have HB5 := hide (HB3.out.trans (b35.mono HB3.out.size))
      have HR5 := hide hR
      have HY3L := hide HY3.out.lt
      have H35 := hide b35.size
      obtain ⟨g0, o0, y, hL, hg0, hy, hyok, hyc⟩ := (HF.out W5 HB5.out).at_ hm
      subst hL
      obtain ⟨V6, hV6⟩ : ∃ W, W5.alloc (.cells #[] 5) = W := ⟨_, rfl⟩
      have b6 : Below W5.heap.size W5 V6 := by rw [← hV6]; exact on_alloc _ _
      obtain ⟨d0, d1, d2, d3, d4, d5⟩ := NdCells.below hyc hg0 b6
      have i1 := fun W => nd_at g0 o0 n c m (m : Int) rfl hm W
      have hyl := hyok.dl
      have hyf := (HFW.out.each y (List.mem_of_getElem? hy)).d
      have hdy5 : y.dn ≤ 5000 := by omega
      have HY := hide hy
      have HYL := hide hyl
      have hE6 : Blk V6 W5.heap.size 5 #[] := by rw [← hV6]; exact Blk.new W5 _ _
      have hown6 : V6.ownsRow W5.heap.size 5 1 (.slice (some ⟨W5.heap.size, 0, none⟩) 0 0) 0 [] := ⟨rfl, .inr ⟨W5.heap.size, 0, #[], rfl, Nat.le_refl _, hE6, Nat.le_refl _, by unfold maxLen; omega, rfl, rfl⟩⟩
      have HOWN := hide hown6
      have HRD6 := hide ((hyok.d.below b6).more b6.size)
      have HB6 := hide b6
      have HS6 := hide b6.size
      have k06 := one_ (HX5.out.below b6 HX5.out.lt)
      obtain ⟨i0, hi0, hz0, hz1, hz2⟩ := info_parts infoU8
      have HI0 := hide (And.intro hi0 (And.intro hz0 (And.intro hz1 hz2)))
      obtain ⟨tn, HTN⟩ : ∃ tn : Nat, Hid (tn = max y.dn (q + nn)) := ⟨_, hide rfl⟩
      clear hO hR hb4 b5 b35 b6 hE6 hown6 hyok hyc hy hyl k0 XC
      go_wp2_with (first | rw [hW5] | rw [hV6] | (at_builtin; (refine wpList_append_any _ rfl (.tmp 54) (.tmp 60) 25 rfl W5.heap.size 5 i0 _ 1 1 Tryz.underlying25 hi0 hz0 hz1 hz2 rfl (by omega) (.slice (some ⟨W5.heap.size, 0, none⟩) 0 0) 0 [] rfl HOWN.out V6.heap.size y.D y.dn y.dc (bv y.r.data) rfl HRD6.out ?h1 ?c1 ?c2 ?c3 ?_)))
      case h1 => exact bv_one _
      case c1 => unfold maxLen; omega
      case c2 => omega
      case c3 => exact HS6.out
      intro v1 V7 hown hg hat
      obtain ⟨D7, dc7, rfl⟩ := own_slice hown
      have HO7 : Hid (V7.ownsRow W5.heap.size 5 1 (.slice D7 y.dn dc7) y.dn (bv (y.r.data ++ List.replicate (y.dn - y.dn) 0))) := hide (by rw [Nat.sub_self, List.replicate_zero, List.append_nil]; exact hown)
      have HB7 : Hid (Below W5.heap.size W5 V7) := hide (HB6.out.grown hg HS6.out (fun z hz => Nat.le_of_eq (by simpa [Value.ownBlock] using hz)))
      have htn1 : y.dn ≤ tn := by have := HTN.out; omega
      have htn2 : q + nn ≤ tn := by have := HTN.out; omega
      have htn3 : tn ≤ 5000 := by have := HTN.out; omega
      have hwq : IntKind.i64.wrap ((q : Int) + (nn : Int)) = (q : Int) + (nn : Int) := by simp [IntKind.wrap, IntKind.bits, IntKind.signed]; omega
      clear hown hg hat d0 d1 d2 d3 d4 d5 i1 k06 hmin hw0 hW5 hV6
      go_wp2_with fail
      go_loopw [14] (fun u14 wx => ∃ (j : Nat) (D : Option Addr) (dc : Nat), y.dn ≤ j ∧ j ≤ tn ∧ u14 = .slice D j dc ∧ Hid (wx.ownsRow W5.heap.size 5 1 (.slice D j dc) j (bv (y.r.data ++ List.replicate (j - y.dn) 0))) ∧ Hid (Below W5.heap.size W5 wx)) (fun u14 _ => tn - lenV u14)
      case atStart => exact ⟨y.dn, D7, dc7, Nat.le_refl _, htn1, rfl, HO7, HB7⟩
      case round =>
        clear HO7 HB7
        obtain ⟨j, D, dc, hj1, hj2, rfl, HOJ, HBJ⟩ := hrel
        by_cases hjn : j < q + nn
        · have hlt : (j : Int) < (q : Int) + (nn : Int) := by omega
          obtain ⟨V1, hV1⟩ : ∃ W, wr.alloc (.cells #[.int .u8 0] 5) = W := ⟨_, rfl⟩
          have b1 : Below wr.heap.size wr V1 := by rw [← hV1]; exact on_alloc _ _
          have hR1 : Rd V1 (some ⟨wr.heap.size, 0, none⟩) 1 [0] := rd_blk (t := 5) (by rw [← hV1]; exact Blk.new wr _ _) rfl (by rw [← hV1]; simp)
          have HO1 := hide (own_below HOJ.out b1)
          have HR1 := hide hR1
          have HS1 := hide (Nat.le_trans HBJ.out.size b1.size)
          have HB1 := hide (HBJ.out.trans (b1.mono HBJ.out.size))
          obtain ⟨hi0, hz0, hz1, hz2⟩ := HI0.out
          clear b1 hR1
          go_wp2_with (first | rw [hV1] | (at_builtin; (refine wpList_append_any _ rfl (.tmp 68) (.tmp 69) 25 rfl W5.heap.size 5 i0 _ 1 1 Tryz.underlying25 hi0 hz0 hz1 hz2 rfl (by omega) (.slice D j dc) j (bv (y.r.data ++ List.replicate (j - y.dn) 0)) rfl HO1.out V1.heap.size (some ⟨wr.heap.size, 0, none⟩) 1 1 (bv [0]) rfl HR1.out ?g1 ?g2 ?g3 ?g4 ?_)))
          case g1 => exact bv_one _
          case g2 => unfold maxLen; omega
          case g3 => omega
          case g4 => exact HS1.out
          intro v2 V2 hown hg hat
          obtain ⟨D2, dc2, rfl⟩ := own_slice hown
          have HO2 : Hid (V2.ownsRow W5.heap.size 5 1 (.slice D2 (j + 1) dc2) (j + 1) (bv (y.r.data ++ List.replicate (j + 1 - y.dn) 0))) := hide (by
            have e : bv (y.r.data ++ List.replicate (j + 1 - y.dn) 0) = bv (y.r.data ++ List.replicate (j - y.dn) 0) ++ bv [0] := by
              rw [show j + 1 - y.dn = (j - y.dn) + 1 by omega, List.replicate_succ', ← List.append_assoc]
              simp [bv]
            rw [e]; exact hown)
          have HB2 : Hid (Below W5.heap.size W5 V2) := hide (HB1.out.grown hg HS1.out (fun z hz => by
            cases D with
            | none => simp [Value.ownBlock] at hz
            | some a =>
              have h1 : a.block = z := by simpa [Value.ownBlock] using hz
              have h2 := (own_base HOJ.out a rfl).1
              omega))
          clear hown hg hat HOJ HBJ HO1 HR1 HB1
          go_wp2_with fail
          go_roundw
          case rel => exact ⟨j + 1, D2, dc2, by omega, by omega, rfl, HO2, HB2⟩
          case measure => simp [lenV]; omega
        · have hlt : ¬ ((j : Int) < (q : Int) + (nn : Int)) := by omega
          have hjt : j = tn := by have := HTN.out; omega
          subst hjt
          obtain ⟨gd, hDd, hgd, hgdl⟩ : ∃ gd, D = some ⟨gd, 0, none⟩ ∧ W5.heap.size ≤ gd ∧ gd < wr.heap.size := by
            obtain ⟨g', cap, cur, e, hb, hh, _⟩ := HOJ.out.2.resolve_left (fun ⟨e, h0⟩ => by omega)
            injection e with e1 e2 e3
            refine ⟨g', e1, hb, ?_⟩
            rcases Nat.lt_or_ge g' wr.heap.size with h | h
            · exact h
            · rw [Array.getElem?_eq_none h] at hh; cases hh
          subst hDd
          have HO0 : Hid (wr.ownsRow W5.heap.size 5 1 (.slice (some ⟨gd, 0, none⟩) j dc) j (bv (fillP (y.r.data ++ List.replicate (j - y.dn) 0) q b 0))) := hide (by rw [fill_zero]; exact HOJ.out)
          have hdl : (y.r.data ++ List.replicate (j - y.dn) 0).length = j := by rw [List.length_append, List.length_replicate, HYL.out]; omega
          have HDL := hide hdl
          obtain ⟨DS, hDS⟩ : ∃ DS, y.r.data ++ List.replicate (j - y.dn) 0 = DS := ⟨_, rfl⟩
          rw [hDS] at HO0 HDL
          have HDS := hide hDS
          clear hdl hDS HOJ
          go_wp2_with fail
          go_loopw [15] (fun u15 wx => ∃ i : Nat, i ≤ nn ∧ u15 = .int .i64 (i : Int) ∧ Hid (wx.ownsRow W5.heap.size 5 1 (.slice (some ⟨gd, 0, none⟩) j dc) j (bv (fillP DS q b i))) ∧ Hid (Below W5.heap.size W5 wx)) (fun u15 _ => nn - (intOf u15).toNat)
          case atStart => exact ⟨0, Nat.zero_le _, rfl, HO0, HBJ⟩
          case round =>
            clear HO0 HBJ
            obtain ⟨i, hi, rfl, HOI, HBI⟩ := hrel
            by_cases hin : i < nn
            · have hlt2 : (i : Int) < (nn : Int) := by omega
              have HBw := hide (HB5.out.trans (HBI.out.mono HB5.out.size))
              obtain ⟨gb, ob, hAb, hgb, hcb⟩ := cells_of (HA.out _ HBw.out) (by omega) (by rw [bv_length, HBL.out]; omega)
              subst hAb
              obtain ⟨v, hv⟩ : ∃ v, b[i]? = some v := ⟨_, List.getElem?_eq_getElem (by rw [HBL.out]; omega)⟩
              have hcv := hcb i (.int .u8 ((v.toNat : Nat) : Int)) (by simp [bv, hv])
              have j1 := fun W => u8_at gb ob bn bc i (i : Int) rfl (by omega) W
              have hwi : IntKind.i64.wrap ((q : Int) + (i : Int)) = (q : Int) + (i : Int) := by simp [IntKind.wrap, IntKind.bits, IntKind.signed]; omega
              have j2 := fun W => u8_at gd 0 j dc (q + i) ((q : Int) + (i : Int)) (by omega) (by omega) W
              rw [Nat.zero_add] at j2
              have hfz := own_frozen HOI.out (q + i)
              have hfl : (fillP DS q b i).length = j := by rw [fill_length DS q b i (by rw [HBL.out]; omega) (by rw [HDL.out]; omega), HDL.out]
              obtain ⟨u, hu⟩ : ∃ u, (fillP DS q b i)[q + i]? = some u := ⟨_, List.getElem?_eq_getElem (by omega)⟩
              have hcd := (World.ownsRow.cellAt HOI.out (q + i) (by omega)).trans (show (bv (fillP DS q b i))[q + i]? = some (Value.int .u8 ((u.toNat : Nat) : Int)) from by simp [bv, hu])
              have HO2 := (World.ownsRow.stored HOI.out (q + i) (.int .u8 ((v.toNat : Nat) : Int))).1
              have hset : (bv (fillP DS q b i)).set (q + i) (.int .u8 ((v.toNat : Nat) : Int)) = bv (fillP DS q b (i + 1)) := by
                rw [← fill_step DS q b i v hv (by rw [HDL.out]; omega)]
                simp only [bv, List.map_set]
              rw [hset] at HO2
              have HOS := hide HO2
              have HBS := hide (HBI.out.setCell (p := ⟨gd, q + i, none⟩) (by show W5.heap.size ≤ gd; exact hgd) (.int .u8 ((v.toNat : Nat) : Int)))
              have hgl2 := (own_base HOI.out _ rfl).2
              clear HO2 hset hfl hu hcb hgb hv
              go_wp2_with fail
              go_roundw
              case rel => exact ⟨i + 1, by omega, by go_num, HOS, HBS⟩
              case measure => simp [intOf]; omega
            · have hlt2 : ¬ ((i : Int) < (nn : Int)) := by omega
              have hie : i = nn := by omega
              subst hie
              have hput : fillP DS q b i = putB y.r.data q b := by
                rw [← HDS.out, ← HYL.out]
                exact fill_put y.r.data b q j i (by omega) (by rw [HBL.out]; exact HNN.out) (by rw [HYL.out]; exact HTN.out)
              have hO9 := HOI.out
              rw [hput] at hO9
              have hP9 := HP5.out.below HBI.out HP5.out.lt
              have hY9 := HY5.out.below HBI.out HY5.out.lt
              have hO10 := HO5.out.below HBI.out
              have hB9 := HB5.out.trans (HBI.out.mono HB5.out.size)
              obtain ⟨g, hLg, hgC, hgl⟩ := HO5.out.addr (by omega)
              subst hLg
              obtain ⟨x, hx⟩ : ∃ x, X'[m]? = some x := ⟨_, List.getElem?_eq_getElem (by have := HO5.out.len; omega)⟩
              have hxm := List.mem_of_getElem? hx
              have hxok := hO10.ok x hxm
              have h35 := H35.out
              have h3l := HY3L.out
              have h3b := HB3.out.size
              have hgx : w4.heap.size ≠ g := by
                have := own_blk_ne HO5.out.own HP5.out (by decide)
                intro e
                exact this (by rw [e]; rfl)
              have hplt := HP5.out.lt
              have hF11 := hO10.setfs HB3.out.size (k := m) (j := 3) (x' := ⟨{ x.r with data := putB y.r.data q b }, some ⟨gd, 0, none⟩, j, dc, x.M, x.mn, x.mc⟩) (v := .slice (some ⟨gd, 0, none⟩) j dc) hm (by omega) (fun z hz => by rw [hx] at hz; injection hz with hz; subst hz; rfl)
                ⟨Reads.of_own hO9, hxok.n⟩ ⟨fun hn ad e => by injection e with e; subst e; show gd ≠ g; omega, hO10.off _ rfl x hxm⟩
              obtain ⟨hml', hxe⟩ := List.getElem?_eq_some_iff.1 hx
              have hcx := (World.ownsRow.cellAt hO10.own (m * 6 + 3) (by omega)).trans (show (dcs X')[m * 6 + 3]? = some (Value.slice x.D x.dn x.dc) from by rw [dcs_at X' m 3 hml' (by omega), hxe]; rfl)
              have hfx := own_frozen hO10.own (m * 6 + 3)
              have j3 := fun W => nd_at0 g n c' m (m : Int) rfl hm W
              obtain ⟨W11, hW11⟩ : ∃ W, wr.setCell ⟨g, m * 6 + 3, none⟩ (.slice (some ⟨gd, 0, none⟩) j dc) = W := ⟨_, rfl⟩
              rw [hW11] at hF11
              have hP11 : Blk W11 w4.heap.size 24 #[.slice (some ⟨g, 0, none⟩) n c'] := by rw [← hW11]; exact hP9.far (p := ⟨g, m * 6 + 3, none⟩) hgx _
              have hY11 : Blk W11 (w.heap.size + 1) 24 #[.slice none 0 0] := by rw [← hW11]; exact hY9.far (p := ⟨g, m * 6 + 3, none⟩) (by show w.heap.size + 1 ≠ g; omega) _
              have hB11 : Below w.heap.size w W11 := by rw [← hW11]; exact hB9.setCell (p := ⟨g, m * 6 + 3, none⟩) (by show w.heap.size ≤ g; omega) _
              have hoff := hO10.offB (g := w.heap.size + 1) (by omega) (by omega)
              have hF12 := hF11.far (p := ⟨w.heap.size + 1, 0, none⟩) (L := some ⟨g, 0, none⟩) ⟨hoff.1, fun z hz => by
                rcases List.mem_or_eq_of_mem_set hz with hz | rfl
                · exact hoff.2 z hz
                · exact ⟨fun hn ad e => by injection e with e; subst e; show gd ≠ w.heap.size + 1; omega, (hoff.2 x hxm).2⟩⟩ (.slice (some ⟨g, 0, none⟩) n c')
              have hls : nds (X'.set m ⟨{ x.r with data := putB y.r.data q b }, some ⟨gd, 0, none⟩, j, dc, x.M, x.mn, x.mc⟩) = modA (nds X) (m : Int) fun n => { n with data := putB n.data q b } := by
                have hxy : x.r = y.r := by
                  have h1 := nds_at hx
                  rw [HR5.out, nds_at HY.out] at h1
                  exact h1.symm
                unfold modA
                rw [nds_set, HR5.out, nds_at HY.out, hxy]
                rfl
              have hTe : T = (modA (nds X) (m : Int) fun n => { n with data := putB n.data q b }, (i : Int), 0) := by
                rw [← HT.out, wr_4 (rfp HH.out HE.out) HH1.out HNB.out H4.out, Int.toNat_natCast, show min (b.length : Int) (4096 - (q : Int)) = (i : Int) by have := HBL.out; have := HNN.out; omega]
              have hsz : (W11.setCell ⟨w.heap.size + 1, 0, none⟩ (.slice (some ⟨g, 0, none⟩) n c')).heap.size = W11.heap.size := by simp
              have HEND : Hid (FsR (W11.setCell ⟨w.heap.size + 1, 0, none⟩ (.slice (some ⟨g, 0, none⟩) n c')) (W11.setCell ⟨w.heap.size + 1, 0, none⟩ (.slice (some ⟨g, 0, none⟩) n c')).heap.size (some ⟨g, 0, none⟩) n (X'.set m ⟨{ x.r with data := putB y.r.data q b }, some ⟨gd, 0, none⟩, j, dc, x.M, x.mn, x.mc⟩) ∧ Below w.heap.size w (W11.setCell ⟨w.heap.size + 1, 0, none⟩ (.slice (some ⟨g, 0, none⟩) n c'))) := hide ⟨by rw [hsz]; exact hF12, hB11.setCell (p := ⟨w.heap.size + 1, 0, none⟩) (by show w.heap.size ≤ w.heap.size + 1; omega) _⟩
              have HLS := hide hls
              have e1 := one_ hP9
              have e2 := one_ hP11
              have e3 := one_ hY11
              have e4 := hY11.frozen 0
              have e5 := hY11.lt
              subst hTe
              clear hput hO9 hP9 hY9 hO10 hB9 hx hxm hxok hF11 hml' hxe hP11 hY11 hB11 hoff hF12 hls hsz h35 h3l h3b
              go_wp2_with (rw [hW11])
              refine bodyPost_ret (v := .tuple #[.agg #[.slice (some ⟨g, 0, none⟩) n c'], .int .i64 (i : Int), .int .i64 0]) (by simp only [results, Tryz.results19]; go_simp) rfl ?_
              first | exact ⟨_, _, _, _, rfl, HEND.out.1, HLS.out, HEND.out.2⟩ | exact ⟨_, _, _, rfl, _, HEND.out.1, HLS.out, HEND.out.2⟩
    · have hEb : (E != 0) = true := bne_iff_ne.2 h0
      have H0 := hide h0
      clear h0
      have hTe : T = (nds X, 0, E) := by rw [← HT.out]; exact rwr_1 HH.out HE.out H0.out
      subst hTe
      have k5 := one_ HX3.out
      have k6 := HY3.out.frozen 0
      have k7 := one_ HY3.out
      have k8 := HY3.out.lt
      have HBE : Hid (Below w.heap.size w (w3.setCell ⟨w.heap.size + 1, 0, none⟩ (.slice L n c))) := hide (HB3.out.setCell (p := ⟨w.heap.size + 1, 0, none⟩) (by show w.heap.size ≤ w.heap.size + 1; omega) _)
      clear HT
      go_wp2_with fail
      refine bodyPost_ret (v := .tuple #[.agg #[.slice L n c], .int .i64 0, .int .i64 E]) (by simp only [results, Tryz.results19]; go_simp) rfl ?_
      first | exact ⟨L, n, c, X, rfl, HF.out _ HBE.out, rfl, HBE.out⟩ | exact ⟨L, n, c, rfl, X, HF.out _ HBE.out, rfl, HBE.out⟩
end Go.Proofs.YtlcoapignfmgcaaGreatDoor
