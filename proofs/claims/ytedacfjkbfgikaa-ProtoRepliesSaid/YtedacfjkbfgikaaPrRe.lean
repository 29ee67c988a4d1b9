/- proto.EncodeRep. -/
import Derived.Test.YtedacfjkbfgikaaPrRd
namespace Go.Proofs.Ytedacfjkbfgikaa
open Go.RowKit
set_option linter.unusedVariables false
theorem rep_look0 (op : Int) (w : World) (h1 : -9223372036854775808 ≤ op) (h2 : op ≤ 9223372036854775807) :
    Calls Try.prog 73 #[] w fun e w' => e = .returned (.map (some w.heap.size)) ∧ Below w.heap.size w w' ∧ (Instr.lookup 57 (.map (some w.heap.size)) (.int .i64 op) true).run Try.prog w' = .ok (.tuple #[.int .i64 (repU op).1, .bool (repU op).2]) w' :=
  (rep_look op w h1 h2).mono fun e w' ⟨a, b, c⟩ => ⟨a, b, c 0⟩
set_option maxRecDepth 100000 in
set_option maxHeartbeats 4000000 in
theorem er_no (op : Int) (r : RP) (D A : Option Addr) (dn dc an ac : Nat) (w : World) (h4 : Reads w w.heap.size 1 A an (svs r.names)) (hdl : r.d.length = dn) (ho : i64ok op) (hn : dn ≤ 100000 ∧ an ≤ 1000) (hno : ((repU op).2 && r.ok (repU op).1) = false) :
    Calls Try.prog 20 #[.int .i64 op, r.v D A dn dc an ac] w fun e w' => e = .returned (.tuple #[.slice none 0 0, .int .i64 2]) ∧ Below w.heap.size w w' := by
  have hb := (Below.refl w.heap.size w).alloc (Nat.le_refl _) (.cells (pcs r D A dn dc an ac) 43)
  have hk := Blk.new w 43 (pcs r D A dn dc an ac)
  have hs : (w.alloc (.cells (pcs r D A dn dc an ac) 43)).heap.size = w.heap.size + 1 := by simp
  have XR := hide (rep_look0 op (w.alloc (.cells (pcs r D A dn dc an ac) 43)) ho.1 ho.2)
  rw [hs] at XR
  have XC := hide (fun u W (hW : Below w.heap.size w W) => checkr_any u r D A dn dc an ac W ((h4.below hW).more hW.size) hdl hn)
  generalize repU op = q at *
  obtain ⟨q1, q2⟩ := q
  dsimp only at XR hno
  have HK := hide hk
  have HB := hide hb
  have hlt := hk.lt
  clear h4 hk hb hs
  unfold pcs at XR
  unfold RP.v at XC ⊢
  go_enter Try.func20, Try.ntmps20
  go_wp2_with fail
  refine XR.out.mono ?_
  rintro e w1 ⟨rfl, hb1, lx⟩
  have hs1 : (w.alloc (.cells (pcs r D A dn dc an ac) 43)).heap.size = w.heap.size + 1 := by simp
  have HB1 := hide (HB.out.trans ((hs1 ▸ hb1 : Below (w.alloc (.cells (pcs r D A dn dc an ac) 43)).heap.size _ w1).mono (by omega)))
  have HK1 := hide (HK.out.below (hs1 ▸ hb1 : Below (w.alloc (.cells (pcs r D A dn dc an ac) 43)).heap.size _ w1) hlt)
  have hl1 := HK1.out.lt
  clear hb1 XR hs1
  cases q2 with
  | false =>
    go_wp2_with fail
    refine bodyPost_ret (v := .tuple #[.slice none 0 0, .int .i64 2]) (by simp only [results, Try.results20]; go_simp) rfl ⟨rfl, HB1.out⟩
  | true =>
    have hk1 := HK1.out
    unfold pcs at hk1
    obtain ⟨x0, x1, x2, x3, x4, x5⟩ := blk6 hk1
    have XC1 := hide (XC.out q1 w1 HB1.out)
    rw [show r.ok q1 = false by simpa using hno] at XC1
    clear hk1 XC
    go_wp2_with fail
    refine XC1.out.mono ?_
    rintro e w2 ⟨rfl, hb2⟩
    have HB2 := hide (HB1.out.trans (hb2.mono HB1.out.size))
    clear hb2 XC1
    go_wp2_with fail
    refine bodyPost_ret (v := .tuple #[.slice none 0 0, .int .i64 2]) (by simp only [results, Try.results20]; go_simp) rfl ⟨rfl, HB2.out⟩
set_option maxRecDepth 100000 in
set_option maxHeartbeats 8000000 in
theorem er_yes (op : Int) (r : RP) (D A : Option Addr) (dn dc an ac : Nat) (w : World) (h3 : Reads w w.heap.size 1 D dn (bv r.d)) (h4 : Reads w w.heap.size 1 A an (svs r.names)) (ho : i64ok op) (hn : dn ≤ 100000 ∧ an ≤ 1000) (hq : (repU op).2 = true) (hok : r.ok (repU op).1 = true) :
    Calls Try.prog 20 #[.int .i64 op, r.v D A dn dc an ac] w fun e w' => ∃ A' n' c', e = .returned (.tuple #[.slice A' n' c', .int .i64 0]) ∧ OwB w.heap.size w' A' n' c' (encP (repU op).1 r) ∧ Below w.heap.size w w' := by
  have hdl : r.d.length = dn := by have := h3.1; rw [bv_length] at this; omega
  have hb := (Below.refl w.heap.size w).alloc (Nat.le_refl _) (.cells (pcs r D A dn dc an ac) 43)
  have hk := Blk.new w 43 (pcs r D A dn dc an ac)
  have hs : (w.alloc (.cells (pcs r D A dn dc an ac) 43)).heap.size = w.heap.size + 1 := by simp
  have XR := hide (rep_look0 op (w.alloc (.cells (pcs r D A dn dc an ac) 43)) ho.1 ho.2)
  rw [hs, hq] at XR
  have XC := hide (fun u W (hW : Below w.heap.size w W) => checkr_any u r D A dn dc an ac W ((h4.below hW).more hW.size) hdl hn)
  generalize (repU op).1 = q1 at *
  have HS := hide (rok_small hok)
  have hy := err_byte HS.out
  have HR0 : Hid (∀ B W, Below w.heap.size w W → w.heap.size < B → Blk W w.heap.size 43 (pcs r D A dn dc an ac) → RpAt B w.heap.size r W) := hide (fun B W hW hB hK => ⟨D, dn, dc, A, an, ac, hK, hB, (h3.below hW).more (by omega), (h4.below hW).more (by omega)⟩)
  have HE : Hid (encP q1 r = [opB r.err] ++ catP (encR (r.eff q1) r)) := hide rfl
  have XE := hide (fun gf w0 B g (W : World) h => eachW_any gf w0 B g w.heap.size r (r.eff q1) [opB r.err] (by simp) HS.out W h)
  generalize opB r.err = ob at *
  obtain ⟨u', hu', hz⟩ : ∃ u', r.eff q1 = u' ∧ (((r.err != 0) = false ∧ u' = q1) ∨ ((r.err != 0) = true ∧ u' = 0)) := by
    unfold RP.eff
    by_cases h : r.err = 0
    · exact ⟨q1, by simp [h], .inl ⟨by simp [h], rfl⟩⟩
    · exact ⟨0, by simp [h], .inr ⟨by simp [h], rfl⟩⟩
  rw [hu'] at HE XE
  have HK := hide hk
  have HB := hide hb
  have hlt := hk.lt
  clear h3 h4 hk hb hs hu'
  unfold pcs at XR
  unfold RP.v at XC ⊢
  go_enter Try.func20, Try.ntmps20
  go_wp2_with fail
  refine XR.out.mono ?_
  rintro e w1 ⟨rfl, hb1, lx⟩
  have hs1 : (w.alloc (.cells (pcs r D A dn dc an ac) 43)).heap.size = w.heap.size + 1 := by simp
  have HB1 := hide (HB.out.trans ((hs1 ▸ hb1 : Below (w.alloc (.cells (pcs r D A dn dc an ac) 43)).heap.size _ w1).mono (by omega)))
  have HK1 := hide (HK.out.below (hs1 ▸ hb1 : Below (w.alloc (.cells (pcs r D A dn dc an ac) 43)).heap.size _ w1) hlt)
  have hl1 := HK1.out.lt
  clear hb1 XR hs1
  have hk1 := HK1.out
  unfold pcs at hk1
  obtain ⟨x0, x1, x2, x3, x4, x5⟩ := blk6 hk1
  have XC1 := hide (XC.out q1 w1 HB1.out)
  rw [hok] at XC1
  clear hk1 XC hok hq
  go_wp2_with fail
  refine XC1.out.mono ?_
  rintro e w2 ⟨rfl, hb2⟩
  have HB2 := hide (HB1.out.trans (hb2.mono HB1.out.size))
  have HK2 := hide (HK1.out.below hb2 hl1)
  have hl2 := HK2.out.lt
  have hs2 := HB2.out.size
  have k0 := HK2.out.cell 0
  unfold pcs at k0
  simp only [List.getElem?_toArray, List.getElem?_cons_zero] at k0
  clear hb2 XC1 x0 x1 x2 x3 x4 x5 HB1 HK1 lx HB HK
  have s1 : (w2.alloc (.cells #[.int .u8 ((ob.toNat : Nat) : Int)] 5)).heap.size = w2.heap.size + 1 := by simp
  have s2 : ((w2.alloc (.cells #[.int .u8 ((ob.toNat : Nat) : Int)] 5)).alloc (.cells #[.slice (some ⟨w2.heap.size, 0, none⟩) 1 1] 55)).heap.size = w2.heap.size + 2 := by simp
  have g1 := Blk.new w2 5 #[.int .u8 ((ob.toNat : Nat) : Int)]
  have g2 := Blk.new (w2.alloc (.cells #[.int .u8 ((ob.toNat : Nat) : Int)] 5)) 55 #[.slice (some ⟨w2.heap.size, 0, none⟩) 1 1]
  have g3 := Blk.new ((w2.alloc (.cells #[.int .u8 ((ob.toNat : Nat) : Int)] 5)).alloc (.cells #[.slice (some ⟨w2.heap.size, 0, none⟩) 1 1] 55)) 62 (rowW (w2.heap.size + 1) w.heap.size)
  rw [s1] at g2
  rw [s2] at g3
  have G1 := (g1.alloc (.cells #[.slice (some ⟨w2.heap.size, 0, none⟩) 1 1] 55)).alloc (.cells (rowW (w2.heap.size + 1) w.heap.size) 62)
  have G2 := g2.alloc (.cells (rowW (w2.heap.size + 1) w.heap.size) 62)
  have b1 := (((Below.refl w2.heap.size w2).alloc (Nat.le_refl _) (.cells #[.int .u8 ((ob.toNat : Nat) : Int)] 5)).alloc (by omega) (.cells #[.slice (some ⟨w2.heap.size, 0, none⟩) 1 1] 55)).alloc (by omega) (.cells (rowW (w2.heap.size + 1) w.heap.size) 62)
  have HX := hide (XE.out _ w2 w2.heap.size (w2.heap.size + 1) _ ⟨⟨some ⟨w2.heap.size, 0, none⟩, 1, 1, G2, G1.own (base := w2.heap.size) (cap := 1) (Nat.le_refl _) (by unfold maxLen; omega) rfl⟩,
      HR0.out _ _ (HB2.out.trans (b1.mono hs2)) hl2 (HK2.out.below b1 hl2), by omega, b1.size, b1, g3⟩)
  clear G1 G2 g1 g2 g3 b1 s1 s2 XE HR0
  unfold rowW capsQ at HX
  rcases hz with ⟨hz, rfl⟩ | ⟨hz, rfl⟩
  all_goals
    go_wp2_with fail
    refine HX.out.mono ?_
    rintro e w6 ⟨rfl, h6⟩
    obtain ⟨A9, n9, c9, hk9, ho9⟩ := h6.1
    have k9 := hk9.cell 0
    simp only [List.getElem?_toArray, List.getElem?_cons_zero] at k9
    have HO9 := hide ho9
    have HB6 := hide h6.2.2.2.2.1
    clear hk9 ho9 HX h6
    go_wp2_with fail
    refine bodyPost_ret (v := .tuple #[.slice A9 n9 c9, .int .i64 0]) (by simp only [results, Try.results20]; go_simp) rfl ⟨A9, n9, c9, rfl, by rw [HE.out]; exact own_more HO9.out hs2, HB2.out.trans (HB6.out.mono hs2)⟩
end Go.Proofs.Ytedacfjkbfgikaa
