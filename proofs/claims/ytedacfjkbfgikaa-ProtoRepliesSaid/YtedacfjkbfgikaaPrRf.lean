/- proto.DecodeRep. -/
import Derived.Test.YtedacfjkbfgikaaPrRe
import Derived.Test.YtedacfjkbfgikaaPrDe
namespace Go.Proofs.Ytedacfjkbfgikaa
open Go.RowKit
set_option linter.unusedVariables false
def decW (u O : Int) (rest : LB) : Option RP := if ((!(decY u O (rest, false)).2.2 && (decY u O (rest, false)).2.1.isEmpty) && (decY u O (rest, false)).1.ok u) = true then some (decY u O (rest, false)).1 else none
def decR (q : Int × Bool) (bs : LB) : Option RP := if q.2 = true then (match bs with | [] => none | b :: rest => decW (if (b.toNat : Int) = 0 then q.1 else 0) (b.toNat : Int) rest) else none
def zw : Value := .agg #[.int .i64 0, .int .i64 0, .int .i64 0, .int .i64 0, .slice none 0 0, .slice none 0 0]
def DecREnd (c : Int) (R : Option RP) (w : World) (e : Ending) (w' : World) : Prop := ∃ D dn dc A an ac, e = .returned (.tuple #[(R.getD (zP 0)).v D A dn dc an ac, .int .i64 (if R.isSome then 0 else c)]) ∧
  w'.ownsRow w.heap.size 5 1 (.slice D dn dc) dn (bv (R.getD (zP 0)).d) ∧ w'.ownsRow w.heap.size 9 1 (.slice A an ac) an (svs (R.getD (zP 0)).names) ∧ Below w.heap.size w w'
theorem decr_none {c : Int} {R : Option RP} (h : R = none) {w w' : World} (hb : Below w.heap.size w w') : DecREnd c R w (.returned (.tuple #[zw, .int .i64 c])) w' := by
  subst h
  exact ⟨none, 0, 0, none, 0, 0, rfl, World.ownsRow_nil _ _ _ _, World.ownsRow_nil _ _ _ _, hb⟩
theorem below6 {w0 w : World} {b : Nat} (h : Below b w0 w) (v0 v1 v2 v3 v4 v5 : Value) : Below b w0 ((((((w.setCell ⟨b, 0, none⟩ v0).setCell ⟨b, 1, none⟩ v1).setCell ⟨b, 2, none⟩ v2).setCell ⟨b, 3, none⟩ v3).setCell ⟨b, 4, none⟩ v4).setCell ⟨b, 5, none⟩ v5) := (Below.setCell (Below.setCell (Below.setCell (Below.setCell (Below.setCell (Below.setCell h (p := ⟨b, 0, none⟩) (by exact Nat.le_refl _) v0) (p := ⟨b, 1, none⟩) (by exact Nat.le_refl _) v1) (p := ⟨b, 2, none⟩) (by exact Nat.le_refl _) v2) (p := ⟨b, 3, none⟩) (by exact Nat.le_refl _) v3) (p := ⟨b, 4, none⟩) (by exact Nat.le_refl _) v4) (p := ⟨b, 5, none⟩) (by exact Nat.le_refl _) v5)
theorem blk6s {w : World} {b : Nat} {t : TypeId} {u0 u1 u2 u3 u4 u5 : Value} (h : Blk w b t #[u0, u1, u2, u3, u4, u5]) (v0 v1 v2 v3 v4 v5 : Value) : Blk ((((((w.setCell ⟨b, 0, none⟩ v0).setCell ⟨b, 1, none⟩ v1).setCell ⟨b, 2, none⟩ v2).setCell ⟨b, 3, none⟩ v3).setCell ⟨b, 4, none⟩ v4).setCell ⟨b, 5, none⟩ v5) b t #[v0, v1, v2, v3, v4, v5] := by
  have k0 : Blk _ b t #[v0, u1, u2, u3, u4, u5] := h.set_ 0 v0
  have k1 : Blk _ b t #[v0, v1, u2, u3, u4, u5] := k0.set_ 1 v1
  have k2 : Blk _ b t #[v0, v1, v2, u3, u4, u5] := k1.set_ 2 v2
  have k3 : Blk _ b t #[v0, v1, v2, v3, u4, u5] := k2.set_ 3 v3
  have k4 : Blk _ b t #[v0, v1, v2, v3, v4, u5] := k3.set_ 4 v4
  have k5 : Blk _ b t #[v0, v1, v2, v3, v4, v5] := k4.set_ 5 v5
  exact k5
theorem fro6 {w : World} {g : Nat} {t : TypeId} {cs : Array Value} (H : Blk w g t cs) : w.frozen? ⟨g, 0, none⟩ = false ∧ w.frozen? ⟨g, 1, none⟩ = false ∧ w.frozen? ⟨g, 2, none⟩ = false ∧ w.frozen? ⟨g, 3, none⟩ = false ∧ w.frozen? ⟨g, 4, none⟩ = false ∧ w.frozen? ⟨g, 5, none⟩ = false :=
  ⟨H.frozen 0, H.frozen 1, H.frozen 2, H.frozen 3, H.frozen 4, H.frozen 5⟩
theorem own6 {w : World} {B b : Nat} {e : TypeId} {n : Nat} {v : Value} {xs : List Value} (h : w.ownsRow B e 1 v n xs) (hb : b < B) (v0 v1 v2 v3 v4 v5 : Value) : (((((((w.setCell ⟨b, 0, none⟩ v0).setCell ⟨b, 1, none⟩ v1).setCell ⟨b, 2, none⟩ v2).setCell ⟨b, 3, none⟩ v3).setCell ⟨b, 4, none⟩ v4).setCell ⟨b, 5, none⟩ v5)).ownsRow B e 1 v n xs := (own_far (own_far (own_far (own_far (own_far (own_far h (p := ⟨b, 0, none⟩) hb v0) (p := ⟨b, 1, none⟩) hb v1) (p := ⟨b, 2, none⟩) hb v2) (p := ⟨b, 3, none⟩) hb v3) (p := ⟨b, 4, none⟩) hb v4) (p := ⟨b, 5, none⟩) hb v5)
theorem decY_le (u O : Int) (st : St) : (decY u O st).1.d.length ≤ 65535 ∧ (decY u O st).1.names.length ≤ 255 := by
  have A : ∀ (k : Int) (s : LB × St) (s' : St), s.1.length ≤ 65535 → (on u k s ([], s')).1.length ≤ 65535 := fun k s s' h => by
    unfold on; split
    · simp
    · exact h
  have L : ∀ {α : Type} (k : Int) (s : List α × St) (s' : St), s.1.length ≤ 255 → (on u k s ([], s')).1.length ≤ 255 := fun k s s' h => by
    unfold on; split
    · simp
    · exact h
  exact ⟨A _ _ _ (txtS_le _), L _ _ _ (listS_le _ _)⟩
set_option maxRecDepth 100000 in
set_option maxHeartbeats 4000000 in
theorem dr_unk (op : Int) (A : Option Addr) (n c : Nat) (bs : LB) (w : World) (ho : i64ok op) (hq : (repU op).2 = false) : Calls Try.prog 22 #[.int .i64 op, .slice A n c] w fun e w' => DecREnd 2 (decR (repU op) bs) w e w' := by
  have hR : decR (repU op) bs = none := by unfold decR; rw [hq]; rfl
  generalize decR (repU op) bs = R at *
  have XR := hide (rep_look0 op (w.alloc (.cells #[.int .i64 0, .int .i64 0, .int .i64 0, .int .i64 0, .slice none 0 0, .slice none 0 0] 43)) ho.1 ho.2)
  have hs : (w.alloc (.cells #[.int .i64 0, .int .i64 0, .int .i64 0, .int .i64 0, .slice none 0 0, .slice none 0 0] 43)).heap.size = w.heap.size + 1 := by simp
  rw [hs] at XR
  have HZ := hide (Blk.new w 43 #[.int .i64 0, .int .i64 0, .int .i64 0, .int .i64 0, .slice none 0 0, .slice none 0 0])
  have HB := hide ((Below.refl w.heap.size w).alloc (Nat.le_refl _) (.cells #[.int .i64 0, .int .i64 0, .int .i64 0, .int .i64 0, .slice none 0 0, .slice none 0 0] 43))
  rw [hq] at XR
  generalize (repU op).1 = q1 at *
  clear hq
  go_enter Try.func22, Try.ntmps22
  go_wp2_with fail
  refine XR.out.mono ?_
  rintro e w1 ⟨rfl, hb1, lx⟩
  have HB1 := hide (HB.out.trans (hb1.mono (by omega)))
  have HZ1 := hide (HZ.out.below hb1 (by omega))
  have hl1 := HZ1.out.lt
  clear hb1 XR HZ HB hs
  obtain ⟨z0, z1, z2, z3, z4, z5⟩ := blk6 HZ1.out
  obtain ⟨f0, f1, f2, f3, f4, f5⟩ := fro6 HZ1.out
  have HE : Hid (DecREnd 2 R w (.returned (.tuple #[zw, .int .i64 2])) ((((((w1.setCell ⟨w.heap.size, 0, none⟩ (.int .i64 0)).setCell ⟨w.heap.size, 1, none⟩ (.int .i64 0)).setCell ⟨w.heap.size, 2, none⟩ (.int .i64 0)).setCell ⟨w.heap.size, 3, none⟩ (.int .i64 0)).setCell ⟨w.heap.size, 4, none⟩ (.slice none 0 0)).setCell ⟨w.heap.size, 5, none⟩ (.slice none 0 0))) := hide (decr_none (by exact hR) (below6 HB1.out _ _ _ _ _ _))
  have HZe := hide (blk6s HZ1.out (.int .i64 0) (.int .i64 0) (.int .i64 0) (.int .i64 0) (.slice none 0 0) (.slice none 0 0))
  unfold zw at HE
  generalize hWE : ((((((w1.setCell ⟨w.heap.size, 0, none⟩ (.int .i64 0)).setCell ⟨w.heap.size, 1, none⟩ (.int .i64 0)).setCell ⟨w.heap.size, 2, none⟩ (.int .i64 0)).setCell ⟨w.heap.size, 3, none⟩ (.int .i64 0)).setCell ⟨w.heap.size, 4, none⟩ (.slice none 0 0)).setCell ⟨w.heap.size, 5, none⟩ (.slice none 0 0)) = WE at HE HZe
  clear hR
  go_wp2_with fail
  clear hWE z0 z1 z2 z3 z4 z5 f0 f1 f2 f3 f4 f5
  obtain ⟨z0, z1, z2, z3, z4, z5⟩ := blk6 HZe.out
  refine bodyPost_ret (v := .tuple #[.agg #[.int .i64 0, .int .i64 0, .int .i64 0, .int .i64 0, .slice none 0 0, .slice none 0 0], .int .i64 2]) (by simp only [results, Try.results22]; go_simp) rfl HE.out
set_option maxRecDepth 100000 in
set_option maxHeartbeats 4000000 in
theorem dr_nil (op : Int) (A : Option Addr) (c : Nat) (w : World) (ho : i64ok op) (hq : (repU op).2 = true) : Calls Try.prog 22 #[.int .i64 op, .slice A 0 c] w fun e w' => DecREnd 5 (decR (repU op) []) w e w' := by
  have hR : decR (repU op) [] = none := by unfold decR; rw [hq]; rfl
  generalize decR (repU op) [] = R at *
  have XR := hide (rep_look0 op (w.alloc (.cells #[.int .i64 0, .int .i64 0, .int .i64 0, .int .i64 0, .slice none 0 0, .slice none 0 0] 43)) ho.1 ho.2)
  have hs : (w.alloc (.cells #[.int .i64 0, .int .i64 0, .int .i64 0, .int .i64 0, .slice none 0 0, .slice none 0 0] 43)).heap.size = w.heap.size + 1 := by simp
  rw [hs] at XR
  have HZ := hide (Blk.new w 43 #[.int .i64 0, .int .i64 0, .int .i64 0, .int .i64 0, .slice none 0 0, .slice none 0 0])
  have HB := hide ((Below.refl w.heap.size w).alloc (Nat.le_refl _) (.cells #[.int .i64 0, .int .i64 0, .int .i64 0, .int .i64 0, .slice none 0 0, .slice none 0 0] 43))
  rw [hq] at XR
  generalize (repU op).1 = q1 at *
  clear hq
  go_enter Try.func22, Try.ntmps22
  go_wp2_with fail
  refine XR.out.mono ?_
  rintro e w1 ⟨rfl, hb1, lx⟩
  have HB1 := hide (HB.out.trans (hb1.mono (by omega)))
  have HZ1 := hide (HZ.out.below hb1 (by omega))
  have hl1 := HZ1.out.lt
  clear hb1 XR HZ HB hs
  obtain ⟨z0, z1, z2, z3, z4, z5⟩ := blk6 HZ1.out
  obtain ⟨f0, f1, f2, f3, f4, f5⟩ := fro6 HZ1.out
  have HE : Hid (DecREnd 5 R w (.returned (.tuple #[zw, .int .i64 5])) ((((((w1.setCell ⟨w.heap.size, 0, none⟩ (.int .i64 0)).setCell ⟨w.heap.size, 1, none⟩ (.int .i64 0)).setCell ⟨w.heap.size, 2, none⟩ (.int .i64 0)).setCell ⟨w.heap.size, 3, none⟩ (.int .i64 0)).setCell ⟨w.heap.size, 4, none⟩ (.slice none 0 0)).setCell ⟨w.heap.size, 5, none⟩ (.slice none 0 0))) := hide (decr_none (by exact hR) (below6 HB1.out _ _ _ _ _ _))
  have HZe := hide (blk6s HZ1.out (.int .i64 0) (.int .i64 0) (.int .i64 0) (.int .i64 0) (.slice none 0 0) (.slice none 0 0))
  unfold zw at HE
  generalize hWE : ((((((w1.setCell ⟨w.heap.size, 0, none⟩ (.int .i64 0)).setCell ⟨w.heap.size, 1, none⟩ (.int .i64 0)).setCell ⟨w.heap.size, 2, none⟩ (.int .i64 0)).setCell ⟨w.heap.size, 3, none⟩ (.int .i64 0)).setCell ⟨w.heap.size, 4, none⟩ (.slice none 0 0)).setCell ⟨w.heap.size, 5, none⟩ (.slice none 0 0)) = WE at HE HZe
  clear hR
  go_wp2_with fail
  clear hWE z0 z1 z2 z3 z4 z5 f0 f1 f2 f3 f4 f5
  obtain ⟨z0, z1, z2, z3, z4, z5⟩ := blk6 HZe.out
  refine bodyPost_ret (v := .tuple #[.agg #[.int .i64 0, .int .i64 0, .int .i64 0, .int .i64 0, .slice none 0 0, .slice none 0 0], .int .i64 5]) (by simp only [results, Try.results22]; go_simp) rfl HE.out
set_option maxRecDepth 100000 in
set_option maxHeartbeats 8000000 in
theorem dr_cons (op : Int) (b : UInt8) (rest : LB) (A : Option Addr) (n c : Nat) (w : World) (ho : i64ok op) (hq : (repU op).2 = true) (hr : Rd w A (n + 1) (b :: rest)) (hn : n ≤ 100000) (hc : n + 1 ≤ c) : Calls Try.prog 22 #[.int .i64 op, .slice A (n + 1) c] w fun e w' => DecREnd 5 (decR (repU op) (b :: rest)) w e w' := by
  obtain ⟨ag, ao, rfl, hag, hcell⟩ := cells_of hr (by omega) (by simp [bv])
  have hc0 := hcell 0 (.int .u8 (b.toNat : Int)) rfl
  rw [Nat.add_zero] at hc0
  have hz : ((n : Int) + 1 == 0) = false := by simp; omega
  have hrest := rd_from (l := 1) (c := c) hr (by omega) hc
  simp only [List.drop_succ_cons, List.drop_zero, Nat.add_sub_cancel] at hrest
  have hsl := fun W => sl_from (some ⟨ag, ao, none⟩) (n + 1) c 1 .i64 1 rfl (by omega) W
  have hb256 := b.toNat_lt
  have hv : IntKind.i64.wrap (b.toNat : Int) = (b.toNat : Int) := by simp [IntKind.wrap, IntKind.bits, IntKind.signed]; omega
  have HDP : Hid (decR (repU op) (b :: rest) = decW (if (b.toNat : Int) = 0 then (repU op).1 else 0) (b.toNat : Int) rest) := hide (by unfold decR; rw [hq]; rfl)
  generalize decR (repU op) (b :: rest) = R at *
  have XR := hide (rep_look0 op (w.alloc (.cells #[.int .i64 0, .int .i64 0, .int .i64 0, .int .i64 0, .slice none 0 0, .slice none 0 0] 43)) ho.1 ho.2)
  have hs : (w.alloc (.cells #[.int .i64 0, .int .i64 0, .int .i64 0, .int .i64 0, .slice none 0 0, .slice none 0 0] 43)).heap.size = w.heap.size + 1 := by simp
  rw [hs] at XR
  have HZ := hide (Blk.new w 43 #[.int .i64 0, .int .i64 0, .int .i64 0, .int .i64 0, .slice none 0 0, .slice none 0 0])
  have HB := hide ((Below.refl w.heap.size w).alloc (Nat.le_refl _) (.cells #[.int .i64 0, .int .i64 0, .int .i64 0, .int .i64 0, .slice none 0 0, .slice none 0 0] 43))
  rw [hq] at XR
  generalize (repU op).1 = q1 at *
  have HOr : Hid (0 ≤ (b.toNat : Int) ∧ (b.toNat : Int) < 256) := hide ⟨by omega, by omega⟩
  generalize (b.toNat : Int) = O at *
  have hrl := hr.len
  have HRest := hide hrest
  have hcc := fun W (hW : Below w.heap.size w W) => (hW.cell (p := ⟨ag, ao, none⟩) hag).trans hc0
  have HCC := hide hcc
  clear hcell hr hrest hq hc0 hcc
  obtain ⟨u', hu', hzO⟩ : ∃ u', (if O = 0 then q1 else 0) = u' ∧ (((O != 0) = false ∧ u' = q1) ∨ ((O != 0) = true ∧ u' = 0)) := by
    by_cases h : O = 0
    · exact ⟨q1, by simp [h], .inl ⟨by simp [h], rfl⟩⟩
    · exact ⟨0, by simp [h], .inr ⟨by simp [h], rfl⟩⟩
  rw [hu'] at HDP
  clear hu'
  go_enter Try.func22, Try.ntmps22
  go_wp2_with fail
  refine XR.out.mono ?_
  rintro e w1 ⟨rfl, hb1, lx⟩
  have HB1 := hide (HB.out.trans (hb1.mono (by omega)))
  have HZ1 := hide (HZ.out.below hb1 (by omega))
  have hl1 := HZ1.out.lt
  clear hb1 XR HZ HB hs
  have hc1 := HCC.out w1 HB1.out
  have hs1 := HB1.out.size
  have g0 := Blk.new w1 43 #[.int .i64 O, .int .i64 0, .int .i64 0, .int .i64 0, .slice none 0 0, .slice none 0 0]
  have s0 : (w1.alloc (.cells #[.int .i64 O, .int .i64 0, .int .i64 0, .int .i64 0, .slice none 0 0, .slice none 0 0] 43)).heap.size = w1.heap.size + 1 := by simp
  have HBa := hide ((Below.refl w1.heap.size w1).alloc (Nat.le_refl _) (.cells #[.int .i64 O, .int .i64 0, .int .i64 0, .int .i64 0, .slice none 0 0, .slice none 0 0] 43))
  have HK0 := hide g0
  clear g0 HCC
  have g1 := Blk.new (w1.alloc (.cells #[.int .i64 O, .int .i64 0, .int .i64 0, .int .i64 0, .slice none 0 0, .slice none 0 0] 43)) 72 #[.slice (from_ c 1 (some ⟨ag, ao, none⟩)) n (c - 1), .bool false]
  have s1 : ((w1.alloc (.cells #[.int .i64 O, .int .i64 0, .int .i64 0, .int .i64 0, .slice none 0 0, .slice none 0 0] 43)).alloc (.cells #[.slice (from_ c 1 (some ⟨ag, ao, none⟩)) n (c - 1), .bool false] 72)).heap.size = w1.heap.size + 2 := by simp
  have g2 := Blk.new ((w1.alloc (.cells #[.int .i64 O, .int .i64 0, .int .i64 0, .int .i64 0, .slice none 0 0, .slice none 0 0] 43)).alloc (.cells #[.slice (from_ c 1 (some ⟨ag, ao, none⟩)) n (c - 1), .bool false] 72)) 70 #[.pointer (some ⟨w1.heap.size + 1, 0, none⟩)]
  have s2 : (((w1.alloc (.cells #[.int .i64 O, .int .i64 0, .int .i64 0, .int .i64 0, .slice none 0 0, .slice none 0 0] 43)).alloc (.cells #[.slice (from_ c 1 (some ⟨ag, ao, none⟩)) n (c - 1), .bool false] 72)).alloc (.cells #[.pointer (some ⟨w1.heap.size + 1, 0, none⟩)] 70)).heap.size = w1.heap.size + 3 := by simp
  have g3 := Blk.new (((w1.alloc (.cells #[.int .i64 O, .int .i64 0, .int .i64 0, .int .i64 0, .slice none 0 0, .slice none 0 0] 43)).alloc (.cells #[.slice (from_ c 1 (some ⟨ag, ao, none⟩)) n (c - 1), .bool false] 72)).alloc (.cells #[.pointer (some ⟨w1.heap.size + 1, 0, none⟩)] 70)) 62 (rowR (w1.heap.size + 2) w1.heap.size)
  rw [s0] at g1
  rw [s1] at g2
  rw [s2] at g3
  have G0 := ((HK0.out.alloc (.cells #[.slice (from_ c 1 (some ⟨ag, ao, none⟩)) n (c - 1), .bool false] 72)).alloc (.cells #[.pointer (some ⟨w1.heap.size + 1, 0, none⟩)] 70)).alloc (.cells (rowR (w1.heap.size + 2) w1.heap.size) 62)
  have G1 := (g1.alloc (.cells #[.pointer (some ⟨w1.heap.size + 1, 0, none⟩)] 70)).alloc (.cells (rowR (w1.heap.size + 2) w1.heap.size) 62)
  have G2 := g2.alloc (.cells (rowR (w1.heap.size + 2) w1.heap.size) 62)
  have b1 := ((HBa.out.alloc (by omega) (.cells #[.slice (from_ c 1 (some ⟨ag, ao, none⟩)) n (c - 1), .bool false] 72)).alloc (by omega) (.cells #[.pointer (some ⟨w1.heap.size + 1, 0, none⟩)] 70)).alloc (by omega) (.cells (rowR (w1.heap.size + 2) w1.heap.size) 62)
  have hD : RE (w1.heap.size + 3) (rowR (w1.heap.size + 2) w1.heap.size) w1 w1.heap.size (w1.heap.size + 3) (w1.heap.size + 1) (w1.heap.size + 2) w1.heap.size (zP O, (rest, false)) ((((w1.alloc (.cells #[.int .i64 O, .int .i64 0, .int .i64 0, .int .i64 0, .slice none 0 0, .slice none 0 0] 43)).alloc (.cells #[.slice (from_ c 1 (some ⟨ag, ao, none⟩)) n (c - 1), .bool false] 72)).alloc (.cells #[.pointer (some ⟨w1.heap.size + 1, 0, none⟩)] 70)).alloc (.cells (rowR (w1.heap.size + 2) w1.heap.size) 62)) :=
    ⟨⟨_, n, c - 1, G1, ((HRest.out.below (HB1.out.trans (b1.mono hs1))).more (by omega)), by omega, by omega, by omega, by simp⟩, G2,
      ⟨none, 0, 0, none, 0, 0, G0, World.ownsRow_nil _ _ _ _, World.ownsRow_nil _ _ _ _⟩,
      b1, by omega, by omega, by omega, by omega, g3⟩
  have XE := hide (eachR_any _ _ _ _ _ _ _ u' _ _ hD)
  rw [dcP_eq] at XE
  have HLE := hide (decY_le u' O (rest, false))
  unfold decW at HDP
  generalize decY u' O (rest, false) = X at *
  obtain ⟨r9, st9⟩ := X
  dsimp only at XE HLE HDP
  clear hD b1 G0 G1 G2 g1 g2 g3 HRest HBa HK0 s0 s1 s2
  unfold rowR capsQ at XE
  rcases hzO with ⟨hzO, rfl⟩ | ⟨hzO, rfl⟩
  all_goals
    go_wp2_with fail
    refine XE.out.mono ?_
    rintro e w6 ⟨rfl, h6⟩
    have HR6 := hide h6
    have ci := h6.2.1.cell 0
    simp only [List.getElem?_toArray, List.getElem?_cons_zero] at ci
    have XDn := hide (done_any _ _ _ w6 h6.1)
    have HB6 := hide (HB1.out.trans (h6.2.2.2.1.mono hs1))
    have HZ6 := hide (HZ1.out.below h6.2.2.2.1 (by omega))
    clear h6 XE HZ1 HB1 hc1
    cases hd : (!st9.2 && st9.1.isEmpty) with
    | false =>
      rw [hd] at XDn HDP
      obtain ⟨z0, z1, z2, z3, z4, z5⟩ := blk6 HZ6.out
      obtain ⟨f0, f1, f2, f3, f4, f5⟩ := fro6 HZ6.out
      have HE : Hid (DecREnd 5 R w (.returned (.tuple #[zw, .int .i64 5])) ((((((w6.setCell ⟨w.heap.size, 0, none⟩ (.int .i64 0)).setCell ⟨w.heap.size, 1, none⟩ (.int .i64 0)).setCell ⟨w.heap.size, 2, none⟩ (.int .i64 0)).setCell ⟨w.heap.size, 3, none⟩ (.int .i64 0)).setCell ⟨w.heap.size, 4, none⟩ (.slice none 0 0)).setCell ⟨w.heap.size, 5, none⟩ (.slice none 0 0))) := hide (decr_none (by rw [HDP.out]; simp) (below6 HB6.out _ _ _ _ _ _))
      have HZe := hide (blk6s HZ6.out (.int .i64 0) (.int .i64 0) (.int .i64 0) (.int .i64 0) (.slice none 0 0) (.slice none 0 0))
      unfold zw at HE
      generalize hWE : ((((((w6.setCell ⟨w.heap.size, 0, none⟩ (.int .i64 0)).setCell ⟨w.heap.size, 1, none⟩ (.int .i64 0)).setCell ⟨w.heap.size, 2, none⟩ (.int .i64 0)).setCell ⟨w.heap.size, 3, none⟩ (.int .i64 0)).setCell ⟨w.heap.size, 4, none⟩ (.slice none 0 0)).setCell ⟨w.heap.size, 5, none⟩ (.slice none 0 0)) = WE at HE HZe
      clear hd
      go_wp2_with fail
      refine XDn.out.mono ?_
      rintro e w7 ⟨rfl, rfl⟩
      go_wp2_with fail
      clear hWE z0 z1 z2 z3 z4 z5 f0 f1 f2 f3 f4 f5
      obtain ⟨z0, z1, z2, z3, z4, z5⟩ := blk6 HZe.out
      refine bodyPost_ret (v := .tuple #[.agg #[.int .i64 0, .int .i64 0, .int .i64 0, .int .i64 0, .slice none 0 0, .slice none 0 0], .int .i64 5]) (by simp only [results, Try.results22]; go_simp) rfl HE.out
    | true =>
      rw [hd] at XDn HDP
      clear hd
      have hq : DpAt _ _ r9 w6 := HR6.out.2.2.1
      obtain ⟨D, dn, dc, A, an, ac, m1, m2, m3⟩ := hq
      have e2 := (Reads.of_own m2).1
      have e3 := (Reads.of_own m3).1
      rw [bv_length] at e2
      rw [svs_length] at e3
      have XC := hide (fun u => checkr_any u r9 D A dn dc an ac w6 (Reads.of_own m3) (by omega) (by have h1 := HLE.out; omega))
      have HM := hide (And.intro m2 m3)
      have HK6 := hide m1
      unfold pcs at m1
      unfold RP.v at XC
      obtain ⟨y0, y1, y2, y3, y4, y5⟩ := blk6 m1
      have hl6 := m1.lt
      clear m1 m2 m3 e2 e3
      go_wp2_with fail
      refine XDn.out.mono ?_
      rintro e w7 ⟨rfl, rfl⟩
      clear XDn
      go_wp2_with fail
      refine (XC.out _).mono ?_
      rintro e w7 ⟨rfl, hb7⟩
      have HB7 := hide (below_more HB6.out (Nat.le_refl _) hb7)
      have HZ7 := hide (HZ6.out.below hb7 HZ6.out.lt)
      have HK7 := hide (HK6.out.below hb7 hl6)
      have N2 := own_below HM.out.1 hb7
      have N3 := own_below HM.out.2 hb7
      have HN := hide (And.intro N2 N3)
      clear N2 N3 HM HK6 HZ6 HB6 HR6 hb7 XC y0 y1 y2 y3 y4 y5 ci hl6
      cases hk : r9.ok _ with
      | false =>
        rw [hk] at HDP
        obtain ⟨z0, z1, z2, z3, z4, z5⟩ := blk6 HZ7.out
        obtain ⟨f0, f1, f2, f3, f4, f5⟩ := fro6 HZ7.out
        have HE : Hid (DecREnd 5 R w (.returned (.tuple #[zw, .int .i64 5])) ((((((w7.setCell ⟨w.heap.size, 0, none⟩ (.int .i64 0)).setCell ⟨w.heap.size, 1, none⟩ (.int .i64 0)).setCell ⟨w.heap.size, 2, none⟩ (.int .i64 0)).setCell ⟨w.heap.size, 3, none⟩ (.int .i64 0)).setCell ⟨w.heap.size, 4, none⟩ (.slice none 0 0)).setCell ⟨w.heap.size, 5, none⟩ (.slice none 0 0))) := hide (decr_none (by rw [HDP.out]; simp) (below6 HB7.out _ _ _ _ _ _))
        have HZe := hide (blk6s HZ7.out (.int .i64 0) (.int .i64 0) (.int .i64 0) (.int .i64 0) (.slice none 0 0) (.slice none 0 0))
        unfold zw at HE
        generalize hWE : ((((((w7.setCell ⟨w.heap.size, 0, none⟩ (.int .i64 0)).setCell ⟨w.heap.size, 1, none⟩ (.int .i64 0)).setCell ⟨w.heap.size, 2, none⟩ (.int .i64 0)).setCell ⟨w.heap.size, 3, none⟩ (.int .i64 0)).setCell ⟨w.heap.size, 4, none⟩ (.slice none 0 0)).setCell ⟨w.heap.size, 5, none⟩ (.slice none 0 0)) = WE at HE HZe
        clear hk
        go_wp2_with fail
        clear hWE z0 z1 z2 z3 z4 z5 f0 f1 f2 f3 f4 f5
        obtain ⟨z0, z1, z2, z3, z4, z5⟩ := blk6 HZe.out
        refine bodyPost_ret (v := .tuple #[.agg #[.int .i64 0, .int .i64 0, .int .i64 0, .int .i64 0, .slice none 0 0, .slice none 0 0], .int .i64 5]) (by simp only [results, Try.results22]; go_simp) rfl HE.out
      | true =>
        rw [hk] at HDP
        have hRV : R = some r9 := by rw [HDP.out]; simp
        have HE : Hid (DecREnd 5 R w (.returned (.tuple #[r9.v D A dn dc an ac, .int .i64 0])) ((((((w7.setCell ⟨w.heap.size, 0, none⟩ (.int .i64 r9.err)).setCell ⟨w.heap.size, 1, none⟩ (.int .i64 r9.h)).setCell ⟨w.heap.size, 2, none⟩ (.int .i64 r9.h2)).setCell ⟨w.heap.size, 3, none⟩ (.int .i64 r9.n)).setCell ⟨w.heap.size, 4, none⟩ (.slice D dn dc)).setCell ⟨w.heap.size, 5, none⟩ (.slice A an ac))) := hide (by
          rw [hRV]
          exact ⟨D, dn, dc, A, an, ac, rfl, own_more (own6 HN.out.1 (by omega) _ _ _ _ _ _) (by omega), own_more (own6 HN.out.2 (by omega) _ _ _ _ _ _) (by omega), below6 HB7.out _ _ _ _ _ _⟩)
        have HZe := hide (blk6s HZ7.out (.int .i64 r9.err) (.int .i64 r9.h) (.int .i64 r9.h2) (.int .i64 r9.n) (.slice D dn dc) (.slice A an ac))
        obtain ⟨z0, z1, z2, z3, z4, z5⟩ := blk6 HZ7.out
        obtain ⟨f0, f1, f2, f3, f4, f5⟩ := fro6 HZ7.out
        have hk7 := HK7.out
        unfold pcs at hk7
        obtain ⟨y0, y1, y2, y3, y4, y5⟩ := blk6 hk7
        unfold RP.v at HE
        generalize hWE : ((((((w7.setCell ⟨w.heap.size, 0, none⟩ (.int .i64 r9.err)).setCell ⟨w.heap.size, 1, none⟩ (.int .i64 r9.h)).setCell ⟨w.heap.size, 2, none⟩ (.int .i64 r9.h2)).setCell ⟨w.heap.size, 3, none⟩ (.int .i64 r9.n)).setCell ⟨w.heap.size, 4, none⟩ (.slice D dn dc)).setCell ⟨w.heap.size, 5, none⟩ (.slice A an ac)) = WE at HE HZe
        clear hk hRV hk7
        go_wp2_with fail
        clear hWE z0 z1 z2 z3 z4 z5 f0 f1 f2 f3 f4 f5 y0 y1 y2 y3 y4 y5
        obtain ⟨z0, z1, z2, z3, z4, z5⟩ := blk6 HZe.out
        refine bodyPost_ret (v := .tuple #[.agg #[.int .i64 r9.err, .int .i64 r9.h, .int .i64 r9.h2, .int .i64 r9.n, .slice D dn dc, .slice A an ac], .int .i64 0]) (by simp only [results, Try.results22]; go_simp) rfl HE.out
end Go.Proofs.Ytedacfjkbfgikaa
