/- A block's words. -/
import Derived.Test.YtbbobffedgcbhaaGreatDoorShaR
import Derived.WalkMore
import Derived.Deep.RegionHeld3
import Derived.Deep.DeepCutAuto
namespace Go.Proofs.YtbbobffedgcbhaaGreatDoor
open Go.RowKit
set_option linter.unusedVariables false
abbrev wv (ws : List Nat) : List Value := ws.map fun (x : Nat) => .int .u32 (x : Int)
theorem s24 (y : Nat) (h : y < 256) : IntKind.u32.wrap (IntKind.u32.wrap (y : Int) * 16777216) = ((y * 16777216 : Nat) : Int) := by simp [IntKind.wrap, IntKind.bits, IntKind.signed]; omega
theorem s16 (y : Nat) (h : y < 256) : IntKind.u32.wrap (IntKind.u32.wrap (y : Int) * 65536) = ((y * 65536 : Nat) : Int) := by simp [IntKind.wrap, IntKind.bits, IntKind.signed]; omega
theorem s8 (y : Nat) (h : y < 256) : IntKind.u32.wrap (IntKind.u32.wrap (y : Int) * 256) = ((y * 256 : Nat) : Int) := by simp [IntKind.wrap, IntKind.bits, IntKind.signed]; omega
theorem s0 (y : Nat) (h : y < 256) : IntKind.u32.wrap (y : Int) = (y : Int) := by simp [IntKind.wrap, IntKind.bits, IntKind.signed]; omega
theorem wordV (a b c d : Nat) (ha : a < 4294967296) (hb : b < 4294967296) (hc : c < 4294967296) (hd : d < 4294967296) : bits BinOp.or IntKind.u32 (bits BinOp.or IntKind.u32 (bits BinOp.or IntKind.u32 (a : Int) (b : Int)) (c : Int)) (d : Int) = ((((a ||| b) ||| c) ||| d : Nat) : Int) := by
  rw [or32 _ _ ha hb, or32 _ _ (or_lt32 ha hb) hc, or32 _ _ (or_lt32 (or_lt32 ha hb) hc) hd]
theorem byteAt (b : List UInt8) (j : Nat) : ∃ y : Nat, (b.getD j 0).toNat = y ∧ y < 256 := ⟨_, rfl, (b.getD j 0).toNat_lt⟩
/-- The bytes b lie in block g from offset o on. -/
def BytesAt (w : World) (g o : Nat) (b : List UInt8) : Prop := ∀ j, j < b.length → w.cell? ⟨g, o + j, none⟩ = some (.int .u8 ((b.getD j 0).toNat : Int))
theorem BytesAt.drewN {w : World} {g o : Nat} {b : List UInt8} (h : BytesAt w g o b) (n : Nat) : BytesAt (w.drewN n) g o b := h
theorem BytesAt.keep {w w' : World} {g o : Nat} {b : List UInt8} (h : BytesAt w g o b) (hk : ∀ p : Addr, p.block = g → w'.cell? p = w.cell? p) : BytesAt w' g o b :=
  fun j hj => (hk _ rfl).trans (h j hj)
theorem BytesAt.far {w : World} {g o : Nat} {p : Addr} {b : List UInt8} (h : BytesAt w g o b) (hp : g ≠ p.block) (u : Value) : BytesAt (w.setCell p u) g o b :=
  h.keep fun q hq => World.cell?_setCell_other w p q u (fun e => hp (by rw [← hq, e]))
theorem BytesAt.of_blk {w : World} {g t : Nat} {b : List UInt8} (h : Blk w g t (bv b).toArray) : BytesAt w g 0 b := fun j hj => by
  rw [Nat.zero_add, h.cell j]
  simp [bv, List.getD, hj]
theorem spot_none {w : World} {ad : Addr} {u : Value} (h : w.cell? ad = some u) : ad = ⟨ad.block, ad.off, none⟩ := by
  obtain ⟨g, o, s⟩ := ad
  cases s with
  | none => rfl
  | some x =>
    unfold World.cell? at h
    split at h <;> simp at h
theorem BytesAt.of_reads {w : World} {B n : Nat} {A : Option Addr} {b : List UInt8} (h : Reads w B 1 A n (bv b)) (hn : 0 < n) : ∃ g o, A = some ⟨g, o, none⟩ ∧ g < B ∧ BytesAt w g o b := by
  have hl : b.length = n := by have := h.1; simp [bv] at this; exact this
  obtain ⟨ad, e, hb, hc⟩ := h.2 hn
  have h0 := hc 0 _ (bv_get b 0 (by omega))
  have ha : ad.add 0 = ad := by simp [Addr.add]
  rw [ha] at h0
  have hs := spot_none h0
  refine ⟨ad.block, ad.off, by rw [e, ← hs], hb, fun j hj => ?_⟩
  have h1 := hc j _ (bv_get b j hj)
  rw [hs, at_add] at h1
  rw [h1]
  simp [hj]
theorem cellB {w : World} {g o : Nat} {b : List UInt8} (h : BytesAt w g o b) {j y : Nat} (hj : j < b.length) (e : (b.getD j 0).toNat = y) : w.cell? ⟨g, o + j, none⟩ = some (.int .u8 y) := by
  subst e
  exact h j hj
theorem cellW {w : World} {g t : Nat} {ws : List Nat} (h : Blk w g t (wv ws).toArray) {j x : Nat} (e : ws[j]? = some x) : w.cell? ⟨g, j, none⟩ = some (.int .u32 x) := by
  rw [h.cell j]
  simp [e]
theorem only_drewN {a w : World} {row : Option Nat} (h : a.grownBy w row) (n : Nat) : a.grownBy (w.drewN n) row := ⟨h.os, h.tape, h.output, h.size, h.block⟩
theorem only_drew {a w : World} {row : Option Nat} (h : a.grownBy w row) : a.grownBy w.drew row := ⟨h.os, h.tape, h.output, h.size, h.block⟩
theorem only_alloc {a w : World} {row : Option Nat} (h : a.grownBy w row) (o : Obj) : a.grownBy (w.alloc o) row :=
  ⟨h.os, h.tape, h.output, Nat.le_trans h.size (by simp), fun i hi hne => (Below.heap_alloc w o i (Nat.lt_of_lt_of_le hi h.size)).trans (h.block i hi hne)⟩
theorem only_setCell {a w : World} {g : Nat} (h : a.grownBy w (some g)) {p : Addr} (hp : p.block = g ∨ a.heap.size ≤ p.block) (u : Value) : a.grownBy (w.setCell p u) (some g) :=
  ⟨h.os, h.tape, h.output, by simpa [World.setCell] using h.size, fun i hi hne => (Below.heap_setCell w p u i (by
    rintro rfl
    rcases hp with hp | hp
    · exact hne (by rw [hp])
    · omega)).trans (h.block i hi hne)⟩
theorem wrap_u32 (n : Nat) (h : n < 4294967296) : IntKind.u32.wrap (n : Int) = (n : Int) := w32 _ (by omega) (by omega)
theorem wrap_add32 (a b : Nat) : IntKind.u32.wrap ((a : Int) + (b : Int)) = (((a + b) % 4294967296 : Nat) : Int) := by simp [IntKind.wrap, IntKind.bits, IntKind.signed]
theorem mod4 (a b c d M : Nat) (hM : 0 < M) : (((a + b) % M + c) % M + d) % M = (a + b + c + d) % M := by simp [Nat.add_mod]
/-- The words so far, and noughts. -/
def wsK (b : List UInt8) (k : Nat) : List Nat := schedL b k ++ List.replicate (64 - k) 0
theorem wsK_length (b : List UInt8) {k : Nat} (h : k ≤ 64) : (wsK b k).length = 64 := by simp [wsK, schedL_length]; omega
theorem wsK_get (b : List UInt8) {k j : Nat} (h : j < k) : (wsK b k)[j]? = some ((schedL b k).getD j 0) := by
  have hl := schedL_length b k
  rw [wsK, List.getElem?_append_left (by omega), List.getD_eq_getElem?_getD, List.getElem?_eq_getElem (by omega)]
  rfl
theorem wsK_next (b : List UInt8) {k : Nat} (h : k < 64) : (wsK b k).set k (if k < 16 then wordAt b k else nextW (schedL b k) k) = wsK b (k + 1) := by
  have hl := schedL_length b k
  rw [wsK, wsK, List.set_append_right _ _ (by omega), hl, Nat.sub_self, schedL, List.append_assoc]
  congr 1
  obtain ⟨n, hn⟩ : ∃ n, 64 - k = n + 1 := ⟨63 - k, by omega⟩
  rw [hn, show 64 - (k + 1) = n by omega]
  simp [List.replicate_succ]
theorem schedK_lt (b : List UInt8) (k j : Nat) : (schedL b k).getD j 0 < 4294967296 := by
  rcases Nat.lt_or_ge j (schedL b k).length with h | h
  · rw [List.getD_eq_getElem?_getD, List.getElem?_eq_getElem h]
    exact schedL_lt b k _ (List.getElem_mem h)
  · rw [List.getD_eq_getElem?_getD, List.getElem?_eq_none h]; decide
theorem rotK (r : Nat) (K : Int) (h : bits BinOp.and IntKind.u64 (IntKind.u64.wrap K) 31 = ((32 - r : Nat) : Int)) (h0 : 0 < r) (h1 : r < 32) (x : Nat) (hx : x < 4294967296) (w : World) :
    Calls Tryz.prog 95 #[.int .u32 x, .int .i64 K] w fun e w' => e = .returned (.int .u32 (rotr r x : Nat)) ∧ w = w' := rot_any x r K w hx h0 h1 h
theorem rotm17 (x : Nat) (hx : x < 4294967296) (w : World) : Calls Tryz.prog 95 #[.int .u32 x, .int .i64 (-17)] w fun e w' => e = .returned (.int .u32 (rotr 17 x : Nat)) ∧ w = w' := rotK 17 (-17) (by decide +kernel) (by omega) (by omega) x hx w
theorem rotm19 (x : Nat) (hx : x < 4294967296) (w : World) : Calls Tryz.prog 95 #[.int .u32 x, .int .i64 (-19)] w fun e w' => e = .returned (.int .u32 (rotr 19 x : Nat)) ∧ w = w' := rotK 19 (-19) (by decide +kernel) (by omega) (by omega) x hx w
theorem rotm7 (x : Nat) (hx : x < 4294967296) (w : World) : Calls Tryz.prog 95 #[.int .u32 x, .int .i64 (-7)] w fun e w' => e = .returned (.int .u32 (rotr 7 x : Nat)) ∧ w = w' := rotK 7 (-7) (by decide +kernel) (by omega) (by omega) x hx w
theorem rotm18 (x : Nat) (hx : x < 4294967296) (w : World) : Calls Tryz.prog 95 #[.int .u32 x, .int .i64 (-18)] w fun e w' => e = .returned (.int .u32 (rotr 18 x : Nat)) ∧ w = w' := rotK 18 (-18) (by decide +kernel) (by omega) (by omega) x hx w
theorem rotm6 (x : Nat) (hx : x < 4294967296) (w : World) : Calls Tryz.prog 95 #[.int .u32 x, .int .i64 (-6)] w fun e w' => e = .returned (.int .u32 (rotr 6 x : Nat)) ∧ w = w' := rotK 6 (-6) (by decide +kernel) (by omega) (by omega) x hx w
theorem rotm11 (x : Nat) (hx : x < 4294967296) (w : World) : Calls Tryz.prog 95 #[.int .u32 x, .int .i64 (-11)] w fun e w' => e = .returned (.int .u32 (rotr 11 x : Nat)) ∧ w = w' := rotK 11 (-11) (by decide +kernel) (by omega) (by omega) x hx w
theorem rotm25 (x : Nat) (hx : x < 4294967296) (w : World) : Calls Tryz.prog 95 #[.int .u32 x, .int .i64 (-25)] w fun e w' => e = .returned (.int .u32 (rotr 25 x : Nat)) ∧ w = w' := rotK 25 (-25) (by decide +kernel) (by omega) (by omega) x hx w
theorem rotm2 (x : Nat) (hx : x < 4294967296) (w : World) : Calls Tryz.prog 95 #[.int .u32 x, .int .i64 (-2)] w fun e w' => e = .returned (.int .u32 (rotr 2 x : Nat)) ∧ w = w' := rotK 2 (-2) (by decide +kernel) (by omega) (by omega) x hx w
theorem rotm13 (x : Nat) (hx : x < 4294967296) (w : World) : Calls Tryz.prog 95 #[.int .u32 x, .int .i64 (-13)] w fun e w' => e = .returned (.int .u32 (rotr 13 x : Nat)) ∧ w = w' := rotK 13 (-13) (by decide +kernel) (by omega) (by omega) x hx w
theorem rotm22 (x : Nat) (hx : x < 4294967296) (w : World) : Calls Tryz.prog 95 #[.int .u32 x, .int .i64 (-22)] w fun e w' => e = .returned (.int .u32 (rotr 22 x : Nat)) ∧ w = w' := rotK 22 (-22) (by decide +kernel) (by omega) (by omega) x hx w
set_option maxRecDepth 10000 in
set_option maxHeartbeats 4000000 in
theorem sched_any (g tw g2 o : Nat) (b : List UInt8) (w : World) (hb : BytesAt w g2 o b) (hl : b.length = 64) (hw : Blk w g tw (wv (List.replicate 64 0)).toArray) (hne : g ≠ g2) :
    Calls Tryz.prog 94 #[.pointer (some ⟨g, 0, none⟩), .pointer (some ⟨g2, o, none⟩)] w fun e w' => e = .returned (.tuple #[]) ∧ Blk w' g tw (wv (schedL b 64)).toArray ∧ w.grownBy w' (some g) := by
  have HB := hide hb
  have HW := hide hw
  have HG := hide (World.grownBy.refl w (some g))
  clear hb hw
  go_enter Tryz.func94, Tryz.ntmps94
  go_wp2_with fail
  go_loopw [8] (fun i wr => ∃ k : Nat, k ≤ 16 ∧ i = .int .i64 k ∧ Blk wr g tw (wv (wsK b k)).toArray ∧ BytesAt wr g2 o b ∧ w.grownBy wr (some g)) (fun i _ => 16 - (intOf i).toNat)
  case atStart => exact ⟨0, Nat.zero_le _, rfl, HW.out, HB.out, HG.out⟩
  case round =>
    obtain ⟨k, hk, rfl, b1, b2, b3⟩ := hrel
    obtain ⟨ws, hws⟩ : ∃ ws, wsK b k = ws := ⟨_, rfl⟩
    have HWS := hide hws
    have hwl := wsK_length b (k := k) (by omega)
    rw [hws] at b1 hwl
    clear hws
    have B1 := hide b1
    have B2 := hide b2
    have B3 := hide b3
    clear b1 b2 b3
    by_cases hlt : k < 16
    · obtain ⟨y0, e0, h0⟩ := byteAt b (4 * k)
      obtain ⟨y1, e1, h1⟩ := byteAt b (4 * k + 1)
      obtain ⟨y2, e2, h2⟩ := byteAt b (4 * k + 2)
      obtain ⟨y3, e3, h3⟩ := byteAt b (4 * k + 3)
      obtain ⟨x0, hx0⟩ : ∃ x : Nat, ws[k]? = some x := ⟨ws[k]'(by omega), List.getElem?_eq_getElem (by omega)⟩
      have allS : Hid (∀ d, (wr.drewN d).cell? ⟨g2, o + (4 * k), none⟩ = some (.int .u8 y0) ∧ (wr.drewN d).cell? ⟨g2, o + (4 * k + 1), none⟩ = some (.int .u8 y1) ∧ (wr.drewN d).cell? ⟨g2, o + (4 * k + 2), none⟩ = some (.int .u8 y2) ∧ (wr.drewN d).cell? ⟨g2, o + (4 * k + 3), none⟩ = some (.int .u8 y3) ∧ (wr.drewN d).frozen? ⟨g, k, none⟩ = false ∧ ∃ x : Value, (wr.drewN d).cell? ⟨g, k, none⟩ = some x) :=
        hide fun d => ⟨cellB (B2.out.drewN d) (by omega) e0, cellB (B2.out.drewN d) (by omega) e1, cellB (B2.out.drewN d) (by omega) e2, cellB (B2.out.drewN d) (by omega) e3, (B1.out.drewN d).frozen k, _, cellW (B1.out.drewN d) hx0⟩
      have allT : Hid (∀ u, (wr.setCell ⟨g, k, none⟩ u).cell? ⟨g2, o + (4 * k), none⟩ = some (.int .u8 y0) ∧ (wr.setCell ⟨g, k, none⟩ u).cell? ⟨g2, o + (4 * k + 1), none⟩ = some (.int .u8 y1) ∧ (wr.setCell ⟨g, k, none⟩ u).cell? ⟨g2, o + (4 * k + 2), none⟩ = some (.int .u8 y2) ∧ (wr.setCell ⟨g, k, none⟩ u).cell? ⟨g2, o + (4 * k + 3), none⟩ = some (.int .u8 y3) ∧ (wr.setCell ⟨g, k, none⟩ u).frozen? ⟨g, k, none⟩ = false ∧ ∃ x : Value, (wr.setCell ⟨g, k, none⟩ u).cell? ⟨g, k, none⟩ = some x) :=
        hide fun u => by
          have q := B2.out.far (p := ⟨g, k, none⟩) (fun h => hne h.symm) u
          have r := B1.out.set_ k u
          refine ⟨cellB q (by omega) e0, cellB q (by omega) e1, cellB q (by omega) e2, cellB q (by omega) e3, r.frozen k, u, ?_⟩
          rw [r.cell k]
          rw [Array.getElem?_setIfInBounds_self_of_lt (by simp; omega)]
      have hV : bits BinOp.or IntKind.u32 (bits BinOp.or IntKind.u32 (bits BinOp.or IntKind.u32 (IntKind.u32.wrap (IntKind.u32.wrap (y0 : Int) * 16777216)) (IntKind.u32.wrap (IntKind.u32.wrap (y1 : Int) * 65536))) (IntKind.u32.wrap (IntKind.u32.wrap (y2 : Int) * 256))) (IntKind.u32.wrap (y3 : Int)) = (wordAt b k : Nat) := by
        unfold wordAt
        rw [e0, e1, e2, e3]
        rw [s24 y0 h0, s16 y1 h1, s8 y2 h2, s0 y3 h3]
        exact wordV _ _ _ _ (by omega) (by omega) (by omega) (by omega)
      have v0 : IntKind.i64.wrap (4 * (k : Int)) = 4 * k := by simp [IntKind.wrap, IntKind.bits, IntKind.signed]; omega
      have v1 : IntKind.i64.wrap (4 * (k : Int) + 1) = 4 * k + 1 := by simp [IntKind.wrap, IntKind.bits, IntKind.signed]; omega
      have v2 : IntKind.i64.wrap (4 * (k : Int) + 2) = 4 * k + 2 := by simp [IntKind.wrap, IntKind.bits, IntKind.signed]; omega
      have v3 : IntKind.i64.wrap (4 * (k : Int) + 3) = 4 * k + 3 := by simp [IntKind.wrap, IntKind.bits, IntKind.signed]; omega
      have hi0 : (0 : Int) ≤ (k : Int) := by omega
      have hi1 : (k : Int) < 64 := by omega
      have hi2 : 4 * (k : Int) < 64 := by omega
      have hp2 : (0 : Int) ≤ 4 * (k : Int) := by omega
      have hp3 : (0 : Int) ≤ 4 * (k : Int) + 1 := by omega
      have hp4 : (0 : Int) ≤ 4 * (k : Int) + 2 := by omega
      have hp5 : (0 : Int) ≤ 4 * (k : Int) + 3 := by omega
      have hi3 : 4 * (k : Int) + 1 < 64 := by omega
      have hi4 : 4 * (k : Int) + 2 < 64 := by omega
      have hi5 : 4 * (k : Int) + 3 < 64 := by omega
      have n3 : (4 * (k : Int)).toNat = 4 * k := by omega
      have n4 : (4 * (k : Int) + 1).toNat = 4 * k + 1 := by omega
      have n5 : (4 * (k : Int) + 2).toNat = 4 * k + 2 := by omega
      have n6 : (4 * (k : Int) + 3).toNat = 4 * k + 3 := by omega
      have c0 := allS.out 0
      obtain ⟨c0, c1, c2, c3, f0, _⟩ := c0
      have z0 := cellW B1.out hx0
      go_upto_region 3 with (fail)
      go_region_held3 (fun V => V.cell? ⟨g2, o + (4 * k), none⟩ = some (.int .u8 y0) ∧ V.cell? ⟨g2, o + (4 * k + 1), none⟩ = some (.int .u8 y1) ∧ V.cell? ⟨g2, o + (4 * k + 2), none⟩ = some (.int .u8 y2) ∧ V.cell? ⟨g2, o + (4 * k + 3), none⟩ = some (.int .u8 y3) ∧ V.frozen? ⟨g, k, none⟩ = false ∧ ∃ x : Value, V.cell? ⟨g, k, none⟩ = some x)
        (first | with_reducible exact allS.out _ | with_reducible exact allS.out 0 | exact allS.out 1 | with_reducible exact allT.out _ | exact allT.out _)
        (fail)
      all_goals
        go_wp2
        go_roundw
      case rel =>
        refine ⟨k + 1, by omega, by go_num, ?_, (B2.out.far (p := ⟨g, k, none⟩) (fun h => hne h.symm) _), by first | exact only_setCell B3.out (.inl rfl) _ | exact only_drew (only_setCell B3.out (.inl rfl) _) | exact only_drew (only_drew (only_setCell B3.out (.inl rfl) _))⟩
        have r := B1.out.set_ k (.int .u32 (wordAt b k : Nat))
        have e : (wv ws).toArray.setIfInBounds k (.int .u32 (wordAt b k : Nat)) = (wv (ws.set k (wordAt b k))).toArray := by simp [List.map_set]
        have n := wsK_next b (k := k) (by omega)
        rw [if_pos hlt, HWS.out] at n
        rw [e, n] at r
        exact r
      case measure => simp [intOf]; omega
    · obtain rfl : k = 16 := by omega
      clear hlt
      have h16 : ((16 : Nat) : Int) = 16 := rfl
      rw [h16]
      clear h16
      go_wp2
      go_loopw [5] (fun i wr => ∃ k : Nat, 16 ≤ k ∧ k ≤ 64 ∧ i = .int .i64 k ∧ Blk wr g tw (wv (wsK b k)).toArray ∧ w.grownBy wr (some g)) (fun i _ => 64 - (intOf i).toNat)
      case atStart => exact ⟨16, Nat.le_refl _, by omega, rfl, by rw [HWS.out]; exact B1.out, B3.out⟩
      case round =>
        clear B1 B2 B3 HWS
        obtain ⟨k, hk1, hk2, rfl, b1, b3⟩ := hrel
        have B1 := hide b1
        have B3 := hide b3
        clear b1 b3
        by_cases hlt : k < 64
        · obtain ⟨x, hx⟩ : ∃ x, (schedL b k).getD (k - 2) 0 = x := ⟨_, rfl⟩
          obtain ⟨y, hy⟩ : ∃ y, (schedL b k).getD (k - 15) 0 = y := ⟨_, rfl⟩
          obtain ⟨p, hp⟩ : ∃ p, (schedL b k).getD (k - 7) 0 = p := ⟨_, rfl⟩
          obtain ⟨q, hq⟩ : ∃ q, (schedL b k).getD (k - 16) 0 = q := ⟨_, rfl⟩
          have hxl : x < 4294967296 := by rw [← hx]; exact schedK_lt _ _ _
          have hyl : y < 4294967296 := by rw [← hy]; exact schedK_lt _ _ _
          have hpl : p < 4294967296 := by rw [← hp]; exact schedK_lt _ _ _
          have hql : q < 4294967296 := by rw [← hq]; exact schedK_lt _ _ _
          have HV : Hid (nextW (schedL b k) k = (p + q + ss0 x + ss1 y) % 4294967296) := hide (by unfold nextW; rw [hx, hy, hp, hq])
          have hold : Hid (∀ d, ((wr.drewN d).cell? ⟨g, k - 2, none⟩ = some (.int .u32 x) ∧ (wr.drewN d).cell? ⟨g, k - 15, none⟩ = some (.int .u32 y)) ∧ (wr.drewN d).cell? ⟨g, k - 7, none⟩ = some (.int .u32 p) ∧ (wr.drewN d).cell? ⟨g, k - 16, none⟩ = some (.int .u32 q) ∧ (wr.drewN d).frozen? ⟨g, k, none⟩ = false ∧ ∃ x : Value, (wr.drewN d).cell? ⟨g, k, none⟩ = some x) := hide fun d => by
            refine ⟨⟨cellW (B1.out.drewN d) ?_, cellW (B1.out.drewN d) ?_⟩, cellW (B1.out.drewN d) ?_, cellW (B1.out.drewN d) ?_, (B1.out.drewN d).frozen k, ?_⟩
            · rw [wsK_get b (by omega), hx]
            · rw [wsK_get b (by omega), hy]
            · rw [wsK_get b (by omega), hp]
            · rw [wsK_get b (by omega), hq]
            · have hl := wsK_length b (k := k) (by omega)
              exact ⟨_, cellW (B1.out.drewN d) (List.getElem?_eq_getElem (by omega))⟩
          have hold2 : Hid (∀ u, (wr.setCell ⟨g, k, none⟩ u).cell? ⟨g, k - 7, none⟩ = some (.int .u32 p) ∧ (wr.setCell ⟨g, k, none⟩ u).cell? ⟨g, k - 16, none⟩ = some (.int .u32 q) ∧ (wr.setCell ⟨g, k, none⟩ u).frozen? ⟨g, k, none⟩ = false ∧ ∃ x : Value, (wr.setCell ⟨g, k, none⟩ u).cell? ⟨g, k, none⟩ = some x) := hide fun u => by
            have c := hold.out 0
            have r := B1.out.set_ k u
            have hl := wsK_length b (k := k) (by omega)
            refine ⟨?_, ?_, r.frozen k, u, ?_⟩
            · rw [World.cell?_setCell_other _ _ _ _ (by intro e; injection e with _ e; omega)]; exact c.2.1
            · rw [World.cell?_setCell_other _ _ _ _ (by intro e; injection e with _ e; omega)]; exact c.2.2.1
            · rw [r.cell k, Array.getElem?_setIfInBounds_self_of_lt (by simp; omega)]
          have e1 : bits BinOp.xor IntKind.u32 (rotr 17 x : Nat) (rotr 19 x : Nat) = ((rotr 17 x ^^^ rotr 19 x : Nat) : Int) := xor32 _ _ (rotr_lt hxl) (rotr_lt hxl)
          have e2 : bits BinOp.xor IntKind.u32 ((rotr 17 x ^^^ rotr 19 x : Nat) : Int) ((x : Int) / 1024) = (ss0 x : Nat) := by
            have h := xor32 (rotr 17 x ^^^ rotr 19 x) (x / 1024) (xor_lt32 (rotr_lt hxl) (rotr_lt hxl)) (by omega)
            simpa [ss0] using h
          have e3 : bits BinOp.xor IntKind.u32 (rotr 7 y : Nat) (rotr 18 y : Nat) = ((rotr 7 y ^^^ rotr 18 y : Nat) : Int) := xor32 _ _ (rotr_lt hyl) (rotr_lt hyl)
          have e4 : bits BinOp.xor IntKind.u32 ((rotr 7 y ^^^ rotr 18 y : Nat) : Int) ((y : Int) / 8) = (ss1 y : Nat) := by
            have h := xor32 (rotr 7 y ^^^ rotr 18 y) (y / 8) (xor_lt32 (rotr_lt hyl) (rotr_lt hyl)) (by omega)
            simpa [ss1] using h
          have v2 : IntKind.i64.wrap ((k : Int) - 2) = k - 2 := by simp [IntKind.wrap, IntKind.bits, IntKind.signed]; omega
          have v15 : IntKind.i64.wrap ((k : Int) - 15) = k - 15 := by simp [IntKind.wrap, IntKind.bits, IntKind.signed]; omega
          have v7 : IntKind.i64.wrap ((k : Int) - 7) = k - 7 := by simp [IntKind.wrap, IntKind.bits, IntKind.signed]; omega
          have v16 : IntKind.i64.wrap ((k : Int) - 16) = k - 16 := by simp [IntKind.wrap, IntKind.bits, IntKind.signed]; omega
          have a2 : (0 : Int) ≤ (k : Int) - 2 := by omega
          have a15 : (0 : Int) ≤ (k : Int) - 15 := by omega
          have a7 : (0 : Int) ≤ (k : Int) - 7 := by omega
          have a16 : (0 : Int) ≤ (k : Int) - 16 := by omega
          have b2 : (2 : Int) ≤ (k : Int) := by omega
          have b15 : (15 : Int) ≤ (k : Int) := by omega
          have b7 : (7 : Int) ≤ (k : Int) := by omega
          have b16 : (16 : Int) ≤ (k : Int) := by omega
          have d2 : (k : Int) - 2 < 64 := by omega
          have d15 : (k : Int) - 15 < 64 := by omega
          have d7 : (k : Int) - 7 < 64 := by omega
          have d16 : (k : Int) - 16 < 64 := by omega
          have d0 : (k : Int) < 64 := by omega
          have c0 : (0 : Int) ≤ (k : Int) := by omega
          have n2 : ((k : Int) - 2).toNat = k - 2 := by omega
          have n15 : ((k : Int) - 15).toNat = k - 15 := by omega
          have n7 : ((k : Int) - 7).toNat = k - 7 := by omega
          have n16 : ((k : Int) - 16).toNat = k - 16 := by omega
          clear hx hy hp hq
          have e5 : IntKind.u32.wrap ((p : Int) + q) = ((p + q) % 4294967296 : Nat) := wrap_add32 _ _
          have e6 : IntKind.u32.wrap ((((p + q) % 4294967296 : Nat) : Int) + (ss0 x : Nat)) = (((p + q) % 4294967296 + ss0 x) % 4294967296 : Nat) := wrap_add32 _ _
          have e7 : IntKind.u32.wrap (((((p + q) % 4294967296 + ss0 x) % 4294967296 : Nat) : Int) + (ss1 y : Nat)) = (nextW (schedL b k) k : Nat) := by
            rw [wrap_add32, HV.out, mod4 _ _ _ _ _ (by decide)]
          generalize ((p + q) % 4294967296 + ss0 x) % 4294967296 = z2 at e6 e7
          generalize (p + q) % 4294967296 = z1 at e5 e6
          generalize hnw : nextW (schedL b k) k = nw at e7
          have HNW := hide hnw
          clear hnw
          go_upto_region 8 with (fail)
          go_region_held3 (fun V => V.cell? ⟨g, k - 2, none⟩ = some (.int .u32 x) ∧ V.cell? ⟨g, k - 15, none⟩ = some (.int .u32 y))
            (first | with_reducible exact (hold.out _).1 | with_reducible exact (hold.out 0).1 | exact (hold.out 1).1)
            (fail)
          go_upto_region 11 with (first | (go_at_call 95; ((first | with_reducible refine (rotm17 _ hxl _).mono ?_ | with_reducible refine (rotm19 _ hxl _).mono ?_ | with_reducible refine (rotm7 _ hyl _).mono ?_ | with_reducible refine (rotm18 _ hyl _).mono ?_)); rintro e w1 ⟨rfl, rfl⟩))
          clear hxl hyl hpl hql hk1 hk2 hlt
          obtain ⟨_, c7', c16', f0', xv, cx'⟩ := hold.out 0
          have c7 : wr.cell? ⟨g, k - 7, none⟩ = some (.int .u32 p) := c7'
          have c16 : wr.cell? ⟨g, k - 16, none⟩ = some (.int .u32 q) := c16'
          have f0 : wr.frozen? ⟨g, k, none⟩ = false := f0'
          have cx : wr.cell? ⟨g, k, none⟩ = some xv := cx'
          clear c7' c16' f0' cx'
          go_region_held3 (fun V => V.cell? ⟨g, k - 7, none⟩ = some (.int .u32 p) ∧ V.cell? ⟨g, k - 16, none⟩ = some (.int .u32 q) ∧ V.frozen? ⟨g, k, none⟩ = false ∧ ∃ x : Value, V.cell? ⟨g, k, none⟩ = some x)
            (first | with_reducible exact (hold.out _).2 | with_reducible exact (hold.out 0).2 | exact (hold.out 1).2 | with_reducible exact hold2.out _ | exact hold2.out _)
            (fail)
          clear e1 e2 e3 e4 e5 e6 e7 v2 v15 v7 v16 n2 n15 n7 n16 c7 c16 f0 cx
          all_goals
            go_wp2
            go_roundw
          case rel =>
            refine ⟨k + 1, by omega, by omega, by go_num, ?_, by first | exact only_setCell B3.out (.inl rfl) _ | exact only_drew (only_setCell B3.out (.inl rfl) _) | exact only_drew (only_drew (only_setCell B3.out (.inl rfl) _))⟩
            have r := B1.out.set_ k (.int .u32 (nw : Nat))
            have e : (wv (wsK b k)).toArray.setIfInBounds k (.int .u32 (nw : Nat)) = (wv ((wsK b k).set k nw)).toArray := by simp [List.map_set]
            have n := wsK_next b (k := k) (by omega)
            rw [if_neg (by omega), HNW.out] at n
            rw [e, n] at r
            exact r
          case measure => simp [intOf]; omega
        · obtain rfl : k = 64 := by omega
          clear hlt
          go_wp2
          go_end0
          exact ⟨rfl, by have h := B1.out; rw [wsK, Nat.sub_self] at h; simpa using h, B3.out⟩
end Go.Proofs.YtbbobffedgcbhaaGreatDoor
