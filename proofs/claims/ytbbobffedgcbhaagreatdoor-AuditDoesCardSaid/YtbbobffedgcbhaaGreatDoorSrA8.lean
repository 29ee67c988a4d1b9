/- The reference's contracts: keys, Start, spread. -/
import Derived.Test.YtbbobffedgcbhaaGreatDoorShaC8
import Derived.Test.YtbbobffedgcbhaaGreatDoorGr
import Derived.Outline
namespace Go.Proofs.YtbbobffedgcbhaaGreatDoor
open Go.RowKit
set_option linter.unusedVariables false
theorem info39 : (Tryz.prog.info? 143).map (fun i => (i.zero, i.size, i.bytes)) = some (some (.int .u32 0), 1, 4) := by kernel_rfl
theorem wv_one (ws : List Nat) : ∀ u ∈ wv ws, u.oneCell' = true := by
  intro u hu
  simp only [wv, List.mem_map] at hu
  obtain ⟨b, _, rfl⟩ := hu
  rfl
theorem wv_append (a b : List Nat) : wv (a ++ b) = wv a ++ wv b := by simp [wv]
set_option maxRecDepth 10000 in
set_option maxHeartbeats 1000000 in
theorem rkeys_any (w : World) : Calls Tryz.prog 92 #[] w fun e w' => e = .returned (.slice (some ⟨w.heap.size, 0, none⟩) 64 64) ∧ w.alloc (.cells (wv keysL).toArray 143) = w' := by
  go_enter Tryz.func92, Tryz.ntmps92
  go_wp2_with fail
  go_ret
  exact ⟨rfl, rfl⟩
set_option maxRecDepth 10000 in
set_option maxHeartbeats 1000000 in
theorem rstart_any (w : World) : Calls Tryz.prog 83 #[] w fun e w' => e = .returned (.slice (some ⟨w.heap.size, 0, none⟩) 8 8) ∧ w.alloc (.cells (wv firstS.list).toArray 143) = w' := by
  go_enter Tryz.func83, Tryz.ntmps83
  go_wp2_with fail
  go_ret
  exact ⟨rfl, rfl⟩
theorem numB4 (b : List UInt8) (t : Nat) (h : 4 * t + 4 ≤ b.length) : numB ((b.drop (4 * t)).take 4) = wordAt b t := by
  have e : (b.drop (4 * t)).take 4 = [b.getD (4 * t) 0, b.getD (4 * t + 1) 0, b.getD (4 * t + 2) 0, b.getD (4 * t + 3) 0] := by
    apply List.ext_getElem?
    intro j
    match j with
    | 0 => simp [List.getElem?_drop, List.getD_eq_getElem?_getD, List.getElem?_eq_getElem (show 4 * t < b.length by omega)]
    | 1 => simp [List.getElem?_drop, List.getD_eq_getElem?_getD, List.getElem?_eq_getElem (show 4 * t + 1 < b.length by omega)]
    | 2 => simp [List.getElem?_drop, List.getD_eq_getElem?_getD, List.getElem?_eq_getElem (show 4 * t + 2 < b.length by omega)]
    | 3 => simp [List.getElem?_drop, List.getD_eq_getElem?_getD, List.getElem?_eq_getElem (show 4 * t + 3 < b.length by omega)]
    | j + 4 => simp [List.getElem?_take]; omega
  rw [e]
  show ((((0 * 256 + (b.getD (4 * t) 0).toNat) * 256 + (b.getD (4 * t + 1) 0).toNat) * 256 + (b.getD (4 * t + 2) 0).toNat) * 256 + (b.getD (4 * t + 3) 0).toNat) = _
  rw [wordAt, word_sum _ _ _ _ (UInt8.toNat_lt _) (UInt8.toNat_lt _) (UInt8.toNat_lt _)]
  omega
theorem Reads.mid {w : World} {B n : Nat} {A : Option Addr} {xs : List Value} (h : Reads w B 1 A n xs) {l z : Nat} (hl : l + z ≤ n) : Reads w B 1 (A.map (·.add l)) z ((xs.drop l).take z) := by
  refine ⟨by rw [List.length_take, List.length_drop, h.1]; omega, fun h0 => ?_⟩
  obtain ⟨ad, e, hb, hc⟩ := h.2 (by omega)
  rw [e]
  refine ⟨ad.add l, rfl, by rw [block_of_add]; exact hb, fun j u hj => ?_⟩
  rw [add_of_add]
  rw [List.getElem?_take] at hj
  split at hj
  · rw [List.getElem?_drop] at hj; exact hc _ _ hj
  · cases hj
theorem run_slice_mid (A : Option Addr) (n c l h z : Nat) (hn : n ≤ c) (hz : l + z = h) (h1 : h ≤ n) (h0 : 0 < z) (W : World) :
    (Instr.slice 22 (.slice A n c) (some (.int .i64 (l : Int))) (some (.int .i64 (h : Int))) none).run Tryz.prog W = .ok (.slice (A.map (·.add l)) z (c - l)) W := by
  have hE : Tryz.prog.elem 22 = 5 := by simp [Program.elem, Tryz.underlying22]
  rw [run_slice_lh W 22 A n c (slice_ht Tryz.underlying22) .i64 .i64 l h (by omega) (by omega) (by omega), hE, run_sizeOf_one 5 sizeU8]
  have e2 : ¬ c = l := by omega
  simp only [Result.andThen, sliced, Int.toNat_natCast, Nat.mul_one, if_neg e2, show h - l = z by omega]
def RetOwn (w : World) (ws : List Nat) (e : Ending) (w' : World) : Prop :=
  ∃ g c, e = .returned (.slice (some ⟨g, 0, none⟩) ws.length c) ∧ w'.ownsRow w.heap.size 143 1 (.slice (some ⟨g, 0, none⟩) ws.length c) ws.length (wv ws) ∧ Below w.heap.size w w'
theorem own_cell {w : World} {base g n c : Nat} {ws : List Nat} (h : w.ownsRow base 143 1 (.slice (some ⟨g, 0, none⟩) n c) n (wv ws)) {j x : Nat} (hx : ws[j]? = some x) : w.cell? ⟨g, j, none⟩ = some (.int .u32 x) := by
  have := h.cells (g := g) rfl j (.int .u32 x) (by simp [hx])
  rw [at_add, Nat.zero_add] at this
  exact this
theorem sched_get (b : List UInt8) {k j : Nat} (h : j < k) : (schedL b k)[j]? = some ((schedL b k).getD j 0) := by
  have hl := schedL_length b k
  rw [List.getD_eq_getElem?_getD, List.getElem?_eq_getElem (by omega)]
  rfl
set_option maxRecDepth 10000 in
set_option maxHeartbeats 4000000 in
theorem spread_any (A : Option Addr) (c : Nat) (b : List UInt8) (w : World) (hr : Rd w A 64 b) (hc : 64 ≤ c) :
    Calls Tryz.prog 91 #[.slice A 64 c] w (RetOwn w (schedL b 64)) := by
  obtain ⟨i0, hi, hz0, hz1, hz2⟩ := info_parts info39
  have hl : b.length = 64 := hr.len
  have HR := hide hr
  have HL := hide hl
  clear hr hl
  go_enter Tryz.func91, Tryz.ntmps91
  go_wp2_with fail
  go_loopw [3, 4] (fun u3 u4 wx => ∃ (k : Nat) (A' : Option Addr) (c' : Nat), k ≤ 16 ∧ u4 = .int .i64 k ∧ u3 = .slice A' k c' ∧ wx.ownsRow w.heap.size 143 1 (.slice A' k c') k (wv (schedL b k)) ∧ Below w.heap.size w wx) (fun _ i _ => 16 - (intOf i).toNat)
  case atStart => exact ⟨0, none, 0, Nat.zero_le _, rfl, rfl, World.ownsRow_nil _ _ _ _, Below.refl _ _⟩
  case round =>
    obtain ⟨k, A', c', hk, rfl, rfl, ho, hbe⟩ := hrel
    have HO := hide ho
    have HBE := hide hbe
    have hsz := hbe.size
    clear ho hbe
    by_cases hlt : k < 16
    · have hsl := fun W => run_slice_mid A 64 c (4 * k) (4 * k + 4) 4 hc rfl (by omega) (by omega) W
      rw [show ((4 * k + 4 : Nat) : Int) = 4 * (k : Int) + 4 by omega, show ((4 * k : Nat) : Int) = 4 * (k : Int) by omega] at hsl
      have hmid := Reads.mid (Reads.below HR.out HBE.out) (l := 4 * k) (z := 4) (by omega)
      rw [← bv_drop, ← bv_take] at hmid
      have hmid' := hide (hmid.more hsz)
      have hnum := numB4 b k (by rw [HL.out]; omega)
      have HN := hide hnum
      have hwl : wordAt b k < 4294967296 := wordAt_lt b k
      have hnx : schedL b (k + 1) = schedL b k ++ [wordAt b k] := by rw [schedL, if_pos hlt]
      have HNX := hide hnx
      generalize A.map (·.add (4 * k)) = XA at hsl hmid'
      clear hmid hnum hnx
      go_wp2_with fail
      refine (rget_yes XA 4 (c - 4 * k) _ _ (by omega) (by omega) hmid'.out).mono ?_
      rintro e w1 ⟨rfl, rfl⟩
      rw [HN.out]
      obtain ⟨x, hx⟩ : ∃ x, wordAt b k = x := ⟨_, rfl⟩
      have HX := hide hx
      rw [hx] at hwl ⊢
      clear hx
      have e1 : IntKind.u32.wrap (x : Int) = (x : Int) := wrap_u32 x hwl
      have hone : Reads (wr.alloc (.cells #[.int .u32 (x : Int)] 143)) (wr.heap.size + 1) 1 (some ⟨wr.heap.size, 0, none⟩) 1 (wv [x]) := by
        refine ⟨rfl, fun _ => ⟨_, rfl, Nat.lt_succ_self _, fun j u hu => ?_⟩⟩
        rw [at_add, Nat.zero_add, (Blk.new wr 143 #[.int .u32 (x : Int)]).cell j, ← hu]
        simp
      have HONE := hide hone
      clear hone hsl
      go_wp2_with (at_builtin; (refine wpList_append_any _ rfl (.tmp 27) (.tmp 30) 139 rfl w.heap.size 143 i0 _ 1 4 Tryz.underlying139 hi hz0 hz1 hz2 rfl (by omega) (.slice A' k c') k _ rfl (HO.out.alloc _) (wr.heap.size + 1) (some ⟨wr.heap.size, 0, none⟩) 1 1 (wv [x]) rfl HONE.out (wv_one _) (by unfold maxLen; omega) (by omega) (by simp; omega) ?_))
      intro v2 w2 ho2 hg2 hat2
      obtain ⟨A2, c2, rfl⟩ := own_slice ho2
      rw [show wv (schedL b k) ++ [Value.int IntKind.u32 (x : Int)] = wv (schedL b (k + 1)) by rw [HNX.out, HX.out]; simp] at ho2
      have HO2 := hide ho2
      have HB2 := hide (Below.grown (h := HBE.out.alloc HBE.out.size (.cells #[.int .u32 (x : Int)] 143)) (hg := hg2) (by simp; omega) (fun g hg => (World.ownsRow.lt HO.out g hg).1))
      clear ho2 hg2 hat2
      go_wp2_with fail
      clear e1
      go_roundw
      case rel => exact ⟨k + 1, A2, c2, by omega, by go_num, rfl, HO2.out, HB2.out⟩
      case measure => simp [intOf]; omega
    · obtain rfl : k = 16 := by omega
      obtain ⟨g0, cap0, hv0, _, _⟩ := HO.out.form (by omega)
      injection hv0 with hv0 _ hc0
      subst hv0
      subst hc0
      have HO16 := HO
      have HB16 := HBE
      clear hk hlt HO HBE hsz
      have h16 : ((16 : Nat) : Int) = 16 := rfl
      rw [h16]
      clear h16
      go_wp2_with fail
      go_loopw [3, 7] (fun u3 u7 wx => ∃ (k g c' : Nat), 16 ≤ k ∧ k ≤ 64 ∧ u7 = .int .i64 k ∧ u3 = .slice (some ⟨g, 0, none⟩) k c' ∧ wx.ownsRow w.heap.size 143 1 (.slice (some ⟨g, 0, none⟩) k c') k (wv (schedL b k)) ∧ Below w.heap.size w wx) (fun _ i _ => 64 - (intOf i).toNat)
      case atStart => exact ⟨16, _, _, Nat.le_refl _, by omega, rfl, rfl, HO16.out, HB16.out⟩
      case round =>
        clear HO16 HB16
        obtain ⟨k, g, c', hk1, hk2, rfl, rfl, ho, hbe⟩ := hrel
        have HO := hide ho
        have HBE := hide hbe
        have hsz := hbe.size
        have hglt := (ho.lt g rfl).2
        clear ho hbe
        by_cases hlt : k < 64
        · obtain ⟨x, hx⟩ : ∃ x, (schedL b k).getD (k - 2) 0 = x := ⟨_, rfl⟩
          obtain ⟨y, hy⟩ : ∃ y, (schedL b k).getD (k - 15) 0 = y := ⟨_, rfl⟩
          obtain ⟨p, hp⟩ : ∃ p, (schedL b k).getD (k - 7) 0 = p := ⟨_, rfl⟩
          obtain ⟨q, hq⟩ : ∃ q, (schedL b k).getD (k - 16) 0 = q := ⟨_, rfl⟩
          have hxl : x < 4294967296 := by rw [← hx]; exact schedK_lt _ _ _
          have hyl : y < 4294967296 := by rw [← hy]; exact schedK_lt _ _ _
          have HV : Hid (nextW (schedL b k) k = (p + q + ss0 x + ss1 y) % 4294967296) := hide (by unfold nextW; rw [hx, hy, hp, hq])
          have d2 : wr.cell? ⟨g, k - 2, none⟩ = some (.int .u32 x) := own_cell HO.out (by rw [sched_get b (by omega), hx])
          have d15 : wr.cell? ⟨g, k - 15, none⟩ = some (.int .u32 y) := own_cell HO.out (by rw [sched_get b (by omega), hy])
          have d7 : wr.cell? ⟨g, k - 7, none⟩ = some (.int .u32 p) := own_cell HO.out (by rw [sched_get b (by omega), hp])
          have d16 : wr.cell? ⟨g, k - 16, none⟩ = some (.int .u32 q) := own_cell HO.out (by rw [sched_get b (by omega), hq])
          have D2 := hide d2
          have D15 := hide d15
          have D7 := hide d7
          have D16 := hide d16
          clear d2 d15 d7 d16 hx hy hp hq
          have e1 : bits BinOp.xor IntKind.u32 (rotr 17 x : Nat) (rotr 19 x : Nat) = ((rotr 17 x ^^^ rotr 19 x : Nat) : Int) := xor32 _ _ (rotr_lt hxl) (rotr_lt hxl)
          have e2 : bits BinOp.xor IntKind.u32 ((rotr 17 x ^^^ rotr 19 x : Nat) : Int) ((x : Int) / 1024) = (ss0 x : Nat) := by
            have h := xor32 (rotr 17 x ^^^ rotr 19 x) (x / 1024) (xor_lt32 (rotr_lt hxl) (rotr_lt hxl)) (by omega)
            simpa [ss0] using h
          have e3 : bits BinOp.xor IntKind.u32 (rotr 7 y : Nat) (rotr 18 y : Nat) = ((rotr 7 y ^^^ rotr 18 y : Nat) : Int) := xor32 _ _ (rotr_lt hyl) (rotr_lt hyl)
          have e4 : bits BinOp.xor IntKind.u32 ((rotr 7 y ^^^ rotr 18 y : Nat) : Int) ((y : Int) / 8) = (ss1 y : Nat) := by
            have h := xor32 (rotr 7 y ^^^ rotr 18 y) (y / 8) (xor_lt32 (rotr_lt hyl) (rotr_lt hyl)) (by omega)
            simpa [ss1] using h
          have v2 : IntKind.i64.wrap ((k : Int) - 2) = k - 2 := by simp [IntKind.wrap, IntKind.bits, IntKind.signed]; omega
          have v15 : IntKind.i64.wrap ((k : Int) - 15) = k - 15 := by simp [IntKind.wrap, IntKind.bits, IntKind.signed]; omega
          have v7 : IntKind.i64.wrap ((k : Int) - 7) = k - 7 := by simp [IntKind.wrap, IntKind.bits, IntKind.signed]; omega
          have v16 : IntKind.i64.wrap ((k : Int) - 16) = k - 16 := by simp [IntKind.wrap, IntKind.bits, IntKind.signed]; omega
          have a2 : (0 : Int) ≤ (k : Int) - 2 := by omega
          have a15 : (0 : Int) ≤ (k : Int) - 15 := by omega
          have a7 : (0 : Int) ≤ (k : Int) - 7 := by omega
          have a16 : (0 : Int) ≤ (k : Int) - 16 := by omega
          have b2 : (2 : Int) ≤ (k : Int) := by omega
          have b15 : (15 : Int) ≤ (k : Int) := by omega
          have b7 : (7 : Int) ≤ (k : Int) := by omega
          have b16 : (16 : Int) ≤ (k : Int) := by omega
          have q2 : (k : Int) - 2 < (k : Int) := by omega
          have q15 : (k : Int) - 15 < (k : Int) := by omega
          have q7 : (k : Int) - 7 < (k : Int) := by omega
          have q16 : (k : Int) - 16 < (k : Int) := by omega
          have n2 : ((k : Int) - 2).toNat = k - 2 := by omega
          have n15 : ((k : Int) - 15).toNat = k - 15 := by omega
          have n7 : ((k : Int) - 7).toNat = k - 7 := by omega
          have n16 : ((k : Int) - 16).toNat = k - 16 := by omega
          have e5 : IntKind.u32.wrap (((ss0 x : Nat) : Int) + p) = ((ss0 x + p) % 4294967296 : Nat) := wrap_add32 _ _
          have e6 : IntKind.u32.wrap ((((ss0 x + p) % 4294967296 : Nat) : Int) + (ss1 y : Nat)) = (((ss0 x + p) % 4294967296 + ss1 y) % 4294967296 : Nat) := wrap_add32 _ _
          have e7 : IntKind.u32.wrap (((((ss0 x + p) % 4294967296 + ss1 y) % 4294967296 : Nat) : Int) + (q : Nat)) = (nextW (schedL b k) k : Nat) := by
            rw [wrap_add32, HV.out, mod4 _ _ _ _ _ (by decide)]
            congr 2
            omega
          generalize ((ss0 x + p) % 4294967296 + ss1 y) % 4294967296 = z2 at e6 e7
          generalize (ss0 x + p) % 4294967296 = z1 at e5 e6
          generalize hnw : nextW (schedL b k) k = nw at e7
          have hnx : schedL b (k + 1) = schedL b k ++ [nw] := by rw [schedL, if_neg (by omega), hnw]
          have HNX := hide hnx
          clear hnw hnx
          have s2 := D2.out
          have s15 := D15.out
          go_upto_region 10 with (fail)
          go_region_held3 (fun V => V.cell? ⟨g, k - 2, none⟩ = some (.int .u32 x) ∧ V.cell? ⟨g, k - 15, none⟩ = some (.int .u32 y)) (go_keep) (fail)
          clear s2 s15
          go_wp2_with fail
          refine (turned_any x 17 _ hxl (by omega) (by omega)).mono ?_
          rintro e w1 ⟨rfl, rfl⟩
          go_wp2_with fail
          refine (turned_any x 19 _ hxl (by omega) (by omega)).mono ?_
          rintro e w1 ⟨rfl, rfl⟩
          go_wp2_with fail
          refine (turned_any y 7 _ hyl (by omega) (by omega)).mono ?_
          rintro e w1 ⟨rfl, rfl⟩
          go_wp2_with fail
          refine (turned_any y 18 _ hyl (by omega) (by omega)).mono ?_
          rintro e w1 ⟨rfl, rfl⟩
          go_wp2_with fail
          clear e1 e2 e3 e4
          have s7 := D7.out
          have s16 := D16.out
          have hone : Reads (wr.alloc (.cells #[.int .u32 (nw : Int)] 143)).drew.drew (wr.heap.size + 1) 1 (some ⟨wr.heap.size, 0, none⟩) 1 (wv [nw]) := by
            refine ⟨rfl, fun _ => ⟨_, rfl, Nat.lt_succ_self _, fun j u hu => ?_⟩⟩
            rw [at_add, Nat.zero_add]
            show (wr.alloc (.cells #[.int .u32 (nw : Int)] 143)).cell? _ = _
            rw [(Blk.new wr 143 #[.int .u32 (nw : Int)]).cell j, ← hu]
            simp
          have HONE := hide hone
          clear hone
          go_region_law ((refine step_append_any _ (by rfl) (.tmp 62) (.tmp 78) 139 (by rfl) w.heap.size 143 i0 _ 1 4 Tryz.underlying139 hi hz0 hz1 hz2 rfl (by omega) (.slice (some ⟨g, 0, none⟩) k c') k _ (by rfl) (((HO.out.alloc _).drew).drew) (wr.heap.size + 1) (some ⟨wr.heap.size, 0, none⟩) 1 1 (wv [nw]) (by rfl) HONE.out (wv_one _) (by unfold maxLen; omega) (by omega) (by simp; omega) ?_
                          intro v2' w2 ho2 hg2 hat2))
          all_goals
            rw [show wv (schedL b k) ++ wv [nw] = wv (schedL b (k + 1)) by rw [HNX.out, wv_append]] at ho2
            obtain ⟨g2, cap2, hv2, _, _⟩ := ho2.form (by omega)
            subst hv2
            have HO2 := hide ho2
            have HB2 := hide (Below.grown (h := ((HBE.out.alloc HBE.out.size (.cells #[.int .u32 (nw : Int)] 143)).drew).drew) (hg := hg2) (by simp; omega) (fun g hg => (World.ownsRow.lt HO.out g hg).1))
            clear ho2 hg2 hat2 v2 v15 v7 v16 n2 n15 n7 n16 s7 s16 e5 e6 e7
            go_wp2_with fail
            go_roundw
          all_goals first
            | exact ⟨k + 1, g2, cap2, by omega, by omega, by go_num, rfl, HO2.out, HB2.out⟩
            | (simp [intOf]; omega)
        · obtain rfl : k = 64 := by omega
          clear hlt hk1 hk2
          go_wp2_with fail
          go_ret
          have e := schedL_length b 64
          exact ⟨g, c', by rw [e]; rfl, by rw [e]; exact HO.out, HBE.out⟩
end Go.Proofs.YtbbobffedgcbhaaGreatDoor
