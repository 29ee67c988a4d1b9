/- FrameBack's walk. -/
import Derived.Test.YtgmpcgcmcheelaaFeedB
import Derived.Test.YtgmpcgcmcheelaaBackM
namespace Go.Proofs.Ytgmpcgcmcheelaa
open Go.RowKit
set_option linter.unusedVariables false

def FeedX (B : Nat) (w : World) (h1 : Bs) (b1 : List Bs) (n1 m1 : Nat) (e : Ending) (w' : World) : Prop :=
  ∃ A c Bo cb, e = .returned (.tuple #[stV A n1 c false, .slice Bo m1 cb, .int .i64 0]) ∧ RowsX B w' Bo m1 cb b1 ∧ Rd w' A n1 h1 ∧ Below w.heap.size w w' ∧ ∀ x, A = some x → B ≤ x.block
theorem FeedB.x {B : Nat} {w w' : World} {h b h1 : Bs} {b1 : List Bs} {n' m' : Nat} {e : Ending} (f : FeedB w h b n' m' e w') (hB : B ≤ w.heap.size) (e1 : (readD (h ++ b)).2.1 = h1) (e2 : (readD (h ++ b)).1 = b1) : FeedX B w h1 b1 n' m' e w' := by
  subst e1 e2
  obtain ⟨A, c, Bo, cb, rfl, ⟨vs, x1, x2, x3⟩, q2, q3, q4⟩ := f
  exact ⟨A, c, Bo, cb, rfl, ⟨vs, own_more x1 hB, x2, fun u hu x n c e => Nat.le_trans hB (x3 u hu x n c e)⟩, q2, q3, fun x hx => Nat.le_trans hB (q4 x hx)⟩
set_option maxRecDepth 10000 in
set_option maxHeartbeats 8000000 in
theorem back_law (L : Option Addr) (N C : Nat) (l : List Bs) (w : World) (hl : RowsP w L N l) :
    Calls Try.prog 5 #[.slice L N C] w fun e w' => e = .returned (.bool true) ∧ Below w.heap.size w w' := by
  have K0 := hide (Below.refl w.heap.size w)
  have HL := hide hl
  have HN := hide hl.len
  clear hl
  obtain ⟨i0, hi, hz0, hz1, hz2⟩ := info_parts infoU8
  by_cases h10 : 10 < N
  · have g10 : (10 : Int) < N := by omega
    go_enter Try.func5, Try.ntmps5
    go_wp2_with fail
    refine (heads_any _).mono ?_
    rintro e wh ⟨rfl, kh⟩
    have SH : Hid (Below w.heap.size w wh) := hide (below_more (h := by ((repeat (first | with_reducible exact Below.refl _ _ | with_reducible refine Below.alloc ?_ ?_ _)); all_goals (first | exact Nat.le_refl _ | (simp; done) | (simp; omega)))) (hB := Nat.le_refl _) (k := kh))
    have KH := hide (below_more K0.out (Nat.le_refl _) SH.out)
    clear kh
    go_wp2
    go_ret
    exact ⟨rfl, KH.out⟩
  have g10 : ¬ (10 : Int) < N := by omega
  go_enter Try.func5, Try.ntmps5
  go_wp2_with fail
  go_loopw [4, 3] (fun i v wr => ∃ (k : Nat) (X : Option Addr) (m cx : Nat), k ≤ N ∧ i = .int .i64 k ∧ v = .slice X m cx ∧ wr.ownsRow w.heap.size 5 1 (.slice X m cx) m (bv (encs (l.take k))) ∧ Below w.heap.size w wr ∧ m ≤ 302 * k ∧ ∀ b ∈ l.take k, 1 ≤ b.length ∧ b.length ≤ 300) (fun i _ _ => N - (intOf i).toNat)
  case atStart => exact ⟨0, none, 0, 0, Nat.zero_le _, rfl, rfl, World.ownsRow_nil _ _ _ _, Below.refl _ _, Nat.zero_le _, fun b hb => by cases hb⟩
  case round =>
    obtain ⟨k, X, m, cx, hk, rfl, rfl, ho, hbel, hm, hall⟩ := hrel
    have KR := hide hbel
    have HO := hide ho
    have HAll := hide hall
    clear ho hbel hall
    by_cases hlt : k < N
    · obtain ⟨vs1, r1, v1⟩ := HL.out
      obtain ⟨a1, u1, hL1, hb1, hu1, hc1⟩ := r1.at_ hlt
      subst hL1
      have hkl : k < l.length := by rw [HN.out]; exact hlt
      obtain ⟨X1, n1, c1, rfl, q1⟩ := v1.2 k u1 l[k] hu1 (List.getElem?_eq_getElem hkl)
      have hblk : (a1.add k).block < w.heap.size := World.block_lt_of_cell? w _ hc1
      have HCL : Hid (∀ V, Below w.heap.size w V → V.cell? (a1.add k) = some (.slice X1 n1 c1)) := hide fun V hV => (hV.cell hblk).trans hc1
      have HQ := hide q1
      have hlb : Hid (l[k].length = n1) := hide (Rd_len q1)
      have hTK : Hid (l.take (k + 1) = l.take k ++ [l[k]]) := hide (take_one hkl)
      clear r1 v1 hu1 q1 hc1 hb1
      generalize l[k] = b at HQ hlb hTK
      have hi0 : (0 : Int) ≤ (k : Int) := by omega
      have hi1 : (k : Int) < (N : Int) := by omega
      have hcw := HCL.out _ KR.out
      by_cases hn : n1 < 1 ∨ 4096 < n1
      · go_wp2_with fail
        refine (fput_no X1 n1 c1 _ hn).mono ?_
        rintro e w1 ⟨rfl, k1⟩
        have K1 := hide (below_more KR.out (Nat.le_refl _) k1)
        have hcw1 := HCL.out _ K1.out
        clear k1 hcw
        rcases hn with hn | hn
        · obtain rfl : n1 = 0 := by omega
          go_wp2_with fail
          refine (heads_any _).mono ?_
          rintro e wh ⟨rfl, kh⟩
          have SH : Hid (Below w1.heap.size w1 wh) := hide (below_more (h := by ((repeat (first | with_reducible exact Below.refl _ _ | with_reducible refine Below.alloc ?_ ?_ _)); all_goals (first | exact Nat.le_refl _ | (simp; done) | (simp; omega)))) (hB := Nat.le_refl _) (k := kh))
          have KH := hide (below_more K1.out (Nat.le_refl _) SH.out)
          clear kh
          go_wp2
          go_ret
          exact ⟨rfl, KH.out⟩
        · have hn1 : (300 : Int) < n1 := by omega
          have hn2 : (4096 : Int) < n1 := by omega
          have hn3 : ((n1 : Int) == 0) = false := beq_eq_false_iff_ne.2 (by omega)
          go_wp2_with fail
          refine (heads_any _).mono ?_
          rintro e wh ⟨rfl, kh⟩
          have SH : Hid (Below w1.heap.size w1 wh) := hide (below_more (h := by ((repeat (first | with_reducible exact Below.refl _ _ | with_reducible refine Below.alloc ?_ ?_ _)); all_goals (first | exact Nat.le_refl _ | (simp; done) | (simp; omega)))) (hB := Nat.le_refl _) (k := kh))
          have KH := hide (below_more K1.out (Nat.le_refl _) SH.out)
          clear kh
          go_wp2
          go_ret
          exact ⟨rfl, KH.out⟩
      have hn4 : 1 ≤ n1 ∧ n1 ≤ 4096 := by omega
      have hn5 := hn4.1
      have hn6 := hn4.2
      clear hn hn4
      go_wp2_with fail
      refine (fput_yes X1 n1 c1 b _ (Rd.up HQ.out KR.out) hn5 hn6).mono ?_
      rintro e w1 ⟨J, j, rfl, o4, k4⟩
      have K1 := hide (below_more KR.out (Nat.le_refl _) k4)
      have hcw1 := HCL.out _ K1.out
      have HO1 := hide (own_below HO.out k4)
      have HJ : Hid (Reads w1 w1.heap.size 1 J (2 + n1) (bv (be 2 n1 ++ b))) := hide (Reads.of_own o4)
      clear k4 o4 hcw
      by_cases h3 : 300 < n1
      · have hn1 : (300 : Int) < n1 := by omega
        have hn2 : decide ((4096 : Int) < n1) = false := decide_eq_false (by omega)
        have hn3 : ((n1 : Int) == 0) = false := beq_eq_false_iff_ne.2 (by omega)
        go_wp2_with fail
        refine (heads_any _).mono ?_
        rintro e wh ⟨rfl, kh⟩
        have SH : Hid (Below w1.heap.size w1 wh) := hide (below_more (h := by ((repeat (first | with_reducible exact Below.refl _ _ | with_reducible refine Below.alloc ?_ ?_ _)); all_goals (first | exact Nat.le_refl _ | (simp; done) | (simp; omega)))) (hB := Nat.le_refl _) (k := kh))
        have KH := hide (below_more K1.out (Nat.le_refl _) SH.out)
        clear kh
        go_wp2
        go_ret
        exact ⟨rfl, KH.out⟩
      have hn1 : ¬ (300 : Int) < n1 := by omega
      have hr1 := HJ.out
      have ho1 := HO1.out
      go_wp2_with (at_builtin; (refine wpList_append_any _ rfl (.tmp 63) (.tmp 64) 22 rfl w.heap.size 5 i0 _ 1 1 Try.underlying22 hi hz0 hz1 hz2 rfl (by omega) (.slice X m cx) m (bv (encs (l.take k))) rfl ho1 w1.heap.size J (2 + n1) j (bv (be 2 n1 ++ b)) rfl hr1 (bv_one _) ?c1 ?c2 ?c3 ?_))
      case c1 => unfold maxLen; omega
      case c2 => omega
      case c3 => exact K1.out.size
      intro u2 w2 hown1 hg1 hat1
      obtain ⟨X2, y2, rfl⟩ := own_slice hown1
      have K2 := hide (Below.grown (h := K1.out) (hg := hg1) K1.out.size (fun g hg => (World.ownsRow.lt ho1 g hg).1))
      have HO2 := hide hown1
      clear hg1 hat1 hown1 hr1 ho1
      go_wp2
      go_roundw
      case rel =>
        refine ⟨k + 1, X2, m + (2 + n1), y2, by omega, by go_num, rfl, ?_, K2.out, by omega, ?_⟩
        · rw [hTK.out, encs_snoc, bv_append]
          unfold enc1
          rw [hlb.out]
          exact HO2.out
        · rw [hTK.out]
          intro x hx
          rcases List.mem_append.1 hx with h | h
          · exact HAll.out x h
          · obtain rfl := List.mem_singleton.1 h
            rw [hlb.out]; omega
      case measure => simp [intOf]; omega
    · have hkN : k = N := by omega
      subst hkN
      obtain ⟨E, hE⟩ : ∃ E, encs l = E := ⟨_, rfl⟩
      have hcx := own_caps HO.out
      have hTk : l.take k = l := List.take_of_length_le (by rw [HN.out]; exact Nat.le_refl _)
      have HA2 : Hid (∀ b ∈ l, 1 ≤ b.length ∧ b.length ≤ 300) := hide (by rw [← hTk]; exact HAll.out)
      have HRE : Hid (readD E = (l, [], 0)) := hide (by rw [← hE]; exact read_encs l fun b hb => ⟨(HA2.out b hb).1, by have := (HA2.out b hb).2; omega⟩)
      have HX : Hid (Rd _ X m E) := hide (by rw [← hE]; have := Reads.of_own HO.out; rw [hTk] at this; exact this)
      have lE := hide HX.out.len
      clear hE hTk HAll HO HA2
      have hmm : m ≤ 3020 := by omega
      go_wp2_with fail
      refine (all_any X m cx E _ HX.out (by omega)).mono ?_
      rintro e w5 ⟨B5, m5, c5, rfl, q5, k5⟩
      have K5 := hide (below_more KR.out (Nat.le_refl _) k5)
      have X5 := hide (Rd.up HX.out k5)
      have L5 := hide (HL.out.below K5.out)
      have hE0 : (readD E).2.2 = 0 := by rw [HRE.out]
      have hAB : allB E = l := by unfold allB; rw [HRE.out]; rfl
      rw [hAB] at q5
      have R5 := hide q5
      have hm5 : m5 = k := by rw [← HN.out]; exact q5.len.symm
      subst hm5
      rw [hE0]
      clear hE0 hAB k5 q5 HX KR K0
      go_wp2_with fail
      go_loopw [11, 10] (fun i o wr => ∃ (k : Nat) (A : Option Addr) (n c : Nat) (O : Option Addr) (q co : Nat), k ≤ m ∧ i = .int .i64 k ∧ o = .slice O q co ∧ Blk wr w5.heap.size 24 #[.slice A n c, .bool false] ∧ OutS (w5.heap.size + 1) wr O q co (readD (E.take k)).1 ∧ Rd wr A n (readD (E.take k)).2.1 ∧ Below w5.heap.size w5 wr) (fun i _ _ => m - (intOf i).toNat)
      case atStart => exact ⟨0, none, 0, 0, none, 0, 0, Nat.zero_le _, rfl, rfl, Blk.new w5 24 _, OutS.nil _ _, Reads.none_, (Below.refl _ _).alloc (Nat.le_refl _) _⟩
      case round =>
        obtain ⟨k, A, n, c, O, q, co, hk, rfl, rfl, b9, out, rd, bel⟩ := hrel
        have KR := hide bel
        have B9 := hide b9
        have OU := hide out
        have RA := hide rd
        have zk := B9.out.lt
        clear b9 out rd bel
        obtain ⟨x9, y9, z9, u9⟩ := B9.out.two
        by_cases hlt : k < m
        · have hkE : k < E.length := by rw [lE.out]; exact hlt
          have hb5 : (readD (E.take k ++ [E[k]] ++ E.drop (k + 1))).2.2 ≠ 5 := by
            rw [← take_one hkE, List.take_append_drop, HRE.out]; show (0 : Int) ≠ 5; decide
          obtain ⟨hok, h5, heq⟩ := read_byte hb5
          rw [← take_one hkE] at heq
          have ll := read_len _ (E.take k) (Nat.le_refl _)
          rw [RA.out.len, OU.out.rowsP.len, List.length_take, lE.out] at ll
          have ln : n ≤ k := by omega
          have lq : q ≤ k := by omega
          have HSL : Hid (Rd wr (X.map (·.add k)) 1 [E[k]]) := hide (by
            have h := Reads.mid (Rd.up X5.out KR.out) (l := k) (z := 1) (by omega)
            rw [← bv_drop, ← bv_take, drop_one hkE] at h
            exact h)
          have hsl : ∀ V, (Instr.slice 22 (.slice X m cx) (some (.int .i64 (k : Int))) (some (.int .i64 ((k : Int) + 1))) none).run Try.prog V = .ok (.slice (X.map (·.add k)) 1 (cx - k)) V := fun V => by
            rw [run_slice_lh V 22 X m cx (slice_ht Try.underlying22) .i64 .i64 (k : Int) ((k : Int) + 1) (by omega) (by omega) (by omega), elemU8, run_sizeOf_one 5 sizeU8]
            have e1 : ((k : Int) + 1).toNat = k + 1 := by omega
            have e2 : ¬ cx = k := by omega
            simp only [Result.andThen, sliced, e1, Int.toNat_natCast, Nat.mul_one, if_neg e2, Nat.add_sub_cancel_left]
          generalize X.map (·.add k) = XK at HSL hsl
          obtain ⟨h1, hh1⟩ : ∃ x, (readD ((readD (E.take k)).2.1 ++ [E[k]])).2.1 = x := ⟨_, rfl⟩
          obtain ⟨b1, hb1⟩ : ∃ x, (readD ((readD (E.take k)).2.1 ++ [E[k]])).1 = x := ⟨_, rfl⟩
          obtain ⟨n1, hn1⟩ : ∃ x, h1.length = x := ⟨_, rfl⟩
          obtain ⟨m1, hm1⟩ : ∃ x, b1.length = x := ⟨_, rfl⟩
          have lx := read_len _ ((readD (E.take k)).2.1 ++ [E[k]]) (Nat.le_refl _)
          rw [hh1, hb1, hn1, hm1, List.length_append, RA.out.len] at lx
          have lxa : n1 ≤ n + 1 := lx.1
          have lxb : m1 ≤ n + 1 := lx.2
          have XF := hide (fun V (hV : Below wr.heap.size wr V) => (feed_b A n c (readD (E.take k)).2.1 XK 1 (cx - k) [E[k]] V (Rd.up RA.out hV) (Rd.up HSL.out hV) (by omega) (by omega) hok h5 n1 m1 (by rw [hh1]; exact hn1) (by rw [hb1]; exact hm1)).mono fun e w' f => FeedB.x f hV.size hh1 hb1)
          have HTK1 : Hid ((readD (E.take (k + 1))).1 = (readD (E.take k)).1 ++ b1) := hide (by rw [heq]; show (readD (E.take k)).1 ++ (readD ((readD (E.take k)).2.1 ++ [E[k]])).1 = _; rw [hb1])
          have HTK2 : Hid ((readD (E.take (k + 1))).2.1 = h1) := hide (by rw [heq]; exact hh1)
          clear heq hok h5 hb5 ll lx hh1 hb1 hn1 hm1
          have allS : Hid (∀ V, Below wr.heap.size wr V → V.cell? ⟨w5.heap.size, 0, none⟩ = some (.slice A n c) ∧ V.cell? ⟨w5.heap.size, 1, none⟩ = some (.bool false)) := hide fun V hV => blk2a (B9.out.below hV B9.out.lt)
          have hi0 : (0 : Int) ≤ (k : Int) := by omega
          have hi1 : (k : Int) < (m : Int) := by omega
          have hwr : IntKind.i64.wrap ((k : Int) + 1) = (k : Int) + 1 := by simp [IntKind.wrap, IntKind.bits, IntKind.signed]; omega
          go_upto_region 17 with (fail)
          go_cut [12, 13, 14] (fun t0 t1 t2 wy => ∃ (g : Nat) (A' : Option Addr) (c' : Nat) (B' : Option Addr) (d' : Nat), t0 = .pointer (some ⟨g, 0, none⟩) ∧ t1 = .slice B' m1 d' ∧ t2 = .int .i64 0 ∧ Blk wy g 24 #[.slice A' n1 c', .bool false] ∧ RowsX wr.heap.size wy B' m1 d' b1 ∧ Rd wy A' n1 h1 ∧ Below wr.heap.size wr wy ∧ ∀ x, A' = some x → wr.heap.size ≤ x.block)
          case first =>
            have kW := hide (Below.refl wr.heap.size wr)
            have zW := hide (Nat.le_refl wr.heap.size)
            go_region_held3 (fun V => V.cell? ⟨w5.heap.size, 0, none⟩ = some (.slice A n c) ∧ V.cell? ⟨w5.heap.size, 1, none⟩ = some (.bool false))
              (first | with_reducible exact allS.out _ (Below.drew kW.out) | with_reducible exact allS.out _ kW.out | with_reducible exact allS.out _ (Below.alloc kW.out kW.out.size _) | with_reducible exact allS.out _ (Below.drew (Below.alloc kW.out kW.out.size _)) | with_reducible exact allS.out _ (Below.set2_ kW.out zW.out _ _))
              (first
                | (go_at_call 8; with_reducible refine (XF.out _ (Below.drew kW.out)).mono ?_
                   rintro e wx7 ⟨A7, c7, B7, d7, rfl, q7, p7, k7, f7⟩
                   have Q := hide q7
                   have P := hide p7
                   have F := hide f7
                   have kX := hide (below_more (Below.drew kW.out) (Nat.le_refl _) k7)
                   clear kW
                   have kW := hide kX.out
                   clear q7 p7 k7 f7 kX)
                | (go_at_call 8; with_reducible refine (XF.out _ (Below.drew (Below.alloc kW.out kW.out.size _))).mono ?_
                   rintro e wx7 ⟨A7, c7, B7, d7, rfl, q7, p7, k7, f7⟩
                   have Q := hide q7
                   have P := hide p7
                   have F := hide f7
                   have kX := hide (below_more (Below.drew (Below.alloc kW.out kW.out.size (.cells #[.slice none 0 0, .bool false] 24))) (Nat.le_refl _) k7)
                   have B8 := hide (Blk.below (h := (Blk.new wr 24 #[.slice none 0 0, .bool false]).drew) (hb := k7) (Blk.lt (Blk.new wr 24 #[.slice none 0 0, .bool false])))
                   obtain ⟨r0, r1, f0, f1⟩ := B8.out.two
                   clear kW
                   have kW := hide kX.out
                   clear q7 p7 k7 f7 kX))
            all_goals
              go_wp2_with fail
              go_meet
            all_goals
              first
                | with_reducible exact ⟨_, A7, c7, B7, d7, rfl, rfl, rfl, Blk.new wx7 24 _, RowsX.below Q.out ((Below.refl _ _).alloc (Nat.le_refl _) _), Rd.up P.out ((Below.refl _ _).alloc (Nat.le_refl _) _), kW.out.alloc kW.out.size _, F.out⟩
                | exact ⟨_, A7, c7, B7, d7, rfl, rfl, rfl, (B8.out.set_ 0 _).set_ 1 _, RowsX.set2_ B8.out Q.out _ _, rd_far B8.out P.out _ _, Below.set2_ kW.out zW.out _ _, F.out⟩
          case rest =>
            obtain ⟨g, A2, c2, B2, d2, rfl, rfl, rfl, b12, rx, f2, kc, fr⟩ := hcut
            have KC := hide (below_more KR.out (Nat.le_refl _) kc)
            have B9c := hide (B9.out.below kc B9.out.lt)
            have OUc := hide (OU.out.below kc)
            have B12 := hide b12
            have hO : Hid (∀ g, (Value.slice O q co).ownBlock = some g → w5.heap.size + 1 ≤ g ∧ g < wr.heap.size) := hide (fun g hg => by
              obtain ⟨_, o, _⟩ := OU.out
              exact World.ownsRow.lt o g hg)
            have F2 := hide f2
            have FR := hide fr
            have hkc := hide kc.size
            have zc := B9c.out.lt
            obtain ⟨vs, o1, v1, ni⟩ := OUc.out
            obtain ⟨vs', o2, v2, fv⟩ := rx
            have V1 := hide v1
            have V2 := hide v2
            have NI := hide ni
            have FV := hide fv
            have hr2 := Reads.of_own o2
            have i2 : ∀ u ∈ vs', u.oneCell' = true := v2.one
            have O1 := hide o1
            clear b12 f2 fr kc v1 v2 ni fv o2 allS XF HSL hsl x9 y9 z9 u9 OUc OU B9 KR RA
            obtain ⟨iR, hiR, hzR0, hzR1, hzR2⟩ := info_parts infoRow
            go_wp2_with (at_builtin; (refine wpList_append_any _ rfl (.tmp 91) (.tmp 92) 26 rfl (w5.heap.size + 1) 22 iR _ 1 24 Try.underlying26 hiR hzR0 hzR1 hzR2 rfl (by omega) (.slice O q co) q vs rfl o1 wc.heap.size B2 m1 d2 vs' rfl hr2 i2 ?a1 ?a2 ?a3 ?_))
            case a1 => unfold maxLen; omega
            case a2 => omega
            case a3 => omega
            intro u2 w2 hown hg hat
            obtain ⟨O2, co2, rfl⟩ := own_slice hown
            have OU2 := hide (out_grow hkc.out (fun g hg => (hO.out g hg).2) V1.out NI.out V2.out FV.out hown hg hat)
            have K2 := hide (Below.grown (h := KC.out) (hg := hg) KC.out.size (fun g hg => by have := (hO.out g hg).1; omega))
            have B92 := hide (B9c.out.grown hg (fun h => by have := (hO.out _ h.symm).1; omega))
            have B122 := hide (B12.out.grown hg (fun h => own_blk_ne O1.out B12.out (by decide) h.symm))
            have F22 : Hid (Rd w2 A2 n1 h1) := hide (Reads.grownAt F2.out hg (fun x hx _ h => by have h1 := (hO.out _ h.symm).2; have h2 := FR.out x hx; omega))
            clear hown hg hat o1 hr2 i2 O1 V1 V2 NI FV hO F2 FR B12 B9c KC
            obtain ⟨x9, y9, z9, u9⟩ := B92.out.two
            obtain ⟨x12, y12, z12, u12⟩ := B122.out.two
            go_wp2
            go_roundw
            case rel =>
              refine ⟨k + 1, A2, n1, c2, O2, q + m1, co2, by omega, by go_num, rfl, (B92.out.set_ 0 _).set_ 1 _, ?_, ?_, Below.set2_ K2.out (Nat.le_refl _) _ _⟩
              · rw [HTK1.out]; exact OutS.set2_ B92.out OU2.out _ _
              · rw [HTK2.out]; exact rd_far B92.out F22.out _ _
            case measure => simp [intOf]; omega
        · have hkm : k = m := by omega
          subst hkm
          have hT : E.take k = E := List.take_of_length_le (by rw [lE.out]; exact Nat.le_refl _)
          have hO1 := OU.out.rowsP
          rw [hT, HRE.out] at hO1
          have hA1 := RA.out
          rw [hT, HRE.out] at hA1
          have hn0 : n = 0 := hA1.len.symm
          have hq : q = m5 := by rw [← HN.out]; exact hO1.len.symm
          subst hn0 hq
          have R6 := hide (R5.out.below KR.out)
          have L6 := hide (L5.out.below KR.out)
          have O6 : Hid (RowsP wr O q l) := hide hO1
          clear hO1 hA1 RA OU hT R5 L5 X5
          have K6 := hide (below_more K5.out (Nat.le_refl _) (KR.out.mono (Nat.le_refl _)))
          go_wp2_with fail
          refine (rows_any B5 _ c5 L C l _ R6.out L6.out (by omega)).mono ?_
          rintro e w7 ⟨rfl, k7⟩
          have O7 := hide (O6.out.below k7)
          have L7 := hide (L6.out.below k7)
          have B97 := hide (B9.out.below k7 B9.out.lt)
          have K7 := hide (below_more K6.out (Nat.le_refl _) k7)
          clear k7 O6 L6 R6 B9 K6 KR x9 y9 z9 u9 zk
          go_wp2_with fail
          refine (rows_any O _ co L C l _ O7.out L7.out (by omega)).mono ?_
          rintro e w8 ⟨rfl, k8⟩
          have B98 := hide (B97.out.below k8 B97.out.lt)
          have K8 := hide (below_more K7.out (Nat.le_refl _) k8)
          clear k8 B97 O7 L7 K7
          obtain ⟨x9, y9, z9, u9⟩ := B98.out.two
          go_wp2_with fail
          refine (heads_any _).mono ?_
          rintro e wh ⟨rfl, kh⟩
          have SH : Hid (Below w8.heap.size w8 wh) := hide (below_more (h := by ((repeat (first | with_reducible exact Below.refl _ _ | with_reducible refine Below.alloc ?_ ?_ _)); all_goals (first | exact Nat.le_refl _ | (simp; done) | (simp; omega)))) (hB := Nat.le_refl _) (k := kh))
          have KH := hide (below_more K8.out (Nat.le_refl _) SH.out)
          clear kh
          go_wp2
          go_ret
          exact ⟨rfl, KH.out⟩
end Go.Proofs.Ytgmpcgcmcheelaa
