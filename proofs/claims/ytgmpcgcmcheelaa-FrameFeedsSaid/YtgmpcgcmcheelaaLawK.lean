/- FrameCuts' walk. -/
import Derived.Test.YtgmpcgcmcheelaaLawO
import Derived.Test.YtgmpcgcmcheelaaFrameN
namespace Go.Proofs.Ytgmpcgcmcheelaa
open Go.RowKit
set_option linter.unusedVariables false

theorem Below.set2_ {B : Nat} {w0 w : World} (h : Below B w0 w) {g : Nat} (hB : B ≤ g) (a b : Value) : Below B w0 (set2 w g a b) := (h.setCell hB a).setCell hB b
theorem rowsW_far {w : World} {g : Nat} {X : Option Addr} {n c : Nat} {d : Bool} (hq : Blk w g 24 #[.slice X n c, .bool d]) {B : Nat} {Bo : Option Addr} {m cb : Nat} {bs : List Bs} (h : RowsW B w Bo m cb bs) (a b : Value) : RowsW B (set2 w g a b) Bo m cb bs := by
  obtain ⟨vs, h1, h2⟩ := h
  exact rows_far hq h1 h2 a b
theorem RowsV.one {w : World} {B : Nat} {vs : List Value} {bs : List Bs} (h : RowsV w B vs bs) : ∀ u ∈ vs, u.oneCell' = true := by
  intro u hu
  obtain ⟨j, hj, rfl⟩ := List.getElem_of_mem hu
  obtain ⟨A, n, c, e, _⟩ := h.2 j _ (bs[j]'(by rw [← h.1]; exact hj)) (List.getElem?_eq_getElem hj) (List.getElem?_eq_getElem _)
  rw [e]; rfl
theorem RowsV.app {w : World} {B : Nat} {vs us : List Value} {bs cs : List Bs} (h : RowsV w B vs bs) (h1 : RowsV w B us cs) : RowsV w B (vs ++ us) (bs ++ cs) := by
  refine ⟨by simp [h.1, h1.1], fun j v' b' hv hb => ?_⟩
  rcases Nat.lt_or_ge j vs.length with hj | hj
  · rw [List.getElem?_append_left hj] at hv
    rw [List.getElem?_append_left (by rw [← h.1]; exact hj)] at hb
    exact h.2 j v' b' hv hb
  · rw [List.getElem?_append_right hj] at hv
    rw [List.getElem?_append_right (by rw [← h.1]; exact hj), ← h.1] at hb
    exact h1.2 _ v' b' hv hb
theorem read_len : ∀ (k : Nat) (x : Bs), x.length ≤ k → (readD x).2.1.length ≤ x.length ∧ (readD x).1.length ≤ x.length := by
  intro k
  induction k with
  | zero =>
    intro x h
    obtain rfl := List.eq_nil_of_length_eq_zero (Nat.le_zero.1 h)
    exact ⟨Nat.le_refl _, Nat.le_refl _⟩
  | succ k ih =>
    intro x h
    by_cases h0 : x = []
    · subst h0; exact ⟨Nat.le_refl _, Nat.le_refl _⟩
    · rcases Nat.lt_or_ge x.length 2 with h1 | h2
      · rw [read_one h0 h1]; exact ⟨Nat.le_refl _, Nat.zero_le _⟩
      · cases hb : bad x
        · rcases Nat.lt_or_ge x.length (2 + numB (x.take 2)) with h3 | h4
          · rw [read_short h2 hb h3]; exact ⟨Nat.le_refl _, Nat.zero_le _⟩
          · rw [read_next h2 hb h4]
            have := ih (x.drop (2 + numB (x.take 2))) (by rw [List.length_drop]; omega)
            rw [List.length_drop] at this
            exact ⟨by show (readD (x.drop (2 + numB (x.take 2)))).2.1.length ≤ _; omega, by show (readD (x.drop (2 + numB (x.take 2)))).1.length + 1 ≤ _; omega⟩
        · rw [read_bad h2 hb]; exact ⟨Nat.zero_le _, Nat.zero_le _⟩
theorem ok_rest {x : Bs} (h : (readD x).2.2 ≠ 5) : okS (readD x).2.1 false = true := by
  obtain ⟨h1, h2⟩ := read_rest _ x (Nat.le_refl _) h
  unfold okS
  rw [if_neg (by decide), h1, bne_iff_ne.2 h2]; rfl
/-- What two calls make of bytes that were cut. -/
def Cuts (r0 r1 : Bs × Bool × List Bs × Int) (b2 : Bs) : Prop :=
  (r1.2.2.2 ≠ 0 ∧ r0 = r1) ∨ (r1.2.2.2 = 0 ∧ ∃ bs2, feedR r1.1 r1.2.1 b2 = (r0.1, r0.2.1, bs2, r0.2.2.2) ∧ r0.2.2.1 = r1.2.2.1 ++ bs2 ∧ okS r0.1 r0.2.1 = true)
theorem feed_live {h : Bs} (hok : okS h false = true) (b : Bs) : feedR h false b = if (readD (h ++ b)).2.2 = 5 then ([], true, (readD (h ++ b)).1, 5) else ((readD (h ++ b)).2.1, false, (readD (h ++ b)).1, 0) := by
  unfold feedR; rw [hok, if_neg (by decide), if_neg (by decide)]
theorem feed_over {h : Bs} (hok : okS h true = true) (b : Bs) : feedR h true b = ([], true, [], 41) := by
  unfold feedR; rw [hok, if_neg (by decide), if_pos rfl]
theorem cuts_of {h : Bs} {dead : Bool} (hok : okS h dead = true) (b1 b2 : Bs) : Cuts (feedR h dead (b1 ++ b2)) (feedR h dead b1) b2 := by
  cases dead
  · rw [feed_live hok, feed_live hok]
    have e := read_ext _ (h ++ b1) b2 (Nat.le_refl _)
    rw [List.append_assoc] at e
    rw [e]
    by_cases h5 : (readD (h ++ b1)).2.2 = 5
    · simp only [if_pos h5]
      exact Or.inl ⟨by show (5 : Int) ≠ 0; decide, rfl⟩
    · simp only [if_neg h5]
      right
      refine ⟨rfl, ?_⟩
      have hr := ok_rest h5
      generalize (readD (h ++ b1)).2.1 = x at hr ⊢
      generalize (readD (h ++ b1)).1 = bs1
      have g := feed_live hr b2
      have hr2 := fun h => ok_rest (x := x ++ b2) h
      generalize readD (x ++ b2) = y at g hr2 ⊢
      by_cases h6 : y.2.2 = 5
      · simp only [if_pos h6] at g ⊢
        exact ⟨_, g, rfl, ok_nil _⟩
      · simp only [if_neg h6] at g ⊢
        exact ⟨_, g, rfl, hr2 h6⟩
  · rw [feed_over hok, feed_over hok]
    exact Or.inl ⟨by show (41 : Int) ≠ 0; decide, rfl⟩
theorem feed_len (h : Bs) (dead : Bool) (b : Bs) : (feedR h dead b).1.length ≤ h.length + b.length ∧ (feedR h dead b).2.2.1.length ≤ h.length + b.length := by
  have := read_len _ (h ++ b) (Nat.le_refl _)
  rw [List.length_append] at this
  unfold feedR
  split
  · exact ⟨by show h.length ≤ _; omega, Nat.zero_le _⟩
  · split
    · exact ⟨Nat.zero_le _, Nat.zero_le _⟩
    · split
      · exact ⟨Nat.zero_le _, this.2⟩
      · exact this
/-- append behind a guard. -/
theorem wpList_append_w {P : Program} (w : World) {ops : Array Oper} {rest : List Oper} {o : Oper} {a : Act} {Q : Exit → Act → World → Prop} (hgd : Region.wanted o (yielded ops a.tmps) = true) (s x : Operand) (t : TypeId)
    (ho : o.op = .call { callee := .builtin .append, args := #[s, x], argTypes := #[t, t] })
    (base : Nat) (e : TypeId) (i : TypeInfo) (z : Value) (size bytes : Nat) (ht : P.underlying t = some (.slice e)) (hi : P.info? e = some i) (hz : i.zero = some z)
    (hsize : i.size = size) (hby : i.bytes = bytes) (hzs : z.cells.size = size) (hsz : 0 < size)
    (v : Value) (n : Nat) (xs : List Value) (hs : a.eval s = v) (hown : w.ownsRow base e size v n xs)
    (B : Nat) (A : Option Addr) (m c : Nat) (news : List Value) (hx : a.eval x = .slice A m c) (hr : Reads w B size A m news) (h1 : ∀ u ∈ news, u.oneCell' = true)
    (h63 : n + m ≤ maxLen) (hbytes : (n + m) * bytes ≤ 140737488355328) (hbase : base ≤ w.heap.size)
    (h : ∀ v' w', w'.ownsRow base e size v' (n + m) (xs ++ news) → w.grownBy w' v.ownBlock → (v'.ownBlock = v.ownBlock ∨ v'.ownBlock = some w.heap.size) → wpList P ops Q rest (a.put o.dst v') w') : wpList P ops Q (o :: rest) a w :=
  wpList_step fun K hK => by
    rw [if_pos hgd]
    exact wp_append_any w s x t ho base e i z size bytes ht hi hz hsize hby hzs hsz v n xs hs hown B A m c news hx hr h1 h63 hbytes hbase fun v' w' h2 h3 h4 => hK _ _ (h v' w' h2 h3 h4)
set_option maxRecDepth 10000 in
set_option maxHeartbeats 8000000 in
theorem cuts_law (A : Option Addr) (n c : Nat) (dead : Bool) (h : Bs) (B : Option Addr) (m k : Nat) (b : Bs) (q : Int) (w : World) (hh : Rd w A n h) (hb : Rd w B m b) (hc : c ≤ maxLen) (hnc : n ≤ c) (hk : k ≤ maxLen) (hmk : m ≤ k) :
    Calls Try.prog 4 #[stV A n c dead, .slice B m k, .int .i64 q] w fun e w' => e = .returned (.bool true) ∧ Below w.heap.size w w' := by
  have K0 := hide (Below.refl w.heap.size w)
  unfold maxLen at hc hk
  have lh := hide hh.len
  have lb := hide hb.len
  have HA := hide hh
  have HB := hide hb
  clear hh hb
  by_cases h1 : 6000 < n
  · have g1 : (6000 : Int) < n := by omega
    go_enter Try.func4, Try.ntmps4
    go_wp2_with fail
    refine (heads_any _).mono ?_
    rintro e wh ⟨rfl, kh⟩
    have SH : Hid (Below w.heap.size w wh) := hide (below_more (h := by ((repeat (first | with_reducible exact Below.refl _ _ | with_reducible refine Below.alloc ?_ ?_ _)); all_goals (first | exact Nat.le_refl _ | (simp; done) | (simp; omega)))) (hB := Nat.le_refl _) (k := kh))
    have KH := hide (below_more K0.out (Nat.le_refl _) SH.out)
    clear kh
    go_wp2
    go_ret
    exact ⟨rfl, KH.out⟩
  have g1 : ¬ (6000 : Int) < n := by omega
  by_cases h2 : 6000 < m
  · have g2 : (6000 : Int) < m := by omega
    go_enter Try.func4, Try.ntmps4
    go_wp2_with fail
    refine (heads_any _).mono ?_
    rintro e wh ⟨rfl, kh⟩
    have SH : Hid (Below w.heap.size w wh) := hide (below_more (h := by ((repeat (first | with_reducible exact Below.refl _ _ | with_reducible refine Below.alloc ?_ ?_ _)); all_goals (first | exact Nat.le_refl _ | (simp; done) | (simp; omega)))) (hB := Nat.le_refl _) (k := kh))
    have KH := hide (below_more K0.out (Nat.le_refl _) SH.out)
    clear kh
    go_wp2
    go_ret
    exact ⟨rfl, KH.out⟩
  have g2 : ¬ (6000 : Int) < m := by omega
  by_cases h3 : q < 0
  · go_enter Try.func4, Try.ntmps4
    go_wp2_with fail
    refine (heads_any _).mono ?_
    rintro e wh ⟨rfl, kh⟩
    have SH : Hid (Below w.heap.size w wh) := hide (below_more (h := by ((repeat (first | with_reducible exact Below.refl _ _ | with_reducible refine Below.alloc ?_ ?_ _)); all_goals (first | exact Nat.le_refl _ | (simp; done) | (simp; omega)))) (hB := Nat.le_refl _) (k := kh))
    have KH := hide (below_more K0.out (Nat.le_refl _) SH.out)
    clear kh
    go_wp2
    go_ret
    exact ⟨rfl, KH.out⟩
  by_cases h4 : (m : Int) < q
  · go_enter Try.func4, Try.ntmps4
    go_wp2_with fail
    refine (heads_any _).mono ?_
    rintro e wh ⟨rfl, kh⟩
    have SH : Hid (Below w.heap.size w wh) := hide (below_more (h := by ((repeat (first | with_reducible exact Below.refl _ _ | with_reducible refine Below.alloc ?_ ?_ _)); all_goals (first | exact Nat.le_refl _ | (simp; done) | (simp; omega)))) (hB := Nat.le_refl _) (k := kh))
    have KH := hide (below_more K0.out (Nat.le_refl _) SH.out)
    clear kh
    go_wp2
    go_ret
    exact ⟨rfl, KH.out⟩
  obtain ⟨p, rfl⟩ : ∃ p : Nat, q = p := ⟨q.toNat, by omega⟩
  have hpm : p ≤ m := by omega
  go_enter Try.func4, Try.ntmps4
  go_wp2_with fail
  refine (check_any A n c dead h _ (Rd.up HA.out (by ((repeat (first | with_reducible exact Below.refl _ _ | with_reducible refine Below.alloc ?_ ?_ _)); all_goals (first | exact Nat.le_refl _ | (simp; done) | (simp; omega))))) (by omega)).mono ?_
  rintro e w1 ⟨rfl, k1⟩
  have K1 : Hid (Below w.heap.size w w1) := hide (below_more (h := by ((repeat (first | with_reducible exact Below.refl _ _ | with_reducible refine Below.alloc ?_ ?_ _)); all_goals (first | exact Nat.le_refl _ | (simp; done) | (simp; omega)))) (hB := Nat.le_refl _) (k := k1))
  have BP : Hid (Blk w1 w.heap.size 24 #[.slice A n c, .bool dead]) := hide (Blk.below (h := Blk.new w 24 #[.slice A n c, .bool dead]) (hb := k1) (Blk.lt (Blk.new w 24 #[.slice A n c, .bool dead])))
  clear k1
  obtain ⟨x0, x1, y0, y1⟩ := BP.out.two
  have zp := BP.out.lt
  cases hok : okS h dead
  · clear hok
    go_wp2_with fail
    refine (heads_any _).mono ?_
    rintro e wh ⟨rfl, kh⟩
    have SH : Hid (Below w1.heap.size w1 wh) := hide (below_more (h := by ((repeat (first | with_reducible exact Below.refl _ _ | with_reducible refine Below.alloc ?_ ?_ _)); all_goals (first | exact Nat.le_refl _ | (simp; done) | (simp; omega)))) (hB := Nat.le_refl _) (k := kh))
    have KH := hide (below_more K1.out (Nat.le_refl _) SH.out)
    clear kh
    go_wp2
    go_ret
    exact ⟨rfl, KH.out⟩
  have hcu := cuts_of hok (b.take p) (b.drop p)
  rw [List.take_append_drop] at hcu
  have fl0 := feed_len h dead b
  have fl1 := feed_len h dead (b.take p)
  rw [lh.out, lb.out] at fl0
  rw [lh.out, List.length_take, lb.out] at fl1
  obtain ⟨r0, hr0⟩ : ∃ r, feedR h dead b = r := ⟨_, rfl⟩
  obtain ⟨r1, hr1⟩ : ∃ r, feedR h dead (b.take p) = r := ⟨_, rfl⟩
  rw [hr0, hr1] at hcu
  rw [hr0] at fl0
  rw [hr1] at fl1
  obtain ⟨h0, d0, bs0, E0⟩ := r0
  obtain ⟨h1', d1, bs1, E1⟩ := r1
  obtain ⟨n0, hn0⟩ : ∃ x, h0.length = x := ⟨_, rfl⟩
  obtain ⟨m0, hm0⟩ : ∃ x, bs0.length = x := ⟨_, rfl⟩
  obtain ⟨n1, hn1⟩ : ∃ x, h1'.length = x := ⟨_, rfl⟩
  obtain ⟨m1, hm1⟩ : ∃ x, bs1.length = x := ⟨_, rfl⟩
  have l0 : n0 ≤ 12000 ∧ m0 ≤ 12000 := by rw [← hn0, ← hm0]; exact ⟨by have : h0.length ≤ n + m := fl0.1; omega, by have : bs0.length ≤ n + m := fl0.2; omega⟩
  have l1 : n1 ≤ 12000 ∧ m1 ≤ 12000 := by rw [← hn1, ← hm1]; exact ⟨by have : h1'.length ≤ n + min p m := fl1.1; omega, by have : bs1.length ≤ n + min p m := fl1.2; omega⟩
  have l0a := l0.1
  have l0b := l0.2
  have l1a := l1.1
  have l1b := l1.2
  have HCU := hide hcu
  have H0 := hide hr0
  have H1 := hide hr1
  have N0 := hide hn0
  have M0 := hide hm0
  have N1 := hide hn1
  have M1 := hide hm1
  clear hcu hr0 hr1 hn0 hm0 hn1 hm1 fl0 fl1 l0 l1 hok
  go_wp2_with fail
  refine (feed_w A n c dead h B m k b _ (Rd.up HA.out K1.out) (Rd.up HB.out K1.out) (by omega) (by omega) h0 d0 bs0 E0 n0 m0 H0.out N0.out M0.out).mono ?_
  rintro e w2 ⟨A0, c0, B0, e0, rfl, q0, p0, k2⟩
  have K2 := hide (below_more K1.out (Nat.le_refl _) k2)
  have BP2 := hide (BP.out.below k2 BP.out.lt)
  have R0 := hide q0.rowsP
  have F0 := hide p0
  clear k2 q0 p0 x0 x1 y0 y1 BP zp
  obtain ⟨x0, x1, y0, y1⟩ := BP2.out.two
  have zp := BP2.out.lt
  go_upto_region 4 with (fail)
  generalize hW : w2.alloc (.cells #[.slice A0 n0 c0, .bool d0] 24) = W
  have S2 : Hid (Below w2.heap.size w2 W) := hide (by rw [← hW]; exact (Below.refl _ _).alloc (Nat.le_refl _) _)
  have B7 : Hid (Blk W w2.heap.size 24 #[.slice A0 n0 c0, .bool d0]) := hide (by rw [← hW]; exact Blk.new w2 24 _)
  clear hW x0 x1 y0 y1 zp
  have KW := hide (below_more K2.out (Nat.le_refl _) S2.out)
  have BPW := hide (BP2.out.below S2.out BP2.out.lt)
  have R0W := hide (R0.out.below S2.out)
  have F0W := hide (Rd.up F0.out S2.out)
  clear S2 R0 F0 BP2
  generalize w2.heap.size = g7 at B7
  have allS : Hid (∀ V, Below W.heap.size W V → V.cell? ⟨w.heap.size, 0, none⟩ = some (.slice A n c) ∧ V.cell? ⟨w.heap.size, 1, none⟩ = some (.bool dead)) := hide fun V hV => blk2a (BPW.out.below hV BPW.out.lt)
  have hsl : ∀ V, (Instr.slice 22 (.slice B m k) none (some (.int .i64 (p : Int))) none).run Try.prog V = .ok (.slice B p k) V := fun V => by
    have := run_slice_to (P := Try.prog) 22 5 Try.underlying22 sizeU8 B m k .i64 (p : Int) (by omega) (by omega) V
    simpa using this
  have XF := hide (fun V (hV : Below W.heap.size W V) => feed_w A n c dead h B p k (b.take p) V (Rd.up (Rd.up HA.out KW.out) hV) (by
    have h1 := Rd.up (Rd.up HB.out KW.out) hV
    show Reads V V.heap.size 1 B p (bv (b.take p))
    rw [bv_take]
    exact Reads.take (n := m) h1 hpm) (by omega) (by omega) h1' d1 bs1 E1 n1 m1 H1.out N1.out M1.out)
  have hp0 : (0 : Int) ≤ (p : Int) := by omega
  have hp1 : (p : Int) ≤ (k : Int) := by omega
  go_upto_region 4 with (fail)
  go_cut [10, 11, 12] (fun t0 t1 t2 wy => ∃ (g : Nat) (A' : Option Addr) (c' : Nat) (B' : Option Addr) (d' : Nat), t0 = .pointer (some ⟨g, 0, none⟩) ∧ t1 = .slice B' m1 d' ∧ t2 = .int .i64 E1 ∧ Blk wy g 24 #[.slice A' n1 c', .bool d1] ∧ RowsP wy B' m1 bs1 ∧ Rd wy A' n1 h1' ∧ Below W.heap.size W wy)
  case first =>
    have kW := hide (Below.refl W.heap.size W)
    have zW := hide (Nat.le_refl W.heap.size)
    go_region_held3 (fun V => V.cell? ⟨w.heap.size, 0, none⟩ = some (.slice A n c) ∧ V.cell? ⟨w.heap.size, 1, none⟩ = some (.bool dead))
      (first | with_reducible exact allS.out _ (Below.drew kW.out) | with_reducible exact allS.out _ kW.out | with_reducible exact allS.out _ (Below.alloc kW.out kW.out.size _) | with_reducible exact allS.out _ (Below.drew (Below.alloc kW.out kW.out.size _)) | with_reducible exact allS.out _ (Below.set2_ kW.out zW.out _ _))
      (first
        | (go_at_call 8; with_reducible refine (XF.out _ (Below.drew kW.out)).mono ?_
           rintro e wx3 ⟨A3, c3, B3, d3, rfl, q3, p3, k3⟩
           have Q := hide q3
           have P := hide p3
           have kX := hide (below_more (Below.drew kW.out) (Nat.le_refl _) k3)
           clear kW
           have kW := hide kX.out
           clear q3 p3 k3 kX)
        | (go_at_call 8; with_reducible refine (XF.out _ (Below.drew (Below.alloc kW.out kW.out.size _))).mono ?_
           rintro e wx3 ⟨A3, c3, B3, d3, rfl, q3, p3, k3⟩
           have Q := hide q3
           have P := hide p3
           have kX := hide (below_more (Below.drew (Below.alloc kW.out kW.out.size (.cells #[.slice none 0 0, .bool false] 24))) (Nat.le_refl _) k3)
           have B8 := hide (Blk.below (h := (Blk.new W 24 #[.slice none 0 0, .bool false]).drew) (hb := k3) (Blk.lt (Blk.new W 24 #[.slice none 0 0, .bool false])))
           obtain ⟨r0, r1, f0, f1⟩ := B8.out.two
           clear kW
           have kW := hide kX.out
           clear q3 p3 k3 kX))
    all_goals
      go_wp2_with fail
      go_meet
    all_goals
      first
        | with_reducible exact ⟨_, A3, c3, B3, d3, rfl, rfl, rfl, Blk.new wx3 24 _, Q.out.rowsP.below ((Below.refl _ _).alloc (Nat.le_refl _) _), Rd.up P.out ((Below.refl _ _).alloc (Nat.le_refl _) _), kW.out.alloc kW.out.size _⟩
        | exact ⟨_, A3, c3, B3, d3, rfl, rfl, rfl, (B8.out.set_ 0 _).set_ 1 _, (rowsW_far B8.out Q.out _ _).rowsP, rd_far B8.out P.out _ _, Below.set2_ kW.out zW.out _ _⟩
  case rest =>
    obtain ⟨g10, A1, c1, B1, e1, rfl, rfl, rfl, b10, q1, f1, kc⟩ := hcut
    have KC := hide (below_more KW.out (Nat.le_refl _) kc)
    have B7c := hide (B7.out.below kc B7.out.lt)
    have R0c := hide (R0W.out.below kc)
    have F0c := hide (Rd.up F0W.out kc)
    have B10 := hide b10
    have R1c := hide q1
    have F1c := hide f1
    have HBc := hide (Rd.up (Rd.up HB.out KW.out) kc)
    have HCU2 := HCU.out
    clear b10 q1 f1 kc B7 R0W F0W allS XF BPW HA HB KW HCU
    obtain ⟨x7, y7, z7, u7⟩ := B7c.out.two
    obtain ⟨x10, y10, z10, u10⟩ := B10.out.two
    rcases HCU2 with ⟨hE, hEq⟩ | ⟨hE, bs2, hF, hBs, hOk⟩
    · have hE : E1 ≠ 0 := hE
      simp only [Prod.mk.injEq] at hEq
      obtain ⟨e1', e2', e3', e4'⟩ := hEq
      subst e1' e2' e3' e4'
      have en : n1 = n0 := by rw [← N0.out, N1.out]
      have em : m1 = m0 := by rw [← M0.out, M1.out]
      subst en em
      clear H0 H1 N0 N1 M0 M1
      go_wp2_with fail
      refine (rows_any B0 _ e0 B1 e1 _ _ R0c.out R1c.out (by omega)).mono ?_
      rintro e w3 ⟨rfl, k3⟩
      have K3 := hide (below_more KC.out (Nat.le_refl _) k3)
      have B73 := hide (B7c.out.below k3 B7c.out.lt)
      have B103 := hide (B10.out.below k3 B10.out.lt)
      have F03 := hide (Rd.up F0c.out k3)
      have F13 := hide (Rd.up F1c.out k3)
      clear k3 B7c B10 F0c F1c R0c R1c x7 y7 z7 u7 x10 y10 z10 u10 KC
      obtain ⟨x7, y7, z7, u7⟩ := B73.out.two
      obtain ⟨x10, y10, z10, u10⟩ := B103.out.two
      go_wp2_with fail
      refine (stsame_any A0 _ c0 A1 _ c1 _ _ _ F03.out F13.out).mono ?_
      rintro e w4 ⟨rfl, k4⟩
      have K4 := hide (below_more K3.out (Nat.le_refl _) k4)
      clear k4
      go_wp2_with fail
      refine (heads_any _).mono ?_
      rintro e wh ⟨rfl, kh⟩
      have SH : Hid (Below w4.heap.size w4 wh) := hide (below_more (h := by ((repeat (first | with_reducible exact Below.refl _ _ | with_reducible refine Below.alloc ?_ ?_ _)); all_goals (first | exact Nat.le_refl _ | (simp; done) | (simp; omega)))) (hB := Nat.le_refl _) (k := kh))
      have KH := hide (below_more K4.out (Nat.le_refl _) SH.out)
      clear kh
      go_wp2
      go_ret
      exact ⟨rfl, KH.out⟩
    · have hE : E1 = 0 := hE
      have hOk : okS h0 d0 = true := hOk
      have hF : feedR h1' d1 (b.drop p) = (h0, d0, bs2, E0) := hF
      have hBs : bs0 = bs1 ++ bs2 := hBs
      subst hE hBs
      obtain ⟨m2, hm2⟩ : ∃ x, bs2.length = x := ⟨_, rfl⟩
      have em : m0 = m1 + m2 := by rw [← M0.out, ← M1.out, ← hm2, List.length_append]
      subst em
      have HF := hide hF
      have HOk := hide hOk
      have M2 := hide hm2
      clear hF hOk hm2
      have allS : Hid (∀ V, Below wc.heap.size wc V → V.cell? ⟨g10, 0, none⟩ = some (.slice A1 n1 c1) ∧ V.cell? ⟨g10, 1, none⟩ = some (.bool d1)) := hide fun V hV => blk2a (B10.out.below hV B10.out.lt)
      have hsl : ∀ V, (Instr.slice 22 (.slice B m k) (some (.int .i64 (p : Int))) none none).run Try.prog V = .ok (.slice (if k = p then B else B.map (·.add p)) (m - p) (k - p)) V := fun V => by
        have := run_slice_from (P := Try.prog) 22 5 Try.underlying22 sizeU8 B m k .i64 (p : Int) (by omega) (by omega) V
        simpa using this
      have HD : Hid (Rd wc (if k = p then B else B.map (·.add p)) (m - p) (b.drop p)) := hide (by
        show Reads wc wc.heap.size 1 _ (m - p) (bv (b.drop p))
        rw [bv_drop]
        exact Reads.drop_ HBc.out hmk hpm)
      generalize hXA : (if k = p then B else B.map (·.add p)) = XA at hsl HD
      clear hXA
      have XG := hide (fun V (hV : Below wc.heap.size wc V) => feed_w A1 n1 c1 d1 h1' XA (m - p) (k - p) (b.drop p) V (Rd.up F1c.out hV) (Rd.up HD.out hV) (by omega) (by omega) h0 d0 bs2 E0 n0 m2 HF.out N0.out M2.out)
      go_upto_region 7 with (fail)
      go_cut [13, 14, 15] (fun t0 t1 t2 wy => ∃ (g : Nat) (A' : Option Addr) (c' : Nat) (B' : Option Addr) (d' : Nat), t0 = .pointer (some ⟨g, 0, none⟩) ∧ t1 = .slice B' m2 d' ∧ t2 = .int .i64 E0 ∧ Blk wy g 24 #[.slice A' n0 c', .bool d0] ∧ RowsP wy B' m2 bs2 ∧ Rd wy A' n0 h0 ∧ Below wc.heap.size wc wy)
      case first =>
        have kW := hide (Below.refl wc.heap.size wc)
        have zW := hide (Nat.le_refl wc.heap.size)
        go_region_held3 (fun V => V.cell? ⟨g10, 0, none⟩ = some (.slice A1 n1 c1) ∧ V.cell? ⟨g10, 1, none⟩ = some (.bool d1))
          (first | with_reducible exact allS.out _ (Below.drew kW.out) | with_reducible exact allS.out _ kW.out | with_reducible exact allS.out _ (Below.alloc kW.out kW.out.size _) | with_reducible exact allS.out _ (Below.drew (Below.alloc kW.out kW.out.size _)) | with_reducible exact allS.out _ (Below.set2_ kW.out zW.out _ _))
          (first
            | (go_at_call 8; with_reducible refine (XG.out _ (Below.drew kW.out)).mono ?_
               rintro e wx5 ⟨A5, c5, B5, d5, rfl, q5, p5, k5⟩
               have Q := hide q5
               have P := hide p5
               have kX := hide (below_more (Below.drew kW.out) (Nat.le_refl _) k5)
               clear kW
               have kW := hide kX.out
               clear q5 p5 k5 kX)
            | (go_at_call 8; with_reducible refine (XG.out _ (Below.drew (Below.alloc kW.out kW.out.size _))).mono ?_
               rintro e wx5 ⟨A5, c5, B5, d5, rfl, q5, p5, k5⟩
               have Q := hide q5
               have P := hide p5
               have kX := hide (below_more (Below.drew (Below.alloc kW.out kW.out.size (.cells #[.slice none 0 0, .bool false] 24))) (Nat.le_refl _) k5)
               have B8 := hide (Blk.below (h := (Blk.new wc 24 #[.slice none 0 0, .bool false]).drew) (hb := k5) (Blk.lt (Blk.new wc 24 #[.slice none 0 0, .bool false])))
               obtain ⟨r0, r1, f0, f1⟩ := B8.out.two
               clear kW
               have kW := hide kX.out
               clear q5 p5 k5 kX))
        all_goals
          go_wp2_with fail
          go_meet
        all_goals
          first
            | with_reducible exact ⟨_, A5, c5, B5, d5, rfl, rfl, rfl, Blk.new wx5 24 _, Q.out.rowsP.below ((Below.refl _ _).alloc (Nat.le_refl _) _), Rd.up P.out ((Below.refl _ _).alloc (Nat.le_refl _) _), kW.out.alloc kW.out.size _⟩
            | exact ⟨_, A5, c5, B5, d5, rfl, rfl, rfl, (B8.out.set_ 0 _).set_ 1 _, (rowsW_far B8.out Q.out _ _).rowsP, rd_far B8.out P.out _ _, Below.set2_ kW.out zW.out _ _⟩
      case rest =>
        obtain ⟨g13, A2, c2, B2, e2, rfl, rfl, rfl, b13, q2, f2, kd⟩ := hcut
        have KD := hide (below_more KC.out (Nat.le_refl _) kd)
        have B7d := hide (B7c.out.below kd B7c.out.lt)
        have R0d := hide (R0c.out.below kd)
        have R1d := hide (R1c.out.below kd)
        have F0d := hide (Rd.up F0c.out kd)
        have B13 := hide b13
        have R2d := hide q2
        have F2d := hide f2
        clear b13 q2 f2 kd B7c B10 R0c R1c F0c F1c allS hsl XG HD HBc KC x7 y7 z7 u7 x10 y10 z10 u10 H0 H1 N1 M0 HF
        obtain ⟨x7, y7, z7, u7⟩ := B7d.out.two
        obtain ⟨x13, y13, z13, u13⟩ := B13.out.two
        have hEE : (E0 == E0) = true := by simp
        go_wp2_with fail
        refine (stsame_any A0 _ c0 A2 _ c2 _ _ _ F0d.out F2d.out).mono ?_
        rintro e w3 ⟨rfl, k3⟩
        have K3 := hide (below_more KD.out (Nat.le_refl _) k3)
        have B73 := hide (B7d.out.below k3 B7d.out.lt)
        have R03 := hide (R0d.out.below k3)
        have R13 := hide (R1d.out.below k3)
        have R23 := hide (R2d.out.below k3)
        have F03 := hide (Rd.up F0d.out k3)
        clear k3 B7d B13 R0d R1d R2d F0d F2d KD x7 y7 z7 u7 x13 y13 z13 u13
        obtain ⟨i0, hi, hz0, hz1, hz2⟩ := info_parts infoRow
        obtain ⟨vs1, r1, v1⟩ := R13.out
        obtain ⟨vs2, r2, v2⟩ := R23.out
        have hV1 := hide v1
        have hV2 := hide v2
        have hr1 := r1.alloc (Nat.le_refl _) (.cells #[] 22)
        have hown0 := Blk.own (base := w3.heap.size) (cap := 0) (Blk.new w3 22 #[]) (Nat.le_refl _) (Nat.zero_le _) rfl
        have HR2 := hide r2
        have i1 : ∀ u ∈ vs1, u.oneCell' = true := v1.one
        have i2 : ∀ u ∈ vs2, u.oneCell' = true := v2.one
        clear v1 v2 r1 r2
        go_wp2_with (at_builtin; ((refine wpList_append_w _ rfl (.tmp 94) (.tmp 95) 26 rfl w3.heap.size 22 i0 _ 1 24 Try.underlying26 hi hz0 hz1 hz2 rfl (by omega) (.slice (some ⟨w3.heap.size, 0, none⟩) 0 0) 0 [] rfl hown0 w3.heap.size B1 m1 e1 vs1 rfl hr1 i1 ?a1 ?a2 ?a3 ?_)))
        case a1 => unfold maxLen; omega
        case a2 => omega
        case a3 => simp
        intro u1 w4 hown1 hg1 hat1
        obtain ⟨X1, y1, rfl⟩ := own_slice hown1
        have K4 := hide (Below.grown (h := (Below.refl w3.heap.size w3).alloc (Nat.le_refl _) (.cells #[] 22)) (hg := hg1) (by simp) (fun g hg => (World.ownsRow.lt hown0 g hg).1))
        have hr2 := Reads.below HR2.out K4.out
        have hsz4 := K4.out.size
        clear hg1 hat1 hr1 hown0
        go_wp2_with (at_builtin; ((refine wpList_append_w _ rfl (.tmp 96) (.tmp 97) 26 rfl w3.heap.size 22 i0 _ 1 24 Try.underlying26 hi hz0 hz1 hz2 rfl (by omega) (.slice X1 m1 y1) m1 vs1 rfl hown1 w3.heap.size B2 m2 e2 vs2 rfl hr2 i2 ?b1 ?b2 ?b3 ?_)))
        case b1 => unfold maxLen; omega
        case b2 => omega
        case b3 => exact hsz4
        intro u2 w5 hown2 hg2 hat2
        obtain ⟨X2, y2, rfl⟩ := own_slice hown2
        have K5 := hide (Below.grown (h := K4.out) (hg := hg2) hsz4 (fun g hg => (World.ownsRow.lt hown1 g hg).1))
        have RX : Hid (RowsP w5 X2 (m1 + m2) (bs1 ++ bs2)) := hide ⟨vs1 ++ vs2, Reads.of_own hown2, RowsV.app ((hV1.out.keep fun p hp => K5.out.cell hp).more K5.out.size) ((hV2.out.keep fun p hp => K5.out.cell hp).more K5.out.size)⟩
        clear hg2 hat2 hown2 hown1 hr2 i1 i2 hsz4
        have K35 := hide (below_more K3.out (Nat.le_refl _) K5.out)
        have B75 := hide (B73.out.below K5.out B73.out.lt)
        have R05 := hide (R03.out.below K5.out)
        have F05 := hide (Rd.up F03.out K5.out)
        clear K4 K5 B73 R03 F03 R13 R23 HR2 hV1 hV2 K3
        go_wp2_with fail
        refine (rows_any B0 _ e0 X2 y2 _ _ R05.out RX.out (by omega)).mono ?_
        rintro e w6 ⟨rfl, k6⟩
        have K6 := hide (below_more K35.out (Nat.le_refl _) k6)
        have B76 := hide (B75.out.below k6 B75.out.lt)
        have F06 := hide (Rd.up F05.out k6)
        clear k6 B75 R05 RX F05 K35
        obtain ⟨x7, y7, z7, u7⟩ := B76.out.two
        go_wp2_with fail
        refine (check_n A0 n0 c0 d0 h0 _ F06.out (by omega) true HOk.out).mono ?_
        rintro e w7 ⟨rfl, k7⟩
        have K7 := hide (below_more K6.out (Nat.le_refl _) k7)
        clear k7
        go_wp2_with fail
        refine (heads_any _).mono ?_
        rintro e wh ⟨rfl, kh⟩
        have SH : Hid (Below w7.heap.size w7 wh) := hide (below_more (h := by ((repeat (first | with_reducible exact Below.refl _ _ | with_reducible refine Below.alloc ?_ ?_ _)); all_goals (first | exact Nat.le_refl _ | (simp; done) | (simp; omega)))) (hB := Nat.le_refl _) (k := kh))
        have KH := hide (below_more K7.out (Nat.le_refl _) SH.out)
        clear kh
        go_wp2
        go_ret
        exact ⟨rfl, KH.out⟩
end Go.Proofs.Ytgmpcgcmcheelaa
