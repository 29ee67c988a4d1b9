/- Contracts of frame's Check, All, Feed. -/
import Derived.Test.YtgmpcgcmcheelaaFrameC
import Derived.Deep.RegionHeld3
import Derived.Deep.DeepCutAuto
namespace Go.Proofs.Ytgmpcgcmcheelaa
open Go.RowKit
set_option linter.unusedVariables false

/-- May a reader's state be? -/
def okS (h : Bs) (dead : Bool) : Bool := if dead = true then h.isEmpty else ((readD h).1.isEmpty && ((readD h).2.2 != 5))
theorem own_caps {w : World} {B : Nat} {A : Option Addr} {n c : Nat} {xs : List Value} (h : w.ownsRow B 5 1 (.slice A n c) n xs) : n ≤ c := by
  rcases h.2 with ⟨hv, h0⟩ | ⟨g, cap, cur, hv, _, _, h1, h2, _⟩
  · injection hv with e1 e2 e3; subst h0; exact Nat.zero_le _
  · injection hv with e1 e2 e3; subst e3; exact h1
theorem rowsO_nil {B : Nat} {w : World} {A : Option Addr} {m c : Nat} {bs : List Bs} (h : RowsO B w A m c bs) : bs.isEmpty = decide (m = 0) := by
  obtain ⟨vs, h1, h2⟩ := h
  have e1 := h1.1
  have e2 := h2.1
  cases bs with
  | nil => simp at e2; rw [e2] at e1; simp at e1; rw [← e1]; rfl
  | cons a t => simp at e2; rw [e2] at e1; simp; omega

set_option maxHeartbeats 1000000 in
theorem check_any (A : Option Addr) (n c : Nat) (dead : Bool) (h : Bs) (w : World) (hr : Rd w A n h) (hn : n ≤ 50000) :
    Calls Try.prog 17 #[stV A n c dead] w fun e w' => e = .returned (.bool (okS h dead)) ∧ Below w.heap.size w w' := by
  have hl := hr.len
  cases dead
  · have hO : okS h false = ((readD h).1.isEmpty && ((readD h).2.2 != 5)) := rfl
    have HO := hide hO
    have hRD := hide (fun A' n' c' V (hq : Rd V A' n' h) (hc : n' ≤ c') (hn' : n' ≤ 100000) => read_any A' n' c' h V hq hc hn')
    have HR := hide hr
    clear hO hr
    go_enter Try.func17, Try.ntmps17
    go_wp2_with fail
    refine (clone_any A n c h _ ((HR.out.alloc (Nat.le_refl _) _).more (by simp)) (by omega)).mono ?_
    rintro e w1 ⟨A1, c1, rfl, ho, hb⟩
    have HB1 := hide (below_more ((Below.refl w.heap.size w).alloc (Nat.le_refl _) _) (Nat.le_refl _) hb)
    have hcap := own_caps ho
    have HO1 := hide ho
    clear ho hb
    go_wp2_with fail
    refine (hRD.out A1 n c1 _ (Reads.of_own HO1.out) hcap (by omega)).mono ?_
    rintro e w2 ⟨Bo, m, cb, A2, n2, c2, rfl, hro, hrr, hc2, hb2⟩
    have HB2 := hide (below_more HB1.out (Nat.le_refl _) hb2)
    have hm := rowsO_nil hro
    rw [hm] at HO
    clear hro hrr hb2 hm
    generalize (readD h).2.2 = E at HO ⊢
    by_cases h0 : m = 0
    · subst h0
      have HO2 : Hid (okS h false = (E != 5)) := hide (by rw [HO.out]; simp)
      have hz : ((0 : Int) == 0) = true := rfl
      go_wp2
      go_ret
      exact ⟨ret_bool HO2.out.symm, HB2.out⟩
    · have HO2 : Hid (okS h false = false) := hide (by rw [HO.out, decide_eq_false h0]; rfl)
      have hz : ((m : Int) == 0) = false := beq_eq_false_iff_ne.2 (by omega)
      go_wp2
      go_ret
      exact ⟨ret_bool HO2.out.symm, HB2.out⟩
  · have hO : okS h true = h.isEmpty := rfl
    by_cases h0 : n = 0
    · subst h0
      have HO2 : Hid (okS h true = true) := hide (by rw [hO, List.eq_nil_of_length_eq_zero hl]; rfl)
      have hz : ((0 : Int) == 0) = true := rfl
      clear hO hr hl
      go_enter Try.func17, Try.ntmps17
      go_wp2
      go_ret
      exact ⟨ret_bool HO2.out.symm, (Below.refl w.heap.size w).alloc (Nat.le_refl _) _⟩
    · have HO2 : Hid (okS h true = false) := hide (by rw [hO]; cases h with
        | nil => simp at hl; omega
        | cons a t => rfl)
      have hz : ((n : Int) == 0) = false := beq_eq_false_iff_ne.2 (by omega)
      clear hO hr hl
      go_enter Try.func17, Try.ntmps17
      go_wp2
      go_ret
      exact ⟨ret_bool HO2.out.symm, (Below.refl w.heap.size w).alloc (Nat.le_refl _) _⟩

def allB (b : Bs) : List Bs := if (readD b).2.2 = 0 then (readD b).1 else []
set_option maxHeartbeats 1000000 in
theorem all_any (A : Option Addr) (n c : Nat) (b : Bs) (w : World) (hr : Rd w A n b) (hn : n ≤ 50000) :
    Calls Try.prog 12 #[.slice A n c] w fun e w' => ∃ Bo m cb, e = .returned (.tuple #[.slice Bo m cb, .int .i64 (readD b).2.2]) ∧ RowsP w' Bo m (allB b) ∧ Below w.heap.size w w' := by
  have hRD := hide (fun A' n' c' V (hq : Rd V A' n' b) (hc : n' ≤ c') (hn' : n' ≤ 100000) => read_any A' n' c' b V hq hc hn')
  have HR := hide hr
  clear hr
  go_enter Try.func12, Try.ntmps12
  go_wp2_with fail
  refine (clone_any A n c b _ HR.out (by omega)).mono ?_
  rintro e w1 ⟨A1, c1, rfl, ho, hb⟩
  have HB1 := hide hb
  have hcap := own_caps ho
  have HO1 := hide ho
  clear ho hb
  go_wp2_with fail
  refine (hRD.out A1 n c1 _ (Reads.of_own HO1.out) hcap (by omega)).mono ?_
  rintro e w2 ⟨Bo, m, cb, A2, n2, c2, rfl, hro, hrr, hc2, hb2⟩
  have HB2 := hide (below_more HB1.out (Nat.le_refl _) hb2)
  have HRP := hide (hro.rowsP hb2.size)
  clear hro hrr hb2
  have hAB : allB b = if (readD b).2.2 = 0 then (readD b).1 else [] := rfl
  generalize hE : (readD b).2.2 = E at hAB ⊢
  have HE := hide hE
  clear hE
  by_cases h0 : E = 0
  · subst h0
    rw [if_pos rfl] at hAB
    have HAB := hide hAB
    have hz : ((0 : Int) != 0) = false := rfl
    clear hAB
    go_wp2
    go_ret2
    exact ⟨Bo, m, cb, by rw [HE.out]; rfl, by rw [HAB.out]; exact HRP.out, HB2.out⟩
  · rw [if_neg h0] at hAB
    have HAB := hide hAB
    have hz : (E != 0) = true := by rw [bne_iff_ne]; exact h0
    clear hAB
    go_wp2
    go_ret2
    exact ⟨none, 0, 0, by rw [HE.out]; rfl, by rw [HAB.out]; exact RowsP.nil _, HB2.out⟩

def feedR (h : Bs) (dead : Bool) (b : Bs) : Bs × Bool × List Bs × Int :=
  if okS h dead = false then (h, dead, [], 2) else if dead = true then ([], true, [], 41) else if (readD (h ++ b)).2.2 = 5 then ([], true, (readD (h ++ b)).1, 5) else ((readD (h ++ b)).2.1, false, (readD (h ++ b)).1, 0)
/-- Rows of bytes, the row itself made at or above B. -/
def RowsW (B : Nat) (w : World) (A : Option Addr) (n c : Nat) (bs : List Bs) : Prop := ∃ vs, w.ownsRow B 22 1 (.slice A n c) n vs ∧ RowsV w w.heap.size vs bs
theorem RowsW.rowsP {B : Nat} {w : World} {A : Option Addr} {n c : Nat} {bs : List Bs} (h : RowsW B w A n c bs) : RowsP w A n bs := by
  obtain ⟨vs, h1, h2⟩ := h
  exact ⟨vs, Reads.of_own h1, h2⟩
theorem RowsW.nil (B : Nat) (w : World) : RowsW B w none 0 0 [] := ⟨[], World.ownsRow_nil _ _ _ _, RowsV.nil _ _⟩
theorem RowsW.more {B C : Nat} {w : World} {A : Option Addr} {n c : Nat} {bs : List Bs} (h : RowsW B w A n c bs) (hB : C ≤ B) : RowsW C w A n c bs := by
  obtain ⟨vs, h1, h2⟩ := h
  exact ⟨vs, own_more h1 hB, h2⟩
theorem RowsW.below {B : Nat} {w w' : World} {A : Option Addr} {n c : Nat} {bs : List Bs} (h : RowsW B w A n c bs) (hb : Below w.heap.size w w') : RowsW B w' A n c bs := by
  obtain ⟨vs, h1, h2⟩ := h
  exact ⟨vs, own_below h1 hb, (h2.keep fun p hp => hb.cell hp).more hb.size⟩
def FeedEnd (w : World) (r : Bs × Bool × List Bs × Int) (e : Ending) (w' : World) : Prop :=
  ∃ A n c Bo m cb, e = .returned (.tuple #[stV A n c r.2.1, .slice Bo m cb, .int .i64 r.2.2.2]) ∧ RowsW w.heap.size w' Bo m cb r.2.2.1 ∧ Rd w' A n r.1 ∧ Below w.heap.size w w'
theorem FeedEnd.mk_ {w w' : World} {r : Bs × Bool × List Bs × Int} {h : Bs} {d : Bool} {bs : List Bs} {E : Int} {A : Option Addr} {n c : Nat} {Bo : Option Addr} {m cb : Nat} (hr : r = (h, d, bs, E)) (h1 : RowsW w.heap.size w' Bo m cb bs) (h2 : Rd w' A n h) (h3 : Below w.heap.size w w') :
    FeedEnd w r (.returned (.tuple #[stV A n c d, .slice Bo m cb, .int .i64 E])) w' := by
  subst hr; exact ⟨A, n, c, Bo, m, cb, rfl, h1, h2, h3⟩
theorem blk2a {w : World} {g : Nat} {t : TypeId} {x y : Value} (h : Blk w g t #[x, y]) : w.cell? ⟨g, 0, none⟩ = some x ∧ w.cell? ⟨g, 1, none⟩ = some y := ⟨h.cell 0, h.cell 1⟩
/-- Bytes stay what they are where something else than a byte is overwritten. -/
theorem Reads.set1 {w : World} {B : Nat} {A : Option Addr} {n : Nat} {xs : List UInt8} (h : Reads w B 1 A n (bv xs)) {p : Addr} {v0 : Value} (hp : w.cell? p = some v0) (hv : ∀ z, v0 ≠ .int .u8 z) (u : Value) : Reads (w.setCell p u) B 1 A n (bv xs) := by
  refine ⟨h.1, fun h0 => ?_⟩
  obtain ⟨ad, e, hb, hc⟩ := h.2 h0
  refine ⟨ad, e, hb, fun j y hj => ?_⟩
  rw [World.cell?_setCell_other w p (ad.add j) u ?_]
  · exact hc j y hj
  · intro e2
    have h1 := hc j y hj
    rw [← e2, hp] at h1
    have hm := List.mem_of_getElem? hj
    simp only [bv, List.mem_map] at hm
    obtain ⟨b, _, rfl⟩ := hm
    injection h1 with h1
    exact hv _ h1
theorem set_size (w : World) (p : Addr) (u : Value) : (w.setCell p u).heap.size = w.heap.size := by simp [World.setCell]
abbrev set2 (w : World) (g : Nat) (a b : Value) : World := (w.setCell ⟨g, 0, none⟩ a).setCell ⟨g, 1, none⟩ b
/-- Stores into a box of a stream leave bytes, and rows of bytes, as they were. -/
theorem reads_far {w : World} {g : Nat} {X : Option Addr} {n c : Nat} {d : Bool} (hq : Blk w g 24 #[.slice X n c, .bool d]) {B : Nat} {A : Option Addr} {m : Nat} {xs : Bs} (h : Reads w B 1 A m (bv xs)) (a b : Value) : Reads (set2 w g a b) B 1 A m (bv xs) :=
  (h.set1 (p := ⟨g, 0, none⟩) hq.two.1 (fun z h => by cases h) a).set1 (p := ⟨g, 1, none⟩) (hq.set_ 0 a).two.2.1 (fun z h => by cases h) b
theorem rd_far {w : World} {g : Nat} {X : Option Addr} {n c : Nat} {d : Bool} (hq : Blk w g 24 #[.slice X n c, .bool d]) {A : Option Addr} {m : Nat} {xs : Bs} (h : Rd w A m xs) (a b : Value) : Rd (set2 w g a b) A m xs := by
  have h2 := reads_far hq h a b
  exact h2.more (by rw [set_size, set_size]; exact Nat.le_refl _)
theorem rows_far {w : World} {g : Nat} {X : Option Addr} {n c : Nat} {d : Bool} (hq : Blk w g 24 #[.slice X n c, .bool d]) {B : Nat} {Bo : Option Addr} {m cb : Nat} {vs : List Value} {bs : List Bs} (h1 : w.ownsRow B 22 1 (.slice Bo m cb) m vs) (h2 : RowsV w w.heap.size vs bs) (a b : Value) : RowsW B (set2 w g a b) Bo m cb bs := by
  have o1 := own_set_blk h1 (p := ⟨g, 0, none⟩) hq (by decide) a
  have o2 := own_set_blk o1 (p := ⟨g, 1, none⟩) (hq.set_ 0 a) (by decide) b
  refine ⟨vs, o2, h2.1, fun j v b' hv hb => ?_⟩
  obtain ⟨A, n', c', e, hr⟩ := h2.2 j v b' hv hb
  exact ⟨A, n', c', e, rd_far hq hr a b⟩
set_option maxHeartbeats 4000000 in
theorem feed_any (A : Option Addr) (n c : Nat) (dead : Bool) (h : Bs) (B : Option Addr) (m k : Nat) (b : Bs) (w : World) (hr : Rd w A n h) (hb : Rd w B m b) (hn : n ≤ 20000) (hm : m ≤ 20000) :
    Calls Try.prog 8 #[stV A n c dead, .slice B m k] w (FeedEnd w (feedR h dead b)) := by
  obtain ⟨r, hR⟩ : ∃ r, feedR h dead b = r := ⟨_, rfl⟩
  rw [hR]
  have HR := hide hR
  have HA := hide hr
  have HB := hide hb
  clear hR hr hb
  go_enter Try.func8, Try.ntmps8
  go_wp2_with fail
  refine (check_any A n c dead h _ ((((HA.out.alloc (Nat.le_refl _) _).alloc (by simp) _)).more (by simp; omega)) (by omega)).mono ?_
  rintro e w1 ⟨rfl, k1⟩
  have BP := hide (((Blk.new w 24 #[Value.slice A n c, .bool dead]).alloc (.cells #[.slice none 0 0, .bool false] 24)).below k1 (by simp; omega))
  have BQ : Hid (Blk w1 (w.heap.size + 1) 24 #[.slice none 0 0, .bool false]) := hide (by have h := (Blk.new (w.alloc (.cells #[Value.slice A n c, .bool dead] 24)) 24 #[.slice none 0 0, .bool false]).below k1 (by simp); rwa [World.size_alloc] at h)
  have K1 := hide (below_more (((Below.refl w.heap.size w).alloc (Nat.le_refl _) (.cells #[Value.slice A n c, .bool dead] 24)).alloc (by simp) (.cells #[.slice none 0 0, .bool false] 24)) (Nat.le_refl _) k1)
  clear k1
  have zq := BQ.out.lt
  have zp := BP.out.lt
  have hne : w.heap.size ≠ w.heap.size + 1 := by omega
  obtain ⟨x0, x1, y0, y1⟩ := BP.out.two
  obtain ⟨u0, u1, v0, v1⟩ := BQ.out.two
  cases hok : okS h dead
  · have HE : Hid (r = (h, dead, [], 2)) := hide (by rw [← HR.out]; unfold feedR; rw [if_pos hok])
    clear hok HR
    go_upto_region 2 with (fail)
    have XC := hide (fun V (hV : Below w1.heap.size w1 V) => clone_any A n c h V ((Reads.below HA.out (below_more K1.out (Nat.le_refl _) hV)).more (below_more K1.out (Nat.le_refl _) hV).size) (by omega))
    have kW := hide (Below.refl w1.heap.size w1)
    clear x0 x1 y0 y1 u0 u1 v0 v1
    go_region_held3 (fun W => W.cell? ⟨w.heap.size, 0, none⟩ = some (.slice A n c) ∧ W.cell? ⟨w.heap.size, 1, none⟩ = some (.bool dead))
      (first | with_reducible exact blk2a ((BP.out.below kW.out BP.out.lt).drew) | with_reducible exact blk2a (BP.out.below kW.out BP.out.lt) | with_reducible exact blk2a (((BP.out.below kW.out BP.out.lt).far (p := ⟨w.heap.size + 1, 0, none⟩) hne _).far (p := ⟨w.heap.size + 1, 1, none⟩) hne _))
      (first
        | (go_at_call 19; with_reducible refine (XC.out _ (Below.drew kW.out)).mono ?_
           rintro e wx ⟨A1, c1, rfl, ho, kx⟩
           have HO := hide ho
           have kX := hide (below_more (Below.drew kW.out) (Nat.le_refl _) kx)
           clear kW
           have kW := hide kX.out
           have BQ2 := hide (BQ.out.below kW.out BQ.out.lt)
           have hlo := hide kW.out.size
           obtain ⟨u0, u1, v0, v1⟩ := BQ2.out.two
           clear kx ho kX))
    all_goals
      go_wp2
      refine bodyPost_ret (v := .tuple #[stV A1 n c1 dead, .slice none 0 0, .int .i64 2]) (by simp only [results, Try.results8]; go_simp) rfl (FeedEnd.mk_ HE.out (RowsW.nil _ _) ?_ ?_)
      · exact Reads.of_own (own_far (own_far HO.out (p := ⟨w.heap.size + 1, 0, none⟩) (by first | exact zq | (simp; exact zq)) _) (p := ⟨w.heap.size + 1, 1, none⟩) (by first | exact zq | (simp; exact zq)) _)
      · exact ((below_more K1.out (Nat.le_refl _) kW.out).setCell (by simp) _).setCell (by simp) _
  · cases dead
    · have HC : Hid (∀ E, (readD (h ++ b)).2.2 = E → r = if E = 5 then ([], true, (readD (h ++ b)).1, 5) else ((readD (h ++ b)).2.1, false, (readD (h ++ b)).1, 0)) := hide (fun E hE => by rw [← HR.out]; unfold feedR; rw [hok, if_neg (by decide), if_neg (by decide), hE])
      clear hok HR
      go_wp2_with fail
      have ha1 := hide ((Reads.below HA.out K1.out).more K1.out.size)
      have hb1 := hide ((Reads.below HB.out K1.out).more K1.out.size)
      refine (concat_any w1.heap.size A n c B m k h b _ (Blk.new w1 22 #[.slice A n c, .slice B m k]) ((ha1.out.alloc (Nat.le_refl _) _).more (by simp)) ((hb1.out.alloc (Nat.le_refl _) _).more (by simp)) (by omega) (by omega)).mono ?_
      rintro e w2 ⟨v, rfl, ho, hbb⟩
      obtain ⟨A2, c2, rfl⟩ := own_slice ho
      have hcap := own_caps ho
      have K2' := hide (below_more ((Below.refl w1.heap.size w1).alloc (Nat.le_refl _) (.cells #[.slice A n c, .slice B m k] 22)) (Nat.le_refl _) hbb)
      have HO := hide ho
      clear ho hbb x0 x1 y0 y1 u0 u1 v0 v1
      go_wp2_with fail
      refine (read_any A2 (n + m) c2 (h ++ b) _ (Reads.of_own HO.out) hcap (by omega)).mono ?_
      rintro e w3 ⟨Bo, mm, cb, A3, n3, c3, rfl, hro, hrr, hc3, hb3⟩
      have K3 := hide (below_more K2'.out (Nat.le_refl _) hb3)
      have hlo := hide K3.out.size
      obtain ⟨vs, hvs1, hvs2⟩ := hro
      have HV1 := hide hvs1
      have HV2 := hide (hvs2.more hb3.size)
      have HRR := hide (hrr.more hb3.size)
      have hbase := hide hb3.size
      have hw2 := hide K2'.out.size
      clear hvs1 hvs2 hrr hb3
      have BQ3 := hide (BQ.out.below K3.out BQ.out.lt)
      obtain ⟨u0, u1, v0, v1⟩ := BQ3.out.two
      have zq3 := BQ3.out.lt
      have hlw : w.heap.size ≤ w2.heap.size := by have := hw2.out; have := K1.out.size; omega
      have zq2 : w.heap.size + 1 < w2.heap.size := by have := hw2.out; omega
      have HE := hide (HC.out _ rfl)
      clear HC
      generalize (readD (h ++ b)).2.2 = E at HE ⊢
      have HRW := hide (rows_far (w := w3) (g := w.heap.size + 1) BQ3.out HV1.out HV2.out)
      have HRD := hide (rd_far (w := w3) (g := w.heap.size + 1) BQ3.out HRR.out)
      by_cases h5 : E = 5
      · subst h5
        have HE2 : Hid (r = ([], true, (readD (h ++ b)).1, 5)) := hide (by rw [HE.out, if_pos rfl])
        have hz : ((5 : Int) == 5) = true := rfl
        clear HE
        go_wp2
        refine bodyPost_ret (v := .tuple #[stV none 0 0 true, .slice Bo mm cb, .int .i64 5]) (by simp only [results, Try.results8]; go_simp) rfl (FeedEnd.mk_ HE2.out ((HRW.out _ _).more hlw) Reads.none_ ?_)
        exact ((below_more K1.out (Nat.le_refl _) K3.out).setCell (by simp) _).setCell (by simp) _
      · have HE2 : Hid (r = ((readD (h ++ b)).2.1, false, (readD (h ++ b)).1, 0)) := hide (by rw [HE.out, if_neg h5])
        have hz : (E == 5) = false := beq_eq_false_iff_ne.2 h5
        clear HE
        go_wp2
        refine bodyPost_ret (v := .tuple #[stV A3 n3 c3 false, .slice Bo mm cb, .int .i64 0]) (by simp only [results, Try.results8]; go_simp) rfl (FeedEnd.mk_ HE2.out ((HRW.out _ _).more hlw) (HRD.out _ _) ?_)
        exact ((below_more K1.out (Nat.le_refl _) K3.out).setCell (by simp) _).setCell (by simp) _
    · have HE : Hid (r = ([], true, [], 41)) := hide (by rw [← HR.out]; unfold feedR; rw [hok, if_neg (by decide), if_pos rfl])
      clear hok HR
      go_wp2
      refine bodyPost_ret (v := .tuple #[stV none 0 0 true, .slice none 0 0, .int .i64 41]) (by simp only [results, Try.results8]; go_simp) rfl (FeedEnd.mk_ HE.out (RowsW.nil _ _) Reads.none_ ?_)
      exact (K1.out.setCell (by simp) _).setCell (by simp) _
end Go.Proofs.Ytgmpcgcmcheelaa
