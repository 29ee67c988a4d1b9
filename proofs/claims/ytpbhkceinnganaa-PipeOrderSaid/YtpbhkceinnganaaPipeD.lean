/- The contract of pipe.Read. -/
import Derived.Test.YtpbhkceinnganaaPipeA
import Derived.Deep.RegionHeld3
namespace Go.Proofs.Ytpbhkceinnganaa
open Go.RowKit
set_option linter.unusedVariables false

def rdQ (n : Nat) (r u k : Int) : Nat := if okP n r u = true ∧ 0 < k then min k.toNat n else 0
def rdE (n : Nat) (r u k : Int) : Int := if okP n r u = false ∨ k < 0 then 2 else if k = 0 then 0 else if n = 0 ∧ u ≠ 0 then 29 else 0
def ReadEnd (w : World) (d : List UInt8) (r u k : Int) (e : Ending) (w' : World) : Prop :=
  ∃ A' n' c' B m c2, e = .returned (.tuple #[pv A' n' c' r u, .slice B m c2, .int .i64 (rdE d.length r u k)]) ∧ Rc w.heap.size w' A' n' c' (d.drop (rdQ d.length r u k)) ∧ Rd w' B m (d.take (rdQ d.length r u k)) ∧ Below w.heap.size w w'
theorem readEnd_no {w w' : World} {d : List UInt8} {r u k E : Int} {A' : Option Addr} {c' : Nat} (h : rdQ d.length r u k = 0 ∧ rdE d.length r u k = E) (hr : Rc w.heap.size w' A' d.length c' d) (hb : Below w.heap.size w w') :
    ReadEnd w d r u k (.returned (.tuple #[pv A' d.length c' r u, .slice none 0 0, .int .i64 E])) w' := by
  refine ⟨A', d.length, c', none, 0, 0, by rw [h.2], ?_, ?_, hb⟩
  · rw [h.1]; exact hr
  · rw [h.1, List.take_zero]; exact Reads.none_

theorem blk3 {w : World} {g : Nat} {t : TypeId} {x y z : Value} (h : Blk w g t #[x, y, z]) : w.cell? ⟨g, 0, none⟩ = some x ∧ w.cell? ⟨g, 1, none⟩ = some y ∧ w.cell? ⟨g, 2, none⟩ = some z := ⟨h.three.1, h.three.2.1, h.three.2.2.1⟩
theorem belowN {B : Nat} {a w : World} (n : Nat) (h : Below B a w) : Below B a (w.drewN n) := ⟨h.os, h.tape, h.output, h.size, h.block⟩
theorem run_slice_max {P : Program} (t e : TypeId) (ht : P.underlying t = some (.slice e)) (hs : (P.info? e).map (·.size) = some 1) (A : Option Addr) (len cap : Nat) (k : IntKind) (h : Int) (h0 : 0 ≤ h) (h1 : h ≤ cap) (W : World) :
    (Instr.slice t (.slice A len cap) none (some (.int k h)) (some (.int k h))).run P W = .ok (.slice A h.toNat h.toNat) W := by
  have hE : P.elem t = e := by simp [Program.elem, ht]
  rw [run_slice_hm W t A len cap (slice_ht ht) k k h h h0 (Int.le_refl _) h1, hE, run_sizeOf_one e hs]
  simp [Result.andThen, sliced, map_zero_]
theorem Reads.drop {w : World} {B n c : Nat} {A : Option Addr} {xs : List Value} (h : Reads w B 1 A n xs) {q : Nat} (hq : q ≤ n) (hc : n ≤ c) : Reads w B 1 (if c = q then A else A.map (·.add q)) (n - q) (xs.drop q) := by
  refine ⟨by rw [List.length_drop, h.1]; omega, fun h0 => ?_⟩
  obtain ⟨ad, e, hb, hcell⟩ := h.2 (by omega)
  refine ⟨ad.add q, by rw [if_neg (by omega), e]; rfl, ?_, fun j u hj => ?_⟩
  · unfold Addr.add; split <;> exact hb
  · rw [List.getElem?_drop] at hj
    rw [add_of_add]
    exact hcell _ u hj

set_option maxHeartbeats 2000000 in
theorem read_any (A : Option Addr) (c : Nat) (r u : Int) (d : List UInt8) (k : Int) (w : World) (hr : Rd w A d.length d) (hn : d.length ≤ 1000) (hc : d.length ≤ c) (hcc : c ≤ maxLen) (hk0 : -9223372036854775808 ≤ k) (hk1 : k ≤ 9223372036854775807) :
    Calls Try.prog 9 #[pv A d.length c r u, .int .i64 k] w (ReadEnd w d r u k) := by
  go_enter Try.func9, Try.ntmps9
  go_wp2_with fail
  refine (cpipe_any A _ c r u d _ (((hr.alloc (Nat.le_refl _) _).alloc (by simp) _).more (by simp; omega)) (by omega)).mono ?_
  rintro e w1 ⟨A', c', rfl, hown, hb1⟩
  have hbw := hide ((((Below.refl w.heap.size w).alloc (Nat.le_refl _) (.cells #[Value.slice A d.length c, .int .i64 r, .int .i64 u] 24)).alloc (by simp) (.cells #[Value.slice none 0 0, .int .i64 0, .int .i64 0] 24)).trans (hb1.mono (by simp; omega)))
  have hA1 := ((Blk.new w 24 #[Value.slice A d.length c, .int .i64 r, .int .i64 u]).alloc (.cells #[Value.slice none 0 0, .int .i64 0, .int .i64 0] 24)).below hb1 (by simp; omega)
  obtain ⟨a0, a1, a2, f0, f1, f2⟩ := hA1.three
  have hB1 := (Blk.new (w.alloc (.cells #[Value.slice A d.length c, .int .i64 r, .int .i64 u] 24)) 24 #[Value.slice none 0 0, .int .i64 0, .int .i64 0]).below hb1 (by simp)
  obtain ⟨b0, b1, b2, g0, g1, g2⟩ := hB1.three
  simp only [World.size_alloc] at b0 b1 b2 g0 g1 g2 hB1 hown
  have hz := hb1.size
  simp at hz
  have hz2 : w.heap.size + 1 < w1.heap.size := by omega
  have hz3 : w.heap.size < w1.heap.size := by omega
  clear hb1
  have HO : Hid (w1.ownsRow (w.heap.size + 1 + 1) 5 1 (.slice A' d.length c') d.length (bv d)) := hide hown
  clear hown
  go_wp2_with fail
  refine (check_any A _ c r u _ (by unfold maxLen; omega)).mono ?_
  rintro e w2 ⟨rfl, rfl⟩
  by_cases hok : okP d.length r u = false
  · rw [hok]
    go_wp2
    all_goals
      refine bodyPost_ret (v := .tuple #[pv A' d.length c' r u, .slice none 0 0, .int .i64 2]) (by simp only [results, Try.results9]; go_simp) rfl (readEnd_no ⟨by unfold rdQ; rw [hok]; simp, by unfold rdE; rw [hok]; simp⟩ (rc_of_own ((own_far (own_far (own_far HO.out (by simp) _) (by simp) _) (by simp) _).alloc _ |>.alloc _)) ?_)
      exact ((((hbw.out.setCell (by simp) _).setCell (by simp) _).setCell (by simp) _).alloc (by simp [World.setCell]; omega) _).alloc (by simp [World.setCell]; omega) _
  · rw [Bool.not_eq_false] at hok
    rw [hok]
    by_cases hneg : k < 0
    · go_wp2
      refine bodyPost_ret (v := .tuple #[pv A' d.length c' r u, .slice none 0 0, .int .i64 2]) (by simp only [results, Try.results9]; go_simp) rfl (readEnd_no ⟨by unfold rdQ; rw [if_neg (by omega)], by unfold rdE; rw [if_pos (.inr hneg)]⟩ (rc_of_own ((own_far (own_far (own_far HO.out (by simp) _) (by simp) _) (by simp) _).alloc _ |>.alloc _)) ?_)
      exact ((((hbw.out.setCell (by simp) _).setCell (by simp) _).setCell (by simp) _).alloc (by simp [World.setCell]; omega) _).alloc (by simp [World.setCell]; omega) _
    · have hne : ¬ (okP d.length r u = false ∨ k < 0) := by rw [hok]; simp; omega
      by_cases hk : k = 0
      · subst hk
        go_wp2
        refine bodyPost_ret (v := .tuple #[pv A' d.length c' r u, .slice none 0 0, .int .i64 0]) (by simp only [results, Try.results9]; go_simp) rfl (readEnd_no ⟨by unfold rdQ; rw [if_neg (by omega)], by unfold rdE; rw [if_neg hne]; simp⟩ (rc_of_own ((own_far (own_far (own_far HO.out (by simp) _) (by simp) _) (by simp) _).alloc _ |>.alloc _)) ?_)
        exact ((((hbw.out.setCell (by simp) _).setCell (by simp) _).setCell (by simp) _).alloc (by simp [World.setCell]; omega) _).alloc (by simp [World.setCell]; omega) _
      · have hkb : (k == 0) = false := beq_eq_false_iff_ne.2 hk
        by_cases hd0 : d.length = 0
        · have hdb : ((d.length : Int) == 0) = true := beq_iff_eq.2 (by omega)
          have hQ : rdQ d.length r u k = 0 := by unfold rdQ; split <;> omega
          have HQ := hide hQ
          have HD := hide hd0
          clear hQ hd0
          by_cases hu : u = 0
          · have hub : (u == 0) = true := beq_iff_eq.2 hu
            have HE : Hid (rdE d.length r u k = 0) := hide (by unfold rdE; rw [if_neg hne, if_neg hk, if_neg (by simp [hu])])
            have HU := hide hu
            clear hu hne
            go_wp2
            refine bodyPost_ret (v := .tuple #[pv A' d.length c' r u, .slice none 0 0, .int .i64 0]) (by simp only [results, Try.results9]; go_simp) rfl (readEnd_no ⟨HQ.out, HE.out⟩ (rc_of_own ((own_far (own_far (own_far HO.out (by simp) _) (by simp) _) (by simp) _).alloc _ |>.alloc _)) ?_)
            exact ((((hbw.out.setCell (by simp) _).setCell (by simp) _).setCell (by simp) _).alloc (by simp [World.setCell]; omega) _).alloc (by simp [World.setCell]; omega) _
          · have hub : (u == 0) = false := beq_eq_false_iff_ne.2 hu
            have HE : Hid (rdE d.length r u k = 29) := hide (by unfold rdE; rw [if_neg hne, if_neg hk, if_pos ⟨HD.out, hu⟩])
            clear hne
            go_wp2
            refine bodyPost_ret (v := .tuple #[pv A' d.length c' r u, .slice none 0 0, .int .i64 29]) (by simp only [results, Try.results9]; go_simp) rfl (readEnd_no ⟨HQ.out, HE.out⟩ (rc_of_own ((own_far (own_far (own_far HO.out (by simp) _) (by simp) _) (by simp) _).alloc _ |>.alloc _)) ?_)
            exact ((((hbw.out.setCell (by simp) _).setCell (by simp) _).setCell (by simp) _).alloc (by simp [World.setCell]; omega) _).alloc (by simp [World.setCell]; omega) _
        · have hdb : ((d.length : Int) == 0) = false := beq_eq_false_iff_ne.2 (by omega)
          have HE : Hid (rdE d.length r u k = 0) := hide (by unfold rdE; rw [if_neg hne, if_neg hk, if_neg (by simp [hd0])])
          have HQ : Hid (rdQ d.length r u k = min k.toNat d.length) := hide (by unfold rdQ; rw [if_pos ⟨hok, by omega⟩])
          have hk2 : 0 < k := by omega
          have hd2 : 0 < d.length := by omega
          clear hne hk hd0
          have hrB := (hr.below hbw.out)
          by_cases hle : k ≤ (d.length : Int)
          · have hkk0 := hk2
            have hsm := fun W => run_slice_max (P := Try.prog) 22 5 Try.underlying22 sizeU8 A d.length c .i64 k (by omega) (by omega) W
            have hsf := fun W => run_slice_from (P := Try.prog) 22 5 Try.underlying22 sizeU8 A d.length c .i64 k (by omega) hle W
            have hX := fun (W : World) (h : Rd W A d.length d) => Reads.drop h (q := k.toNat) (by omega) hc
            generalize (if c = k.toNat then A else A.map (·.add k.toNat)) = A2 at hsf hX
            go_wp2
            go_quiet (fail)
            go_wp2_with fail
            generalize hWX : (((w1.alloc (Obj.cells #[Value.slice A' d.length c', Value.int IntKind.i64 r, Value.int IntKind.i64 u] 24)).alloc (Obj.cells #[Value.slice A d.length c, Value.int IntKind.i64 r, Value.int IntKind.i64 u] 24)).drewN nq) = WX
            have hOX : Blk WX w1.heap.size 24 #[Value.slice A' d.length c', .int .i64 r, .int .i64 u] := by
              rw [← hWX]; exact ((Blk.new w1 24 #[Value.slice A' d.length c', .int .i64 r, .int .i64 u]).alloc _)
            have hBX : Blk WX (w.heap.size + 1) 24 #[Value.slice none 0 0, .int .i64 0, .int .i64 0] := by
              rw [← hWX]; exact ((hB1.alloc _).alloc _)
            have hRX : Reads WX w.heap.size 1 A d.length (bv d) := by
              rw [← hWX]; exact ((Reads.below hr hbw.out).alloc (by omega) _).alloc (by simp; omega) _
            have hLX : Below w.heap.size w WX := by
              rw [← hWX]; exact belowN nq ((hbw.out.alloc (by omega) (.cells #[Value.slice A' d.length c', .int .i64 r, .int .i64 u] 24)).alloc (by simp; omega) (.cells #[Value.slice A d.length c, .int .i64 r, .int .i64 u] 24))
            have hZX : WX.heap.size = w1.heap.size + 2 := by rw [← hWX]; simp [World.drewN]
            have HWX := hide hWX
            clear hWX
            refine (list_any A2 _ _ (d.drop k.toNat) _ (by have hx := hX WX (hRX.more (by omega)); rw [← bv_drop] at hx; exact hx) (by omega)).mono ?_
            rintro e w2 ⟨A3, c3, rfl, ho3, hb3⟩
            have hO2 := hOX.below hb3 (by omega)
            have hB2 := hBX.below hb3 (by omega)
            have hR2 := hRX.below (hb3.mono (by omega))
            have hL2 := hide (hLX.trans (hb3.mono (by omega)))
            have hz4 := hb3.size
            have HO3 := hide ho3
            clear ho3 hb3
            obtain ⟨x0, x1, x2, y0, y1, y2⟩ := hO2.three
            obtain ⟨p0, p1, p2, s0, s1, s2⟩ := hB2.three
            clear a0 a1 a2 b0 b1 b2 f0 f1 f2 g0 g1 g2 hA1
            go_wp2_with fail
            generalize hW3 : (w2.setCell { block := w1.heap.size, off := 0 } (Value.slice A3 (d.length - k.toNat) c3)) = W3
            have hO3 : Blk W3 w1.heap.size 24 #[Value.slice A3 (d.length - k.toNat) c3, .int .i64 r, .int .i64 u] := by
              rw [← hW3]; exact hO2.set_ 0 _
            have hB3 : Blk W3 (w.heap.size + 1) 24 #[Value.slice none 0 0, .int .i64 0, .int .i64 0] := by
              rw [← hW3]; exact hB2.far (p := ⟨w1.heap.size, 0, none⟩) (by simp; omega) _
            have hR3 : Reads W3 w.heap.size 1 A d.length (bv d) := by
              rw [← hW3]; exact hR2.setCell (by simp; omega) _
            have hL3 : Hid (Below w.heap.size w W3) := hide (by rw [← hW3]; exact hL2.out.setCell (by simp; omega) _)
            have hP3 : Hid (W3.ownsRow WX.heap.size 5 1 (.slice A3 (d.length - k.toNat) c3) (d.length - k.toNat) (bv (d.drop k.toNat))) := hide (by rw [← hW3]; exact own_far HO3.out (by simp; omega) _)
            have hZ3 : W3.heap.size = w2.heap.size := by rw [← hW3]; simp [World.setCell]
            have HW3 := hide hW3
            clear hW3 x0 x1 x2 y0 y1 y2 p0 p1 p2 s0 s1 s2 hO2 hB2 hR2
            obtain ⟨x0, x1, x2, y0, y1, y2⟩ := hO3.three
            have hZ4 : w.heap.size + 1 < W3.drew.heap.size ∧ w1.heap.size < W3.drew.heap.size ∧ w.heap.size ≤ W3.drew.heap.size ∧ W3.drew.heap.size = W3.heap.size := by
              show w.heap.size + 1 < W3.heap.size ∧ w1.heap.size < W3.heap.size ∧ w.heap.size ≤ W3.heap.size ∧ W3.heap.size = W3.heap.size
              omega
            have hne5 : w1.heap.size ≠ w.heap.size + 1 := by omega
            have hRT : ∀ W, W = W3.drew → Rd W A k.toNat (d.take k.toNat) := fun W e => by
              have hx := (Reads.take hR3 (q := k.toNat) (by omega)).more hZ4.2.2.1
              rw [← bv_take] at hx
              rw [e]; exact hx
            go_region_held3 (fun W => W.cell? ⟨w1.heap.size, 0, none⟩ = some (.slice A3 (d.length - k.toNat) c3) ∧ W.cell? ⟨w1.heap.size, 1, none⟩ = some (.int .i64 r) ∧ W.cell? ⟨w1.heap.size, 2, none⟩ = some (.int .i64 u))
              (first | exact ⟨x0, x1, x2⟩ | exact ⟨m0, m1, m2⟩ | exact blk3 (((hO5.far (p := ⟨w.heap.size + 1, 0, none⟩) hne5 _).far (p := ⟨w.heap.size + 1, 1, none⟩) hne5 _).far (p := ⟨w.heap.size + 1, 2, none⟩) hne5 _))
              ((go_at_call 20; refine (list_any A k.toNat k.toNat (d.take k.toNat) _ (hRT _ rfl) (by omega)).mono ?_; rintro e w4 ⟨A5, c5, rfl, ho5, hb5⟩; have hO5 := hO3.drew.below hb5 hZ4.2.1; have hB5 := hB3.drew.below hb5 hZ4.1; have hz5 := hb5.size; have HO5 := hide ho5; have HB5 := hide hb5; clear ho5 hb5; obtain ⟨m0, m1, m2, n0, n1, n2⟩ := hO5.three; obtain ⟨q0, q1, q2, t0, t1, t2⟩ := hB5.three))
            go_wp2
            have hQ0 : rdQ d.length r u k = k.toNat := by rw [HQ.out]; omega
            have o1 := own_far (own_far (own_far (own_below (w := W3.drew) hP3.out HB5.out) (p := ⟨w.heap.size + 1, 0, none⟩) (by simp; omega) (Value.slice A3 (d.length - k.toNat) c3)) (p := ⟨w.heap.size + 1, 1, none⟩) (by simp; omega) (.int .i64 r)) (p := ⟨w.heap.size + 1, 2, none⟩) (by simp; omega) (.int .i64 u)
            have o2 := own_far (own_far (own_far HO5.out (p := ⟨w.heap.size + 1, 0, none⟩) hZ4.1 (Value.slice A3 (d.length - k.toNat) c3)) (p := ⟨w.heap.size + 1, 1, none⟩) hZ4.1 (.int .i64 r)) (p := ⟨w.heap.size + 1, 2, none⟩) hZ4.1 (.int .i64 u)
            refine bodyPost_ret (v := .tuple #[pv A3 (d.length - k.toNat) c3 r u, .slice A5 k.toNat c5, .int .i64 0]) (by simp only [results, Try.results9]; go_simp) rfl ?_
            refine ⟨A3, d.length - k.toNat, c3, A5, k.toNat, c5, by rw [HE.out], by rw [hQ0]; exact rc_of_own o1, by rw [hQ0]; exact Reads.of_own o2, ?_⟩
            exact (((hL3.out.drew.trans (HB5.out.mono hZ4.2.2.1)).setCell (by simp) _).setCell (by simp) _).setCell (by simp) _
          · obtain ⟨kk, hkk⟩ : ∃ kk : Int, kk = d.length := ⟨_, rfl⟩
            have hnle : ¬ (k ≤ (d.length : Int)) := hle
            have hle : kk ≤ (d.length : Int) := by omega
            have hkk0 : 0 < kk := by omega
            have hks : kk.toNat = d.length := by omega
            have hsm := fun W => run_slice_max (P := Try.prog) 22 5 Try.underlying22 sizeU8 A d.length c .i64 kk (by omega) (by omega) W
            have hsf := fun W => run_slice_from (P := Try.prog) 22 5 Try.underlying22 sizeU8 A d.length c .i64 kk (by omega) hle W
            have hX := fun (W : World) (h : Rd W A d.length d) => Reads.drop h (q := kk.toNat) (by omega) hc
            generalize (if c = kk.toNat then A else A.map (·.add kk.toNat)) = A2 at hsf hX
            have HKK := hide hkk
            have HKS := hide hks
            clear hks hkk hle
            go_wp2
            rw [← HKK.out]
            have hle : kk ≤ (d.length : Int) := by rw [HKK.out]; exact Int.le_refl _
            go_quiet (fail)
            go_wp2_with fail
            generalize hWX : (((w1.alloc (Obj.cells #[Value.slice A' d.length c', Value.int IntKind.i64 r, Value.int IntKind.i64 u] 24)).alloc (Obj.cells #[Value.slice A d.length c, Value.int IntKind.i64 r, Value.int IntKind.i64 u] 24)).drewN nq) = WX
            have hOX : Blk WX w1.heap.size 24 #[Value.slice A' d.length c', .int .i64 r, .int .i64 u] := by
              rw [← hWX]; exact ((Blk.new w1 24 #[Value.slice A' d.length c', .int .i64 r, .int .i64 u]).alloc _)
            have hBX : Blk WX (w.heap.size + 1) 24 #[Value.slice none 0 0, .int .i64 0, .int .i64 0] := by
              rw [← hWX]; exact ((hB1.alloc _).alloc _)
            have hRX : Reads WX w.heap.size 1 A d.length (bv d) := by
              rw [← hWX]; exact ((Reads.below hr hbw.out).alloc (by omega) _).alloc (by simp; omega) _
            have hLX : Below w.heap.size w WX := by
              rw [← hWX]; exact belowN nq ((hbw.out.alloc (by omega) (.cells #[Value.slice A' d.length c', .int .i64 r, .int .i64 u] 24)).alloc (by simp; omega) (.cells #[Value.slice A d.length c, .int .i64 r, .int .i64 u] 24))
            have hZX : WX.heap.size = w1.heap.size + 2 := by rw [← hWX]; simp [World.drewN]
            have HWX := hide hWX
            clear hWX
            refine (list_any A2 _ _ (d.drop kk.toNat) _ (by have hx := hX WX (hRX.more (by omega)); rw [← bv_drop] at hx; exact hx) (by omega)).mono ?_
            rintro e w2 ⟨A3, c3, rfl, ho3, hb3⟩
            have hO2 := hOX.below hb3 (by omega)
            have hB2 := hBX.below hb3 (by omega)
            have hR2 := hRX.below (hb3.mono (by omega))
            have hL2 := hide (hLX.trans (hb3.mono (by omega)))
            have hz4 := hb3.size
            have HO3 := hide ho3
            clear ho3 hb3
            obtain ⟨x0, x1, x2, y0, y1, y2⟩ := hO2.three
            obtain ⟨p0, p1, p2, s0, s1, s2⟩ := hB2.three
            clear a0 a1 a2 b0 b1 b2 f0 f1 f2 g0 g1 g2 hA1
            go_wp2_with fail
            generalize hW3 : (w2.setCell { block := w1.heap.size, off := 0 } (Value.slice A3 (d.length - kk.toNat) c3)) = W3
            have hO3 : Blk W3 w1.heap.size 24 #[Value.slice A3 (d.length - kk.toNat) c3, .int .i64 r, .int .i64 u] := by
              rw [← hW3]; exact hO2.set_ 0 _
            have hB3 : Blk W3 (w.heap.size + 1) 24 #[Value.slice none 0 0, .int .i64 0, .int .i64 0] := by
              rw [← hW3]; exact hB2.far (p := ⟨w1.heap.size, 0, none⟩) (by simp; omega) _
            have hR3 : Reads W3 w.heap.size 1 A d.length (bv d) := by
              rw [← hW3]; exact hR2.setCell (by simp; omega) _
            have hL3 : Hid (Below w.heap.size w W3) := hide (by rw [← hW3]; exact hL2.out.setCell (by simp; omega) _)
            have hP3 : Hid (W3.ownsRow WX.heap.size 5 1 (.slice A3 (d.length - kk.toNat) c3) (d.length - kk.toNat) (bv (d.drop kk.toNat))) := hide (by rw [← hW3]; exact own_far HO3.out (by simp; omega) _)
            have hZ3 : W3.heap.size = w2.heap.size := by rw [← hW3]; simp [World.setCell]
            have HW3 := hide hW3
            clear hW3 x0 x1 x2 y0 y1 y2 p0 p1 p2 s0 s1 s2 hO2 hB2 hR2
            obtain ⟨x0, x1, x2, y0, y1, y2⟩ := hO3.three
            have hZ4 : w.heap.size + 1 < W3.drew.heap.size ∧ w1.heap.size < W3.drew.heap.size ∧ w.heap.size ≤ W3.drew.heap.size ∧ W3.drew.heap.size = W3.heap.size := by
              show w.heap.size + 1 < W3.heap.size ∧ w1.heap.size < W3.heap.size ∧ w.heap.size ≤ W3.heap.size ∧ W3.heap.size = W3.heap.size
              omega
            have hne5 : w1.heap.size ≠ w.heap.size + 1 := by omega
            have hRT : ∀ W, W = W3.drew → Rd W A kk.toNat (d.take kk.toNat) := fun W e => by
              have hx := (Reads.take hR3 (q := kk.toNat) (by omega)).more hZ4.2.2.1
              rw [← bv_take] at hx
              rw [e]; exact hx
            go_region_held3 (fun W => W.cell? ⟨w1.heap.size, 0, none⟩ = some (.slice A3 (d.length - kk.toNat) c3) ∧ W.cell? ⟨w1.heap.size, 1, none⟩ = some (.int .i64 r) ∧ W.cell? ⟨w1.heap.size, 2, none⟩ = some (.int .i64 u))
              (first | exact ⟨x0, x1, x2⟩ | exact ⟨m0, m1, m2⟩ | exact blk3 (((hO5.far (p := ⟨w.heap.size + 1, 0, none⟩) hne5 _).far (p := ⟨w.heap.size + 1, 1, none⟩) hne5 _).far (p := ⟨w.heap.size + 1, 2, none⟩) hne5 _))
              ((go_at_call 20; refine (list_any A kk.toNat kk.toNat (d.take kk.toNat) _ (hRT _ rfl) (by omega)).mono ?_; rintro e w4 ⟨A5, c5, rfl, ho5, hb5⟩; have hO5 := hO3.drew.below hb5 hZ4.2.1; have hB5 := hB3.drew.below hb5 hZ4.1; have hz5 := hb5.size; have HO5 := hide ho5; have HB5 := hide hb5; clear ho5 hb5; obtain ⟨m0, m1, m2, n0, n1, n2⟩ := hO5.three; obtain ⟨q0, q1, q2, t0, t1, t2⟩ := hB5.three))
            go_wp2
            have hQ0 : rdQ d.length r u k = kk.toNat := by rw [HQ.out, HKS.out]; omega
            have o1 := own_far (own_far (own_far (own_below (w := W3.drew) hP3.out HB5.out) (p := ⟨w.heap.size + 1, 0, none⟩) (by simp; omega) (Value.slice A3 (d.length - kk.toNat) c3)) (p := ⟨w.heap.size + 1, 1, none⟩) (by simp; omega) (.int .i64 r)) (p := ⟨w.heap.size + 1, 2, none⟩) (by simp; omega) (.int .i64 u)
            have o2 := own_far (own_far (own_far HO5.out (p := ⟨w.heap.size + 1, 0, none⟩) hZ4.1 (Value.slice A3 (d.length - kk.toNat) c3)) (p := ⟨w.heap.size + 1, 1, none⟩) hZ4.1 (.int .i64 r)) (p := ⟨w.heap.size + 1, 2, none⟩) hZ4.1 (.int .i64 u)
            refine bodyPost_ret (v := .tuple #[pv A3 (d.length - kk.toNat) c3 r u, .slice A5 kk.toNat c5, .int .i64 0]) (by simp only [results, Try.results9]; go_simp) rfl ?_
            refine ⟨A3, d.length - kk.toNat, c3, A5, kk.toNat, c5, by rw [HE.out], by rw [hQ0]; exact rc_of_own o1, by rw [hQ0]; exact Reads.of_own o2, ?_⟩
            exact (((hL3.out.drew.trans (HB5.out.mono hZ4.2.2.1)).setCell (by simp) _).setCell (by simp) _).setCell (by simp) _
end Go.Proofs.Ytpbhkceinnganaa
