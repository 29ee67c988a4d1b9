/- The reference's Read of pipes. -/
import Derived.Test.YtpbhkceinnganaaPipeS
import Derived.Test.YtpbhkceinnganaaPipeD
namespace Go.Proofs.Ytpbhkceinnganaa
open Go.RowKit
set_option linter.unusedVariables false

def RReadEnd (w : World) (d : List UInt8) (r u k : Int) (e : Ending) (w' : World) : Prop :=
  ∃ A' n' c' B m c2, e = .returned (.tuple #[pv A' n' c' r u, .slice B m c2, .int .i64 (rdE d.length r u k)]) ∧ Rd w' A' n' (d.drop (rdQ d.length r u k)) ∧ Rd w' B m (d.take (rdQ d.length r u k)) ∧ Below w.heap.size w w'
theorem rreadEnd_no {w w' : World} {A : Option Addr} {c : Nat} {d : List UInt8} {r u k E : Int} (h : rdQ d.length r u k = 0 ∧ rdE d.length r u k = E) (hr : Rd w A d.length d) (hb : Below w.heap.size w w') :
    RReadEnd w d r u k (.returned (.tuple #[pv A d.length c r u, .slice none 0 0, .int .i64 E])) w' := by
  refine ⟨A, d.length, c, none, 0, 0, by rw [h.2], ?_, ?_, hb⟩
  · rw [h.1]; exact (Reads.below hr hb).more hb.size
  · rw [h.1, List.take_zero]; exact Reads.none_

set_option maxHeartbeats 2000000 in
theorem rread_any (A : Option Addr) (c : Nat) (r u : Int) (d : List UInt8) (k : Int) (w : World) (hr : Rd w A d.length d) (hn : d.length ≤ 1000) (hc : d.length ≤ c) (hcc : c ≤ maxLen) (hk0 : -9223372036854775808 ≤ k) (hk1 : k ≤ 9223372036854775807) :
    Calls Try.prog 10 #[pv A d.length c r u, .int .i64 k] w (RReadEnd w d r u k) := by
  obtain ⟨i0, hi, hz0, hz1', hz2'⟩ := info_parts infoU8
  go_enter Try.func10, Try.ntmps10
  go_wp2_with fail
  refine (rcheck_any A _ c r u _ (by unfold maxLen; omega)).mono ?_
  rintro e w2 ⟨rfl, rfl⟩
  cases hok : okP d.length r u
  · have HE : Hid (rdQ d.length r u k = 0 ∧ rdE d.length r u k = 2) := hide (by unfold rdQ rdE; rw [hok]; simp)
    go_wp2
    refine bodyPost_ret (v := .tuple #[pv A d.length c r u, .slice none 0 0, .int .i64 2]) (by simp only [results, Try.results10]; go_simp) rfl (rreadEnd_no HE.out hr ?_)
    ((repeat (refine Below.alloc ?_ (by first | exact Nat.le_refl _ | (simp; done) | (simp; omega)) _)); exact Below.refl _ _)
  · by_cases hneg : k < 0
    · have HE : Hid (rdQ d.length r u k = 0 ∧ rdE d.length r u k = 2) := hide (by unfold rdQ rdE; rw [if_neg (by omega), if_pos (.inr hneg)]; exact ⟨rfl, rfl⟩)
      go_wp2
      refine bodyPost_ret (v := .tuple #[pv A d.length c r u, .slice none 0 0, .int .i64 2]) (by simp only [results, Try.results10]; go_simp) rfl (rreadEnd_no HE.out hr ?_)
      ((repeat (refine Below.alloc ?_ (by first | exact Nat.le_refl _ | (simp; done) | (simp; omega)) _)); exact Below.refl _ _)
    · have hne : ¬ (okP d.length r u = false ∨ k < 0) := by rw [hok]; simp; omega
      cases hkb : (k == 0)
      · have hk0 : k ≠ 0 := beq_eq_false_iff_ne.1 hkb
        have hk2 : 0 < k := by omega
        cases hdb : ((d.length : Int) == 0)
        · have hd0 := beq_eq_false_iff_ne.1 hdb
          have HE : Hid (rdE d.length r u k = 0) := hide (by unfold rdE; rw [if_neg hne, if_neg hk0, if_neg (by omega)])
          have HQ : Hid (rdQ d.length r u k = min k.toNat d.length) := hide (by unfold rdQ; rw [if_pos ⟨hok, by omega⟩])
          have hd2 : 0 < d.length := by omega
          clear hne hk0 hd0
          have hX := fun (W : World) (h : Rd W A d.length d) (q : Nat) (hq : q ≤ d.length) => Reads.drop h (q := q) hq hc
          obtain ⟨ad, rfl, _, _⟩ := hr.get (k := 0) (by omega)
          generalize hW0 : ((w.alloc (.cells #[Value.slice (some ad) d.length c, .int .i64 r, .int .i64 u] 24)).alloc (.cells #[Value.slice none 0 0, .int .i64 0, .int .i64 0] 24)).alloc (.cells #[Value.slice (some ad) d.length c, .int .i64 r, .int .i64 u] 24) = W0
          have hP0 : Blk W0 w.heap.size 24 #[Value.slice (some ad) d.length c, .int .i64 r, .int .i64 u] := by rw [← hW0]; exact ((Blk.new w 24 _).alloc _).alloc _
          have hR0 : Blk W0 (w.heap.size + 1) 24 #[Value.slice none 0 0, .int .i64 0, .int .i64 0] := by
            rw [← hW0]
            have h1 := (Blk.new (w.alloc (.cells #[Value.slice (some ad) d.length c, .int .i64 r, .int .i64 u] 24)) 24 #[Value.slice none 0 0, .int .i64 0, .int .i64 0]).alloc (.cells #[Value.slice (some ad) d.length c, .int .i64 r, .int .i64 u] 24)
            simpa only [World.size_alloc] using h1
          have hr0 : Reads W0 w.heap.size 1 (some ad) d.length (bv d) := by rw [← hW0]; exact ((hr.alloc (Nat.le_refl _) _).alloc (by simp) _).alloc (by simp; omega) _
          have hb0 : Below w.heap.size w W0 := by rw [← hW0]; ((repeat (refine Below.alloc ?_ (by first | exact Nat.le_refl _ | (simp; done) | (simp; omega)) _)); exact Below.refl _ _)
          have hz0' : W0.heap.size = w.heap.size + 3 := by rw [← hW0]; simp
          have HW0 := hide hW0
          clear hW0
          obtain ⟨a0, a1, a2, f0, f1, f2⟩ := hP0.three
          obtain ⟨b0, b1, b2, g0, g1, g2⟩ := hR0.three
          have hown0 : (W0.alloc (.cells #[] 5)).ownsRow w.heap.size 5 1 (.slice (some ⟨W0.heap.size, 0, none⟩) 0 0) 0 [] :=
            Blk.own (cap := 0) (Blk.new W0 5 #[]) (by omega) (Nat.zero_le _) rfl
          have hrE := hr0.alloc (by omega) (.cells #[] 5)
          have HZ0 := hide hz0'
          have hz0l : w.heap.size + 1 < W0.heap.size := by omega
          have hz0m : w.heap.size < W0.heap.size := by omega
          clear hz0'
          by_cases hle : k ≤ (d.length : Int)
          · have hsl := fun W => run_slice_to (P := Try.prog) 22 5 Try.underlying22 sizeU8 (some ad) d.length c .i64 k (by omega) (by omega) W
            have hsf := fun W => run_slice_from (P := Try.prog) 22 5 Try.underlying22 sizeU8 (some ad) d.length c .i64 k (by omega) hle W
            have hX' := fun (W : World) (h : Rd W (some ad) d.length d) => hX W h k.toNat (by omega)
            generalize (if c = k.toNat then (some ad) else (some ad : Option Addr).map (·.add k.toNat)) = A2 at hsf hX'
            go_wp2_with (at_builtin; go_loud (refine wpList_append_any _ rfl (.tmp 34) (.tmp 38) 22 rfl w.heap.size 5 i0 _ 1 1 Try.underlying22 hi hz0 hz1' hz2' rfl (by omega) (.slice (some ⟨W0.heap.size, 0, none⟩) 0 0) 0 [] rfl hown0 w.heap.size (some ad) k.toNat c (bv (d.take k.toNat)) rfl (by rw [bv_take]; exact hrE.take (by omega)) (bv_one _) ?c1 ?c2 ?c3 ?_))
            case c1 => unfold maxLen; omega
            case c2 => omega
            case c3 => simp; omega
            intro v1 W2 hown1 hg1 hat1
            obtain ⟨B1, e1, rfl⟩ := own_slice hown1
            have hP2 := (hP0.alloc (.cells #[] 5)).grown hg1 (by simp [Value.ownBlock]; omega)
            have hR2 := (hR0.alloc (.cells #[] 5)).grown hg1 (by simp [Value.ownBlock]; omega)
            have hb2 := (hb0.alloc (by omega) (.cells #[] 5)).grown hg1 (by simp; omega) (fun g hg => by simp [Value.ownBlock] at hg; omega)
            have hr2 := (hrE.grown hg1 (by simp; omega) (fun g hg => by simp [Value.ownBlock] at hg; omega)).more hb2.size
            have hz2 := hg1.size
            simp at hz2
            have HO1 := hide hown1
            have HB2 := hide hb2
            clear hown1 hb2 hg1 hat1 a0 a1 a2 f0 f1 f2 b0 b1 b2 g0 g1 g2
            obtain ⟨a0, a1, a2, f0, f1, f2⟩ := hP2.three
            obtain ⟨b0, b1, b2, g0, g1, g2⟩ := hR2.three
            have hy1 : w.heap.size < W2.heap.size := by omega
            have hy2 : w.heap.size + 1 < W2.heap.size := by omega
            have hown3 : (W2.alloc (.cells #[] 5)).ownsRow w.heap.size 5 1 (.slice (some ⟨W2.heap.size, 0, none⟩) 0 0) 0 [] :=
              Blk.own (cap := 0) (Blk.new W2 5 #[]) (by omega) (Nat.zero_le _) rfl
            have hrF := hX' W2 hr2
            have hrG := hrF.alloc (Nat.le_refl _) (.cells #[] 5)
            go_wp2_with (at_builtin; refine wpList_append_any _ rfl (.tmp 40) (.tmp 44) 22 rfl w.heap.size 5 i0 _ 1 1 Try.underlying22 hi hz0 hz1' hz2' rfl (by omega) (.slice (some ⟨W2.heap.size, 0, none⟩) 0 0) 0 [] rfl hown3 W2.heap.size A2 (d.length - k.toNat) (c - k.toNat) (bv (d.drop k.toNat)) rfl (by rw [bv_drop]; exact hrG) (bv_one _) ?d1 ?d2 ?d3 ?_)
            case d1 => unfold maxLen; omega
            case d2 => omega
            case d3 => simp; omega
            intro v3 W4 hown4 hg4 hat4
            obtain ⟨B4, e4, rfl⟩ := own_slice hown4
            have hP4 := (hP2.alloc (.cells #[] 5)).grown hg4 (by simp [Value.ownBlock]; omega)
            have hR4 := (hR2.alloc (.cells #[] 5)).grown hg4 (by simp [Value.ownBlock]; omega)
            have hb4 := (HB2.out.alloc (by omega) (.cells #[] 5)).grown hg4 (by simp; omega) (fun g hg => by simp [Value.ownBlock] at hg; omega)
            have ho4 := own_keep HO1.out (fun j hj hlt => (hg4.block j (by simp; omega) (by simp [Value.ownBlock]; omega)).trans (Below.heap_alloc W2 _ j hlt))
            have hz4 := hg4.size
            simp at hz4
            have HO1b := hide ho4
            have HO4 := hide hown4
            have HB4 := hide hb4
            clear ho4 hown4 hb4 hg4 hat4 a0 a1 a2 f0 f1 f2 b0 b1 b2 g0 g1 g2
            obtain ⟨a0, a1, a2, f0, f1, f2⟩ := hP4.three
            obtain ⟨b0, b1, b2, g0, g1, g2⟩ := hR4.three
            have hy3 : w.heap.size < W4.heap.size := by omega
            have hy4 : w.heap.size + 1 < W4.heap.size := by omega
            go_wp2
            have hQ0 : rdQ d.length r u k = k.toNat := by rw [HQ.out]; omega
            refine bodyPost_ret (v := .tuple #[pv B4 (d.length - k.toNat) e4 r u, .slice B1 k.toNat e1, .int .i64 0]) (by simp only [results, Try.results10]; go_simp) rfl ?_
            have hP5 := hP4.set_ 0 (.slice B4 (d.length - k.toNat) e4)
            have hR5 := hR4.far (p := ⟨w.heap.size, 0, none⟩) (by simp) (.slice B4 (d.length - k.toNat) e4)
            have ST : ∀ (B : Option Addr) (n e : Nat) (bs : List UInt8), W4.ownsRow w.heap.size 5 1 (.slice B n e) n (bv bs) → _ := fun B n e bs h => own_set_blk (own_set_blk (own_set_blk (own_set_blk h (p := ⟨w.heap.size, 0, none⟩) hP4 (by decide) (.slice B4 (d.length - k.toNat) e4)) (p := ⟨w.heap.size + 1, 0, none⟩) hR5 (by decide) (.slice B4 (d.length - k.toNat) e4)) (p := ⟨w.heap.size + 1, 1, none⟩) (hR5.set_ 0 _) (by decide) (.int .i64 r)) (p := ⟨w.heap.size + 1, 2, none⟩) ((hR5.set_ 0 _).set_ 1 _) (by decide) (.int .i64 u)
            refine ⟨B4, d.length - k.toNat, e4, B1, k.toNat, e1, by rw [HE.out], by rw [hQ0]; exact Reads.of_own (ST _ _ _ _ HO4.out), by rw [hQ0]; exact Reads.of_own (ST _ _ _ _ HO1b.out), ?_⟩
            exact (((HB4.out.setCell (by simp) _).setCell (by simp) _).setCell (by simp) _).setCell (by simp) _
          · have hsl := fun W => run_slice_to (P := Try.prog) 22 5 Try.underlying22 sizeU8 (some ad) d.length c .i64 (d.length : Int) (by omega) (by omega) W
            have hsf := fun W => run_slice_from (P := Try.prog) 22 5 Try.underlying22 sizeU8 (some ad) d.length c .i64 (d.length : Int) (by omega) (by omega) W
            have hX' := fun (W : World) (h : Rd W (some ad) d.length d) => hX W h d.length (by omega)
            have hdr : (bv d).drop d.length = [] := by rw [← bv_drop, List.drop_length]; rfl
            simp only [Int.toNat_natCast, Nat.sub_self, hdr] at hsl hsf hX'
            clear hdr
            generalize (if c = d.length then (some ad) else (some ad : Option Addr).map (·.add d.length)) = A2 at hsf hX'
            go_wp2_with (at_builtin; go_loud (refine wpList_append_any _ rfl (.tmp 34) (.tmp 38) 22 rfl w.heap.size 5 i0 _ 1 1 Try.underlying22 hi hz0 hz1' hz2' rfl (by omega) (.slice (some ⟨W0.heap.size, 0, none⟩) 0 0) 0 [] rfl hown0 w.heap.size (some ad) d.length c (bv d) rfl hrE (bv_one _) ?c4 ?c5 ?c6 ?_))
            case c4 => unfold maxLen; omega
            case c5 => omega
            case c6 => simp; omega
            intro v1 W2 hown1 hg1 hat1
            obtain ⟨B1, e1, rfl⟩ := own_slice hown1
            have hP2 := (hP0.alloc (.cells #[] 5)).grown hg1 (by simp [Value.ownBlock]; omega)
            have hR2 := (hR0.alloc (.cells #[] 5)).grown hg1 (by simp [Value.ownBlock]; omega)
            have hb2 := (hb0.alloc (by omega) (.cells #[] 5)).grown hg1 (by simp; omega) (fun g hg => by simp [Value.ownBlock] at hg; omega)
            have hr2 := (hrE.grown hg1 (by simp; omega) (fun g hg => by simp [Value.ownBlock] at hg; omega)).more hb2.size
            have hz2 := hg1.size
            simp at hz2
            have HO1 := hide hown1
            have HB2 := hide hb2
            clear hown1 hb2 hg1 hat1 a0 a1 a2 f0 f1 f2 b0 b1 b2 g0 g1 g2
            obtain ⟨a0, a1, a2, f0, f1, f2⟩ := hP2.three
            obtain ⟨b0, b1, b2, g0, g1, g2⟩ := hR2.three
            have hy1 : w.heap.size < W2.heap.size := by omega
            have hy2 : w.heap.size + 1 < W2.heap.size := by omega
            have hown3 : (W2.alloc (.cells #[] 5)).ownsRow w.heap.size 5 1 (.slice (some ⟨W2.heap.size, 0, none⟩) 0 0) 0 [] :=
              Blk.own (cap := 0) (Blk.new W2 5 #[]) (by omega) (Nat.zero_le _) rfl
            have hrF := hX' W2 hr2
            have hrG := hrF.alloc (Nat.le_refl _) (.cells #[] 5)
            go_wp2_with (at_builtin; refine wpList_append_any _ rfl (.tmp 40) (.tmp 44) 22 rfl w.heap.size 5 i0 _ 1 1 Try.underlying22 hi hz0 hz1' hz2' rfl (by omega) (.slice (some ⟨W2.heap.size, 0, none⟩) 0 0) 0 [] rfl hown3 W2.heap.size A2 (0) (c - d.length) [] rfl hrG (fun u hu => by cases hu) ?d4 ?d5 ?d6 ?_)
            case d4 => unfold maxLen; omega
            case d5 => omega
            case d6 => simp; omega
            intro v3 W4 hown4 hg4 hat4
            obtain ⟨B4, e4, rfl⟩ := own_slice hown4
            have hP4 := (hP2.alloc (.cells #[] 5)).grown hg4 (by simp [Value.ownBlock]; omega)
            have hR4 := (hR2.alloc (.cells #[] 5)).grown hg4 (by simp [Value.ownBlock]; omega)
            have hb4 := (HB2.out.alloc (by omega) (.cells #[] 5)).grown hg4 (by simp; omega) (fun g hg => by simp [Value.ownBlock] at hg; omega)
            have ho4 := own_keep HO1.out (fun j hj hlt => (hg4.block j (by simp; omega) (by simp [Value.ownBlock]; omega)).trans (Below.heap_alloc W2 _ j hlt))
            have hz4 := hg4.size
            simp at hz4
            have HO1b := hide ho4
            have HO4 := hide hown4
            have HB4 := hide hb4
            clear ho4 hown4 hb4 hg4 hat4 a0 a1 a2 f0 f1 f2 b0 b1 b2 g0 g1 g2
            obtain ⟨a0, a1, a2, f0, f1, f2⟩ := hP4.three
            obtain ⟨b0, b1, b2, g0, g1, g2⟩ := hR4.three
            have hy3 : w.heap.size < W4.heap.size := by omega
            have hy4 : w.heap.size + 1 < W4.heap.size := by omega
            go_wp2
            have hQ0 : rdQ d.length r u k = d.length := by rw [HQ.out]; omega
            refine bodyPost_ret (v := .tuple #[pv B4 (0) e4 r u, .slice B1 d.length e1, .int .i64 0]) (by simp only [results, Try.results10]; go_simp) rfl ?_
            have hP5 := hP4.set_ 0 (.slice B4 (0) e4)
            have hR5 := hR4.far (p := ⟨w.heap.size, 0, none⟩) (by simp) (.slice B4 (0) e4)
            have ST : ∀ (B : Option Addr) (n e : Nat) (bs : List UInt8), W4.ownsRow w.heap.size 5 1 (.slice B n e) n (bv bs) → _ := fun B n e bs h => own_set_blk (own_set_blk (own_set_blk (own_set_blk h (p := ⟨w.heap.size, 0, none⟩) hP4 (by decide) (.slice B4 (0) e4)) (p := ⟨w.heap.size + 1, 0, none⟩) hR5 (by decide) (.slice B4 (0) e4)) (p := ⟨w.heap.size + 1, 1, none⟩) (hR5.set_ 0 _) (by decide) (.int .i64 r)) (p := ⟨w.heap.size + 1, 2, none⟩) ((hR5.set_ 0 _).set_ 1 _) (by decide) (.int .i64 u)
            refine ⟨B4, 0, e4, B1, d.length, e1, by rw [HE.out], by rw [hQ0, List.drop_length]; exact Reads.of_own (ST _ _ _ [] HO4.out), by rw [hQ0, List.take_length]; exact Reads.of_own (ST _ _ _ _ HO1b.out), ?_⟩
            exact (((HB4.out.setCell (by simp) _).setCell (by simp) _).setCell (by simp) _).setCell (by simp) _
        · have hd0 : d.length = 0 := by have := beq_iff_eq.1 hdb; omega
          have HQ : Hid (rdQ d.length r u k = 0) := hide (by unfold rdQ; split <;> omega)
          cases hub : (u == 0)
          · have HE : Hid (rdE d.length r u k = 29) := hide (by unfold rdE; rw [if_neg hne, if_neg hk0, if_pos ⟨hd0, beq_eq_false_iff_ne.1 hub⟩])
            clear hne hk0 hd0
            go_wp2
            refine bodyPost_ret (v := .tuple #[pv A d.length c r u, .slice none 0 0, .int .i64 29]) (by simp only [results, Try.results10]; go_simp) rfl (rreadEnd_no ⟨HQ.out, HE.out⟩ hr ?_)
            ((repeat (refine Below.alloc ?_ (by first | exact Nat.le_refl _ | (simp; done) | (simp; omega)) _)); exact Below.refl _ _)
          · have HE : Hid (rdE d.length r u k = 0) := hide (by unfold rdE; rw [if_neg hne, if_neg hk0, if_neg (by have := beq_iff_eq.1 hub; simp [this])])
            clear hne hk0 hd0
            go_wp2
            refine bodyPost_ret (v := .tuple #[pv A d.length c r u, .slice none 0 0, .int .i64 0]) (by simp only [results, Try.results10]; go_simp) rfl (rreadEnd_no ⟨HQ.out, HE.out⟩ hr ?_)
            ((repeat (refine Below.alloc ?_ (by first | exact Nat.le_refl _ | (simp; done) | (simp; omega)) _)); exact Below.refl _ _)
      · have HE : Hid (rdQ d.length r u k = 0 ∧ rdE d.length r u k = 0) := hide (by have hk0 := beq_iff_eq.1 hkb; unfold rdQ rdE; rw [if_neg (by omega), if_neg hne, if_pos hk0]; exact ⟨rfl, rfl⟩)
        clear hne
        go_wp2
        refine bodyPost_ret (v := .tuple #[pv A d.length c r u, .slice none 0 0, .int .i64 0]) (by simp only [results, Try.results10]; go_simp) rfl (rreadEnd_no HE.out hr ?_)
        ((repeat (refine Below.alloc ?_ (by first | exact Nat.le_refl _ | (simp; done) | (simp; omega)) _)); exact Below.refl _ _)
end Go.Proofs.Ytpbhkceinnganaa
