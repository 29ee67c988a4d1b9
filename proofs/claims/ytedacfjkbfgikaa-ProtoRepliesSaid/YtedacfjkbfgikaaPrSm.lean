/- Texts, Numbers, Same, Reps at what is the same; Small, few. -/
import Derived.Test.YtedacfjkbfgikaaPrRf
import Derived.Test.YtedacfjkbfgikaaPrEn
import Derived.Test.YtedacfjkbfgikaaSame
import Derived.BigQuiet
namespace Go.Proofs.Ytedacfjkbfgikaa
open Go.RowKit
set_option linter.unusedVariables false
theorem rd_len {w : World} {B n : Nat} {A : Option Addr} {ks : List LB} (h : Reads w B 1 A n (svs ks)) : n = ks.length := by have := h.1; rw [svs_length] at this; omega
theorem ri_len {w : World} {B n : Nat} {A : Option Addr} {ks : List Int} (h : Reads w B 1 A n (ivs ks)) : n = ks.length := by have := h.1; simp [ivs] at this; omega
theorem ivs_get (ks : List Int) (j : Nat) (h : j < ks.length) : (ivs ks)[j]? = some (.int .i64 ks[j]) := by simp [ivs, h]
set_option maxHeartbeats 1000000 in
theorem texts_eq (ks : List LB) (A B : Option Addr) (n c m d : Nat) (w : World) (hA : Reads w w.heap.size 1 A n (svs ks)) (hB : Reads w w.heap.size 1 B m (svs ks)) (hn : n ≤ 1000000) :
    Calls Try.prog 63 #[.slice A n c, .slice B m d] w fun e w' => e = .returned (.bool true) ∧ Below w.heap.size w w' := by
  have h1 := rd_len hA
  have h2 := rd_len hB
  subst h1
  subst h2
  have HA := hide hA
  have HB := hide hB
  clear hA hB
  go_enter Try.func63, Try.ntmps63
  go_wp2_with fail
  go_loopw [5] (fun u5 wx => ∃ (k : Nat), k ≤ ks.length ∧ u5 = .int .i64 k ∧ Hid (Below w.heap.size w wx)) (fun i _ => ks.length - (intOf i).toNat)
  case atStart => exact ⟨0, Nat.zero_le _, rfl, hide (Below.refl _ _)⟩
  case round =>
    obtain ⟨k, hkl, rfl, HW⟩ := hrel
    by_cases hlt : k < ks.length
    · obtain ⟨g, o, rfl, hg, hc1⟩ := cells_of (HA.out.below HW.out) (by omega) (by rw [svs_length]; omega)
      obtain ⟨g2, o2, rfl, hg2, hc2⟩ := cells_of (HB.out.below HW.out) (by omega) (by rw [svs_length]; omega)
      have hcell := hc1 k _ (svs_get ks k hlt)
      have hcell2 := hc2 k _ (svs_get ks k hlt)
      generalize ks[k] = x at *
      unfold sv at hcell hcell2
      have hi1 : (k : Int) < (ks.length : Int) := by omega
      have hi0 : (0 : Int) ≤ (k : Int) := by omega
      have hx : (x != x) = false := by simp
      clear hc1 hc2
      go_wp2_with fail
      go_quiet (fail)
      go_wp2_with fail
      go_roundw
      case rel => exact ⟨k + 1, by omega, by go_num, hide (below_drewP HW.out _)⟩
      case measure => simp [intOf]; omega
    · obtain rfl : k = ks.length := by omega
      go_wp2_with fail
      go_ret
      exact ⟨rfl, HW.out⟩
set_option maxHeartbeats 1000000 in
theorem numbers_eq (ks : List Int) (A B : Option Addr) (n c m d : Nat) (w : World) (hA : Reads w w.heap.size 1 A n (ivs ks)) (hB : Reads w w.heap.size 1 B m (ivs ks)) (hn : n ≤ 1000000) :
    Calls Try.prog 64 #[.slice A n c, .slice B m d] w fun e w' => e = .returned (.bool true) ∧ Below w.heap.size w w' := by
  have h1 := ri_len hA
  have h2 := ri_len hB
  subst h1
  subst h2
  have HA := hide hA
  have HB := hide hB
  clear hA hB
  go_enter Try.func64, Try.ntmps64
  go_wp2_with fail
  go_loopw [5] (fun u5 wx => ∃ (k : Nat), k ≤ ks.length ∧ u5 = .int .i64 k ∧ Hid (Below w.heap.size w wx)) (fun i _ => ks.length - (intOf i).toNat)
  case atStart => exact ⟨0, Nat.zero_le _, rfl, hide (Below.refl _ _)⟩
  case round =>
    obtain ⟨k, hkl, rfl, HW⟩ := hrel
    by_cases hlt : k < ks.length
    · obtain ⟨g, o, rfl, hg, hc1⟩ := cells_of (HA.out.below HW.out) (by omega) (by rw [ivs, List.length_map]; omega)
      obtain ⟨g2, o2, rfl, hg2, hc2⟩ := cells_of (HB.out.below HW.out) (by omega) (by rw [ivs, List.length_map]; omega)
      have hcell := hc1 k _ (ivs_get ks k hlt)
      have hcell2 := hc2 k _ (ivs_get ks k hlt)
      generalize ks[k] = x at *
      have hi1 : (k : Int) < (ks.length : Int) := by omega
      have hi0 : (0 : Int) ≤ (k : Int) := by omega
      have hx : (x != x) = false := by simp
      clear hc1 hc2
      go_wp2_with fail
      go_quiet (fail)
      go_wp2_with fail
      go_roundw
      case rel => exact ⟨k + 1, by omega, by go_num, hide (below_drewP HW.out _)⟩
      case measure => simp [intOf]; omega
    · obtain rfl : k = ks.length := by omega
      go_wp2_with fail
      go_ret
      exact ⟨rfl, HW.out⟩
/-- The rows of a request can be read. -/
structure RdQ (w : World) (r : RQ) (D A E F : Option Addr) (dn dc an ac en ec fn fc : Nat) : Prop where
  d : Reads w w.heap.size 1 D dn (bv r.d)
  a : Reads w w.heap.size 1 A an (svs r.args)
  e : Reads w w.heap.size 1 E en (svs r.env)
  f : Reads w w.heap.size 1 F fn (ivs r.fds)
theorem RdQ.below {w w' : World} {r : RQ} {D A E F : Option Addr} {dn dc an ac en ec fn fc : Nat} (h : RdQ w r D A E F dn dc an ac en ec fn fc) (hb : Below w.heap.size w w') : RdQ w' r D A E F dn dc an ac en ec fn fc :=
  ⟨(h.d.below hb).more hb.size, (h.a.below hb).more hb.size, (h.e.below hb).more hb.size, (h.f.below hb).more hb.size⟩
set_option maxRecDepth 100000 in
set_option maxHeartbeats 8000000 in
theorem sameq_eq (r : RQ) (D A E F D' A' E' F' : Option Addr) (dn dc an ac en ec fn fc dn' dc' an' ac' en' ec' fn' fc' : Nat) (w : World) (h : RdQ w r D A E F dn dc an ac en ec fn fc) (h' : RdQ w r D' A' E' F' dn' dc' an' ac' en' ec' fn' fc') (hn : an ≤ 1000 ∧ en ≤ 1000 ∧ fn ≤ 100000) :
    Calls Try.prog 14 #[r.v D A E F dn dc an ac en ec fn fc, r.v D' A' E' F' dn' dc' an' ac' en' ec' fn' fc'] w fun e w' => e = .returned (.bool true) ∧ Below w.heap.size w w' := by
  obtain ⟨op, p, p2, hh, n, fl, d, args, env, fds⟩ := r
  have hb := ((Below.refl w.heap.size w).alloc (Nat.le_refl _) (.cells (qcs ⟨op, p, p2, hh, n, fl, d, args, env, fds⟩ D A E F dn dc an ac en ec fn fc) 26)).alloc (by simp) (.cells (qcs ⟨op, p, p2, hh, n, fl, d, args, env, fds⟩ D' A' E' F' dn' dc' an' ac' en' ec' fn' fc') 26)
  have hk1 := (Blk.new w 26 (qcs ⟨op, p, p2, hh, n, fl, d, args, env, fds⟩ D A E F dn dc an ac en ec fn fc)).alloc (.cells (qcs ⟨op, p, p2, hh, n, fl, d, args, env, fds⟩ D' A' E' F' dn' dc' an' ac' en' ec' fn' fc') 26)
  have hk2 := Blk.new (w.alloc (.cells (qcs ⟨op, p, p2, hh, n, fl, d, args, env, fds⟩ D A E F dn dc an ac en ec fn fc) 26)) 26 (qcs ⟨op, p, p2, hh, n, fl, d, args, env, fds⟩ D' A' E' F' dn' dc' an' ac' en' ec' fn' fc')
  have hs : (w.alloc (.cells (qcs ⟨op, p, p2, hh, n, fl, d, args, env, fds⟩ D A E F dn dc an ac en ec fn fc) 26)).heap.size = w.heap.size + 1 := by simp
  rw [hs] at hk2
  have R1 := h.below hb
  have R2 := h'.below hb
  unfold qcs at hb hk1 hk2 R1 R2
  unfold RQ.v
  dsimp only at *
  have HB := hide hb
  have HK1 := hide hk1
  have HK2 := hide hk2
  have HR1 := hide R1
  have HR2 := hide R2
  clear h h' hb hk1 hk2 R1 R2 hs
  generalize hW2 : (w.alloc (.cells #[.int .i64 op, .string ⟨p.toArray⟩, .string ⟨p2.toArray⟩, .int .i64 hh, .int .i64 n, .int .i64 fl, .slice D dn dc, .slice A an ac, .slice E en ec, .slice F fn fc] 26)).alloc (.cells #[.int .i64 op, .string ⟨p.toArray⟩, .string ⟨p2.toArray⟩, .int .i64 hh, .int .i64 n, .int .i64 fl, .slice D' dn' dc', .slice A' an' ac', .slice E' en' ec', .slice F' fn' fc'] 26) = W at HB HK1 HK2 HR1 HR2
  obtain ⟨x0, x1, x2, x3, x4, x5, x6, x7, x8, x9⟩ := blk10 HK1.out
  obtain ⟨y0, y1, y2, y3, y4, y5, y6, y7, y8, y9⟩ := blk10 HK2.out
  have s1 := run_string_of (P := Try.prog) W W.heap.size 22 9 5 D dn dc d Try.underlying22 Try.underlying5 Try.underlying9 HR1.out.d
  have s2 := run_string_of (P := Try.prog) W W.heap.size 22 9 5 D' dn' dc' d Try.underlying22 Try.underlying5 Try.underlying9 HR2.out.d
  have XA := hide (texts_eq args A A' an ac an' ac' W HR1.out.a HR2.out.a (by omega))
  go_enter Try.func14, Try.ntmps14
  go_wp2_with fail
  refine XA.out.mono ?_
  rintro e w1 ⟨rfl, hb1⟩
  have HB1 := hide (below_more HB.out (Nat.le_refl _) hb1)
  have K1 := hide (HK1.out.below hb1 HK1.out.lt)
  have K2 := hide (HK2.out.below hb1 HK2.out.lt)
  have R1 := hide (HR1.out.below hb1)
  have R2 := hide (HR2.out.below hb1)
  have XE := hide (texts_eq env E E' en ec en' ec' w1 R1.out.e R2.out.e (by omega))
  clear hW2 s1 s2 x0 x1 x2 x3 x4 x5 x6 x7 x8 x9 y0 y1 y2 y3 y4 y5 y6 y7 y8 y9 hb1 XA HB HK1 HK2 HR1 HR2
  obtain ⟨x0, x1, x2, x3, x4, x5, x6, x7, x8, x9⟩ := blk10 K1.out
  obtain ⟨y0, y1, y2, y3, y4, y5, y6, y7, y8, y9⟩ := blk10 K2.out
  go_wp2_with fail
  refine XE.out.mono ?_
  rintro e w2 ⟨rfl, hb2⟩
  have HB2 := hide (below_more HB1.out (Nat.le_refl _) hb2)
  have K3 := hide (K1.out.below hb2 K1.out.lt)
  have K4 := hide (K2.out.below hb2 K2.out.lt)
  have R3 := hide (R1.out.below hb2)
  have R4 := hide (R2.out.below hb2)
  have XF := hide (numbers_eq fds F F' fn fc fn' fc' w2 R3.out.f R4.out.f (by omega))
  clear x0 x1 x2 x3 x4 x5 x6 x7 x8 x9 y0 y1 y2 y3 y4 y5 y6 y7 y8 y9 hb2 XE HB1 K1 K2 R1 R2
  obtain ⟨x0, x1, x2, x3, x4, x5, x6, x7, x8, x9⟩ := blk10 K3.out
  obtain ⟨y0, y1, y2, y3, y4, y5, y6, y7, y8, y9⟩ := blk10 K4.out
  go_wp2_with fail
  refine XF.out.mono ?_
  rintro e w3 ⟨rfl, hb3⟩
  have HB3 := hide (below_more HB2.out (Nat.le_refl _) hb3)
  clear x0 x1 x2 x3 x4 x5 x6 x7 x8 x9 y0 y1 y2 y3 y4 y5 y6 y7 y8 y9 hb3 XF HB2 K3 K4 R3 R4
  go_wp2_with fail
  go_ret
  exact ⟨rfl, HB3.out⟩
set_option maxRecDepth 100000 in
set_option maxHeartbeats 8000000 in
theorem reps_eq (r : RP) (D A D' A' : Option Addr) (dn dc an ac dn' dc' an' ac' : Nat) (w : World) (hd : Reads w w.heap.size 1 D dn (bv r.d)) (hd' : Reads w w.heap.size 1 D' dn' (bv r.d)) (ha : Reads w w.heap.size 1 A an (svs r.names)) (ha' : Reads w w.heap.size 1 A' an' (svs r.names)) (hn : an ≤ 1000) :
    Calls Try.prog 24 #[r.v D A dn dc an ac, r.v D' A' dn' dc' an' ac'] w fun e w' => e = .returned (.bool true) ∧ Below w.heap.size w w' := by
  obtain ⟨er, hh, h2, n, d, names⟩ := r
  have hb := ((Below.refl w.heap.size w).alloc (Nat.le_refl _) (.cells (pcs ⟨er, hh, h2, n, d, names⟩ D A dn dc an ac) 43)).alloc (by simp) (.cells (pcs ⟨er, hh, h2, n, d, names⟩ D' A' dn' dc' an' ac') 43)
  have hk1 := (Blk.new w 43 (pcs ⟨er, hh, h2, n, d, names⟩ D A dn dc an ac)).alloc (.cells (pcs ⟨er, hh, h2, n, d, names⟩ D' A' dn' dc' an' ac') 43)
  have hk2 := Blk.new (w.alloc (.cells (pcs ⟨er, hh, h2, n, d, names⟩ D A dn dc an ac) 43)) 43 (pcs ⟨er, hh, h2, n, d, names⟩ D' A' dn' dc' an' ac')
  have hs : (w.alloc (.cells (pcs ⟨er, hh, h2, n, d, names⟩ D A dn dc an ac) 43)).heap.size = w.heap.size + 1 := by simp
  rw [hs] at hk2
  have R1 := hide ((hd.below hb).more hb.size)
  have R2 := hide ((hd'.below hb).more hb.size)
  have R3 := hide ((ha.below hb).more hb.size)
  have R4 := hide ((ha'.below hb).more hb.size)
  unfold pcs at hb hk1 hk2 R1 R2 R3 R4
  unfold RP.v
  dsimp only at *
  have HB := hide hb
  have HK1 := hide hk1
  have HK2 := hide hk2
  clear hd hd' ha ha' hb hk1 hk2 hs
  generalize hW2 : (w.alloc (.cells #[.int .i64 er, .int .i64 hh, .int .i64 h2, .int .i64 n, .slice D dn dc, .slice A an ac] 43)).alloc (.cells #[.int .i64 er, .int .i64 hh, .int .i64 h2, .int .i64 n, .slice D' dn' dc', .slice A' an' ac'] 43) = W at HB HK1 HK2 R1 R2 R3 R4
  obtain ⟨x0, x1, x2, x3, x4, x5⟩ := blk6 HK1.out
  obtain ⟨y0, y1, y2, y3, y4, y5⟩ := blk6 HK2.out
  have s1 := run_string_of (P := Try.prog) W W.heap.size 22 9 5 D dn dc d Try.underlying22 Try.underlying5 Try.underlying9 R1.out
  have s2 := run_string_of (P := Try.prog) W W.heap.size 22 9 5 D' dn' dc' d Try.underlying22 Try.underlying5 Try.underlying9 R2.out
  have XA := hide (texts_eq names A A' an ac an' ac' W R3.out R4.out (by omega))
  go_enter Try.func24, Try.ntmps24
  go_wp2_with fail
  refine XA.out.mono ?_
  rintro e w1 ⟨rfl, hb1⟩
  have HB1 := hide (below_more HB.out (Nat.le_refl _) hb1)
  clear hW2 s1 s2 x0 x1 x2 x3 x4 x5 y0 y1 y2 y3 y4 y5 hb1 XA HB HK1 HK2 R1 R2 R3 R4
  go_wp2_with fail
  go_ret
  exact ⟨rfl, HB1.out⟩
def FewEnd (dn an : Nat) (w : World) (e : Ending) (w' : World) : Prop := ∃ s, e = .returned (.bool s) ∧ (s = true → dn ≤ 5000 ∧ an ≤ 300) ∧ Below w.heap.size w w'
def SmEnd (dn an en fn : Nat) (w : World) (e : Ending) (w' : World) : Prop := ∃ s, e = .returned (.bool s) ∧ (s = true → dn ≤ 5000 ∧ an ≤ 40 ∧ en ≤ 60 ∧ fn ≤ 10) ∧ Below w.heap.size w w'
set_option maxRecDepth 100000 in
set_option maxHeartbeats 8000000 in
theorem few_any (r : RP) (D A : Option Addr) (dn dc an ac : Nat) (w : World) (ha : Reads w w.heap.size 1 A an (svs r.names)) :
    Calls Try.prog 19 #[r.v D A dn dc an ac] w fun e w' => FewEnd dn an w e w' := by
  obtain ⟨er, hh, h2, n, d, names⟩ := r
  have hb := (Below.refl w.heap.size w).alloc (Nat.le_refl _) (.cells (pcs ⟨er, hh, h2, n, d, names⟩ D A dn dc an ac) 43)
  have hk1 := Blk.new w 43 (pcs ⟨er, hh, h2, n, d, names⟩ D A dn dc an ac)
  unfold pcs at hb hk1
  unfold RP.v
  dsimp only at *
  have HB := hide hb
  have HK := hide hk1
  have HA := hide ha
  have hl := hk1.lt
  clear hb hk1
  have hal := rd_len ha
  have HAL := hide hal
  clear ha hal
  obtain ⟨x0, x1, x2, x3, x4, x5⟩ := blk6 HK.out
  go_enter Try.func19, Try.ntmps19
  go_wp2_with fail
  go_loop [3] (fun s3 => ∃ i : Nat, i ≤ an ∧ s3 = .int .i64 (i : Int)) (fun i => an - (intOf i).toNat)
  case atStart => exact ⟨0, Nat.zero_le _, rfl⟩
  case round =>
    obtain ⟨i, hi', rfl⟩ := hrel
    by_cases h3 : an ≤ 300
    · have h3a : (an : Int) ≤ 300 := by omega
      by_cases hlt : i < an
      · have hlt1 : (i : Int) < (an : Int) := by omega
        have hi0 : (0 : Int) ≤ (i : Int) := by omega
        have v1 : IntKind.i64.wrap ((i : Int) + 1) = (i : Int) + 1 := by simp [IntKind.wrap, IntKind.bits, IntKind.signed]; omega
        obtain ⟨g, o, rfl, hg, hc1⟩ := cells_of (HA.out.below HB.out) (by omega) (by rw [svs_length]; have := HAL.out; omega)
        have hcell := hc1 i _ (svs_get names i (by have := HAL.out; omega))
        generalize names[i]'(by have := HAL.out; omega) = x at *
        unfold sv at hcell
        clear hc1
        by_cases hx : (100 : Int) < (x.length : Int)
        · go_wp2_with fail
          go_ret
          exact ⟨false, rfl, fun h => absurd h (by simp), HB.out⟩
        · go_wp2_with fail
          go_round
          case rel => exact ⟨i + 1, by omega, by go_num⟩
          case measure => simp [intOf]; omega
      · have hlt1 : ¬ (i : Int) < (an : Int) := by omega
        by_cases hd : (dn : Int) ≤ 5000
        · go_wp2_with fail
          go_ret
          exact ⟨true, rfl, fun _ => ⟨by omega, by omega⟩, HB.out⟩
        · go_wp2_with fail
          go_ret
          exact ⟨false, rfl, fun h => absurd h (by simp), HB.out⟩
    · have h3a : ¬ (an : Int) ≤ 300 := by omega
      by_cases hlt : i < an
      · have hlt1 : (i : Int) < (an : Int) := by omega
        go_wp2_with fail
        go_ret
        exact ⟨false, rfl, fun h => absurd h (by simp), HB.out⟩
      · have hlt1 : ¬ (i : Int) < (an : Int) := by omega
        go_wp2_with fail
        go_ret
        exact ⟨false, rfl, fun h => absurd h (by simp), HB.out⟩
set_option maxRecDepth 100000 in
set_option maxHeartbeats 8000000 in
theorem small_any (r : RQ) (D A E F : Option Addr) (dn dc an ac en ec fn fc : Nat) (w : World) (h : RdQ w r D A E F dn dc an ac en ec fn fc) :
    Calls Try.prog 7 #[r.v D A E F dn dc an ac en ec fn fc] w fun e w' => SmEnd dn an en fn w e w' := by
  obtain ⟨op, p, p2, hh, n, fl, d, args, env, fds⟩ := r
  have hb := (Below.refl w.heap.size w).alloc (Nat.le_refl _) (.cells (qcs ⟨op, p, p2, hh, n, fl, d, args, env, fds⟩ D A E F dn dc an ac en ec fn fc) 26)
  have hk1 := Blk.new w 26 (qcs ⟨op, p, p2, hh, n, fl, d, args, env, fds⟩ D A E F dn dc an ac en ec fn fc)
  have HR := hide (h.below hb)
  have HAL : Hid (an = args.length) := hide (rd_len h.a)
  have HEL : Hid (en = env.length) := hide (rd_len h.e)
  clear h
  unfold qcs at hb hk1 HR
  unfold RQ.v
  dsimp only at *
  have HB := hide hb
  have HK := hide hk1
  have hl := hk1.lt
  clear hb hk1
  obtain ⟨x0, x1, x2, x3, x4, x5, x6, x7, x8, x9⟩ := blk10 HK.out
  have HNO : Hid (SmEnd dn an en fn w (.returned (.bool false)) (w.alloc (.cells #[.int .i64 op, .string ⟨p.toArray⟩, .string ⟨p2.toArray⟩, .int .i64 hh, .int .i64 n, .int .i64 fl, .slice D dn dc, .slice A an ac, .slice E en ec, .slice F fn fc] 26))) := hide ⟨false, rfl, fun h => absurd h (by simp), HB.out⟩
  go_enter Try.func7, Try.ntmps7
  go_wp2_with fail
  go_loop [3] (fun s3 => ∃ i : Nat, i ≤ an ∧ s3 = .int .i64 (i : Int) ∧ (an ≤ 40 → Hid True)) (fun i => an - (intOf i).toNat)
  case atStart => exact ⟨0, Nat.zero_le _, rfl, fun _ => trivial⟩
  case round =>
    obtain ⟨i, hi', rfl, -⟩ := hrel
    by_cases h3 : an ≤ 40
    · have h3a : (an : Int) ≤ 40 := by omega
      by_cases hlt : i < an
      · have hlt1 : (i : Int) < (an : Int) := by omega
        have hi0 : (0 : Int) ≤ (i : Int) := by omega
        have v1 : IntKind.i64.wrap ((i : Int) + 1) = (i : Int) + 1 := by simp [IntKind.wrap, IntKind.bits, IntKind.signed]; omega
        obtain ⟨g, o, rfl, hg, hc1⟩ := cells_of HR.out.a (by omega) (by rw [svs_length]; have := HAL.out; show 0 < args.length; omega)
        have hcell := hc1 i _ (svs_get args i (by have := HAL.out; omega))
        generalize args[i]'(by have := HAL.out; omega) = x at *
        unfold sv at hcell
        clear hc1
        by_cases hx : (1000 : Int) < (x.length : Int)
        · go_wp2_with fail
          go_ret
          exact HNO.out
        · go_wp2_with fail
          go_round
          case rel => exact ⟨i + 1, by omega, by go_num, fun _ => trivial⟩
          case measure => simp [intOf]; omega
      · obtain rfl : i = an := by omega
        have hlt1 : ¬ (i : Int) < (i : Int) := by omega
        clear hlt
        go_wp2_with fail
        go_loop [4] (fun s4 => ∃ j : Nat, j ≤ en ∧ s4 = .int .i64 (j : Int)) (fun j => en - (intOf j).toNat)
        case atStart => exact ⟨0, Nat.zero_le _, rfl⟩
        case round =>
          obtain ⟨j, hj', rfl⟩ := hrel
          by_cases h6 : en ≤ 60
          · have h6a : (en : Int) ≤ 60 := by omega
            by_cases hlt : j < en
            · have hlt2 : (j : Int) < (en : Int) := by omega
              have hj0 : (0 : Int) ≤ (j : Int) := by omega
              have v1 : IntKind.i64.wrap ((j : Int) + 1) = (j : Int) + 1 := by simp [IntKind.wrap, IntKind.bits, IntKind.signed]; omega
              obtain ⟨g, o, rfl, hg, hc1⟩ := cells_of HR.out.e (by omega) (by rw [svs_length]; have := HEL.out; show 0 < env.length; omega)
              have hcell := hc1 j _ (svs_get env j (by have := HEL.out; omega))
              generalize env[j]'(by have := HEL.out; omega) = x at *
              unfold sv at hcell
              clear hc1
              by_cases hx : (1000 : Int) < (x.length : Int)
              · go_wp2_with fail
                go_ret
                exact HNO.out
              · go_wp2_with fail
                go_round
                case rel => exact ⟨j + 1, by omega, by go_num⟩
                case measure => simp [intOf]; omega
            · have hlt2 : ¬ (j : Int) < (en : Int) := by omega
              by_cases t1 : (fn : Int) ≤ 10
              · by_cases t2 : (p.length : Int) ≤ 1000
                · by_cases t3 : (p2.length : Int) ≤ 1000
                  · by_cases t4 : (dn : Int) ≤ 5000
                    · go_wp2_with fail
                      go_ret
                      exact ⟨true, rfl, fun _ => ⟨by omega, by omega, by omega, by omega⟩, HB.out⟩
                    · go_wp2_with fail
                      go_ret
                      exact HNO.out
                  · go_wp2_with fail
                    go_ret
                    exact HNO.out
                · go_wp2_with fail
                  go_ret
                  exact HNO.out
              · go_wp2_with fail
                go_ret
                exact HNO.out
          · have h6a : ¬ (en : Int) ≤ 60 := by omega
            by_cases hlt : j < en
            · have hlt2 : (j : Int) < (en : Int) := by omega
              go_wp2_with fail
              go_ret
              exact HNO.out
            · have hlt2 : ¬ (j : Int) < (en : Int) := by omega
              go_wp2_with fail
              go_ret
              exact HNO.out
    · have h3a : ¬ (an : Int) ≤ 40 := by omega
      by_cases hlt : i < an
      · have hlt1 : (i : Int) < (an : Int) := by omega
        go_wp2_with fail
        go_loop [4] (fun s4 => ∃ j : Nat, j ≤ en ∧ s4 = .int .i64 (j : Int)) (fun j => en - (intOf j).toNat)
        case atStart => exact ⟨0, Nat.zero_le _, rfl⟩
        case round =>
          obtain ⟨j, hj', rfl⟩ := hrel
          by_cases h6 : en ≤ 60
          · have h6a : (en : Int) ≤ 60 := by omega
            by_cases hlt : j < en
            · have hlt2 : (j : Int) < (en : Int) := by omega
              have hj0 : (0 : Int) ≤ (j : Int) := by omega
              have v1 : IntKind.i64.wrap ((j : Int) + 1) = (j : Int) + 1 := by simp [IntKind.wrap, IntKind.bits, IntKind.signed]; omega
              obtain ⟨g, o, rfl, hg, hc1⟩ := cells_of HR.out.e (by omega) (by rw [svs_length]; have := HEL.out; show 0 < env.length; omega)
              have hcell := hc1 j _ (svs_get env j (by have := HEL.out; omega))
              generalize env[j]'(by have := HEL.out; omega) = x at *
              unfold sv at hcell
              clear hc1
              by_cases hx : (1000 : Int) < (x.length : Int)
              · go_wp2_with fail
                go_ret
                exact HNO.out
              · go_wp2_with fail
                go_round
                case rel => exact ⟨j + 1, by omega, by go_num⟩
                case measure => simp [intOf]; omega
            · have hlt2 : ¬ (j : Int) < (en : Int) := by omega
              go_wp2_with fail
              go_ret
              exact HNO.out
          · have h6a : ¬ (en : Int) ≤ 60 := by omega
            by_cases hlt : j < en
            · have hlt2 : (j : Int) < (en : Int) := by omega
              go_wp2_with fail
              go_ret
              exact HNO.out
            · have hlt2 : ¬ (j : Int) < (en : Int) := by omega
              go_wp2_with fail
              go_ret
              exact HNO.out
      · have hlt1 : ¬ (i : Int) < (an : Int) := by omega
        go_wp2_with fail
        go_loop [4] (fun s4 => ∃ j : Nat, j ≤ en ∧ s4 = .int .i64 (j : Int)) (fun j => en - (intOf j).toNat)
        case atStart => exact ⟨0, Nat.zero_le _, rfl⟩
        case round =>
          obtain ⟨j, hj', rfl⟩ := hrel
          by_cases h6 : en ≤ 60
          · have h6a : (en : Int) ≤ 60 := by omega
            by_cases hlt : j < en
            · have hlt2 : (j : Int) < (en : Int) := by omega
              have hj0 : (0 : Int) ≤ (j : Int) := by omega
              have v1 : IntKind.i64.wrap ((j : Int) + 1) = (j : Int) + 1 := by simp [IntKind.wrap, IntKind.bits, IntKind.signed]; omega
              obtain ⟨g, o, rfl, hg, hc1⟩ := cells_of HR.out.e (by omega) (by rw [svs_length]; have := HEL.out; show 0 < env.length; omega)
              have hcell := hc1 j _ (svs_get env j (by have := HEL.out; omega))
              generalize env[j]'(by have := HEL.out; omega) = x at *
              unfold sv at hcell
              clear hc1
              by_cases hx : (1000 : Int) < (x.length : Int)
              · go_wp2_with fail
                go_ret
                exact HNO.out
              · go_wp2_with fail
                go_round
                case rel => exact ⟨j + 1, by omega, by go_num⟩
                case measure => simp [intOf]; omega
            · have hlt2 : ¬ (j : Int) < (en : Int) := by omega
              go_wp2_with fail
              go_ret
              exact HNO.out
          · have h6a : ¬ (en : Int) ≤ 60 := by omega
            by_cases hlt : j < en
            · have hlt2 : (j : Int) < (en : Int) := by omega
              go_wp2_with fail
              go_ret
              exact HNO.out
            · have hlt2 : ¬ (j : Int) < (en : Int) := by omega
              go_wp2_with fail
              go_ret
              exact HNO.out
end Go.Proofs.Ytedacfjkbfgikaa
