/- The document's comparisons of children. -/
import Derived.Test.YtlkccboongnneaaGreatDoorPgAG
namespace Go.Proofs.YtlkccboongnneaaGreatDoor
open Go.RowKit
set_option linter.unusedVariables false
theorem cells_of {w : World} {B size n : Nat} {A : Option Addr} {xs : List Value} (h : Reads w B size A n xs) (h0 : 0 < n) (hx : 0 < xs.length) : ∃ g o, A = some ⟨g, o, none⟩ ∧ g < B ∧ ∀ j u, xs[j]? = some u → w.cell? ⟨g, o + j, none⟩ = some u := by
  obtain ⟨ad, rfl, hb, hc⟩ := h.2 h0
  have hp : ad = ⟨ad.block, ad.off, none⟩ := by
    have := World.cell?_spot (hc 0 xs[0] (List.getElem?_eq_getElem hx))
    unfold Addr.add at this
    revert this
    obtain ⟨ab, ao, asp⟩ := ad
    cases asp with
    | none => intro _; rfl
    | some sp => simp
  refine ⟨ad.block, ad.off, by rw [← hp], hb, fun j u hj => ?_⟩
  have := hc j u hj
  rw [hp, add_plain_] at this
  exact this
theorem ivs_get (ks : List Int) (j : Nat) (h : j < ks.length) : (ivs ks)[j]? = some (.int .i64 ks[j]) := by simp [ivs, h]
set_option maxHeartbeats 1000000 in
theorem texts_eq (ks : List Bs) (A B : Option Addr) (n c m d : Nat) (w : World) (hA : Reads w w.heap.size 1 A n (svs ks)) (hB : Reads w w.heap.size 1 B m (svs ks)) (hn : n ≤ 1000000) :
    Calls Tryz.prog 15 #[.slice A n c, .slice B m d] w fun e w' => e = .returned (.bool true) ∧ Below w.heap.size w w' := by
  have h1 := rd_lenS hA
  have h2 := rd_lenS hB
  subst h1
  subst h2
  have HA := hide hA
  have HB := hide hB
  clear hA hB
  go_enter Tryz.func15, Tryz.ntmps15
  go_wp2_with fail
  go_loopw [5] (fun u5 wx => ∃ (k : Nat), k ≤ ks.length ∧ u5 = .int .i64 k ∧ Hid (Below w.heap.size w wx)) (fun i _ => ks.length - (intOf i).toNat)
  case atStart => exact ⟨0, Nat.zero_le _, rfl, hide (Below.refl _ _)⟩
  case round =>
    obtain ⟨k, hkl, rfl, HW⟩ := hrel
    by_cases hlt : k < ks.length
    · obtain ⟨g, o, rfl, hg, hc1⟩ := cells_of (HA.out.below HW.out) (by omega) (by rw [svs_length]; omega)
      obtain ⟨g2, o2, rfl, hg2, hc2⟩ := cells_of (HB.out.below HW.out) (by omega) (by rw [svs_length]; omega)
      have hcell := hc1 k _ (svs_get ks k hlt)
      have hcell2 := hc2 k _ (svs_get ks k hlt)
      generalize ks[k] = x at *
      unfold sv at hcell hcell2
      have hi1 : (k : Int) < (ks.length : Int) := by omega
      have hi0 : (0 : Int) ≤ (k : Int) := by omega
      have hx : (x != x) = false := by simp
      clear hc1 hc2
      go_wp2_with fail
      go_quiet (fail)
      go_wp2_with fail
      go_roundw
      case rel => exact ⟨k + 1, by omega, by simp, hide (HW.out.trans (bdr _ _ _))⟩
      case measure => simp [intOf]; omega
    · obtain rfl : k = ks.length := by omega
      go_wp2_with fail
      go_ret
      exact ⟨rfl, HW.out⟩
set_option maxHeartbeats 1000000 in
theorem numbers_eq (ks : List Int) (A B : Option Addr) (n c m d : Nat) (w : World) (hA : Reads w w.heap.size 1 A n (ivs ks)) (hB : Reads w w.heap.size 1 B m (ivs ks)) (hn : n ≤ 1000000) :
    Calls Tryz.prog 45 #[.slice A n c, .slice B m d] w fun e w' => e = .returned (.bool true) ∧ Below w.heap.size w w' := by
  have h1 := rd_lenI hA
  have h2 := rd_lenI hB
  subst h1
  subst h2
  have HA := hide hA
  have HB := hide hB
  clear hA hB
  go_enter Tryz.func45, Tryz.ntmps45
  go_wp2_with fail
  go_loopw [5] (fun u5 wx => ∃ (k : Nat), k ≤ ks.length ∧ u5 = .int .i64 k ∧ Hid (Below w.heap.size w wx)) (fun i _ => ks.length - (intOf i).toNat)
  case atStart => exact ⟨0, Nat.zero_le _, rfl, hide (Below.refl _ _)⟩
  case round =>
    obtain ⟨k, hkl, rfl, HW⟩ := hrel
    by_cases hlt : k < ks.length
    · obtain ⟨g, o, rfl, hg, hc1⟩ := cells_of (HA.out.below HW.out) (by omega) (by rw [ivs_length]; omega)
      obtain ⟨g2, o2, rfl, hg2, hc2⟩ := cells_of (HB.out.below HW.out) (by omega) (by rw [ivs_length]; omega)
      have hcell := hc1 k _ (ivs_get ks k hlt)
      have hcell2 := hc2 k _ (ivs_get ks k hlt)
      generalize ks[k] = x at *
      have hi1 : (k : Int) < (ks.length : Int) := by omega
      have hi0 : (0 : Int) ≤ (k : Int) := by omega
      have hx : (x != x) = false := by simp
      clear hc1 hc2
      go_wp2_with fail
      go_quiet (fail)
      go_wp2_with fail
      go_roundw
      case rel => exact ⟨k + 1, by omega, by simp, hide (HW.out.trans (bdr _ _ _))⟩
      case measure => simp [intOf]; omega
    · obtain rfl : k = ks.length := by omega
      go_wp2_with fail
      go_ret
      exact ⟨rfl, HW.out⟩

set_option maxRecDepth 100000 in
set_option maxHeartbeats 8000000 in
theorem proc_eq (p : PR) (s z : PS) (w : World) (h1 : InP w w.heap.size p s) (h2 : InP w w.heap.size p z) (hf : FitP p) :
    Calls Tryz.prog 26 #[.agg #[Value.int .i64 p.pid, .string ⟨p.prog.toArray⟩, .slice s.A s.an s.ac, .slice s.E s.en s.ec, .slice s.F s.fn s.fc, .bool p.done, .int .i64 p.status, .int .i64 p.phase, .int .i64 p.count, .slice s.D s.dn s.dc], .agg #[Value.int .i64 p.pid, .string ⟨p.prog.toArray⟩, .slice z.A z.an z.ac, .slice z.E z.en z.ec, .slice z.F z.fn z.fc, .bool p.done, .int .i64 p.status, .int .i64 p.phase, .int .i64 p.count, .slice z.D z.dn z.dc]] w fun e w' => e = .returned (.bool true) ∧ Below w.heap.size w w' := by
  have hl1 := h1.lens hf
  have hl2 := h2.lens hf
  have hI1 : InP ((w.alloc (.cells #[Value.int .i64 p.pid, .string ⟨p.prog.toArray⟩, .slice s.A s.an s.ac, .slice s.E s.en s.ec, .slice s.F s.fn s.fc, .bool p.done, .int .i64 p.status, .int .i64 p.phase, .int .i64 p.count, .slice s.D s.dn s.dc] 26)).alloc (.cells #[Value.int .i64 p.pid, .string ⟨p.prog.toArray⟩, .slice z.A z.an z.ac, .slice z.E z.en z.ec, .slice z.F z.fn z.fc, .bool p.done, .int .i64 p.status, .int .i64 p.phase, .int .i64 p.count, .slice z.D z.dn z.dc] 26)) ((w.alloc (.cells #[Value.int .i64 p.pid, .string ⟨p.prog.toArray⟩, .slice s.A s.an s.ac, .slice s.E s.en s.ec, .slice s.F s.fn s.fc, .bool p.done, .int .i64 p.status, .int .i64 p.phase, .int .i64 p.count, .slice s.D s.dn s.dc] 26)).alloc (.cells #[Value.int .i64 p.pid, .string ⟨p.prog.toArray⟩, .slice z.A z.an z.ac, .slice z.E z.en z.ec, .slice z.F z.fn z.fc, .bool p.done, .int .i64 p.status, .int .i64 p.phase, .int .i64 p.count, .slice z.D z.dn z.dc] 26)).heap.size p s := in_on (in_on h1 (on_alloc _ _)) (on_alloc _ _)
  have hI2 : InP ((w.alloc (.cells #[Value.int .i64 p.pid, .string ⟨p.prog.toArray⟩, .slice s.A s.an s.ac, .slice s.E s.en s.ec, .slice s.F s.fn s.fc, .bool p.done, .int .i64 p.status, .int .i64 p.phase, .int .i64 p.count, .slice s.D s.dn s.dc] 26)).alloc (.cells #[Value.int .i64 p.pid, .string ⟨p.prog.toArray⟩, .slice z.A z.an z.ac, .slice z.E z.en z.ec, .slice z.F z.fn z.fc, .bool p.done, .int .i64 p.status, .int .i64 p.phase, .int .i64 p.count, .slice z.D z.dn z.dc] 26)) ((w.alloc (.cells #[Value.int .i64 p.pid, .string ⟨p.prog.toArray⟩, .slice s.A s.an s.ac, .slice s.E s.en s.ec, .slice s.F s.fn s.fc, .bool p.done, .int .i64 p.status, .int .i64 p.phase, .int .i64 p.count, .slice s.D s.dn s.dc] 26)).alloc (.cells #[Value.int .i64 p.pid, .string ⟨p.prog.toArray⟩, .slice z.A z.an z.ac, .slice z.E z.en z.ec, .slice z.F z.fn z.fc, .bool p.done, .int .i64 p.status, .int .i64 p.phase, .int .i64 p.count, .slice z.D z.dn z.dc] 26)).heap.size p z := in_on (in_on h2 (on_alloc _ _)) (on_alloc _ _)
  have hcv1 := run_string_of (P := Tryz.prog) _ _ 24 9 5 s.D s.dn s.dc p.buf Tryz.underlying24 Tryz.underlying5 Tryz.underlying9 hI1.d
  have hcv2 := run_string_of (P := Tryz.prog) _ _ 24 9 5 z.D z.dn z.dc p.buf Tryz.underlying24 Tryz.underlying5 Tryz.underlying9 hI2.d
  have H1 := hide hI1
  have H2 := hide hI2
  have HB : Hid (Below w.heap.size w ((w.alloc (.cells #[Value.int .i64 p.pid, .string ⟨p.prog.toArray⟩, .slice s.A s.an s.ac, .slice s.E s.en s.ec, .slice s.F s.fn s.fc, .bool p.done, .int .i64 p.status, .int .i64 p.phase, .int .i64 p.count, .slice s.D s.dn s.dc] 26)).alloc (.cells #[Value.int .i64 p.pid, .string ⟨p.prog.toArray⟩, .slice z.A z.an z.ac, .slice z.E z.en z.ec, .slice z.F z.fn z.fc, .bool p.done, .int .i64 p.status, .int .i64 p.phase, .int .i64 p.count, .slice z.D z.dn z.dc] 26))) := hide ((on_alloc _ _).alloc (by simp) _)
  have HX : Hid (Blk ((w.alloc (.cells #[Value.int .i64 p.pid, .string ⟨p.prog.toArray⟩, .slice s.A s.an s.ac, .slice s.E s.en s.ec, .slice s.F s.fn s.fc, .bool p.done, .int .i64 p.status, .int .i64 p.phase, .int .i64 p.count, .slice s.D s.dn s.dc] 26)).alloc (.cells #[Value.int .i64 p.pid, .string ⟨p.prog.toArray⟩, .slice z.A z.an z.ac, .slice z.E z.en z.ec, .slice z.F z.fn z.fc, .bool p.done, .int .i64 p.status, .int .i64 p.phase, .int .i64 p.count, .slice z.D z.dn z.dc] 26)) w.heap.size 26 #[Value.int .i64 p.pid, .string ⟨p.prog.toArray⟩, .slice s.A s.an s.ac, .slice s.E s.en s.ec, .slice s.F s.fn s.fc, .bool p.done, .int .i64 p.status, .int .i64 p.phase, .int .i64 p.count, .slice s.D s.dn s.dc]) := hide ((Blk.new w _ _).alloc _)
  have HY : Hid (Blk ((w.alloc (.cells #[Value.int .i64 p.pid, .string ⟨p.prog.toArray⟩, .slice s.A s.an s.ac, .slice s.E s.en s.ec, .slice s.F s.fn s.fc, .bool p.done, .int .i64 p.status, .int .i64 p.phase, .int .i64 p.count, .slice s.D s.dn s.dc] 26)).alloc (.cells #[Value.int .i64 p.pid, .string ⟨p.prog.toArray⟩, .slice z.A z.an z.ac, .slice z.E z.en z.ec, .slice z.F z.fn z.fc, .bool p.done, .int .i64 p.status, .int .i64 p.phase, .int .i64 p.count, .slice z.D z.dn z.dc] 26)) (w.heap.size + 1) 26 #[Value.int .i64 p.pid, .string ⟨p.prog.toArray⟩, .slice z.A z.an z.ac, .slice z.E z.en z.ec, .slice z.F z.fn z.fc, .bool p.done, .int .i64 p.status, .int .i64 p.phase, .int .i64 p.count, .slice z.D z.dn z.dc]) := hide (by
    have := Blk.new (w.alloc (.cells #[Value.int .i64 p.pid, .string ⟨p.prog.toArray⟩, .slice s.A s.an s.ac, .slice s.E s.en s.ec, .slice s.F s.fn s.fc, .bool p.done, .int .i64 p.status, .int .i64 p.phase, .int .i64 p.count, .slice s.D s.dn s.dc] 26)) 26 #[Value.int .i64 p.pid, .string ⟨p.prog.toArray⟩, .slice z.A z.an z.ac, .slice z.E z.en z.ec, .slice z.F z.fn z.fc, .bool p.done, .int .i64 p.status, .int .i64 p.phase, .int .i64 p.count, .slice z.D z.dn z.dc]
    rw [World.size_alloc] at this
    exact this)
  clear h1 h2 hI1 hI2 hf
  go_enter Tryz.func26, Tryz.ntmps26
  go_wp2_with fail
  clear hcv1 hcv2
  generalize ((w.alloc (.cells #[Value.int .i64 p.pid, .string ⟨p.prog.toArray⟩, .slice s.A s.an s.ac, .slice s.E s.en s.ec, .slice s.F s.fn s.fc, .bool p.done, .int .i64 p.status, .int .i64 p.phase, .int .i64 p.count, .slice s.D s.dn s.dc] 26)).alloc (.cells #[Value.int .i64 p.pid, .string ⟨p.prog.toArray⟩, .slice z.A z.an z.ac, .slice z.E z.en z.ec, .slice z.F z.fn z.fc, .bool p.done, .int .i64 p.status, .int .i64 p.phase, .int .i64 p.count, .slice z.D z.dn z.dc] 26)) = W1 at *
  refine (texts_eq p.args s.A z.A s.an s.ac z.an z.ac W1 H1.out.a H2.out.a hl1.1).mono ?_
  rintro e w2 ⟨rfl, hb⟩
  have H1b := hide (in_on H1.out hb)
  have H2b := hide (in_on H2.out hb)
  have HBb := hide (HB.out.trans (hb.mono HB.out.size))
  have HXb := hide (HX.out.below hb HX.out.lt)
  have HYb := hide (HY.out.below hb HY.out.lt)
  clear hb H1 H2 HB HX HY
  obtain ⟨⟨c0, c1, c2, c3, c4, c5, c6, c7, c8, c9⟩, -⟩ := ten HXb.out
  obtain ⟨⟨k0, k1, k2, k3, k4, k5, k6, k7, k8, k9⟩, -⟩ := ten HYb.out
  go_wp2_with fail
  refine (texts_eq p.env s.E z.E s.en s.ec z.en z.ec w2 H1b.out.e H2b.out.e hl1.2.1).mono ?_
  rintro e w3 ⟨rfl, hb⟩
  have H1c := hide (in_on H1b.out hb)
  have H2c := hide (in_on H2b.out hb)
  have HBc := hide (HBb.out.trans (hb.mono HBb.out.size))
  have HXc := hide (HXb.out.below hb HXb.out.lt)
  have HYc := hide (HYb.out.below hb HYb.out.lt)
  clear hb H1b H2b HBb HXb HYb c0 c1 c2 c3 c4 c5 c6 c7 c8 c9 k0 k1 k2 k3 k4 k5 k6 k7 k8 k9
  obtain ⟨⟨c0, c1, c2, c3, c4, c5, c6, c7, c8, c9⟩, -⟩ := ten HXc.out
  obtain ⟨⟨k0, k1, k2, k3, k4, k5, k6, k7, k8, k9⟩, -⟩ := ten HYc.out
  go_wp2_with fail
  refine (numbers_eq p.fds s.F z.F s.fn s.fc z.fn z.fc w3 H1c.out.f H2c.out.f hl1.2.2.1).mono ?_
  rintro e w4 ⟨rfl, hb⟩
  have HBd := hide (HBc.out.trans (hb.mono HBc.out.size))
  clear hb c0 c1 c2 c3 c4 c5 c6 c7 c8 c9 k0 k1 k2 k3 k4 k5 k6 k7 k8 k9
  go_wp2_with fail
  go_ret
  exact ⟨rfl, HBd.out⟩
set_option maxRecDepth 100000 in
set_option maxHeartbeats 4000000 in
theorem rproc_eq (p : PR) (s z : PS) (w : World) (h1 : InP w w.heap.size p s) (h2 : InP w w.heap.size p z) (hf : FitP p) :
    Calls Tryz.prog 13 #[.agg #[Value.int .i64 p.pid, .string ⟨p.prog.toArray⟩, .slice s.A s.an s.ac, .slice s.E s.en s.ec, .slice s.F s.fn s.fc, .bool p.done, .int .i64 p.status, .int .i64 p.phase, .int .i64 p.count, .slice s.D s.dn s.dc], .agg #[Value.int .i64 p.pid, .string ⟨p.prog.toArray⟩, .slice z.A z.an z.ac, .slice z.E z.en z.ec, .slice z.F z.fn z.fc, .bool p.done, .int .i64 p.status, .int .i64 p.phase, .int .i64 p.count, .slice z.D z.dn z.dc]] w fun e w' => e = .returned (.bool true) ∧ Below w.heap.size w w' := by
  have X := hide (proc_eq p s z ((w.alloc (.cells #[Value.int .i64 p.pid, .string ⟨p.prog.toArray⟩, .slice s.A s.an s.ac, .slice s.E s.en s.ec, .slice s.F s.fn s.fc, .bool p.done, .int .i64 p.status, .int .i64 p.phase, .int .i64 p.count, .slice s.D s.dn s.dc] 26)).alloc (.cells #[Value.int .i64 p.pid, .string ⟨p.prog.toArray⟩, .slice z.A z.an z.ac, .slice z.E z.en z.ec, .slice z.F z.fn z.fc, .bool p.done, .int .i64 p.status, .int .i64 p.phase, .int .i64 p.count, .slice z.D z.dn z.dc] 26)) (in_on (in_on h1 (on_alloc _ _)) (on_alloc _ _)) (in_on (in_on h2 (on_alloc _ _)) (on_alloc _ _)) hf)
  have HB : Hid (Below w.heap.size w ((w.alloc (.cells #[Value.int .i64 p.pid, .string ⟨p.prog.toArray⟩, .slice s.A s.an s.ac, .slice s.E s.en s.ec, .slice s.F s.fn s.fc, .bool p.done, .int .i64 p.status, .int .i64 p.phase, .int .i64 p.count, .slice s.D s.dn s.dc] 26)).alloc (.cells #[Value.int .i64 p.pid, .string ⟨p.prog.toArray⟩, .slice z.A z.an z.ac, .slice z.E z.en z.ec, .slice z.F z.fn z.fc, .bool p.done, .int .i64 p.status, .int .i64 p.phase, .int .i64 p.count, .slice z.D z.dn z.dc] 26))) := hide ((on_alloc _ _).alloc (by simp) _)
  clear h1 h2 hf
  go_enter Tryz.func13, Tryz.ntmps13
  go_wp2_with fail
  refine X.out.mono ?_
  rintro e w2 ⟨rfl, hb⟩
  have HB2 := hide (HB.out.trans (hb.mono HB.out.size))
  clear hb X
  go_wp2_with fail
  go_ret
  exact ⟨rfl, HB2.out⟩
end Go.Proofs.YtlkccboongnneaaGreatDoor
