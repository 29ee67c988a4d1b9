/- The law's made. -/
import Derived.Test.YtkiphaagdckkjaaDoorChM
namespace Go.Proofs.YtkiphaagdckkjaaDoor
open Go.RowKit
set_option linter.unusedVariables false
theorem OutR.grown {B : Nat} {w w' : World} {A : Option Addr} {n c : Nat} {l : List RV} {row : Option Nat} (h : OutR B w A n c l) (hg : w.grownBy w' row) (hne : ∀ g, (Value.slice A n c).ownBlock = some g → some g ≠ row) (hd : ∀ x ∈ l, ∀ ad, x.A = some ad → 0 < x.n → some ad.block ≠ row) : OutR B w' A n c l :=
  ⟨own_grown h.1 hg hne, fun x hx => (h.2.1 x hx).grown hg (hd x hx), h.2.2⟩
theorem last_snoc (l : List Rec) (r : Rec) (h : LB) : lastP h (l ++ [r]) = digP (lastP h l) (encP r) := by rw [last_append]; rfl
theorem all_snoc (l : List Rec) (r : Rec) (h : LB) : allP h (l ++ [r]) = allP h l ++ entP (lastP h l) r := by rw [all_append, allP, allP, List.append_nil]
def RetMade (L : List Rec) (n : Nat) (w : World) (e : Ending) (w' : World) : Prop := ∃ A nb cb O co lo, e = .returned (.tuple #[.slice A nb cb, .slice O n co, .bool true]) ∧ Rd w' A nb (allP zero32 (numP 0 L)) ∧ nb ≤ cb ∧ nb ≤ 12000 ∧ RowR w' O n lo ∧ n ≤ co ∧ lo.map RV.r = numP 0 L ∧ Below w.heap.size w w'
set_option maxRecDepth 100000 in
set_option maxHeartbeats 8000000 in
theorem made_any (A : Option Addr) (n c : Nat) (l : List RV) (w : World) (h1 : RowR w A n l) (hf : fewP (l.map RV.r) = true) (hS : Std w) (hT : Tabs w) :
    Calls Tryd.prog 22 #[.slice A n c] w (RetMade (l.map RV.r) n w) := by
  obtain ⟨i0, hi0, hz0, hz1, hz2⟩ := info_parts infoU8
  obtain ⟨j0, hj0, jz0, jz1, jz2⟩ := info_rec
  have hl := h1.len
  have hn : n ≤ 20 := by
    unfold fewP at hf
    rw [Bool.and_eq_true, decide_eq_true_eq, List.length_map, hl] at hf
    exact hf.1
  have HALL : Hid ((l.map RV.r).all validP = true) := hide (by
    unfold fewP at hf
    rw [Bool.and_eq_true] at hf
    exact hf.2)
  have H1 := hide h1
  have HL := hide hl
  have HS := hide hS
  have HT := hide hT
  have HLL : Hid ((l.map RV.r).length = n) := hide (by rw [List.length_map, hl])
  clear h1 hl hf hS hT
  obtain ⟨L, hL⟩ : ∃ L, l.map RV.r = L := ⟨_, rfl⟩
  have HLE := hide hL
  rw [hL] at HALL HLL
  rw [hL]
  clear hL
  go_enter Tryd.func22, Tryd.ntmps22
  go_wp2_with fail
  refine (root_any w).mono ?_
  rintro e0 w0 ⟨rfl, hZ, hb0⟩
  have HB0 := hide hb0
  have HZ0 := hide hZ.rd
  clear hZ hb0
  go_wp2_with fail
  go_loopw [5, 6, 7, 8] (fun u5 u6 u7 u8 wx => ∃ (i nb cb co dn : Nat) (A' O D : Option Addr) (lo : List RV), i ≤ n ∧ u5 = .slice A' nb cb ∧ u6 = .slice O i co ∧ u7 = .slice D 32 dn ∧ u8 = .int .i64 (i : Int) ∧ nb ≤ 600 * i ∧ 32 ≤ dn ∧ Hid (OwB w.heap.size wx A' nb cb (allP zero32 (numP 0 (L.take i)))) ∧ Hid (OutR w.heap.size wx O i co lo) ∧ Hid (lo.map RV.r = numP 0 (L.take i)) ∧ Hid (∀ x ∈ lo, ∀ ad, x.A = some ad → 0 < x.n → ad.block < w.heap.size) ∧ Hid (Rd wx D 32 (lastP zero32 (numP 0 (L.take i)))) ∧ Hid (Below w.heap.size w wx)) (fun _ _ _ i _ => n - (intOf i).toNat)
  case atStart =>
    exact ⟨0, 0, 0, 0, 32, none, none, some ⟨w.heap.size, 0, none⟩, [], Nat.zero_le _, rfl, rfl, rfl, rfl, Nat.le_refl _, Nat.le_refl _, hide (World.ownsRow_nil _ _ _ _), hide (OutR.nil _ _), hide rfl, hide (fun x h => nomatch h), HZ0, HB0⟩
  case round =>
    clear HZ0 HB0
    obtain ⟨i, nb, cb, co, dn, A', O, D, lo, hi, rfl, rfl, rfl, rfl, hnb, hdn, HBB, HOO, HLO, HDB, HDD, HB⟩ := hrel
    by_cases hlt : i < n
    · have hlt1 : (i : Int) < (n : Int) := by omega
      have hx : l[i]? = some (l[i]'(by rw [HL.out]; exact hlt)) := List.getElem?_eq_getElem _
      obtain ⟨x, hxe⟩ : ∃ x, l[i]'(by rw [HL.out]; exact hlt) = x := ⟨_, rfl⟩
      rw [hxe] at hx
      clear hxe
      have kx := hide (H1.out.2 x (List.mem_of_getElem? hx))
      have HXX : Hid (L[i]? = some x.r) := hide (by rw [← HLE.out, List.getElem?_map, hx]; rfl)
      obtain ⟨g, o, rfl, hg, a0, a1, a2, a3, a4, a5⟩ := rec_cells (H1.out.below HB.out).1 hx
      have hvx := all_at HALL.out HXX.out
      have hv2 := valid_seq hvx (k := i) (by omega)
      have HNS := hide (num_snoc HXX.out)
      obtain ⟨rx, A1, n1, c1⟩ := x
      obtain ⟨q1, o1, p1, g1, d1, b1⟩ := rx
      dsimp only at *
      have hbx := bl_alloc wr (.cells #[.int .i64 (i : Int), .int .i64 o1, .string ⟨p1.toArray⟩, .string ⟨g1.toArray⟩, .slice A1 n1 c1, .bool b1] 24)
      have hkx := Blk.new wr 24 #[.int .i64 (i : Int), .int .i64 o1, .string ⟨p1.toArray⟩, .string ⟨g1.toArray⟩, .slice A1 n1 c1, .bool b1]
      have HBX := hide hbx
      have HKX := hide hkx
      have hbw := HB.out.trans (hbx.mono HB.out.size)
      have XL := hide (link_ok (lastP zero32 (numP 0 (L.take i))) ⟨(i : Int), o1, p1, g1, d1, b1⟩ D A1 dn n1 c1 kx.out.len _ (HS.out.below hbw) (HT.out.below hbw) (rb kx.out.1 hbw) hv2 (rb HDD.out hbx) hdn)
      have hes := enc_small hv2
      unfold RetLinkYes Rec.v at XL
      dsimp only at XL
      have i1 := fun W => rec_at g o n c i (i : Int) rfl hlt W
      have v1 : IntKind.i64.wrap ((i : Int) + 1) = (i : Int) + 1 := by simp [IntKind.wrap, IntKind.bits, IntKind.signed]; omega
      obtain ⟨R, hR⟩ : ∃ R : Rec, (⟨(i : Int), o1, p1, g1, d1, b1⟩ : Rec) = R := ⟨_, rfl⟩
      rw [hR] at XL HNS hes
      have HR := hide hR
      clear hx hbx hkx hbw hvx hv2 hR
      go_wp2_with fail
      refine XL.out.mono ?_
      rintro e1 w2 ⟨A2, n2, c2, B2, d2, rfl, hn2, hO2, hD2, hb2⟩
      have hb2r : Below wr.heap.size wr w2 := HBX.out.trans (hb2.mono (by simp))
      have HB2 := hide (HB.out.trans (hb2r.mono HB.out.size))
      have HE2 := hide hO2.rd
      have HD2 : Hid (OwB (wr.heap.size + 1) w2 B2 32 d2 (digP (lastP zero32 (numP 0 (L.take i))) (encP R))) := hide (by simpa using hD2)
      have HBB2 := hide (HBB.out.below hb2r)
      have HOO2 := hide (OutR.below HOO.out hb2r)
      have HK2 := hide (HKX.out.below hb2 HKX.out.lt)
      have hs2 := HB2.out.size
      have hsr := hb2r.size
      have hn2b : n2 ≤ 600 := by omega
      have HGB : Hid (∀ gb, (Value.slice A' nb cb).ownBlock = some gb → w.heap.size ≤ gb ∧ gb < wr.heap.size) := hide (fun gb h => HBB.out.lt gb h)
      have HGO : Hid (∀ go, (Value.slice O i co).ownBlock = some go → w.heap.size ≤ go ∧ go < wr.heap.size) := hide (fun go h => HOO.out.1.lt go h)
      have HN2 := hide hn2
      have hd2le : 32 ≤ d2 := HD2.out.le
      clear hO2 hD2 hb2 hb2r XL HBB HOO a0 a1 a2 a3 a4 a5 i1 hn2 hes HKX HBX
      go_wp2_with (at_builtin; (refine wpList_append_any _ rfl (.tmp 35) (.tmp 36) 22 rfl w.heap.size 5 i0 _ 1 1 Tryd.underlying22 hi0 hz0 hz1 hz2 rfl (by omega) (.slice A' nb cb) nb _ rfl HBB2.out w2.heap.size A2 n2 c2 (bv (entP (lastP zero32 (numP 0 (L.take i))) R)) rfl HE2.out (bv_one _) ?a1 ?a2 ?a3 ?_))
      case a1 => unfold maxLen; omega
      case a2 => omega
      case a3 => exact hs2
      intro v3 w3 ho3 hg3 hat3
      obtain ⟨A3, c3, rfl⟩ := own_slice ho3
      rw [← bv_append] at ho3
      have hne3 : ∀ x : Nat, wr.heap.size ≤ x → some x ≠ (Value.slice A' nb cb).ownBlock := fun x hx h => by have := (HGB.out x h.symm).2; omega
      have HO3 : Hid (OwB w.heap.size w3 A3 (nb + n2) c3 (allP zero32 (numP 0 (L.take (i + 1))))) := hide (by rw [HNS.out, all_snoc]; exact ho3)
      have HOO3 := hide (OutR.grown HOO2.out hg3 (fun g h => own_apart HOO2.out.1 HBB2.out (by decide) h) (fun y hy ad e h0 h => by have h1 := HDB.out y hy ad e h0; have h2 := (HGB.out _ h.symm).1; omega))
      have HD3 := hide (own_grown HD2.out hg3 (fun g h => hne3 g (by have := (HD2.out.lt g h).1; omega)))
      have HK3 := hide (HK2.out.grown hg3 (hne3 _ (Nat.le_refl _)))
      have HB3 := hide (HB2.out.grown hg3 hs2 (fun g h => (HGB.out g h).1))
      have HX3 : Hid (RVok w3 ⟨R, A1, n1, c1⟩) := hide ((show RVok w ⟨R, A1, n1, c1⟩ from ⟨by rw [← HR.out]; exact kx.out.1, kx.out.2⟩).below HB3.out)
      have hs3 := HB3.out.size
      have hs23 := hg3.size
      obtain ⟨k0, k1, k2, k3, k4, k5⟩ := HK3.out.six
      have hkl := HK3.out.lt
      have hone : Reads (w3.alloc (.cells #[.int .i64 (i : Int), .int .i64 o1, .string ⟨p1.toArray⟩, .string ⟨g1.toArray⟩, .slice A1 n1 c1, .bool b1] 24)) (w3.heap.size + 1) 6 (some ⟨w3.heap.size, 0, none⟩) 1 (rcs [⟨R, A1, n1, c1⟩]) := by
        have h := one_rec (x := ⟨R, A1, n1, c1⟩) (W := w3.alloc (.cells #[.int .i64 (i : Int), .int .i64 o1, .string ⟨p1.toArray⟩, .string ⟨g1.toArray⟩, .slice A1 n1 c1, .bool b1] 24)) (g := w3.heap.size) (by rw [← HR.out]; exact Blk.new w3 24 #[.int .i64 (i : Int), .int .i64 o1, .string ⟨p1.toArray⟩, .string ⟨g1.toArray⟩, .slice A1 n1 c1, .bool b1])
        simpa using h
      have HONE := hide hone
      have hb4 := bl_alloc w3 (.cells #[.int .i64 (i : Int), .int .i64 o1, .string ⟨p1.toArray⟩, .string ⟨g1.toArray⟩, .slice A1 n1 c1, .bool b1] 24)
      have HOO4 := hide (OutR.below HOO3.out hb4)
      have HO4 := hide (HO3.out.below hb4)
      have HD4 := hide (own_below HD3.out hb4)
      have HX4 := hide (HX3.out.below hb4)
      have HB4 := hide (HB3.out.trans (hb4.mono hs3))
      clear ho3 hg3 hat3 hone hb4 HBB2 HOO2 HD2 HK2 HE2 HOO3 HO3 HD3 HX3 HB3 HB2
      go_wp2_with (at_builtin; (refine wpList_append_any _ rfl (.tmp 38) (.tmp 40) 34 rfl w.heap.size 24 j0 _ 6 80 Tryd.underlying34 hj0 jz0 jz1 jz2 rfl (by omega) (.slice O i co) i (rcs lo) rfl HOO4.out.1 (w3.heap.size + 1) (some ⟨w3.heap.size, 0, none⟩) 1 1 _ rfl HONE.out (rcs_one _) ?b1 ?b2 ?b3 ?_))
      case b1 => unfold maxLen; omega
      case b2 => omega
      case b3 => simp; omega
      intro v5 w5 ho5 hg5 hat5
      obtain ⟨O5, co5, rfl⟩ := own_slice ho5
      have hne5 : ∀ x : Nat, wr.heap.size ≤ x → some x ≠ (Value.slice O i co).ownBlock := fun x hx h => by have := (HGO.out x h.symm).2; omega
      have HO5 := hide (own_grown HO4.out hg5 (fun g h => own_apart HO4.out HOO4.out.1 (by decide) h))
      have HD5 := hide (Reads.of_own (own_grown HD4.out hg5 (fun g h => hne5 g (by have := (HD4.out.lt g h).1; omega))))
      have hdb : ∀ ad, A1 = some ad → 0 < n1 → ad.block < w.heap.size := fun ad e h0 => kx.out.lt e h0
      have HOO5 := hide (out_grow HOO4.out HX4.out (fun ad e h0 h => by have h1 := hdb ad e h0; have h2 := (HGO.out _ h.symm).1; omega) ho5 hg5 (by simpa using hat5))
      have HB5 := hide (HB4.out.grown hg5 HB4.out.size (fun g h => (HGO.out g h).1))
      have HLO5 : Hid ((lo ++ [(⟨R, A1, n1, c1⟩ : RV)]).map RV.r = numP 0 (L.take (i + 1))) := hide (by rw [List.map_append, HLO.out, HNS.out]; rfl)
      have HDB5 : Hid (∀ y ∈ lo ++ [(⟨R, A1, n1, c1⟩ : RV)], ∀ ad, y.A = some ad → 0 < y.n → ad.block < w.heap.size) := hide (fun y hy ad e h0 => by
        rcases List.mem_append.1 hy with h | h
        · exact HDB.out y h ad e h0
        · rw [List.mem_singleton.1 h] at e h0; exact hdb ad e h0)
      have HDD5 : Hid (Rd w5 B2 32 (lastP zero32 (numP 0 (L.take (i + 1))))) := hide (by rw [HNS.out, last_snoc]; exact HD5.out)
      clear ho5 hg5 hat5 HOO4 HO4 HD4 HX4 HB4 HONE HK3 k0 k1 k2 k3 k4 k5 hkl HD5 HLO HDB hdb HR
      go_wp2_with fail
      clear v1
      go_roundw
      case rel => exact ⟨i + 1, nb + n2, c3, co5, d2, A3, O5, B2, lo ++ [⟨R, A1, n1, c1⟩], by omega, rfl, rfl, rfl, by go_num, by omega, hd2le, HO5, HOO5, HLO5, HDB5, HDD5, HB5⟩
      case measure => simp [intOf]; omega
    · obtain rfl : i = n := by omega
      have hlt1 : ¬ (i : Int) < (i : Int) := by omega
      have HEND : Hid (RetMade L i w (.returned (.tuple #[.slice A' nb cb, .slice O i co, .bool true])) wr) := hide (by
        have e : L.take i = L := List.take_of_length_le (by rw [HLL.out]; exact Nat.le_refl _)
        have h1 := HBB.out
        have h2 := HLO.out
        rw [e] at h1 h2
        exact ⟨A', nb, cb, O, co, lo, rfl, h1.rd, h1.le, by omega, HOO.out.row, HOO.out.le, h2, HB.out⟩)
      clear HBB HOO HLO HDB HDD HB
      go_wp2_with fail
      refine bodyPost_ret (v := .tuple #[.slice A' nb cb, .slice O i co, .bool true]) (by simp only [results, Tryd.results22]; go_simp) rfl HEND.out
end Go.Proofs.YtkiphaagdckkjaaDoor
