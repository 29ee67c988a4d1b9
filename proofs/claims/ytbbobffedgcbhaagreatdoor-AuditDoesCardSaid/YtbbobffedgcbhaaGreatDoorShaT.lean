/- A block taken in. -/
import Derived.Test.YtbbobffedgcbhaaGreatDoorShaS
import Derived.Outline
import Derived.BigRegion
namespace Go.Proofs.YtbbobffedgcbhaaGreatDoor
open Go.RowKit
set_option linter.unusedVariables false
theorem st_cells (s : St) : (wv s.list).toArray = #[.int .u32 (s.a : Nat), .int .u32 (s.b : Nat), .int .u32 (s.c : Nat), .int .u32 (s.d : Nat), .int .u32 (s.e : Nat), .int .u32 (s.f : Nat), .int .u32 (s.g : Nat), .int .u32 (s.h : Nat)] := by simp [wv, St.list]
/-- The first k words added. -/
def mixL (p q : List Nat) (k : Nat) : List Nat := (List.zipWith addW p q).take k ++ p.drop k
theorem mixL_zero (p q : List Nat) : mixL p q 0 = p := by simp [mixL]
theorem mixL_get {p q : List Nat} {k : Nat} (h : k < p.length) (hq : q.length = p.length) : (mixL p q k)[k]? = p[k]? := by
  rw [mixL, List.getElem?_append_right (by simp; omega), List.getElem?_drop]
  congr 1
  simp; omega
theorem mixL_length {p q : List Nat} {k : Nat} (h : k ≤ p.length) (hq : q.length = p.length) : (mixL p q k).length = p.length := by simp [mixL]; omega
theorem mixL_set {p q : List Nat} {k x y : Nat} (hp : p[k]? = some x) (hy : q[k]? = some y) (hq : q.length = p.length) : (mixL p q k).set k (addW x y) = mixL p q (k + 1) := by
  obtain ⟨h, hx⟩ := List.getElem?_eq_some_iff.1 hp
  obtain ⟨h', hx'⟩ := List.getElem?_eq_some_iff.1 hy
  have hl : ((List.zipWith addW p q).take k).length = k := by simp; omega
  rw [mixL, mixL, List.set_append_right _ _ (by omega), hl, Nat.sub_self, List.drop_eq_getElem_cons h, List.set_cons_zero, List.take_succ_eq_append_getElem (by simp; omega), List.append_assoc]
  simp [hx, hx']
theorem mixL_all (s v : St) : mixL s.list v.list 8 = (s.add v).list := rfl
set_option maxRecDepth 100000 in
theorem ix8 (a b c d e f g h : Nat) (k x : Nat) (hx : [a, b, c, d, e, f, g, h][k]? = some x) (W : World) : (Instr.index 146 (.agg #[.int .u32 (a : Int), .int .u32 (b : Int), .int .u32 (c : Int), .int .u32 (d : Int), .int .u32 (e : Int), .int .u32 (f : Int), .int .u32 (g : Int), .int .u32 (h : Int)]) (.int .i64 (k : Int))).run Tryz.prog W = .ok (.int .u32 (x : Int)) W := by
  match k, hx with
  | 0, hx => simp only [List.getElem?_cons_zero, Option.some.injEq] at hx; subst hx; rfl
  | 1, hx => simp only [List.getElem?_cons_zero, List.getElem?_cons_succ, Option.some.injEq] at hx; subst hx; rfl
  | 2, hx => simp only [List.getElem?_cons_zero, List.getElem?_cons_succ, Option.some.injEq] at hx; subst hx; rfl
  | 3, hx => simp only [List.getElem?_cons_zero, List.getElem?_cons_succ, Option.some.injEq] at hx; subst hx; rfl
  | 4, hx => simp only [List.getElem?_cons_zero, List.getElem?_cons_succ, Option.some.injEq] at hx; subst hx; rfl
  | 5, hx => simp only [List.getElem?_cons_zero, List.getElem?_cons_succ, Option.some.injEq] at hx; subst hx; rfl
  | 6, hx => simp only [List.getElem?_cons_zero, List.getElem?_cons_succ, Option.some.injEq] at hx; subst hx; rfl
  | 7, hx => simp only [List.getElem?_cons_zero, List.getElem?_cons_succ, Option.some.injEq] at hx; subst hx; rfl
  | k + 8, hx => simp at hx
theorem sum5 (h b c k w : Nat) : ((h + b) % 4294967296 + ((c + k) % 4294967296 + w) % 4294967296) % 4294967296 = (h + b + c + k + w) % 4294967296 := by omega
theorem not_nat (e : Nat) (h : e < 4294967296) : 4294967295 ^^^ e = 4294967295 - e := by
  have h1 : (BitVec.allOnes 32 ^^^ BitVec.ofNat 32 e).toNat = (~~~ (BitVec.ofNat 32 e)).toNat := by rw [BitVec.allOnes_xor]
  rw [BitVec.toNat_xor, BitVec.toNat_not, BitVec.toNat_ofNat, Nat.mod_eq_of_lt h] at h1
  simpa using h1
theorem not32 (e : Nat) (h : e < 4294967296) : bits BinOp.xor IntKind.u32 (if IntKind.u32.signed = true then -1 else IntKind.u32.max) (e : Int) = ((4294967295 - e : Nat) : Int) := by
  rw [← not_nat e h]
  exact xor32 4294967295 e (by decide) h
/-- The table of constants lies where the program's second variable is. -/
def KeysAt (w : World) : Prop := ∀ t, t < 64 → w.cell? ⟨5, t, none⟩ = some (.int .u32 (keysL.getD t 0 : Nat))
set_option maxRecDepth 10000 in
set_option maxHeartbeats 2000000 in
theorem comp_any (g ts g2 o : Nat) (s : St) (b : List UInt8) (w : World) (hb : BytesAt w g2 o b) (hlt2 : g2 < w.heap.size) (hl : b.length = 64) (hs : Blk w g ts (wv s.list).toArray) (hok : s.ok) (hne : g ≠ g2) (hkey : KeysAt w) (hg1 : 5 < g) :
    Calls Tryz.prog 86 #[.pointer (some ⟨g, 0, none⟩), .pointer (some ⟨g2, o, none⟩)] w fun e w' => e = .returned (.tuple #[]) ∧ Blk w' g ts (wv (comp s b).list).toArray ∧ w.grownBy w' (some g) := by
  have HB := hide hb
  have HS := hide hs
  have HK := hide hkey
  have hlt := hs.lt
  clear hb hs hkey
  go_enter Tryz.func86, Tryz.ntmps86
  go_wp2_with fail
  refine (sched_any w.heap.size 163 g2 o b _ ?b1 hl ?b2 ?b3).mono ?_
  case b1 => exact HB.out.keep fun p hp => World.cell?_alloc_lt w _ p (by omega)
  case b2 => exact Blk.new _ _ _
  case b3 => omega
  rintro e w1 ⟨rfl, h1, h2⟩
  have hB0 : Below w.heap.size w w1 := (((Below.refl _ _).alloc (Nat.le_refl _) _).grown h2 (by simp) (fun g h => by injection h with h; omega))
  have h3 := HS.out.below (w' := w1) (B := w.heap.size) hB0 hlt
  have hG : Hid (w.grownBy w1 (some g)) := hide ⟨hB0.os, hB0.tape, hB0.output, hB0.size, fun i hi _ => hB0.block i hi⟩
  have HK1 : Hid (KeysAt w1) := hide fun t ht => (hB0.cell (p := ⟨5, t, none⟩) (by show 5 < _; omega)).trans (HK.out t ht)
  have hwl := h1.lt
  have HW := hide h1
  have H3 := hide h3
  clear h1 h2 h3 HK hB0
  have c0 := H3.out.cell 0
  have c1 := H3.out.cell 1
  have c2 := H3.out.cell 2
  have c3 := H3.out.cell 3
  have c4 := H3.out.cell 4
  have c5 := H3.out.cell 5
  have c6 := H3.out.cell 6
  have c7 := H3.out.cell 7
  rw [st_cells] at c0 c1 c2 c3 c4 c5 c6 c7
  simp only [List.getElem?_toArray, List.getElem?_cons_zero, List.getElem?_cons_succ] at c0 c1 c2 c3 c4 c5 c6 c7
  obtain ⟨W, hW⟩ : ∃ W, schedL b 64 = W := ⟨_, rfl⟩
  have HWl : Hid (W.length = 64) := hide (by rw [← hW]; exact schedL_length b 64)
  have HWk : Hid (∀ t, W.getD t 0 < 4294967296) := hide (by rw [← hW]; exact schedK_lt b 64)
  have HWe := hide hW
  rw [hW] at HW
  clear hW
  go_wp2_with fail
  go_quiet (fail)
  go_wp2_with fail
  go_quiet (fail)
  go_wp2_with fail
  clear c0 c1 c2 c3 c4 c5 c6 c7
  go_loopw [5, 6, 7, 8, 9, 10, 11, 12, 52] (fun u5 u6 u7 u8 u9 u10 u11 u12 i wr => ∃ (k : Nat) (r : St), k ≤ 64 ∧ i = .int .i64 k ∧ r = rounds s W k ∧ u5 = .int .u32 (r.a : Nat) ∧ u6 = .int .u32 (r.b : Nat) ∧ u7 = .int .u32 (r.c : Nat) ∧ u8 = .int .u32 (r.d : Nat) ∧ u9 = .int .u32 (r.e : Nat) ∧ u10 = .int .u32 (r.f : Nat) ∧ u11 = .int .u32 (r.g : Nat) ∧ u12 = .int .u32 (r.h : Nat) ∧ ∃ n, wr = w1.drewN n) (fun _ _ _ _ _ _ _ _ i _ => 64 - (intOf i).toNat)
  case atStart => exact ⟨0, s, Nat.zero_le _, rfl, rfl, rfl, rfl, rfl, rfl, rfl, rfl, rfl, rfl, _, World.drewN_drewN _ _ _⟩
  case round =>
    obtain ⟨k, ⟨a, b', c, d, e, f, g', h⟩, hk, rfl, hr, rfl, rfl, rfl, rfl, rfl, rfl, rfl, rfl, hwr⟩ := hrel
    have HWR := hide hwr
    clear hwr
    have hrok : St.ok ⟨a, b', c, d, e, f, g', h⟩ := by rw [hr]; exact rounds_ok hok W k
    rw [St.ok8] at hrok
    have HR := hide hr
    clear hr
    obtain ⟨la, lb, lc, ld, le, lf, lg, lh⟩ := hrok
    dsimp only at la lb lc ld le lf lg lh
    by_cases hk64 : k < 64
    · obtain ⟨kt, hkt⟩ : ∃ x, keysL.getD k 0 = x := ⟨_, rfl⟩
      obtain ⟨wt, hwt⟩ : ∃ x, W.getD k 0 = x := ⟨_, rfl⟩
      have lkt : kt < 4294967296 := by rw [← hkt]; exact keysL_lt k
      have lwt : wt < 4294967296 := by rw [← hwt]; exact HWk.out k
      have ck : wr.cell? ⟨5, k, none⟩ = some (.int .u32 kt) := by obtain ⟨n, rfl⟩ := HWR.out; show w1.cell? _ = _; rw [HK1.out k hk64, hkt]
      have cw : wr.cell? ⟨w.heap.size, k, none⟩ = some (.int .u32 wt) := by
        obtain ⟨n, rfl⟩ := HWR.out
        exact cellW HW.out (by rw [List.getElem?_eq_getElem (by rw [HWl.out]; exact hk64), ← hwt, List.getD_eq_getElem?_getD, List.getElem?_eq_getElem (by rw [HWl.out]; exact hk64)]; rfl)
      have HKT := hide hkt
      have HWT := hide hwt
      clear hkt hwt
      have d0 : (0 : Int) ≤ (k : Int) := by omega
      have d1 : (k : Int) < 64 := by omega
      -- the sums and the like of a round
      have e1 : bits BinOp.xor IntKind.u32 (rotr 6 e : Nat) (rotr 11 e : Nat) = ((rotr 6 e ^^^ rotr 11 e : Nat) : Int) := xor32 _ _ (rotr_lt le) (rotr_lt le)
      have e2 : bits BinOp.xor IntKind.u32 ((rotr 6 e ^^^ rotr 11 e : Nat) : Int) (rotr 25 e : Nat) = (bs1 e : Nat) := xor32 _ _ (xor_lt32 (rotr_lt le) (rotr_lt le)) (rotr_lt le)
      have e3 : IntKind.u32.wrap ((h : Int) + (bs1 e : Nat)) = ((h + bs1 e) % 4294967296 : Nat) := wrap_add32 _ _
      have e4 := not32 e le
      have e5 : bits BinOp.and IntKind.u32 (e : Int) (f : Int) = ((e &&& f : Nat) : Int) := and32 _ _ le lf
      have e6 : bits BinOp.and IntKind.u32 ((4294967295 - e : Nat) : Int) (g' : Int) = (((4294967295 - e) &&& g' : Nat) : Int) := and32 _ _ (by omega) lg
      have e7 : bits BinOp.xor IntKind.u32 ((e &&& f : Nat) : Int) (((4294967295 - e) &&& g' : Nat) : Int) = (chW e f g' : Nat) := xor32 _ _ (and_lt32 le) (and_lt32 (by omega))
      have e8 : IntKind.u32.wrap (((chW e f g' : Nat) : Int) + (kt : Nat)) = ((chW e f g' + kt) % 4294967296 : Nat) := wrap_add32 _ _
      generalize hz2 : (chW e f g' + kt) % 4294967296 = z2 at e8
      have HZ2 := hide hz2
      clear hz2
      have e9 : IntKind.u32.wrap ((z2 : Int) + (wt : Nat)) = ((z2 + wt) % 4294967296 : Nat) := wrap_add32 _ _
      generalize hz3 : (z2 + wt) % 4294967296 = z3 at e9
      have HZ3 := hide hz3
      clear hz3
      generalize hne4 : 4294967295 - e = ne4 at e4 e6 e7
      clear hne4
      generalize hz1 : (h + bs1 e) % 4294967296 = z1 at e3
      have HZ1 := hide hz1
      clear hz1
      have e10 : IntKind.u32.wrap ((z1 : Int) + (z3 : Nat)) = ((z1 + z3) % 4294967296 : Nat) := wrap_add32 _ _
      obtain ⟨t1, ht1⟩ : ∃ t1, t1W e f g' h kt wt = t1 := ⟨_, rfl⟩
      have hz : (z1 + z3) % 4294967296 = t1 := by
        rw [← ht1, ← HZ1.out, ← HZ3.out, ← HZ2.out, t1W]
        exact sum5 _ _ _ _ _
      rw [hz] at e10
      have HT1 := hide ht1
      clear ht1 hz
      go_wp2_with fail
      refine (rotm6 _ le _).mono ?_
      rintro e' w2 ⟨rfl, rfl⟩
      go_wp2_with fail
      refine (rotm11 _ le _).mono ?_
      rintro e' w2 ⟨rfl, rfl⟩
      go_wp2_with fail
      refine (rotm25 _ le _).mono ?_
      rintro e' w2 ⟨rfl, rfl⟩
      go_wp2_with fail
      go_region_held3 (fun V => V.cell? ⟨5, k, none⟩ = some (.int .u32 kt) ∧ V.cell? ⟨w.heap.size, k, none⟩ = some (.int .u32 wt)) (go_keep) (fail)
      clear e1 e2 e3 e4 e5 e6 e7 e8 e9 e10 ck cw
      have e1 : bits BinOp.xor IntKind.u32 (rotr 2 a : Nat) (rotr 13 a : Nat) = ((rotr 2 a ^^^ rotr 13 a : Nat) : Int) := xor32 _ _ (rotr_lt la) (rotr_lt la)
      have e2 : bits BinOp.xor IntKind.u32 ((rotr 2 a ^^^ rotr 13 a : Nat) : Int) (rotr 22 a : Nat) = (bs0 a : Nat) := xor32 _ _ (xor_lt32 (rotr_lt la) (rotr_lt la)) (rotr_lt la)
      have e3 : bits BinOp.and IntKind.u32 (a : Int) (b' : Int) = ((a &&& b' : Nat) : Int) := and32 _ _ la lb
      have e4 : bits BinOp.and IntKind.u32 (a : Int) (c : Int) = ((a &&& c : Nat) : Int) := and32 _ _ la lc
      have e5 : bits BinOp.and IntKind.u32 (b' : Int) (c : Int) = ((b' &&& c : Nat) : Int) := and32 _ _ lb lc
      have e6 : bits BinOp.xor IntKind.u32 ((a &&& b' : Nat) : Int) ((a &&& c : Nat) : Int) = ((a &&& b' ^^^ a &&& c : Nat) : Int) := xor32 _ _ (and_lt32 la) (and_lt32 la)
      have e7 : bits BinOp.xor IntKind.u32 ((a &&& b' ^^^ a &&& c : Nat) : Int) ((b' &&& c : Nat) : Int) = (majW a b' c : Nat) := xor32 _ _ (xor_lt32 (and_lt32 la) (and_lt32 la)) (and_lt32 lb)
      have e8 : IntKind.u32.wrap ((bs0 a : Nat) + ((majW a b' c : Nat) : Int)) = (t2W a b' c : Nat) := wrap_add32 _ _
      have e9 : IntKind.u32.wrap ((d : Int) + (t1 : Nat)) = ((d + t1) % 4294967296 : Nat) := wrap_add32 _ _
      have e10 : IntKind.u32.wrap ((t1 : Int) + (t2W a b' c : Nat)) = ((t1 + t2W a b' c) % 4294967296 : Nat) := wrap_add32 _ _
      generalize hq1 : (d + t1) % 4294967296 = q1 at e9
      generalize hq2 : (t1 + t2W a b' c) % 4294967296 = q2 at e10
      have HQ1 := hide hq1
      have HQ2 := hide hq2
      clear hq1 hq2
      go_wp2_with fail
      refine (rotm2 _ la _).mono ?_
      rintro e' w2 ⟨rfl, rfl⟩
      go_wp2_with fail
      refine (rotm13 _ la _).mono ?_
      rintro e' w2 ⟨rfl, rfl⟩
      go_wp2_with fail
      refine (rotm22 _ la _).mono ?_
      rintro e' w2 ⟨rfl, rfl⟩
      go_wp2_with fail
      clear e1 e2 e3 e4 e5 e6 e7 e8 e9 e10
      go_roundw
      case rel =>
        refine ⟨k + 1, ⟨q2, a, b', c, q1, e, f, g'⟩, by omega, by go_num, ?_, rfl, rfl, rfl, rfl, rfl, rfl, rfl, rfl, ?_⟩
        · rw [rounds, ← HR.out, HKT.out, HWT.out, St.step]
          simp only [HT1.out, HQ1.out, HQ2.out]
        · obtain ⟨n, rfl⟩ := HWR.out
          exact ⟨_, by first | rfl | exact World.drewN_drewN _ _ _⟩
      case measure => simp [intOf]; omega
    · obtain rfl : k = 64 := by omega
      clear hk hk64
      have H3w := H3
      go_wp2_with fail
      go_loopw [126] (fun i wx => ∃ k : Nat, k ≤ 8 ∧ i = .int .i64 k ∧ Blk wx g ts (wv (mixL s.list [a, b', c, d, e, f, g', h] k)).toArray ∧ w.grownBy wx (some g)) (fun i _ => 8 - (intOf i).toNat)
      case atStart =>
        obtain ⟨n, rfl⟩ := HWR.out
        exact ⟨0, Nat.zero_le _, rfl, by rw [mixL_zero]; exact H3.out.drewN n, only_drewN hG.out n⟩
      case round =>
        clear HWR
        obtain ⟨k, hk, rfl, b1, b2⟩ := hrel
        have B1 := hide b1
        have B2 := hide b2
        clear b1 b2
        by_cases hk8 : k < 8
        · obtain ⟨y, hy⟩ : ∃ y, s.list[k]? = some y := ⟨_, List.getElem?_eq_getElem (by simp [St.list]; omega)⟩
          obtain ⟨x, hx⟩ : ∃ x, [a, b', c, d, e, f, g', h][k]? = some x := ⟨_, List.getElem?_eq_getElem (by simp; omega)⟩
          have hml := mixL_length (p := s.list) (q := [a, b', c, d, e, f, g', h]) (k := k) (by simp [St.list]; omega) rfl
          have hix := ix8 a b' c d e f g' h k x hx
          have cy : wr.cell? ⟨g, k, none⟩ = some (.int .u32 y) := cellW B1.out (by rw [mixL_get (p := s.list) (q := [a, b', c, d, e, f, g', h]) (by simp [St.list]; omega) rfl, hy])
          have fy : wr.frozen? ⟨g, k, none⟩ = false := B1.out.frozen k
          have e1 : IntKind.u32.wrap ((y : Int) + (x : Nat)) = (addW y x : Nat) := wrap_add32 _ _
          have HM := hide (mixL_set hy hx rfl)
          clear hy hx hml
          have d0 : (0 : Int) ≤ (k : Int) := by omega
          have d1 : (k : Int) < 8 := by omega
          go_wp2_with fail
          go_region
          all_goals
            go_wp2_with fail
            clear hix cy fy e1
            go_roundw
          case rel =>
            refine ⟨k + 1, by omega, by go_num, ?_, by first | exact only_setCell B2.out (.inl rfl) _ | exact only_drew (only_setCell B2.out (.inl rfl) _) | exact only_drew (only_drew (only_setCell B2.out (.inl rfl) _)) | exact only_drewN (only_setCell B2.out (.inl rfl) _) _⟩
            have r := B1.out.set_ k (.int .u32 (addW y x : Nat))
            have e : (wv (mixL s.list [a, b', c, d, e, f, g', h] k)).toArray.setIfInBounds k (.int .u32 (addW y x : Nat)) = (wv ((mixL s.list [a, b', c, d, e, f, g', h] k).set k (addW y x))).toArray := by simp [List.map_set]
            rw [e, HM.out] at r
            exact r
          case measure => simp [intOf]; omega
        · obtain rfl : k = 8 := by omega
          clear hk hk8
          go_wp2_with fail
          go_end0
          refine ⟨rfl, ?_, B2.out⟩
          have hh := B1.out
          have hv : mixL s.list [a, b', c, d, e, f, g', h] 8 = (comp s b).list := by
            rw [comp, HWe.out, ← HR.out]
            exact mixL_all s ⟨a, b', c, d, e, f, g', h⟩
          rw [hv] at hh
          exact hh
end Go.Proofs.YtbbobffedgcbhaaGreatDoor
