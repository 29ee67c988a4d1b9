/- A child in a box: its small methods. -/
import Derived.Test.YtlkccboongnneaaGreatDoorPgB
namespace Go.Proofs.YtlkccboongnneaaGreatDoor
open Go.RowKit
set_option linter.unusedVariables false
theorem block_of_add' (a : Addr) (k : Nat) : (a.add k).block = a.block := by unfold Addr.add; split <;> rfl
theorem Reads.drop_ {w : World} {B n c : Nat} {A : Option Addr} {xs : List Value} (h : Reads w B 1 A n xs) (hc : n ≤ c) {l : Nat} (hl : l ≤ n) : Reads w B 1 (if c = l then A else A.map (·.add l)) (n - l) (xs.drop l) := by
  refine ⟨by rw [List.length_drop, h.1]; omega, fun h0 => ?_⟩
  obtain ⟨ad, e, hb, hc'⟩ := h.2 (by omega)
  rw [if_neg (by omega), e]
  refine ⟨ad.add l, rfl, by rw [block_of_add']; exact hb, fun j u hj => ?_⟩
  rw [add_of_add]
  rw [List.getElem?_drop] at hj
  exact hc' _ _ hj
/-- A child in the box g, its slices its own, above B. -/
structure RunAt (B g : Nat) (p : PR) (s : PS) (w : World) : Prop where
  blk : Blk w g 70 #[.int .i64 p.pid, .string ⟨p.prog.toArray⟩, .slice s.A s.an s.ac, .slice s.E s.en s.ec, .slice s.F s.fn s.fc, .bool p.done, .int .i64 p.status, .int .i64 p.phase, .int .i64 p.count, .slice s.D s.dn s.dc]
  own : OwP B w p s
  le : B ≤ g
section
variable {B g : Nat} {p : PR} {s : PS} {w w' : World}
theorem RunAt.below (h : RunAt B g p s w) (hb : Below w.heap.size w w') : RunAt B g p s w' := ⟨h.blk.below hb h.blk.lt, h.own.below hb, h.le⟩
theorem OwP.set {cs : Array Value} (h : OwP B w p s) (hg : Blk w g 70 cs) (k : Nat) (u : Value) : OwP B (w.setCell ⟨g, k, none⟩ u) p s :=
  ⟨own_set_blk h.a (p := ⟨g, k, none⟩) hg (by decide) u, own_set_blk h.e (p := ⟨g, k, none⟩) hg (by decide) u, own_set_blk h.f (p := ⟨g, k, none⟩) hg (by decide) u, h.d.set hg (by decide) k u⟩
theorem RunAt.st (h : RunAt B g p s w) (x : Int) : RunAt B g { p with status := x } s (w.setCell ⟨g, 6, none⟩ (.int .i64 x)) :=
  ⟨by simpa using h.blk.set_ 6 (.int .i64 x), ⟨(h.own.set h.blk 6 _).a, (h.own.set h.blk 6 _).e, (h.own.set h.blk 6 _).f, (h.own.set h.blk 6 _).d⟩, h.le⟩
theorem RunAt.ph (h : RunAt B g p s w) (x : Int) : RunAt B g { p with phase := x } s (w.setCell ⟨g, 7, none⟩ (.int .i64 x)) :=
  ⟨by simpa using h.blk.set_ 7 (.int .i64 x), ⟨(h.own.set h.blk 7 _).a, (h.own.set h.blk 7 _).e, (h.own.set h.blk 7 _).f, (h.own.set h.blk 7 _).d⟩, h.le⟩
theorem RunAt.co (h : RunAt B g p s w) (x : Int) : RunAt B g { p with count := x } s (w.setCell ⟨g, 8, none⟩ (.int .i64 x)) :=
  ⟨by simpa using h.blk.set_ 8 (.int .i64 x), ⟨(h.own.set h.blk 8 _).a, (h.own.set h.blk 8 _).e, (h.own.set h.blk 8 _).f, (h.own.set h.blk 8 _).d⟩, h.le⟩
theorem RunAt.bf (h : RunAt B g p s w) {D : Option Addr} {dn dc : Nat} {bs : Bs} (hd : Od B w D dn dc bs) : RunAt B g { p with buf := bs } { s with D := D, dn := dn, dc := dc } (w.setCell ⟨g, 9, none⟩ (.slice D dn dc)) :=
  ⟨by simpa using h.blk.set_ 9 (.slice D dn dc), ⟨(h.own.set h.blk 9 _).a, (h.own.set h.blk 9 _).e, (h.own.set h.blk 9 _).f, hd.set h.blk (by decide) 9 _⟩, h.le⟩
theorem Ow.c {B : Nat} {w : World} {A : Option Addr} {n c : Nat} {t : TypeId} {size : Nat} {xs : List Value} (h : w.ownsRow B t size (.slice A n c) n xs) : n ≤ c := by
  rcases h.2 with ⟨hv, h0⟩ | ⟨g, cap, cur, hv, hb, hh, hnc, hmx, hsz, htk⟩
  · omega
  · injection hv with e1 e2 e3; subst e3; exact hnc
theorem RunAt.an (h : RunAt B g p s w) : s.an = p.args.length := h.own.a.len.symm
theorem RunAt.dn (h : RunAt B g p s w) : s.dn = p.buf.length := by have := h.own.d.rd.1; simp [bv] at this; omega
end
set_option maxHeartbeats 1000000 in
theorem end_any (B g : Nat) (p : PR) (s : PS) (x : Int) (w : World) (h : RunAt B g p s w) :
    Calls Tryz.prog 46 #[.pointer (some ⟨g, 0, none⟩), .int .i64 x] w fun e w' => e = .returned (.tuple #[]) ∧ RunAt B g { p with phase := 4, status := x } s w' ∧ Below B w w' := by
  obtain ⟨⟨c0, c1, c2, c3, c4, c5, c6, c7, c8, c9⟩, f0, f1, f2, f3, f4, f5, f6, f7, f8, f9⟩ := ten h.blk
  have hle := h.le
  have H := hide h
  clear h
  go_enter Tryz.func46, Tryz.ntmps46
  go_wp2_with fail
  go_end0
  exact ⟨rfl, (H.out.ph 4).st x, ((Below.refl B w).setCell (by exact hle) _).setCell (by exact hle) _⟩
set_option maxHeartbeats 1000000 in
theorem reading_any (B g : Nat) (p : PR) (s : PS) (w : World) (h : RunAt B g p s w) :
    Calls Tryz.prog 39 #[.pointer (some ⟨g, 0, none⟩)] w fun e w' => e = .returned (.tuple #[]) ∧ RunAt B g { p with phase := 1 } s w' ∧ Below B w w' := by
  obtain ⟨⟨c0, c1, c2, c3, c4, c5, c6, c7, c8, c9⟩, f0, f1, f2, f3, f4, f5, f6, f7, f8, f9⟩ := ten h.blk
  have hle := h.le
  have H := hide h
  clear h
  go_enter Tryz.func39, Tryz.ntmps39
  go_wp2_with fail
  go_end0
  exact ⟨rfl, H.out.ph 1, (Below.refl B w).setCell (by exact hle) _⟩
set_option maxHeartbeats 1000000 in
theorem pass_any (B g : Nat) (p : PR) (s : PS) (D : Option Addr) (dn dc : Nat) (bs : Bs) (w : World) (h : RunAt B g p s w) (hd : Od B w D dn dc bs) :
    Calls Tryz.prog 52 #[.pointer (some ⟨g, 0, none⟩), .slice D dn dc] w fun e w' => e = .returned (.tuple #[]) ∧ (∃ s', RunAt B g { p with buf := bs, phase := 2 } s' w') ∧ Below B w w' := by
  obtain ⟨⟨c0, c1, c2, c3, c4, c5, c6, c7, c8, c9⟩, f0, f1, f2, f3, f4, f5, f6, f7, f8, f9⟩ := ten h.blk
  have hle := h.le
  have H := hide h
  have HD := hide hd
  clear h hd
  go_enter Tryz.func52, Tryz.ntmps52
  go_wp2_with fail
  go_end0
  exact ⟨rfl, ⟨_, (H.out.bf HD.out).ph 2⟩, ((Below.refl B w).setCell (by exact hle) _).setCell (by exact hle) _⟩
set_option maxHeartbeats 1000000 in
theorem words_any (B g : Nat) (p : PR) (s : PS) (w : World) (h : RunAt B g p s w) :
    Calls Tryz.prog 59 #[.pointer (some ⟨g, 0, none⟩)] w fun e w' => w = w' ∧ ∃ A n c, e = .returned (.slice A n c) ∧ Reads w w.heap.size 1 A n (svs p.args.tail) ∧ n = p.args.length - 1 ∧ n ≤ c ∧ (0 < n → ∃ b o, A = some ⟨b, o, none⟩) := by
  have han := hide h.an
  have hR := hide (OwP.in_ h.own).a
  have hac := Ow.c h.own.a
  have hadr := hide (Ow.addr h.own.a).2
  obtain ⟨⟨c0, c1, c2, c3, c4, c5, c6, c7, c8, c9⟩, -⟩ := ten h.blk
  clear h
  obtain ⟨A, an, ac, E, en, ec, F, fn, fc, D, dn, dc⟩ := s
  dsimp only at *
  by_cases h0 : an = 0
  · subst h0
    have hnil : p.args = [] := List.eq_nil_of_length_eq_zero han.out.symm
    have HN := hide hnil
    clear hnil
    go_enter Tryz.func59, Tryz.ntmps59
    go_wp2_with fail
    go_ret
    exact ⟨rfl, none, 0, 0, rfl, by rw [HN.out]; exact ⟨rfl, fun h => absurd h (by omega)⟩, by rw [HN.out]; rfl, Nat.le_refl _, fun h => absurd h (by omega)⟩
  · have hz : ((an : Int) == 0) = false := beq_eq_false_iff_ne.2 (by omega)
    have hs : ∀ W, (Instr.slice 22 (.slice A an ac) (some (.int .i64 1)) none none).run Tryz.prog W = .ok (.slice (if ac = 1 then A else A.map (·.add 1)) (an - 1) (ac - 1)) W := fun W => run_slice_from 22 9 Tryz.underlying22 sizeStr A an ac .i64 1 (by omega) (by omega) W
    obtain ⟨A2, hA2⟩ : ∃ a, (if ac = 1 then A else A.map (·.add 1)) = a := ⟨_, rfl⟩
    obtain ⟨n2, hn2⟩ : ∃ a, an - 1 = a := ⟨_, rfl⟩
    obtain ⟨k2, hk2⟩ : ∃ a, ac - 1 = a := ⟨_, rfl⟩
    rw [hA2, hn2, hk2] at hs
    have HA2 := hide hA2
    have HN2 := hide hn2
    have HK2 := hide hk2
    clear hA2 hn2 hk2
    go_enter Tryz.func59, Tryz.ntmps59
    go_wp2_with fail
    go_ret
    refine ⟨rfl, A2, n2, k2, rfl, ?_, by rw [← HN2.out, han.out], by have := HN2.out; have := HK2.out; omega, fun hn => ?_⟩
    · have := Reads.drop_ hR.out hac (l := 1) (by omega)
      rw [HA2.out, HN2.out] at this
      rw [← List.drop_one]
      simpa [svs, List.map_drop] using this
    · obtain ⟨b, o, rfl⟩ := hadr.out (by omega)
      have e := HA2.out
      by_cases hc1 : ac = 1
      · rw [if_pos hc1] at e; exact ⟨b, o, e.symm⟩
      · rw [if_neg hc1] at e; exact ⟨b, o + 1, by rw [← e]; rfl⟩
theorem add_plain_ (b o i : Nat) : (⟨b, o, none⟩ : Addr).add i = ⟨b, o + i, none⟩ := by unfold Addr.add; split <;> simp_all
theorem cell_s {w : World} {n : Nat} {b o : Nat} {l : List Bs} (h : Reads w w.heap.size 1 (some ⟨b, o, none⟩) n (svs l)) {k : Nat} {x : Bs} (hx : l[k]? = some x) : w.cell? ⟨b, o + k, none⟩ = some (.string ⟨x.toArray⟩) := by
  obtain ⟨hk, he⟩ := List.getElem?_eq_some_iff.1 hx
  have hn : l.length = n := by have := h.1; rw [svs_length] at this; omega
  obtain ⟨ad, e, _, hc⟩ := h.2 (by omega)
  injection e with e
  subst e
  have := hc k _ (svs_get l k hk)
  rw [he] at this
  rw [← add_plain_ b o k]
  exact this
theorem trB_no (ws : List Bs) (h : ws.length ≠ 2) : trB ws = none := by
  unfold trB
  split
  · exact absurd rfl h
  · rfl
set_option maxHeartbeats 1000000 in
theorem tbytes_any (B g : Nat) (p : PR) (s : PS) (w : World) (h : RunAt B g p s w) (hf : FitP p) :
    Calls Tryz.prog 50 #[.pointer (some ⟨g, 0, none⟩)] w fun e w' => (∃ n, w' = w.drewN n) ∧ ((∃ a b, trB p.args.tail = some (a, b) ∧ e = .returned (.tuple #[.int .u8 (a.toNat : Int), .int .u8 (b.toNat : Int), .bool true])) ∨ (trB p.args.tail = none ∧ e = .returned (.tuple #[.int .u8 0, .int .u8 0, .bool false]))) := by
  have X := hide (words_any B g p s w h)
  have hfa := hf.ca
  have hfl := hf.a
  clear h hf
  go_enter Tryz.func50, Tryz.ntmps50
  go_wp2_with fail
  refine X.out.mono ?_
  rintro e w1 ⟨rfl, A, n, c, rfl, hR, hn, hnc, hA⟩
  have hl : p.args.tail.length = n := by rw [List.length_tail]; omega
  have hm : ∀ x ∈ p.args.tail, x.length ≤ 10000 := fun x hx => hfa x (List.mem_of_mem_tail hx)
  obtain ⟨ws, hws⟩ : ∃ l, p.args.tail = l := ⟨_, rfl⟩
  rw [hws] at hR hl hm
  have HW := hide hws
  clear hws
  clear X
  by_cases h2 : n = 2
  · subst h2
    obtain ⟨b, o, rfl⟩ := hA (by omega)
    obtain ⟨x, y, rfl⟩ : ∃ x y, ws = [x, y] := by
      match ws, hl with
      | [x, y], _ => exact ⟨x, y, rfl⟩
    have q0 := cell_s hR (k := 0) (x := x) rfl
    have q1 := cell_s hR (k := 1) (x := y) rfl
    have hx1 := hm x (by simp)
    have hy1 := hm y (by simp)
    clear hn hl hR hA hm
    rw [Nat.add_zero] at q0
    by_cases hx : x.length = 1
    · obtain ⟨a, rfl⟩ := List.length_eq_one_iff.1 hx
      by_cases hy : y.length = 1
      · obtain ⟨b2, rfl⟩ := List.length_eq_one_iff.1 hy
        clear hx hy hx1 hy1
        go_wp2_with fail
        go_quiet (fail)
        go_wp2_with fail
        go_ret3
        exact ⟨⟨_, rfl⟩, .inl ⟨a, b2, by rw [HW.out]; rfl, rfl⟩⟩
      · have hyb : ((y.length : Int) == 1) = false := beq_eq_false_iff_ne.2 (by omega)
        have HT : Hid (trB [[a], y] = none) := hide (by
          match y, hy with
          | [], _ => rfl
          | a :: b :: l, _ => rfl)
        clear hx hy
        go_wp2_with fail
        go_ret3
        exact ⟨⟨0, rfl⟩, .inr ⟨HW.out ▸ HT.out, rfl⟩⟩
    · have hxb : ((x.length : Int) == 1) = false := beq_eq_false_iff_ne.2 (by omega)
      have HT : Hid (trB [x, y] = none) := hide (by
        match x, hx with
        | [], _ => rfl
        | a :: b :: l, _ => rfl)
      clear hx
      go_wp2_with fail
      go_ret3
      exact ⟨⟨0, rfl⟩, .inr ⟨HW.out ▸ HT.out, rfl⟩⟩
  · have hnb : ((n : Int) == 2) = false := beq_eq_false_iff_ne.2 (by omega)
    have HT : Hid (trB ws = none) := hide (trB_no ws (by omega))
    clear hn hl
    go_wp2_with fail
    go_ret3
    exact ⟨⟨0, rfl⟩, .inr ⟨HW.out ▸ HT.out, rfl⟩⟩
theorem bdr (B : Nat) (w : World) (n : Nat) : Below B w (w.drewN n) := ⟨rfl, rfl, rfl, Nat.le_refl _, fun _ _ => rfl⟩
def startTrP (p : PR) : PR := if (trB p.args.tail).isSome then { p with phase := 1 } else { p with phase := 4, status := 1 }
set_option maxHeartbeats 1000000 in
theorem startTr_any (B g : Nat) (p : PR) (s : PS) (w : World) (h : RunAt B g p s w) (hf : FitP p) (hB : B ≤ w.heap.size) :
    Calls Tryz.prog 41 #[.pointer (some ⟨g, 0, none⟩)] w fun e w' => e = .returned (.tuple #[]) ∧ RunAt B g (startTrP p) s w' ∧ Below B w w' := by
  have X := hide (tbytes_any B g p s w h hf)
  have H := hide h
  have hle := h.le
  clear h hf
  go_enter Tryz.func41, Tryz.ntmps41
  go_wp2_with fail
  refine X.out.mono ?_
  rintro e w1 ⟨⟨n, rfl⟩, ⟨a, b, ht, rfl⟩ | ⟨ht, rfl⟩⟩
  · have HT := hide ht
    have H1 : RunAt B g p s (w.drewN n) := H.out.below (bdr _ _ n)
    obtain ⟨⟨c0, c1, c2, c3, c4, c5, c6, c7, c8, c9⟩, f0, f1, f2, f3, f4, f5, f6, f7, f8, f9⟩ := ten H1.blk
    have H2 := hide H1
    clear ht H1 X
    go_wp2_with fail
    go_end0
    refine ⟨rfl, ?_, (bdr B w n).setCell (by exact hle) _⟩
    unfold startTrP
    rw [HT.out]
    exact H2.out.ph 1
  · have HT := hide ht
    have H1 : RunAt B g p s (w.drewN n) := H.out.below (bdr _ _ n)
    have X2 := hide (end_any B g p s 1 (w.drewN n) H1)
    clear ht H1 X
    go_wp2_with fail
    refine X2.out.mono ?_
    rintro e w2 ⟨rfl, h2, hb2⟩
    have HB := hide hb2
    have HO := hide h2
    clear hb2 h2
    go_wp2_with fail
    (try simp only [Exit.inBlock, Exit.then])
    refine bodyPost_ret (results_none rfl _ _ _) rfl ?_
    refine ⟨rfl, ?_, (bdr B w n).trans HB.out⟩
    unfold startTrP
    rw [HT.out]
    exact HO.out
end Go.Proofs.YtlkccboongnneaaGreatDoor
