/- proto.Decode. -/
import Derived.Test.YtedacfjkbfgikaaPrDb
import Derived.Test.YtedacfjkbfgikaaMem
import Derived.Deep.DeepCutAuto
namespace Go.Proofs.Ytedacfjkbfgikaa
open Go.RowKit
set_option linter.unusedVariables false
def decV (u O : Int) (rest : LB) : Option RQ := if ((!(decX u O (rest, false)).2.2 && (decX u O (rest, false)).2.1.isEmpty) && (decX u O (rest, false)).1.ok) = true then some (decX u O (rest, false)).1 else none
def decP : LB → Option RQ
  | [] => none
  | b :: rest => if (reqU (b.toNat : Int)).2 = true then decV (reqU (b.toNat : Int)).1 (b.toNat : Int) rest else none
def zv : Value := .agg #[.int .i64 0, .string ⟨#[]⟩, .string ⟨#[]⟩, .int .i64 0, .int .i64 0, .int .i64 0, .slice none 0 0, .slice none 0 0, .slice none 0 0, .slice none 0 0]
def DecEnd (R : Option RQ) (w : World) (e : Ending) (w' : World) : Prop := ∃ D dn dc A an ac E en ec F fn fc, e = .returned (.tuple #[(R.getD (zQ 0)).v D A E F dn dc an ac en ec fn fc, .int .i64 (if R.isSome then 0 else 5)]) ∧
  w'.ownsRow w.heap.size 5 1 (.slice D dn dc) dn (bv (R.getD (zQ 0)).d) ∧ w'.ownsRow w.heap.size 9 1 (.slice A an ac) an (svs (R.getD (zQ 0)).args) ∧ w'.ownsRow w.heap.size 9 1 (.slice E en ec) en (svs (R.getD (zQ 0)).env) ∧ w'.ownsRow w.heap.size 3 1 (.slice F fn fc) fn (ivs (R.getD (zQ 0)).fds) ∧ Below w.heap.size w w'
theorem dec_none {R : Option RQ} (h : R = none) {w w' : World} (hb : Below w.heap.size w w') : DecEnd R w (.returned (.tuple #[zv, .int .i64 5])) w' := by
  subst h
  exact ⟨none, 0, 0, none, 0, 0, none, 0, 0, none, 0, 0, rfl, World.ownsRow_nil _ _ _ _, World.ownsRow_nil _ _ _ _, World.ownsRow_nil _ _ _ _, World.ownsRow_nil _ _ _ _, hb⟩
theorem below10 {w0 w : World} {b : Nat} (h : Below b w0 w) (v0 v1 v2 v3 v4 v5 v6 v7 v8 v9 : Value) : Below b w0 ((((((((((w.setCell ⟨b, 0, none⟩ v0).setCell ⟨b, 1, none⟩ v1).setCell ⟨b, 2, none⟩ v2).setCell ⟨b, 3, none⟩ v3).setCell ⟨b, 4, none⟩ v4).setCell ⟨b, 5, none⟩ v5).setCell ⟨b, 6, none⟩ v6).setCell ⟨b, 7, none⟩ v7).setCell ⟨b, 8, none⟩ v8).setCell ⟨b, 9, none⟩ v9) := (Below.setCell (Below.setCell (Below.setCell (Below.setCell (Below.setCell (Below.setCell (Below.setCell (Below.setCell (Below.setCell (Below.setCell h (p := ⟨b, 0, none⟩) (by exact Nat.le_refl _) v0) (p := ⟨b, 1, none⟩) (by exact Nat.le_refl _) v1) (p := ⟨b, 2, none⟩) (by exact Nat.le_refl _) v2) (p := ⟨b, 3, none⟩) (by exact Nat.le_refl _) v3) (p := ⟨b, 4, none⟩) (by exact Nat.le_refl _) v4) (p := ⟨b, 5, none⟩) (by exact Nat.le_refl _) v5) (p := ⟨b, 6, none⟩) (by exact Nat.le_refl _) v6) (p := ⟨b, 7, none⟩) (by exact Nat.le_refl _) v7) (p := ⟨b, 8, none⟩) (by exact Nat.le_refl _) v8) (p := ⟨b, 9, none⟩) (by exact Nat.le_refl _) v9)
theorem blk10s {w : World} {b : Nat} {t : TypeId} {u0 u1 u2 u3 u4 u5 u6 u7 u8 u9 : Value} (h : Blk w b t #[u0, u1, u2, u3, u4, u5, u6, u7, u8, u9]) (v0 v1 v2 v3 v4 v5 v6 v7 v8 v9 : Value) : Blk ((((((((((w.setCell ⟨b, 0, none⟩ v0).setCell ⟨b, 1, none⟩ v1).setCell ⟨b, 2, none⟩ v2).setCell ⟨b, 3, none⟩ v3).setCell ⟨b, 4, none⟩ v4).setCell ⟨b, 5, none⟩ v5).setCell ⟨b, 6, none⟩ v6).setCell ⟨b, 7, none⟩ v7).setCell ⟨b, 8, none⟩ v8).setCell ⟨b, 9, none⟩ v9) b t #[v0, v1, v2, v3, v4, v5, v6, v7, v8, v9] := by
  have k0 : Blk _ b t #[v0, u1, u2, u3, u4, u5, u6, u7, u8, u9] := h.set_ 0 v0
  have k1 : Blk _ b t #[v0, v1, u2, u3, u4, u5, u6, u7, u8, u9] := k0.set_ 1 v1
  have k2 : Blk _ b t #[v0, v1, v2, u3, u4, u5, u6, u7, u8, u9] := k1.set_ 2 v2
  have k3 : Blk _ b t #[v0, v1, v2, v3, u4, u5, u6, u7, u8, u9] := k2.set_ 3 v3
  have k4 : Blk _ b t #[v0, v1, v2, v3, v4, u5, u6, u7, u8, u9] := k3.set_ 4 v4
  have k5 : Blk _ b t #[v0, v1, v2, v3, v4, v5, u6, u7, u8, u9] := k4.set_ 5 v5
  have k6 : Blk _ b t #[v0, v1, v2, v3, v4, v5, v6, u7, u8, u9] := k5.set_ 6 v6
  have k7 : Blk _ b t #[v0, v1, v2, v3, v4, v5, v6, v7, u8, u9] := k6.set_ 7 v7
  have k8 : Blk _ b t #[v0, v1, v2, v3, v4, v5, v6, v7, v8, u9] := k7.set_ 8 v8
  have k9 : Blk _ b t #[v0, v1, v2, v3, v4, v5, v6, v7, v8, v9] := k8.set_ 9 v9
  exact k9
theorem fro10 {w : World} {g : Nat} {t : TypeId} {cs : Array Value} (H : Blk w g t cs) : w.frozen? ⟨g, 0, none⟩ = false ∧ w.frozen? ⟨g, 1, none⟩ = false ∧ w.frozen? ⟨g, 2, none⟩ = false ∧ w.frozen? ⟨g, 3, none⟩ = false ∧ w.frozen? ⟨g, 4, none⟩ = false ∧ w.frozen? ⟨g, 5, none⟩ = false ∧ w.frozen? ⟨g, 6, none⟩ = false ∧ w.frozen? ⟨g, 7, none⟩ = false ∧ w.frozen? ⟨g, 8, none⟩ = false ∧ w.frozen? ⟨g, 9, none⟩ = false :=
  ⟨H.frozen 0, H.frozen 1, H.frozen 2, H.frozen 3, H.frozen 4, H.frozen 5, H.frozen 6, H.frozen 7, H.frozen 8, H.frozen 9⟩
theorem own10 {w : World} {B b : Nat} {e : TypeId} {n : Nat} {v : Value} {xs : List Value} (h : w.ownsRow B e 1 v n xs) (hb : b < B) (v0 v1 v2 v3 v4 v5 v6 v7 v8 v9 : Value) : (((((((((((w.setCell ⟨b, 0, none⟩ v0).setCell ⟨b, 1, none⟩ v1).setCell ⟨b, 2, none⟩ v2).setCell ⟨b, 3, none⟩ v3).setCell ⟨b, 4, none⟩ v4).setCell ⟨b, 5, none⟩ v5).setCell ⟨b, 6, none⟩ v6).setCell ⟨b, 7, none⟩ v7).setCell ⟨b, 8, none⟩ v8).setCell ⟨b, 9, none⟩ v9)).ownsRow B e 1 v n xs := (own_far (own_far (own_far (own_far (own_far (own_far (own_far (own_far (own_far (own_far h (p := ⟨b, 0, none⟩) hb v0) (p := ⟨b, 1, none⟩) hb v1) (p := ⟨b, 2, none⟩) hb v2) (p := ⟨b, 3, none⟩) hb v3) (p := ⟨b, 4, none⟩) hb v4) (p := ⟨b, 5, none⟩) hb v5) (p := ⟨b, 6, none⟩) hb v6) (p := ⟨b, 7, none⟩) hb v7) (p := ⟨b, 8, none⟩) hb v8) (p := ⟨b, 9, none⟩) hb v9)
theorem listS_le {α : Type} (f : St → α × St) (st : St) : (listS f st).1.length ≤ 255 := by
  have I : ∀ (k : Nat) (out : List α) (st : St), (itemsS f k out st).1.length ≤ out.length + k := by
    intro k
    induction k with
    | zero => intro out st; exact Nat.le_refl _
    | succ k ih =>
      intro out st
      unfold itemsS
      split
      · simp
      · have := ih (out ++ [(f st).1]) (f st).2
        simp at this
        omega
  have h := I (numS 1 st).1 [] (numS 1 st).2
  have h2 := num1_lt st
  unfold listS
  simp at h
  omega
theorem txtS_le (st : St) : (txtS st).1.length ≤ 65535 := by
  have h1 := (takeS_le (numS 2 st).1 (numS 2 st).2).1
  have h2 := num2_lt st
  unfold txtS
  omega
theorem decX_le (u O : Int) (st : St) : (decX u O st).1.d.length ≤ 65535 ∧ (decX u O st).1.args.length ≤ 255 ∧ (decX u O st).1.env.length ≤ 255 ∧ (decX u O st).1.fds.length ≤ 255 := by
  have A : ∀ (k : Int) (s : LB × St) (s' : St), s.1.length ≤ 65535 → (on u k s ([], s')).1.length ≤ 65535 := fun k s s' h => by
    unfold on; split
    · simp
    · exact h
  have L : ∀ {α : Type} (k : Int) (s : List α × St) (s' : St), s.1.length ≤ 255 → (on u k s ([], s')).1.length ≤ 255 := fun k s s' h => by
    unfold on; split
    · simp
    · exact h
  exact ⟨A _ _ _ (txtS_le _), L _ _ _ (listS_le _ _), L _ _ _ (listS_le _ _), L _ _ _ (listS_le _ _)⟩
set_option maxRecDepth 100000 in
set_option maxHeartbeats 4000000 in
theorem dec_nil (A : Option Addr) (c : Nat) (w : World) : Calls Try.prog 11 #[.slice A 0 c] w fun e w' => DecEnd (decP []) w e w' := by
  have hb := (Below.refl w.heap.size w).alloc (Nat.le_refl _) (.cells #[.int .i64 0, .string ⟨#[]⟩, .string ⟨#[]⟩, .int .i64 0, .int .i64 0, .int .i64 0, .slice none 0 0, .slice none 0 0, .slice none 0 0, .slice none 0 0] 26)
  have HE : Hid (DecEnd (decP []) w (.returned (.tuple #[zv, .int .i64 5])) (w.alloc (.cells #[.int .i64 0, .string ⟨#[]⟩, .string ⟨#[]⟩, .int .i64 0, .int .i64 0, .int .i64 0, .slice none 0 0, .slice none 0 0, .slice none 0 0, .slice none 0 0] 26))) := hide (dec_none rfl hb)
  unfold zv at HE
  go_enter Try.func11, Try.ntmps11
  go_wp2_with fail
  refine bodyPost_ret (v := .tuple #[.agg #[.int .i64 0, .string ⟨#[]⟩, .string ⟨#[]⟩, .int .i64 0, .int .i64 0, .int .i64 0, .slice none 0 0, .slice none 0 0, .slice none 0 0, .slice none 0 0], .int .i64 5]) (by simp only [results, Try.results11]; go_simp) rfl HE.out
set_option maxRecDepth 100000 in
set_option maxHeartbeats 8000000 in
theorem dec_cons (b : UInt8) (rest : LB) (A : Option Addr) (n c : Nat) (w : World) (hr : Rd w A (n + 1) (b :: rest)) (hn : n ≤ 100000) (hc : n + 1 ≤ c) : Calls Try.prog 11 #[.slice A (n + 1) c] w fun e w' => DecEnd (decP (b :: rest)) w e w' := by
  obtain ⟨ag, ao, rfl, hag, hcell⟩ := cells_of hr (by omega) (by simp [bv])
  have hc0 := hcell 0 (.int .u8 (b.toNat : Int)) rfl
  rw [Nat.add_zero] at hc0
  have hz : ((n : Int) + 1 == 0) = false := by simp; omega
  have hrest := rd_from (l := 1) (c := c) hr (by omega) hc
  simp only [List.drop_succ_cons, List.drop_zero, Nat.add_sub_cancel] at hrest
  have hsl := fun W => sl_from (some ⟨ag, ao, none⟩) (n + 1) c 1 .i64 1 rfl (by omega) W
  have hb256 := b.toNat_lt
  have hv : IntKind.i64.wrap (b.toNat : Int) = (b.toNat : Int) := by simp [IntKind.wrap, IntKind.bits, IntKind.signed]; omega
  have HDP : Hid (decP (b :: rest) = if (reqU (b.toNat : Int)).2 = true then decV (reqU (b.toNat : Int)).1 (b.toNat : Int) rest else none) := hide rfl
  generalize decP (b :: rest) = R at *
  have XR := hide (fun V => req_look (b.toNat : Int) V (by omega) (by omega))
  generalize reqU (b.toNat : Int) = q at *
  obtain ⟨q1, q2⟩ := q
  dsimp only at XR HDP ⊢
  have HOr : Hid (0 ≤ (b.toNat : Int) ∧ (b.toNat : Int) < 256) := hide ⟨by omega, by omega⟩
  generalize (b.toNat : Int) = O at *
  have hrl := hr.len
  have HZ0 := Blk.new w 26 #[.int .i64 0, .string ⟨#[]⟩, .string ⟨#[]⟩, .int .i64 0, .int .i64 0, .int .i64 0, .slice none 0 0, .slice none 0 0, .slice none 0 0, .slice none 0 0]
  have hs0 : (w.alloc (.cells #[.int .i64 0, .string ⟨#[]⟩, .string ⟨#[]⟩, .int .i64 0, .int .i64 0, .int .i64 0, .slice none 0 0, .slice none 0 0, .slice none 0 0, .slice none 0 0] 26)).heap.size = w.heap.size + 1 := by simp
  have HR1 := Blk.new (w.alloc (.cells #[.int .i64 0, .string ⟨#[]⟩, .string ⟨#[]⟩, .int .i64 0, .int .i64 0, .int .i64 0, .slice none 0 0, .slice none 0 0, .slice none 0 0, .slice none 0 0] 26)) 26 #[.int .i64 O, .string ⟨#[]⟩, .string ⟨#[]⟩, .int .i64 0, .int .i64 0, .int .i64 0, .slice none 0 0, .slice none 0 0, .slice none 0 0, .slice none 0 0]
  rw [hs0] at HR1
  have HB := hide (((Below.refl w.heap.size w).alloc (Nat.le_refl _) (.cells #[.int .i64 0, .string ⟨#[]⟩, .string ⟨#[]⟩, .int .i64 0, .int .i64 0, .int .i64 0, .slice none 0 0, .slice none 0 0, .slice none 0 0, .slice none 0 0] 26)).alloc (by simp) (.cells #[.int .i64 O, .string ⟨#[]⟩, .string ⟨#[]⟩, .int .i64 0, .int .i64 0, .int .i64 0, .slice none 0 0, .slice none 0 0, .slice none 0 0, .slice none 0 0] 26))
  have HZ := hide (HZ0.alloc (.cells #[.int .i64 O, .string ⟨#[]⟩, .string ⟨#[]⟩, .int .i64 0, .int .i64 0, .int .i64 0, .slice none 0 0, .slice none 0 0, .slice none 0 0, .slice none 0 0] 26))
  have HR := hide HR1
  have HRest := hide hrest
  clear HZ0 HR1 hcell hr hrest
  go_enter Try.func11, Try.ntmps11
  go_upto_region 4 with (fail)
  generalize ((w.alloc (.cells #[.int .i64 0, .string ⟨#[]⟩, .string ⟨#[]⟩, .int .i64 0, .int .i64 0, .int .i64 0, .slice none 0 0, .slice none 0 0, .slice none 0 0, .slice none 0 0] 26)).alloc (.cells #[.int .i64 O, .string ⟨#[]⟩, .string ⟨#[]⟩, .int .i64 0, .int .i64 0, .int .i64 0, .slice none 0 0, .slice none 0 0, .slice none 0 0, .slice none 0 0] 26)) = W at *
  have allS : Hid (∀ V, Below W.heap.size W V → V.cell? ⟨w.heap.size + 1, 0, none⟩ = some (.int .i64 O)) := hide (fun V hV => (hV.cell (p := ⟨w.heap.size + 1, 0, none⟩) HR.out.lt).trans ((HR.out.cell 0).trans rfl))
  clear hc0 hs0
  go_cut [5, 6] (fun s5 s6 wx => s5 = .int .i64 q1 ∧ s6 = .bool q2 ∧ Hid (Below W.heap.size W wx))
  case first =>
    have kW := hide (Below.refl W.heap.size W)
    go_region_held3 (fun V => V.cell? ⟨w.heap.size + 1, 0, none⟩ = some (.int .i64 O))
      (first | with_reducible exact allS.out _ (Below.drew kW.out) | with_reducible exact allS.out _ kW.out)
      (first
        | (go_at_call 26; with_reducible refine (XR.out _).mono ?_
           rintro e wx ⟨rfl, kx, lx, -⟩
           have lx0 : (Instr.lookup 57 (.map (some W.heap.size)) (.int .i64 O) true).run Try.prog wx = .ok (.tuple #[.int .i64 q1, .bool q2]) wx := lx 0
           have kX := hide (below_more (Below.drew kW.out) (Nat.le_refl _) kx)
           clear kW
           have kW := hide kX.out
           clear kx kX lx))
    all_goals
      go_wp2_with fail
      go_meet
      exact ⟨rfl, rfl, kW⟩
  case rest =>
    obtain ⟨rfl, rfl, kW⟩ := hcut
    have HZc := hide (HZ.out.below kW.out HZ.out.lt)
    have HRc := hide (HR.out.below kW.out HR.out.lt)
    have HBc := hide (below_more HB.out (Nat.le_refl _) kW.out)
    have hsc := HBc.out.size
    have hlc := HRc.out.lt
    clear XR allS HZ HR HB kW hv hb256
    cases q2 with
    | false =>
      obtain ⟨z0, z1, z2, z3, z4, z5, z6, z7, z8, z9⟩ := blk10 HZc.out
      obtain ⟨f0, f1, f2, f3, f4, f5, f6, f7, f8, f9⟩ := fro10 HZc.out
      have HE : Hid (DecEnd R w (.returned (.tuple #[zv, .int .i64 5])) ((((((((((wc.setCell ⟨w.heap.size, 0, none⟩ (.int .i64 0)).setCell ⟨w.heap.size, 1, none⟩ (.string ⟨#[]⟩)).setCell ⟨w.heap.size, 2, none⟩ (.string ⟨#[]⟩)).setCell ⟨w.heap.size, 3, none⟩ (.int .i64 0)).setCell ⟨w.heap.size, 4, none⟩ (.int .i64 0)).setCell ⟨w.heap.size, 5, none⟩ (.int .i64 0)).setCell ⟨w.heap.size, 6, none⟩ (.slice none 0 0)).setCell ⟨w.heap.size, 7, none⟩ (.slice none 0 0)).setCell ⟨w.heap.size, 8, none⟩ (.slice none 0 0)).setCell ⟨w.heap.size, 9, none⟩ (.slice none 0 0))) := hide (dec_none (by rw [HDP.out]; simp) (below10 HBc.out _ _ _ _ _ _ _ _ _ _))
      have HZe := hide (blk10s HZc.out (.int .i64 0) (.string ⟨#[]⟩) (.string ⟨#[]⟩) (.int .i64 0) (.int .i64 0) (.int .i64 0) (.slice none 0 0) (.slice none 0 0) (.slice none 0 0) (.slice none 0 0))
      unfold zv at HE
      generalize hWE : ((((((((((wc.setCell ⟨w.heap.size, 0, none⟩ (.int .i64 0)).setCell ⟨w.heap.size, 1, none⟩ (.string ⟨#[]⟩)).setCell ⟨w.heap.size, 2, none⟩ (.string ⟨#[]⟩)).setCell ⟨w.heap.size, 3, none⟩ (.int .i64 0)).setCell ⟨w.heap.size, 4, none⟩ (.int .i64 0)).setCell ⟨w.heap.size, 5, none⟩ (.int .i64 0)).setCell ⟨w.heap.size, 6, none⟩ (.slice none 0 0)).setCell ⟨w.heap.size, 7, none⟩ (.slice none 0 0)).setCell ⟨w.heap.size, 8, none⟩ (.slice none 0 0)).setCell ⟨w.heap.size, 9, none⟩ (.slice none 0 0)) = WE at HE HZe
      go_wp2_with fail

      clear hWE z0 z1 z2 z3 z4 z5 z6 z7 z8 z9 f0 f1 f2 f3 f4 f5 f6 f7 f8 f9
      obtain ⟨z0, z1, z2, z3, z4, z5, z6, z7, z8, z9⟩ := blk10 HZe.out
      refine bodyPost_ret (v := .tuple #[.agg #[.int .i64 0, .string ⟨#[]⟩, .string ⟨#[]⟩, .int .i64 0, .int .i64 0, .int .i64 0, .slice none 0 0, .slice none 0 0, .slice none 0 0, .slice none 0 0], .int .i64 5]) (by simp only [results, Try.results11]; go_simp) rfl HE.out
    | true =>
      have HRV : Hid (R = decV q1 O rest) := hide (by rw [HDP.out]; simp)
      clear HDP
      have s1 : (wc.alloc (.cells #[.slice (from_ c 1 (some ⟨ag, ao, none⟩)) n (c - 1), .bool false] 72)).heap.size = wc.heap.size + 1 := by simp
      have s2 : ((wc.alloc (.cells #[.slice (from_ c 1 (some ⟨ag, ao, none⟩)) n (c - 1), .bool false] 72)).alloc (.cells #[.pointer (some ⟨wc.heap.size, 0, none⟩)] 70)).heap.size = wc.heap.size + 2 := by simp
      have g1 := Blk.new wc 72 #[.slice (from_ c 1 (some ⟨ag, ao, none⟩)) n (c - 1), .bool false]
      have g2 := Blk.new (wc.alloc (.cells #[.slice (from_ c 1 (some ⟨ag, ao, none⟩)) n (c - 1), .bool false] 72)) 70 #[.pointer (some ⟨wc.heap.size, 0, none⟩)]
      have g3 := Blk.new ((wc.alloc (.cells #[.slice (from_ c 1 (some ⟨ag, ao, none⟩)) n (c - 1), .bool false] 72)).alloc (.cells #[.pointer (some ⟨wc.heap.size, 0, none⟩)] 70)) 62 (rowD (wc.heap.size + 1) (w.heap.size + 1))
      rw [s1] at g2
      rw [s2] at g3
      have G1 := (g1.alloc (.cells #[.pointer (some ⟨wc.heap.size, 0, none⟩)] 70)).alloc (.cells (rowD (wc.heap.size + 1) (w.heap.size + 1)) 62)
      have G2 := g2.alloc (.cells (rowD (wc.heap.size + 1) (w.heap.size + 1)) 62)
      have b1 := (((Below.refl wc.heap.size wc).alloc (Nat.le_refl _) (.cells #[.slice (from_ c 1 (some ⟨ag, ao, none⟩)) n (c - 1), .bool false] 72)).alloc (by omega) (.cells #[.pointer (some ⟨wc.heap.size, 0, none⟩)] 70)).alloc (by omega) (.cells (rowD (wc.heap.size + 1) (w.heap.size + 1)) 62)
      have hD : RD (wc.heap.size + 2) (rowD (wc.heap.size + 1) (w.heap.size + 1)) wc (w.heap.size + 1) (wc.heap.size + 2) wc.heap.size (wc.heap.size + 1) (w.heap.size + 1) (zQ O, (rest, false)) (((wc.alloc (.cells #[.slice (from_ c 1 (some ⟨ag, ao, none⟩)) n (c - 1), .bool false] 72)).alloc (.cells #[.pointer (some ⟨wc.heap.size, 0, none⟩)] 70)).alloc (.cells (rowD (wc.heap.size + 1) (w.heap.size + 1)) 62)) :=
        ⟨⟨_, n, c - 1, G1, ((HRest.out.below (HBc.out.trans (b1.mono hsc))).more (by omega)), by omega, by omega, by omega, by simp⟩, G2,
          ⟨none, 0, 0, none, 0, 0, none, 0, 0, none, 0, 0, HRc.out.below b1 hlc, World.ownsRow_nil _ _ _ _, World.ownsRow_nil _ _ _ _, World.ownsRow_nil _ _ _ _, World.ownsRow_nil _ _ _ _⟩,
          b1.mono (by omega), by omega, by omega, by omega, by omega, g3⟩
      have XE := hide (eachD_any _ _ _ _ _ _ _ q1 _ _ hD)
      rw [dcQ_eq] at XE
      have HOP : Hid ((decX q1 O (rest, false)).1.op = O) := hide rfl
      have HLE := hide (decX_le q1 O (rest, false))
      unfold decV at HRV
      generalize decX q1 O (rest, false) = X at *
      obtain ⟨r9, st9⟩ := X
      dsimp only at XE HOP HLE HRV
      clear hD b1 G1 G2 g1 g2 g3 HRest
      unfold rowD capsQ at XE
      go_wp2_with fail
      refine XE.out.mono ?_
      rintro e w6 ⟨rfl, h6⟩
      have HR6 := hide h6
      have ci := h6.2.1.cell 0
      simp only [List.getElem?_toArray, List.getElem?_cons_zero] at ci
      have XDn := hide (done_any _ _ _ w6 h6.1)
      have HB6 := hide (HBc.out.trans (h6.2.2.2.1.mono (by omega)))
      have HZ6 := hide (HZc.out.below h6.2.2.2.1 (by omega))
      clear h6 XE s1 s2 HZc HRc
      cases hd : (!st9.2 && st9.1.isEmpty) with
      | false =>
        rw [hd] at XDn HRV
        obtain ⟨z0, z1, z2, z3, z4, z5, z6, z7, z8, z9⟩ := blk10 HZ6.out
        obtain ⟨f0, f1, f2, f3, f4, f5, f6, f7, f8, f9⟩ := fro10 HZ6.out
        have HE : Hid (DecEnd R w (.returned (.tuple #[zv, .int .i64 5])) ((((((((((w6.setCell ⟨w.heap.size, 0, none⟩ (.int .i64 0)).setCell ⟨w.heap.size, 1, none⟩ (.string ⟨#[]⟩)).setCell ⟨w.heap.size, 2, none⟩ (.string ⟨#[]⟩)).setCell ⟨w.heap.size, 3, none⟩ (.int .i64 0)).setCell ⟨w.heap.size, 4, none⟩ (.int .i64 0)).setCell ⟨w.heap.size, 5, none⟩ (.int .i64 0)).setCell ⟨w.heap.size, 6, none⟩ (.slice none 0 0)).setCell ⟨w.heap.size, 7, none⟩ (.slice none 0 0)).setCell ⟨w.heap.size, 8, none⟩ (.slice none 0 0)).setCell ⟨w.heap.size, 9, none⟩ (.slice none 0 0))) := hide (dec_none (by rw [HRV.out]; simp) (below10 HB6.out _ _ _ _ _ _ _ _ _ _))
        have HZe := hide (blk10s HZ6.out (.int .i64 0) (.string ⟨#[]⟩) (.string ⟨#[]⟩) (.int .i64 0) (.int .i64 0) (.int .i64 0) (.slice none 0 0) (.slice none 0 0) (.slice none 0 0) (.slice none 0 0))
        unfold zv at HE
        generalize hWE : ((((((((((w6.setCell ⟨w.heap.size, 0, none⟩ (.int .i64 0)).setCell ⟨w.heap.size, 1, none⟩ (.string ⟨#[]⟩)).setCell ⟨w.heap.size, 2, none⟩ (.string ⟨#[]⟩)).setCell ⟨w.heap.size, 3, none⟩ (.int .i64 0)).setCell ⟨w.heap.size, 4, none⟩ (.int .i64 0)).setCell ⟨w.heap.size, 5, none⟩ (.int .i64 0)).setCell ⟨w.heap.size, 6, none⟩ (.slice none 0 0)).setCell ⟨w.heap.size, 7, none⟩ (.slice none 0 0)).setCell ⟨w.heap.size, 8, none⟩ (.slice none 0 0)).setCell ⟨w.heap.size, 9, none⟩ (.slice none 0 0)) = WE at HE HZe
        clear hd
        go_wp2_with fail
        refine XDn.out.mono ?_
        rintro e w7 ⟨rfl, rfl⟩
        go_wp2_with fail
        clear hWE z0 z1 z2 z3 z4 z5 z6 z7 z8 z9 f0 f1 f2 f3 f4 f5 f6 f7 f8 f9
        obtain ⟨z0, z1, z2, z3, z4, z5, z6, z7, z8, z9⟩ := blk10 HZe.out
        refine bodyPost_ret (v := .tuple #[.agg #[.int .i64 0, .string ⟨#[]⟩, .string ⟨#[]⟩, .int .i64 0, .int .i64 0, .int .i64 0, .slice none 0 0, .slice none 0 0, .slice none 0 0, .slice none 0 0], .int .i64 5]) (by simp only [results, Try.results11]; go_simp) rfl HE.out
      | true =>
        rw [hd] at XDn HRV
        clear hd
        have hq : DqAt _ _ r9 w6 := HR6.out.2.2.1
        obtain ⟨D, dn, dc, A, an, ac, E, en, ec, F, fn, fc, m1, m2, m3, m4, m5⟩ := hq
        have e2 := (Reads.of_own m2).1
        have e3 := (Reads.of_own m3).1
        have e4 := (Reads.of_own m4).1
        have e5 := (Reads.of_own m5).1
        rw [bv_length] at e2
        rw [svs_length] at e3 e4
        simp only [ivs, List.length_map] at e5
        have XC := hide (check_any r9 D A E F dn dc an ac en ec fn fc w6 (Reads.of_own m2) (Reads.of_own m3) (Reads.of_own m4) (Reads.of_own m5) (by have h1 := HOP.out; have h2 := HOr.out; unfold i64ok; rw [h1]; omega) (by have h1 := HLE.out; omega))
        have HM := hide (And.intro m2 (And.intro m3 (And.intro m4 m5)))
        have HK6 := hide m1
        unfold qcs at m1
        unfold RQ.v at XC
        obtain ⟨y0, y1, y2, y3, y4, y5, y6, y7, y8, y9⟩ := blk10 m1
        have hl6 := m1.lt
        clear m1 m2 m3 m4 m5 e2 e3 e4 e5
        go_wp2_with fail
        refine XDn.out.mono ?_
        rintro e w7 ⟨rfl, rfl⟩
        clear XDn
        go_wp2_with fail
        refine XC.out.mono ?_
        rintro e w7 ⟨rfl, hb7⟩
        have HB7 := hide (below_more HB6.out (Nat.le_refl _) hb7)
        have HZ7 := hide (HZ6.out.below hb7 HZ6.out.lt)
        have HK7 := hide (HK6.out.below hb7 hl6)
        have N2 := own_below HM.out.1 hb7
        have N3 := own_below HM.out.2.1 hb7
        have N4 := own_below HM.out.2.2.1 hb7
        have N5 := own_below HM.out.2.2.2 hb7
        have HN := hide (And.intro N2 (And.intro N3 (And.intro N4 N5)))
        clear N2 N3 N4 N5 HM HK6 HZ6 HB6 HR6 hb7 XC y0 y1 y2 y3 y4 y5 y6 y7 y8 y9 ci hl6
        obtain ⟨z0, z1, z2, z3, z4, z5, z6, z7, z8, z9⟩ := blk10 HZ7.out
        obtain ⟨f0, f1, f2, f3, f4, f5, f6, f7, f8, f9⟩ := fro10 HZ7.out
        cases hk : r9.ok with
        | false =>
          rw [hk] at HRV
          have HE : Hid (DecEnd R w (.returned (.tuple #[zv, .int .i64 5])) ((((((((((w7.setCell ⟨w.heap.size, 0, none⟩ (.int .i64 0)).setCell ⟨w.heap.size, 1, none⟩ (.string ⟨#[]⟩)).setCell ⟨w.heap.size, 2, none⟩ (.string ⟨#[]⟩)).setCell ⟨w.heap.size, 3, none⟩ (.int .i64 0)).setCell ⟨w.heap.size, 4, none⟩ (.int .i64 0)).setCell ⟨w.heap.size, 5, none⟩ (.int .i64 0)).setCell ⟨w.heap.size, 6, none⟩ (.slice none 0 0)).setCell ⟨w.heap.size, 7, none⟩ (.slice none 0 0)).setCell ⟨w.heap.size, 8, none⟩ (.slice none 0 0)).setCell ⟨w.heap.size, 9, none⟩ (.slice none 0 0))) := hide (dec_none (by rw [HRV.out]; simp) (below10 HB7.out _ _ _ _ _ _ _ _ _ _))
          have HZe := hide (blk10s HZ7.out (.int .i64 0) (.string ⟨#[]⟩) (.string ⟨#[]⟩) (.int .i64 0) (.int .i64 0) (.int .i64 0) (.slice none 0 0) (.slice none 0 0) (.slice none 0 0) (.slice none 0 0))
          unfold zv at HE
          generalize hWE : ((((((((((w7.setCell ⟨w.heap.size, 0, none⟩ (.int .i64 0)).setCell ⟨w.heap.size, 1, none⟩ (.string ⟨#[]⟩)).setCell ⟨w.heap.size, 2, none⟩ (.string ⟨#[]⟩)).setCell ⟨w.heap.size, 3, none⟩ (.int .i64 0)).setCell ⟨w.heap.size, 4, none⟩ (.int .i64 0)).setCell ⟨w.heap.size, 5, none⟩ (.int .i64 0)).setCell ⟨w.heap.size, 6, none⟩ (.slice none 0 0)).setCell ⟨w.heap.size, 7, none⟩ (.slice none 0 0)).setCell ⟨w.heap.size, 8, none⟩ (.slice none 0 0)).setCell ⟨w.heap.size, 9, none⟩ (.slice none 0 0)) = WE at HE HZe
          clear hk
          go_wp2_with fail
          clear hWE z0 z1 z2 z3 z4 z5 z6 z7 z8 z9 f0 f1 f2 f3 f4 f5 f6 f7 f8 f9
          obtain ⟨z0, z1, z2, z3, z4, z5, z6, z7, z8, z9⟩ := blk10 HZe.out
          refine bodyPost_ret (v := .tuple #[.agg #[.int .i64 0, .string ⟨#[]⟩, .string ⟨#[]⟩, .int .i64 0, .int .i64 0, .int .i64 0, .slice none 0 0, .slice none 0 0, .slice none 0 0, .slice none 0 0], .int .i64 5]) (by simp only [results, Try.results11]; go_simp) rfl HE.out
        | true =>
          rw [hk] at HRV
          have hRV : R = some r9 := by rw [HRV.out]; simp
          have HE : Hid (DecEnd R w (.returned (.tuple #[r9.v D A E F dn dc an ac en ec fn fc, .int .i64 0])) ((((((((((w7.setCell ⟨w.heap.size, 0, none⟩ (.int .i64 r9.op)).setCell ⟨w.heap.size, 1, none⟩ (.string ⟨r9.p.toArray⟩)).setCell ⟨w.heap.size, 2, none⟩ (.string ⟨r9.p2.toArray⟩)).setCell ⟨w.heap.size, 3, none⟩ (.int .i64 r9.h)).setCell ⟨w.heap.size, 4, none⟩ (.int .i64 r9.n)).setCell ⟨w.heap.size, 5, none⟩ (.int .i64 r9.fl)).setCell ⟨w.heap.size, 6, none⟩ (.slice D dn dc)).setCell ⟨w.heap.size, 7, none⟩ (.slice A an ac)).setCell ⟨w.heap.size, 8, none⟩ (.slice E en ec)).setCell ⟨w.heap.size, 9, none⟩ (.slice F fn fc))) := hide (by
            rw [hRV]
            exact ⟨D, dn, dc, A, an, ac, E, en, ec, F, fn, fc, rfl, own_more (own10 HN.out.1 (by omega) _ _ _ _ _ _ _ _ _ _) (by omega), own_more (own10 HN.out.2.1 (by omega) _ _ _ _ _ _ _ _ _ _) (by omega), own_more (own10 HN.out.2.2.1 (by omega) _ _ _ _ _ _ _ _ _ _) (by omega), own_more (own10 HN.out.2.2.2 (by omega) _ _ _ _ _ _ _ _ _ _) (by omega), below10 HB7.out _ _ _ _ _ _ _ _ _ _⟩)
          have HZe := hide (blk10s HZ7.out (.int .i64 r9.op) (.string ⟨r9.p.toArray⟩) (.string ⟨r9.p2.toArray⟩) (.int .i64 r9.h) (.int .i64 r9.n) (.int .i64 r9.fl) (.slice D dn dc) (.slice A an ac) (.slice E en ec) (.slice F fn fc))
          have hk7 := HK7.out
          unfold qcs at hk7
          obtain ⟨y0, y1, y2, y3, y4, y5, y6, y7, y8, y9⟩ := blk10 hk7
          unfold RQ.v at HE
          generalize hWE : ((((((((((w7.setCell ⟨w.heap.size, 0, none⟩ (.int .i64 r9.op)).setCell ⟨w.heap.size, 1, none⟩ (.string ⟨r9.p.toArray⟩)).setCell ⟨w.heap.size, 2, none⟩ (.string ⟨r9.p2.toArray⟩)).setCell ⟨w.heap.size, 3, none⟩ (.int .i64 r9.h)).setCell ⟨w.heap.size, 4, none⟩ (.int .i64 r9.n)).setCell ⟨w.heap.size, 5, none⟩ (.int .i64 r9.fl)).setCell ⟨w.heap.size, 6, none⟩ (.slice D dn dc)).setCell ⟨w.heap.size, 7, none⟩ (.slice A an ac)).setCell ⟨w.heap.size, 8, none⟩ (.slice E en ec)).setCell ⟨w.heap.size, 9, none⟩ (.slice F fn fc)) = WE at HE HZe
          clear hk hRV hk7
          go_wp2_with fail
          clear hWE z0 z1 z2 z3 z4 z5 z6 z7 z8 z9 f0 f1 f2 f3 f4 f5 f6 f7 f8 f9 y0 y1 y2 y3 y4 y5 y6 y7 y8 y9
          obtain ⟨z0, z1, z2, z3, z4, z5, z6, z7, z8, z9⟩ := blk10 HZe.out
          refine bodyPost_ret (v := .tuple #[.agg #[.int .i64 r9.op, .string ⟨r9.p.toArray⟩, .string ⟨r9.p2.toArray⟩, .int .i64 r9.h, .int .i64 r9.n, .int .i64 r9.fl, .slice D dn dc, .slice A an ac, .slice E en ec, .slice F fn fc], .int .i64 0]) (by simp only [results, Try.results11]; go_simp) rfl HE.out
end Go.Proofs.Ytedacfjkbfgikaa
