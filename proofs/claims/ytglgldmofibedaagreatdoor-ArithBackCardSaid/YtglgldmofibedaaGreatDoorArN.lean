/- Contracts of run and of Eval. -/
import Derived.Test.YtglgldmofibedaaGreatDoorArM
namespace Go.Proofs.YtglgldmofibedaaGreatDoor
open Go.RowKit
set_option linter.unusedVariables false
/-- How run ends. -/
def endR : Rs → Int × Int
  | .bad e => (0, e)
  | .ok n r z => if r = [] then (n, 0) else (0, 50)
section
variable {W0 : World} {p : Nat} {A : Option Addr} {n c : Nat} {T : List Tok} {Va : Option Addr} {vn vc : Nat} {V : List Tok}
def RunEnd (p : Nat) (R : Rs) (w : World) (e : Ending) (w' : World) : Prop :=
  e = .returned (.tuple #[.int .i64 (endR R).1, .int .i64 (endR R).2]) ∧ Kb p w w' ∧ ∀ n z, R = .ok n [] z → w'.cell? ⟨p, 3, none⟩ = some (.bool z)
theorem Kb.tail {a b d : World} (h : Kb p a b) (hp : p ≤ a.heap.size) (hb : Below a.heap.size b d) : Kb p a d :=
  ⟨h.1.trans (hb.mono hp), fun x hx hl => (hb.block x hl).trans (h.2 x hx hl)⟩
theorem Kb.blk {a b : World} {g : Nat} {t : TypeId} {cs : Array Value} (h : Kb p a b) (hb : Blk a g t cs) (hp : p < g) : Blk b g t cs := (h.2 g hp hb.lt).trans hb
theorem Kb.alloc2 {p : Nat} {w : World} (hp : p < w.heap.size) (o1 o2 : Obj) : Kb p w ((w.alloc o1).alloc o2) :=
  Kb.of (((Below.refl w.heap.size w).alloc (Nat.le_refl _) o1).alloc (by simp) o2) (Nat.le_of_lt hp)
set_option maxRecDepth 100000 in
set_option maxHeartbeats 8000000 in
theorem run_any_p (C : Cx W0 p A n c T Va vn vc V) (hE : StdE W0) (w : World) (h : Pa W0 p A n c Va vn vc w 0 false) :
    Calls Tryz.prog 21 #[.pointer (some ⟨p, 0, none⟩)] w (RunEnd p ((EU V 40).1 T false) w) := by
  have hmf : ∀ (fn : Fn) (first cap : Array Value) (w : World), (Instr.makeFunc fn first cap).run Tryz.prog w = .ok (.func fn first cap) w := fun _ _ _ _ => rfl
  have hpl := h.blk.lt
  have HK0 := hide (Kb.alloc2 hpl (.cells #[.int .i64 0] 3) (.cells #[.int .i64 0] 23))
  have HP := hide h
  have HC := hide C
  have HE := hide hE
  have tl := C.tl
  have HB1 := hide ((Blk.new w 3 #[.int .i64 0]).alloc (.cells #[.int .i64 0] 23))
  have HB2 := hide (Blk.new (w.alloc (.cells #[.int .i64 0] 3)) 23 #[.int .i64 0])
  have X : Hid (ESpec W0 p A n c T Va vn vc (EU V 40).1 1) := hide ((eval_all C 40 (by omega)).1)
  have HBB := hide (EU_B V 40).1
  have HT : Hid ((EU V 40).1 T false = (EU V 40).1 (T.drop 0) false) := hide rfl
  obtain ⟨R, hR⟩ : ∃ R, (EU V 40).1 T false = R := ⟨_, rfl⟩
  rw [hR] at HT ⊢
  clear hR h C hE
  go_enter_defers Tryz.func21, Tryz.ntmps21
  go_wp2_with fail
  have HP2 := hide (HP.out.keep (((Below.refl w.heap.size w).alloc (Nat.le_refl _) (.cells #[.int .i64 0] 3)).alloc (by simp) (.cells #[.int .i64 0] 23)))
  obtain ⟨W2, hW2⟩ : ∃ W2, (w.alloc (.cells #[.int .i64 0] 3)).alloc (.cells #[.int .i64 0] 23) = W2 := ⟨_, rfl⟩
  have hs1 : (w.alloc (.cells #[.int .i64 0] 3)).heap.size = w.heap.size + 1 := by simp
  rw [hs1] at HB2
  rw [hW2] at HP2 HK0 HB1 HB2 ⊢
  clear hW2 hs1 HP
  generalize hg : w.heap.size = g at *
  refine (X.out W2 0 false HP2.out (Nat.zero_le _)).mono ?_
  rintro e w1 ⟨hk1, hm1⟩
  have HK1 := hide (HK0.out.trans hk1)
  have HA1 := hide (hk1.blk HB1.out hpl)
  have HB3 := hide (hk1.blk HB2.out (by omega))
  have HE1 := hide (HE.out.below (HC.out.at_ (HP2.out.bel.trans hk1.1)))
  rw [← HT.out] at hm1
  clear hk1 HK0 HB1 HB2 X HP2
  cases R with
  | bad x =>
    obtain rfl := hm1
    refine leaves_cons (f := 24) (args := #[.pointer (some ⟨g, 0, none⟩), .pointer (some ⟨g + 1, 0, none⟩)]) (by simp) (by simp [go_sem]) ?_
    refine (catch_panicking g (g + 1) 0 0 x w1 HE1.out HA1.out HB3.out (by omega) g (Nat.le_refl _) (by omega)).mono ?_
    rintro e u' w'' ⟨rfl, rfl, hA, hB, hbl⟩
    have c0 : w''.cell? ⟨g, 0, none⟩ = some (.int .i64 0) := hA.cell 0
    have c1 : w''.cell? ⟨g + 1, 0, none⟩ = some (.int .i64 x) := hB.cell 0
    simp [Leaves, settle, results, Tryz.results21, go_sem, c0, c1]
    refine ⟨rfl, HK1.out.tail (by omega) (by rw [hg]; exact hbl), fun n z h => ?_⟩
    cases h
  | ok m r z =>
    obtain ⟨rfl, b, hb1, hb2, rfl, hP1⟩ := hm1
    have HP1 := hide hP1
    have hgl := HA1.out.lt
    have hgl2 := HB3.out.lt
    have hA0 := HA1.out
    have cA := hA0.cell 0
    have fA := hA0.frozen 0
    clear hP1
    go_wp2_with fail
    have HA2 := hide (HA1.out.set_ 0 (.int .i64 m))
    have HB4 := hide (HB3.out.far (p := ⟨g, 0, none⟩) (by show g + 1 ≠ g; omega) (.int .i64 m))
    have HK2 := hide (HK1.out.tail (d := w1.setCell ⟨g, 0, none⟩ (.int .i64 m)) (by omega) (by rw [hg]; exact (Below.refl g w1).setCell (p := ⟨g, 0, none⟩) (Nat.le_refl _) _))
    have HPB := hide (HP1.out.blk.far (p := ⟨g, 0, none⟩) (by show p ≠ g; omega) (.int .i64 m))
    have hbel0 : Below W0.heap.size W0 (w1.setCell ⟨g, 0, none⟩ (.int .i64 m)) := (HC.out.at_ HP1.out.bel).setCell (p := ⟨g, 0, none⟩) (by have := HC.out.hp; show W0.heap.size ≤ g; omega) _
    have HE2 := hide (HE.out.below hbel0)
    have hn := rd_len (HC.out.toks)
    clear hA0 cA fA HA1 HB3 HK1 HP1 HE1 hbel0
    generalize w1.setCell ⟨g, 0, none⟩ (.int .i64 m) = w2 at *
    obtain ⟨⟨d0, d1, d2, d3⟩, _⟩ := HPB.out.four_
    by_cases hlt : b < T.length
    · have hlt' : (b : Int) < (n : Int) := by omega
      have hne : T.drop b ≠ [] := by
        intro h
        have := congrArg List.length h
        simp at this; omega
      have HR : Hid (endR (Rs.ok m (T.drop b) z) = (0, 50)) := hide (by
        show (if T.drop b = [] then (m, 0) else ((0, 50) : Int × Int)) = _
        rw [if_neg hne])
      go_quiet (fail)
      go_wp2_with fail
      refine leaves_cons (f := 24) (args := #[.pointer (some ⟨g, 0, none⟩), .pointer (some ⟨g + 1, 0, none⟩)]) (by simp) (by simp [go_sem]) ?_
      refine (catch_panicking g (g + 1) m 0 50 _ (show StdE (w2.drewN _) from HE2.out) (HA2.out.drewN _) (HB4.out.drewN _) (by omega) g (Nat.le_refl _) (by omega)).mono ?_
      rintro e u' w'' ⟨rfl, rfl, hA, hB, hbl⟩
      have c0 : w''.cell? ⟨g, 0, none⟩ = some (.int .i64 0) := hA.cell 0
      have c1 : w''.cell? ⟨g + 1, 0, none⟩ = some (.int .i64 50) := hB.cell 0
      simp [Leaves, settle, results, Tryz.results21, go_sem, c0, c1]
      refine ⟨by rw [HR.out], (HK2.out.drewN _).tail (by omega) (by rw [hg]; exact hbl), fun n z h => ?_⟩
      injection h with h1 h2 h3
      exact absurd h2 hne
    · have hlt' : ¬ (b : Int) < (n : Int) := by omega
      have hnil : T.drop b = [] := List.drop_of_length_le (by omega)
      rw [hnil]
      have HR : Hid (endR (Rs.ok m [] z) = (m, 0)) := hide rfl
      have HA3 := hide HA2.out
      go_quiet (fail)
      have HA5 := hide (HA2.out.drewN nq)
      have HB5 := hide (HB4.out.drewN nq)
      have HK5 := hide (HK2.out.drewN nq)
      have HPB5 := hide (HPB.out.drewN nq)
      clear HA2 HB4 HK2 HPB HA3 HE2 d0 d1 d2 d3
      generalize w2.drewN nq = w3 at *
      have hA0 := HA5.out
      have hB0 := HB5.out
      have cA : w3.cell? ⟨g, 0, none⟩ = some (.int .i64 m) := hA0.cell 0
      have fA := hA0.frozen 0
      have cB : w3.cell? ⟨g + 1, 0, none⟩ = some (.int .i64 0) := hB0.cell 0
      have fB := hB0.frozen 0
      clear hA0 hB0
      go_wp2_with fail
      have HA7 := hide ((HA5.out.set_ 0 (.int .i64 m)).far (p := ⟨g + 1, 0, none⟩) (by show g ≠ g + 1; omega) (.int .i64 0))
      have HB7 := hide ((HB5.out.far (p := ⟨g, 0, none⟩) (by show g + 1 ≠ g; omega) (.int .i64 m)).set_ 0 (.int .i64 0))
      have HP7 := hide ((HPB5.out.far (p := ⟨g, 0, none⟩) (by show p ≠ g; omega) (.int .i64 m)).far (p := ⟨g + 1, 0, none⟩) (by show p ≠ g + 1; omega) (.int .i64 0))
      have HK7 := hide (HK5.out.tail (d := (w3.setCell ⟨g, 0, none⟩ (.int .i64 m)).setCell ⟨g + 1, 0, none⟩ (.int .i64 0)) (by omega) (by rw [hg]; exact ((Below.refl g w3).setCell (p := ⟨g, 0, none⟩) (Nat.le_refl _) _).setCell (p := ⟨g + 1, 0, none⟩) (by show g ≤ g + 1; omega) _))
      clear HA5 HB5 HK5 HPB5 cA fA cB fB
      generalize (w3.setCell ⟨g, 0, none⟩ (.int .i64 m)).setCell ⟨g + 1, 0, none⟩ (.int .i64 0) = w4 at *
      refine leaves_cons (f := 24) (args := #[.pointer (some ⟨g, 0, none⟩), .pointer (some ⟨g + 1, 0, none⟩)]) (by simp) (by simp [go_sem]) ?_
      refine (catch_idle g (g + 1) w4).mono ?_
      rintro e u' w'' ⟨rfl, rfl, rfl⟩
      have c0 : w''.cell? ⟨g, 0, none⟩ = some (.int .i64 m) := HA7.out.cell 0
      have c1 : w''.cell? ⟨g + 1, 0, none⟩ = some (.int .i64 0) := HB7.out.cell 0
      simp [Leaves, settle, results, Tryz.results21, go_sem, c0, c1]
      refine ⟨by rw [HR.out], HK7.out, fun n z h => ?_⟩
      injection h with h1 h2 h3
      subst h3
      exact HP7.out.cell 3
end
/-- What is laid for arith. -/
structure StdA (w : World) : Prop where
  std : Std w
  ops : StdO w
  lev : StdL w
  err : StdE w
theorem StdA.below {w w' : World} (h : StdA w) (hb : Below w.heap.size w w') : StdA w' := ⟨h.std.below hb, h.ops.below hb, h.lev.below hb, h.err.below hb⟩
theorem toksF_len : ∀ k s ts, toksF k s = some ts → ts.length ≤ s.length ∧ ∀ t ∈ ts, t.length ≤ s.length := by
  intro k
  induction k with
  | zero => intro s ts h; cases h
  | succ k ih =>
    intro s ts h
    unfold toksF at h
    have h1 := trimP_le s
    split at h
    · injection h with h; subst h; exact ⟨Nat.zero_le _, fun t ht => by cases ht⟩
    split at h
    · cases h
    · cases hk : toksF k ((trimP s).drop (tokP (trimP s))) with
      | none => rw [hk] at h; cases h
      | some tr =>
        rw [hk] at h
        simp only [Option.map_some, Option.some.injEq] at h
        obtain ⟨i1, i2⟩ := ih _ _ hk
        simp only [List.length_drop] at i1 i2
        subst h
        refine ⟨by simp only [List.length_cons]; have := List.length_pos_iff.mpr ‹¬trimP s = []›; omega, fun t ht => ?_⟩
        rcases List.mem_cons.1 ht with rfl | ht
        · have := List.length_take_le' (tokP (trimP s)) (trimP s); omega
        · have := i2 t ht; omega
theorem toksP_len {s : Tok} {ts : List Tok} (h : toksP s = some ts) : ts.length ≤ 1000 ∧ ∀ t ∈ ts, t.length ≤ 1000 := by
  unfold toksP at h
  split at h
  · cases h
  · obtain ⟨h1, h2⟩ := toksF_len _ _ _ h
    exact ⟨by omega, fun t ht => by have := h2 t ht; omega⟩
set_option maxRecDepth 100000 in
set_option maxHeartbeats 8000000 in
theorem eval_any (s : Tok) (V : List Tok) (Va : Option Addr) (vn vc : Nat) (w : World) (hs : s.length ≤ 1000000) (hS : StdA w) (hV : Reads w w.heap.size 1 Va vn (svs V)) (vl : V.length ≤ 1000) (vs : ∀ v ∈ V, v.length ≤ 1000) :
    Calls Tryz.prog 12 #[.string ⟨s.toArray⟩, .slice Va vn vc] w fun e w' => e = .returned (.tuple #[.int .i64 (evalP s V).1, .int .i64 (evalP s V).2]) ∧ Below w.heap.size w w' := by
  have X := hide (tokens_any s w hs hS.ops)
  have HS := hide hS
  have HV := hide hV
  have HVS := hide vs
  have HR : Hid (evalP s V = match toksP s with | none => (0, 50) | some ts => if ts = [] then (0, 0) else endP ((EU V 40).1 ts false)) := hide rfl
  generalize evalP s V = R at *
  clear hS hV vs
  go_enter Tryz.func12, Tryz.ntmps12
  go_wp2_with fail
  refine X.out.mono ?_
  rintro e w1 ⟨ht, hb1⟩
  unfold TokEnd at ht
  have HB1 := hide hb1
  clear hb1 X
  cases hk : toksP s with
  | none =>
    rw [hk] at ht HR
    obtain rfl := ht
    go_wp2_with fail
    go_ret2
    exact ⟨by rw [HR.out]; rfl, HB1.out⟩
  | some ts =>
    have hts := toksP_len hk
    rw [hk] at ht HR
    obtain ⟨A, n, c, rfl, hO⟩ := ht
    have HO := hide hO.rd
    have hnl := hO.len
    have HTS := hide hts.2
    have htl := hts.1
    clear hO hk hts
    by_cases h0 : ts = []
    · subst h0
      obtain rfl : n = 0 := by simpa using hnl.symm
      have HR2 : Hid (R = (0, 0)) := hide (by rw [HR.out]; rfl)
      clear HR
      go_wp2_with fail
      go_ret2
      exact ⟨by rw [HR2.out]; rfl, HB1.out⟩
    · have hn0 : ((n : Int) == 0) = false := beq_eq_false_iff_ne.2 (by
        have := List.length_pos_iff.2 h0; omega)
      have HR2 : Hid (R = endP ((EU V 40).1 ts false)) := hide (by rw [HR.out]; exact if_neg h0)
      clear HR h0 hnl
      have HC : Hid (Cx w1 w1.heap.size A n c ts Va vn vc V) := hide {
        hp := Nat.le_refl _
        toks := HO.out
        vars := (HV.out.below HB1.out).more HB1.out.size
        std := HS.out.std.below HB1.out
        lev := HS.out.lev.below HB1.out
        tl := htl
        ts := HTS.out
        vl := vl
        vs := HVS.out }
      have HP : Hid (Pa w1 w1.heap.size A n c Va vn vc (w1.alloc (.cells #[.slice A n c, .int .i64 0, .slice Va vn vc, .bool false] 44)) 0 false) := hide ⟨(Below.refl _ _).alloc (Nat.le_refl _) _, Blk.new _ _ _⟩
      have XR := hide (run_any_p HC.out (HS.out.err.below HB1.out) _ HP.out)
      have HBB := hide (EU_B V 40).1
      go_wp2_with fail
      refine XR.out.mono ?_
      rintro e w2 ⟨rfl, hk, hz⟩
      have HB2 : Hid (Below w.heap.size w w2) := hide (below_more HB1.out (Nat.le_refl _) (((Below.refl w1.heap.size w1).alloc (Nat.le_refl _) _).trans hk.1))
      have hpl : w1.heap.size < w2.heap.size := by have := hk.1.size; simp at this; omega
      have HZ := hide hz
      have HBE := hide (HBB.out ts false)
      clear hk hz XR HP HC HB1
      generalize (EU V 40).1 ts false = Q at *
      cases Q with
      | bad x =>
        have HR3 : Hid (R = (0, x)) := hide HR2.out
        rcases HBE.out x rfl with rfl | rfl
        · go_wp2_with fail
          go_ret2
          exact ⟨by rw [HR3.out]; rfl, HB2.out⟩
        · go_wp2_with fail
          go_ret2
          exact ⟨by rw [HR3.out]; rfl, HB2.out⟩
      | ok m r z =>
        by_cases hr : r = []
        · subst hr
          have cz := HZ.out m z rfl
          cases z with
          | true =>
            have HR3 : Hid (R = (0, 32)) := hide HR2.out
            go_wp2_with fail
            go_ret2
            exact ⟨by rw [HR3.out]; rfl, HB2.out⟩
          | false =>
            have HR3 : Hid (R = (m, 0)) := hide HR2.out
            go_wp2_with fail
            go_ret2
            exact ⟨by rw [HR3.out]; rfl, HB2.out⟩
        · have HR3 : Hid (R = (0, 50)) := hide (by rw [HR2.out]; exact if_neg hr)
          have he : endR (Rs.ok m r z) = (0, 50) := if_neg hr
          rw [he]
          clear hr he
          go_wp2_with fail
          go_ret2
          exact ⟨by rw [HR3.out]; rfl, HB2.out⟩
end Go.Proofs.YtglgldmofibedaaGreatDoor
