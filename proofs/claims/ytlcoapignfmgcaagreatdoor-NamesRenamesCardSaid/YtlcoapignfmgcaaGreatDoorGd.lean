/- The walk of the tree, whatever is done at each step. The walk of the tree: the function that goes into a directory. The walk of the tree, from the root. node.checkTree. -/
import Derived.Test.YtlcoapignfmgcaaGreatDoorGc
import Derived.PlainAid
namespace Go.Proofs.YtlcoapignfmgcaaGreatDoor
open Go.RowKit
set_option linter.unusedVariables false
/-- All but the blocks of O is as it was; what is not of O is not of O' afterwards. -/
structure Kp (O O' : Nat → Prop) (V V' : World) : Prop where
  os : V'.os = V.os
  tape : V'.tape = V.tape
  output : V'.output = V.output
  size : V.heap.size ≤ V'.heap.size
  blk : ∀ k, k < V.heap.size → ¬ O k → V'.heap[k]? = V.heap[k]? ∧ ¬ O' k
theorem Kp.trans {O O' O'' : Nat → Prop} {a b c : World} (h : Kp O O' a b) (k : Kp O' O'' b c) : Kp O O'' a c :=
  ⟨k.os.trans h.os, k.tape.trans h.tape, k.output.trans h.output, Nat.le_trans h.size k.size, fun i hi hn =>
    have h1 := h.blk i hi hn
    have h2 := k.blk i (Nat.lt_of_lt_of_le hi h.size) h1.2
    ⟨h2.1.trans h1.1, h2.2⟩⟩
theorem Kp.of {O : Nat → Prop} {a b : World} (h : Below a.heap.size a b) : Kp O O a b := ⟨h.os, h.tape, h.output, h.size, fun k hk hn => ⟨h.block k hk, hn⟩⟩
theorem Kp.below {B : Nat} {O O' : Nat → Prop} {V V' : World} (k : Kp O O' V V') (h0 : ∀ i, i < B → ¬ O i) (hB : B ≤ V.heap.size) : Below B V V' :=
  ⟨k.os, k.tape, k.output, k.size, fun i hi => (k.blk i (by omega) (h0 i hi)).1⟩
theorem Blk.kp {O O' : Nat → Prop} {V V' : World} {g : Nat} {t : TypeId} {cs : Array Value} (h : Blk V g t cs) (hn : ¬ O g) (k : Kp O O' V V') : Blk V' g t cs := ((k.blk g h.lt hn).1).trans h
/-- The steps above, in memory; the names that led here. -/
inductive StC (V : World) (O : Nat → Prop) : Option Addr → List (List UInt8) → Prop
  | nil : StC V O none []
  | cons {g : Nat} {up : Option Addr} {us : List (List UInt8)} {d : Int} {nm : List UInt8} {nd : Int} (h : Blk V g 104 #[.pointer up, .int .i64 d, .string ⟨nm.toArray⟩, .int .i64 nd]) (hn : ¬ O g) (t : StC V O up us) : StC V O (some ⟨g, 0, none⟩) (us ++ [nm])
theorem StC.kp {O O' : Nat → Prop} {V V' : World} (k : Kp O O' V V') {a : Option Addr} {us : List (List UInt8)} (h : StC V O a us) : StC V' O' a us := by
  induction h with
  | nil => exact .nil
  | cons hb hn _ ih => exact .cons (hb.kp hn k) (k.blk _ hb.lt hn).2 ih
/-- What the walk stands on. -/
structure WkI (B0 pf pv pi vf : Nat) (vb : Array Value) (L : Option Addr) (n c : Nat) (l : List DV) (O : Nat → Prop) (V : World) : Prop where
  fs : FsR V B0 L n l
  f : Blk V pf 24 #[.slice L n c]
  v : Blk V pv 106 #[.func (.func vf) #[] vb]
  i : Blk V pi 125 #[.func (.func 89) #[] #[.pointer (some ⟨pf, 0, none⟩), .pointer (some ⟨pv, 0, none⟩), .pointer (some ⟨pi, 0, none⟩)]]
  of : ¬ O pf
  ov : ¬ O pv
  oi : ¬ O pi
  o0 : ∀ k, k < B0 → ¬ O k
  b0 : B0 ≤ V.heap.size
theorem WkI.kp {B0 pf pv pi vf : Nat} {vb : Array Value} {L : Option Addr} {n c : Nat} {l : List DV} {O O' : Nat → Prop} {V V' : World} (h : WkI B0 pf pv pi vf vb L n c l O V) (k : Kp O O' V V') : WkI B0 pf pv pi vf vb L n c l O' V' :=
  ⟨h.fs.below (k.below h.o0 h.b0), h.f.kp h.of k, h.v.kp h.ov k, h.i.kp h.oi k, (k.blk _ h.f.lt h.of).2, (k.blk _ h.v.lt h.ov).2, (k.blk _ h.i.lt h.oi).2, fun i hi => (k.blk i (Nat.lt_of_lt_of_le hi h.b0) (h.o0 i hi)).2, Nat.le_trans h.b0 k.size⟩
/-- The steps up to the first one that stops the walk. -/
def seen (go : ST → Bool) : List ST → List ST
  | [] => []
  | x :: t => x :: (if go x = true then seen go t else [])
theorem seen_all {go : ST → Bool} : ∀ {a : List ST} (b : List ST), a.all go = true → seen go (a ++ b) = a ++ seen go b
  | [], b, _ => rfl
  | x :: a, b, h => by
    simp only [List.all_cons, Bool.and_eq_true] at h
    rw [List.cons_append, seen, if_pos h.1, seen_all b h.2, List.cons_append]
theorem seen_stop {go : ST → Bool} : ∀ {a : List ST} (b : List ST), a.all go = false → seen go (a ++ b) = seen go a
  | [], b, h => by cases h
  | x :: a, b, h => by
    rw [List.cons_append, seen, seen]
    by_cases hx : go x = true
    · rw [if_pos hx, if_pos hx, seen_stop b (by simpa [hx] using h)]
    · rw [if_neg hx, if_neg hx]
/-- What one name gives to the walk. -/
def wkN (l : List ND) (k : Nat) (us : List (List UInt8)) (d : Int) (y : NM) : List ST := ⟨d, y.name, y.node, us⟩ :: (if isDir l y.node = true then wk l k (us ++ [y.name]) y.node else [])
theorem wk_succ (l : List ND) (k : Nat) (us : List (List UInt8)) (d : Int) : wk l (k + 1) us d = (ndAt l d).names.flatMap (wkN l k us d) := rfl
/-- How a visit must go. -/
def Visit (P : ST → Prop) (N n vf : Nat) (vb : Array Value) (go : ST → Bool) (J : List ST → (Nat → Prop) → World → Prop) : Prop :=
  ∀ (s : List ST) (O : Nat → Prop) (V : World) (g : Nat) (up : Option Addr) (x : ST), J s O V → s.all go = true → s.length < N → P x → 0 ≤ x.node → x.node < (n : Int) → Blk V g 104 #[.pointer up, .int .i64 x.dir, .string ⟨x.name.toArray⟩, .int .i64 x.node] → ¬ O g → StC V O up x.up →
    Calls Tryz.prog vf (#[.pointer (some ⟨g, 0, none⟩)] ++ vb) V fun e V' => e = .returned (.bool (go x)) ∧ ∃ O', J (s ++ [x]) O' V' ∧ Kp O O' V V'
def IntoEnd (go : ST → Bool) (J : List ST → (Nat → Prop) → World → Prop) (s : List ST) (O : Nat → Prop) (V : World) (ws : List ST) (e : Ending) (V' : World) : Prop :=
  e = .returned (.bool (ws.all go)) ∧ ∃ O', J (s ++ seen go ws) O' V' ∧ Kp O O' V V'
theorem IntoEnd.no {go : ST → Bool} {J : List ST → (Nat → Prop) → World → Prop} {s : List ST} {O O' : Nat → Prop} {V V' : World} {ws a b : List ST} {e : Ending} (h : ws = a ++ b) (ha : a.all go = false) (he : e = .returned (.bool false)) (hJ : J (s ++ seen go a) O' V') (hk : Kp O O' V V') : IntoEnd go J s O V ws e V' := by
  subst h
  exact ⟨by rw [he, List.all_append, ha]; rfl, O', by rw [seen_stop b ha]; exact hJ, hk⟩
end Go.Proofs.YtlcoapignfmgcaaGreatDoor
namespace Go.Proofs.YtlcoapignfmgcaaGreatDoor
open Go.RowKit
set_option linter.unusedVariables false
def fl (l : List ND) (k : Nat) (us : List (List UInt8)) (d : Int) (names : List NM) (i : Nat) : List ST := (names.take i).flatMap (wkN l k us d)
theorem fl_succ {l : List ND} {k : Nat} {us : List (List UInt8)} {d : Int} {names : List NM} {i : Nat} {y : NM} (h : names[i]? = some y) : fl l k us d names (i + 1) = fl l k us d names i ++ wkN l k us d y := by
  obtain ⟨hi, rfl⟩ := List.getElem?_eq_some_iff.1 h
  unfold fl
  rw [List.take_succ_eq_append_getElem hi, List.flatMap_append]
  simp
theorem fl_split {l : List ND} {k : Nat} {us : List (List UInt8)} {d : Int} {names : List NM} {i : Nat} {y : NM} (h : names[i]? = some y) : names.flatMap (wkN l k us d) = (fl l k us d names i ++ wkN l k us d y) ++ (names.drop (i + 1)).flatMap (wkN l k us d) := by
  rw [← fl_succ h]
  unfold fl
  rw [← List.flatMap_append, List.take_append_drop]
set_option maxRecDepth 100000 in
set_option maxHeartbeats 16000000 in
theorem into_any {B0 pf pv pi vf N : Nat} {vb : Array Value} {L : Option Addr} {n c : Nat} {l : List DV} {go : ST → Bool} {P : ST → Prop} {J : List ST → (Nat → Prop) → World → Prop}
    (hE : ∀ args w, (callFunc vf args).run Tryz.prog w = .ok (.enter vf args) w) (hr : RefsOk (nds l)) (hfew : ∀ x ∈ l, FewN x) (hV : Visit P N n vf vb go J)
    (hJa : ∀ s O V V', J s O V → Below V.heap.size V V' → J s O V') (hJl : ∀ s O V, J s O V → ∀ k, O k → k < V.heap.size) :
    ∀ (k : Nat) (q : Nat) (up : Option Addr) (us : List (List UInt8)) (s : List ST) (O : Nat → Prop) (V : World), Deep (nds l) k (q : Int) → q < n → WkI B0 pf pv pi vf vb L n c l O V → J s O V → s.all go = true → s.length + (wk (nds l) k us (q : Int)).length ≤ N → (∀ x ∈ wk (nds l) k us (q : Int), P x) → StC V O up us →
      Calls Tryz.prog 89 #[.pointer up, .int .i64 (q : Int), .pointer (some ⟨pf, 0, none⟩), .pointer (some ⟨pv, 0, none⟩), .pointer (some ⟨pi, 0, none⟩)] V (IntoEnd go J s O V (wk (nds l) k us (q : Int)))
  | 0, q, up, us, s, O, V, hd, _, _, _, _, _, _, _ => absurd hd (by simp [Deep])
  | k + 1, q, up, us, s, O, V, hd, hq, hW, hJ, hs, hlen, hp, hC => by
    have HSG := hide hs
    clear hs
    have IH := hide (into_any (B0 := B0) (pf := pf) (pv := pv) (pi := pi) (L := L) (n := n) (c := c) hE hr hfew hV hJa hJl k)
    obtain ⟨g, o, x, rfl, hg, hx, hok, hc⟩ := hW.fs.at_ hq
    have hxr : ndAt (nds l) (q : Int) = x.r := nds_at hx
    have HD : Hid (∀ y ∈ x.r.names, isDir (nds l) y.node = true → Deep (nds l) k y.node) := hide (by rw [← hxr]; exact hd)
    have HREF : Hid (∀ y ∈ x.r.names, 0 ≤ y.node ∧ y.node < (n : Int)) := hide (fun y hy => by
      have h1 := hr x.r (by unfold nds; exact List.mem_map.2 ⟨x, List.mem_of_getElem? hx, rfl⟩) y hy
      rw [nds_length, hW.fs.len] at h1
      exact h1)
    rw [wk_succ, hxr] at hlen ⊢
    have HLN : Hid (∀ (i : Nat) (y : NM), x.r.names[i]? = some y → s.length + (fl (nds l) k us (q : Int) x.r.names i).length + (wkN (nds l) k us (q : Int) y).length ≤ N) := hide (fun i y hy => by
      have h1 := congrArg List.length (fl_split (l := nds l) (k := k) (us := us) (d := (q : Int)) hy)
      rw [List.length_append, List.length_append] at h1
      omega)
    clear hlen
    have HP : Hid (∀ y ∈ x.r.names, ∀ z ∈ wkN (nds l) k us (q : Int) y, P z) := hide (fun y hy z hz => hp z (by rw [wk_succ, hxr]; exact List.mem_flatMap.2 ⟨y, hy, hz⟩))
    clear hp
    have hmn : x.mn ≤ 200 := by have := (hfew x (List.mem_of_getElem? hx)).n; have := hok.nl; omega
    have HM : Hid (∀ O' V', Kp O O' V V' → Reads V' B0 2 x.M x.mn (ncs x.r.names)) := hide (fun O' V' hk => hok.n.below (hk.below hW.o0 hW.b0))
    have k0 := one_ hW.f
    have c4 := hc.2.2.2.2.1
    have i1 := fun W => nd_at g o n c q (q : Int) rfl hq W
    have HW := hide hW
    have HJ := hide hJ
    have HC := hide hC
    have HNL := hide hok.nl
    have HV := hide hV
    have HJA := hide hJa
    have HJL := hide hJl
    clear hd hW hJ hC hx hok hc hxr hr hfew hV hJa hJl
    go_enter Tryz.func89, Tryz.ntmps89
    go_wp2_with fail
    clear k0 c4
    go_loopw [18] (fun u wx => ∃ i : Nat, i ≤ x.mn ∧ u = .int .i64 (i : Int) ∧ Hid ((fl (nds l) k us (q : Int) x.r.names i).all go = true) ∧ Hid (∃ O', J (s ++ fl (nds l) k us (q : Int) x.r.names i) O' wx ∧ Kp O O' V wx)) (fun i _ => x.mn - (intOf i).toNat)
    case atStart => exact ⟨0, Nat.zero_le _, rfl, hide rfl, hide ⟨O, by simpa [fl] using HJ.out, Kp.of (Below.refl _ _)⟩⟩
    case round =>
      clear HJ
      obtain ⟨i, hi, rfl, HG, HO⟩ := hrel
      obtain ⟨O1, HJ1, HK1⟩ := HO.out
      have HJ1 := hide HJ1
      have HK1 := hide HK1
      clear HO
      by_cases hin : i < x.mn
      · have hlt : (i : Int) < (x.mn : Int) := by omega
        obtain ⟨gm, om, y, hM, hgm, hy, n0, n1⟩ := nm_cells (HM.out _ _ HK1.out) hin
        have HY := hide hy
        have HM' := hide hM
        obtain ⟨hy0, hy1⟩ := HREF.out y (List.mem_of_getElem? hy)
        obtain ⟨m, hm⟩ : ∃ m : Nat, y.node = (m : Int) := ⟨y.node.toNat, by omega⟩
        have HMM := hide hm
        have i2 := fun W => nm_at gm om x.mn x.mc i (i : Int) rfl hin W
        rw [hM]
        have HPY := hide (HP.out y (List.mem_of_getElem? hy))
        have HDY := hide (HD.out y (List.mem_of_getElem? hy))
        have W1 := HW.out.kp HK1.out
        have C1 := StC.kp HK1.out HC.out
        obtain ⟨wy, hwy⟩ : ∃ W, wr.alloc (.cells #[Value.string ⟨y.name.toArray⟩, .int .i64 y.node] 59) = W := ⟨_, rfl⟩
        have b1 : Below wr.heap.size wr wy := by rw [← hwy]; exact on_alloc _ _
        have BY : Blk wy wr.heap.size 59 #[Value.string ⟨y.name.toArray⟩, .int .i64 y.node] := by rw [← hwy]; exact Blk.new wr _ _
        obtain ⟨wz, hwz⟩ : ∃ W, wy.alloc (.cells #[Value.pointer up, .int .i64 (q : Int), .string ⟨y.name.toArray⟩, .int .i64 y.node] 104) = W := ⟨_, rfl⟩
        have b2 : Below wy.heap.size wy wz := by rw [← hwz]; exact on_alloc _ _
        have BZ : Blk wz wy.heap.size 104 #[Value.pointer up, .int .i64 (q : Int), .string ⟨y.name.toArray⟩, .int .i64 y.node] := by rw [← hwz]; exact Blk.new wy _ _
        have BY2 : Blk wz wr.heap.size 59 #[Value.string ⟨y.name.toArray⟩, .int .i64 y.node] := BY.below b2 BY.lt
        have K2 : Kp O1 O1 wr wz := (Kp.of b1).trans (Kp.of b2)
        have J2 : J (s ++ fl (nds l) k us (q : Int) x.r.names i) O1 wz := HJA.out _ _ _ _ (HJA.out _ _ _ _ HJ1.out b1) b2
        have W2 := W1.kp K2
        have C2 := StC.kp K2 C1
        have nz : ¬ O1 wy.heap.size := fun h => by have := HJL.out _ _ _ HJ1.out _ h; have := b1.size; omega
        have ny : ¬ O1 wr.heap.size := fun h => by have := HJL.out _ _ _ HJ1.out _ h; omega
        have X1 := hide (HV.out _ _ wz wy.heap.size up ⟨(q : Int), y.name, y.node, us⟩ J2 (by rw [List.all_append, HSG.out, HG.out]; rfl) (by have h1 := HLN.out i y HY.out; have h2 : 0 < (wkN (nds l) k us (q : Int) y).length := (by unfold wkN; exact Nat.succ_pos _); rw [List.length_append]; omega) (HPY.out _ (List.mem_cons_self ..)) hy0 hy1 BZ nz C2)
        have hzl : wy.heap.size < wz.heap.size := BZ.lt
        have hyl : wr.heap.size < wz.heap.size := BY2.lt
        have kv := one_ W2.v
        have kb0 := BY.cell 0
        have kb1 := BY.cell 1
        simp only [List.getElem?_toArray, List.getElem?_cons_zero, List.getElem?_cons_succ] at kb0 kb1
        have HWZ := hide (And.intro W2 (And.intro C2 (And.intro BZ (And.intro BY2 (And.intro K2 (And.intro nz ny))))))
        clear W1 C1 b1 BY b2 BZ BY2 K2 J2 W2 C2 nz ny hy hM HM' hm
        go_wp2_with fail
        refine X1.out.mono ?_
        rintro e w3 ⟨rfl, O2, J3, K3⟩
        obtain ⟨W2, C2, BZ, BY2, K2, nz, ny⟩ := HWZ.out
        have W3 := W2.kp K3
        have KA := (HK1.out.trans K2).trans K3
        have BZ3 := BZ.kp nz K3
        have BY3 := BY2.kp ny K3
        have HSC := hide (StC.cons BZ3 (K3.blk _ BZ.lt nz).2 (StC.kp K3 C2))
        have hmn2 : m < n := by have := HMM.out; omega
        obtain ⟨g2, o2, x2, hL, hg2, hx2, hok2, hc2⟩ := W3.fs.at_ hmn2
        injection hL with hL
        injection hL with e1 e2 e3
        subst e1; subst e2
        have hdirE : isDir (nds l) y.node = (x2.r.kind == 2) := by unfold isDir; rw [HMM.out, nds_at hx2]
        have HDE := hide hdirE
        have i3 := fun W => nd_at g o n c m y.node HMM.out hmn2 W
        have hyl3 : wr.heap.size < w3.heap.size := BY3.lt
        have hzl3 : wy.heap.size < w3.heap.size := BZ3.lt
        have HKF := hide (one_ W3.f)
        have HKI := hide (one_ W3.i)
        have HKY := hide (BY3.cell 1)
        have HKK := hide hc2.1
        have HW3 := hide W3
        have HJ3 := hide J3
        have HKA := hide KA
        clear kv kb0 kb1 n0 n1 HWZ X1 W2 C2 BZ BY2 K2 nz ny W3 KA BZ3 BY3 J3 K3 hok2 hc2 hdirE hx2 hzl hyl
        cases hgx : go ⟨(q : Int), y.name, y.node, us⟩ with
        | false =>
          have HGX := hide hgx
          clear hgx i3
          go_wp2_with fail
          go_ret
          refine IntoEnd.no (fl_split HY.out) (by rw [List.all_append, wkN, List.all_cons, HGX.out]; simp) rfl ?_ HKA.out
          rw [seen_all _ HG.out, wkN, seen, if_neg (by rw [HGX.out]; simp), ← List.append_assoc]
          exact HJ3.out
        | true =>
          have HGX := hide hgx
          have kf := HKF.out
          have ki := HKI.out
          have ky := HKY.out
          have kk := HKK.out
          simp only [List.getElem?_toArray, List.getElem?_cons_zero, List.getElem?_cons_succ] at ky
          clear hgx HKF HKI HKY HKK
          by_cases hk2 : x2.r.kind = 2
          · have HDI : Hid (isDir (nds l) y.node = true) := hide (by rw [HDE.out, hk2]; rfl)
            rw [hk2] at kk
            have XR := hide (IH.out m (some ⟨wy.heap.size, 0, none⟩) (us ++ [y.name]) _ O2 w3 (by have := HDY.out HDI.out; rwa [HMM.out] at this) hmn2 HW3.out HJ3.out (by rw [List.all_append, List.all_append, HSG.out, HG.out, List.all_cons, HGX.out]; rfl) (by have h1 := HLN.out i y HY.out; have h2 : (wkN (nds l) k us (q : Int) y).length = (wk (nds l) k (us ++ [y.name]) y.node).length + 1 := (by unfold wkN; rw [if_pos HDI.out]; rfl); rw [HMM.out] at h2; rw [List.length_append, List.length_append, List.length_singleton]; omega) (by rw [← HMM.out]; exact fun z hz => HPY.out z (by unfold wkN; rw [if_pos HDI.out]; exact List.mem_cons_of_mem _ hz)) HSC.out)
            rw [← HMM.out] at XR
            go_wp2_with fail
            refine XR.out.mono ?_
            rintro e w4 ⟨rfl, O3, J4, K4⟩
            have HJ4 := hide J4
            have HK4 := hide (HKA.out.trans K4)
            clear J4 K4 XR kf ki ky kk
            cases hws : (wk (nds l) k (us ++ [y.name]) y.node).all go with
            | false =>
              have HWS := hide hws
              clear hws
              go_wp2_with fail
              go_ret
              refine IntoEnd.no (fl_split HY.out) (by rw [List.all_append, wkN, List.all_cons, if_pos HDI.out, HWS.out]; simp) rfl ?_ HK4.out
              rw [seen_all _ HG.out, wkN, seen, if_pos HGX.out, if_pos HDI.out, ← List.append_assoc, List.append_cons]
              exact HJ4.out
            | true =>
              have HWS := hide hws
              clear hws
              go_wp2_with fail
              go_roundw
              case rel =>
                refine ⟨i + 1, by omega, by go_num, hide ?_, hide ⟨O3, ?_, HK4.out⟩⟩
                · rw [fl_succ HY.out, List.all_append, HG.out, wkN, List.all_cons, HGX.out, if_pos HDI.out, HWS.out]; rfl
                · rw [fl_succ HY.out, wkN, if_pos HDI.out, ← List.append_assoc, List.append_cons]
                  have h4 := HJ4.out
                  have h5 := seen_all (go := go) [] HWS.out
                  rw [List.append_nil, seen, List.append_nil] at h5
                  rwa [h5] at h4
              case measure => simp [intOf]; omega
          · have hk2b : (x2.r.kind == 2) = false := beq_eq_false_iff_ne.2 hk2
            have HDI : Hid (isDir (nds l) y.node = false) := hide (by rw [HDE.out]; exact hk2b)
            clear hk2
            go_wp2_with fail
            go_roundw
            case rel =>
              refine ⟨i + 1, by omega, by go_num, hide ?_, hide ⟨O2, ?_, HKA.out⟩⟩
              · rw [fl_succ HY.out, List.all_append, HG.out, wkN, List.all_cons, HGX.out, if_neg (by rw [HDI.out]; simp)]; rfl
              · rw [fl_succ HY.out, wkN, if_neg (by rw [HDI.out]; simp), ← List.append_assoc]
                exact HJ3.out
            case measure => simp [intOf]; omega
      · have hlt : ¬ ((i : Int) < (x.mn : Int)) := by omega
        obtain rfl : i = x.mn := by omega
        have HF : Hid (fl (nds l) k us (q : Int) x.r.names x.mn = x.r.names.flatMap (wkN (nds l) k us (q : Int))) := hide (by unfold fl; rw [List.take_of_length_le (by have := HNL.out; omega)])
        go_wp2_with fail
        go_ret
        refine ⟨?_, O1, ?_, HK1.out⟩
        · rw [← HF.out, HG.out]; rfl
        · have h5 := seen_all (go := go) [] HG.out
          rw [List.append_nil, seen, List.append_nil] at h5
          rw [← HF.out, h5]
          exact HJ1.out
end Go.Proofs.YtlcoapignfmgcaaGreatDoor
namespace Go.Proofs.YtlcoapignfmgcaaGreatDoor
open Go.RowKit
set_option linter.unusedVariables false
set_option maxRecDepth 100000 in
set_option maxHeartbeats 8000000 in
theorem walk_any {B0 vf N : Nat} {vb : Array Value} {L : Option Addr} {n c : Nat} {l : List DV} {go : ST → Bool} {P : ST → Prop} {J : List ST → (Nat → Prop) → World → Prop}
    (hE : ∀ args w, (callFunc vf args).run Tryz.prog w = .ok (.enter vf args) w) (hr : RefsOk (nds l)) (hfew : ∀ x ∈ l, FewN x) (hV : Visit P N n vf vb go J)
    (hJa : ∀ s O V V', J s O V → Below V.heap.size V V' → J s O V') (hJl : ∀ s O V, J s O V → ∀ k, O k → k < V.heap.size)
    (O : Nat → Prop) (V : World) (hF : FsR V B0 L n l) (h0 : ∀ k, k < B0 → ¬ O k) (hb0 : B0 ≤ V.heap.size) (hD : Deep (nds l) n 0) (hn : 0 < n) (hN : (wk (nds l) n [] 0).length ≤ N) (hP : ∀ x ∈ wk (nds l) n [] 0, P x) (hJ : J [] O V) :
    Calls Tryz.prog 75 #[.agg #[.slice L n c], .func (.func vf) #[] vb] V fun e V' => e = .returned (.tuple #[]) ∧ ∃ O', J (seen go (wk (nds l) n [] 0)) O' V' ∧ Kp O O' V V' := by
  have IN := hide (fun (V2 : World) (h2 : Kp O O V V2) (h3 : Below V.heap.size V V2) (hw : WkI B0 V.heap.size (V.heap.size + 1) (V.heap.size + 1 + 1) vf vb L n c l O V2) => into_any hE hr hfew hV hJa hJl n 0 none [] [] O V2 hD hn hw (hJa _ _ _ _ hJ h3) rfl (by simpa using hN) hP .nil)
  have HF := hide hF
  have HO := hide (fun k (hk : O k) => hJl _ _ _ hJ k hk)
  have H0 := hide h0
  have HB0 := hide hb0
  clear hE hr hfew hV hJa hJl hF h0 hb0 hD hn hN hP hJ
  obtain ⟨V1, hV1⟩ : ∃ W, V.alloc (.cells #[.slice L n c] 24) = W := ⟨_, rfl⟩
  have s1 : V1.heap.size = V.heap.size + 1 := by rw [← hV1]; simp
  have b1 : Below V.heap.size V V1 := by rw [← hV1]; exact on_alloc _ _
  have k1 : Blk V1 V.heap.size 24 #[.slice L n c] := by rw [← hV1]; exact Blk.new V _ _
  obtain ⟨V2, hV2⟩ : ∃ W, V1.alloc (.cells #[.func (.func vf) #[] vb] 106) = W := ⟨_, rfl⟩
  have s2 : V2.heap.size = V.heap.size + 1 + 1 := by rw [← hV2]; simp [s1]
  have b2 : Below V1.heap.size V1 V2 := by rw [← hV2]; exact on_alloc _ _
  have k2 : Blk V2 V1.heap.size 106 #[.func (.func vf) #[] vb] := by rw [← hV2]; exact Blk.new V1 _ _
  obtain ⟨V3, hV3⟩ : ∃ W, V2.alloc (.cells #[Value.nilFunc] 125) = W := ⟨_, rfl⟩
  have s3 : V3.heap.size = V.heap.size + 1 + 1 + 1 := by rw [← hV3]; simp [s2]
  have b3 : Below V2.heap.size V2 V3 := by rw [← hV3]; exact on_alloc _ _
  have k3 : Blk V3 (V.heap.size + 1 + 1) 125 #[Value.nilFunc] := by rw [← hV3, ← s2]; exact Blk.new V2 _ _
  have f1 := k3.cell 0
  have f2 := k3.frozen 0
  have f3 := k3.lt
  simp only [List.getElem?_toArray, List.getElem?_cons_zero] at f1
  obtain ⟨V4, hV4⟩ : ∃ W, V3.setCell ⟨V.heap.size + 1 + 1, 0, none⟩ (.func (.func 89) #[] #[.pointer (some ⟨V.heap.size, 0, none⟩), .pointer (some ⟨V.heap.size + 1, 0, none⟩), .pointer (some ⟨V.heap.size + 1 + 1, 0, none⟩)]) = W := ⟨_, rfl⟩
  have k4 : Blk V4 (V.heap.size + 1 + 1) 125 #[.func (.func 89) #[] #[.pointer (some ⟨V.heap.size, 0, none⟩), .pointer (some ⟨V.heap.size + 1, 0, none⟩), .pointer (some ⟨V.heap.size + 1 + 1, 0, none⟩)]] := by rw [← hV4]; exact k3.set_ 0 _
  have b4 : Below (V.heap.size + 1 + 1) V3 V4 := by rw [← hV4]; exact (Below.refl (V.heap.size + 1 + 1) V3).setCell (p := ⟨V.heap.size + 1 + 1, 0, none⟩) (Nat.le_refl (V.heap.size + 1 + 1)) _
  have bA : Below V.heap.size V V4 := (b1.trans ((b2.mono (by omega)).trans ((b3.mono (by omega)).trans (b4.mono (by omega)))))
  have K4 : Kp O O V V4 := Kp.of bA
  have kf : Blk V4 V.heap.size 24 #[.slice L n c] := ((k1.below b2 (by omega)).below b3 (by omega)).below b4 (by omega)
  have kv : Blk V4 (V.heap.size + 1) 106 #[.func (.func vf) #[] vb] := by
    rw [s1] at k2
    exact (k2.below b3 (by omega)).below b4 (by omega)
  have W4 : WkI B0 V.heap.size (V.heap.size + 1) (V.heap.size + 1 + 1) vf vb L n c l O V4 :=
    ⟨HF.out.below (bA.mono HB0.out), kf, kv, k4, fun h => by have := HO.out _ h; omega, fun h => by have := HO.out _ h; omega, fun h => by have := HO.out _ h; omega, H0.out, Nat.le_trans HB0.out bA.size⟩
  have X := hide (IN.out V4 K4 bA W4)
  have HK4 := hide K4
  have g1 := one_ k4
  have g3 := k4.lt
  have hst : (store ⟨V.heap.size + 1 + 1, 0, none⟩ (.func (.func 89) #[] #[.pointer (some ⟨V.heap.size, 0, none⟩), .pointer (some ⟨V.heap.size + 1, 0, none⟩), .pointer (some ⟨V.heap.size + 1 + 1, 0, none⟩)])).run Tryz.prog V3 = .ok () V4 := by
    rw [run_store _ _ _ _ _ rfl, ← hV4]
    go_simp
  clear IN HF HO H0 HB0 b1 b2 b3 b4 bA K4 kf kv W4 k1 k2 k3 k4
  go_enter Tryz.func75, Tryz.ntmps75
  go_wp2_with fail
  refine X.out.mono ?_
  rintro e w5 ⟨rfl, O5, J5, K5⟩
  have HK5 := hide (HK4.out.trans K5)
  have HJ5 := hide J5
  clear J5 K5 X
  go_wp2_with fail
  go_end0
  exact ⟨rfl, O5, by simpa using HJ5.out, HK5.out⟩
end Go.Proofs.YtlcoapignfmgcaaGreatDoor
namespace Go.Proofs.YtlcoapignfmgcaaGreatDoor
open Go.RowKit
set_option linter.unusedVariables false
def cntD (l : List ND) (s : List ST) : Nat := s.countP fun x => isDir l x.node
theorem cntD_snoc (l : List ND) (s : List ST) (x : ST) : cntD l (s ++ [x]) = cntD l s + (if isDir l x.node = true then 1 else 0) := by
  unfold cntD
  rw [List.countP_append, List.countP_cons, List.countP_nil, Nat.zero_add]
/-- What the visit of checkTree keeps: the count of directories come to. -/
structure JT (B0 pt r : Nat) (L : Option Addr) (n c : Nat) (l : List DV) (s : List ST) (O : Nat → Prop) (V : World) : Prop where
  o : ∀ k, O k ↔ k = r
  rr : Blk V r 3 #[.int .i64 (IntKind.i64.wrap ((1 + cntD (nds l) s : Nat) : Int))]
  f : Blk V pt 24 #[.slice L n c]
  ne : pt ≠ r
  fs : FsR V B0 L n l
  b0 : B0 ≤ r
theorem JT.below {B0 pt r : Nat} {L : Option Addr} {n c : Nat} {l : List DV} {s : List ST} {O : Nat → Prop} {V V' : World} (h : JT B0 pt r L n c l s O V) (hb : Below V.heap.size V V') : JT B0 pt r L n c l s O V' :=
  ⟨h.o, h.rr.below hb h.rr.lt, h.f.below hb h.f.lt, h.ne, h.fs.below (hb.mono (Nat.le_of_lt (Nat.lt_of_le_of_lt h.b0 h.rr.lt))), h.b0⟩
theorem JT.lt {B0 pt r : Nat} {L : Option Addr} {n c : Nat} {l : List DV} {s : List ST} {O : Nat → Prop} {V : World} (h : JT B0 pt r L n c l s O V) : ∀ k, O k → k < V.heap.size := fun k hk => by rw [(h.o k).1 hk]; exact h.rr.lt
theorem JT.step {B0 pt r : Nat} {L : Option Addr} {n c : Nat} {l : List DV} {s s' : List ST} {O : Nat → Prop} {V : World} (J : JT B0 pt r L n c l s O V) (q : Nat) {v : Int} (hv : v = IntKind.i64.wrap ((1 + cntD (nds l) s' : Nat) : Int)) :
    JT B0 pt r L n c l s' O ((V.drewN q).setCell ⟨r, 0, none⟩ (.int .i64 v)) ∧ Kp O O V ((V.drewN q).setCell ⟨r, 0, none⟩ (.int .i64 v)) := by
  have hb : Below B0 V ((V.drewN q).setCell ⟨r, 0, none⟩ (.int .i64 v)) := (bl_drewN (Below.refl B0 V)).setCell (p := ⟨r, 0, none⟩) J.b0 _
  refine ⟨⟨J.o, ?_, (J.f.drewN q).far (p := ⟨r, 0, none⟩) J.ne _, J.ne, J.fs.below hb, J.b0⟩, ⟨hb.os, hb.tape, hb.output, hb.size, fun k hk hn => ⟨?_, hn⟩⟩⟩
  · have := (J.rr.drewN q).set_ 0 (.int .i64 v)
    rw [← hv]
    simpa using this
  · exact Below.heap_setCell (V.drewN q) ⟨r, 0, none⟩ _ k (fun h => hn ((J.o k).2 h))
theorem JT.drawn {B0 pt r : Nat} {L : Option Addr} {n c : Nat} {l : List DV} {s s' : List ST} {O : Nat → Prop} {V : World} (J : JT B0 pt r L n c l s O V) (q : Nat) (hv : cntD (nds l) s' = cntD (nds l) s) :
    JT B0 pt r L n c l s' O (V.drewN q) ∧ Kp O O V (V.drewN q) :=
  ⟨⟨J.o, by rw [hv]; exact J.rr.drewN q, J.f.drewN q, J.ne, J.fs.below (bl_drewN (Below.refl B0 V)), J.b0⟩, ⟨rfl, rfl, rfl, Nat.le_refl _, fun k _ hn => ⟨rfl, hn⟩⟩⟩
theorem wrap_wrap (a : Int) : IntKind.i64.wrap (IntKind.i64.wrap a + 1) = IntKind.i64.wrap (a + 1) := by
  simp only [IntKind.wrap, IntKind.bits, IntKind.signed]
  simp
  omega
set_option maxRecDepth 100000 in
set_option maxHeartbeats 8000000 in
theorem visitT (B0 pt r : Nat) (L : Option Addr) (n c : Nat) (l : List DV) (N : Nat) : Visit (fun _ => True) N n 83 #[.pointer (some ⟨pt, 0, none⟩), .pointer (some ⟨r, 0, none⟩)] (fun _ => true) (JT B0 pt r L n c l) := by
  intro s O V g up x hJ _ _ _ h0 h1 hG hn hC
  obtain ⟨m, hm⟩ : ∃ m : Nat, x.node = (m : Int) := ⟨x.node.toNat, by omega⟩
  have hmn : m < n := by omega
  obtain ⟨a, o, y, hL, hg2, hy, hok, hc⟩ := hJ.fs.at_ hmn
  have HDE : Hid (isDir (nds l) x.node = (y.r.kind == 2)) := hide (by unfold isDir; rw [hm, nds_at hy])
  subst hL
  obtain ⟨xd, xn, xo, xu⟩ := x
  dsimp only at hm hG hC h0 h1 HDE ⊢
  subst hm
  have kf := one_ hJ.f
  have kr := one_ hJ.rr
  have kz := hJ.rr.frozen 0
  have kl := hJ.rr.lt
  have kg := hG.cell 3
  have gl := hG.lt
  have fl := hJ.f.lt
  simp only [List.getElem?_toArray, List.getElem?_cons_zero, List.getElem?_cons_succ] at kg
  have kk := hc.1
  have i1 := fun W => nd_at a o n c m (m : Int) rfl hmn W
  have HJ := hide hJ
  clear hJ hc hok hy hG hn hC
  change Calls Tryz.prog _ #[.pointer (some ⟨g, 0, none⟩), .pointer (some ⟨pt, 0, none⟩), .pointer (some ⟨r, 0, none⟩)] V _
  by_cases hk : y.r.kind = 2
  · rw [hk] at kk HDE
    have HW : Hid (IntKind.i64.wrap (IntKind.i64.wrap ((1 + cntD (nds l) s : Nat) : Int) + 1) = IntKind.i64.wrap ((1 + cntD (nds l) (s ++ [(⟨xd, xn, (m : Int), xu⟩ : ST)]) : Nat) : Int)) := hide (by
      rw [wrap_wrap, cntD_snoc, if_pos (by rw [HDE.out]; rfl)]
      congr 1)
    obtain ⟨v0, hv0⟩ : ∃ v, IntKind.i64.wrap ((1 + cntD (nds l) s : Nat) : Int) = v := ⟨_, rfl⟩
    rw [hv0] at kr HW
    have HW2 : Hid (wrap64 (v0 + 1) = IntKind.i64.wrap ((1 + cntD (nds l) (s ++ [(⟨xd, xn, (m : Int), xu⟩ : ST)]) : Nat) : Int)) := hide (by rw [← Go.PlainAid.i64_is]; exact HW.out)
    have HV0 := hide hv0
    clear hv0
    go_enter Tryz.func83, Tryz.ntmps83
    go_wp2_with fail
    go_quiet (fail)
    go_wp2_with fail
    go_ret
    exact ⟨rfl, O, (JT.step (s' := s ++ [(⟨xd, xn, (m : Int), xu⟩ : ST)]) (v := wrap64 (v0 + 1)) HJ.out _ HW2.out).1, (JT.step (s' := s ++ [(⟨xd, xn, (m : Int), xu⟩ : ST)]) (v := wrap64 (v0 + 1)) HJ.out _ HW2.out).2⟩
  · have hk2 : (y.r.kind == 2) = false := beq_eq_false_iff_ne.2 hk
    have HW : Hid (cntD (nds l) (s ++ [(⟨xd, xn, (m : Int), xu⟩ : ST)]) = cntD (nds l) s) := hide (by
      rw [cntD_snoc, if_neg (by rw [HDE.out, hk2]; simp)]
      rfl)
    go_enter Tryz.func83, Tryz.ntmps83
    go_wp2_with fail
    go_quiet (fail)
    go_wp2_with fail
    go_ret
    exact ⟨rfl, O, (JT.drawn (s' := s ++ [(⟨xd, xn, (m : Int), xu⟩ : ST)]) HJ.out _ HW.out).1, (JT.drawn (s' := s ++ [(⟨xd, xn, (m : Int), xu⟩ : ST)]) HJ.out _ HW.out).2⟩
theorem take_countP {α : Type} (p : α → Bool) (l : List α) (i : Nat) (h : i < l.length) : (l.take (i + 1)).countP p = (l.take i).countP p + (if p l[i] = true then 1 else 0) := by
  rw [List.take_succ_eq_append_getElem h, List.countP_append, List.countP_cons, List.countP_nil, Nat.zero_add]
def namedB (n : ND) : Bool := n.kind == 2 && decide (0 < n.links)
theorem seen_true : ∀ (ws : List ST), seen (fun _ => true) ws = ws
  | [] => rfl
  | x :: t => by rw [seen, if_pos rfl, seen_true t]
set_option maxRecDepth 100000 in
set_option maxHeartbeats 8000000 in
theorem tree_any (L : Option Addr) (n c : Nat) (l : List DV) (w : World) (hF : FsR w w.heap.size L n l) (hfew : ∀ x ∈ l, FewN x) (hr : RefsOk (nds l)) (hD : Deep (nds l) n 0) (hn : 0 < n) (h60 : n ≤ 100) :
    Calls Tryz.prog 69 #[.agg #[.slice L n c]] w fun e w' => e = .returned (.bool (treeB (nds l))) ∧ Below w.heap.size w w' := by
  have hl := hF.len
  have HX : Hid (Blk (w.alloc (.cells #[.slice L n c] 24)) w.heap.size 24 #[.slice L n c]) := hide (Blk.new w _ _)
  have HB : Hid (Below w.heap.size w (w.alloc (.cells #[.slice L n c] 24))) := hide (on_alloc _ _)
  have HWK := hide (fun (V : World) (r : Nat) (J : JT w.heap.size w.heap.size r L n c l [] (fun k => k = r) V) (h0 : ∀ k, k < w.heap.size → ¬ k = r) (hb0 : w.heap.size ≤ V.heap.size) =>
    walk_any (c := c) (enters_of Tryz.func83 (by kernel_rfl) rfl) hr hfew (visitT w.heap.size w.heap.size r L n c l _) (fun s O V V' h hb => h.below hb) (fun s O V h => h.lt) (fun k => k = r) V J.fs h0 hb0 hD hn (Nat.le_refl _) (fun _ _ => trivial) J)
  have HF := hide hF
  have HL := hide hl
  clear hF hfew hr hD hl
  obtain ⟨R, hR⟩ : ∃ R, treeB (nds l) = R := ⟨_, rfl⟩
  rw [hR]
  have HR := hide hR
  clear hR
  go_enter Tryz.func69, Tryz.ntmps69
  have k0 := one_ HX.out
  go_wp2_with fail
  clear k0
  go_loopw [3, 10] (fun u3 u10 wx => ∃ i m : Nat, i ≤ n ∧ m ≤ i ∧ u3 = .int .i64 (m : Int) ∧ u10 = .int .i64 (i : Int) ∧ Hid (m = ((nds l).take i).countP namedB) ∧ Hid (Below w.heap.size w wx) ∧ Hid (Blk wx w.heap.size 24 #[.slice L n c])) (fun _ i _ => n - (intOf i).toNat)
  case atStart => exact ⟨0, 0, Nat.zero_le _, Nat.le_refl _, rfl, rfl, hide rfl, HB, HX⟩
  case round =>
    clear HX HB
    obtain ⟨i, m, hi, hm, rfl, rfl, HM, HB, HX⟩ := hrel
    by_cases hin : i < n
    · have hlt : (i : Int) < (n : Int) := by omega
      obtain ⟨g, o, x, rfl, hg, hx, hok, hc⟩ := HF.out.at_ hin
      obtain ⟨d0, d1, d2, d3, d4, d5⟩ := NdCells.below hc hg HB.out
      have h2 : g < wr.heap.size := Nat.lt_of_lt_of_le hg HB.out.size
      have i1 := fun W => nd_at g o n c i (i : Int) rfl hin W
      have HST : Hid (((nds l).take (i + 1)).countP namedB = m + (if namedB x.r = true then 1 else 0)) := hide (by
        have hli : i < (nds l).length := by rw [nds_length, HL.out]; exact hin
        rw [take_countP _ _ _ hli, ← HM.out]
        have e : (nds l)[i] = x.r := by
          have : (nds l)[i]? = some x.r := by unfold nds; rw [List.getElem?_map, hx]; rfl
          exact (List.getElem?_eq_some_iff.1 this).2
        rw [e])
      have HX2 := hide (HX.out.alloc (.cells #[Value.int .i64 x.r.kind, .int .i64 x.r.mode, .int .i64 x.r.links, .slice x.D x.dn x.dc, .slice x.M x.mn x.mc, .string ⟨x.r.to.toArray⟩] 28))
      have HB2 := hide (HB.out.alloc HB.out.size (.cells #[Value.int .i64 x.r.kind, .int .i64 x.r.mode, .int .i64 x.r.links, .slice x.D x.dn x.dc, .slice x.M x.mn x.mc, .string ⟨x.r.to.toArray⟩] 28))
      have HBX : Hid (Blk (wr.alloc (.cells #[Value.int .i64 x.r.kind, .int .i64 x.r.mode, .int .i64 x.r.links, .slice x.D x.dn x.dc, .slice x.M x.mn x.mc, .string ⟨x.r.to.toArray⟩] 28)) wr.heap.size 28 #[Value.int .i64 x.r.kind, .int .i64 x.r.mode, .int .i64 x.r.links, .slice x.D x.dn x.dc, .slice x.M x.mn x.mc, .string ⟨x.r.to.toArray⟩]) := hide (Blk.new wr _ _)
      clear hx hok hc
      obtain ⟨WC, hWC⟩ : ∃ W, wr.alloc (.cells #[Value.int .i64 x.r.kind, .int .i64 x.r.mode, .int .i64 x.r.links, .slice x.D x.dn x.dc, .slice x.M x.mn x.mc, .string ⟨x.r.to.toArray⟩] 28) = W := ⟨_, rfl⟩
      rw [hWC] at HBX HX2 HB2
      obtain ⟨e0, e1, e2, e3, e4, e5⟩ := six HBX.out
      have e9 := HBX.out.lt
      by_cases c1 : x.r.kind = 2
      · have c1b : (x.r.kind == 2) = true := by rw [c1]; rfl
        by_cases c2 : 0 < x.r.links
        · have HS2 : Hid (m + 1 = ((nds l).take (i + 1)).countP namedB) := hide (by rw [HST.out, if_pos (by simp [namedB, c1, c2])])
          clear c1
          go_wp2_with fail
          go_roundw
          case rel => exact ⟨i + 1, m + 1, by omega, by omega, by go_num, by go_num, HS2, HB2, HX2⟩
          case measure => simp [intOf]; omega
        · have HS2 : Hid (m = ((nds l).take (i + 1)).countP namedB) := hide (by rw [HST.out, if_neg (by simp [namedB, c2])]; rfl)
          clear c1
          go_wp2_with fail
          go_roundw
          case rel => exact ⟨i + 1, m, by omega, by omega, by go_num, by go_num, HS2, HB2, HX2⟩
          case measure => simp [intOf]; omega
      · have c1b : (x.r.kind == 2) = false := beq_eq_false_iff_ne.2 c1
        have HS2 : Hid (m = ((nds l).take (i + 1)).countP namedB) := hide (by rw [HST.out, if_neg (by simp [namedB, c1])]; rfl)
        clear c1
        go_wp2_with fail
        go_roundw
        case rel => exact ⟨i + 1, m, by omega, by omega, by go_num, by go_num, HS2, HB2, HX2⟩
        case measure => simp [intOf]; omega
    · have hlt : ¬ ((i : Int) < (n : Int)) := by omega
      obtain rfl : i = n := by omega
      have HN : Hid (m = named (nds l)) := hide (by rw [HM.out, List.take_of_length_le (by rw [nds_length, HL.out]; omega)]; rfl)
      have k0 := one_ HX.out
      obtain ⟨WC, hWC⟩ : ∃ W, wr.alloc (.cells #[Value.int .i64 1] 3) = W := ⟨_, rfl⟩
      have bC : Below wr.heap.size wr WC := by rw [← hWC]; exact on_alloc _ _
      have kC : Blk WC wr.heap.size 3 #[Value.int .i64 1] := by rw [← hWC]; exact Blk.new wr _ _
      have kX : Blk WC w.heap.size 24 #[.slice L i c] := HX.out.below bC HX.out.lt
      have bW : Below w.heap.size w WC := HB.out.trans (bC.mono HB.out.size)
      have X := hide (HWK.out WC wr.heap.size ⟨fun k => Iff.rfl, kC, kX, fun h => by have := HX.out.lt; omega, HF.out.below bW, HB.out.size⟩ (fun k hk h => by have := HB.out.size; omega) bW.size)
      have HBW := hide bW
      have k1 := one_ kX
      have kl := kC.lt
      clear HWK bC kC kX bW
      go_wp2_with fail
      refine X.out.mono ?_
      rintro e w5 ⟨rfl, O5, J5, K5⟩
      rw [seen_true] at J5
      have kr := one_ J5.rr
      have HB5 : Hid (Below w.heap.size w w5) := hide (HBW.out.trans (K5.below (fun k hk h => by have := HB.out.size; omega) HBW.out.size))
      have HT : Hid (R = (IntKind.i64.wrap ((1 + cntD (nds l) (wk (nds l) i [] 0) : Nat) : Int) == (m : Int))) := hide (by
        rw [← HR.out]
        unfold treeB reached cntD
        rw [nds_length, HL.out, ← HN.out]
        rfl)
      obtain ⟨v0, hv0⟩ : ∃ v, IntKind.i64.wrap ((1 + cntD (nds l) (wk (nds l) i [] 0) : Nat) : Int) = v := ⟨_, rfl⟩
      rw [hv0] at kr HT
      have hT := HT.out
      subst hT
      clear J5 K5 X hv0 HT HR
      go_wp2_with fail
      go_ret
      exact ⟨rfl, HB5.out⟩
end Go.Proofs.YtlcoapignfmgcaaGreatDoor
