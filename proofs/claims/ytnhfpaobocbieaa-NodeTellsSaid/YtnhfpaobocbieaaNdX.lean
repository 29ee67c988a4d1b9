/- The walk of the tree: the function that goes into a directory. -/
import Derived.Test.YtnhfpaobocbieaaNdW
namespace Go.Proofs.Ytnhfpaobocbieaa
open Go.RowKit
set_option linter.unusedVariables false
def fl (l : List ND) (k : Nat) (us : List (List UInt8)) (d : Int) (names : List NM) (i : Nat) : List ST := (names.take i).flatMap (wkN l k us d)
theorem fl_succ {l : List ND} {k : Nat} {us : List (List UInt8)} {d : Int} {names : List NM} {i : Nat} {y : NM} (h : names[i]? = some y) : fl l k us d names (i + 1) = fl l k us d names i ++ wkN l k us d y := by
  obtain ⟨hi, rfl⟩ := List.getElem?_eq_some_iff.1 h
  unfold fl
  rw [List.take_succ_eq_append_getElem hi, List.flatMap_append]
  simp
theorem fl_split {l : List ND} {k : Nat} {us : List (List UInt8)} {d : Int} {names : List NM} {i : Nat} {y : NM} (h : names[i]? = some y) : names.flatMap (wkN l k us d) = (fl l k us d names i ++ wkN l k us d y) ++ (names.drop (i + 1)).flatMap (wkN l k us d) := by
  rw [← fl_succ h]
  unfold fl
  rw [← List.flatMap_append, List.take_append_drop]
set_option maxRecDepth 100000 in
set_option maxHeartbeats 16000000 in
theorem into_any {B0 pf pv pi vf N : Nat} {vb : Array Value} {L : Option Addr} {n c : Nat} {l : List DV} {go : ST → Bool} {P : ST → Prop} {J : List ST → (Nat → Prop) → World → Prop}
    (hE : ∀ args w, (callFunc vf args).run Try.prog w = .ok (.enter vf args) w) (hr : RefsOk (nds l)) (hfew : ∀ x ∈ l, FewN x) (hV : Visit P N n vf vb go J)
    (hJa : ∀ s O V V', J s O V → Below V.heap.size V V' → J s O V') (hJl : ∀ s O V, J s O V → ∀ k, O k → k < V.heap.size) :
    ∀ (k : Nat) (q : Nat) (up : Option Addr) (us : List (List UInt8)) (s : List ST) (O : Nat → Prop) (V : World), Deep (nds l) k (q : Int) → q < n → WkI B0 pf pv pi vf vb L n c l O V → J s O V → s.all go = true → s.length + (wk (nds l) k us (q : Int)).length ≤ N → (∀ x ∈ wk (nds l) k us (q : Int), P x) → StC V O up us →
      Calls Try.prog 49 #[.pointer up, .int .i64 (q : Int), .pointer (some ⟨pf, 0, none⟩), .pointer (some ⟨pv, 0, none⟩), .pointer (some ⟨pi, 0, none⟩)] V (IntoEnd go J s O V (wk (nds l) k us (q : Int)))
  | 0, q, up, us, s, O, V, hd, _, _, _, _, _, _, _ => absurd hd (by simp [Deep])
  | k + 1, q, up, us, s, O, V, hd, hq, hW, hJ, hs, hlen, hp, hC => by
    have HSG := hide hs
    clear hs
    have IH := hide (into_any (B0 := B0) (pf := pf) (pv := pv) (pi := pi) (L := L) (n := n) (c := c) hE hr hfew hV hJa hJl k)
    obtain ⟨g, o, x, rfl, hg, hx, hok, hc⟩ := hW.fs.at_ hq
    have hxr : ndAt (nds l) (q : Int) = x.r := nds_at hx
    have HD : Hid (∀ y ∈ x.r.names, isDir (nds l) y.node = true → Deep (nds l) k y.node) := hide (by rw [← hxr]; exact hd)
    have HREF : Hid (∀ y ∈ x.r.names, 0 ≤ y.node ∧ y.node < (n : Int)) := hide (fun y hy => by
      have h1 := hr x.r (by unfold nds; exact List.mem_map.2 ⟨x, List.mem_of_getElem? hx, rfl⟩) y hy
      rw [nds_length, hW.fs.len] at h1
      exact h1)
    rw [wk_succ, hxr] at hlen ⊢
    have HLN : Hid (∀ (i : Nat) (y : NM), x.r.names[i]? = some y → s.length + (fl (nds l) k us (q : Int) x.r.names i).length + (wkN (nds l) k us (q : Int) y).length ≤ N) := hide (fun i y hy => by
      have h1 := congrArg List.length (fl_split (l := nds l) (k := k) (us := us) (d := (q : Int)) hy)
      rw [List.length_append, List.length_append] at h1
      omega)
    clear hlen
    have HP : Hid (∀ y ∈ x.r.names, ∀ z ∈ wkN (nds l) k us (q : Int) y, P z) := hide (fun y hy z hz => hp z (by rw [wk_succ, hxr]; exact List.mem_flatMap.2 ⟨y, hy, hz⟩))
    clear hp
    have hmn : x.mn ≤ 100 := by have := (hfew x (List.mem_of_getElem? hx)).n; have := hok.nl; omega
    have HM : Hid (∀ O' V', Kp O O' V V' → Reads V' B0 2 x.M x.mn (ncs x.r.names)) := hide (fun O' V' hk => hok.n.below (hk.below hW.o0 hW.b0))
    have k0 := one_ hW.f
    have c4 := hc.2.2.2.2.1
    have i1 := fun W => nd_at g o n c q (q : Int) rfl hq W
    have HW := hide hW
    have HJ := hide hJ
    have HC := hide hC
    have HNL := hide hok.nl
    have HV := hide hV
    have HJA := hide hJa
    have HJL := hide hJl
    clear hd hW hJ hC hx hok hc hxr hr hfew hV hJa hJl
    go_enter Try.func49, Try.ntmps49
    go_wp2_with fail
    clear k0 c4
    go_loopw [18] (fun u wx => ∃ i : Nat, i ≤ x.mn ∧ u = .int .i64 (i : Int) ∧ Hid ((fl (nds l) k us (q : Int) x.r.names i).all go = true) ∧ Hid (∃ O', J (s ++ fl (nds l) k us (q : Int) x.r.names i) O' wx ∧ Kp O O' V wx)) (fun i _ => x.mn - (intOf i).toNat)
    case atStart => exact ⟨0, Nat.zero_le _, rfl, hide rfl, hide ⟨O, by simpa [fl] using HJ.out, Kp.of (Below.refl _ _)⟩⟩
    case round =>
      clear HJ
      obtain ⟨i, hi, rfl, HG, HO⟩ := hrel
      obtain ⟨O1, HJ1, HK1⟩ := HO.out
      have HJ1 := hide HJ1
      have HK1 := hide HK1
      clear HO
      by_cases hin : i < x.mn
      · have hlt : (i : Int) < (x.mn : Int) := by omega
        obtain ⟨gm, om, y, hM, hgm, hy, n0, n1⟩ := nm_cells (HM.out _ _ HK1.out) hin
        have HY := hide hy
        have HM' := hide hM
        obtain ⟨hy0, hy1⟩ := HREF.out y (List.mem_of_getElem? hy)
        obtain ⟨m, hm⟩ : ∃ m : Nat, y.node = (m : Int) := ⟨y.node.toNat, by omega⟩
        have HMM := hide hm
        have i2 := fun W => nm_at gm om x.mn x.mc i (i : Int) rfl hin W
        rw [hM]
        have HPY := hide (HP.out y (List.mem_of_getElem? hy))
        have HDY := hide (HD.out y (List.mem_of_getElem? hy))
        have W1 := HW.out.kp HK1.out
        have C1 := StC.kp HK1.out HC.out
        obtain ⟨wy, hwy⟩ : ∃ W, wr.alloc (.cells #[Value.string ⟨y.name.toArray⟩, .int .i64 y.node] 54) = W := ⟨_, rfl⟩
        have b1 : Below wr.heap.size wr wy := by rw [← hwy]; exact on_alloc _ _
        have BY : Blk wy wr.heap.size 54 #[Value.string ⟨y.name.toArray⟩, .int .i64 y.node] := by rw [← hwy]; exact Blk.new wr _ _
        obtain ⟨wz, hwz⟩ : ∃ W, wy.alloc (.cells #[Value.pointer up, .int .i64 (q : Int), .string ⟨y.name.toArray⟩, .int .i64 y.node] 64) = W := ⟨_, rfl⟩
        have b2 : Below wy.heap.size wy wz := by rw [← hwz]; exact on_alloc _ _
        have BZ : Blk wz wy.heap.size 64 #[Value.pointer up, .int .i64 (q : Int), .string ⟨y.name.toArray⟩, .int .i64 y.node] := by rw [← hwz]; exact Blk.new wy _ _
        have BY2 : Blk wz wr.heap.size 54 #[Value.string ⟨y.name.toArray⟩, .int .i64 y.node] := BY.below b2 BY.lt
        have K2 : Kp O1 O1 wr wz := (Kp.of b1).trans (Kp.of b2)
        have J2 : J (s ++ fl (nds l) k us (q : Int) x.r.names i) O1 wz := HJA.out _ _ _ _ (HJA.out _ _ _ _ HJ1.out b1) b2
        have W2 := W1.kp K2
        have C2 := StC.kp K2 C1
        have nz : ¬ O1 wy.heap.size := fun h => by have := HJL.out _ _ _ HJ1.out _ h; have := b1.size; omega
        have ny : ¬ O1 wr.heap.size := fun h => by have := HJL.out _ _ _ HJ1.out _ h; omega
        have X1 := hide (HV.out _ _ wz wy.heap.size up ⟨(q : Int), y.name, y.node, us⟩ J2 (by rw [List.all_append, HSG.out, HG.out]; rfl) (by have h1 := HLN.out i y HY.out; have h2 : 0 < (wkN (nds l) k us (q : Int) y).length := (by unfold wkN; exact Nat.succ_pos _); rw [List.length_append]; omega) (HPY.out _ (List.mem_cons_self ..)) hy0 hy1 BZ nz C2)
        have hzl : wy.heap.size < wz.heap.size := BZ.lt
        have hyl : wr.heap.size < wz.heap.size := BY2.lt
        have kv := one_ W2.v
        have kb0 := BY.cell 0
        have kb1 := BY.cell 1
        simp only [List.getElem?_toArray, List.getElem?_cons_zero, List.getElem?_cons_succ] at kb0 kb1
        have HWZ := hide (And.intro W2 (And.intro C2 (And.intro BZ (And.intro BY2 (And.intro K2 (And.intro nz ny))))))
        clear W1 C1 b1 BY b2 BZ BY2 K2 J2 W2 C2 nz ny hy hM HM' hm
        go_wp2_with fail
        refine X1.out.mono ?_
        rintro e w3 ⟨rfl, O2, J3, K3⟩
        obtain ⟨W2, C2, BZ, BY2, K2, nz, ny⟩ := HWZ.out
        have W3 := W2.kp K3
        have KA := (HK1.out.trans K2).trans K3
        have BZ3 := BZ.kp nz K3
        have BY3 := BY2.kp ny K3
        have HSC := hide (StC.cons BZ3 (K3.blk _ BZ.lt nz).2 (StC.kp K3 C2))
        have hmn2 : m < n := by have := HMM.out; omega
        obtain ⟨g2, o2, x2, hL, hg2, hx2, hok2, hc2⟩ := W3.fs.at_ hmn2
        injection hL with hL
        injection hL with e1 e2 e3
        subst e1; subst e2
        have hdirE : isDir (nds l) y.node = (x2.r.kind == 2) := by unfold isDir; rw [HMM.out, nds_at hx2]
        have HDE := hide hdirE
        have i3 := fun W => nd_at g o n c m y.node HMM.out hmn2 W
        have hyl3 : wr.heap.size < w3.heap.size := BY3.lt
        have hzl3 : wy.heap.size < w3.heap.size := BZ3.lt
        have HKF := hide (one_ W3.f)
        have HKI := hide (one_ W3.i)
        have HKY := hide (BY3.cell 1)
        have HKK := hide hc2.1
        have HW3 := hide W3
        have HJ3 := hide J3
        have HKA := hide KA
        clear kv kb0 kb1 n0 n1 HWZ X1 W2 C2 BZ BY2 K2 nz ny W3 KA BZ3 BY3 J3 K3 hok2 hc2 hdirE hx2 hzl hyl
        cases hgx : go ⟨(q : Int), y.name, y.node, us⟩ with
        | false =>
          have HGX := hide hgx
          clear hgx i3
          go_wp2_with fail
          go_ret
          refine IntoEnd.no (fl_split HY.out) (by rw [List.all_append, wkN, List.all_cons, HGX.out]; simp) rfl ?_ HKA.out
          rw [seen_all _ HG.out, wkN, seen, if_neg (by rw [HGX.out]; simp), ← List.append_assoc]
          exact HJ3.out
        | true =>
          have HGX := hide hgx
          have kf := HKF.out
          have ki := HKI.out
          have ky := HKY.out
          have kk := HKK.out
          simp only [List.getElem?_toArray, List.getElem?_cons_zero, List.getElem?_cons_succ] at ky
          clear hgx HKF HKI HKY HKK
          by_cases hk2 : x2.r.kind = 2
          · have HDI : Hid (isDir (nds l) y.node = true) := hide (by rw [HDE.out, hk2]; rfl)
            rw [hk2] at kk
            have XR := hide (IH.out m (some ⟨wy.heap.size, 0, none⟩) (us ++ [y.name]) _ O2 w3 (by have := HDY.out HDI.out; rwa [HMM.out] at this) hmn2 HW3.out HJ3.out (by rw [List.all_append, List.all_append, HSG.out, HG.out, List.all_cons, HGX.out]; rfl) (by have h1 := HLN.out i y HY.out; have h2 : (wkN (nds l) k us (q : Int) y).length = (wk (nds l) k (us ++ [y.name]) y.node).length + 1 := (by unfold wkN; rw [if_pos HDI.out]; rfl); rw [HMM.out] at h2; rw [List.length_append, List.length_append, List.length_singleton]; omega) (by rw [← HMM.out]; exact fun z hz => HPY.out z (by unfold wkN; rw [if_pos HDI.out]; exact List.mem_cons_of_mem _ hz)) HSC.out)
            rw [← HMM.out] at XR
            go_wp2_with fail
            refine XR.out.mono ?_
            rintro e w4 ⟨rfl, O3, J4, K4⟩
            have HJ4 := hide J4
            have HK4 := hide (HKA.out.trans K4)
            clear J4 K4 XR kf ki ky kk
            cases hws : (wk (nds l) k (us ++ [y.name]) y.node).all go with
            | false =>
              have HWS := hide hws
              clear hws
              go_wp2_with fail
              go_ret
              refine IntoEnd.no (fl_split HY.out) (by rw [List.all_append, wkN, List.all_cons, if_pos HDI.out, HWS.out]; simp) rfl ?_ HK4.out
              rw [seen_all _ HG.out, wkN, seen, if_pos HGX.out, if_pos HDI.out, ← List.append_assoc, List.append_cons]
              exact HJ4.out
            | true =>
              have HWS := hide hws
              clear hws
              go_wp2_with fail
              go_roundw
              case rel =>
                refine ⟨i + 1, by omega, by go_num, hide ?_, hide ⟨O3, ?_, HK4.out⟩⟩
                · rw [fl_succ HY.out, List.all_append, HG.out, wkN, List.all_cons, HGX.out, if_pos HDI.out, HWS.out]; rfl
                · rw [fl_succ HY.out, wkN, if_pos HDI.out, ← List.append_assoc, List.append_cons]
                  have h4 := HJ4.out
                  have h5 := seen_all (go := go) [] HWS.out
                  rw [List.append_nil, seen, List.append_nil] at h5
                  rwa [h5] at h4
              case measure => simp [intOf]; omega
          · have hk2b : (x2.r.kind == 2) = false := beq_eq_false_iff_ne.2 hk2
            have HDI : Hid (isDir (nds l) y.node = false) := hide (by rw [HDE.out]; exact hk2b)
            clear hk2
            go_wp2_with fail
            go_roundw
            case rel =>
              refine ⟨i + 1, by omega, by go_num, hide ?_, hide ⟨O2, ?_, HKA.out⟩⟩
              · rw [fl_succ HY.out, List.all_append, HG.out, wkN, List.all_cons, HGX.out, if_neg (by rw [HDI.out]; simp)]; rfl
              · rw [fl_succ HY.out, wkN, if_neg (by rw [HDI.out]; simp), ← List.append_assoc]
                exact HJ3.out
            case measure => simp [intOf]; omega
      · have hlt : ¬ ((i : Int) < (x.mn : Int)) := by omega
        obtain rfl : i = x.mn := by omega
        have HF : Hid (fl (nds l) k us (q : Int) x.r.names x.mn = x.r.names.flatMap (wkN (nds l) k us (q : Int))) := hide (by unfold fl; rw [List.take_of_length_le (by have := HNL.out; omega)])
        go_wp2_with fail
        go_ret
        refine ⟨?_, O1, ?_, HK1.out⟩
        · rw [← HF.out, HG.out]; rfl
        · have h5 := seen_all (go := go) [] HG.out
          rw [List.append_nil, seen, List.append_nil] at h5
          rw [← HF.out, h5]
          exact HJ1.out
end Go.Proofs.Ytnhfpaobocbieaa
