/- The walk of the tree, from the root. -/
import Derived.Test.YtnhfpaobocbieaaNdX
namespace Go.Proofs.Ytnhfpaobocbieaa
open Go.RowKit
set_option linter.unusedVariables false
set_option maxRecDepth 100000 in
set_option maxHeartbeats 8000000 in
theorem walk_any {B0 vf N : Nat} {vb : Array Value} {L : Option Addr} {n c : Nat} {l : List DV} {go : ST → Bool} {P : ST → Prop} {J : List ST → (Nat → Prop) → World → Prop}
    (hE : ∀ args w, (callFunc vf args).run Try.prog w = .ok (.enter vf args) w) (hr : RefsOk (nds l)) (hfew : ∀ x ∈ l, FewN x) (hV : Visit P N n vf vb go J)
    (hJa : ∀ s O V V', J s O V → Below V.heap.size V V' → J s O V') (hJl : ∀ s O V, J s O V → ∀ k, O k → k < V.heap.size)
    (O : Nat → Prop) (V : World) (hF : FsR V B0 L n l) (h0 : ∀ k, k < B0 → ¬ O k) (hb0 : B0 ≤ V.heap.size) (hD : Deep (nds l) n 0) (hn : 0 < n) (hN : (wk (nds l) n [] 0).length ≤ N) (hP : ∀ x ∈ wk (nds l) n [] 0, P x) (hJ : J [] O V) :
    Calls Try.prog 32 #[.agg #[.slice L n c], .func (.func vf) #[] vb] V fun e V' => e = .returned (.tuple #[]) ∧ ∃ O', J (seen go (wk (nds l) n [] 0)) O' V' ∧ Kp O O' V V' := by
  have IN := hide (fun (V2 : World) (h2 : Kp O O V V2) (h3 : Below V.heap.size V V2) (hw : WkI B0 V.heap.size (V.heap.size + 1) (V.heap.size + 1 + 1) vf vb L n c l O V2) => into_any hE hr hfew hV hJa hJl n 0 none [] [] O V2 hD hn hw (hJa _ _ _ _ hJ h3) rfl (by simpa using hN) hP .nil)
  have HF := hide hF
  have HO := hide (fun k (hk : O k) => hJl _ _ _ hJ k hk)
  have H0 := hide h0
  have HB0 := hide hb0
  clear hE hr hfew hV hJa hJl hF h0 hb0 hD hn hN hP hJ
  obtain ⟨V1, hV1⟩ : ∃ W, V.alloc (.cells #[.slice L n c] 24) = W := ⟨_, rfl⟩
  have s1 : V1.heap.size = V.heap.size + 1 := by rw [← hV1]; simp
  have b1 : Below V.heap.size V V1 := by rw [← hV1]; exact on_alloc _ _
  have k1 : Blk V1 V.heap.size 24 #[.slice L n c] := by rw [← hV1]; exact Blk.new V _ _
  obtain ⟨V2, hV2⟩ : ∃ W, V1.alloc (.cells #[.func (.func vf) #[] vb] 65) = W := ⟨_, rfl⟩
  have s2 : V2.heap.size = V.heap.size + 1 + 1 := by rw [← hV2]; simp [s1]
  have b2 : Below V1.heap.size V1 V2 := by rw [← hV2]; exact on_alloc _ _
  have k2 : Blk V2 V1.heap.size 65 #[.func (.func vf) #[] vb] := by rw [← hV2]; exact Blk.new V1 _ _
  obtain ⟨V3, hV3⟩ : ∃ W, V2.alloc (.cells #[Value.nilFunc] 81) = W := ⟨_, rfl⟩
  have s3 : V3.heap.size = V.heap.size + 1 + 1 + 1 := by rw [← hV3]; simp [s2]
  have b3 : Below V2.heap.size V2 V3 := by rw [← hV3]; exact on_alloc _ _
  have k3 : Blk V3 (V.heap.size + 1 + 1) 81 #[Value.nilFunc] := by rw [← hV3, ← s2]; exact Blk.new V2 _ _
  have f1 := k3.cell 0
  have f2 := k3.frozen 0
  have f3 := k3.lt
  simp only [List.getElem?_toArray, List.getElem?_cons_zero] at f1
  obtain ⟨V4, hV4⟩ : ∃ W, V3.setCell ⟨V.heap.size + 1 + 1, 0, none⟩ (.func (.func 49) #[] #[.pointer (some ⟨V.heap.size, 0, none⟩), .pointer (some ⟨V.heap.size + 1, 0, none⟩), .pointer (some ⟨V.heap.size + 1 + 1, 0, none⟩)]) = W := ⟨_, rfl⟩
  have k4 : Blk V4 (V.heap.size + 1 + 1) 81 #[.func (.func 49) #[] #[.pointer (some ⟨V.heap.size, 0, none⟩), .pointer (some ⟨V.heap.size + 1, 0, none⟩), .pointer (some ⟨V.heap.size + 1 + 1, 0, none⟩)]] := by rw [← hV4]; exact k3.set_ 0 _
  have b4 : Below (V.heap.size + 1 + 1) V3 V4 := by rw [← hV4]; exact (Below.refl (V.heap.size + 1 + 1) V3).setCell (p := ⟨V.heap.size + 1 + 1, 0, none⟩) (Nat.le_refl (V.heap.size + 1 + 1)) _
  have bA : Below V.heap.size V V4 := (b1.trans ((b2.mono (by omega)).trans ((b3.mono (by omega)).trans (b4.mono (by omega)))))
  have K4 : Kp O O V V4 := Kp.of bA
  have kf : Blk V4 V.heap.size 24 #[.slice L n c] := ((k1.below b2 (by omega)).below b3 (by omega)).below b4 (by omega)
  have kv : Blk V4 (V.heap.size + 1) 65 #[.func (.func vf) #[] vb] := by
    rw [s1] at k2
    exact (k2.below b3 (by omega)).below b4 (by omega)
  have W4 : WkI B0 V.heap.size (V.heap.size + 1) (V.heap.size + 1 + 1) vf vb L n c l O V4 :=
    ⟨HF.out.below (bA.mono HB0.out), kf, kv, k4, fun h => by have := HO.out _ h; omega, fun h => by have := HO.out _ h; omega, fun h => by have := HO.out _ h; omega, H0.out, Nat.le_trans HB0.out bA.size⟩
  have X := hide (IN.out V4 K4 bA W4)
  have HK4 := hide K4
  have g1 := one_ k4
  have g3 := k4.lt
  have hst : (store ⟨V.heap.size + 1 + 1, 0, none⟩ (.func (.func 49) #[] #[.pointer (some ⟨V.heap.size, 0, none⟩), .pointer (some ⟨V.heap.size + 1, 0, none⟩), .pointer (some ⟨V.heap.size + 1 + 1, 0, none⟩)])).run Try.prog V3 = .ok () V4 := by
    rw [run_store _ _ _ _ _ rfl, ← hV4]
    go_simp
  clear IN HF HO H0 HB0 b1 b2 b3 b4 bA K4 kf kv W4 k1 k2 k3 k4
  go_enter Try.func32, Try.ntmps32
  go_wp2_with fail
  refine X.out.mono ?_
  rintro e w5 ⟨rfl, O5, J5, K5⟩
  have HK5 := hide (HK4.out.trans K5)
  have HJ5 := hide J5
  clear J5 K5 X
  go_wp2_with fail
  go_end0
  exact ⟨rfl, O5, by simpa using HJ5.out, HK5.out⟩
end Go.Proofs.Ytnhfpaobocbieaa
