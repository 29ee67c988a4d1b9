/- The visit of node.All. -/
import Derived.Test.YtnhfpaobocbieaaNdVa
namespace Go.Proofs.Ytnhfpaobocbieaa
open Go.RowKit
set_option linter.unusedVariables false
/-- What the visit of All keeps: the row of paths. -/
structure JA (B ro : Nat) (s : List ST) (O : Nat → Prop) (V : World) : Prop where
  row : ∃ A c, Blk V ro 32 #[.slice A (s.length + 1) c] ∧ Ow B V A (s.length + 1) c ([47] :: s.map pathP) ∧ ∀ k, O k ↔ k = ro ∨ (Value.slice A (s.length + 1) c).ownBlock = some k
  b : B ≤ V.heap.size
theorem JA.below {B ro : Nat} {s : List ST} {O : Nat → Prop} {V V' : World} (h : JA B ro s O V) (hb : Below V.heap.size V V') : JA B ro s O V' := by
  obtain ⟨⟨A, c, h1, h2, h3⟩, h4⟩ := h
  exact ⟨⟨A, c, h1.below hb h1.lt, h2.below hb, h3⟩, Nat.le_trans h4 hb.size⟩
theorem JA.lt {B ro : Nat} {s : List ST} {O : Nat → Prop} {V : World} (h : JA B ro s O V) : ∀ k, O k → k < V.heap.size := fun k hk => by
  obtain ⟨⟨A, c, h1, h2, h3⟩, h4⟩ := h
  rcases (h3 k).1 hk with rfl | hk
  · exact h1.lt
  · exact (World.ownsRow.lt h2 k hk).2
set_option maxRecDepth 100000 in
set_option maxHeartbeats 8000000 in
theorem visitA (B ro : Nat) (n : Nat) : Visit SmallS 100000 n 42 #[.pointer (some ⟨ro, 0, none⟩)] (fun _ => true) (JA B ro) := by
  intro s O V g up x hJ hs hlen hP _ _ hG hn hC
  have hS : StC V O (some ⟨g, 0, none⟩) (x.up ++ [x.name]) := .cons hG hn hC
  have XP := hide (fun V' (hV : Below V.heap.size V V') => path_any O (some ⟨g, 0, none⟩) (x.up ++ [x.name]) V' (StC.kp (Kp.of hV) hS) hP.1 hP.2)
  obtain ⟨⟨A, c, h1, h2, h3⟩, h4⟩ := hJ
  obtain ⟨m, hm⟩ : ∃ m, s.length + 1 = m := ⟨_, rfl⟩
  rw [hm] at h1 h2 h3
  have HM := hide hm
  obtain ⟨i0, hi, hz0, hz1, hz2⟩ := info_parts infoStr
  have HB1 := hide h1
  have HO := hide h2
  have HOK := hide h3
  have HMAP : Hid ([47] :: (s ++ [x]).map pathP = ([47] :: s.map pathP) ++ [pathP x]) := hide (by simp)
  obtain ⟨T, hT⟩ : ∃ T, pathP x = T := ⟨_, rfl⟩
  obtain ⟨ks, hks⟩ : ∃ ks, ([47] :: s.map pathP) = ks := ⟨_, rfl⟩
  have hT2 : (47 :: Lib.join (x.up ++ [x.name]) [47] : List UInt8) = T := hT
  rw [hT2] at XP
  rw [hT, hks] at HMAP
  rw [hks] at HO
  have k0 := one_ h1
  have kl := h1.lt
  have hml : m ≤ 100000 := by omega
  have HEND : Hid (∀ (A2 : Option Addr) (c2 : Nat) (V2 : World) (O' : Nat → Prop), Blk V2 ro 32 #[.slice A2 (m + 1) c2] → Ow B V2 A2 (m + 1) c2 (ks ++ [T]) → (∀ k, O' k ↔ k = ro ∨ (Value.slice A2 (m + 1) c2).ownBlock = some k) → B ≤ V2.heap.size → JA B ro (s ++ [x]) O' V2) := hide (fun A2 c2 V2 O' h1 h2 h3 h4 => by
    have e : (s ++ [x]).length + 1 = m + 1 := by rw [List.length_append, List.length_singleton, HM.out]
    exact ⟨⟨A2, c2, by rw [e]; exact h1, by rw [e, HMAP.out]; exact h2, by rw [e]; exact h3⟩, h4⟩)
  change Calls Try.prog _ #[.pointer (some ⟨g, 0, none⟩), .pointer (some ⟨ro, 0, none⟩)] V _
  clear hs hlen hP hG hn hC hS h1 h2 h3 hm hT hks hT2 HMAP HM
  go_enter Try.func42, Try.ntmps42
  go_wp2_with fail
  refine wp_region_K (fun V' => V'.cell? ⟨ro, 0, none⟩ = some (.slice A m c)) [4, 5] rfl k0 (fun hHeld => ?_)
  refine wpAnyK_take (i := 0) (v := ?_) rfl rfl (by kernel_rfl) (fun _ _ _ h => h) (Or.inl ⟨by rfl, ?_⟩) (by assumption) ?_
  rotate_left
  · (intro V hV; (try dsimp only at hV); go_simp; with_reducible rfl)
  try simp only [Act.put, List.setIfInBounds_toArray, List.set_cons_zero, List.set_cons_succ]
  refine wpAnyK_takeF (i := 1) (v := ?_) rfl rfl (by kernel_rfl) (fun _ _ _ h => h) (Or.inl ⟨by rfl, ?_⟩) ?_
  rotate_left
  · (intro V hV; go_simp; with_reducible rfl)
  try simp only [Act.put, List.setIfInBounds_toArray, List.set_cons_zero, List.set_cons_succ]
  refine wpAnyK_step (i := 2) (by kernel_rfl) rfl rfl (fun K hK => ?_)
  go_simp
  refine (XP.out V.drew (bl_drewN (n := 1) (Below.refl _ _))).mono ?_
  rintro e w3 ⟨rfl, hb⟩
  have hb3 : Below V.heap.size V w3 := ⟨hb.os, hb.tape, hb.output, hb.size, hb.block⟩
  have b3 := HB1.out.below hb3 HB1.out.lt
  refine hK.out _ _ (fun _ _ => one_ b3) ?_
  have O3 := HO.out.below hb3
  have HB3 := hide hb3
  clear hK K hHeld hb XP k0 kl
  simp only [List.setIfInBounds_toArray]
  have k3 := b3.lt
  have hr1 := one_str w3 T
  have hO1 := O3.alloc (.cells #[.string ⟨T.toArray⟩] 9)
  have hb4 := b3.alloc (.cells #[.string ⟨T.toArray⟩] 9)
  have hB3 : B ≤ w3.heap.size := Nat.le_trans h4 hb3.size
  refine wpAnyK_step (i := 3) (by kernel_rfl) rfl rfl (fun K hK => ?_)
  go_simp
  refine hK.out _ _ (fun h _ => one_ hb4) ?_
  clear hK K
  simp only [List.setIfInBounds_toArray]
  obtain ⟨w4, hw4⟩ : ∃ W, w3.alloc (.cells #[.string ⟨T.toArray⟩] 9) = W := ⟨_, rfl⟩
  have s4 : w4.heap.size = w3.heap.size + 1 := by rw [← hw4]; simp
  have B34 : Below w3.heap.size w3 w4 := by rw [← hw4]; exact on_alloc _ _
  have HS4 := hide s4
  have HB34 := hide B34
  rw [hw4] at hr1 hO1 hb4
  rw [hw4]
  clear hw4 s4 B34
  refine wpAnyK_step (i := 4) (by kernel_rfl) rfl rfl (fun K hK => ?_)
  refine step_append_any _ rfl (.tmp 4) (.tmp 7) 32 rfl B 9 i0 _ 1 16 Try.underlying32 hi hz0 hz1 hz2 rfl (by omega) (.slice A m c) m (svs ks) rfl hO1 (w3.heap.size + 1) (some ⟨w3.heap.size, 0, none⟩) 1 1 (svs [T]) rfl hr1 (svs_one _) (by unfold maxLen; omega) (by omega) (by have := HB34.out.size; omega) ?_
  intro v1 w6 hown1 hg1 hat1
  refine hK.out _ _ (fun _ h => absurd (by simp) h) ?_
  clear hK K
  obtain ⟨A2, c2, rfl⟩ := own_slice hown1
  have O6 : Ow B w6 A2 (m + 1) c2 (ks ++ [T]) := by unfold Ow; rw [svs_append]; exact hown1
  have hne : (Value.slice A m c).ownBlock ≠ some ro := own_blk_ne hO1 hb4 (by decide)
  have b6 := hb4.grown hg1 (fun h => hne h.symm)
  have hne2 : (Value.slice A2 (m + 1) c2).ownBlock ≠ some ro := own_blk_ne O6 b6 (by decide)
  obtain ⟨w7, hw7⟩ : ∃ W, w6.setCell ⟨ro, 0, none⟩ (.slice A2 (m + 1) c2) = W := ⟨_, rfl⟩
  have b7 : Blk w7 ro 32 #[.slice A2 (m + 1) c2] := by rw [← hw7]; exact b6.set_ 0 _
  have O7 : Ow B w7 A2 (m + 1) c2 (ks ++ [T]) := by rw [← hw7]; exact own_set_blk O6 (p := ⟨ro, 0, none⟩) b6 (by decide) _
  have HFIN : Hid (∃ O', JA B ro (s ++ [x]) O' w7 ∧ Kp O O' V w7) := hide (by
    refine ⟨fun k => k = ro ∨ (Value.slice A2 (m + 1) c2).ownBlock = some k, HEND.out A2 c2 w7 _ b7 O7 (fun k => Iff.rfl) (by rw [← hw7]; have := hg1.size; have := HB34.out.size; simp; omega), ?_⟩
    refine ⟨?_, ?_, ?_, ?_, fun k hk hn => ⟨?_, ?_⟩⟩
    · rw [← hw7]; exact hg1.os.trans (HB34.out.os.trans HB3.out.os)
    · rw [← hw7]; exact hg1.tape.trans (HB34.out.tape.trans HB3.out.tape)
    · rw [← hw7]; exact hg1.output.trans (HB34.out.output.trans HB3.out.output)
    · rw [← hw7]; have h1 := hg1.size; have h2 := HB34.out.size; have h3 := HB3.out.size; simp; omega
    · have hkr : k ≠ ro := fun h => hn ((HOK.out k).2 (.inl h))
      have hka : some k ≠ (Value.slice A m c).ownBlock := fun h => hn ((HOK.out k).2 (.inr h.symm))
      have h2 := HB34.out.size
      have h3 := HB3.out.size
      rw [← hw7, Below.heap_setCell _ _ _ _ hkr, hg1.block k (by omega) hka, HB34.out.block k (by omega), HB3.out.block k hk]
    · rintro (h | h)
      · exact hn ((HOK.out k).2 (.inl h))
      · rcases hat1 with h5 | h5
        · rw [h5] at h
          exact hn ((HOK.out k).2 (.inr h))
        · rw [h5] at h
          injection h with h
          have h2 := HB34.out.size
          have h3 := HB3.out.size
          omega)
  have f0 := one_ b6
  have f1 := b6.frozen 0
  have f2 := b6.lt
  clear b7 O7 O6 b6 hne hne2 hown1 hg1 hat1 hO1 hb4 hr1 b3 O3 HEND HOK HB1 HO HB3 HB34 HS4
  simp only [Act.put, List.setIfInBounds_toArray, List.set_cons_zero, List.set_cons_succ]
  refine wpAnyK_step (i := 5) (by kernel_rfl) rfl rfl (fun K hK => ?_)
  go_simp
  refine hK.out _ _ (fun _ h => absurd (by simp) h) ?_
  clear hK K
  simp only [List.setIfInBounds_toArray]
  refine wpAnyK_done (by kernel_rfl) ?_ _
  (try simp only [Exit.then])
  go_wp2_with fail
  go_ret
  exact ⟨rfl, HFIN.out⟩
end Go.Proofs.Ytnhfpaobocbieaa
