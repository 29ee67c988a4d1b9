/- node.Where. -/
import Derived.Test.YtnhfpaobocbieaaNdU
namespace Go.Proofs.Ytnhfpaobocbieaa
open Go.RowKit
set_option linter.unusedVariables false
theorem fnd_seen (m : Int) : ∀ (s : List ST), fndN m (seen (goN m) s) = fndN m s
  | [] => rfl
  | x :: t => by
    have ih := fnd_seen m t
    unfold fndN at ih ⊢
    rw [seen, List.find?_cons, List.find?_cons]
    by_cases hx : x.node = m
    · simp [hx]
    · have h2 : (x.node == m) = false := beq_eq_false_iff_ne.2 hx
      rw [h2]
      dsimp only
      rw [if_pos (by simp [goN, hx]), ih]
def whereP (l : List ND) (m : Int) : List UInt8 × Bool :=
  if checkB l = false then ([], false) else if m = 0 then ([47], true) else (wText (fndN m (wk l l.length [] 0)), (fndN m (wk l l.length [] 0)).isSome)
/-- What a file system that may be says of its walk. -/
theorem checkB_facts {l : List ND} (h : checkB l = true) : 1 ≤ l.length ∧ l.length ≤ 256 ∧ (∀ n ∈ l, nodeB n l.length = true) ∧ linksB l = true ∧ treeB l = true ∧ RefsOk l ∧ Deep l l.length 0 := by
  unfold checkB at h
  simp only [Bool.and_eq_true, decide_eq_true_eq] at h
  obtain ⟨⟨⟨⟨h1, h2⟩, h3⟩, h4⟩, h5⟩ := h
  have h3' := fun n hn => List.all_eq_true.1 h3 n hn
  exact ⟨h1, h2, h3', h4, h5, refs_of h3', deep_of_links (refs_of h3') h1 h4⟩
set_option maxRecDepth 100000 in
set_option maxHeartbeats 8000000 in
theorem where_any (L : Option Addr) (n c : Nat) (l : List DV) (m : Int) (w : World) (hF : FsR w w.heap.size L n l) (hB : FewB l) :
    Calls Try.prog 14 #[.agg #[.slice L n c], .int .i64 m] w fun e w' => e = .returned (.tuple #[.string ⟨(whereP (nds l) m).1.toArray⟩, .bool (whereP (nds l) m).2]) ∧ Below w.heap.size w w' := by
  have hl := hF.len
  have hln : (nds l).length = n := by rw [nds_length, hl]
  obtain ⟨W1, hW1⟩ : ∃ W, w.alloc (.cells #[.slice L n c] 24) = W := ⟨_, rfl⟩
  have b1 : Below w.heap.size w W1 := by rw [← hW1]; exact on_alloc _ _
  have k1 : Blk W1 w.heap.size 24 #[.slice L n c] := by rw [← hW1]; exact Blk.new w _ _
  have s1 : W1.heap.size = w.heap.size + 1 := by rw [← hW1]; simp
  obtain ⟨W2, hW2⟩ : ∃ W, W1.alloc (.cells #[.int .i64 m] 3) = W := ⟨_, rfl⟩
  have b2 : Below W1.heap.size W1 W2 := by rw [← hW2]; exact on_alloc _ _
  have k2 : Blk W2 (w.heap.size + 1) 3 #[.int .i64 m] := by rw [← hW2, ← s1]; exact Blk.new W1 _ _
  have k1' : Blk W2 w.heap.size 24 #[.slice L n c] := k1.below b2 (by omega)
  have bA : Below w.heap.size w W2 := b1.trans (b2.mono (by omega))
  have XC := hide (check_any L n c l W2 ((hF.below bA).more bA.size) hB)
  have HWK := hide (fun (hc : checkB (nds l) = true) (V : World) (rn a b : Nat) (hV : Below w.heap.size w V) (J : JW rn a b m [] (fun k => k = a ∨ k = b) V) (ha : w.heap.size ≤ a) (hb : w.heap.size ≤ b) =>
    walk_any (c := c) (L := L) (n := n) (l := l) (B0 := w.heap.size) (enters_of Try.func35 (by kernel_rfl) rfl) (checkB_facts hc).2.2.2.2.2.1 hB.each (visitW rn a b m n _) (fun s O V V' h hb => h.below hb) (fun s O V h => h.lt) (fun k => k = a ∨ k = b) V (hF.below hV) (fun k hk h => by omega) hV.size (by have h := (checkB_facts hc).2.2.2.2.2.2; rwa [hln] at h) (by have h := (checkB_facts hc).1; omega) (Nat.le_refl _) (fun x hx => small_wk hB (by have := hB.n; omega) x hx) J)
  have HBA := hide bA
  have HK1 := hide k1'
  have HK2 := hide k2
  obtain ⟨P, hP⟩ : ∃ P, whereP (nds l) m = P := ⟨_, rfl⟩
  rw [hP]
  have HP := hide hP
  have HLN := hide hln
  have k0 := one_ k1'
  have z0 := one_ k2
  have z9 := k2.lt
  have HS1 := s1
  clear hF hB hl hln hP b1 k1 b2 k2 k1' bA
  go_enter Try.func14, Try.ntmps14
  go_wp2_with fail
  refine XC.out.mono ?_
  rintro e w3 ⟨rfl, hb3⟩
  have s2 : W2.heap.size = w.heap.size + 2 := by rw [← hW2]; simp [HS1]
  have HB3 := hide (HBA.out.trans (hb3.mono HBA.out.size))
  have HK1 := hide (HK1.out.below hb3 HK1.out.lt)
  have HK2 := hide (HK2.out.below hb3 HK2.out.lt)
  clear hb3 XC k0 z0 z9
  have k0 := one_ HK1.out
  have z0 := one_ HK2.out
  have z9 := HK2.out.lt
  clear hW1 hW2 s1 s2 HS1
  cases hck : checkB (nds l) with
  | false =>
    have hPe : P = ([], false) := by rw [← HP.out]; unfold whereP; rw [if_pos hck]
    subst hPe
    clear hck
    go_wp2_with fail
    refine bodyPost_ret (v := .tuple #[.string ⟨#[]⟩, .bool false]) (by simp only [results, Try.results14]; go_simp) rfl ⟨rfl, HB3.out⟩
  | true =>
    have HCK := hide hck
    clear hck
    by_cases hm : m = 0
    · have hPe : P = ([47], true) := by rw [← HP.out]; unfold whereP; rw [if_neg (by rw [HCK.out]; simp), if_pos hm]
      subst hPe
      subst hm
      go_wp2_with fail
      refine bodyPost_ret (v := .tuple #[.string ⟨#[47]⟩, .bool true]) (by simp only [results, Try.results14]; go_simp) rfl ⟨rfl, HB3.out⟩
    · have hPe : P = (wText (fndN m (wk (nds l) n [] 0)), (fndN m (wk (nds l) n [] 0)).isSome) := by rw [← HP.out]; unfold whereP; rw [if_neg (by rw [HCK.out]; simp), if_neg hm, HLN.out]
      have HPE := hide hPe
      have hm2 : (m == 0) = false := beq_eq_false_iff_ne.2 hm
      have z8 := HK1.out.lt
      go_wp2_with fail
      obtain ⟨W4, hW4⟩ : ∃ W, w3.alloc (.cells #[.string ⟨#[]⟩] 9) = W := ⟨_, rfl⟩
      have b4 : Below w3.heap.size w3 W4 := by rw [← hW4]; exact on_alloc _ _
      have k4 : Blk W4 w3.heap.size 9 #[.string ⟨#[]⟩] := by rw [← hW4]; exact Blk.new w3 _ _
      have s4 : W4.heap.size = w3.heap.size + 1 := by rw [← hW4]; simp
      obtain ⟨W5, hW5⟩ : ∃ W, W4.alloc (.cells #[.bool false] 4) = W := ⟨_, rfl⟩
      have b5 : Below W4.heap.size W4 W5 := by rw [← hW5]; exact on_alloc _ _
      have k5 : Blk W5 (w3.heap.size + 1) 4 #[.bool false] := by rw [← hW5, ← s4]; exact Blk.new W4 _ _
      have k4' : Blk W5 w3.heap.size 9 #[.string ⟨#[]⟩] := k4.below b5 (by omega)
      have bB : Below w3.heap.size w3 W5 := b4.trans (b5.mono (by omega))
      have HN5 := hide (HK2.out.below bB HK2.out.lt)
      have HF5 := hide (HK1.out.below bB HK1.out.lt)
      have HB5 := hide (HB3.out.trans (bB.mono HB3.out.size))
      have hsz := HB3.out.size
      have hlt2 := HK2.out.lt
      have X := hide (HWK.out HCK.out W5 (w.heap.size + 1) w3.heap.size (w3.heap.size + 1) HB5.out ⟨fun k => Iff.rfl, HN5.out, k4', k5, by omega, by omega, by omega⟩ hsz (by omega))
      have z5 := k5.lt
      have z4 := k4'.lt
      clear HWK b4 k4 b5 k5 k4' bB hm HP hPe
      rw [hW4, hW5]
      with_reducible refine X.out.mono ?_
      rintro e w6 ⟨rfl, O6, J6, K6⟩
      have HB6 : Hid (Below w.heap.size w w6) := hide (HB5.out.trans (K6.below (fun k hk h => by omega) HB5.out.size))
      have r1 := one_ J6.w
      have r2 := one_ J6.f
      rw [fnd_seen] at r1 r2
      obtain ⟨T, hT⟩ : ∃ T, wText (fndN m (wk (nds l) n [] 0)) = T := ⟨_, rfl⟩
      obtain ⟨b, hb⟩ : ∃ b, (fndN m (wk (nds l) n [] 0)).isSome = b := ⟨_, rfl⟩
      rw [hT] at r1
      rw [hb] at r2
      have hPe := HPE.out
      rw [hT, hb] at hPe
      subst hPe
      clear J6 K6 X hT hb HPE k0 z0 z9 hW4 hW5 s4 z5 z4
      go_wp2_with fail
      go_quiet (fail)
      go_wp2_with fail
      refine bodyPost_ret (v := .tuple #[.string ⟨T.toArray⟩, .bool b]) (by simp only [results, Try.results14]; go_simp) rfl ⟨rfl, bl_drewN HB6.out⟩
end Go.Proofs.Ytnhfpaobocbieaa
