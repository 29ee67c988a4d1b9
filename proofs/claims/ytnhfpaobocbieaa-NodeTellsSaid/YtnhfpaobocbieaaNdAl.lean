/- node.All and node.Parent. -/
import Derived.Test.YtnhfpaobocbieaaNdT
namespace Go.Proofs.Ytnhfpaobocbieaa
open Go.RowKit
set_option linter.unusedVariables false
theorem one_of {l : List ND} (h : checkB l = true) : One l := by
  obtain ⟨h1, h2, h3, hl, h5, hr, h7⟩ := checkB_facts h
  have hall : ∀ j, j < l.length → linkB l j = true := fun j hj => List.all_eq_true.1 hl j (List.mem_range.2 hj)
  have h0 : cnt l 0 = 0 := by
    have := hall 0 (by omega)
    unfold linkB at this
    rw [if_pos rfl] at this
    simp only [Bool.and_eq_true, decide_eq_true_eq] at this
    exact this.2
  refine ⟨hr, h0, fun i hd => ?_⟩
  by_cases hb : i < 0 ∨ (l.length : Int) ≤ i
  · rw [cnt_out hr hb]; omega
  · obtain ⟨m, rfl⟩ : ∃ m : Nat, i = (m : Int) := ⟨i.toNat, by omega⟩
    have hm := hall m (by omega)
    unfold linkB at hm
    by_cases hz : m = 0
    · subst hz
      have : cnt l ((0 : Nat) : Int) = 0 := h0
      omega
    · rw [if_neg hz] at hm
      have hk : (ndAt l (m : Int)).kind = 2 := by unfold isDir at hd; simpa using hd
      simp only [Bool.and_eq_true, decide_eq_true_eq, Bool.not_eq_true', Bool.and_eq_false_iff, Bool.or_eq_false_iff, decide_eq_false_iff_not] at hm
      obtain ⟨h1, h2⟩ := hm
      rcases h2 with h2 | h2
      · exact absurd hk h2
      · have := h2.1
        omega
theorem names_few {l : List DV} (hB : FewB l) : (allNames (nds l)).length ≤ 100000 := by
  rw [allNames_length]
  have h1 : ∀ (t : List DV), (∀ x ∈ t, FewN x) → ((nds t).map fun n => n.names.length).sum ≤ t.length * 100 := by
    intro t
    induction t with
    | nil => intro _; exact Nat.le_refl _
    | cons x t ih =>
      intro h
      have h2 := ih (fun y hy => h y (List.mem_cons_of_mem _ hy))
      have h3 := (h x (List.mem_cons_self ..)).n
      unfold nds at h2 ⊢
      simp only [List.map_cons, List.sum_cons, List.length_cons]
      omega
  have h2 := h1 l hB.each
  have h3 := hB.n
  omega
theorem wk_bound {l : List DV} (hB : FewB l) (h : checkB (nds l) = true) : (wk (nds l) (nds l).length [] 0).length ≤ 100000 := by
  obtain ⟨h1, h2, h3, hl, h5, hr, h7⟩ := checkB_facts h
  exact Nat.le_trans (wk_few (one_of h) (namesOk_of h3) (by omega) h7) (names_few hB)
def allP (l : List ND) : List (List UInt8) := if checkB l = false then [] else [47] :: (wk l l.length [] 0).map pathP
def AllEnd (l : List ND) (w : World) (e : Ending) (w' : World) : Prop := ∃ A m c, e = .returned (.slice A m c) ∧ Ow w.heap.size w' A m c (allP l) ∧ Below w.heap.size w w'
set_option maxRecDepth 100000 in
set_option maxHeartbeats 8000000 in
theorem all_any (L : Option Addr) (n c : Nat) (l : List DV) (w : World) (hF : FsR w w.heap.size L n l) (hB : FewB l) :
    Calls Try.prog 19 #[.agg #[.slice L n c]] w (AllEnd (nds l) w) := by
  have hl := hF.len
  have hln : (nds l).length = n := by rw [nds_length, hl]
  obtain ⟨W1, hW1⟩ : ∃ W, w.alloc (.cells #[.slice L n c] 24) = W := ⟨_, rfl⟩
  have b1 : Below w.heap.size w W1 := by rw [← hW1]; exact on_alloc _ _
  have k1 : Blk W1 w.heap.size 24 #[.slice L n c] := by rw [← hW1]; exact Blk.new w _ _
  have XC := hide (check_any L n c l W1 ((hF.below b1).more b1.size) hB)
  have HWK := hide (fun (hc : checkB (nds l) = true) (V : World) (ro : Nat) (O : Nat → Prop) (hV : Below w.heap.size w V) (J : JA w.heap.size ro [] O V) (hO : ∀ k, k < w.heap.size → ¬ O k) =>
    walk_any (c := c) (L := L) (n := n) (l := l) (B0 := w.heap.size) (enters_of Try.func42 (by kernel_rfl) rfl) (checkB_facts hc).2.2.2.2.2.1 hB.each (visitA w.heap.size ro n) (fun s O V V' h hb => h.below hb) (fun s O V h => h.lt) O V (hF.below hV) hO hV.size (by have h := (checkB_facts hc).2.2.2.2.2.2; rwa [hln] at h) (by have h := (checkB_facts hc).1; omega) (by have := wk_bound hB hc; rwa [hln] at this) (fun x hx => small_wk hB (by have := hB.n; omega) x hx) J)
  have HBA := hide b1
  have HK1 := hide k1
  obtain ⟨P, hP⟩ : ∃ P, allP (nds l) = P := ⟨_, rfl⟩
  have HP := hide hP
  have HLN := hide hln
  have HEND : Hid (∀ (A : Option Addr) (m c : Nat) (w' : World), Ow w.heap.size w' A m c P → Below w.heap.size w w' → AllEnd (nds l) w (.returned (.slice A m c)) w') := hide (fun A m c w' h1 h2 => ⟨A, m, c, rfl, by rw [hP]; exact h1, h2⟩)
  have k0 := one_ k1
  clear hF hB hl hln hP b1 k1
  go_enter Try.func19, Try.ntmps19
  go_wp2_with fail
  refine XC.out.mono ?_
  rintro e w3 ⟨rfl, hb3⟩
  have HB3 := hide (HBA.out.trans (hb3.mono HBA.out.size))
  have HK1 := hide (HK1.out.below hb3 HK1.out.lt)
  clear hb3 XC k0
  have k0 := one_ HK1.out
  have z8 := HK1.out.lt
  clear hW1
  cases hck : checkB (nds l) with
  | false =>
    have hPe : P = [] := by rw [← HP.out]; unfold allP; rw [if_pos hck]
    subst hPe
    clear hck
    go_wp2_with fail
    go_ret
    exact HEND.out _ _ _ _ (Ow.none_ _ _) HB3.out
  | true =>
    have HCK := hide hck
    clear hck
    have HPE : Hid (P = [47] :: (wk (nds l) n [] 0).map pathP) := hide (by rw [← HP.out]; unfold allP; rw [if_neg (by rw [HCK.out]; simp), HLN.out])
    go_wp2_with fail
    obtain ⟨W4, hW4⟩ : ∃ W, w3.alloc (.cells #[.string ⟨#[47]⟩] 9) = W := ⟨_, rfl⟩
    have b4 : Below w3.heap.size w3 W4 := by rw [← hW4]; exact on_alloc _ _
    have k4 : Blk W4 w3.heap.size 9 #[.string ⟨#[47]⟩] := by rw [← hW4]; exact Blk.new w3 _ _
    have s4 : W4.heap.size = w3.heap.size + 1 := by rw [← hW4]; simp
    obtain ⟨W5, hW5⟩ : ∃ W, W4.alloc (.cells #[.slice (some ⟨w3.heap.size, 0, none⟩) 1 1] 32) = W := ⟨_, rfl⟩
    have b5 : Below W4.heap.size W4 W5 := by rw [← hW5]; exact on_alloc _ _
    have k5 : Blk W5 (w3.heap.size + 1) 32 #[.slice (some ⟨w3.heap.size, 0, none⟩) 1 1] := by rw [← hW5, ← s4]; exact Blk.new W4 _ _
    have k4' : Blk W5 w3.heap.size 9 #[.string ⟨#[47]⟩] := k4.below b5 (by omega)
    have bB : Below w3.heap.size w3 W5 := b4.trans (b5.mono (by omega))
    have HB5 := hide (HB3.out.trans (bB.mono HB3.out.size))
    have hsz := HB3.out.size
    have O5 : Ow w.heap.size W5 (some ⟨w3.heap.size, 0, none⟩) 1 1 [[47]] := k4'.own hsz (by unfold maxLen; omega) rfl
    have X := hide (HWK.out HCK.out W5 (w3.heap.size + 1) (fun k => k = w3.heap.size + 1 ∨ (Value.slice (some ⟨w3.heap.size, 0, none⟩) 1 1).ownBlock = some k) HB5.out ⟨⟨_, _, k5, O5, fun k => Iff.rfl⟩, HB5.out.size⟩ (fun k hk => by
      rintro (h | h)
      · omega
      · have := (World.ownsRow.lt O5 k h).1
        omega))
    clear HWK b4 k4 b5 k5 k4' bB HP O5
    rw [hW4, hW5]
    with_reducible refine X.out.mono ?_
    rintro e w6 ⟨rfl, O6, J6, K6⟩
    rw [seen_true] at J6
    obtain ⟨⟨A, cc, r1, r2, r3⟩, -⟩ := J6
    have HB6 : Hid (Below w.heap.size w w6) := hide (HB5.out.trans (K6.below (fun k hk => by
      rintro (h | h)
      · omega
      · simp [Value.ownBlock] at h
        omega) HB5.out.size))
    have rr := one_ r1
    obtain ⟨q, hq⟩ : ∃ q, (wk (nds l) n [] 0).length + 1 = q := ⟨_, rfl⟩
    rw [hq] at rr r2
    rw [← HPE.out] at r2
    have HR := hide r2
    clear X K6 r1 r2 r3 hq HPE k0 hW4 hW5 s4
    go_wp2_with fail
    go_ret
    exact HEND.out _ _ _ _ HR.out HB6.out
def parentP (l : List ND) (m : Int) : Int × List UInt8 × Bool :=
  if checkB l = false then (0, [], false) else (pDir (fndN m (wk l l.length [] 0)), pName (fndN m (wk l l.length [] 0)), (fndN m (wk l l.length [] 0)).isSome)
set_option maxRecDepth 100000 in
set_option maxHeartbeats 8000000 in
theorem parent_any (L : Option Addr) (n c : Nat) (l : List DV) (m : Int) (w : World) (hF : FsR w w.heap.size L n l) (hB : FewB l) :
    Calls Try.prog 12 #[.agg #[.slice L n c], .int .i64 m] w fun e w' => e = .returned (.tuple #[.int .i64 (parentP (nds l) m).1, .string ⟨(parentP (nds l) m).2.1.toArray⟩, .bool (parentP (nds l) m).2.2]) ∧ Below w.heap.size w w' := by
  have hl := hF.len
  have hln : (nds l).length = n := by rw [nds_length, hl]
  have HCX := hide (fun (V : World) (hV : Below w.heap.size w V) => check_any L n c l V ((hF.below hV).more hV.size) hB)
  have HWK := hide (fun (hc : checkB (nds l) = true) (V : World) (rn a b d : Nat) (hV : Below w.heap.size w V) (J : JP rn a b d m [] (fun k => k = a ∨ k = b ∨ k = d) V) (ha : w.heap.size ≤ a) (hb : w.heap.size ≤ b) (hd : w.heap.size ≤ d) =>
    walk_any (c := c) (L := L) (n := n) (l := l) (B0 := w.heap.size) (enters_of Try.func33 (by kernel_rfl) rfl) (checkB_facts hc).2.2.2.2.2.1 hB.each (visitP rn a b d m n _) (fun s O V V' h hb => h.below hb) (fun s O V h => h.lt) (fun k => k = a ∨ k = b ∨ k = d) V (hF.below hV) (fun k hk h => by omega) hV.size (by have h := (checkB_facts hc).2.2.2.2.2.2; rwa [hln] at h) (by have h := (checkB_facts hc).1; omega) (Nat.le_refl _) (fun _ _ => trivial) J)
  obtain ⟨P, hP⟩ : ∃ P, parentP (nds l) m = P := ⟨_, rfl⟩
  rw [hP]
  have HP := hide hP
  have HLN := hide hln
  clear hF hB hl hln hP
  go_enter Try.func12, Try.ntmps12
  go_wp2_with fail
  obtain ⟨W5, hW5⟩ : ∃ W, ((((w.alloc (.cells #[.slice L n c] 24)).alloc (.cells #[.int .i64 m] 3)).alloc (.cells #[.int .i64 0] 3)).alloc (.cells #[.string ⟨#[]⟩] 9)).alloc (.cells #[.bool false] 4) = W := ⟨_, rfl⟩
  have g0 : Blk W5 w.heap.size 24 #[.slice L n c] := by rw [← hW5]; exact ((((Blk.new w _ _).alloc _).alloc _).alloc _).alloc _
  have g1 : Blk W5 (w.heap.size + 1) 3 #[.int .i64 m] := by rw [← hW5]; exact (((show Blk ((w.alloc (.cells #[.slice L n c] 24)).alloc (.cells #[.int .i64 m] 3)) (w.heap.size + 1) 3 #[.int .i64 m] from by have := Blk.new (w.alloc (.cells #[.slice L n c] 24)) 3 #[.int .i64 m]; simpa using this).alloc _).alloc _).alloc _
  have g2 : Blk W5 (w.heap.size + 1 + 1) 3 #[.int .i64 0] := by rw [← hW5]; exact ((show Blk (((w.alloc (.cells #[.slice L n c] 24)).alloc (.cells #[.int .i64 m] 3)).alloc (.cells #[.int .i64 0] 3)) (w.heap.size + 1 + 1) 3 #[.int .i64 0] from by have := Blk.new ((w.alloc (.cells #[.slice L n c] 24)).alloc (.cells #[.int .i64 m] 3)) 3 #[.int .i64 0]; simpa using this).alloc _).alloc _
  have g3 : Blk W5 (w.heap.size + 1 + 1 + 1) 9 #[.string ⟨#[]⟩] := by rw [← hW5]; exact (show Blk ((((w.alloc (.cells #[.slice L n c] 24)).alloc (.cells #[.int .i64 m] 3)).alloc (.cells #[.int .i64 0] 3)).alloc (.cells #[.string ⟨#[]⟩] 9)) (w.heap.size + 1 + 1 + 1) 9 #[.string ⟨#[]⟩] from by have := Blk.new (((w.alloc (.cells #[.slice L n c] 24)).alloc (.cells #[.int .i64 m] 3)).alloc (.cells #[.int .i64 0] 3)) 9 #[.string ⟨#[]⟩]; simpa using this).alloc _
  have g4 : Blk W5 (w.heap.size + 1 + 1 + 1 + 1) 4 #[.bool false] := by
    have := Blk.new ((((w.alloc (.cells #[.slice L n c] 24)).alloc (.cells #[.int .i64 m] 3)).alloc (.cells #[.int .i64 0] 3)).alloc (.cells #[.string ⟨#[]⟩] 9)) 4 #[.bool false]
    rw [← hW5]; simpa using this
  have hb : Below w.heap.size w W5 := by rw [← hW5]; exact ((((on_alloc w _).alloc (by simp) _).alloc (by simp; omega) _).alloc (by simp; omega) _).alloc (by simp; omega) _
  have X := hide (HCX.out W5 hb)
  rw [hW5]
  clear hW5 HCX
  with_reducible refine X.out.mono ?_
  rintro e w3 ⟨rfl, hb3⟩
  have HB3 := hide (hb.trans (hb3.mono hb.size))
  have g0 := g0.below hb3 g0.lt
  have g1 := g1.below hb3 g1.lt
  have g2 := g2.below hb3 g2.lt
  have g3 := g3.below hb3 g3.lt
  have g4 := g4.below hb3 g4.lt
  have k0 := one_ g0
  have k2 := one_ g2
  have k3 := one_ g3
  have k4 := one_ g4
  have HG := hide (And.intro g0 (And.intro g1 (And.intro g2 (And.intro g3 g4))))
  clear X hb hb3 g0 g1 g2 g3 g4
  cases hck : checkB (nds l) with
  | false =>
    have hPe : P = (0, [], false) := by rw [← HP.out]; unfold parentP; rw [if_pos hck]
    subst hPe
    clear hck
    go_wp2_with fail
    go_quiet (fail)
    go_wp2_with fail
    refine bodyPost_ret (v := .tuple #[.int .i64 0, .string ⟨#[]⟩, .bool false]) (by simp only [results, Try.results12]; go_simp) rfl ⟨rfl, bl_drewN HB3.out⟩
  | true =>
    have HCK := hide hck
    clear hck
    have HPE : Hid (P = (pDir (fndN m (wk (nds l) n [] 0)), pName (fndN m (wk (nds l) n [] 0)), (fndN m (wk (nds l) n [] 0)).isSome)) := hide (by rw [← HP.out]; unfold parentP; rw [if_neg (by rw [HCK.out]; simp), HLN.out])
    have XW := hide (HWK.out HCK.out w3 (w.heap.size + 1) (w.heap.size + 1 + 1) (w.heap.size + 1 + 1 + 1) (w.heap.size + 1 + 1 + 1 + 1) HB3.out ⟨fun k => Iff.rfl, HG.out.2.1, HG.out.2.2.1, HG.out.2.2.2.1, HG.out.2.2.2.2, by omega, by omega, by omega, by omega, by omega, by omega⟩ (by omega) (by omega) (by omega))
    clear HWK
    go_wp2_with fail
    with_reducible refine XW.out.mono ?_
    rintro e w6 ⟨rfl, O6, J6, K6⟩
    have HB6 : Hid (Below w.heap.size w w6) := hide (HB3.out.trans (K6.below (fun k hk h => by omega) HB3.out.size))
    have r1 := one_ J6.d
    have r2 := one_ J6.w
    have r3 := one_ J6.f
    rw [fnd_seen] at r1 r2 r3
    obtain ⟨D, hD⟩ : ∃ T, pDir (fndN m (wk (nds l) n [] 0)) = T := ⟨_, rfl⟩
    obtain ⟨T, hT⟩ : ∃ T, pName (fndN m (wk (nds l) n [] 0)) = T := ⟨_, rfl⟩
    obtain ⟨b, hb⟩ : ∃ b, (fndN m (wk (nds l) n [] 0)).isSome = b := ⟨_, rfl⟩
    rw [hD] at r1
    rw [hT] at r2
    rw [hb] at r3
    have hPe := HPE.out
    rw [hD, hT, hb] at hPe
    subst hPe
    clear J6 K6 XW hD hT hb HPE k0 k2 k3 k4 HG
    go_wp2_with fail
    go_quiet (fail)
    go_wp2_with fail
    refine bodyPost_ret (v := .tuple #[.int .i64 D, .string ⟨T.toArray⟩, .bool b]) (by simp only [results, Try.results12]; go_simp) rfl ⟨rfl, bl_drewN HB6.out⟩
end Go.Proofs.Ytnhfpaobocbieaa
