/- The law's heads; the law ExpandPlain. -/
import Derived.Test.YtbphpijehfcbkaaDoorExH
namespace Go.Proofs.YtbphpijehfcbkaaDoor
open Go Go.RowKit
set_option linter.unusedVariables false
set_option maxRecDepth 1000000 in
set_option maxHeartbeats 8000000 in
theorem heads_any (w : World) : Calls Tryd.prog 4 #[] w fun e w' => e = .returned (.bool true) ∧ Below w.heap.size w w' := by
  have K := hide (Below.refl w.heap.size w)
  go_enter Tryd.func4, Tryd.ntmps4
  go_wp2_with fail
  refine (parts_c _).mono ?_
  rintro e w1 ⟨A, c, rfl, hO, hb⟩
  have HO : Hid (Ow w.heap.size w1 A 2 c [[97], [98, 42]]) := hide hO
  replace K := hide (below_more K.out (Nat.le_refl _) hb)
  clear hO hb
  go_wp2_with fail
  refine (plain1 _).mono ?_
  rintro e w2 ⟨rfl, hb⟩
  replace HO := hide (HO.out.below hb)
  replace K := hide (below_more K.out (Nat.le_refl _) hb)
  clear hb
  go_wp2_with fail
  refine (plain2 _).mono ?_
  rintro e w3 ⟨rfl, hb⟩
  replace HO := hide (HO.out.below hb)
  replace K := hide (below_more K.out (Nat.le_refl _) hb)
  clear hb
  go_wp2_with fail
  obtain ⟨V1, hV⟩ : ∃ V, w3.alloc (.cells #[.string ⟨#[97]⟩, .string ⟨#[98, 42]⟩] 9) = V := ⟨_, rfl⟩
  have hb : Below w3.heap.size w3 V1 := by rw [← hV]; exact (Below.refl _ _).alloc (Nat.le_refl _) _
  have HL : Hid (Reads V1 V1.heap.size 1 (some ⟨w3.heap.size, 0, none⟩) 2 (svs [[97], [98, 42]])) := hide (by rw [← hV]; exact lit_rd w3 [[97], [98, 42]])
  rw [hV]
  replace HO := hide (HO.out.below hb)
  replace K := hide (below_more K.out (Nat.le_refl _) hb)
  clear hb hV
  refine (texts_eq [[97], [98, 42]] _ _ 2 c 2 2 V1 HO.out.rd HL.out (by decide)).mono ?_
  rintro e w4 ⟨rfl, hb⟩
  replace K := hide (below_more K.out (Nat.le_refl _) hb)
  clear hb HO HL
  go_wp2_with fail
  obtain ⟨V2, hV⟩ : ∃ V, w4.alloc (.cells #[.string ⟨#[98, 46, 99]⟩, .string ⟨#[97, 46, 99]⟩, .string ⟨#[46, 99]⟩, .string ⟨#[97, 46, 99]⟩] 9) = V := ⟨_, rfl⟩
  have hb : Below w4.heap.size w4 V2 := by rw [← hV]; exact (Below.refl _ _).alloc (Nat.le_refl _) _
  have hg : w4.heap.size < V2.heap.size := by rw [← hV]; simp
  have hcs : ∀ (k : Nat) (x : LB), ks4[k]? = some x → V2.cell? ⟨w4.heap.size, k, none⟩ = some (.string ⟨x.toArray⟩) := fun k x hx => by
    have h1 : V2.cell? ⟨w4.heap.size, k, none⟩ = (svs ks4).toArray[k]? := by rw [← hV]; exact (Blk.new w4 9 (svs ks4).toArray).cell k
    rw [h1]
    have : (svs ks4)[k]? = some (sv x) := by simp [svs, hx]
    simpa [sv] using this
  have HN := hide (names_c w4.heap.size 4 V2 hg hcs)
  rw [hV]
  replace K := hide (below_more K.out (Nat.le_refl _) hb)
  clear hb hV hg hcs
  refine HN.out.mono ?_
  rintro e w5 ⟨A2, c2, rfl, hO, hb⟩
  have HO : Hid (Ow V2.heap.size w5 A2 2 c2 [[97, 46, 99], [98, 46, 99]]) := hide hO
  replace K := hide (below_more K.out (Nat.le_refl _) hb)
  clear hO hb HN
  go_wp2_with fail
  obtain ⟨V3, hV⟩ : ∃ V, w5.alloc (.cells #[.string ⟨#[97, 46, 99]⟩, .string ⟨#[98, 46, 99]⟩] 9) = V := ⟨_, rfl⟩
  have hb : Below w5.heap.size w5 V3 := by rw [← hV]; exact (Below.refl _ _).alloc (Nat.le_refl _) _
  have HL : Hid (Reads V3 V3.heap.size 1 (some ⟨w5.heap.size, 0, none⟩) 2 (svs [[97, 46, 99], [98, 46, 99]])) := hide (by rw [← hV]; exact lit_rd w5 [[97, 46, 99], [98, 46, 99]])
  rw [hV]
  replace HO := hide (HO.out.below hb)
  replace K := hide (below_more K.out (Nat.le_refl _) hb)
  clear hb hV
  refine (texts_eq [[97, 46, 99], [98, 46, 99]] _ _ 2 c2 2 2 V3 HO.out.rd HL.out (by decide)).mono ?_
  rintro e w6 ⟨rfl, hb⟩
  replace K := hide (below_more K.out (Nat.le_refl _) hb)
  clear hb HO HL
  go_wp2_with fail
  refine (tilde1 _).mono ?_
  rintro e w7 ⟨rfl, rfl⟩
  go_wp2_with fail
  refine (tilde2 _).mono ?_
  rintro e w7 ⟨rfl, rfl⟩
  go_wp2_with fail
  refine (join1 _).mono ?_
  rintro e w7 ⟨rfl, rfl⟩
  go_wp2_with fail
  refine (join2 _).mono ?_
  rintro e w7 ⟨rfl, rfl⟩
  go_wp2_with fail
  refine (join3 _).mono ?_
  rintro e w7 ⟨rfl, rfl⟩
  go_wp2_with fail
  go_ret
  exact ⟨rfl, K.out⟩
set_option maxRecDepth 1000000 in
set_option maxHeartbeats 8000000 in
theorem expand_any (p s : LB) (w : World) : Calls Tryd.prog 3 #[.string ⟨p.toArray⟩, .string ⟨s.toArray⟩] w fun e w' => e = .returned (.bool true) ∧ Below w.heap.size w w' := by
  have XH := hide heads_any
  by_cases hp : p.length ≤ 300
  · have kp : ¬ (300 : Int) < (p.length : Int) := by omega
    by_cases hs : s.length ≤ 300
    · have ks : ¬ (300 : Int) < (s.length : Int) := by omega
      have XSp := hide (fun W => rspecial_any p (by omega) W)
      have K := hide (Below.refl w.heap.size w)
      obtain ⟨q, hq⟩ : ∃ q, specialP p = q := ⟨_, rfl⟩
      rw [hq] at XSp
      cases q with
      | true =>
        have XP := hide (fun W => plain_no p (by omega) hq W)
        clear hq
        go_enter Tryd.func3, Tryd.ntmps3
        go_wp2_with fail
        refine (XP.out _).mono ?_
        rintro e w1 ⟨rfl, hb⟩
        replace K := hide (below_more K.out (Nat.le_refl _) hb)
        clear hb
        go_wp2_with fail
        refine (XSp.out _).mono ?_
        rintro e w2 ⟨rfl, rfl⟩
        go_wp2_with fail
        refine (XH.out _).mono ?_
        rintro e w3 ⟨rfl, hb⟩
        replace K := hide (below_more K.out (Nat.le_refl _) hb)
        clear hb
        go_wp2_with fail
        go_ret
        exact ⟨rfl, K.out⟩
      | false =>
        have XP := hide (fun W => plain_yes p (by omega) hq W)
        obtain ⟨k1, k2⟩ := esP_pos p hq
        have hul := unq_len p.length p (Nat.le_refl _)
        have XM : Hid (∀ t : LB, t.length ≤ 1024 → ∀ W, Calls Tryd.prog 7 #[.string ⟨p.toArray⟩, .string ⟨t.toArray⟩] W fun e w' => e = .returned (.bool (t == unq p)) ∧ Below W.heap.size W w') := hide (fun t ht W => by
          have := rMatch_any (esP p) k2 k1.pos t (by rw [esP_enc]; omega) ht W
          rw [esP_enc, esP_match] at this
          exact this)
        have X1 := hide (fun W => XM.out (unq p) (by omega) W)
        have X2 := hide (fun W => XM.out s (by omega) W)
        obtain ⟨u, hu⟩ : ∃ u, unq p = u := ⟨_, rfl⟩
        rw [hu] at X1 X2 XP
        obtain ⟨v, hv⟩ : ∃ v, (s == u) = v := ⟨_, rfl⟩
        rw [hv] at X2
        have e1 : (u == u) = true := by simp
        rw [e1] at X1
        clear hq k1 k2 hul XM hu
        go_enter Tryd.func3, Tryd.ntmps3
        go_wp2_with fail
        refine (XP.out _).mono ?_
        rintro e w1 ⟨rfl, hb⟩
        replace K := hide (below_more K.out (Nat.le_refl _) hb)
        clear hb
        go_wp2_with fail
        refine (XSp.out _).mono ?_
        rintro e w2 ⟨rfl, rfl⟩
        go_wp2_with fail
        refine (X1.out _).mono ?_
        rintro e w2 ⟨rfl, hb⟩
        replace K := hide (below_more K.out (Nat.le_refl _) hb)
        clear hb
        go_wp2_with fail
        refine (X2.out _).mono ?_
        rintro e w4 ⟨rfl, hb⟩
        replace K := hide (below_more K.out (Nat.le_refl _) hb)
        clear hb
        go_wp2_with fail
        refine (XH.out _).mono ?_
        rintro e w3 ⟨rfl, hb⟩
        replace K := hide (below_more K.out (Nat.le_refl _) hb)
        clear hb
        go_wp2_with fail
        go_ret
        exact ⟨rfl, K.out⟩
    · have ks : (300 : Int) < (s.length : Int) := by omega
      go_enter Tryd.func3, Tryd.ntmps3
      go_wp2_with fail
      refine (XH.out _).mono ?_
      rintro e w3 ⟨rfl, hb⟩
      have HB := hide hb
      clear hb
      go_wp2_with fail
      go_ret
      exact ⟨rfl, HB.out⟩
  · have kp : (300 : Int) < (p.length : Int) := by omega
    go_enter Tryd.func3, Tryd.ntmps3
    go_wp2_with fail
    refine (XH.out _).mono ?_
    rintro e w3 ⟨rfl, hb⟩
    have HB := hide hb
    clear hb
    go_wp2_with fail
    go_ret
    exact ⟨rfl, HB.out⟩
theorem expand_b (a b : ByteArray) (w : World) : Calls Tryd.prog 3 #[.string a, .string b] w fun e w' => e = .returned (.bool true) ∧ Below w.heap.size w w' := by
  obtain ⟨p, rfl⟩ := bs_of a
  obtain ⟨s, rfl⟩ := bs_of b
  exact expand_any p s w
end Go.Proofs.YtbphpijehfcbkaaDoor
