/- PathJoins' walk. -/
import Derived.Test.YtfggoleghpicfaaDoorPathH
namespace Go.Proofs.YtfggoleghpicfaaDoor
open Go.RowKit
set_option linter.unusedVariables false

theorem last_len (s : Bs) : (lastA s).length ≤ s.length + 4 ∧ (lastB s).length ≤ s.length + 4 := by
  have hc := clean_len s
  have hp := wt_parts (clean s)
  have hd := wt_dropLast (parts (clean s))
  have ht := text_len (rooted (clean s)) (parts (clean s)).dropLast
  unfold lastA lastB lastP
  split
  · exact ⟨by show (clean s).length ≤ _; omega, by simp⟩
  · refine ⟨by show (text (rooted (clean s)) (parts (clean s)).dropLast).length ≤ _; omega, ?_⟩
    have hg : ((parts (clean s)).getLastD []).length ≤ wt (parts (clean s)) := by
      rcases List.eq_nil_or_concat (parts (clean s)) with h | ⟨l, x, h⟩
      · rw [h]; simp
      · rw [h, List.concat_eq_append, wt_app]
        have e2 : (l ++ [x]).getLastD [] = x := by simp [List.getLastD_eq_getLast?]
        rw [e2, wt_cons]; omega
    show ((parts (clean s)).getLastD []).length ≤ _
    omega
theorem join_len (a b : Bs) : (joinP a b).length ≤ a.length + b.length + 3 := by
  unfold joinP
  split
  · have := clean_len b; omega
  · have := clean_len (a ++ 47 :: b); simp at this; omega
theorem at0 (x : UInt8) (t : Bs) (h : 0 < (⟨(x :: t).toArray⟩ : ByteArray).size) : (⟨(x :: t).toArray⟩ : ByteArray)[0]'h = x := rfl
theorem toNat47 (x : UInt8) : ((x.toNat : Int) == 47) = (x == 47) := by
  rw [Bool.eq_iff_iff, beq_iff_eq, beq_iff_eq]
  constructor
  · intro h; apply UInt8.toNat_inj.1; have : x.toNat = 47 := by omega
    rw [this]; rfl
  · rintro rfl; rfl
set_option maxRecDepth 10000 in
set_option maxHeartbeats 8000000 in
theorem joins_law (a b c : Bs) (w : World) (hS : Std w) :
    Calls Tryd.prog 5 #[.string ⟨a.toArray⟩, .string ⟨b.toArray⟩, .string ⟨c.toArray⟩] w fun e w' => e = .returned (.bool true) ∧ Below w.heap.size w w' := by
  have HS := hide hS
  have HH := hide (heads_any w hS)
  clear hS
  by_cases h1 : 200 < a.length
  · have g1 : (200 : Int) < (a.length : Int) := by omega
    go_enter Tryd.func5, Tryd.ntmps5
    go_wp2_with fail
    refine HH.out.mono ?_
    rintro e wh ⟨rfl, kh⟩
    have KH := hide kh
    clear kh
    go_wp2
    go_ret
    exact ⟨rfl, KH.out⟩
  by_cases h2 : 200 < b.length
  · have g2 : (200 : Int) < (b.length : Int) := by omega
    go_enter Tryd.func5, Tryd.ntmps5
    go_wp2_with fail
    refine HH.out.mono ?_
    rintro e wh ⟨rfl, kh⟩
    have KH := hide kh
    clear kh
    go_wp2
    go_ret
    exact ⟨rfl, KH.out⟩
  by_cases h3 : 200 < c.length
  · have g3 : (200 : Int) < (c.length : Int) := by omega
    go_enter Tryd.func5, Tryd.ntmps5
    go_wp2_with fail
    refine HH.out.mono ?_
    rintro e wh ⟨rfl, kh⟩
    have KH := hide kh
    clear kh
    go_wp2
    go_ret
    exact ⟨rfl, KH.out⟩
  have g1 : ¬ (200 : Int) < (a.length : Int) := by omega
  have g2 : ¬ (200 : Int) < (b.length : Int) := by omega
  have g3 : ¬ (200 : Int) < (c.length : Int) := by omega
  rcases a with _ | ⟨x, t⟩
  · have hz : ((0 : Int) == 0) = true := rfl
    go_enter Tryd.func5, Tryd.ntmps5
    go_wp2_with fail
    refine HH.out.mono ?_
    rintro e wh ⟨rfl, kh⟩
    have KH := hide kh
    clear kh
    go_wp2
    go_ret
    exact ⟨rfl, KH.out⟩
  have hat := at0 x t
  have g1' : ¬ (200 : Int) < (t.length : Int) + 1 := by simp at g1; omega
  have hz : ((t.length : Int) + 1 == 0) = false := beq_eq_false_iff_ne.2 (by omega)
  have h47 := toNat47 x
  cases hx : (x == 47)
  · have hn : ((x.toNat : Int) != 47) = true := by rw [bne, h47, hx]; rfl
    rw [hx] at h47
    clear hx
    go_enter Tryd.func5, Tryd.ntmps5
    go_wp2_with fail
    refine HH.out.mono ?_
    rintro e wh ⟨rfl, kh⟩
    have KH := hide kh
    clear kh
    go_wp2
    go_ret
    exact ⟨rfl, KH.out⟩
  have hra : rooted (x :: t) = true := by rw [rooted_cons, hx]
  have hn : ((x.toNat : Int) != 47) = false := by rw [bne, h47, hx]; rfl
  rw [hx] at h47
  clear hx
  have hJL := join_last hra
  have HJL : Hid (joinP (lastA (x :: t)) (lastB (x :: t)) = clean (x :: t) ∧ (lastB (x :: t) = [] → lastA (x :: t) = [47])) := hide hJL
  have HJJ := hide (fun (hb : rooted b = false) (hc : rooted c = false) => join_join (c := c) hra hb hc)
  have hll := last_len (x :: t)
  have hla : (x :: t).length ≤ 200 := by omega
  have HX := hide h1
  clear hra hJL h1 g1
  go_enter Tryd.func5, Tryd.ntmps5
  go_wp2_with fail
  refine (last_l (x :: t) _ HS.out (by omega)).mono ?_
  rintro e w1 ⟨rfl, k1⟩
  have K1 := hide k1
  clear k1
  have hlA : (lastA (x :: t)).length ≤ 40000 := by omega
  have hlB : (lastB (x :: t)).length ≤ 40000 := by omega
  clear hll
  have HBN : Hid (lastB (x :: t) = [] → lastA (x :: t) = [47]) := hide HJL.out.2
  have HJ1 := hide (fun V (hV : Std V) => join_n (lastA (x :: t)) (lastB (x :: t)) (clean (x :: t)) HJL.out.1 V hV hlA hlB)
  have HC1 := hide (fun V (hV : Std V) => clean_l (x :: t) V hV (by omega))
  clear HJL hlA hlB
  generalize lastA (x :: t) = dir at HBN HJ1 ⊢
  generalize lastB (x :: t) = lst at HBN HJ1 ⊢
  generalize hcl : clean (x :: t) = cl at HJ1 HC1
  clear hcl
  go_wp2_with fail
  refine (HJ1.out _ (HS.out.below K1.out)).mono ?_
  rintro e w2 ⟨rfl, k2⟩
  have K2 := hide (below_more K1.out (Nat.le_refl _) k2)
  clear k2
  go_wp2_with fail
  refine (HC1.out _ (HS.out.below K2.out)).mono ?_
  rintro e w3 ⟨rfl, k3⟩
  have K3 := hide (below_more K2.out (Nat.le_refl _) k3)
  clear k3 HJ1 HC1 HH
  have hself : (cl == cl) = true := beq_self_eq_true cl
  -- the last part
  have two : ∃ e1 e2, lst.isEmpty = e1 ∧ (dir == [47]) = e2 ∧ (e1 = true → e2 = true) := ⟨_, _, rfl, rfl, fun h => by
    have hl : lst = [] := by cases lst with
      | nil => rfl
      | cons u v => cases h
    rw [HBN.out hl]; rfl⟩
  obtain ⟨e1, e2, he1, he2, he⟩ := two
  have HE := hide he
  clear he
  cases e1
  · clear HE HBN
    rcases b with _ | ⟨y, u⟩
    · have hb0 : ¬ (0 : Int) < 0 := by omega
      rcases c with _ | ⟨z, v⟩
      · have hz0 : ¬ (0 : Int) < 0 := by omega
        have HJ := hide (HJJ.out rooted_nil rooted_nil)
        clear HJJ
        have hlab := join_len (x :: t) []
        have hl1 : (joinP (x :: t) []).length ≤ 40000 := by simp at hlab hla g2 ⊢ <;> omega
        have hl2 : ([] : Bs).length ≤ 40000 := by simp at g2 ⊢ <;> omega
        have hl3 : ([] : Bs).length ≤ 40000 := by simp at g3 ⊢ <;> omega
        have hl4 : ((x :: t) ++ 47 :: [] ++ 47 :: [] : Bs).length ≤ 90000 := by simp at hla g2 g3 ⊢ <;> omega
        clear hlab
        go_wp2_with fail
        refine (join_l (x :: t) [] _ (HS.out.below K3.out) (by omega) hl2).mono ?_
        rintro e w4 ⟨rfl, k4⟩
        have K4 := hide (below_more K3.out (Nat.le_refl _) k4)
        clear k4
        have HJ2 := hide (fun V (hV : Std V) => join_n (joinP (x :: t) []) [] (clean ((x :: t) ++ 47 :: [] ++ 47 :: [])) HJ.out V hV hl1 hl3)
        clear HJ hl1 hl2 hl3
        generalize joinP (x :: t) [] = j1 at HJ2 ⊢
        go_wp2_with fail
        refine (HJ2.out _ (HS.out.below K4.out)).mono ?_
        rintro e w5 ⟨rfl, k5⟩
        have K5 := hide (below_more K4.out (Nat.le_refl _) k5)
        clear k5 HJ2
        have HC := hide (fun V (hV : Std V) => clean_l ((x :: t) ++ 47 :: [] ++ 47 :: []) V hV hl4)
        clear hl4
        have hcat : (((((⟨(x :: t).toArray⟩ : ByteArray) ++ (⟨#[47]⟩ : ByteArray)) ++ (⟨([] : Bs).toArray⟩ : ByteArray)) ++ (⟨#[47]⟩ : ByteArray)) ++ (⟨([] : Bs).toArray⟩ : ByteArray)) = ⟨((x :: t) ++ 47 :: [] ++ 47 :: [] : Bs).toArray⟩ := by
          apply ByteArray.ext; simp
        have HCAT := hide hcat
        clear hcat
        generalize clean ((x :: t) ++ 47 :: [] ++ 47 :: []) = cc at HC ⊢
        generalize ((x :: t) ++ 47 :: [] ++ 47 :: [] : Bs) = full at HC HCAT
        have hcat := HCAT.out
        clear HCAT
        have q1 : (t.length : Int) ≤ 200 := by omega
        have q4 : t.length ≤ 200 := by omega
        go_wp2_with fail
        clear hcat
        refine (HC.out _ (HS.out.below K5.out)).mono ?_
        rintro e w6 ⟨rfl, k6⟩
        have K6 := hide (below_more K5.out (Nat.le_refl _) k6)
        clear k6 HC
        have hself2 : (cc == cc) = true := beq_self_eq_true cc
        go_wp2_with fail
        refine (heads_any _ (HS.out.below K6.out)).mono ?_
        rintro e wh ⟨rfl, kh⟩
        have KH := hide (below_more K6.out (Nat.le_refl _) kh)
        clear kh
        go_wp2
        go_ret
        exact ⟨rfl, KH.out⟩
      · have g3' : (v.length : Int) + 1 ≤ 200 := by simp at g3; omega
        have hcz := at0 z v
        have h47z := toNat47 z
        have hc0 : (0 : Int) < (v.length : Int) + 1 := by omega
        cases hz' : (z == 47)
        · have hrc : rooted (z :: v) = false := by rw [rooted_cons]; exact hz'
          rw [hz'] at h47z
          clear hz'
          have HJ := hide (HJJ.out rooted_nil hrc)
          clear HJJ
          have hlab := join_len (x :: t) []
          have hl1 : (joinP (x :: t) []).length ≤ 40000 := by simp at hlab hla g2 ⊢ <;> omega
          have hl2 : ([] : Bs).length ≤ 40000 := by simp at g2 ⊢ <;> omega
          have hl3 : ((z :: v) : Bs).length ≤ 40000 := by simp at g3 ⊢ <;> omega
          have hl4 : ((x :: t) ++ 47 :: [] ++ 47 :: (z :: v) : Bs).length ≤ 90000 := by simp at hla g2 g3 ⊢ <;> omega
          clear hlab
          go_wp2_with fail
          refine (join_l (x :: t) [] _ (HS.out.below K3.out) (by omega) hl2).mono ?_
          rintro e w4 ⟨rfl, k4⟩
          have K4 := hide (below_more K3.out (Nat.le_refl _) k4)
          clear k4
          have HJ2 := hide (fun V (hV : Std V) => join_n (joinP (x :: t) []) (z :: v) (clean ((x :: t) ++ 47 :: [] ++ 47 :: (z :: v))) HJ.out V hV hl1 hl3)
          clear HJ hl1 hl2 hl3
          generalize joinP (x :: t) [] = j1 at HJ2 ⊢
          go_wp2_with fail
          refine (HJ2.out _ (HS.out.below K4.out)).mono ?_
          rintro e w5 ⟨rfl, k5⟩
          have K5 := hide (below_more K4.out (Nat.le_refl _) k5)
          clear k5 HJ2
          have HC := hide (fun V (hV : Std V) => clean_l ((x :: t) ++ 47 :: [] ++ 47 :: (z :: v)) V hV hl4)
          clear hl4
          have hcat : (((((⟨(x :: t).toArray⟩ : ByteArray) ++ (⟨#[47]⟩ : ByteArray)) ++ (⟨([] : Bs).toArray⟩ : ByteArray)) ++ (⟨#[47]⟩ : ByteArray)) ++ (⟨((z :: v) : Bs).toArray⟩ : ByteArray)) = ⟨((x :: t) ++ 47 :: [] ++ 47 :: (z :: v) : Bs).toArray⟩ := by
            apply ByteArray.ext; simp
          have HCAT := hide hcat
          clear hcat
          generalize clean ((x :: t) ++ 47 :: [] ++ 47 :: (z :: v)) = cc at HC ⊢
          generalize ((x :: t) ++ 47 :: [] ++ 47 :: (z :: v) : Bs) = full at HC HCAT
          have hcat := HCAT.out
          clear HCAT
          have q1 : (t.length : Int) ≤ 200 := by omega
          have q3 : (v.length : Int) ≤ 200 := by omega
          have q6 : v.length ≤ 200 := by omega
          have q4 : t.length ≤ 200 := by omega
          go_wp2_with fail
          clear hcat
          refine (HC.out _ (HS.out.below K5.out)).mono ?_
          rintro e w6 ⟨rfl, k6⟩
          have K6 := hide (below_more K5.out (Nat.le_refl _) k6)
          clear k6 HC
          have hself2 : (cc == cc) = true := beq_self_eq_true cc
          go_wp2_with fail
          refine (heads_any _ (HS.out.below K6.out)).mono ?_
          rintro e wh ⟨rfl, kh⟩
          have KH := hide (below_more K6.out (Nat.le_refl _) kh)
          clear kh
          go_wp2
          go_ret
          exact ⟨rfl, KH.out⟩
        · rw [hz'] at h47z
          go_wp2_with fail
          refine (heads_any _ (HS.out.below K3.out)).mono ?_
          rintro e wh ⟨rfl, kh⟩
          have KH := hide (below_more K3.out (Nat.le_refl _) kh)
          clear kh
          go_wp2
          go_ret
          exact ⟨rfl, KH.out⟩
    · have g2' : (u.length : Int) + 1 ≤ 200 := by simp at g2; omega
      have hby := at0 y u
      have h47y := toNat47 y
      have hb0 : (0 : Int) < (u.length : Int) + 1 := by omega
      cases hy : (y == 47)
      · have hrb : rooted (y :: u) = false := by rw [rooted_cons]; exact hy
        rw [hy] at h47y
        clear hy
        rcases c with _ | ⟨z, v⟩
        · have hz0 : ¬ (0 : Int) < 0 := by omega
          have HJ := hide (HJJ.out hrb rooted_nil)
          clear HJJ
          have hlab := join_len (x :: t) (y :: u)
          have hl1 : (joinP (x :: t) (y :: u)).length ≤ 40000 := by simp at hlab hla g2 ⊢ <;> omega
          have hl2 : ((y :: u) : Bs).length ≤ 40000 := by simp at g2 ⊢ <;> omega
          have hl3 : ([] : Bs).length ≤ 40000 := by simp at g3 ⊢ <;> omega
          have hl4 : ((x :: t) ++ 47 :: (y :: u) ++ 47 :: [] : Bs).length ≤ 90000 := by simp at hla g2 g3 ⊢ <;> omega
          clear hlab
          go_wp2_with fail
          refine (join_l (x :: t) (y :: u) _ (HS.out.below K3.out) (by omega) hl2).mono ?_
          rintro e w4 ⟨rfl, k4⟩
          have K4 := hide (below_more K3.out (Nat.le_refl _) k4)
          clear k4
          have HJ2 := hide (fun V (hV : Std V) => join_n (joinP (x :: t) (y :: u)) [] (clean ((x :: t) ++ 47 :: (y :: u) ++ 47 :: [])) HJ.out V hV hl1 hl3)
          clear HJ hl1 hl2 hl3
          generalize joinP (x :: t) (y :: u) = j1 at HJ2 ⊢
          go_wp2_with fail
          refine (HJ2.out _ (HS.out.below K4.out)).mono ?_
          rintro e w5 ⟨rfl, k5⟩
          have K5 := hide (below_more K4.out (Nat.le_refl _) k5)
          clear k5 HJ2
          have HC := hide (fun V (hV : Std V) => clean_l ((x :: t) ++ 47 :: (y :: u) ++ 47 :: []) V hV hl4)
          clear hl4
          have hcat : (((((⟨(x :: t).toArray⟩ : ByteArray) ++ (⟨#[47]⟩ : ByteArray)) ++ (⟨((y :: u) : Bs).toArray⟩ : ByteArray)) ++ (⟨#[47]⟩ : ByteArray)) ++ (⟨([] : Bs).toArray⟩ : ByteArray)) = ⟨((x :: t) ++ 47 :: (y :: u) ++ 47 :: [] : Bs).toArray⟩ := by
            apply ByteArray.ext; simp
          have HCAT := hide hcat
          clear hcat
          generalize clean ((x :: t) ++ 47 :: (y :: u) ++ 47 :: []) = cc at HC ⊢
          generalize ((x :: t) ++ 47 :: (y :: u) ++ 47 :: [] : Bs) = full at HC HCAT
          have hcat := HCAT.out
          clear HCAT
          have q1 : (t.length : Int) ≤ 200 := by omega
          have q2 : (u.length : Int) ≤ 200 := by omega
          have q5 : u.length ≤ 200 := by omega
          have q4 : t.length ≤ 200 := by omega
          go_wp2_with fail
          clear hcat
          refine (HC.out _ (HS.out.below K5.out)).mono ?_
          rintro e w6 ⟨rfl, k6⟩
          have K6 := hide (below_more K5.out (Nat.le_refl _) k6)
          clear k6 HC
          have hself2 : (cc == cc) = true := beq_self_eq_true cc
          go_wp2_with fail
          refine (heads_any _ (HS.out.below K6.out)).mono ?_
          rintro e wh ⟨rfl, kh⟩
          have KH := hide (below_more K6.out (Nat.le_refl _) kh)
          clear kh
          go_wp2
          go_ret
          exact ⟨rfl, KH.out⟩
        · have g3' : (v.length : Int) + 1 ≤ 200 := by simp at g3; omega
          have hcz := at0 z v
          have h47z := toNat47 z
          have hc0 : (0 : Int) < (v.length : Int) + 1 := by omega
          cases hz' : (z == 47)
          · have hrc : rooted (z :: v) = false := by rw [rooted_cons]; exact hz'
            rw [hz'] at h47z
            clear hz'
            have HJ := hide (HJJ.out hrb hrc)
            clear HJJ
            have hlab := join_len (x :: t) (y :: u)
            have hl1 : (joinP (x :: t) (y :: u)).length ≤ 40000 := by simp at hlab hla g2 ⊢ <;> omega
            have hl2 : ((y :: u) : Bs).length ≤ 40000 := by simp at g2 ⊢ <;> omega
            have hl3 : ((z :: v) : Bs).length ≤ 40000 := by simp at g3 ⊢ <;> omega
            have hl4 : ((x :: t) ++ 47 :: (y :: u) ++ 47 :: (z :: v) : Bs).length ≤ 90000 := by simp at hla g2 g3 ⊢ <;> omega
            clear hlab
            go_wp2_with fail
            refine (join_l (x :: t) (y :: u) _ (HS.out.below K3.out) (by omega) hl2).mono ?_
            rintro e w4 ⟨rfl, k4⟩
            have K4 := hide (below_more K3.out (Nat.le_refl _) k4)
            clear k4
            have HJ2 := hide (fun V (hV : Std V) => join_n (joinP (x :: t) (y :: u)) (z :: v) (clean ((x :: t) ++ 47 :: (y :: u) ++ 47 :: (z :: v))) HJ.out V hV hl1 hl3)
            clear HJ hl1 hl2 hl3
            generalize joinP (x :: t) (y :: u) = j1 at HJ2 ⊢
            go_wp2_with fail
            refine (HJ2.out _ (HS.out.below K4.out)).mono ?_
            rintro e w5 ⟨rfl, k5⟩
            have K5 := hide (below_more K4.out (Nat.le_refl _) k5)
            clear k5 HJ2
            have HC := hide (fun V (hV : Std V) => clean_l ((x :: t) ++ 47 :: (y :: u) ++ 47 :: (z :: v)) V hV hl4)
            clear hl4
            have hcat : (((((⟨(x :: t).toArray⟩ : ByteArray) ++ (⟨#[47]⟩ : ByteArray)) ++ (⟨((y :: u) : Bs).toArray⟩ : ByteArray)) ++ (⟨#[47]⟩ : ByteArray)) ++ (⟨((z :: v) : Bs).toArray⟩ : ByteArray)) = ⟨((x :: t) ++ 47 :: (y :: u) ++ 47 :: (z :: v) : Bs).toArray⟩ := by
              apply ByteArray.ext; simp
            have HCAT := hide hcat
            clear hcat
            generalize clean ((x :: t) ++ 47 :: (y :: u) ++ 47 :: (z :: v)) = cc at HC ⊢
            generalize ((x :: t) ++ 47 :: (y :: u) ++ 47 :: (z :: v) : Bs) = full at HC HCAT
            have hcat := HCAT.out
            clear HCAT
            have q1 : (t.length : Int) ≤ 200 := by omega
            have q2 : (u.length : Int) ≤ 200 := by omega
            have q5 : u.length ≤ 200 := by omega
            have q3 : (v.length : Int) ≤ 200 := by omega
            have q6 : v.length ≤ 200 := by omega
            have q4 : t.length ≤ 200 := by omega
            go_wp2_with fail
            clear hcat
            refine (HC.out _ (HS.out.below K5.out)).mono ?_
            rintro e w6 ⟨rfl, k6⟩
            have K6 := hide (below_more K5.out (Nat.le_refl _) k6)
            clear k6 HC
            have hself2 : (cc == cc) = true := beq_self_eq_true cc
            go_wp2_with fail
            refine (heads_any _ (HS.out.below K6.out)).mono ?_
            rintro e wh ⟨rfl, kh⟩
            have KH := hide (below_more K6.out (Nat.le_refl _) kh)
            clear kh
            go_wp2
            go_ret
            exact ⟨rfl, KH.out⟩
          · rw [hz'] at h47z
            go_wp2_with fail
            refine (heads_any _ (HS.out.below K3.out)).mono ?_
            rintro e wh ⟨rfl, kh⟩
            have KH := hide (below_more K3.out (Nat.le_refl _) kh)
            clear kh
            go_wp2
            go_ret
            exact ⟨rfl, KH.out⟩
      · rw [hy] at h47y
        go_wp2_with fail
        refine (heads_any _ (HS.out.below K3.out)).mono ?_
        rintro e wh ⟨rfl, kh⟩
        have KH := hide (below_more K3.out (Nat.le_refl _) kh)
        clear kh
        go_wp2
        go_ret
        exact ⟨rfl, KH.out⟩
  · obtain rfl := HE.out rfl
    clear HE HBN
    rcases b with _ | ⟨y, u⟩
    · have hb0 : ¬ (0 : Int) < 0 := by omega
      rcases c with _ | ⟨z, v⟩
      · have hz0 : ¬ (0 : Int) < 0 := by omega
        have HJ := hide (HJJ.out rooted_nil rooted_nil)
        clear HJJ
        have hlab := join_len (x :: t) []
        have hl1 : (joinP (x :: t) []).length ≤ 40000 := by simp at hlab hla g2 ⊢ <;> omega
        have hl2 : ([] : Bs).length ≤ 40000 := by simp at g2 ⊢ <;> omega
        have hl3 : ([] : Bs).length ≤ 40000 := by simp at g3 ⊢ <;> omega
        have hl4 : ((x :: t) ++ 47 :: [] ++ 47 :: [] : Bs).length ≤ 90000 := by simp at hla g2 g3 ⊢ <;> omega
        clear hlab
        go_wp2_with fail
        refine (join_l (x :: t) [] _ (HS.out.below K3.out) (by omega) hl2).mono ?_
        rintro e w4 ⟨rfl, k4⟩
        have K4 := hide (below_more K3.out (Nat.le_refl _) k4)
        clear k4
        have HJ2 := hide (fun V (hV : Std V) => join_n (joinP (x :: t) []) [] (clean ((x :: t) ++ 47 :: [] ++ 47 :: [])) HJ.out V hV hl1 hl3)
        clear HJ hl1 hl2 hl3
        generalize joinP (x :: t) [] = j1 at HJ2 ⊢
        go_wp2_with fail
        refine (HJ2.out _ (HS.out.below K4.out)).mono ?_
        rintro e w5 ⟨rfl, k5⟩
        have K5 := hide (below_more K4.out (Nat.le_refl _) k5)
        clear k5 HJ2
        have HC := hide (fun V (hV : Std V) => clean_l ((x :: t) ++ 47 :: [] ++ 47 :: []) V hV hl4)
        clear hl4
        have hcat : (((((⟨(x :: t).toArray⟩ : ByteArray) ++ (⟨#[47]⟩ : ByteArray)) ++ (⟨([] : Bs).toArray⟩ : ByteArray)) ++ (⟨#[47]⟩ : ByteArray)) ++ (⟨([] : Bs).toArray⟩ : ByteArray)) = ⟨((x :: t) ++ 47 :: [] ++ 47 :: [] : Bs).toArray⟩ := by
          apply ByteArray.ext; simp
        have HCAT := hide hcat
        clear hcat
        generalize clean ((x :: t) ++ 47 :: [] ++ 47 :: []) = cc at HC ⊢
        generalize ((x :: t) ++ 47 :: [] ++ 47 :: [] : Bs) = full at HC HCAT
        have hcat := HCAT.out
        clear HCAT
        have q1 : (t.length : Int) ≤ 200 := by omega
        have q4 : t.length ≤ 200 := by omega
        go_wp2_with fail
        clear hcat
        refine (HC.out _ (HS.out.below K5.out)).mono ?_
        rintro e w6 ⟨rfl, k6⟩
        have K6 := hide (below_more K5.out (Nat.le_refl _) k6)
        clear k6 HC
        have hself2 : (cc == cc) = true := beq_self_eq_true cc
        go_wp2_with fail
        refine (heads_any _ (HS.out.below K6.out)).mono ?_
        rintro e wh ⟨rfl, kh⟩
        have KH := hide (below_more K6.out (Nat.le_refl _) kh)
        clear kh
        go_wp2
        go_ret
        exact ⟨rfl, KH.out⟩
      · have g3' : (v.length : Int) + 1 ≤ 200 := by simp at g3; omega
        have hcz := at0 z v
        have h47z := toNat47 z
        have hc0 : (0 : Int) < (v.length : Int) + 1 := by omega
        cases hz' : (z == 47)
        · have hrc : rooted (z :: v) = false := by rw [rooted_cons]; exact hz'
          rw [hz'] at h47z
          clear hz'
          have HJ := hide (HJJ.out rooted_nil hrc)
          clear HJJ
          have hlab := join_len (x :: t) []
          have hl1 : (joinP (x :: t) []).length ≤ 40000 := by simp at hlab hla g2 ⊢ <;> omega
          have hl2 : ([] : Bs).length ≤ 40000 := by simp at g2 ⊢ <;> omega
          have hl3 : ((z :: v) : Bs).length ≤ 40000 := by simp at g3 ⊢ <;> omega
          have hl4 : ((x :: t) ++ 47 :: [] ++ 47 :: (z :: v) : Bs).length ≤ 90000 := by simp at hla g2 g3 ⊢ <;> omega
          clear hlab
          go_wp2_with fail
          refine (join_l (x :: t) [] _ (HS.out.below K3.out) (by omega) hl2).mono ?_
          rintro e w4 ⟨rfl, k4⟩
          have K4 := hide (below_more K3.out (Nat.le_refl _) k4)
          clear k4
          have HJ2 := hide (fun V (hV : Std V) => join_n (joinP (x :: t) []) (z :: v) (clean ((x :: t) ++ 47 :: [] ++ 47 :: (z :: v))) HJ.out V hV hl1 hl3)
          clear HJ hl1 hl2 hl3
          generalize joinP (x :: t) [] = j1 at HJ2 ⊢
          go_wp2_with fail
          refine (HJ2.out _ (HS.out.below K4.out)).mono ?_
          rintro e w5 ⟨rfl, k5⟩
          have K5 := hide (below_more K4.out (Nat.le_refl _) k5)
          clear k5 HJ2
          have HC := hide (fun V (hV : Std V) => clean_l ((x :: t) ++ 47 :: [] ++ 47 :: (z :: v)) V hV hl4)
          clear hl4
          have hcat : (((((⟨(x :: t).toArray⟩ : ByteArray) ++ (⟨#[47]⟩ : ByteArray)) ++ (⟨([] : Bs).toArray⟩ : ByteArray)) ++ (⟨#[47]⟩ : ByteArray)) ++ (⟨((z :: v) : Bs).toArray⟩ : ByteArray)) = ⟨((x :: t) ++ 47 :: [] ++ 47 :: (z :: v) : Bs).toArray⟩ := by
            apply ByteArray.ext; simp
          have HCAT := hide hcat
          clear hcat
          generalize clean ((x :: t) ++ 47 :: [] ++ 47 :: (z :: v)) = cc at HC ⊢
          generalize ((x :: t) ++ 47 :: [] ++ 47 :: (z :: v) : Bs) = full at HC HCAT
          have hcat := HCAT.out
          clear HCAT
          have q1 : (t.length : Int) ≤ 200 := by omega
          have q3 : (v.length : Int) ≤ 200 := by omega
          have q6 : v.length ≤ 200 := by omega
          have q4 : t.length ≤ 200 := by omega
          go_wp2_with fail
          clear hcat
          refine (HC.out _ (HS.out.below K5.out)).mono ?_
          rintro e w6 ⟨rfl, k6⟩
          have K6 := hide (below_more K5.out (Nat.le_refl _) k6)
          clear k6 HC
          have hself2 : (cc == cc) = true := beq_self_eq_true cc
          go_wp2_with fail
          refine (heads_any _ (HS.out.below K6.out)).mono ?_
          rintro e wh ⟨rfl, kh⟩
          have KH := hide (below_more K6.out (Nat.le_refl _) kh)
          clear kh
          go_wp2
          go_ret
          exact ⟨rfl, KH.out⟩
        · rw [hz'] at h47z
          go_wp2_with fail
          refine (heads_any _ (HS.out.below K3.out)).mono ?_
          rintro e wh ⟨rfl, kh⟩
          have KH := hide (below_more K3.out (Nat.le_refl _) kh)
          clear kh
          go_wp2
          go_ret
          exact ⟨rfl, KH.out⟩
    · have g2' : (u.length : Int) + 1 ≤ 200 := by simp at g2; omega
      have hby := at0 y u
      have h47y := toNat47 y
      have hb0 : (0 : Int) < (u.length : Int) + 1 := by omega
      cases hy : (y == 47)
      · have hrb : rooted (y :: u) = false := by rw [rooted_cons]; exact hy
        rw [hy] at h47y
        clear hy
        rcases c with _ | ⟨z, v⟩
        · have hz0 : ¬ (0 : Int) < 0 := by omega
          have HJ := hide (HJJ.out hrb rooted_nil)
          clear HJJ
          have hlab := join_len (x :: t) (y :: u)
          have hl1 : (joinP (x :: t) (y :: u)).length ≤ 40000 := by simp at hlab hla g2 ⊢ <;> omega
          have hl2 : ((y :: u) : Bs).length ≤ 40000 := by simp at g2 ⊢ <;> omega
          have hl3 : ([] : Bs).length ≤ 40000 := by simp at g3 ⊢ <;> omega
          have hl4 : ((x :: t) ++ 47 :: (y :: u) ++ 47 :: [] : Bs).length ≤ 90000 := by simp at hla g2 g3 ⊢ <;> omega
          clear hlab
          go_wp2_with fail
          refine (join_l (x :: t) (y :: u) _ (HS.out.below K3.out) (by omega) hl2).mono ?_
          rintro e w4 ⟨rfl, k4⟩
          have K4 := hide (below_more K3.out (Nat.le_refl _) k4)
          clear k4
          have HJ2 := hide (fun V (hV : Std V) => join_n (joinP (x :: t) (y :: u)) [] (clean ((x :: t) ++ 47 :: (y :: u) ++ 47 :: [])) HJ.out V hV hl1 hl3)
          clear HJ hl1 hl2 hl3
          generalize joinP (x :: t) (y :: u) = j1 at HJ2 ⊢
          go_wp2_with fail
          refine (HJ2.out _ (HS.out.below K4.out)).mono ?_
          rintro e w5 ⟨rfl, k5⟩
          have K5 := hide (below_more K4.out (Nat.le_refl _) k5)
          clear k5 HJ2
          have HC := hide (fun V (hV : Std V) => clean_l ((x :: t) ++ 47 :: (y :: u) ++ 47 :: []) V hV hl4)
          clear hl4
          have hcat : (((((⟨(x :: t).toArray⟩ : ByteArray) ++ (⟨#[47]⟩ : ByteArray)) ++ (⟨((y :: u) : Bs).toArray⟩ : ByteArray)) ++ (⟨#[47]⟩ : ByteArray)) ++ (⟨([] : Bs).toArray⟩ : ByteArray)) = ⟨((x :: t) ++ 47 :: (y :: u) ++ 47 :: [] : Bs).toArray⟩ := by
            apply ByteArray.ext; simp
          have HCAT := hide hcat
          clear hcat
          generalize clean ((x :: t) ++ 47 :: (y :: u) ++ 47 :: []) = cc at HC ⊢
          generalize ((x :: t) ++ 47 :: (y :: u) ++ 47 :: [] : Bs) = full at HC HCAT
          have hcat := HCAT.out
          clear HCAT
          have q1 : (t.length : Int) ≤ 200 := by omega
          have q2 : (u.length : Int) ≤ 200 := by omega
          have q5 : u.length ≤ 200 := by omega
          have q4 : t.length ≤ 200 := by omega
          go_wp2_with fail
          clear hcat
          refine (HC.out _ (HS.out.below K5.out)).mono ?_
          rintro e w6 ⟨rfl, k6⟩
          have K6 := hide (below_more K5.out (Nat.le_refl _) k6)
          clear k6 HC
          have hself2 : (cc == cc) = true := beq_self_eq_true cc
          go_wp2_with fail
          refine (heads_any _ (HS.out.below K6.out)).mono ?_
          rintro e wh ⟨rfl, kh⟩
          have KH := hide (below_more K6.out (Nat.le_refl _) kh)
          clear kh
          go_wp2
          go_ret
          exact ⟨rfl, KH.out⟩
        · have g3' : (v.length : Int) + 1 ≤ 200 := by simp at g3; omega
          have hcz := at0 z v
          have h47z := toNat47 z
          have hc0 : (0 : Int) < (v.length : Int) + 1 := by omega
          cases hz' : (z == 47)
          · have hrc : rooted (z :: v) = false := by rw [rooted_cons]; exact hz'
            rw [hz'] at h47z
            clear hz'
            have HJ := hide (HJJ.out hrb hrc)
            clear HJJ
            have hlab := join_len (x :: t) (y :: u)
            have hl1 : (joinP (x :: t) (y :: u)).length ≤ 40000 := by simp at hlab hla g2 ⊢ <;> omega
            have hl2 : ((y :: u) : Bs).length ≤ 40000 := by simp at g2 ⊢ <;> omega
            have hl3 : ((z :: v) : Bs).length ≤ 40000 := by simp at g3 ⊢ <;> omega
            have hl4 : ((x :: t) ++ 47 :: (y :: u) ++ 47 :: (z :: v) : Bs).length ≤ 90000 := by simp at hla g2 g3 ⊢ <;> omega
            clear hlab
            go_wp2_with fail
            refine (join_l (x :: t) (y :: u) _ (HS.out.below K3.out) (by omega) hl2).mono ?_
            rintro e w4 ⟨rfl, k4⟩
            have K4 := hide (below_more K3.out (Nat.le_refl _) k4)
            clear k4
            have HJ2 := hide (fun V (hV : Std V) => join_n (joinP (x :: t) (y :: u)) (z :: v) (clean ((x :: t) ++ 47 :: (y :: u) ++ 47 :: (z :: v))) HJ.out V hV hl1 hl3)
            clear HJ hl1 hl2 hl3
            generalize joinP (x :: t) (y :: u) = j1 at HJ2 ⊢
            go_wp2_with fail
            refine (HJ2.out _ (HS.out.below K4.out)).mono ?_
            rintro e w5 ⟨rfl, k5⟩
            have K5 := hide (below_more K4.out (Nat.le_refl _) k5)
            clear k5 HJ2
            have HC := hide (fun V (hV : Std V) => clean_l ((x :: t) ++ 47 :: (y :: u) ++ 47 :: (z :: v)) V hV hl4)
            clear hl4
            have hcat : (((((⟨(x :: t).toArray⟩ : ByteArray) ++ (⟨#[47]⟩ : ByteArray)) ++ (⟨((y :: u) : Bs).toArray⟩ : ByteArray)) ++ (⟨#[47]⟩ : ByteArray)) ++ (⟨((z :: v) : Bs).toArray⟩ : ByteArray)) = ⟨((x :: t) ++ 47 :: (y :: u) ++ 47 :: (z :: v) : Bs).toArray⟩ := by
              apply ByteArray.ext; simp
            have HCAT := hide hcat
            clear hcat
            generalize clean ((x :: t) ++ 47 :: (y :: u) ++ 47 :: (z :: v)) = cc at HC ⊢
            generalize ((x :: t) ++ 47 :: (y :: u) ++ 47 :: (z :: v) : Bs) = full at HC HCAT
            have hcat := HCAT.out
            clear HCAT
            have q1 : (t.length : Int) ≤ 200 := by omega
            have q2 : (u.length : Int) ≤ 200 := by omega
            have q5 : u.length ≤ 200 := by omega
            have q3 : (v.length : Int) ≤ 200 := by omega
            have q6 : v.length ≤ 200 := by omega
            have q4 : t.length ≤ 200 := by omega
            go_wp2_with fail
            clear hcat
            refine (HC.out _ (HS.out.below K5.out)).mono ?_
            rintro e w6 ⟨rfl, k6⟩
            have K6 := hide (below_more K5.out (Nat.le_refl _) k6)
            clear k6 HC
            have hself2 : (cc == cc) = true := beq_self_eq_true cc
            go_wp2_with fail
            refine (heads_any _ (HS.out.below K6.out)).mono ?_
            rintro e wh ⟨rfl, kh⟩
            have KH := hide (below_more K6.out (Nat.le_refl _) kh)
            clear kh
            go_wp2
            go_ret
            exact ⟨rfl, KH.out⟩
          · rw [hz'] at h47z
            go_wp2_with fail
            refine (heads_any _ (HS.out.below K3.out)).mono ?_
            rintro e wh ⟨rfl, kh⟩
            have KH := hide (below_more K3.out (Nat.le_refl _) kh)
            clear kh
            go_wp2
            go_ret
            exact ⟨rfl, KH.out⟩
      · rw [hy] at h47y
        go_wp2_with fail
        refine (heads_any _ (HS.out.below K3.out)).mono ?_
        rintro e wh ⟨rfl, kh⟩
        have KH := hide (below_more K3.out (Nat.le_refl _) kh)
        clear kh
        go_wp2
        go_ret
        exact ⟨rfl, KH.out⟩
theorem joins_b (a b c : ByteArray) (w : World) (hS : Std w) : Calls Tryd.prog 5 #[.string a, .string b, .string c] w fun e w' => e = .returned (.bool true) ∧ Below w.heap.size w w' := by
  obtain ⟨la, rfl⟩ := bs_of a
  obtain ⟨lb, rfl⟩ := bs_of b
  obtain ⟨lc, rfl⟩ := bs_of c
  exact joins_law la lb lc w hS
#print axioms joins_b
end Go.Proofs.YtfggoleghpicfaaDoor
