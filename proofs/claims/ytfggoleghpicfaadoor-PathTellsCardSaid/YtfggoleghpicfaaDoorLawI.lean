/- path.Name at every text; the law PathInside. -/
import Derived.Test.YtfggoleghpicfaaDoorPathI
import Derived.Test.YtfggoleghpicfaaDoorLawJ
import Derived.Outline
namespace Go.Proofs.YtfggoleghpicfaaDoor
open Go.RowKit
set_option linter.unusedVariables false
def RetName (w : World) (l : Bs) (e : Ending) (w' : World) : Prop := ∃ c : Int, e = .returned (.int .i64 c) ∧ (c = 0 → NameOk l ∧ l.length ≤ 32) ∧ Below w.heap.size w w'
set_option maxHeartbeats 1000000 in
theorem name_any (l : Bs) (w : World) (hl : l.length ≤ 9223372036854775807) : Calls Tryd.prog 12 #[.string ⟨l.toArray⟩] w (RetName w l) := by
  have hh := has_any ⟨l.toArray⟩ w (show l.length ≤ _ from hl)
  change Calls Tryd.prog 31 #[.string ⟨l.toArray⟩, .string ⟨#[47, 0]⟩] w (RetHas w ⟨l.toArray⟩) at hh
  have HH := hide hh
  clear hh
  by_cases e0 : l = []
  · subst e0
    go_enter Tryd.func12, Tryd.ntmps12
    go_wp2
    go_ret
    exact ⟨32, rfl, fun h => by omega, Below.refl _ _⟩
  by_cases e1 : l = [46]
  · subst e1
    go_enter Tryd.func12, Tryd.ntmps12
    go_wp2
    go_ret
    exact ⟨32, rfl, fun h => by omega, Below.refl _ _⟩
  by_cases e2 : l = [46, 46]
  · subst e2
    go_enter Tryd.func12, Tryd.ntmps12
    go_wp2
    go_ret
    exact ⟨32, rfl, fun h => by omega, Below.refl _ _⟩
  have t0 : l.isEmpty = false := by cases l with
    | nil => exact absurd rfl e0
    | cons x t => rfl
  have t1 : (l == [46]) = false := beq_eq_false_iff_ne.2 e1
  have t2 : (l == [46, 46]) = false := beq_eq_false_iff_ne.2 e2
  have E := hide (And.intro e0 (And.intro e1 e2))
  clear e0 e1 e2
  go_enter Tryd.func12, Tryd.ntmps12
  go_wp2_with fail
  refine HH.out.mono ?_
  rintro e w1 ⟨b, rfl, hc, hb⟩
  have HC := hide hc
  have HB := hide hb
  clear hc hb
  cases b with
  | true =>
    go_wp2_with fail
    go_ret
    exact ⟨32, rfl, fun h => by omega, HB.out⟩
  | false =>
    by_cases h32 : 32 < l.length
    · have h32' : (32 : Int) < (l.length : Int) := by omega
      go_wp2_with fail
      go_ret
      exact ⟨31, rfl, fun h => by omega, HB.out⟩
    · have h32' : ¬ (32 : Int) < (l.length : Int) := by omega
      go_wp2_with fail
      go_ret
      refine ⟨0, rfl, fun _ => ⟨⟨E.out.1, E.out.2.1, E.out.2.2, fun hm => ?_⟩, by omega⟩, HB.out⟩
      obtain ⟨j, hj⟩ := List.getElem?_of_mem hm
      obtain ⟨hjl, _⟩ := List.getElem?_eq_some_iff.1 hj
      exact (HC.out.1 (by trivial) j 47 hjl hj).1 rfl
set_option maxRecDepth 10000 in
set_option maxHeartbeats 4000000 in
theorem inside_law (a r k : Bs) (w : World) (hS : Std w) (hk : k.length ≤ 9223372036854775807) :
    Calls Tryd.prog 6 #[.string ⟨a.toArray⟩, .string ⟨r.toArray⟩, .string ⟨k.toArray⟩] w fun e w' => e = .returned (.bool true) ∧ Below w.heap.size w w' := by
  have HS := hide hS
  have HN := hide (name_any k w hk)
  have HB := hide (Below.refl w.heap.size w)
  clear hS
  by_cases ha : 200 < a.length
  · have ha' : (200 : Int) < (a.length : Int) := by omega
    go_enter Tryd.func6, Tryd.ntmps6
    go_wp2_with fail
    refine (heads_any _ (HS.out.below HB.out)).mono ?_
    rintro e w9 ⟨rfl, h9⟩
    have H9 := hide (below_more HB.out (Nat.le_refl _) h9)
    clear h9
    go_wp2_with fail
    go_ret
    exact ⟨rfl, H9.out⟩
  have ha' : ¬ (200 : Int) < (a.length : Int) := by omega
  by_cases hr : 200 < r.length
  · have hr' : (200 : Int) < (r.length : Int) := by omega
    go_enter Tryd.func6, Tryd.ntmps6
    go_wp2_with fail
    refine (heads_any _ (HS.out.below HB.out)).mono ?_
    rintro e w9 ⟨rfl, h9⟩
    have H9 := hide (below_more HB.out (Nat.le_refl _) h9)
    clear h9
    go_wp2_with fail
    go_ret
    exact ⟨rfl, H9.out⟩
  have hr' : ¬ (200 : Int) < (r.length : Int) := by omega
  clear HB
  cases a with
  | nil =>
    go_enter Tryd.func6, Tryd.ntmps6
    go_wp2_with fail
    refine HN.out.mono ?_
    rintro e w1 ⟨c, rfl, hc, hb⟩
    have HB := hide hb
    clear hb hc
    by_cases h0 : c = 0
    · subst h0
      go_wp2_with fail
      refine (heads_any _ (HS.out.below HB.out)).mono ?_
      rintro e w9 ⟨rfl, h9⟩
      have H9 := hide (below_more HB.out (Nat.le_refl _) h9)
      clear h9
      go_wp2_with fail
      go_ret
      exact ⟨rfl, H9.out⟩
    · have h0' : (c != 0) = true := by rw [bne_iff_ne]; exact h0
      clear h0
      go_wp2_with fail
      refine (heads_any _ (HS.out.below HB.out)).mono ?_
      rintro e w9 ⟨rfl, h9⟩
      have H9 := hide (below_more HB.out (Nat.le_refl _) h9)
      clear h9
      go_wp2_with fail
      go_ret
      exact ⟨rfl, H9.out⟩
  | cons x t =>
    have h47 := toNat47 x
    have hlen : (((x :: t).length : Nat) : Int) ≠ 0 := by simp; omega
    have hlen' : ((((x :: t).length : Nat) : Int) == 0) = false := beq_eq_false_iff_ne.2 hlen
    have hix : ∀ W, (Instr.index 9 (.string ⟨(x :: t).toArray⟩) (.int .i64 0)).run Tryd.prog W = .ok (.int .u8 (x.toNat : Int)) W := fun W => by
      rw [run_index_string (P := Tryd.prog) W 9 _ .i64 0 Tryd.underlying9, dif_pos ⟨by omega, by show (0 : Int) < ((x :: t).length : Nat); simp⟩]
      rfl
    obtain ⟨l, hl⟩ : ∃ l, x :: t = l := ⟨_, rfl⟩
    have hroot : rooted l = (x == 47) := by rw [← hl]; exact rooted_cons x t
    rw [hl] at ha' ha hlen' hix ⊢
    have HR := hide hroot
    clear hl hroot hlen
    go_enter Tryd.func6, Tryd.ntmps6
    go_wp2_with fail
    refine HN.out.mono ?_
    rintro e w1 ⟨c, rfl, hc, hb⟩
    have HB := hide hb
    have HC := hide hc
    clear hb hc
    by_cases h0 : c = 0
    · subst h0
      by_cases hx : x = 47
      · have hn : ((x.toNat : Int) != 47) = false := by rw [bne, h47, hx]; rfl
        have hrl : rooted l = true := by rw [HR.out, hx]; rfl
        obtain ⟨hk1, hk32⟩ := HC.out rfl
        have q1 := inside_up hrl hk1
        have q2 := inside_down hrl hk1
        have q3 := inside_self hrl
        have q4 := inside_root hrl
        have q5 := hide (fun h => inside_more hrl hk1 (r := r) h)
        have hjl := join_len l k
        have HRL := hide hrl
        clear hrl h47 hx
        obtain ⟨q, hq⟩ : ∃ q, joinP l k = q := ⟨_, rfl⟩
        rw [hq] at q1 q2 q5 hjl
        have HQ := hide hq
        have Q1 := hide q1
        have Q2 := hide q2
        have Q3 := hide q3
        have Q4 := hide q4
        clear hq q1 q2 q3 q4
        go_wp2_with fail
        refine (join_n l k q HQ.out _ (HS.out.below HB.out) (by omega) (by omega)).mono ?_
        rintro e w2 ⟨rfl, hb2⟩
        have HB2 := hide (below_more HB.out (Nat.le_refl _) hb2)
        clear hb2
        go_wp2_with fail
        refine (inside_n q l true Q1.out _ (HS.out.below HB2.out) (by omega) (by omega)).mono ?_
        rintro e w3 ⟨rfl, hb3⟩
        have HB3 := hide (below_more HB2.out (Nat.le_refl _) hb3)
        clear hb3
        go_wp2_with fail
        refine (inside_n l q false Q2.out _ (HS.out.below HB3.out) (by omega) (by omega)).mono ?_
        rintro e w4 ⟨rfl, hb4⟩
        have HB4 := hide (below_more HB3.out (Nat.le_refl _) hb4)
        clear hb4
        go_wp2_with fail
        refine (inside_n l l true Q3.out _ (HS.out.below HB4.out) (by omega) (by omega)).mono ?_
        rintro e w5 ⟨rfl, hb5⟩
        have HB5 := hide (below_more HB4.out (Nat.le_refl _) hb5)
        clear hb5
        go_wp2_with fail
        refine (inside_n l [47] true Q4.out _ (HS.out.below HB5.out) (by omega) (by simp)).mono ?_
        rintro e w6 ⟨rfl, hb6⟩
        have HB6 := hide (below_more HB5.out (Nat.le_refl _) hb6)
        clear hb6
        go_wp2_with fail
        obtain ⟨v, hv⟩ : ∃ v, insideP l r = v := ⟨_, rfl⟩
        have HV := hide hv
        clear hv
        refine (inside_n l r v HV.out _ (HS.out.below HB6.out) (by omega) (by omega)).mono ?_
        rintro e w7 ⟨rfl, hb7⟩
        have HB := hide (below_more HB6.out (Nat.le_refl _) hb7)
        clear hb7
        cases v with
        | false =>
          go_wp2_with fail
          refine (heads_any _ (HS.out.below HB.out)).mono ?_
          rintro e w9 ⟨rfl, h9⟩
          have H9 := hide (below_more HB.out (Nat.le_refl _) h9)
          clear h9
          go_wp2_with fail
          go_ret
          exact ⟨rfl, H9.out⟩
        | true =>
          have Q6 := hide (q5.out HV.out)
          go_wp2_with fail
          refine (inside_n q r true Q6.out _ (HS.out.below HB.out) (by omega) (by omega)).mono ?_
          rintro e w8 ⟨rfl, hb8⟩
          have HB8 := hide (below_more HB.out (Nat.le_refl _) hb8)
          have HB := HB8
          clear hb8
          go_wp2_with fail
          refine (heads_any _ (HS.out.below HB.out)).mono ?_
          rintro e w9 ⟨rfl, h9⟩
          have H9 := hide (below_more HB.out (Nat.le_refl _) h9)
          clear h9
          go_wp2_with fail
          go_ret
          exact ⟨rfl, H9.out⟩
      · have hn : ((x.toNat : Int) != 47) = true := by rw [bne, h47, beq_eq_false_iff_ne.2 hx]; rfl
        clear h47 hx
        go_wp2_with fail
        refine (heads_any _ (HS.out.below HB.out)).mono ?_
        rintro e w9 ⟨rfl, h9⟩
        have H9 := hide (below_more HB.out (Nat.le_refl _) h9)
        clear h9
        go_wp2_with fail
        go_ret
        exact ⟨rfl, H9.out⟩
    · have h0' : (c != 0) = true := by rw [bne_iff_ne]; exact h0
      clear h0 h47
      go_wp2_with fail
      refine (heads_any _ (HS.out.below HB.out)).mono ?_
      rintro e w9 ⟨rfl, h9⟩
      have H9 := hide (below_more HB.out (Nat.le_refl _) h9)
      clear h9
      go_wp2_with fail
      go_ret
      exact ⟨rfl, H9.out⟩
theorem inside_b (p r k : ByteArray) (w : World) (hS : Std w) (hk : k.size ≤ 9223372036854775807) : Calls Tryd.prog 6 #[.string p, .string r, .string k] w fun e w' => e = .returned (.bool true) ∧ Below w.heap.size w w' := by
  obtain ⟨l, rfl⟩ := bs_of p
  obtain ⟨m, rfl⟩ := bs_of r
  obtain ⟨n, rfl⟩ := bs_of k
  exact inside_law l m n w hS (show n.length ≤ _ from hk)
end Go.Proofs.YtfggoleghpicfaaDoor
