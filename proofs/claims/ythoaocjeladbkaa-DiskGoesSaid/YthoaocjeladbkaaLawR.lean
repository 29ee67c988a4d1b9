/- DiskRoom's walk. -/
import Derived.Test.YthoaocjeladbkaaLawK
namespace Go.Proofs.Ythoaocjeladbkaa
open Go.RowKit
set_option linter.unusedVariables false

theorem ok_append {n m : Nat} {room arm : Int} {dead : Bool} (p b : List UInt8) (hm : p.length = m) (h : okD n m room arm = true) : okD n (apP n m p room dead arm b).length room (apA n m room dead arm) = true := by
  have h0 := h
  unfold okD at h0
  obtain ⟨h1, h2, h3, h4⟩ := of_decide_eq_true h0
  have hR : -1 ≤ apA n m room dead arm := by
    unfold apA pwA; rw [h]; simp; split <;> omega
  have hL : (n : Int) + (apP n m p room dead arm b).length ≤ room := by
    unfold apP
    split
    · rename_i he
      unfold apE at he
      rw [h] at he
      simp at he
      rw [List.length_append]
      split at he
      · simp at he
      · split at he
        · simp at he
        · omega
    · omega
  unfold okD
  exact decide_eq_true ⟨h1, h2, hL, hR⟩
theorem apE_cases {n m : Nat} {room arm : Int} {dead : Bool} {q : Nat} (h : okD n m room arm = true) : apE n m room dead arm q = 0 ∨ apE n m room dead arm q = 35 ∨ apE n m room dead arm q = 42 := by
  unfold apE
  rw [h, if_neg (by decide)]
  cases pwO dead arm
  · right; right; rfl
  · rw [if_neg (by decide)]
    split
    · right; left; rfl
    · left; rfl

set_option maxRecDepth 10000 in
set_option maxHeartbeats 4000000 in
theorem room_law (A : Option Addr) (n c : Nat) (B : Option Addr) (m k : Nat) (room : Int) (dead : Bool) (arm : Int) (s p : List UInt8) (D : Option Addr) (l kb : Nat) (b : List UInt8) (w : World) (hs : Rd w A n s) (hp : Rd w B m p) (hc : n ≤ c) (hcc : c ≤ maxLen) (hk : m ≤ k) (hkk : k ≤ maxLen) (ha : arm ≤ 9223372036854775807)
    (hb : Rd w D l b) (hbl : l ≤ kb) (hbb : kb ≤ maxLen) :
    Calls Try.prog 6 #[dv A n c B m k room dead arm, .slice D l kb] w fun e w' => e = .returned (.bool true) ∧ Below w.heap.size w w' := by
  have l1 := hs.len; have l2 := hp.len; have l3 := hb.len
  subst l1; subst l2; subst l3
  go_enter Try.func6, Try.ntmps6
  go_wp2_with fail
  refine (small_any A _ c B _ k room dead arm _ (by omega) (by omega)).mono ?_
  rintro e w1 ⟨rfl, rfl⟩
  cases hsm : smD s.length p.length
  · clear hsm
    go_wp2_with fail
    refine (heads_any _).mono ?_
    rintro e w2 ⟨rfl, k2⟩
    have K2 := hide k2
    clear k2
    go_wp2
    go_ret
    exact ⟨rfl, below_more (((Below.refl w.heap.size w).alloc (Nat.le_refl _) _).alloc (by simp) _) (Nat.le_refl _) K2.out⟩
  have hb' : s.length ≤ 2000 ∧ p.length ≤ 2000 := by unfold smD at hsm; exact of_decide_eq_true hsm
  obtain ⟨b1, b2⟩ := hb'
  clear hsm
  by_cases b3 : 2000 < b.length
  · go_wp2_with fail
    refine (heads_any _).mono ?_
    rintro e w2 ⟨rfl, k2⟩
    have K2 := hide k2
    clear k2
    go_wp2
    go_ret
    exact ⟨rfl, below_more (((Below.refl w.heap.size w).alloc (Nat.le_refl _) _).alloc (by simp) _) (Nat.le_refl _) K2.out⟩
  go_wp2_with fail
  refine (check_any A _ c B _ k room dead arm _ (by omega) (by omega)).mono ?_
  rintro e w1 ⟨rfl, rfl⟩
  cases hok : okD s.length p.length room arm
  · clear hok
    go_wp2_with fail
    refine (heads_any _).mono ?_
    rintro e w2 ⟨rfl, k2⟩
    have K2 := hide k2
    clear k2
    go_wp2
    go_ret
    exact ⟨rfl, below_more ((((Below.refl w.heap.size w).alloc (Nat.le_refl _) _).alloc (by simp) _).alloc (by simp; omega) _) (Nat.le_refl _) K2.out⟩
  have HOK := hide hok
  clear hok
  go_wp2_with fail
  obtain ⟨P, hP⟩ : ∃ P, apP s.length p.length p room dead arm b = P := ⟨_, rfl⟩
  obtain ⟨M, hM⟩ : ∃ M, P.length = M := ⟨_, rfl⟩
  obtain ⟨R, hR⟩ : ∃ R, apA s.length p.length room dead arm = R := ⟨_, rfl⟩
  obtain ⟨T, hT⟩ : ∃ T, apD s.length p.length room dead arm = T := ⟨_, rfl⟩
  obtain ⟨E, hE⟩ : ∃ E, apE s.length p.length room dead arm b.length = E := ⟨_, rfl⟩
  have hM2 : M ≤ 10000 := by rw [← hM, ← hP]; unfold apP; split <;> (try rw [List.length_append]) <;> omega
  have OKX : Hid (okD s.length M room R = true) := hide (by rw [← hM, ← hP, ← hR]; exact ok_append p b rfl HOK.out)
  have ECS : Hid ((E = 0 ∧ P = p ++ b) ∨ (E = 35 ∧ P = p) ∨ (E = 42 ∧ P = p)) := hide (by
    rcases apE_cases (dead := dead) (q := b.length) HOK.out with h | h | h
    · exact Or.inl ⟨hE ▸ h, by rw [← hP]; unfold apP; rw [if_pos h]⟩
    · exact Or.inr (Or.inl ⟨hE ▸ h, by rw [← hP]; unfold apP; rw [if_neg (by rw [h]; decide)]⟩)
    · exact Or.inr (Or.inr ⟨hE ▸ h, by rw [← hP]; unfold apP; rw [if_neg (by rw [h]; decide)]⟩))
  refine (append_n A s.length c B p.length k room dead arm s p b D b.length kb _ (((((hs.alloc (Nat.le_refl _) _).alloc (by simp) _).alloc (by simp; omega) _).more (by simp; omega))) (((((hp.alloc (Nat.le_refl _) _).alloc (by simp) _).alloc (by simp; omega) _).more (by simp; omega))) (((((hb.alloc (Nat.le_refl _) _).alloc (by simp) _).alloc (by simp; omega) _).more (by simp; omega))) (by omega) (by omega) (by omega) ha T R E P M hT hR hE hP hM).mono ?_
  rintro e w2 ⟨A2, c2, B2, k2, rfl, hA, hB, kk⟩
  have hPx := hide ((((Blk.new w 24 #[Value.slice A s.length c, .slice B p.length k, .int .i64 room, .bool dead, .int .i64 arm]).alloc (dC A s.length c B p.length k room dead arm)).alloc (dC A s.length c B p.length k room dead arm)).below kk (by simp; omega))
  have K2 := hide (below_more ((((Below.refl w.heap.size w).alloc (Nat.le_refl _) (dC A s.length c B p.length k room dead arm)).alloc (by simp) (dC A s.length c B p.length k room dead arm)).alloc (by simp; omega) (dC A s.length c B p.length k room dead arm)) (Nat.le_refl _) kk)
  have RA := hide hA
  have RB := hide hB
  have zp := hPx.out.lt
  have hsr := hide ((Reads.below hs K2.out).more K2.out.size)
  have hpr := hide ((Reads.below hp K2.out).more K2.out.size)
  have hbr := hide ((Reads.below hb K2.out).more K2.out.size)
  clear kk hA hB hP hM hR hT hE
  obtain ⟨⟨x0, x1, x2, x3, x4⟩, y0, y1, y2, y3, y4⟩ := hPx.out.five
  go_wp2_with fail
  refine (check_any A2 s.length c2 B2 M k2 room T R _ (by omega) (by omega)).mono ?_
  rintro e w3 ⟨rfl, rfl⟩
  rw [OKX.out]
  have r1 := run_string_of (P := Try.prog) ((w2.alloc (dC A2 s.length c2 B2 M k2 room T R)).alloc (dC A2 s.length c2 B2 M k2 room T R)) _ 22 9 5 A2 s.length c2 s Try.underlying22 Try.underlying5 Try.underlying9 ((RA.out.alloc _).alloc _).rd
  have r2 := run_string_of (P := Try.prog) ((w2.alloc (dC A2 s.length c2 B2 M k2 room T R)).alloc (dC A2 s.length c2 B2 M k2 room T R)) _ 22 9 5 A s.length c s Try.underlying22 Try.underlying5 Try.underlying9 ((hsr.out.alloc (Nat.le_refl _) _).alloc (by simp) _)
  have r3 := run_string_of (P := Try.prog) ((w2.alloc (dC A2 s.length c2 B2 M k2 room T R)).alloc (dC A2 s.length c2 B2 M k2 room T R)) _ 22 9 5 B2 M k2 P Try.underlying22 Try.underlying5 Try.underlying9 ((RB.out.alloc _).alloc _).rd
  have r4 := run_string_of (P := Try.prog) ((w2.alloc (dC A2 s.length c2 B2 M k2 room T R)).alloc (dC A2 s.length c2 B2 M k2 room T R)) _ 22 9 5 B p.length k p Try.underlying22 Try.underlying5 Try.underlying9 ((hpr.out.alloc (Nat.le_refl _) _).alloc (by simp) _)
  have r5 := run_string_of (P := Try.prog) ((w2.alloc (dC A2 s.length c2 B2 M k2 room T R)).alloc (dC A2 s.length c2 B2 M k2 room T R)) _ 22 9 5 D b.length kb b Try.underlying22 Try.underlying5 Try.underlying9 ((hbr.out.alloc (Nat.le_refl _) _).alloc (by simp) _)
  have FIN : Hid (∀ V, Below ((w2.alloc (dC A2 s.length c2 B2 M k2 room T R)).alloc (dC A2 s.length c2 B2 M k2 room T R)).heap.size ((w2.alloc (dC A2 s.length c2 B2 M k2 room T R)).alloc (dC A2 s.length c2 B2 M k2 room T R)) V → Below w.heap.size w V) := hide fun V h => below_more ((K2.out.alloc K2.out.size _).alloc (by have := K2.out.size; simp; omega) _) (Nat.le_refl _) h
  rcases ECS.out with ⟨rfl, hPe⟩ | ⟨rfl, hPe⟩ | ⟨rfl, hPe⟩
  · have hstr : ({ data := P.toArray } : ByteArray) = ({ data := p.toArray } : ByteArray) ++ ({ data := b.toArray } : ByteArray) := by
      rw [hPe]; apply ByteArray.ext; simp
    clear hPe
    rw [hstr] at r3
    clear hstr
    go_wp2_with fail
    refine (heads_any _).mono ?_
    rintro e w4 ⟨rfl, k4⟩
    have K4 := hide (FIN.out _ k4)
    clear k4
    go_wp2
    go_ret
    exact ⟨rfl, K4.out⟩
  all_goals
    rw [hPe] at r3
    clear hPe
    go_wp2_with fail
    refine (heads_any _).mono ?_
    rintro e w4 ⟨rfl, k4⟩
    have K4 := hide (FIN.out _ k4)
    clear k4
    go_wp2
    go_ret
    exact ⟨rfl, K4.out⟩
#print axioms room_law
end Go.Proofs.Ythoaocjeladbkaa
