/- DiskKeeps' walk. -/
import Derived.Test.YthoaocjeladbkaaHeadB
namespace Go.Proofs.Ythoaocjeladbkaa
open Go.RowKit
set_option linter.unusedVariables false

def smD (n m : Nat) : Bool := decide (n ≤ 2000 ∧ m ≤ 2000)
set_option maxHeartbeats 400000 in
theorem small_any (A : Option Addr) (n c : Nat) (B : Option Addr) (m k : Nat) (room : Int) (dead : Bool) (arm : Int) (w : World) (hn : n ≤ maxLen) (hm : m ≤ maxLen) :
    Calls Try.prog 7 #[dv A n c B m k room dead arm] w fun e w' => e = .returned (.bool (smD n m)) ∧ w.alloc (dC A n c B m k room dead arm) = w' := by
  unfold maxLen at hn hm
  go_enter Try.func7, Try.ntmps7
  go_wp2
  all_goals
    go_ret
    refine ⟨ret_bool ?_, rfl⟩
    unfold smD; rw [Bool.eq_iff_iff]; simp; omega

set_option maxRecDepth 10000 in
set_option maxHeartbeats 4000000 in
theorem keeps_law (A : Option Addr) (n c : Nat) (B : Option Addr) (m k : Nat) (room : Int) (dead : Bool) (arm q : Int) (s p : List UInt8) (w : World) (hs : Rd w A n s) (hp : Rd w B m p) (hc : n ≤ c) (hcc : c ≤ maxLen) (hk : m ≤ k) (hkk : k ≤ maxLen) :
    Calls Try.prog 4 #[dv A n c B m k room dead arm, .int .i64 q] w fun e w' => e = .returned (.bool true) ∧ Below w.heap.size w w' := by
  have l1 := hs.len; have l2 := hp.len
  subst l1; subst l2
  go_enter Try.func4, Try.ntmps4
  go_wp2_with fail
  refine (small_any A _ c B _ k room dead arm _ (by omega) (by omega)).mono ?_
  rintro e w1 ⟨rfl, rfl⟩
  cases hsm : smD s.length p.length
  · clear hsm
    go_wp2_with fail
    refine (heads_any _).mono ?_
    rintro e w2 ⟨rfl, k2⟩
    have K2 := hide k2
    clear k2
    go_wp2
    go_ret
    exact ⟨rfl, below_more (((Below.refl w.heap.size w).alloc (Nat.le_refl _) _).alloc (by simp) _) (Nat.le_refl _) K2.out⟩
  have hb : s.length ≤ 2000 ∧ p.length ≤ 2000 := by unfold smD at hsm; exact of_decide_eq_true hsm
  obtain ⟨b1, b2⟩ := hb
  clear hsm
  go_wp2_with fail
  refine (check_any A _ c B _ k room dead arm _ (by omega) (by omega)).mono ?_
  rintro e w1 ⟨rfl, rfl⟩
  cases hok : okD s.length p.length room arm
  · clear hok
    go_wp2_with fail
    refine (heads_any _).mono ?_
    rintro e w2 ⟨rfl, k2⟩
    have K2 := hide k2
    clear k2
    go_wp2
    go_ret
    exact ⟨rfl, below_more ((((Below.refl w.heap.size w).alloc (Nat.le_refl _) _).alloc (by simp) _).alloc (by simp; omega) _) (Nat.le_refl _) K2.out⟩
  have HOK := hide hok
  clear hok
  go_wp2_with fail
  have hkp := kpN_le p.length q
  generalize hkn : kpN p.length q = kp at hkp
  obtain ⟨N, hN⟩ : ∃ N, N = s.length + kp := ⟨_, rfl⟩
  refine (crash_n A s.length c B p.length k room dead arm q s p _ (((((hs.alloc (Nat.le_refl _) _).alloc (by simp) _).alloc (by simp; omega) _).more (by simp; omega))) (((((hp.alloc (Nat.le_refl _) _).alloc (by simp) _).alloc (by simp; omega) _).more (by simp; omega))) (by omega) (by omega) hk true false (-1) (s ++ p.take kp) [] N 0 HOK.out rfl rfl (by unfold crS; rw [if_pos rfl, hkn]) rfl (by rw [List.length_append, List.length_take]; omega) rfl).mono ?_
  rintro e w2 ⟨A2, c2, B2, k2, rfl, hA, hB, kk⟩
  have hP := hide ((((Blk.new w 24 #[Value.slice A s.length c, .slice B p.length k, .int .i64 room, .bool dead, .int .i64 arm]).alloc (dC A s.length c B p.length k room dead arm)).alloc (dC A s.length c B p.length k room dead arm)).below kk (by simp; omega))
  have K2 := hide (below_more ((((Below.refl w.heap.size w).alloc (Nat.le_refl _) (dC A s.length c B p.length k room dead arm)).alloc (by simp) (dC A s.length c B p.length k room dead arm)).alloc (by simp; omega) (dC A s.length c B p.length k room dead arm)) (Nat.le_refl _) kk)
  have RA := hide hA
  have zp := hP.out.lt
  have hsr := hide ((Reads.below hs K2.out).more K2.out.size)
  have hpr := hide ((Reads.below hp K2.out).more K2.out.size)
  clear kk hA hB
  have okc : okD N 0 room (-1) = true := by
    have h := HOK.out
    unfold okD at h ⊢
    have h' := of_decide_eq_true h
    exact decide_eq_true ⟨h'.1, h'.2.1, by omega, by omega⟩
  have HN := hide hN
  have OKC := hide okc
  clear okc hkn hN
  obtain ⟨⟨x0, x1, x2, x3, x4⟩, y0, y1, y2, y3, y4⟩ := hP.out.five
  have r1 := run_string_of (P := Try.prog) (w2.alloc (dC A2 N c2 B2 0 k2 room false (-1))) _ 22 9 5 A s.length c s Try.underlying22 Try.underlying5 Try.underlying9 (hsr.out.alloc (Nat.le_refl _) _)
  have r2 := run_string_of (P := Try.prog) (w2.alloc (dC A2 N c2 B2 0 k2 room false (-1))) _ 22 9 5 B p.length k p Try.underlying22 Try.underlying5 Try.underlying9 (hpr.out.alloc (Nat.le_refl _) _)
  have hTE : (({ data := s.toArray } : ByteArray) ++ ({ data := p.toArray } : ByteArray)).extract 0 N = { data := (s ++ p.take kp).toArray } := by
    rw [HN.out]
    apply ByteArray.ext
    simp [ByteArray.data_extract, List.take_append]
    exact List.take_of_length_le (by omega)
  have hTS : (({ data := s.toArray } : ByteArray) ++ ({ data := p.toArray } : ByteArray)).size = s.length + p.length := by
    rw [ByteArray.size_append]; rfl
  have HTE := hide hTE
  have HTS := hide hTS
  clear hTE hTS
  go_upto_region 6 with (fail)
  have hTE := HTE.out
  have hTS := HTS.out
  clear HTE HTS
  generalize ({ data := s.toArray } : ByteArray) ++ ({ data := p.toArray } : ByteArray) = T at hTE hTS ⊢
  have hN := HN.out
  have hT1 : (N : Int) ≤ T.size := by omega
  have hT2 : (s.length : Int) ≤ N := by omega
  have hT0 : (0 : Int) ≤ N := by omega
  have hN4 : N ≤ 1000000 := by omega
  clear r1 r2 hTS
  generalize hW : w2.alloc (dC A2 N c2 B2 0 k2 room false (-1)) = W
  have bC : Hid (Blk W w2.heap.size 24 #[.slice A2 N c2, .slice B2 0 k2, .int .i64 room, .bool false, .int .i64 (-1)]) := hide (by rw [← hW]; exact Blk.new w2 24 _)
  have bP : Hid (Blk W w.heap.size 24 #[.slice A s.length c, .slice B p.length k, .int .i64 room, .bool dead, .int .i64 arm]) := hide (by rw [← hW]; exact hP.out.alloc _)
  have KW : Hid (Below w.heap.size w W) := hide (by rw [← hW]; exact K2.out.alloc K2.out.size _)
  have RW : Hid (Rc (w.heap.size + 3) W A2 N c2 (s ++ p.take kp)) := hide (by rw [← hW]; exact (RA.out.more (by simp)).alloc _)
  clear hW x0 x1 x2 x3 x4 y0 y1 y2 y3 y4 hN
  generalize w2.heap.size = g2 at *
  have allS : Hid (∀ V, Below W.heap.size W V → (V.cell? ⟨w.heap.size, 0, none⟩ = some (.slice A s.length c) ∧ V.cell? ⟨g2, 0, none⟩ = some (.slice A2 N c2) ∧ V.cell? ⟨g2, 1, none⟩ = some (.slice B2 0 k2) ∧ V.cell? ⟨g2, 2, none⟩ = some (.int .i64 room) ∧ V.cell? ⟨g2, 3, none⟩ = some (.bool false) ∧ V.cell? ⟨g2, 4, none⟩ = some (.int .i64 (-1)) ∧ (convert 22 9 (.slice A2 N c2)).run Try.prog V = .ok (.string ⟨(s ++ p.take kp).toArray⟩) V)) := hide fun V h => by
    obtain ⟨a0, a1, a2, a3, a4⟩ := blk5b (bC.out.below h bC.out.lt)
    exact ⟨(blk5b (bP.out.below h bP.out.lt)).1, a0, a1, a2, a3, a4, run_string_of (P := Try.prog) V _ 22 9 5 A2 N c2 (s ++ p.take kp) Try.underlying22 Try.underlying5 Try.underlying9 (RW.out.rd.below h)⟩
  have kW := hide ((Below.refl W.heap.size W).drew)
  have XC : Hid (∀ V, Below W.heap.size W V → Calls Try.prog 22 #[dv A2 N c2 B2 0 k2 room false (-1)] V fun e w' => e = .returned (.bool true) ∧ Below V.heap.size V w') := hide fun V h => by
    refine (check_any A2 N c2 B2 0 k2 room false (-1) V (by omega) (by omega)).mono ?_
    rintro e w' ⟨rfl, rfl⟩
    exact ⟨by rw [OKC.out], (Below.refl _ _).alloc (Nat.le_refl _) _⟩
  have XH : Hid (∀ V, Below W.heap.size W V → Calls Try.prog 8 #[] V fun e w' => e = .returned (.bool true) ∧ Below V.heap.size V w') := hide fun V h => heads_any V
  go_region_held3 (fun V => V.cell? ⟨w.heap.size, 0, none⟩ = some (.slice A s.length c) ∧ V.cell? ⟨g2, 0, none⟩ = some (.slice A2 N c2) ∧ V.cell? ⟨g2, 1, none⟩ = some (.slice B2 0 k2) ∧ V.cell? ⟨g2, 2, none⟩ = some (.int .i64 room) ∧ V.cell? ⟨g2, 3, none⟩ = some (.bool false) ∧ V.cell? ⟨g2, 4, none⟩ = some (.int .i64 (-1)) ∧ (convert 22 9 (.slice A2 N c2)).run Try.prog V = .ok (.string ⟨(s ++ p.take kp).toArray⟩) V)
    (with_reducible exact allS.out _ kW.out)
    (first
      | (go_at_call 22; with_reducible refine (XC.out _ kW.out).mono ?_
         rintro e wx ⟨rfl, kx⟩
         have kW := hide (below_more kW.out (Nat.le_refl _) kx)
         clear kx)
      | (go_at_call 8; with_reducible refine (XH.out _ kW.out).mono ?_
         rintro e wx ⟨rfl, kx⟩
         have kW := hide (below_more kW.out (Nat.le_refl _) kx)
         clear kx))
  all_goals
    go_wp2
    go_ret
    exact ⟨rfl, below_more KW.out (Nat.le_refl _) kW.out⟩
#print axioms keeps_law
end Go.Proofs.Ythoaocjeladbkaa
