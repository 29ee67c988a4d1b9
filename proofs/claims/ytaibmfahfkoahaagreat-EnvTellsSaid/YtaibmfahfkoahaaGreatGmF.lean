/- The contracts of glob.match and Match. -/
import Derived.Test.YtaibmfahfkoahaaGreatGmE
import Derived.Lib.ConvBytes
import Derived.Lib.AtoiErrMem
namespace Go.Proofs.YtaibmfahfkoahaaGreat
open Go.RowKit
set_option linter.unusedVariables false
def matchP (p s : Bs) : Bool := M ((compileP p).map El.sem) s
def MatchP (p s : Bs) : Bool := if 1024 < p.length ∨ 1024 < s.length then false else matchP p s
theorem conv_rd (s : Bs) (W : World) : ∃ W' cap, (convert 9 93 (.string ⟨s.toArray⟩)).run Tryz.prog W = .ok (.slice (some ⟨W.heap.size, 0, none⟩) s.length cap) W' ∧ Reads W' W'.heap.size 1 (some ⟨W.heap.size, 0, none⟩) s.length (bv s) ∧ Below W.heap.size W W' := by
  have h := Lib.run_convert_string_bytes (P := Tryz.prog) W 9 93 5 ⟨s.toArray⟩ Tryz.underlying9 Tryz.underlying93 Tryz.underlying5
  refine ⟨_, _, h, ⟨by rw [bv_length]; omega, fun _ => ⟨_, rfl, ?_, ?_⟩⟩, Lib.bytesWorld_below W 5 _⟩
  · have := Lib.bytesWorld_at_new W 5 ⟨s.toArray⟩
    rcases Nat.lt_or_ge W.heap.size (Lib.bytesWorld W 5 ⟨s.toArray⟩).heap.size with h | h
    · exact h
    · rw [Array.getElem?_eq_none h] at this; cases this
  · intro j u hu
    rw [at_add, Nat.zero_add, cell_of_row _ _ j _ 5 _ (Lib.bytesWorld_at_new W 5 ⟨s.toArray⟩)]
    unfold Lib.bytesCells
    have hj : j < s.length := by
      rcases Nat.lt_or_ge j s.length with h | h
      · exact h
      · rw [List.getElem?_eq_none (by rw [bv_length]; omega)] at hu; cases hu
    rw [Array.getElem?_append_left (by simpa using hj)]
    simpa [bv] using hu
set_option maxHeartbeats 4000000 in
theorem match_any (p s : Bs) (hp : p.length ≤ 1024) (hs : s.length ≤ 1024) (w : World) : Calls Tryz.prog 56 #[.string ⟨p.toArray⟩, .string ⟨s.toArray⟩] w fun e w' => e = .returned (.bool (matchP p s)) ∧ Below w.heap.size w w' := by
  have HC := hide (compile_any p (by omega) w)
  have hcl := compile_len p.length p (Nat.le_refl _)
  have HM : Hid (matchP p s = M ((compileP p).map El.sem) s) := hide rfl
  generalize compileP p = es at *
  go_enter Tryz.func56, Tryz.ntmps56
  go_wp2_with fail
  refine HC.out.mono ?_
  rintro e w1 ⟨A, n, c, cells, rfl, hO, hn, hE, hb⟩
  have HO := hide hO
  have HE := hide hE
  have HB := hide hb
  have HN := hide hn
  clear hO hE hb hn
  obtain ⟨W2, cap, hcv, hrd, hb2⟩ := conv_rd s w1
  have HRD := hide hrd
  have HB2 := hide hb2
  clear hrd hb2
  go_wp2_with fail
  refine (runb_any es s cells A _ n c s.length cap W2 HN.out (((Reads.of_own HO.out).below HB2.out).more HB2.out.size) (HE.out.below HB2.out) HRD.out (by omega) (by omega)).mono ?_
  rintro e w3 ⟨rfl, k, rfl⟩
  go_wp2_with fail
  go_ret
  exact ⟨ret_bool HM.out.symm, below_drewN (below_more HB.out (Nat.le_refl _) HB2.out) _⟩
set_option maxHeartbeats 1000000 in
theorem Match_any (p s : Bs) (w : World) : Calls Tryz.prog 42 #[.string ⟨p.toArray⟩, .string ⟨s.toArray⟩] w fun e w' => e = .returned (.bool (MatchP p s)) ∧ Below w.heap.size w w' := by
  by_cases h1 : 1024 < p.length
  · have HM : Hid (MatchP p s = false) := hide (by unfold MatchP; rw [if_pos (.inl h1)])
    have h1' : (1024 : Int) < (p.length : Int) := by omega
    go_enter Tryz.func42, Tryz.ntmps42
    go_wp2_with fail
    go_ret
    exact ⟨ret_bool HM.out.symm, Below.refl _ _⟩
  have h1' : ¬ (1024 : Int) < (p.length : Int) := by omega
  by_cases h2 : 1024 < s.length
  · have HM : Hid (MatchP p s = false) := hide (by unfold MatchP; rw [if_pos (.inr h2)])
    have h2' : (1024 : Int) < (s.length : Int) := by omega
    go_enter Tryz.func42, Tryz.ntmps42
    go_wp2_with fail
    go_ret
    exact ⟨ret_bool HM.out.symm, Below.refl _ _⟩
  have h2' : ¬ (1024 : Int) < (s.length : Int) := by omega
  have HM : Hid (MatchP p s = matchP p s) := hide (by unfold MatchP; rw [if_neg (by omega)])
  have HX := hide (match_any p s (by omega) (by omega) w)
  generalize matchP p s = b at *
  go_enter Tryz.func42, Tryz.ntmps42
  go_wp2_with fail
  refine HX.out.mono ?_
  rintro e w1 ⟨rfl, hb⟩
  go_wp2_with fail
  go_ret
  exact ⟨ret_bool HM.out.symm, hb⟩
end Go.Proofs.YtaibmfahfkoahaaGreat
