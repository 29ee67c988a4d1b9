/- The document's Special; Pieces and Fields; the law FieldSplits. -/
import Derived.Test.YtnongbbhpkmdjaaFldV
namespace Go.Proofs.Ytnongbbhpkmdjaa
open Go.RowKit
set_option linter.unusedVariables false
set_option maxRecDepth 100000 in
set_option maxHeartbeats 4000000 in
theorem rspecial_any (p : LB) (hp : p.length ≤ 100000) (w : World) : Calls Try.prog 38 #[.string ⟨p.toArray⟩] w fun e w' => e = .returned (.bool (specialP p)) ∧ w = w' := by
  go_enter Try.func38, Try.ntmps38
  go_wp2_with fail
  go_loop [3] (fun u3 => ∃ i : Nat, i ≤ p.length + 1 ∧ u3 = .int .i64 (i : Int) ∧ Hid (specialP p = specialP (p.drop i))) (fun u3 => p.length + 1 - (intOf u3).toNat)
  case atStart => exact ⟨0, Nat.zero_le _, rfl, hide rfl⟩
  case round =>
    obtain ⟨i, hi, rfl, HS⟩ := hrel
    by_cases hlt : i < p.length
    · obtain ⟨c, hc⟩ : ∃ c, p[i]? = some c := ⟨_, List.getElem?_eq_getElem hlt⟩
      have hix := ix_l p i c hc
      have hdr : p.drop i = c :: p.drop (i + 1) := by
        obtain ⟨h1, h2⟩ := List.getElem?_eq_some_iff.1 hc
        rw [List.drop_eq_getElem_cons h1, h2]
      have hst := special_step c (p.drop (i + 1))
      rw [← hdr, List.drop_drop] at hst
      have HST := hide hst
      have hlt' : (i : Int) < (p.length : Int) := by omega
      have HC := hide (fun W => rclass_any p i (by omega) hlt W)
      have t42 := u8_beq c 42
      have t63 := u8_beq c 63
      have t91 := u8_beq c 91
      have t92 := u8_beq c 92
      change ((c.toNat : Int) == 42) = _ at t42
      change ((c.toNat : Int) == 63) = _ at t63
      change ((c.toNat : Int) == 91) = _ at t91
      change ((c.toNat : Int) == 92) = _ at t92
      clear hdr hst hc
      by_cases h1 : c = 42
      · have HR : Hid (specialP p = true) := hide (by rw [HS.out, HST.out, if_pos (.inl h1)])
        rw [beq_iff_eq.2 h1] at t42
        clear h1 HST t63 t91 t92
        go_wp2_with fail
        go_ret
        exact ⟨ret_bool HR.out.symm, rfl⟩
      rw [beq_eq_false_iff_ne.2 h1] at t42
      by_cases h2 : c = 63
      · have HR : Hid (specialP p = true) := hide (by rw [HS.out, HST.out, if_pos (.inr h2)])
        rw [beq_iff_eq.2 h2] at t63
        clear h1 h2 HST t91 t92
        go_wp2_with fail
        go_ret
        exact ⟨ret_bool HR.out.symm, rfl⟩
      rw [beq_eq_false_iff_ne.2 h2] at t63
      have HST2 : Hid (specialP (p.drop i) = if c = 91 ∧ (classP (p.drop i)).isSome = true then true else if c = 92 then specialP (p.drop (i + 1 + 1)) else specialP (p.drop (i + 1))) := hide (by rw [HST.out, if_neg (by simp [h1, h2])])
      clear HST h1 h2
      by_cases h3 : c = 91
      · rw [beq_iff_eq.2 h3] at t91
        have n92 : ¬ c = 92 := by rw [h3]; decide
        rw [beq_eq_false_iff_ne.2 n92] at t92
        have HSA : (classP (p.drop i)).isSome = false → Hid (specialP p = specialP (p.drop (i + 1))) := fun h => hide (by rw [HS.out, HST2.out, h]; simp [n92])
        have HSB : (classP (p.drop i)).isSome = true → Hid (specialP p = true) := fun h => hide (by rw [HS.out, HST2.out, h]; simp [h3])
        have HSA' := hide HSA
        have HSB' := hide HSB
        clear HST2 n92 h3 HS HSA HSB
        go_wp2_with fail
        refine (HC.out _).mono ?_
        rintro e w2 ⟨r, rfl, rfl, hcls⟩
        rcases hcls with ⟨h1, h2⟩ | ⟨h1, h2, h3⟩
        · have HS2 := HSA'.out h1
          have hr : ¬ (0 : Int) < (r : Int) := by omega
          clear h1 h2 HC
          go_wp2_with fail
          go_round
          case rel => exact ⟨i + 1, by omega, by go_num, HS2⟩
          case measure => simp [intOf]; omega
        · have HR := HSB'.out h1
          have hr : (0 : Int) < (r : Int) := by omega
          clear h1 h2 h3 HC
          go_wp2_with fail
          go_ret
          exact ⟨ret_bool HR.out.symm, rfl⟩
      rw [beq_eq_false_iff_ne.2 h3] at t91
      by_cases h4 : c = 92
      · have HS2 : Hid (specialP p = specialP (p.drop (i + 2))) := hide (by rw [HS.out, HST2.out, if_neg (fun h => h3 h.1), if_pos h4])
        rw [beq_iff_eq.2 h4] at t92
        clear HC HST2 h3 h4 HS
        go_wp2_with fail
        go_round
        case rel => exact ⟨i + 2, by omega, by go_num, HS2⟩
        case measure => simp [intOf]; omega
      · have HS2 : Hid (specialP p = specialP (p.drop (i + 1))) := hide (by rw [HS.out, HST2.out, if_neg (fun h => h3 h.1), if_neg h4])
        rw [beq_eq_false_iff_ne.2 h4] at t92
        clear HC HST2 h3 h4 HS
        go_wp2_with fail
        go_round
        case rel => exact ⟨i + 1, by omega, by go_num, HS2⟩
        case measure => simp [intOf]; omega
    · have HR : Hid (specialP p = false) := hide (by rw [HS.out, List.drop_of_length_le (by omega)]; rfl)
      have hlt' : ¬ (i : Int) < (p.length : Int) := by omega
      clear HS
      go_wp2_with fail
      go_ret
      exact ⟨ret_bool HR.out.symm, rfl⟩
set_option maxHeartbeats 4000000 in
theorem rfspecial_any (l : List Pc) (A : Option Addr) (n c : Nat) (w : World) (hR : RdP w A n l) (hn : n ≤ 1000000) (hlen : (txl l).length ≤ 50000) :
    Calls Try.prog 17 #[.slice A n c] w fun e w' => e = .returned (.bool (specialP (patL l))) ∧ Below w.heap.size w w' := by
  have hpl := patL_len l
  have XP := hide (rpattern_any l A n c w hR hn hlen)
  have XS := hide (fun W => rspecial_any (patL l) (by omega) W)
  clear hR
  go_enter Try.func17, Try.ntmps17
  go_wp2_with fail
  refine XP.out.mono ?_
  rintro e w1 ⟨rfl, hb1⟩
  have HB1 := hide hb1
  clear hb1
  go_wp2_with fail
  refine (XS.out _).mono ?_
  rintro e w2 ⟨rfl, rfl⟩
  go_wp2_with fail
  go_ret
  exact ⟨rfl, HB1.out⟩
theorem quietAN {P : Program} {f : FuncId} {args : Array Value} {w : World} {a n : Nat} {v : Value}
    (h : Calls P f args (w.drewN (a + n)) fun e w' => e = .returned v ∧ ∃ m, w' = (w.drewN (a + n)).drewN m) : Calls P f args (w.drewN (a + n)) fun e w'' => e = .returned v ∧ ∃ m, w'' = w.drewN (a + m) :=
  h.mono fun _ _ ⟨he, m, hm⟩ => ⟨he, n + m, by rw [hm]; simp [World.drewN, Nat.add_assoc]⟩
theorem quietN {P : Program} {f : FuncId} {args : Array Value} {w : World} {n : Nat} {v : Value}
    (h : Calls P f args (w.drewN n) fun e w' => e = .returned v ∧ ∃ m, w' = (w.drewN n).drewN m) : Calls P f args (w.drewN n) fun e w'' => e = .returned v ∧ ∃ m, w'' = w.drewN m :=
  h.mono fun _ _ ⟨he, m, hm⟩ => ⟨he, n + m, by rw [hm]; simp [World.drewN, Nat.add_assoc]⟩
set_option maxRecDepth 100000 in
set_option maxHeartbeats 8000000 in
theorem pieces_eq (l : List Pc) (A B : Option Addr) (n c d : Nat) (w : World) (hA : RdP w A n l) (hB : RdP w B n l) (hn : n ≤ 1000000) :
    Calls Try.prog 32 #[.slice A n c, .slice B n d] w fun e w' => e = .returned (.bool true) ∧ ∃ k, w.drewN k = w' := by
  have hll : l.length = n := by have := hA.1; rw [pvs_length] at this; omega
  have HLL := hide hll
  have HA := hide hA
  have HB := hide hB
  have kz : ((n : Int) != (n : Int)) = false := by simp
  clear hA hB hll
  go_enter Try.func32, Try.ntmps32
  go_wp2_with fail
  go_loopw [5] (fun u5 wx => ∃ i : Nat, i ≤ n ∧ u5 = .int .i64 (i : Int) ∧ ∃ k, wx = w.drewN k) (fun u5 _ => n - (intOf u5).toNat)
  case atStart => exact ⟨0, Nat.zero_le _, rfl, 0, rfl⟩
  case round =>
    obtain ⟨i, hi, rfl, k, rfl⟩ := hrel
    by_cases hlt : i < n
    · obtain ⟨p, hp⟩ : ∃ p, l[i]? = some p := ⟨_, List.getElem?_eq_getElem (by have := HLL.out; omega)⟩
      obtain ⟨g, o, rfl, hg, q0, q1, q2, q3⟩ := pc_cells HA.out hp
      obtain ⟨g2, o2, rfl, hg2, r0, r1, r2, r3⟩ := pc_cells HB.out hp
      have hia := fun W => pc_at g o n c i (i : Int) rfl hlt W
      have hib := fun W => pc_at g2 o2 n d i (i : Int) rfl hlt W
      have hlt' : (i : Int) < (n : Int) := by omega
      obtain ⟨pt, pq, ps, pg⟩ := p
      dsimp only at q0 q1 q2 q3 r0 r1 r2 r3
      clear hp
      go_wp2_with fail
      go_quiet (fail)
      go_wp2_with fail
      go_roundw
      case rel => exact ⟨i + 1, by omega, by go_num, _, rfl⟩
      case measure => simp [intOf]; omega
    · have hlt' : ¬ (i : Int) < (n : Int) := by omega
      go_wp2_with fail
      go_ret
      exact ⟨rfl, k, rfl⟩
set_option maxRecDepth 100000 in
set_option maxHeartbeats 8000000 in
theorem fields_eq (B1 B2 : Nat) (fs : List Fd) (A1 A2 : Option Addr) (n c d : Nat) (w : World) (hA : Fo B1 w A1 n c fs none) (hB : Fo B2 w A2 n d fs none) (hn : n ≤ 1000000) (hfl : ∀ f ∈ fs, f.length ≤ 1000000) :
    Calls Try.prog 11 #[.slice A1 n c, .slice A2 n d] w fun e w' => e = .returned (.bool true) ∧ Below w.heap.size w w' := by
  have HLL := hide hA.len
  have HA := hide hA
  have HB := hide hB
  have kz : ((n : Int) != (n : Int)) = false := by simp
  have HFL := hide hfl
  clear hA hB hfl
  go_enter Try.func11, Try.ntmps11
  go_wp2_with fail
  go_loopw [5] (fun u5 wx => ∃ i : Nat, i ≤ n ∧ u5 = .int .i64 (i : Int) ∧ ∃ k, wx = w.drewN k) (fun u5 _ => n - (intOf u5).toNat)
  case atStart => exact ⟨0, Nat.zero_le _, rfl, 0, rfl⟩
  case round =>
    obtain ⟨i, hi, rfl, k, rfl⟩ := hrel
    by_cases hlt : i < n
    · obtain ⟨f, hf⟩ : ∃ f, fs[i]? = some f := ⟨_, List.getElem?_eq_getElem (by have := HLL.out; omega)⟩
      obtain ⟨gF, A3, n3, c3, hA3, _, hc3, hr3, hn3⟩ := HA.out.at_ hf
      obtain ⟨gG, A4, n4, c4, hA4, _, hc4, hr4, hn4⟩ := HB.out.at_ hf
      obtain rfl : n3 = n4 := by rw [hn3, hn4]
      have hia : ∀ W, (Instr.indexAt 25 (.slice A1 n c) (.int .i64 (i : Int))).run Try.prog W = .ok (.pointer (some ⟨gF, i, none⟩)) W := fun W => by rw [hA3]; exact fd_at gF n c i (i : Int) rfl hlt W
      have hib : ∀ W, (Instr.indexAt 25 (.slice A2 n d) (.int .i64 (i : Int))).run Try.prog W = .ok (.pointer (some ⟨gG, i, none⟩)) W := fun W => by rw [hA4]; exact fd_at gG n d i (i : Int) rfl hlt W
      have hlt' : (i : Int) < (n : Int) := by omega
      have hn3b : n3 ≤ 1000000 := by rw [hn3]; exact HFL.out f (List.mem_of_getElem? hf)
      have XP : Hid (∀ m, Calls Try.prog 32 #[.slice A3 n3 c3, .slice A4 n3 c4] (w.drewN m) fun e w' => e = .returned (.bool true) ∧ ∃ k, w' = (w.drewN m).drewN k) := hide (fun m => by
        refine (pieces_eq (up f) A3 A4 n3 c3 c4 (w.drewN m) ?_ ?_ hn3b).mono ?_
        · exact hr3
        · exact hr4
        · rintro e w' ⟨rfl, k, rfl⟩
          exact ⟨rfl, k, rfl⟩)
      clear hf hr3 hr4 hn3 hn4 hA3 hA4
      go_wp2_with fail
      go_quiet ((go_at_call 32; first | exact quietAN (XP.out _) | exact quietN (XP.out _)))
      go_wp2_with fail
      go_roundw
      case rel => exact ⟨i + 1, by omega, by go_num, _, rfl⟩
      case measure => simp [intOf]; omega
    · have hlt' : ¬ (i : Int) < (n : Int) := by omega
      go_wp2_with fail
      go_ret
      exact ⟨rfl, below_drewN (Below.refl _ _) k⟩
end Go.Proofs.Ytnongbbhpkmdjaa
