/- The document's Pattern, class and Special; Pieces and Fields. -/
import Derived.Test.YtnongbbhpkmdjaaFldU
namespace Go.Proofs.Ytnongbbhpkmdjaa
open Go.RowKit
set_option linter.unusedVariables false
set_option maxHeartbeats 4000000 in
theorem rpattern_any (l : List Pc) (A : Option Addr) (n c : Nat) (w : World) (hR : RdP w A n l) (hn : n ≤ 1000000) (hlen : (txl l).length ≤ 50000) :
    Calls Try.prog 15 #[.slice A n c] w fun e w' => e = .returned (.string ⟨(patL l).toArray⟩) ∧ Below w.heap.size w w' := by
  have hpl := patL_len l
  have hll : l.length = n := by have := hR.1; rw [pvs_length] at this; omega
  have HLL := hide hll
  have HR := hide hR
  clear hR hll
  go_enter Try.func15, Try.ntmps15
  go_wp2_with fail
  go_loopw [3, 4] (fun u3 u4 wx => ∃ i : Nat, i ≤ n ∧ u4 = .int .i64 (i : Int) ∧ u3 = .string ⟨(patL (l.take i)).toArray⟩ ∧ Hid (Below w.heap.size w wx)) (fun _ u4 _ => n - (intOf u4).toNat)
  case atStart => exact ⟨0, Nat.zero_le _, rfl, rfl, hide (Below.refl _ _)⟩
  case round =>
    obtain ⟨i, hi, rfl, rfl, HB⟩ := hrel
    by_cases hlt : i < n
    · obtain ⟨p, hp⟩ : ∃ p, l[i]? = some p := ⟨_, List.getElem?_eq_getElem (by have := HLL.out; omega)⟩
      have hpt := txl_mem l p (List.mem_of_getElem? hp)
      obtain ⟨g, o, rfl, hg, q0, q1, q2, q3⟩ := pc_cells HR.out hp
      have r0 := (HB.out.cell (p := ⟨g, o + i * 4, none⟩) hg).trans q0
      have r1 := (HB.out.cell (p := ⟨g, o + i * 4 + 1, none⟩) hg).trans q1
      have hia := fun W => pc_at g o n c i (i : Int) rfl hlt W
      have hlt' : (i : Int) < (n : Int) := by omega
      have HTX : Hid (patL (l.take (i + 1)) = patL (l.take i) ++ patP p) := hide (by rw [take_snoc' hp, patL_snoc])
      have hl1 := patL_take l i
      have hl2 := patL_take l (i + 1)
      have hl3 : (patL (l.take i)).length + (patP p).length ≤ 100000 := by have := congrArg List.length HTX.out; rw [List.length_append] at this; omega
      obtain ⟨L, hL⟩ : ∃ L, patL (l.take i) = L := ⟨_, rfl⟩
      rw [hL] at HTX hl1 hl3 ⊢
      obtain ⟨pt, pq, ps, pg⟩ := p
      dsimp only at r0 r1 hpt
      clear hp hL q0 q1 q2 q3
      cases pq with
      | true =>
        have e : patP ⟨pt, true, ps, pg⟩ = quoteP pt := rfl
        rw [e] at HTX hl3
        have XQ := hide (fun W => rquote_any pt (by omega) W)
        have b1 : ¬ (9223372036854775807 : Nat) < L.length + (quoteP pt).length := by omega
        clear e
        generalize quoteP pt = Q at *
        go_wp2_with fail
        refine (XQ.out _).mono ?_
        rintro e w1 ⟨rfl, hb1⟩
        have HB1 := hide (below_more HB.out (Nat.le_refl _) hb1)
        clear hb1 XQ HB
        go_wp2_with fail
        rw [catQ]
        go_roundw
        case rel => exact ⟨i + 1, by omega, by go_num, by rw [HTX.out], HB1⟩
        case measure => simp [intOf]; omega
      | false =>
        have e : patP ⟨pt, false, ps, pg⟩ = pt := rfl
        rw [e] at HTX hl3
        have b1 : ¬ (9223372036854775807 : Nat) < L.length + pt.length := by omega
        clear e
        go_wp2_with fail
        rw [catQ]
        go_roundw
        case rel => exact ⟨i + 1, by omega, by go_num, by rw [HTX.out], HB⟩
        case measure => simp [intOf]; omega
    · have hlt' : ¬ (i : Int) < (n : Int) := by omega
      have HE : Hid (patL (l.take i) = patL l) := hide (by rw [List.take_of_length_le (by have := HLL.out; omega)])
      rw [HE.out]
      go_wp2_with fail
      go_ret
      exact ⟨rfl, HB.out⟩
theorem index_neg (l : LB) (c : UInt8) : Lib.indexByte l c < 0 ↔ ∀ x ∈ l, x ≠ c := by
  induction l with
  | nil => simp [Lib.indexByte]
  | cons y r ih =>
    have hge := Lib.indexByte_ge r c
    have hst : Lib.indexByte (y :: r) c = if y == c then 0 else if Lib.indexByte r c == -1 then -1 else Lib.indexByte r c + 1 := rfl
    rw [List.forall_mem_cons, ← ih, hst]
    generalize Lib.indexByte r c = z at *
    by_cases h : y = c
    · subst h; simp
    · have h' : (y == c) = false := beq_eq_false_iff_ne.2 h
      rw [h']
      simp only [Bool.false_eq_true, if_false, beq_iff_eq]
      constructor
      · intro h3
        refine ⟨h, ?_⟩
        split at h3 <;> omega
      · rintro ⟨_, h3⟩
        split <;> omega
/-- Where a class's items begin. -/
def clsI (p : LB) (a : Nat) : Nat := a + classB (p.drop a)
theorem classB_le (q : LB) : 1 ≤ classB q ∧ classB q ≤ 2 := by unfold classB; split <;> omega
theorem class_some (p : LB) (a : Nat) : (classP (p.drop a)).isSome = true ↔ ∃ k, clsI p a + 1 ≤ k ∧ p[k]? = some 93 := by
  have hb := classB_le (p.drop a)
  unfold classP clsI
  generalize classB (p.drop a) = b at *
  rw [List.drop_drop]
  by_cases h1 : (p.drop a).length ≤ b
  · rw [if_pos h1]
    rw [List.length_drop] at h1
    constructor
    · intro h; cases h
    · rintro ⟨k, hk, he⟩
      obtain ⟨h2, _⟩ := List.getElem?_eq_some_iff.1 he
      omega
  · rw [if_neg h1]
    by_cases h2 : Lib.indexByte (p.drop (a + (b + 1))) 93 < 0
    · rw [if_pos h2]
      have h3 := (index_neg _ _).1 h2
      constructor
      · intro h; cases h
      · rintro ⟨k, hk, he⟩
        exfalso
        refine h3 93 ?_ rfl
        rw [List.mem_iff_getElem?]
        exact ⟨k - (a + (b + 1)), by rw [List.getElem?_drop, show a + (b + 1) + (k - (a + (b + 1))) = k by omega]; exact he⟩
    · rw [if_neg h2]
      constructor
      · intro _
        have h3 : ¬ ∀ x ∈ p.drop (a + (b + 1)), x ≠ 93 := fun h => h2 ((index_neg _ _).2 h)
        have h4 : 93 ∈ p.drop (a + (b + 1)) := by
          apply Classical.byContradiction
          intro h5
          exact h3 (fun x hx e => h5 (e ▸ hx))
        obtain ⟨j, hj⟩ := List.mem_iff_getElem?.1 h4
        rw [List.getElem?_drop] at hj
        exact ⟨a + (b + 1) + j, by omega, hj⟩
      · intro _; rfl
/-- What class gives: nothing, or a place behind the items. -/
def ClsR (p : LB) (a : Nat) (w : World) (e : Ending) (w' : World) : Prop := ∃ r : Nat, e = .returned (.int .i64 (r : Int)) ∧ w = w' ∧ (((classP (p.drop a)).isSome = false ∧ r = 0) ∨ ((classP (p.drop a)).isSome = true ∧ clsI p a + 2 ≤ r ∧ r ≤ p.length))
theorem hasPre_33 (q : LB) : Lib.hasPrefix q [33] = (q[0]? == some 33) := by
  cases q with
  | nil => rfl
  | cons x r => rw [Bool.eq_iff_iff]; simp [Lib.hasPrefix]; exact eq_comm
set_option maxHeartbeats 4000000 in
theorem rclass_any (p : LB) (a : Nat) (hp : p.length ≤ 1000000) (ha : a < p.length) (w : World) : Calls Try.prog 48 #[.string ⟨p.toArray⟩, .int .i64 (a : Int)] w (ClsR p a w) := by
  have HCS := hide (class_some p a)
  have hB : classB (p.drop a) = if p[a + 1]? = some 33 then 2 else 1 := by
    unfold classB
    rw [hasPre_33, List.drop_drop, List.getElem?_drop]
    simp
  by_cases h33 : p[a + 1]? = some 33
  · rw [if_pos h33] at hB
    have HI : Hid (clsI p a = a + 2) := hide (by unfold clsI; rw [hB])
    obtain ⟨h1, _⟩ := List.getElem?_eq_some_iff.1 h33
    have hix : ∀ W, (Instr.index 9 (.string ⟨p.toArray⟩) (.int .i64 ((a : Int) + 1))).run Try.prog W = .ok (.int .u8 33) W := fun W => by
      have := ix_l p (a + 1) 33 h33 W
      push_cast at this
      exact this
    have hl1 : (a : Int) + 1 < (p.length : Int) := by omega
    clear hB h33
    go_enter Try.func48, Try.ntmps48
    go_wp2_with fail
    go_loop [6] (fun u6 => ∃ k : Nat, a + 3 ≤ k ∧ k ≤ p.length + 3 ∧ u6 = .int .i64 (k : Int) ∧ Hid (∀ q, a + 3 ≤ q → q < k → p[q]? ≠ some 93)) (fun u6 => p.length + 3 - (intOf u6).toNat)
    case atStart => exact ⟨a + 3, Nat.le_refl _, by omega, by first | rfl | go_num | (congr 1; omega), hide (fun q h1 h2 => by omega)⟩
    case round =>
      obtain ⟨k, hk1, hk2, rfl, HQ⟩ := hrel
      by_cases hlt : k < p.length
      · obtain ⟨x, hx⟩ : ∃ x, p[k]? = some x := ⟨_, List.getElem?_eq_getElem hlt⟩
        have hixk := ix_l p k x hx
        have hlt1 : (k : Int) < (p.length : Int) := by omega
        have t93 := u8_beq x 93
        change ((x.toNat : Int) == 93) = _ at t93
        by_cases h93 : x = 93
        · have HS : Hid ((classP (p.drop a)).isSome = true) := hide (HCS.out.2 ⟨k, by rw [HI.out]; omega, by rw [hx, h93]⟩)
          rw [beq_iff_eq.2 h93] at t93
          clear hx h93 HQ
          go_wp2_with fail
          go_ret
          exact ⟨k + 1, by first | rfl | (congr 1; go_num) | (congr 2; omega), rfl, .inr ⟨HS.out, by rw [HI.out]; omega, by omega⟩⟩
        · have HQ2 : Hid (∀ q, a + 3 ≤ q → q < k + 1 → p[q]? ≠ some 93) := hide (fun q h1 h2 => by
            rcases Nat.lt_or_ge q k with h3 | h3
            · exact HQ.out q h1 h3
            · obtain rfl : q = k := by omega
              rw [hx]; intro e; injection e with e; exact h93 e)
          rw [beq_eq_false_iff_ne.2 h93] at t93
          clear hx h93 HQ
          go_wp2_with fail
          go_round
          case rel => exact ⟨k + 1, by omega, by omega, by go_num, HQ2⟩
          case measure => simp [intOf]; omega
      · have hlt1 : ¬ (k : Int) < (p.length : Int) := by omega
        have HS : Hid ((classP (p.drop a)).isSome = false) := hide (by
          rw [← Bool.not_eq_true]
          intro h
          obtain ⟨q, h1, h2⟩ := HCS.out.1 h
          rw [HI.out] at h1
          obtain ⟨h3, _⟩ := List.getElem?_eq_some_iff.1 h2
          exact HQ.out q (by omega) (by omega) h2)
        clear HQ
        go_wp2_with fail
        go_ret
        exact ⟨0, rfl, rfl, .inl ⟨HS.out, rfl⟩⟩
  · rw [if_neg h33] at hB
    have HI : Hid (clsI p a = a + 1) := hide (by unfold clsI; rw [hB])
    rcases Nat.lt_or_ge (a + 1) p.length with h1 | h1
    · obtain ⟨y, hy⟩ : ∃ y, p[a + 1]? = some y := ⟨_, List.getElem?_eq_getElem h1⟩
      have hix : ∀ W, (Instr.index 9 (.string ⟨p.toArray⟩) (.int .i64 ((a : Int) + 1))).run Try.prog W = .ok (.int .u8 (y.toNat : Int)) W := fun W => by
        have := ix_l p (a + 1) y hy W
        push_cast at this
        exact this
      have hy33 : y ≠ 33 := fun h => h33 (by rw [hy, h])
      have t33 := u8_beq y 33
      change ((y.toNat : Int) == 33) = _ at t33
      rw [beq_eq_false_iff_ne.2 hy33] at t33
      have hl1 : (a : Int) + 1 < (p.length : Int) := by omega
      clear hB h33 hy hy33
      go_enter Try.func48, Try.ntmps48
      go_wp2_with fail
      go_loop [6] (fun u6 => ∃ k : Nat, a + 2 ≤ k ∧ k ≤ p.length + 3 ∧ u6 = .int .i64 (k : Int) ∧ Hid (∀ q, a + 2 ≤ q → q < k → p[q]? ≠ some 93)) (fun u6 => p.length + 3 - (intOf u6).toNat)
      case atStart => exact ⟨a + 2, Nat.le_refl _, by omega, by first | rfl | go_num | (congr 1; omega), hide (fun q h1 h2 => by omega)⟩
      case round =>
        obtain ⟨k, hk1, hk2, rfl, HQ⟩ := hrel
        by_cases hlt : k < p.length
        · obtain ⟨x, hx⟩ : ∃ x, p[k]? = some x := ⟨_, List.getElem?_eq_getElem hlt⟩
          have hixk := ix_l p k x hx
          have hlt1 : (k : Int) < (p.length : Int) := by omega
          have t93 := u8_beq x 93
          change ((x.toNat : Int) == 93) = _ at t93
          by_cases h93 : x = 93
          · have HS : Hid ((classP (p.drop a)).isSome = true) := hide (HCS.out.2 ⟨k, by rw [HI.out]; omega, by rw [hx, h93]⟩)
            rw [beq_iff_eq.2 h93] at t93
            clear hx h93 HQ
            go_wp2_with fail
            go_ret
            exact ⟨k + 1, by first | rfl | (congr 1; go_num) | (congr 2; omega), rfl, .inr ⟨HS.out, by rw [HI.out]; omega, by omega⟩⟩
          · have HQ2 : Hid (∀ q, a + 2 ≤ q → q < k + 1 → p[q]? ≠ some 93) := hide (fun q h1 h2 => by
              rcases Nat.lt_or_ge q k with h3 | h3
              · exact HQ.out q h1 h3
              · obtain rfl : q = k := by omega
                rw [hx]; intro e; injection e with e; exact h93 e)
            rw [beq_eq_false_iff_ne.2 h93] at t93
            clear hx h93 HQ
            go_wp2_with fail
            go_round
            case rel => exact ⟨k + 1, by omega, by omega, by go_num, HQ2⟩
            case measure => simp [intOf]; omega
        · have hlt1 : ¬ (k : Int) < (p.length : Int) := by omega
          have HS : Hid ((classP (p.drop a)).isSome = false) := hide (by
            rw [← Bool.not_eq_true]
            intro h
            obtain ⟨q, h1, h2⟩ := HCS.out.1 h
            rw [HI.out] at h1
            obtain ⟨h3, _⟩ := List.getElem?_eq_some_iff.1 h2
            exact HQ.out q (by omega) (by omega) h2)
          clear HQ
          go_wp2_with fail
          go_ret
          exact ⟨0, rfl, rfl, .inl ⟨HS.out, rfl⟩⟩
    · have hl1 : ¬ (a : Int) + 1 < (p.length : Int) := by omega
      clear hB h33
      go_enter Try.func48, Try.ntmps48
      go_wp2_with fail
      go_loop [6] (fun u6 => ∃ k : Nat, a + 2 ≤ k ∧ k ≤ p.length + 3 ∧ u6 = .int .i64 (k : Int) ∧ Hid (∀ q, a + 2 ≤ q → q < k → p[q]? ≠ some 93)) (fun u6 => p.length + 3 - (intOf u6).toNat)
      case atStart => exact ⟨a + 2, Nat.le_refl _, by omega, by first | rfl | go_num | (congr 1; omega), hide (fun q h1 h2 => by omega)⟩
      case round =>
        obtain ⟨k, hk1, hk2, rfl, HQ⟩ := hrel
        by_cases hlt : k < p.length
        · obtain ⟨x, hx⟩ : ∃ x, p[k]? = some x := ⟨_, List.getElem?_eq_getElem hlt⟩
          have hixk := ix_l p k x hx
          have hlt1 : (k : Int) < (p.length : Int) := by omega
          have t93 := u8_beq x 93
          change ((x.toNat : Int) == 93) = _ at t93
          by_cases h93 : x = 93
          · have HS : Hid ((classP (p.drop a)).isSome = true) := hide (HCS.out.2 ⟨k, by rw [HI.out]; omega, by rw [hx, h93]⟩)
            rw [beq_iff_eq.2 h93] at t93
            clear hx h93 HQ
            go_wp2_with fail
            go_ret
            exact ⟨k + 1, by first | rfl | (congr 1; go_num) | (congr 2; omega), rfl, .inr ⟨HS.out, by rw [HI.out]; omega, by omega⟩⟩
          · have HQ2 : Hid (∀ q, a + 2 ≤ q → q < k + 1 → p[q]? ≠ some 93) := hide (fun q h1 h2 => by
              rcases Nat.lt_or_ge q k with h3 | h3
              · exact HQ.out q h1 h3
              · obtain rfl : q = k := by omega
                rw [hx]; intro e; injection e with e; exact h93 e)
            rw [beq_eq_false_iff_ne.2 h93] at t93
            clear hx h93 HQ
            go_wp2_with fail
            go_round
            case rel => exact ⟨k + 1, by omega, by omega, by go_num, HQ2⟩
            case measure => simp [intOf]; omega
        · have hlt1 : ¬ (k : Int) < (p.length : Int) := by omega
          have HS : Hid ((classP (p.drop a)).isSome = false) := hide (by
            rw [← Bool.not_eq_true]
            intro h
            obtain ⟨q, h1, h2⟩ := HCS.out.1 h
            rw [HI.out] at h1
            obtain ⟨h3, _⟩ := List.getElem?_eq_some_iff.1 h2
            exact HQ.out q (by omega) (by omega) h2)
          clear HQ
          go_wp2_with fail
          go_ret
          exact ⟨0, rfl, rfl, .inl ⟨HS.out, rfl⟩⟩
end Go.Proofs.Ytnongbbhpkmdjaa
