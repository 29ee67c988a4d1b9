/- Contracts of path.Check and path.Name at every text. -/
import Derived.Test.YtfggoleghpicfaaDoorRefZ
namespace Go.Proofs.YtfggoleghpicfaaDoor
open Go.RowKit
set_option linter.unusedVariables false
def zC (z : Int) : Int := if 0 ≤ z then 32 else 0
set_option maxHeartbeats 1000000 in
theorem check_long (l : Bs) (w : World) (h1 : 256 < l.length) :
    Calls Tryd.prog 10 #[.string ⟨l.toArray⟩] w fun e w' => e = .returned (.int .i64 31) ∧ Below w.heap.size w w' := by
  have he : l.isEmpty = false := by cases l with
    | nil => simp at h1
    | cons x t => rfl
  go_enter Tryd.func10, Tryd.ntmps10
  go_wp2
  go_ret
  exact ⟨rfl, Below.refl _ _⟩
set_option maxHeartbeats 1000000 in
theorem check_parts (l : Bs) (w : World) (h : Std w) (h0 : l ≠ []) (h1 : l.length ≤ 256) :
    Calls Tryd.prog 10 #[.string ⟨l.toArray⟩] w fun e w' => (((∀ k ∈ splitC 47 l, k.length ≤ 32) ∧ e = .returned (.int .i64 (zC (Lib.indexByte l 0)))) ∨ ((∃ k ∈ splitC 47 l, 32 < k.length) ∧ e = .returned (.int .i64 31))) ∧ Below w.heap.size w w' := by
  have he : l.isEmpty = false := by cases l with
    | nil => exact absurd rfl h0
    | cons x t => rfl
  obtain ⟨m, hm⟩ := h
  have HSp := hide (split_c ⟨l.toArray⟩ m w (show l.length ≤ 100000 by omega) hm)
  have hIx := Any.strings_IndexByte Tryd.lays137 ⟨l.toArray⟩ 0
  have HIx : Hid (∀ V, Calls Tryd.prog 29 #[.string ⟨l.toArray⟩, .int .u8 0] V fun e w' => e = .returned (.int .i64 (Lib.indexByte l 0)) ∧ V = w') := hide fun V => by
    refine (hIx V).mono ?_
    rintro e w' ⟨rfl, rfl⟩
    exact ⟨rfl, rfl⟩
  have hL := splitC_le 47 l
  clear h0 hm hIx
  change Hid (Calls Tryd.prog 28 #[.string ⟨l.toArray⟩, .string ⟨#[47]⟩] w fun e w' => e = .returned (.slice (some ⟨w.heap.size, 0, none⟩) (splitC 47 l).length (splitC 47 l).length) ∧ w.alloc (.cells (svs (splitC 47 l)).toArray 9) = w') at HSp
  generalize splitC 47 l = ps at HSp hL ⊢
  generalize Lib.indexByte l 0 = z at HIx ⊢
  go_enter Tryd.func10, Tryd.ntmps10
  go_wp2_with fail
  refine HSp.out.mono ?_
  rintro e w1 ⟨rfl, hw1⟩
  have hnew := Blk.new w 9 (svs ps).toArray
  have hb1 := (Below.refl w.heap.size w).alloc (Nat.le_refl _) (.cells (svs ps).toArray 9)
  rw [hw1] at hnew hb1
  have HN := hide hnew
  have HB := hide hb1
  clear hw1 hnew hb1
  go_wp2
  go_loop [13] (fun i => ∃ k : Nat, k ≤ ps.length ∧ i = .int .i64 k ∧ Hid (∀ j (h : j < ps.length), j < k → (ps[j]).length ≤ 32)) (fun i => ps.length - (intOf i).toNat)
  case atStart => exact ⟨0, Nat.zero_le _, rfl, hide (fun j h h2 => by omega)⟩
  case round =>
    obtain ⟨k, hk, rfl, HA⟩ := hrel
    by_cases hlt : k < ps.length
    · have hcell : w1.cell? ⟨w.heap.size, k, none⟩ = some (.string ⟨ps[k].toArray⟩) := by
        rw [HN.out.cell]; simp [svs, sv, hlt]
      rcases Nat.lt_or_ge 32 (ps[k]).length with hbig | hsm
      · have HE : Hid (∃ k ∈ ps, 32 < k.length) := hide ⟨ps[k], List.getElem_mem _, hbig⟩
        generalize ps[k] = x at *
        have hl32' : 32 < (x.length : Int) := by omega
        go_wp2
        go_ret
        exact ⟨.inr ⟨HE.out, rfl⟩, HB.out⟩
      · have HA2 : Hid (∀ j (h : j < ps.length), j < k + 1 → (ps[j]).length ≤ 32) := hide fun j h h2 => by
          rcases Nat.lt_or_ge j k with h3 | h3
          · exact HA.out j h h3
          · obtain rfl : j = k := by omega
            exact hsm
        generalize ps[k] = x at *
        have hl32' : (x.length : Int) ≤ 32 := by omega
        go_wp2
        go_round
        case rel => exact ⟨k + 1, by omega, by go_num, HA2⟩
        case measure => simp [intOf]; omega
    · have HF : Hid (∀ k ∈ ps, k.length ≤ 32) := hide fun x hx => by
        obtain ⟨j, hj, rfl⟩ := List.getElem_of_mem hx
        exact HA.out j hj (by omega)
      clear HA
      by_cases hz : 0 ≤ z
      · have HZ : Hid (zC z = 32) := hide (by unfold zC; rw [if_pos hz])
        go_wp2_with fail
        refine (HIx.out _).mono ?_
        rintro e w2 ⟨rfl, rfl⟩
        go_wp2
        go_ret
        exact ⟨.inl ⟨HF.out, by rw [HZ.out]; rfl⟩, HB.out⟩
      · have HZ : Hid (zC z = 0) := hide (by unfold zC; rw [if_neg hz])
        go_wp2_with fail
        refine (HIx.out _).mono ?_
        rintro e w2 ⟨rfl, rfl⟩
        go_wp2
        go_ret
        exact ⟨.inl ⟨HF.out, by rw [HZ.out]; rfl⟩, HB.out⟩

/-- Is a part too long? -/
def longL (l : Bs) : Bool := (splitC 47 l).any fun k => decide (32 < k.length)
def checkC (l : Bs) : Int := if l = [] then 20 else if 256 < l.length ∨ longL l = true then 31 else if hasL l 0 = true then 32 else 0
theorem index_has (l : Bs) (c : UInt8) : 0 ≤ Lib.indexByte l c ↔ hasL l c = true := by
  unfold hasL
  rw [List.contains_iff_mem]
  induction l with
  | nil => simp [Lib.indexByte]
  | cons x t ih =>
    by_cases h : x = c
    · subst h; simp [Lib.indexByte]
    · have hb : (x == c) = false := beq_eq_false_iff_ne.2 h
      have h1 : c ∈ x :: t ↔ c ∈ t := by simp [Ne.symm h]
      rw [h1, ← ih]
      simp only [Lib.indexByte, hb]
      by_cases hm : Lib.indexByte t c = -1
      · rw [hm]; simp
      · have : (Lib.indexByte t c == -1) = false := beq_eq_false_iff_ne.2 hm
        have hge : -1 ≤ Lib.indexByte t c := Lib.indexByte_ge t c
        simp [this]; omega
theorem check_any (l : Bs) (w : World) (h : Std w) : Calls Tryd.prog 10 #[.string ⟨l.toArray⟩] w fun e w' => e = .returned (.int .i64 (checkC l)) ∧ Below w.heap.size w w' := by
  by_cases h0 : l = []
  · subst h0
    refine (check_nil w).mono ?_
    rintro e w' ⟨rfl, hb⟩
    exact ⟨rfl, hb⟩
  by_cases h1 : 256 < l.length
  · refine (check_long l w h1).mono ?_
    rintro e w' ⟨rfl, hb⟩
    exact ⟨ret_int (by unfold checkC; rw [if_neg h0, if_pos (.inl h1)]), hb⟩
  refine (check_parts l w h h0 (by omega)).mono ?_
  rintro e w' ⟨⟨ha, rfl⟩ | ⟨ha, rfl⟩, hb⟩
  · have hn : longL l = false := by
      unfold longL
      rw [List.any_eq_false]
      intro k hk
      have := ha k hk
      simp; omega
    refine ⟨ret_int ?_, hb⟩
    unfold checkC
    rw [if_neg h0, if_neg (by simp [h1, hn])]
    unfold zC
    by_cases hx : hasL l 0 = true
    · rw [if_pos hx, if_pos ((index_has l 0).2 hx)]
    · rw [if_neg hx, if_neg (fun h => hx ((index_has l 0).1 h))]
  · have hn : longL l = true := by
      obtain ⟨k, hk, h2⟩ := ha
      unfold longL
      rw [List.any_eq_true]
      exact ⟨k, hk, by simpa using h2⟩
    exact ⟨ret_int (by unfold checkC; rw [if_neg h0, if_pos (.inr hn)]), hb⟩
theorem clear_has {l : Bs} (h : Clear l l.length) : hasL l 47 = false ∧ hasL l 0 = false := by
  constructor <;>
  · unfold hasL
    rw [Bool.eq_false_iff]
    intro hc
    rw [List.contains_iff_mem] at hc
    obtain ⟨j, hj⟩ := List.getElem?_of_mem hc
    obtain ⟨hjl, _⟩ := List.getElem?_eq_some_iff.1 hj
    have := h j _ hjl hj
    first | exact this.1 rfl | exact this.2 rfl
theorem not_clear_has {l : Bs} (h : ¬ Clear l l.length) : hasL l 47 = true ∨ hasL l 0 = true := by
  by_cases h1 : hasL l 47 = true
  · exact .inl h1
  · by_cases h2 : hasL l 0 = true
    · exact .inr h2
    · refine absurd ?_ h
      intro j b hj hb
      unfold hasL at h1 h2
      rw [List.contains_iff_mem] at h1 h2
      have := List.mem_of_getElem? hb
      constructor
      · rintro rfl; exact h1 this
      · rintro rfl; exact h2 this
set_option maxHeartbeats 1000000 in
theorem name_c (l : Bs) (w : World) (hl : l.length ≤ 9223372036854775807) : Calls Tryd.prog 12 #[.string ⟨l.toArray⟩] w fun e w' => e = .returned (.int .i64 (nameC l)) ∧ Below w.heap.size w w' := by
  have hh := has_any ⟨l.toArray⟩ w (show l.length ≤ _ from hl)
  change Calls Tryd.prog 31 #[.string ⟨l.toArray⟩, .string ⟨#[47, 0]⟩] w (RetHas w ⟨l.toArray⟩) at hh
  have HH := hide hh
  clear hh
  by_cases e0 : l = []
  · subst e0
    go_enter Tryd.func12, Tryd.ntmps12
    go_wp2
    go_ret
    exact ⟨rfl, Below.refl _ _⟩
  by_cases e1 : l = [46]
  · subst e1
    go_enter Tryd.func12, Tryd.ntmps12
    go_wp2
    go_ret
    exact ⟨rfl, Below.refl _ _⟩
  by_cases e2 : l = [46, 46]
  · subst e2
    go_enter Tryd.func12, Tryd.ntmps12
    go_wp2
    go_ret
    exact ⟨rfl, Below.refl _ _⟩
  have t0 : l.isEmpty = false := by cases l with
    | nil => exact absurd rfl e0
    | cons x t => rfl
  have t1 : (l == [46]) = false := beq_eq_false_iff_ne.2 e1
  have t2 : (l == [46, 46]) = false := beq_eq_false_iff_ne.2 e2
  have HE : Hid (nameC l = if hasL l 47 = true ∨ hasL l 0 = true then 32 else if 32 < l.length then 31 else 0) := hide (by unfold nameC; simp only [e0, e1, e2, false_or])
  clear e0 e1 e2
  go_enter Tryd.func12, Tryd.ntmps12
  go_wp2_with fail
  refine HH.out.mono ?_
  rintro e w1 ⟨b, rfl, hc, hb⟩
  have HC := hide hc
  have HB := hide hb
  clear hc hb
  cases b with
  | true =>
    have HN := hide (not_clear_has (l := l) (HC.out.2 rfl))
    go_wp2_with fail
    go_ret
    exact ⟨ret_int (by rw [HE.out, if_pos HN.out]), HB.out⟩
  | false =>
    have HN := hide (clear_has (l := l) (HC.out.1 rfl))
    by_cases h32 : 32 < l.length
    · have h32' : (32 : Int) < (l.length : Int) := by omega
      go_wp2_with fail
      go_ret
      exact ⟨ret_int (by rw [HE.out, HN.out.1, HN.out.2]; simp [h32]), HB.out⟩
    · have h32' : ¬ (32 : Int) < (l.length : Int) := by omega
      go_wp2_with fail
      go_ret
      exact ⟨ret_int (by rw [HE.out, HN.out.1, HN.out.2]; simp [h32]), HB.out⟩
/-- The reference's walk over a text: n bytes of the part at hand are read. -/
def longF : Nat → Bs → Bool
  | _, [] => false
  | n, x :: r => decide (32 < (if x = 47 then 0 else n + 1)) || longF (if x = 47 then 0 else n + 1) r
theorem longF_split : ∀ (l : Bs) (n : Nat), n ≤ 32 → longF n l = (decide (32 < n + ((splitC 47 l).headD []).length) || (splitC 47 l).tail.any fun k => decide (32 < k.length))
  | [], n, h => by simp [longF, splitC]; omega
  | x :: r, n, h => by
    unfold longF
    obtain ⟨a, t, e⟩ := splitC_form 47 r
    by_cases hx : x = 47
    · subst hx
      rw [if_pos rfl, longF_split r 0 (by omega), splitC, if_pos rfl, e]
      have : ¬ 32 < n := by omega
      simp [this]
    · rw [if_neg hx, splitC, if_neg hx]
      by_cases h2 : n + 1 ≤ 32
      · rw [longF_split r (n + 1) h2, e]
        have h3 : ¬ 32 < n + 1 := by omega
        have h4 : n + 1 + a.length = n + (a.length + 1) := by omega
        simp [h3, h4]
      · have h3 : 32 < n + 1 := by omega
        rw [e]
        simp [h3]
        exact .inl (by omega)
theorem longF_long (l : Bs) : longF 0 l = longL l := by
  rw [longF_split l 0 (by omega)]
  unfold longL
  obtain ⟨a, t, e⟩ := splitC_form 47 l
  rw [e]
  simp
set_option maxHeartbeats 2000000 in
theorem rcheck_any (l : Bs) (w : World) (hl : l.length ≤ 1000000) : Calls Tryd.prog 11 #[.string ⟨l.toArray⟩] w fun e w' => e = .returned (.int .i64 (checkC l)) ∧ Below w.heap.size w w' := by
  by_cases h0 : l = []
  · subst h0
    go_enter Tryd.func11, Tryd.ntmps11
    go_wp2
    go_ret
    exact ⟨rfl, Below.refl _ _⟩
  have t0 : l.isEmpty = false := by cases l with
    | nil => exact absurd rfl h0
    | cons x t => rfl
  have HE : Hid (checkC l = if 256 < l.length ∨ longL l = true then 31 else if hasL l 0 = true then 32 else 0) := hide (by unfold checkC; rw [if_neg h0])
  have HH := hide (fun V => rhas_any l 0 V hl)
  clear h0
  obtain ⟨b0, hb0⟩ : ∃ b, hasL l 0 = b := ⟨_, rfl⟩
  rw [hb0] at HH HE
  clear hb0
  by_cases h1 : 256 < l.length
  · have h1' : (256 : Int) < (l.length : Int) := by omega
    have HE2 : Hid (checkC l = 31) := hide (by rw [HE.out, if_pos (.inl h1)])
    have hd : decide ((256 : Int) < (l.length : Int)) = true := decide_eq_true h1'
    go_enter Tryd.func11, Tryd.ntmps11
    go_wp2_with fail
    go_loop [3, 4, 5] (fun u3 u4 u5 => u3 = .bool true ∧ u5 = .int .i64 0 ∧ u4 = .int .i64 0) (fun _ _ _ => 0)
    case atStart => exact ⟨rfl, rfl, rfl⟩
    case round =>
      obtain ⟨rfl, rfl, rfl⟩ := hrel
      go_wp2_with fail
      go_ret
      exact ⟨ret_int HE2.out.symm, Below.refl _ _⟩
  · have h1' : ¬ (256 : Int) < (l.length : Int) := by omega
    have HE2 : Hid (checkC l = if longF 0 l = true then 31 else if b0 = true then 32 else 0) := hide (by rw [HE.out, longF_long]; simp only [h1, false_or])
    have hd : decide ((256 : Int) < (l.length : Int)) = false := decide_eq_false h1'
    go_enter Tryd.func11, Tryd.ntmps11
    go_wp2_with fail
    go_loop [3, 4, 5] (fun u3 u4 u5 => ∃ (i n : Nat) (b : Bool), u3 = .bool b ∧ u5 = .int .i64 i ∧ u4 = .int .i64 n ∧ i ≤ l.length ∧ n ≤ i ∧ Hid (longF 0 l = (b || longF n (l.drop i)))) (fun _ _ u5 => l.length - (intOf u5).toNat)
    case atStart => exact ⟨0, 0, false, rfl, rfl, rfl, Nat.zero_le _, Nat.zero_le _, hide (by simp)⟩
    case round =>
      obtain ⟨i, n, b, rfl, rfl, rfl, hi, hn, HL⟩ := hrel
      by_cases hlt : i < l.length
      · cases b with
        | true =>
          have HE3 : Hid (checkC l = 31) := hide (by rw [HE2.out, HL.out]; simp)
          have hlt' : (i : Int) < (l.length : Int) := by omega
          go_wp2_with fail
          go_ret
          exact ⟨ret_int HE3.out.symm, Below.refl _ _⟩
        | false =>
          obtain ⟨x, hx⟩ : ∃ x, l[i]? = some x := ⟨_, List.getElem?_eq_getElem hlt⟩
          have hix := ix_l l i x hx
          have hdr : l.drop i = x :: l.drop (i + 1) := by
            obtain ⟨h1, h2⟩ := List.getElem?_eq_some_iff.1 hx
            rw [List.drop_eq_getElem_cons h1, h2]
          have HD := hide hdr
          clear hx hdr
          by_cases hx47 : x = 47
          · subst hx47
            have HL2 : Hid (longF 0 l = (false || longF 0 (l.drop (i + 1)))) := hide (by rw [HL.out, HD.out]; simp [longF])
            clear HL
            go_wp2_with fail
            go_round
            case rel => exact ⟨i + 1, 0, false, rfl, by go_num, rfl, by omega, by omega, HL2⟩
            case measure => simp [intOf]; omega
          · have hz : ((x.toNat : Int) == 47) = false := by rw [toNat47]; exact beq_eq_false_iff_ne.2 hx47
            by_cases h32 : 32 < n + 1
            · have h32' : (32 : Int) < (n : Int) + 1 := by omega
              have hdc : decide ((32 : Int) < (n : Int) + 1) = true := decide_eq_true h32'
              have HL2 : Hid (longF 0 l = (true || longF (n + 1) (l.drop (i + 1)))) := hide (by rw [HL.out, HD.out]; simp [longF, hx47, h32])
              clear HL hx47
              go_wp2_with fail
              go_round
              case rel => exact ⟨i + 1, n + 1, true, by first | rfl | rw [hdc], by go_num, by go_num, by omega, by omega, HL2⟩
              case measure => simp [intOf]; omega
            · have h32' : ¬ (32 : Int) < (n : Int) + 1 := by omega
              have hdc : decide ((32 : Int) < (n : Int) + 1) = false := decide_eq_false h32'
              have HL2 : Hid (longF 0 l = (false || longF (n + 1) (l.drop (i + 1)))) := hide (by rw [HL.out, HD.out]; simp [longF, hx47, h32])
              clear HL hx47
              go_wp2_with fail
              go_round
              case rel => exact ⟨i + 1, n + 1, false, by first | rfl | rw [hdc], by go_num, by go_num, by omega, by omega, HL2⟩
              case measure => simp [intOf]; omega
      · have HL2 : Hid (longF 0 l = b) := hide (by rw [HL.out, List.drop_of_length_le (by omega)]; simp [longF])
        rw [HL2.out] at HE2
        clear HL
        cases b with
        | true =>
          go_wp2_with fail
          go_ret
          exact ⟨ret_int (by rw [HE2.out]; rfl), Below.refl _ _⟩
        | false =>
          go_wp2_with fail
          refine (HH.out _).mono ?_
          rintro e w1 ⟨rfl, rfl⟩
          cases b0 with
          | true =>
            go_wp2_with fail
            go_ret
            exact ⟨ret_int (by rw [HE2.out]; rfl), Below.refl _ _⟩
          | false =>
            go_wp2_with fail
            go_ret
            exact ⟨ret_int (by rw [HE2.out]; rfl), Below.refl _ _⟩
end Go.Proofs.YtfggoleghpicfaaDoor
