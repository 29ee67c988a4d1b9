/- The law FieldPattern. -/
import Derived.Test.YtnongbbhpkmdjaaFldZ
import Derived.Test.YtnongbbhpkmdjaaFldK
import Derived.Test.YtnongbbhpkmdjaaFldQ
namespace Go.Proofs.Ytnongbbhpkmdjaa
open Go.RowKit
set_option linter.unusedVariables false
/-- The elements of what is written of a byte. -/
def elQ (c : UInt8) : E := if c = 42 ∨ c = 63 ∨ c = 91 ∨ c = 92 then .esc c else .lit c
def elU (c : UInt8) : E := if c = 42 then .star else if c = 63 then .any else .lit c
def elB (x : Bool × UInt8) : E := if x.1 then elQ x.2 else elU x.2
def fl (l : List Pc) : List (Bool × UInt8) := (l.map fun p => p.text.map fun c => (p.quoted, c)).flatten
theorem fl_snd (l : List Pc) : (fl l).map (·.2) = txl l := by
  unfold fl txl
  rw [List.map_flatten, List.map_map]
  congr 1
  apply List.map_congr_left
  intro p _
  simp [Function.comp_def]
theorem encQ (t : LB) : encs (t.map elQ) = quoteP t := by
  induction t with
  | nil => rfl
  | cons c r ih =>
    rw [List.map_cons, encs_cons, ih]
    unfold quoteP
    rw [List.flatMap_cons]
    congr 1
    unfold elQ quoteC
    split <;> rfl
theorem encU (t : LB) : encs (t.map elU) = t := by
  induction t with
  | nil => rfl
  | cons c r ih =>
    rw [List.map_cons, encs_cons, ih]
    unfold elU
    split
    · rename_i h; rw [h]; rfl
    · split
      · rename_i h; rw [h]; rfl
      · rfl
theorem enc_fl (l : List Pc) : encs ((fl l).map elB) = patL l := by
  induction l with
  | nil => rfl
  | cons p r ih =>
    have e : fl (p :: r) = p.text.map (fun c => (p.quoted, c)) ++ fl r := by simp [fl]
    have e2 : patL (p :: r) = patP p ++ patL r := by simp [patL]
    rw [e, e2, List.map_append, encs_app, ih]
    congr 1
    unfold patP
    cases hq : p.quoted with
    | true =>
      rw [if_pos rfl, ← encQ, List.map_map]
      rfl
    | false =>
      rw [if_neg (by decide)]
      conv => rhs; rw [← encU p.text]
      rw [List.map_map]
      rfl
def goodP (l : List Pc) : Prop := ∀ p ∈ l, p.quoted = false → ∀ c ∈ p.text, c ≠ 92 ∧ c ≠ 91
def plainP (l : List Pc) : Prop := ∀ p ∈ l, p.quoted = false → p.text = []
theorem fl_mem {l : List Pc} {x : Bool × UInt8} (h : x ∈ fl l) : ∃ p ∈ l, p.quoted = x.1 ∧ x.2 ∈ p.text := by
  unfold fl at h
  obtain ⟨a, ha, hx⟩ := List.mem_flatten.1 h
  obtain ⟨p, hp, rfl⟩ := List.mem_map.1 ha
  obtain ⟨c, hc, rfl⟩ := List.mem_map.1 hx
  exact ⟨p, hp, rfl, hc⟩
theorem fl_ok {l : List Pc} (h : goodP l) : ∀ e ∈ (fl l).map elB, e.ok := by
  intro e he
  obtain ⟨⟨q, c⟩, hx, rfl⟩ := List.mem_map.1 he
  obtain ⟨p, hp, hq, hc⟩ := fl_mem hx
  dsimp only at hq hc
  unfold elB
  cases q with
  | true =>
    dsimp only
    rw [if_pos rfl]
    unfold elQ
    split
    · exact trivial
    · rename_i hn
      refine ⟨fun e => hn (.inl e), fun e => hn (.inr (.inl e)), fun e => hn (.inr (.inr (.inl e))), fun e => hn (.inr (.inr (.inr e)))⟩
  | false =>
    dsimp only
    rw [if_neg (by decide)]
    obtain ⟨h1, h2⟩ := h p hp hq c hc
    unfold elU
    split
    · exact trivial
    · split
      · exact trivial
      · exact ⟨by assumption, by assumption, h2, h1⟩
theorem MM_fit (e : E) (r : List E) (c : UInt8) (t : LX) (he : e.sem.1 = true ∨ e.sem.2 c = true) (h : MM r t = true) : MM (e :: r) (c :: t) = true := by
  unfold MM at *
  rw [List.map_cons]
  cases hs : e.sem.1 with
  | true =>
    rw [M_many _ _ _ hs, starM_iff]
    exact ⟨1, h⟩
  | false =>
    rw [M_one _ _ _ _ hs, h, Bool.and_true]
    rcases he with he | he
    · rw [hs] at he; cases he
    · exact he
theorem elB_fit (x : Bool × UInt8) : (elB x).sem.1 = true ∨ (elB x).sem.2 x.2 = true := by
  obtain ⟨q, c⟩ := x
  unfold elB
  dsimp only
  split
  · unfold elQ
    split <;> simp [E.sem]
  · unfold elU
    split
    · simp [E.sem]
    · split <;> simp [E.sem]
theorem MM_self : ∀ L : List (Bool × UInt8), MM (L.map elB) (L.map (·.2)) = true
  | [] => rfl
  | x :: r => MM_fit _ _ _ _ (elB_fit x) (MM_self r)
theorem elQ_sem (c : UInt8) : (elQ c).sem.1 = false ∧ ∀ x, (elQ c).sem.2 x = (c == x) := by
  unfold elQ
  split <;> exact ⟨rfl, fun _ => rfl⟩
theorem MM_quoted : ∀ (L : List (Bool × UInt8)) (t : LX), (∀ x ∈ L, x.1 = true) → MM (L.map elB) t = (t == L.map (·.2))
  | [], t, _ => by
    show M [] t = _
    rw [M]
    cases t <;> rfl
  | (q, c) :: r, t, h => by
    obtain rfl : q = true := h (q, c) (by simp)
    obtain ⟨h1, h2⟩ := elQ_sem c
    have e : elB (true, c) = elQ c := rfl
    cases t with
    | nil =>
      unfold MM
      rw [List.map_cons, List.map_cons, e, M_none _ _ h1]
      rfl
    | cons y s =>
      have ih := MM_quoted r s (fun x hx => h x (by simp [hx]))
      unfold MM at *
      rw [List.map_cons, List.map_cons, e, M_one _ _ _ _ h1, ih, h2, List.map_cons]
      show _ = ((y == c) && (s == _))
      rw [show (c == y) = (y == c) by rw [Bool.eq_iff_iff, beq_iff_eq, beq_iff_eq]; exact eq_comm]
theorem fl_plain {l : List Pc} (h : plainP l) : ∀ x ∈ fl l, x.1 = true := by
  intro x hx
  obtain ⟨p, hp, hq, hc⟩ := fl_mem hx
  cases hx1 : x.1 with
  | true => rfl
  | false =>
    rw [hx1] at hq
    rw [h p hp hq] at hc
    cases hc
set_option maxRecDepth 1000000 in
set_option maxHeartbeats 8000000 in
theorem pattern_any0 (l : List Pc) (o : LB) (A : Option Addr) (n c : Nat) (w : World) (hR : RdP w A n l) (h : ¬ (fewP l ∧ o.length ≤ 300)) :
    Calls Try.prog 6 #[.slice A n c, .string ⟨o.toArray⟩] w fun e w' => e = .returned (.bool true) ∧ Below w.heap.size w w' := by
  have XH := hide heads_any
  by_cases hf : fewP l
  · have XF := hide (few_yes l A n c w hR hf)
    have k1 : (300 : Int) < (o.length : Int) := by
      have : ¬ o.length ≤ 300 := fun h' => h ⟨hf, h'⟩
      omega
    clear h hf hR
    go_enter Try.func6, Try.ntmps6
    go_wp2_with fail
    refine XF.out.mono ?_
    rintro e w' ⟨rfl, rfl⟩
    go_wp2_with fail
    refine (XH.out _).mono ?_
    rintro e w' ⟨rfl, hb⟩
    have HB := hide hb
    clear hb
    go_wp2_with fail
    go_ret
    exact ⟨rfl, HB.out⟩
  · have XF := hide (few_no l A n c w hR hf)
    clear h hf hR
    go_enter Try.func6, Try.ntmps6
    go_wp2_with fail
    refine XF.out.mono ?_
    rintro e w' ⟨rfl, rfl⟩
    go_wp2_with fail
    refine (XH.out _).mono ?_
    rintro e w' ⟨rfl, hb⟩
    have HB := hide hb
    clear hb
    go_wp2_with fail
    go_ret
    exact ⟨rfl, HB.out⟩
set_option maxRecDepth 1000000 in
set_option maxHeartbeats 16000000 in
theorem pattern_any1 (l : List Pc) (o : LB) (A : Option Addr) (n c : Nat) (w : World) (hR : RdP w A n l) (hf : fewP l) (ho : o.length ≤ 300) :
    Calls Try.prog 6 #[.slice A n c, .string ⟨o.toArray⟩] w fun e w' => e = .returned (.bool true) ∧ Below w.heap.size w w' := by
  have XH := hide heads_any
  have XF := hide (few_yes l A n c w hR hf)
  have hll : l.length = n := by have := hR.1; rw [pvs_length] at this; omega
  have hn40 : n ≤ 40 := by have := hf.1; omega
  have HLL := hide hll
  have htx := few_txl hf
  have R := hide hR
  have HF := hide hf.2
  have k1 : ¬ (300 : Int) < (o.length : Int) := by omega
  clear hR hll hf
  go_enter Try.func6, Try.ntmps6
  go_wp2_with fail
  refine XF.out.mono ?_
  rintro e w' ⟨rfl, rfl⟩
  clear XF
  go_wp2_with fail
  go_loop [5, 6, 7] (fun u5 u6 u7 => ∃ (i m : Nat) (b : Bool), i ≤ n ∧ m ≤ 20000 ∧ u5 = .int .i64 (m : Int) ∧ u6 = .bool b ∧ u7 = .int .i64 (i : Int) ∧ Hid (m = (txl (l.take i)).length) ∧ Hid (goodP (l.take i)) ∧ Hid (b = true → plainP (l.take i))) (fun _ _ u7 => n - (intOf u7).toNat)
  case atStart => exact ⟨0, 0, true, Nat.zero_le _, Nat.zero_le _, rfl, rfl, rfl, hide rfl, hide (fun p hp => by simp at hp), hide (fun _ p hp => by simp at hp)⟩
  case round =>
    obtain ⟨i, m, b, hi, hm, rfl, rfl, rfl, HM, HG, HP⟩ := hrel
    by_cases hlt : i < n
    · obtain ⟨p, hp⟩ : ∃ p, l[i]? = some p := ⟨_, List.getElem?_eq_getElem (by have := HLL.out; omega)⟩
      obtain ⟨g, oo, rfl, hg, q0, q1, q2, q3⟩ := pc_cells R.out hp
      have hpt := HF.out p (List.mem_of_getElem? hp)
      have hia := fun W => pc_at g oo n c i (i : Int) rfl hlt W
      have hlt' : (i : Int) < (n : Int) := by omega
      have HM2 : Hid (m + p.text.length = (txl (l.take (i + 1))).length) := hide (by rw [take_snoc' hp, txl_snoc, List.length_append, HM.out])
      have hm2 : m + p.text.length ≤ 12000 := by
        rw [HM2.out]
        have := txl_take l (i + 1)
        omega
      have HG2 : Hid ((p.quoted = false → ∀ c ∈ p.text, c ≠ 92 ∧ c ≠ 91) → goodP (l.take (i + 1))) := hide (fun h q hq => by
        rw [take_snoc' hp, List.mem_append, List.mem_singleton] at hq
        rcases hq with hq | rfl
        · exact HG.out q hq
        · exact h)
      have HP2 : Hid (∀ b2 : Bool, (b2 = true → b = true) → (b2 = true → p.quoted = false → p.text = []) → b2 = true → plainP (l.take (i + 1))) := hide (fun b2 h1 h2 h q hq => by
        rw [take_snoc' hp, List.mem_append, List.mem_singleton] at hq
        rcases hq with hq | rfl
        · exact HP.out (h1 h) q hq
        · exact h2 h)
      obtain ⟨pt, pq, ps, pg⟩ := p
      dsimp only at q0 q1 q2 q3 hpt HM2 HG2 HP2 hm2
      clear hp HM HG HP q2 q3
      cases pq with
      | true =>
        have HG3 := hide (HG2.out (fun h => by cases h))
        have HP3 := hide (HP2.out b (fun h => h) (fun _ h => by cases h))
        clear HG2 HP2
        go_wp2_with fail
        go_round
        case rel => exact ⟨i + 1, m + pt.length, b, by omega, by omega, by go_num, rfl, by go_num, HM2, HG3, HP3⟩
        case measure => simp [intOf]; omega
      | false =>
        obtain ⟨b2, hb2⟩ : ∃ b2, (b && (pt == [])) = b2 := ⟨_, rfl⟩
        have HP3 : Hid (b2 = true → plainP (l.take (i + 1))) := hide (HP2.out b2 (fun h => by rw [← hb2, Bool.and_eq_true] at h; exact h.1) (fun h _ => by rw [← hb2, Bool.and_eq_true] at h; simpa using h.2))
        clear HP2
        have inner : Hid (∀ c ∈ pt, c ≠ 92 ∧ c ≠ 91) → goodP (l.take (i + 1)) := fun h => HG2.out (fun _ => h.out)
        have HG3 := hide inner
        have e5 : b = true → ((pt == []) = b2) := fun h => by rw [h] at hb2; simpa using hb2
        have e6 : b = false → b2 = false := fun h => by rw [← hb2, h]; rfl
        have HN : Hid (∀ (k : Nat) (y : UInt8), pt[k]? = some y → y ∈ pt) := hide (fun k y h => List.mem_of_getElem? h)
        have HIX := hide (fun (k : Nat) (y : UInt8) (h : pt[k]? = some y) => ix_l pt k y h)
        clear inner hb2 HG2
        cases b with
        | false =>
          have HP4 : Hid (false = true → plainP (l.take (i + 1))) := hide (fun h => by cases h)
          clear e5 e6 HP3
          go_wp2_with fail
          go_loop [8] (fun u8 => ∃ j : Nat, j ≤ pt.length ∧ u8 = .int .i64 (j : Int) ∧ Hid (∀ (k : Nat) (y : UInt8), k < j → pt[k]? = some y → y ≠ 92 ∧ y ≠ 91)) (fun u8 => pt.length - (intOf u8).toNat)
          case atStart => exact ⟨0, Nat.zero_le _, rfl, hide (fun k y h => by omega)⟩
          case round =>
            obtain ⟨j, hj, rfl, HB⟩ := hrel
            by_cases hjl : j < pt.length
            · obtain ⟨y, hy⟩ : ∃ y, pt[j]? = some y := ⟨_, List.getElem?_eq_getElem hjl⟩
              have hix := HIX.out j y hy
              have kj : (j : Int) < (pt.length : Int) := by omega
              have t92 := u8_beq y 92
              have t91 := u8_beq y 91
              change ((y.toNat : Int) == 92) = _ at t92
              change ((y.toNat : Int) == 91) = _ at t91
              by_cases h92 : y = 92
              · rw [beq_iff_eq.2 h92] at t92
                clear h92 hy HB t91
                go_wp2_with fail
                refine (XH.out _).mono ?_
                rintro e w' ⟨rfl, hb⟩
                have HB := hide hb
                clear hb
                go_wp2_with fail
                go_ret
                exact ⟨rfl, HB.out⟩
              rw [beq_eq_false_iff_ne.2 h92] at t92
              by_cases h91 : y = 91
              · rw [beq_iff_eq.2 h91] at t91
                clear h92 h91 hy HB
                go_wp2_with fail
                refine (XH.out _).mono ?_
                rintro e w' ⟨rfl, hb⟩
                have HB := hide hb
                clear hb
                go_wp2_with fail
                go_ret
                exact ⟨rfl, HB.out⟩
              rw [beq_eq_false_iff_ne.2 h91] at t91
              have HB2 : Hid (∀ (k : Nat) (z : UInt8), k < j + 1 → pt[k]? = some z → z ≠ 92 ∧ z ≠ 91) := hide (fun k z h1 h2 => by
                rcases Nat.lt_or_ge k j with h | h
                · exact HB.out k z h h2
                · obtain rfl : k = j := by omega
                  rw [hy] at h2; injection h2 with h2; rw [← h2]; exact ⟨h92, h91⟩)
              clear h92 h91 hy HB
              go_wp2_with fail
              go_round
              case rel => exact ⟨j + 1, by omega, by go_num, HB2⟩
              case measure => simp [intOf]; omega
            · have kj : ¬ (j : Int) < (pt.length : Int) := by omega
              have HG4 := hide (HG3.out (hide (fun y hy => by
                obtain ⟨k, hk⟩ := List.mem_iff_getElem?.1 hy
                exact HB.out k y (by obtain ⟨h, _⟩ := List.getElem?_eq_some_iff.1 hk; omega) hk)))
              clear HB HG3
              go_wp2_with fail
              go_round
              case rel => exact ⟨i + 1, m + pt.length, false, by omega, by omega, by go_num, rfl, by go_num, HM2, HG4, HP4⟩
              case measure => simp [intOf]; omega
        | true =>
          by_cases hpe : pt = []
          · have v1 : (pt == []) = true := by rw [hpe]; rfl
            have v2 : (pt != []) = false := by rw [hpe]; rfl
            have v3 : pt.isEmpty = true := by rw [hpe]; rfl
            have v4 : b2 = true := by rw [← e5 rfl, v1]
            have HP4 : Hid (true = true → plainP (l.take (i + 1))) := hide (fun _ => HP3.out v4)
            clear e5 e6 HP3 hpe v4
            go_wp2_with fail
            go_loop [8] (fun u8 => ∃ j : Nat, j ≤ pt.length ∧ u8 = .int .i64 (j : Int) ∧ Hid (∀ (k : Nat) (y : UInt8), k < j → pt[k]? = some y → y ≠ 92 ∧ y ≠ 91)) (fun u8 => pt.length - (intOf u8).toNat)
            case atStart => exact ⟨0, Nat.zero_le _, rfl, hide (fun k y h => by omega)⟩
            case round =>
              obtain ⟨j, hj, rfl, HB⟩ := hrel
              by_cases hjl : j < pt.length
              · obtain ⟨y, hy⟩ : ∃ y, pt[j]? = some y := ⟨_, List.getElem?_eq_getElem hjl⟩
                have hix := HIX.out j y hy
                have kj : (j : Int) < (pt.length : Int) := by omega
                have t92 := u8_beq y 92
                have t91 := u8_beq y 91
                change ((y.toNat : Int) == 92) = _ at t92
                change ((y.toNat : Int) == 91) = _ at t91
                by_cases h92 : y = 92
                · rw [beq_iff_eq.2 h92] at t92
                  clear h92 hy HB t91
                  go_wp2_with fail
                  refine (XH.out _).mono ?_
                  rintro e w' ⟨rfl, hb⟩
                  have HB := hide hb
                  clear hb
                  go_wp2_with fail
                  go_ret
                  exact ⟨rfl, HB.out⟩
                rw [beq_eq_false_iff_ne.2 h92] at t92
                by_cases h91 : y = 91
                · rw [beq_iff_eq.2 h91] at t91
                  clear h92 h91 hy HB
                  go_wp2_with fail
                  refine (XH.out _).mono ?_
                  rintro e w' ⟨rfl, hb⟩
                  have HB := hide hb
                  clear hb
                  go_wp2_with fail
                  go_ret
                  exact ⟨rfl, HB.out⟩
                rw [beq_eq_false_iff_ne.2 h91] at t91
                have HB2 : Hid (∀ (k : Nat) (z : UInt8), k < j + 1 → pt[k]? = some z → z ≠ 92 ∧ z ≠ 91) := hide (fun k z h1 h2 => by
                  rcases Nat.lt_or_ge k j with h | h
                  · exact HB.out k z h h2
                  · obtain rfl : k = j := by omega
                    rw [hy] at h2; injection h2 with h2; rw [← h2]; exact ⟨h92, h91⟩)
                clear h92 h91 hy HB
                go_wp2_with fail
                go_round
                case rel => exact ⟨j + 1, by omega, by go_num, HB2⟩
                case measure => simp [intOf]; omega
              · have kj : ¬ (j : Int) < (pt.length : Int) := by omega
                have HG4 := hide (HG3.out (hide (fun y hy => by
                  obtain ⟨k, hk⟩ := List.mem_iff_getElem?.1 hy
                  exact HB.out k y (by obtain ⟨h, _⟩ := List.getElem?_eq_some_iff.1 hk; omega) hk)))
                clear HB HG3
                go_wp2_with fail
                go_round
                case rel => exact ⟨i + 1, m + pt.length, true, by omega, by omega, by go_num, rfl, by go_num, HM2, HG4, (hide (fun _ => HP4.out (by trivial)))⟩
                case measure => simp [intOf]; omega
          · have v1 : (pt == []) = false := by rw [beq_eq_false_iff_ne]; exact hpe
            have v2 : (pt != []) = true := by rw [bne_iff_ne]; exact hpe
            have v3 : pt.isEmpty = false := by cases pt with
              | nil => exact absurd rfl hpe
              | cons _ _ => rfl
            have HP4 : Hid (false = true → plainP (l.take (i + 1))) := hide (fun h => by cases h)
            clear e5 e6 HP3 hpe
            go_wp2_with fail
            go_loop [8] (fun u8 => ∃ j : Nat, j ≤ pt.length ∧ u8 = .int .i64 (j : Int) ∧ Hid (∀ (k : Nat) (y : UInt8), k < j → pt[k]? = some y → y ≠ 92 ∧ y ≠ 91)) (fun u8 => pt.length - (intOf u8).toNat)
            case atStart => exact ⟨0, Nat.zero_le _, rfl, hide (fun k y h => by omega)⟩
            case round =>
              obtain ⟨j, hj, rfl, HB⟩ := hrel
              by_cases hjl : j < pt.length
              · obtain ⟨y, hy⟩ : ∃ y, pt[j]? = some y := ⟨_, List.getElem?_eq_getElem hjl⟩
                have hix := HIX.out j y hy
                have kj : (j : Int) < (pt.length : Int) := by omega
                have t92 := u8_beq y 92
                have t91 := u8_beq y 91
                change ((y.toNat : Int) == 92) = _ at t92
                change ((y.toNat : Int) == 91) = _ at t91
                by_cases h92 : y = 92
                · rw [beq_iff_eq.2 h92] at t92
                  clear h92 hy HB t91
                  go_wp2_with fail
                  refine (XH.out _).mono ?_
                  rintro e w' ⟨rfl, hb⟩
                  have HB := hide hb
                  clear hb
                  go_wp2_with fail
                  go_ret
                  exact ⟨rfl, HB.out⟩
                rw [beq_eq_false_iff_ne.2 h92] at t92
                by_cases h91 : y = 91
                · rw [beq_iff_eq.2 h91] at t91
                  clear h92 h91 hy HB
                  go_wp2_with fail
                  refine (XH.out _).mono ?_
                  rintro e w' ⟨rfl, hb⟩
                  have HB := hide hb
                  clear hb
                  go_wp2_with fail
                  go_ret
                  exact ⟨rfl, HB.out⟩
                rw [beq_eq_false_iff_ne.2 h91] at t91
                have HB2 : Hid (∀ (k : Nat) (z : UInt8), k < j + 1 → pt[k]? = some z → z ≠ 92 ∧ z ≠ 91) := hide (fun k z h1 h2 => by
                  rcases Nat.lt_or_ge k j with h | h
                  · exact HB.out k z h h2
                  · obtain rfl : k = j := by omega
                    rw [hy] at h2; injection h2 with h2; rw [← h2]; exact ⟨h92, h91⟩)
                clear h92 h91 hy HB
                go_wp2_with fail
                go_round
                case rel => exact ⟨j + 1, by omega, by go_num, HB2⟩
                case measure => simp [intOf]; omega
              · have kj : ¬ (j : Int) < (pt.length : Int) := by omega
                have HG4 := hide (HG3.out (hide (fun y hy => by
                  obtain ⟨k, hk⟩ := List.mem_iff_getElem?.1 hy
                  exact HB.out k y (by obtain ⟨h, _⟩ := List.getElem?_eq_some_iff.1 hk; omega) hk)))
                clear HB HG3
                go_wp2_with fail
                go_round
                case rel => exact ⟨i + 1, m + pt.length, false, by omega, by omega, by go_num, rfl, by go_num, HM2, HG4, HP4⟩
                case measure => simp [intOf]; omega
    · have hlt' : ¬ (i : Int) < (n : Int) := by omega
      have hin : i = n := by omega
      rw [List.take_of_length_le (by have := HLL.out; omega)] at HM HG HP
      by_cases hm3 : 300 < m
      · have km : (300 : Int) < (m : Int) := by omega
        clear HM HG HP hm3
        go_wp2_with fail
        refine (XH.out _).mono ?_
        rintro e w' ⟨rfl, hb⟩
        have HB := hide hb
        clear hb
        go_wp2_with fail
        go_ret
        exact ⟨rfl, HB.out⟩
      · have km : ¬ (300 : Int) < (m : Int) := by omega
        have hpl := patL_len l
        have htl : (txl l).length ≤ 300 := by have := HM.out; omega
        have X5 := hide (fun W (h : RdP W A n l) => pattern_any l A n c W h (by omega) (by omega))
        have X3 := hide (fun W (h : RdP W A n l) => text_any l A n c W h (by omega) (by omega))
        have XM : Hid (∀ t : LB, t.length ≤ 1024 → ∀ W, Calls Try.prog 21 #[.string ⟨(patL l).toArray⟩, .string ⟨t.toArray⟩] W (fun e w' => e = .returned (.bool (MM ((fl l).map elB) t)) ∧ Below W.heap.size W w')) := hide (fun t ht W => by
          have := rMatch_any ((fl l).map elB) (fl_ok HG.out) t (by rw [enc_fl]; omega) ht W
          rw [enc_fl] at this
          exact this)
        have hself : MM ((fl l).map elB) (txl l) = true := by rw [← fl_snd]; exact MM_self _
        have XMS := hide (fun W => XM.out (txl l) (by omega) W)
        have XMO := hide (fun W => XM.out o (by omega) W)
        have hoth : b = true → MM ((fl l).map elB) o = (o == txl l) := fun h => by rw [MM_quoted _ _ (fl_plain (HP.out h)), fl_snd]
        rw [hself] at XMS
        obtain ⟨v, hv⟩ : ∃ v, MM ((fl l).map elB) o = v := ⟨_, rfl⟩
        rw [hv] at XMO
        rw [hv] at hoth
        have K := hide (Below.refl w.heap.size w)
        generalize patL l = P at *
        generalize txl l = T at *
        clear hself hv HM HG HP XM htl hpl htx
        go_wp2_with fail
        refine (X5.out _ R.out).mono ?_
        rintro e v0 ⟨rfl, hb⟩
        replace R : Hid _ := hide (R.out.below hb)
        replace K : Hid _ := hide (below_more K.out (Nat.le_refl _) hb)
        clear hb
        go_wp2_with fail
        refine (X3.out _ R.out).mono ?_
        rintro e v1 ⟨rfl, hb⟩
        replace R : Hid _ := hide (R.out.below hb)
        replace K : Hid _ := hide (below_more K.out (Nat.le_refl _) hb)
        clear hb
        go_wp2_with fail
        refine (XMS.out _).mono ?_
        rintro e v2 ⟨rfl, hb⟩
        replace R : Hid _ := hide (R.out.below hb)
        replace K : Hid _ := hide (below_more K.out (Nat.le_refl _) hb)
        clear hb
        cases b with
        | false =>
          clear hoth
          go_wp2_with fail
          refine (XH.out _).mono ?_
          rintro e w9 ⟨rfl, hb⟩
          replace K : Hid _ := hide (below_more K.out (Nat.le_refl _) hb)
          clear hb
          go_wp2_with fail
          go_ret
          exact ⟨rfl, K.out⟩
        | true =>
          have hoT := (hoth rfl).symm
          clear hoth
          go_wp2_with fail
          refine (XMO.out _).mono ?_
          rintro e v3 ⟨rfl, hb⟩
          replace R : Hid _ := hide (R.out.below hb)
          replace K : Hid _ := hide (below_more K.out (Nat.le_refl _) hb)
          clear hb
          go_wp2_with fail
          refine (X3.out _ R.out).mono ?_
          rintro e v4 ⟨rfl, hb⟩
          replace R : Hid _ := hide (R.out.below hb)
          replace K : Hid _ := hide (below_more K.out (Nat.le_refl _) hb)
          clear hb
          go_wp2_with fail
          refine (XH.out _).mono ?_
          rintro e w9 ⟨rfl, hb⟩
          replace K : Hid _ := hide (below_more K.out (Nat.le_refl _) hb)
          clear hb
          go_wp2_with fail
          go_ret
          exact ⟨rfl, K.out⟩
theorem pattern_b (l : List Pc) (A : Option Addr) (n c : Nat) (s : ByteArray) (w : World) (hR : RdP w A n l) : Calls Try.prog 6 #[.slice A n c, .string s] w fun e w' => e = .returned (.bool true) ∧ Below w.heap.size w w' := by
  obtain ⟨o, rfl⟩ := bs_of s
  by_cases h : fewP l ∧ o.length ≤ 300
  · exact pattern_any1 l o A n c w hR h.1 h.2
  · exact pattern_any0 l o A n c w hR h
end Go.Proofs.Ytnongbbhpkmdjaa
