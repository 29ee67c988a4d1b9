/- The law FieldKeeps. -/
import Derived.Test.YtnongbbhpkmdjaaFldK
namespace Go.Proofs.Ytnongbbhpkmdjaa
open Go.RowKit
set_option linter.unusedVariables false
def keptB (ifs : LB) (q s : Bool) (t : LB) : LB := if q || !s then t else t.filter (fun c => !ifs.contains c)
theorem keptB_nil (ifs : LB) (q s : Bool) : keptB ifs q s [] = [] := by unfold keptB; split <;> rfl
theorem keptB_snoc (ifs : LB) (q s : Bool) (t : LB) (c : UInt8) : keptB ifs q s (t ++ [c]) = keptB ifs q s t ++ (if (q || !s || !ifs.contains c) = true then [c] else []) := by
  unfold keptB
  by_cases h : (q || !s) = true
  · rw [if_pos h, if_pos h, if_pos (by simp [h])]
  · have h' : (q || !s) = false := by simpa using h
    rw [if_neg h, if_neg h, h', List.filter_append, Bool.false_or]
    congr 1
    simp only [List.filter_cons, List.filter_nil]
theorem keptB_len (ifs : LB) (q s : Bool) (t : LB) : (keptB ifs q s t).length ≤ t.length := by
  unfold keptB
  split
  · exact Nat.le_refl _
  · exact List.length_filter_le _ _
def keptL (ifs : LB) (l : List Pc) : LB := (l.map (keptP ifs)).flatten
theorem keptL_snoc (ifs : LB) (l : List Pc) (p : Pc) : keptL ifs (l ++ [p]) = keptL ifs l ++ keptB ifs p.quoted p.soft p.text := by
  unfold keptL keptB
  simp [keptP]
theorem keptL_len (ifs : LB) : ∀ l : List Pc, (keptL ifs l).length ≤ (txl l).length
  | [] => by simp [keptL]
  | p :: r => by
    have h1 := keptL_len ifs r
    have h2 : (keptP ifs p).length ≤ p.text.length := keptB_len ifs p.quoted p.soft p.text
    simp only [keptL, txl, List.map_cons, List.flatten_cons, List.length_append] at *
    omega
theorem catB (a b : LB) : ((⟨a.toArray⟩ : ByteArray) ++ ⟨b.toArray⟩) = ⟨(a ++ b).toArray⟩ := by
  apply ByteArray.ext
  simp
theorem contains_snoc (l : LB) (x c : UInt8) : (l ++ [x]).contains c = (l.contains c || (x == c)) := by
  rw [Bool.eq_iff_iff]
  simp only [Bool.or_eq_true, List.contains_iff_mem, List.mem_append, List.mem_singleton, beq_iff_eq]
  constructor
  · rintro (h | h)
    · exact .inl h
    · exact .inr h.symm
  · rintro (h | h)
    · exact .inl h
    · exact .inr h.symm
set_option maxRecDepth 1000000 in
set_option maxHeartbeats 8000000 in
theorem keeps_any0 (l : List Pc) (ifs : LB) (A : Option Addr) (n c : Nat) (w : World) (hR : RdP w A n l) (h : ¬ (fewP l ∧ ifs.length ≤ 100)) :
    Calls Try.prog 5 #[.slice A n c, .string ⟨ifs.toArray⟩] w fun e w' => e = .returned (.bool true) ∧ Below w.heap.size w w' := by
  have XH := hide heads_any
  by_cases hf : fewP l
  · have XF := hide (few_yes l A n c w hR hf)
    have k1 : (100 : Int) < (ifs.length : Int) := by
      have : ¬ ifs.length ≤ 100 := fun h' => h ⟨hf, h'⟩
      omega
    clear h hf hR
    go_enter Try.func5, Try.ntmps5
    go_wp2_with fail
    refine XF.out.mono ?_
    rintro e w' ⟨rfl, rfl⟩
    go_wp2_with fail
    refine (XH.out _).mono ?_
    rintro e w' ⟨rfl, hb⟩
    have HB := hide hb
    clear hb
    go_wp2_with fail
    go_ret
    exact ⟨rfl, HB.out⟩
  · have XF := hide (few_no l A n c w hR hf)
    clear h hf hR
    go_enter Try.func5, Try.ntmps5
    go_wp2_with fail
    refine XF.out.mono ?_
    rintro e w' ⟨rfl, rfl⟩
    go_wp2_with fail
    refine (XH.out _).mono ?_
    rintro e w' ⟨rfl, hb⟩
    have HB := hide hb
    clear hb
    go_wp2_with fail
    go_ret
    exact ⟨rfl, HB.out⟩
set_option maxRecDepth 1000000 in
set_option maxHeartbeats 32000000 in
theorem keeps_any1 (l : List Pc) (ifs : LB) (A : Option Addr) (n c : Nat) (w : World) (hR : RdP w A n l) (hf : fewP l) (hif : ifs.length ≤ 100) :
    Calls Try.prog 5 #[.slice A n c, .string ⟨ifs.toArray⟩] w fun e w' => e = .returned (.bool true) ∧ Below w.heap.size w w' := by
  have XH := hide heads_any
  have XF := hide (few_yes l A n c w hR hf)
  have hll : l.length = n := by have := hR.1; rw [pvs_length] at this; omega
  have hn40 : n ≤ 40 := by have := hf.1; omega
  have htx := few_txl hf
  have HT := hide hf.2
  have HLL := hide hll
  have HR := hide hR
  have k1 : ¬ (100 : Int) < (ifs.length : Int) := by omega
  have kd1 : decide ((100 : Int) < (ifs.length : Int)) = false := decide_eq_false k1
  clear hR hll hf
  go_enter Try.func5, Try.ntmps5
  go_wp2_with fail
  refine XF.out.mono ?_
  rintro e w' ⟨rfl, rfl⟩
  clear XF
  go_wp2_with fail
  go_loop [5, 6, 7, 8] (fun u5 u6 u7 u8 => ∃ i : Nat, i ≤ n ∧ u8 = .int .i64 (i : Int) ∧ u5 = .string ⟨(txl (l.take i)).toArray⟩ ∧ u6 = .string ⟨(keptL ifs (l.take i)).toArray⟩ ∧ u7 = .bool ((l.take i).any anyP) ∧ Hid (∀ p ∈ l.take i, p.gap = false)) (fun _ _ _ u8 => n - (intOf u8).toNat)
  case atStart => exact ⟨0, Nat.zero_le _, rfl, rfl, rfl, rfl, hide (by simp)⟩
  case round =>
    obtain ⟨i, hi, rfl, rfl, rfl, rfl, HG⟩ := hrel
    by_cases hlt : i < n
    · obtain ⟨p, hp⟩ : ∃ p, l[i]? = some p := ⟨_, List.getElem?_eq_getElem (by have := HLL.out; omega)⟩
      obtain ⟨g, o, rfl, hg, q0, q1, q2, q3⟩ := pc_cells (Reads.more HR.out (Nat.le_refl _)) hp
      have hpt := HT.out p (List.mem_of_getElem? hp)
      have hia := fun W => pc_at g o n c i (i : Int) rfl hlt W
      have hlt' : (i : Int) < (n : Int) := by omega
      have hl1 := txl_take l i
      have hl2 := keptL_len ifs (l.take i)
      have HTX : Hid (txl (l.take (i + 1)) = txl (l.take i) ++ p.text) := hide (by rw [take_snoc' hp, txl_snoc])
      have HKX : Hid (keptL ifs (l.take (i + 1)) = keptL ifs (l.take i) ++ keptB ifs p.quoted p.soft p.text) := hide (by rw [take_snoc' hp, keptL_snoc])
      have HAX : Hid ((l.take (i + 1)).any anyP = ((l.take i).any anyP || p.quoted || (p.text != []))) := hide (by
        rw [take_snoc' hp, List.any_append]
        simp only [List.any_cons, List.any_nil, Bool.or_false, anyP, Bool.or_assoc]
        congr 2
        rw [Bool.eq_iff_iff]; simp)
      have HGX : p.gap = false → Hid (∀ q ∈ l.take (i + 1), q.gap = false) := fun hq => hide (by
        rw [take_snoc' hp]
        intro q hq2
        rcases List.mem_append.1 hq2 with h | h
        · exact HG.out q h
        · rw [List.mem_singleton.1 h]; exact hq)
      have HGY := hide HGX
      obtain ⟨tA, htA⟩ : ∃ x, txl (l.take i) = x := ⟨_, rfl⟩
      obtain ⟨kA, hkA⟩ : ∃ x, keptL ifs (l.take i) = x := ⟨_, rfl⟩
      obtain ⟨aA, haA⟩ : ∃ x, (l.take i).any anyP = x := ⟨_, rfl⟩
      rw [htA] at HTX hl1 hl2 ⊢
      rw [hkA] at HKX hl2 ⊢
      rw [haA] at HAX ⊢
      obtain ⟨pt, pq, ps, pg⟩ := p
      dsimp only at q0 q1 q2 q3 hpt HTX HKX HAX HGY
      clear hp htA hkA haA HG HGX
      cases pg with
      | true =>
        go_wp2_with fail
        refine (XH.out _).mono ?_
        rintro e w' ⟨rfl, hb⟩
        have HB := hide hb
        clear hb
        go_wp2_with fail
        go_ret
        exact ⟨rfl, HB.out⟩
      | false =>
        have HG2 := HGY.out rfl
        clear HGY XH
        have b1 : ¬ (9223372036854775807 : Nat) < tA.length + pt.length := by omega
        obtain ⟨nz, hnz⟩ : ∃ z, (pt != []) = z := ⟨_, rfl⟩
        rw [hnz] at HAX
        have hway : (aA = true ∧ pq = true) ∨ (aA = true ∧ pq = false) ∨ (aA = false ∧ pq = true) ∨ (aA = false ∧ pq = false ∧ nz = true) ∨ (aA = false ∧ pq = false ∧ nz = false) := by
          cases aA <;> cases pq <;> cases nz <;> simp
        have HNZ := hide hnz
        have HNE : Hid ((!List.isEmpty pt) = nz) := hide (by rw [← hnz]; cases pt <;> simp)
        obtain ⟨kb, hkb⟩ : ∃ f : LB → LB, f = keptB ifs pq ps := ⟨_, rfl⟩
        have hk0 : kA ++ kb [] = kA := by rw [hkb, keptB_nil, List.append_nil]
        have hks : ∀ t c, kb (t ++ [c]) = kb t ++ (if (pq || !ps || !ifs.contains c) = true then [c] else []) := fun t c => by rw [hkb]; exact keptB_snoc ifs pq ps t c
        have hkl : ∀ t, (kb t).length ≤ t.length := fun t => by rw [hkb]; exact keptB_len ifs pq ps t
        rw [← hkb] at HKX
        have HK0 := hide hk0
        have HKS := hide hks
        have HKL := hide hkl
        clear hnz hkb hk0 hks hkl
        rcases hway with ⟨rfl, rfl⟩ | ⟨rfl, rfl⟩ | ⟨rfl, rfl⟩ | ⟨rfl, rfl, rfl⟩ | ⟨rfl, rfl, rfl⟩
        · have hnz := HNZ.out
          simp only [Bool.true_or, Bool.or_true] at HAX
          go_wp2_with fail
          clear hnz b1
          rw [catB tA pt]
          go_loop [6, 9] (fun u6 u9 => ∃ k : Nat, k ≤ pt.length ∧ u9 = .int .i64 (k : Int) ∧ u6 = .string ⟨(kA ++ kb (pt.take k)).toArray⟩) (fun _ u9 => pt.length - (intOf u9).toNat)
          case atStart => exact ⟨0, Nat.zero_le _, rfl, by rw [List.take_zero, HK0.out]⟩
          case round =>
            obtain ⟨k, hk, rfl, rfl⟩ := hrel
            by_cases hkt : k < pt.length
            · obtain ⟨x, hx⟩ : ∃ x, pt[k]? = some x := ⟨_, List.getElem?_eq_getElem hkt⟩
              have hix := ix_l pt k x hx
              have hk1 : (k : Int) < (pt.length : Int) := by omega
              have HTK : Hid (kb (pt.take (k + 1)) = kb (pt.take k) ++ (if (true || !ps || !ifs.contains x) = true then [x] else [])) := hide (by rw [take_snoc' hx]; exact HKS.out _ _)
              have hsl := sl_two pt k (k + 1) k ((k : Int) + 1) rfl (by omega) (by omega) (by omega)
              have h1e : (pt.drop k).take (k + 1 - k) = [x] := by
                obtain ⟨h1, h2⟩ := List.getElem?_eq_some_iff.1 hx
                rw [Nat.add_sub_cancel_left, List.drop_eq_getElem_cons h1, h2]; rfl
              rw [h1e] at hsl
              have hkl := HKL.out (pt.take k)
              rw [List.length_take] at hkl
              have hlb : (kA ++ kb (pt.take k)).length ≤ 20000 := by rw [List.length_append]; omega
              obtain ⟨L, hL⟩ : ∃ L, kA ++ kb (pt.take k) = L := ⟨_, rfl⟩
              have HL2 : Hid (kA ++ kb (pt.take (k + 1)) = L ++ (if (true || !ps || !ifs.contains x) = true then [x] else [])) := hide (by rw [HTK.out, ← List.append_assoc, hL])
              rw [hL] at hlb ⊢
              have HSL := hide hsl
              clear hx h1e hkl hL HTK hsl
              go_wp2_with fail
              go_loop [11, 12] (fun u11 u12 => ∃ j : Nat, j ≤ ifs.length ∧ u12 = .int .i64 (j : Int) ∧ u11 = .bool ((ifs.take j).contains x)) (fun _ u12 => ifs.length - (intOf u12).toNat)
              case atStart => exact ⟨0, Nat.zero_le _, rfl, rfl⟩
              case round =>
                obtain ⟨j, hj, rfl, rfl⟩ := hrel
                by_cases hjt : j < ifs.length
                · obtain ⟨y, hy⟩ : ∃ y, ifs[j]? = some y := ⟨_, List.getElem?_eq_getElem hjt⟩
                  have hiy := ix_l ifs j y hy
                  have hj1 : (j : Int) < (ifs.length : Int) := by omega
                  have HTJ : Hid ((ifs.take (j + 1)).contains x = ((ifs.take j).contains x || (y == x))) := hide (by rw [take_snoc' hy, contains_snoc])
                  have hyx := u8_beq y x
                  obtain ⟨b0, hb0⟩ : ∃ b, (ifs.take j).contains x = b := ⟨_, rfl⟩
                  obtain ⟨b1, hb1⟩ : ∃ b, (y == x) = b := ⟨_, rfl⟩
                  rw [hb0, hb1] at HTJ
                  rw [hb1] at hyx
                  rw [hb0]
                  clear hy hb0 hb1
                  cases b0 with
                  | true =>
                    go_wp2_with fail
                    go_round
                    case rel => exact ⟨j + 1, by omega, by go_num, by rw [HTJ.out]; rfl⟩
                    case measure => simp [intOf]; omega
                  | false =>
                    go_wp2_with fail
                    go_round
                    case rel => exact ⟨j + 1, by omega, by go_num, by rw [HTJ.out, Bool.false_or]⟩
                    case measure => simp [intOf]; omega
                · have hj1 : ¬ (j : Int) < (ifs.length : Int) := by omega
                  have hsl2 := HSL.out
                  rw [List.take_of_length_le (show ifs.length ≤ j by omega)]
                  obtain ⟨cx, hcx⟩ : ∃ b, ifs.contains x = b := ⟨_, rfl⟩
                  rw [hcx] at HL2 ⊢
                  clear hcx hix
                  have b2 : ¬ (9223372036854775807 : Nat) < L.length + [x].length := by simp; omega
                  have hw2 : IntKind.i64.wrap ((k : Int) + 1) = (k : Int) + 1 := by simp [IntKind.wrap, IntKind.bits, IntKind.signed]; omega
                  cases ps <;> cases cx
                  all_goals
                    go_wp2_with fail
                    (try rw [catB L [x]])
                    go_round
                    case rel => exact ⟨k + 1, by omega, by go_num, by rw [HL2.out]; simp⟩
                    case measure => simp [intOf]; omega
            · have hk1 : ¬ (k : Int) < (pt.length : Int) := by omega
              have HE : Hid (keptL ifs (l.take (i + 1)) = kA ++ kb (pt.take k)) := hide (by rw [HKX.out, List.take_of_length_le (show pt.length ≤ k by omega)])
              rw [← HE.out]
              clear HE
              go_wp2_with fail
              go_round
              case rel => exact ⟨i + 1, by omega, by go_num, by rw [HTX.out], rfl, by first | (rw [HAX.out]; done) | (rw [HAX.out, HNE.out]), HG2⟩
              case measure => simp [intOf]; omega
        · have hnz := HNZ.out
          simp only [Bool.true_or, Bool.or_false] at HAX
          go_wp2_with fail
          clear hnz b1
          rw [catB tA pt]
          go_loop [6, 9] (fun u6 u9 => ∃ k : Nat, k ≤ pt.length ∧ u9 = .int .i64 (k : Int) ∧ u6 = .string ⟨(kA ++ kb (pt.take k)).toArray⟩) (fun _ u9 => pt.length - (intOf u9).toNat)
          case atStart => exact ⟨0, Nat.zero_le _, rfl, by rw [List.take_zero, HK0.out]⟩
          case round =>
            obtain ⟨k, hk, rfl, rfl⟩ := hrel
            by_cases hkt : k < pt.length
            · obtain ⟨x, hx⟩ : ∃ x, pt[k]? = some x := ⟨_, List.getElem?_eq_getElem hkt⟩
              have hix := ix_l pt k x hx
              have hk1 : (k : Int) < (pt.length : Int) := by omega
              have HTK : Hid (kb (pt.take (k + 1)) = kb (pt.take k) ++ (if (false || !ps || !ifs.contains x) = true then [x] else [])) := hide (by rw [take_snoc' hx]; exact HKS.out _ _)
              have hsl := sl_two pt k (k + 1) k ((k : Int) + 1) rfl (by omega) (by omega) (by omega)
              have h1e : (pt.drop k).take (k + 1 - k) = [x] := by
                obtain ⟨h1, h2⟩ := List.getElem?_eq_some_iff.1 hx
                rw [Nat.add_sub_cancel_left, List.drop_eq_getElem_cons h1, h2]; rfl
              rw [h1e] at hsl
              have hkl := HKL.out (pt.take k)
              rw [List.length_take] at hkl
              have hlb : (kA ++ kb (pt.take k)).length ≤ 20000 := by rw [List.length_append]; omega
              obtain ⟨L, hL⟩ : ∃ L, kA ++ kb (pt.take k) = L := ⟨_, rfl⟩
              have HL2 : Hid (kA ++ kb (pt.take (k + 1)) = L ++ (if (false || !ps || !ifs.contains x) = true then [x] else [])) := hide (by rw [HTK.out, ← List.append_assoc, hL])
              rw [hL] at hlb ⊢
              have HSL := hide hsl
              clear hx h1e hkl hL HTK hsl
              go_wp2_with fail
              go_loop [11, 12] (fun u11 u12 => ∃ j : Nat, j ≤ ifs.length ∧ u12 = .int .i64 (j : Int) ∧ u11 = .bool ((ifs.take j).contains x)) (fun _ u12 => ifs.length - (intOf u12).toNat)
              case atStart => exact ⟨0, Nat.zero_le _, rfl, rfl⟩
              case round =>
                obtain ⟨j, hj, rfl, rfl⟩ := hrel
                by_cases hjt : j < ifs.length
                · obtain ⟨y, hy⟩ : ∃ y, ifs[j]? = some y := ⟨_, List.getElem?_eq_getElem hjt⟩
                  have hiy := ix_l ifs j y hy
                  have hj1 : (j : Int) < (ifs.length : Int) := by omega
                  have HTJ : Hid ((ifs.take (j + 1)).contains x = ((ifs.take j).contains x || (y == x))) := hide (by rw [take_snoc' hy, contains_snoc])
                  have hyx := u8_beq y x
                  obtain ⟨b0, hb0⟩ : ∃ b, (ifs.take j).contains x = b := ⟨_, rfl⟩
                  obtain ⟨b1, hb1⟩ : ∃ b, (y == x) = b := ⟨_, rfl⟩
                  rw [hb0, hb1] at HTJ
                  rw [hb1] at hyx
                  rw [hb0]
                  clear hy hb0 hb1
                  cases b0 with
                  | true =>
                    go_wp2_with fail
                    go_round
                    case rel => exact ⟨j + 1, by omega, by go_num, by rw [HTJ.out]; rfl⟩
                    case measure => simp [intOf]; omega
                  | false =>
                    go_wp2_with fail
                    go_round
                    case rel => exact ⟨j + 1, by omega, by go_num, by rw [HTJ.out, Bool.false_or]⟩
                    case measure => simp [intOf]; omega
                · have hj1 : ¬ (j : Int) < (ifs.length : Int) := by omega
                  have hsl2 := HSL.out
                  rw [List.take_of_length_le (show ifs.length ≤ j by omega)]
                  obtain ⟨cx, hcx⟩ : ∃ b, ifs.contains x = b := ⟨_, rfl⟩
                  rw [hcx] at HL2 ⊢
                  clear hcx hix
                  have b2 : ¬ (9223372036854775807 : Nat) < L.length + [x].length := by simp; omega
                  have hw2 : IntKind.i64.wrap ((k : Int) + 1) = (k : Int) + 1 := by simp [IntKind.wrap, IntKind.bits, IntKind.signed]; omega
                  cases ps <;> cases cx
                  all_goals
                    go_wp2_with fail
                    (try rw [catB L [x]])
                    go_round
                    case rel => exact ⟨k + 1, by omega, by go_num, by rw [HL2.out]; simp⟩
                    case measure => simp [intOf]; omega
            · have hk1 : ¬ (k : Int) < (pt.length : Int) := by omega
              have HE : Hid (keptL ifs (l.take (i + 1)) = kA ++ kb (pt.take k)) := hide (by rw [HKX.out, List.take_of_length_le (show pt.length ≤ k by omega)])
              rw [← HE.out]
              clear HE
              go_wp2_with fail
              go_round
              case rel => exact ⟨i + 1, by omega, by go_num, by rw [HTX.out], rfl, by first | (rw [HAX.out]; done) | (rw [HAX.out, HNE.out]), HG2⟩
              case measure => simp [intOf]; omega
        · have hnz := HNZ.out
          simp only [Bool.true_or, Bool.or_true] at HAX
          go_wp2_with fail
          clear hnz b1
          rw [catB tA pt]
          go_loop [6, 9] (fun u6 u9 => ∃ k : Nat, k ≤ pt.length ∧ u9 = .int .i64 (k : Int) ∧ u6 = .string ⟨(kA ++ kb (pt.take k)).toArray⟩) (fun _ u9 => pt.length - (intOf u9).toNat)
          case atStart => exact ⟨0, Nat.zero_le _, rfl, by rw [List.take_zero, HK0.out]⟩
          case round =>
            obtain ⟨k, hk, rfl, rfl⟩ := hrel
            by_cases hkt : k < pt.length
            · obtain ⟨x, hx⟩ : ∃ x, pt[k]? = some x := ⟨_, List.getElem?_eq_getElem hkt⟩
              have hix := ix_l pt k x hx
              have hk1 : (k : Int) < (pt.length : Int) := by omega
              have HTK : Hid (kb (pt.take (k + 1)) = kb (pt.take k) ++ (if (true || !ps || !ifs.contains x) = true then [x] else [])) := hide (by rw [take_snoc' hx]; exact HKS.out _ _)
              have hsl := sl_two pt k (k + 1) k ((k : Int) + 1) rfl (by omega) (by omega) (by omega)
              have h1e : (pt.drop k).take (k + 1 - k) = [x] := by
                obtain ⟨h1, h2⟩ := List.getElem?_eq_some_iff.1 hx
                rw [Nat.add_sub_cancel_left, List.drop_eq_getElem_cons h1, h2]; rfl
              rw [h1e] at hsl
              have hkl := HKL.out (pt.take k)
              rw [List.length_take] at hkl
              have hlb : (kA ++ kb (pt.take k)).length ≤ 20000 := by rw [List.length_append]; omega
              obtain ⟨L, hL⟩ : ∃ L, kA ++ kb (pt.take k) = L := ⟨_, rfl⟩
              have HL2 : Hid (kA ++ kb (pt.take (k + 1)) = L ++ (if (true || !ps || !ifs.contains x) = true then [x] else [])) := hide (by rw [HTK.out, ← List.append_assoc, hL])
              rw [hL] at hlb ⊢
              have HSL := hide hsl
              clear hx h1e hkl hL HTK hsl
              go_wp2_with fail
              go_loop [11, 12] (fun u11 u12 => ∃ j : Nat, j ≤ ifs.length ∧ u12 = .int .i64 (j : Int) ∧ u11 = .bool ((ifs.take j).contains x)) (fun _ u12 => ifs.length - (intOf u12).toNat)
              case atStart => exact ⟨0, Nat.zero_le _, rfl, rfl⟩
              case round =>
                obtain ⟨j, hj, rfl, rfl⟩ := hrel
                by_cases hjt : j < ifs.length
                · obtain ⟨y, hy⟩ : ∃ y, ifs[j]? = some y := ⟨_, List.getElem?_eq_getElem hjt⟩
                  have hiy := ix_l ifs j y hy
                  have hj1 : (j : Int) < (ifs.length : Int) := by omega
                  have HTJ : Hid ((ifs.take (j + 1)).contains x = ((ifs.take j).contains x || (y == x))) := hide (by rw [take_snoc' hy, contains_snoc])
                  have hyx := u8_beq y x
                  obtain ⟨b0, hb0⟩ : ∃ b, (ifs.take j).contains x = b := ⟨_, rfl⟩
                  obtain ⟨b1, hb1⟩ : ∃ b, (y == x) = b := ⟨_, rfl⟩
                  rw [hb0, hb1] at HTJ
                  rw [hb1] at hyx
                  rw [hb0]
                  clear hy hb0 hb1
                  cases b0 with
                  | true =>
                    go_wp2_with fail
                    go_round
                    case rel => exact ⟨j + 1, by omega, by go_num, by rw [HTJ.out]; rfl⟩
                    case measure => simp [intOf]; omega
                  | false =>
                    go_wp2_with fail
                    go_round
                    case rel => exact ⟨j + 1, by omega, by go_num, by rw [HTJ.out, Bool.false_or]⟩
                    case measure => simp [intOf]; omega
                · have hj1 : ¬ (j : Int) < (ifs.length : Int) := by omega
                  have hsl2 := HSL.out
                  rw [List.take_of_length_le (show ifs.length ≤ j by omega)]
                  obtain ⟨cx, hcx⟩ : ∃ b, ifs.contains x = b := ⟨_, rfl⟩
                  rw [hcx] at HL2 ⊢
                  clear hcx hix
                  have b2 : ¬ (9223372036854775807 : Nat) < L.length + [x].length := by simp; omega
                  have hw2 : IntKind.i64.wrap ((k : Int) + 1) = (k : Int) + 1 := by simp [IntKind.wrap, IntKind.bits, IntKind.signed]; omega
                  cases ps <;> cases cx
                  all_goals
                    go_wp2_with fail
                    (try rw [catB L [x]])
                    go_round
                    case rel => exact ⟨k + 1, by omega, by go_num, by rw [HL2.out]; simp⟩
                    case measure => simp [intOf]; omega
            · have hk1 : ¬ (k : Int) < (pt.length : Int) := by omega
              have HE : Hid (keptL ifs (l.take (i + 1)) = kA ++ kb (pt.take k)) := hide (by rw [HKX.out, List.take_of_length_le (show pt.length ≤ k by omega)])
              rw [← HE.out]
              clear HE
              go_wp2_with fail
              go_round
              case rel => exact ⟨i + 1, by omega, by go_num, by rw [HTX.out], rfl, by first | (rw [HAX.out]; done) | (rw [HAX.out, HNE.out]), HG2⟩
              case measure => simp [intOf]; omega
        · have hnz := HNZ.out
          simp only [Bool.or_true, Bool.or_false] at HAX
          go_wp2_with fail
          clear hnz b1
          rw [catB tA pt]
          go_loop [6, 9] (fun u6 u9 => ∃ k : Nat, k ≤ pt.length ∧ u9 = .int .i64 (k : Int) ∧ u6 = .string ⟨(kA ++ kb (pt.take k)).toArray⟩) (fun _ u9 => pt.length - (intOf u9).toNat)
          case atStart => exact ⟨0, Nat.zero_le _, rfl, by rw [List.take_zero, HK0.out]⟩
          case round =>
            obtain ⟨k, hk, rfl, rfl⟩ := hrel
            by_cases hkt : k < pt.length
            · obtain ⟨x, hx⟩ : ∃ x, pt[k]? = some x := ⟨_, List.getElem?_eq_getElem hkt⟩
              have hix := ix_l pt k x hx
              have hk1 : (k : Int) < (pt.length : Int) := by omega
              have HTK : Hid (kb (pt.take (k + 1)) = kb (pt.take k) ++ (if (false || !ps || !ifs.contains x) = true then [x] else [])) := hide (by rw [take_snoc' hx]; exact HKS.out _ _)
              have hsl := sl_two pt k (k + 1) k ((k : Int) + 1) rfl (by omega) (by omega) (by omega)
              have h1e : (pt.drop k).take (k + 1 - k) = [x] := by
                obtain ⟨h1, h2⟩ := List.getElem?_eq_some_iff.1 hx
                rw [Nat.add_sub_cancel_left, List.drop_eq_getElem_cons h1, h2]; rfl
              rw [h1e] at hsl
              have hkl := HKL.out (pt.take k)
              rw [List.length_take] at hkl
              have hlb : (kA ++ kb (pt.take k)).length ≤ 20000 := by rw [List.length_append]; omega
              obtain ⟨L, hL⟩ : ∃ L, kA ++ kb (pt.take k) = L := ⟨_, rfl⟩
              have HL2 : Hid (kA ++ kb (pt.take (k + 1)) = L ++ (if (false || !ps || !ifs.contains x) = true then [x] else [])) := hide (by rw [HTK.out, ← List.append_assoc, hL])
              rw [hL] at hlb ⊢
              have HSL := hide hsl
              clear hx h1e hkl hL HTK hsl
              go_wp2_with fail
              go_loop [11, 12] (fun u11 u12 => ∃ j : Nat, j ≤ ifs.length ∧ u12 = .int .i64 (j : Int) ∧ u11 = .bool ((ifs.take j).contains x)) (fun _ u12 => ifs.length - (intOf u12).toNat)
              case atStart => exact ⟨0, Nat.zero_le _, rfl, rfl⟩
              case round =>
                obtain ⟨j, hj, rfl, rfl⟩ := hrel
                by_cases hjt : j < ifs.length
                · obtain ⟨y, hy⟩ : ∃ y, ifs[j]? = some y := ⟨_, List.getElem?_eq_getElem hjt⟩
                  have hiy := ix_l ifs j y hy
                  have hj1 : (j : Int) < (ifs.length : Int) := by omega
                  have HTJ : Hid ((ifs.take (j + 1)).contains x = ((ifs.take j).contains x || (y == x))) := hide (by rw [take_snoc' hy, contains_snoc])
                  have hyx := u8_beq y x
                  obtain ⟨b0, hb0⟩ : ∃ b, (ifs.take j).contains x = b := ⟨_, rfl⟩
                  obtain ⟨b1, hb1⟩ : ∃ b, (y == x) = b := ⟨_, rfl⟩
                  rw [hb0, hb1] at HTJ
                  rw [hb1] at hyx
                  rw [hb0]
                  clear hy hb0 hb1
                  cases b0 with
                  | true =>
                    go_wp2_with fail
                    go_round
                    case rel => exact ⟨j + 1, by omega, by go_num, by rw [HTJ.out]; rfl⟩
                    case measure => simp [intOf]; omega
                  | false =>
                    go_wp2_with fail
                    go_round
                    case rel => exact ⟨j + 1, by omega, by go_num, by rw [HTJ.out, Bool.false_or]⟩
                    case measure => simp [intOf]; omega
                · have hj1 : ¬ (j : Int) < (ifs.length : Int) := by omega
                  have hsl2 := HSL.out
                  rw [List.take_of_length_le (show ifs.length ≤ j by omega)]
                  obtain ⟨cx, hcx⟩ : ∃ b, ifs.contains x = b := ⟨_, rfl⟩
                  rw [hcx] at HL2 ⊢
                  clear hcx hix
                  have b2 : ¬ (9223372036854775807 : Nat) < L.length + [x].length := by simp; omega
                  have hw2 : IntKind.i64.wrap ((k : Int) + 1) = (k : Int) + 1 := by simp [IntKind.wrap, IntKind.bits, IntKind.signed]; omega
                  cases ps <;> cases cx
                  all_goals
                    go_wp2_with fail
                    (try rw [catB L [x]])
                    go_round
                    case rel => exact ⟨k + 1, by omega, by go_num, by rw [HL2.out]; simp⟩
                    case measure => simp [intOf]; omega
            · have hk1 : ¬ (k : Int) < (pt.length : Int) := by omega
              have HE : Hid (keptL ifs (l.take (i + 1)) = kA ++ kb (pt.take k)) := hide (by rw [HKX.out, List.take_of_length_le (show pt.length ≤ k by omega)])
              rw [← HE.out]
              clear HE
              go_wp2_with fail
              go_round
              case rel => exact ⟨i + 1, by omega, by go_num, by rw [HTX.out], rfl, by first | (rw [HAX.out]; done) | (rw [HAX.out, HNE.out]), HG2⟩
              case measure => simp [intOf]; omega
        · have hnz := HNZ.out
          simp only [Bool.or_false] at HAX
          go_wp2_with fail
          clear hnz b1
          rw [catB tA pt]
          go_loop [6, 9] (fun u6 u9 => ∃ k : Nat, k ≤ pt.length ∧ u9 = .int .i64 (k : Int) ∧ u6 = .string ⟨(kA ++ kb (pt.take k)).toArray⟩) (fun _ u9 => pt.length - (intOf u9).toNat)
          case atStart => exact ⟨0, Nat.zero_le _, rfl, by rw [List.take_zero, HK0.out]⟩
          case round =>
            obtain ⟨k, hk, rfl, rfl⟩ := hrel
            by_cases hkt : k < pt.length
            · obtain ⟨x, hx⟩ : ∃ x, pt[k]? = some x := ⟨_, List.getElem?_eq_getElem hkt⟩
              have hix := ix_l pt k x hx
              have hk1 : (k : Int) < (pt.length : Int) := by omega
              have HTK : Hid (kb (pt.take (k + 1)) = kb (pt.take k) ++ (if (false || !ps || !ifs.contains x) = true then [x] else [])) := hide (by rw [take_snoc' hx]; exact HKS.out _ _)
              have hsl := sl_two pt k (k + 1) k ((k : Int) + 1) rfl (by omega) (by omega) (by omega)
              have h1e : (pt.drop k).take (k + 1 - k) = [x] := by
                obtain ⟨h1, h2⟩ := List.getElem?_eq_some_iff.1 hx
                rw [Nat.add_sub_cancel_left, List.drop_eq_getElem_cons h1, h2]; rfl
              rw [h1e] at hsl
              have hkl := HKL.out (pt.take k)
              rw [List.length_take] at hkl
              have hlb : (kA ++ kb (pt.take k)).length ≤ 20000 := by rw [List.length_append]; omega
              obtain ⟨L, hL⟩ : ∃ L, kA ++ kb (pt.take k) = L := ⟨_, rfl⟩
              have HL2 : Hid (kA ++ kb (pt.take (k + 1)) = L ++ (if (false || !ps || !ifs.contains x) = true then [x] else [])) := hide (by rw [HTK.out, ← List.append_assoc, hL])
              rw [hL] at hlb ⊢
              have HSL := hide hsl
              clear hx h1e hkl hL HTK hsl
              go_wp2_with fail
              go_loop [11, 12] (fun u11 u12 => ∃ j : Nat, j ≤ ifs.length ∧ u12 = .int .i64 (j : Int) ∧ u11 = .bool ((ifs.take j).contains x)) (fun _ u12 => ifs.length - (intOf u12).toNat)
              case atStart => exact ⟨0, Nat.zero_le _, rfl, rfl⟩
              case round =>
                obtain ⟨j, hj, rfl, rfl⟩ := hrel
                by_cases hjt : j < ifs.length
                · obtain ⟨y, hy⟩ : ∃ y, ifs[j]? = some y := ⟨_, List.getElem?_eq_getElem hjt⟩
                  have hiy := ix_l ifs j y hy
                  have hj1 : (j : Int) < (ifs.length : Int) := by omega
                  have HTJ : Hid ((ifs.take (j + 1)).contains x = ((ifs.take j).contains x || (y == x))) := hide (by rw [take_snoc' hy, contains_snoc])
                  have hyx := u8_beq y x
                  obtain ⟨b0, hb0⟩ : ∃ b, (ifs.take j).contains x = b := ⟨_, rfl⟩
                  obtain ⟨b1, hb1⟩ : ∃ b, (y == x) = b := ⟨_, rfl⟩
                  rw [hb0, hb1] at HTJ
                  rw [hb1] at hyx
                  rw [hb0]
                  clear hy hb0 hb1
                  cases b0 with
                  | true =>
                    go_wp2_with fail
                    go_round
                    case rel => exact ⟨j + 1, by omega, by go_num, by rw [HTJ.out]; rfl⟩
                    case measure => simp [intOf]; omega
                  | false =>
                    go_wp2_with fail
                    go_round
                    case rel => exact ⟨j + 1, by omega, by go_num, by rw [HTJ.out, Bool.false_or]⟩
                    case measure => simp [intOf]; omega
                · have hj1 : ¬ (j : Int) < (ifs.length : Int) := by omega
                  have hsl2 := HSL.out
                  rw [List.take_of_length_le (show ifs.length ≤ j by omega)]
                  obtain ⟨cx, hcx⟩ : ∃ b, ifs.contains x = b := ⟨_, rfl⟩
                  rw [hcx] at HL2 ⊢
                  clear hcx hix
                  have b2 : ¬ (9223372036854775807 : Nat) < L.length + [x].length := by simp; omega
                  have hw2 : IntKind.i64.wrap ((k : Int) + 1) = (k : Int) + 1 := by simp [IntKind.wrap, IntKind.bits, IntKind.signed]; omega
                  cases ps <;> cases cx
                  all_goals
                    go_wp2_with fail
                    (try rw [catB L [x]])
                    go_round
                    case rel => exact ⟨k + 1, by omega, by go_num, by rw [HL2.out]; simp⟩
                    case measure => simp [intOf]; omega
            · have hk1 : ¬ (k : Int) < (pt.length : Int) := by omega
              have HE : Hid (keptL ifs (l.take (i + 1)) = kA ++ kb (pt.take k)) := hide (by rw [HKX.out, List.take_of_length_le (show pt.length ≤ k by omega)])
              rw [← HE.out]
              clear HE
              go_wp2_with fail
              go_round
              case rel => exact ⟨i + 1, by omega, by go_num, by rw [HTX.out], rfl, by first | (rw [HAX.out]; done) | (rw [HAX.out, HNE.out]), HG2⟩
              case measure => simp [intOf]; omega
    · have hlt' : ¬ (i : Int) < (n : Int) := by omega
      have HTK : l.take i = l := List.take_of_length_le (by have := HLL.out; omega)
      rw [HTK] at HG ⊢
      obtain ⟨K, hK⟩ : ∃ K, keptL ifs l = K := ⟨_, rfl⟩
      obtain ⟨any, hA⟩ : ∃ b, l.any anyP = b := ⟨_, rfl⟩
      obtain ⟨all, hT⟩ : ∃ t, txl l = t := ⟨_, rfl⟩
      have hKL := keptL_len ifs l
      have HSK : Hid (((splitP ifs l).map txt).flatten = K) := hide ((split_kept ifs l).trans hK)
      have HS1 : Hid ((splitP [] l).length = if any then 1 else 0) := hide (by rw [split_one l HG.out, hA])
      have HSA : Hid (((splitP [] l).map txt).flatten = all) := hide ((split_all l).trans hT)
      have XS := hide (fun W (h : RdP W A n l) => split_any l ifs A n c W h (by omega) (by omega) (by omega))
      have XS2 := hide (fun W (h : RdP W A n l) => split_any l [] A n c W h (by omega) (by omega) (by simp))
      have HFL : Hid (∀ ifs, ∀ f ∈ splitP ifs l, f.length ≤ 100000 ∧ (txt f).length ≤ 100000) := hide (fun ifs f hf => by
        refine ⟨?_, ?_⟩
        · have h0 : CS0.Fl 0 := ⟨fun f hf => by simp [CS0] at hf, by simp [CS0]⟩
          have h1 := (Fl.split ifs l true h0).1 f hf
          have h2 : (l.map (fun p => 3 + p.text.length)).sum ≤ 5 * l.length + 2 * (txl l).length := by
            have key : ∀ l : List Pc, (l.map (fun p => 3 + p.text.length)).sum ≤ 5 * l.length + 2 * (txl l).length := by
              intro l
              induction l with
              | nil => simp
              | cons p r ih =>
                simp only [txl, List.map_cons, List.sum_cons, List.flatten_cons, List.length_append, List.length_cons] at *
                omega
            exact key l
          have := HLL.out
          omega
        · have h1 := sum_mem _ _ (List.mem_map.2 ⟨f, hf, rfl⟩ : txt f ∈ (splitP ifs l).map txt)
          rw [split_kept] at h1
          have h2 := keptL_len ifs l
          unfold keptL at h2
          omega)
      have HKB : Hid (K.length ≤ 12000) := hide (by rw [← hK]; omega)
      rw [hK, hA, hT]
      clear hK hA hT hKL HTK HG
      go_wp2_with fail
      refine (XS.out _ HR.out).mono ?_
      rintro e w1 ⟨A1, n1, c1, rfl, hF1, hb1⟩
      have HF1 := hide (hF1.more (Nat.le_refl _))
      have HN1 := hide hF1.len
      have HB1 := hide hb1
      have HR1 := hide (HR.out.below hb1)
      obtain ⟨fs, hfs⟩ : ∃ fs, splitP ifs l = fs := ⟨_, rfl⟩
      have HFL1 := hide (HFL.out ifs)
      rw [hfs] at HF1 HN1 HSK HFL1
      have hn1 : n1 ≤ 100000 := by
        have h1 := (Le.split ifs l true (s := CS0) (K := 0) ⟨by simp [CS0], by simp [CS0], by simp [CS0], by simp [CS0], by simp [CS0]⟩).1
        rw [sum_len] at h1
        have h2 : (splitC ifs l true CS0).fields.length = n1 := by rw [← HN1.out, ← hfs]; rfl
        have := HLL.out
        omega
      clear hF1 hb1 XS hfs
      go_wp2_with fail
      go_loopw [14, 15] (fun u14 u15 wx => ∃ i : Nat, i ≤ n1 ∧ u15 = .int .i64 (i : Int) ∧ u14 = .string ⟨(((fs.take i).map txt).flatten).toArray⟩ ∧ Hid (Below w1.heap.size w1 wx)) (fun _ u15 _ => n1 - (intOf u15).toNat)
      case atStart => exact ⟨0, Nat.zero_le _, rfl, rfl, hide (Below.refl _ _)⟩
      case round =>
        obtain ⟨i, hi, rfl, rfl, HB⟩ := hrel
        by_cases hlt : i < n1
        · obtain ⟨f, hf⟩ : ∃ f, fs[i]? = some f := ⟨_, List.getElem?_eq_getElem (by have := HN1.out; omega)⟩
          obtain ⟨gF, A2, n2, c2, hA, hBF, hcell, hrd, hn2⟩ := (HF1.out.below HB.out).at_ hf
          have hia : ∀ W, (Instr.indexAt 25 (.slice A1 n1 c1) (.int .i64 (i : Int))).run Try.prog W = .ok (.pointer (some ⟨gF, i, none⟩)) W := fun W => by rw [hA]; exact fd_at gF n1 c1 i (i : Int) rfl hlt W
          have h1 := HFL1.out f (List.mem_of_getElem? hf)
          have XT := hide (text_any (up f) A2 n2 c2 wr hrd (by omega) (by rw [txl_up]; omega))
          rw [txl_up] at XT
          have HMP : Hid (((fs.take (i + 1)).map txt).flatten = ((fs.take i).map txt).flatten ++ txt f) := hide (by rw [take_snoc' hf, List.map_append, List.flatten_append]; simp)
          have hle1 : ((fs.take i).map txt).flatten.length ≤ 12000 := by
            have := flat_le (fs.map txt) i
            rw [← List.map_take] at this
            have h3 := HSK.out
            have h4 := HKB.out
            rw [h3] at this; omega
          have hle2 : (txt f).length ≤ 100000 := h1.2
          obtain ⟨L, hL⟩ : ∃ L, ((fs.take i).map txt).flatten = L := ⟨_, rfl⟩
          obtain ⟨T, hT⟩ : ∃ T, txt f = T := ⟨_, rfl⟩
          rw [hL] at HMP hle1 ⊢
          rw [hT] at HMP XT hle2
          have hlt' : (i : Int) < (n1 : Int) := by omega
          have b3 : ¬ (9223372036854775807 : Nat) < L.length + T.length := by omega
          clear hrd hn2 hf hA hL hT h1
          go_wp2_with fail
          refine XT.out.mono ?_
          rintro e w2 ⟨rfl, hb2⟩
          have HB2 : Hid (Below w1.heap.size w1 w2) := hide (below_more HB.out (Nat.le_refl _) hb2)
          clear hb2 XT HB
          go_wp2_with fail
          rw [catB L T]
          go_roundw
          case rel => exact ⟨i + 1, by omega, by go_num, by rw [HMP.out], HB2⟩
          case measure => simp [intOf]; omega
        · have hlt' : ¬ (i : Int) < (n1 : Int) := by omega
          have HSX : ((fs.take i).map txt).flatten = K := by rw [List.take_of_length_le (by have := HN1.out; omega)]; exact HSK.out
          rw [HSX]
          have HR2 := hide (HR1.out.below HB.out)
          have HB2 : Hid (Below w.heap.size w wr) := hide (below_more HB1.out (Nat.le_refl _) HB.out)
          clear HSX HB HB1 HF1 HN1 HSK HFL1
          go_wp2_with fail
          refine (XS2.out _ HR2.out).mono ?_
          rintro e w3 ⟨A3, n3, c3, rfl, hF3, hb3⟩
          have HF3 := hide hF3
          have HB3 : Hid (Below w.heap.size w w3) := hide (below_more HB2.out (Nat.le_refl _) hb3)
          obtain ⟨fo, hfo⟩ : ∃ fs, splitP [] l = fs := ⟨_, rfl⟩
          have HFL3 := hide (HFL.out [])
          have hn3 := hF3.len
          rw [hfo] at HF3 HS1 HSA HFL3 hn3
          clear hF3 hb3 hfo XS2 HB2 HR2
          have kk : (K == K) = true := by simp
          cases any with
          | false =>
            have h0 := HS1.out
            rw [hn3, if_neg (by simp)] at h0
            subst h0
            clear hn3
            go_wp2_with fail
            refine (XH.out _).mono ?_
            rintro e w4 ⟨rfl, hb4⟩
            have HB4 : Hid (Below w.heap.size w w4) := hide (below_more HB3.out (Nat.le_refl _) hb4)
            clear hb4
            go_wp2_with fail
            go_ret
            exact ⟨rfl, HB4.out⟩
          | true =>
            have h0 := HS1.out
            rw [hn3, if_pos rfl] at h0
            subst h0
            obtain ⟨f, hf⟩ : ∃ f, fo = [f] := by
              match fo, hn3 with
              | [f], _ => exact ⟨f, rfl⟩
            subst hf
            have HTA : Hid (txt f = all) := hide (by have := HSA.out; simpa using this)
            obtain ⟨gF, A2, n2, c2, hA, hBF, hcell, hrd, hn2⟩ := HF3.out.at_ (k := 0) (f := f) rfl
            have hia : ∀ W, (Instr.indexAt 25 (.slice A3 1 c3) (.int .i64 0)).run Try.prog W = .ok (.pointer (some ⟨gF, 0, none⟩)) W := fun W => by rw [hA]; exact fd_at gF 1 c3 0 0 rfl (by omega) W
            have h1 := HFL3.out f (by simp)
            have XT := hide (text_any (up f) A2 n2 c2 w3 hrd (by omega) (by rw [txl_up]; omega))
            rw [txl_up, HTA.out] at XT
            have ka : (all == all) = true := by simp
            clear hrd hn2 hA h1 hn3
            go_wp2_with fail
            refine XT.out.mono ?_
            rintro e w4 ⟨rfl, hb4⟩
            have HB4 : Hid (Below w.heap.size w w4) := hide (below_more HB3.out (Nat.le_refl _) hb4)
            clear hb4 XT
            go_wp2_with fail
            refine (XH.out _).mono ?_
            rintro e w5 ⟨rfl, hb5⟩
            have HB5 : Hid (Below w.heap.size w w5) := hide (below_more HB4.out (Nat.le_refl _) hb5)
            clear hb5
            go_wp2_with fail
            go_ret
            exact ⟨rfl, HB5.out⟩
theorem keeps_any (l : List Pc) (ifs : LB) (A : Option Addr) (n c : Nat) (w : World) (hR : RdP w A n l) :
    Calls Try.prog 5 #[.slice A n c, .string ⟨ifs.toArray⟩] w fun e w' => e = .returned (.bool true) ∧ Below w.heap.size w w' := by
  by_cases h : fewP l ∧ ifs.length ≤ 100
  · exact keeps_any1 l ifs A n c w hR h.1 h.2
  · exact keeps_any0 l ifs A n c w hR h
end Go.Proofs.Ytnongbbhpkmdjaa
