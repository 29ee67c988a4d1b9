/- The reference's kind, trimmed and Line. -/
import Derived.Test.YtnongbbhpkmdjaaFldK
import Derived.Deep.DeepCutAuto
import Derived.Deep.CutBlock
namespace Go.Proofs.Ytnongbbhpkmdjaa
open Go.RowKit
set_option linter.unusedVariables false
set_option maxHeartbeats 2000000 in
theorem kind_any (c : UInt8) (ifs : LB) (hl : ifs.length ≤ 100000) (w : World) : Calls Try.prog 39 #[.int .u8 (c.toNat : Int), .string ⟨ifs.toArray⟩] w fun e w' => e = .returned (.int .i64 (kindP ifs c : Int)) ∧ w = w' := by
  go_enter Try.func39, Try.ntmps39
  go_wp2_with fail
  go_loop [5] (fun u5 => ∃ j : Nat, j ≤ ifs.length ∧ u5 = .int .i64 (j : Int) ∧ Hid (∀ (q : Nat) x, q < j → ifs[q]? = some x → x ≠ c)) (fun u5 => ifs.length - (intOf u5).toNat)
  case atStart => exact ⟨0, Nat.zero_le _, rfl, hide (fun q x h => by omega)⟩
  case round =>
    obtain ⟨j, hj, rfl, HQ⟩ := hrel
    by_cases hlt : j < ifs.length
    · obtain ⟨y, hy⟩ : ∃ y, ifs[j]? = some y := ⟨_, List.getElem?_eq_getElem hlt⟩
      have hix := ix_l ifs j y hy
      have hj1 : (j : Int) < (ifs.length : Int) := by omega
      have hyc := u8_beq y c
      by_cases he : y = c
      · rw [beq_iff_eq.2 he] at hyc
        have hmem : c ∈ ifs := he ▸ List.mem_of_getElem? hy
        have t32 := u8_beq c 32
        have t9 := u8_beq c 9
        have t10 := u8_beq c 10
        change ((c.toNat : Int) == 32) = _ at t32
        change ((c.toNat : Int) == 9) = _ at t9
        change ((c.toNat : Int) == 10) = _ at t10
        have HK : Hid (kindP ifs c = if c = 32 ∨ c = 9 ∨ c = 10 then 1 else 2) := hide (by unfold kindP; rw [if_pos hmem])
        clear hy hmem HQ he
        by_cases h1 : c = 32
        · have HE : Hid (kindP ifs c = 1) := hide (by rw [HK.out, if_pos (.inl h1)])
          rw [beq_iff_eq.2 h1] at t32
          clear h1 HK t9 t10
          go_wp2_with fail
          go_ret
          exact ⟨by rw [HE.out]; rfl, rfl⟩
        rw [beq_eq_false_iff_ne.2 h1] at t32
        by_cases h2 : c = 9
        · have HE : Hid (kindP ifs c = 1) := hide (by rw [HK.out, if_pos (.inr (.inl h2))])
          rw [beq_iff_eq.2 h2] at t9
          clear h1 h2 HK t10
          go_wp2_with fail
          go_ret
          exact ⟨by rw [HE.out]; rfl, rfl⟩
        rw [beq_eq_false_iff_ne.2 h2] at t9
        by_cases h3 : c = 10
        · have HE : Hid (kindP ifs c = 1) := hide (by rw [HK.out, if_pos (.inr (.inr h3))])
          rw [beq_iff_eq.2 h3] at t10
          clear h1 h2 h3 HK
          go_wp2_with fail
          go_ret
          exact ⟨by rw [HE.out]; rfl, rfl⟩
        rw [beq_eq_false_iff_ne.2 h3] at t10
        have HE : Hid (kindP ifs c = 2) := hide (by rw [HK.out, if_neg (by simp [h1, h2, h3])])
        clear h1 h2 h3 HK
        go_wp2_with fail
        go_ret
        exact ⟨by rw [HE.out]; rfl, rfl⟩
      · rw [beq_eq_false_iff_ne.2 he] at hyc
        have HQ2 : Hid (∀ (q : Nat) x, q < j + 1 → ifs[q]? = some x → x ≠ c) := hide (fun q x hq hx => by
          rcases Nat.lt_or_ge q j with h | h
          · exact HQ.out q x h hx
          · obtain rfl : q = j := by omega
            rw [hy] at hx; injection hx with hx; rw [← hx]; exact he)
        clear hy he HQ
        go_wp2_with fail
        go_round
        case rel => exact ⟨j + 1, by omega, by go_num, HQ2⟩
        case measure => simp [intOf]; omega
    · have hj1 : ¬ (j : Int) < (ifs.length : Int) := by omega
      have HE : Hid (kindP ifs c = 0) := hide (by
        unfold kindP
        rw [if_neg (fun hm => by
          obtain ⟨q, hq, he⟩ := List.getElem_of_mem hm
          exact HQ.out q _ (by omega) (List.getElem?_eq_getElem hq) he)])
      clear HQ
      go_wp2_with fail
      go_ret
      exact ⟨by rw [HE.out]; rfl, rfl⟩
set_option maxHeartbeats 2000000 in
theorem trimmed_any (t ifs : LB) (hl : ifs.length ≤ 100000) (ht : t.length ≤ 100000) (w : World) : Calls Try.prog 40 #[.string ⟨t.toArray⟩, .string ⟨ifs.toArray⟩] w fun e w' => e = .returned (.string ⟨(trimP ifs t).toArray⟩) ∧ w = w' := by
  go_enter Try.func40, Try.ntmps40
  go_wp2_with fail
  go_loop [5] (fun u5 => ∃ j : Nat, j ≤ t.length ∧ u5 = .int .i64 (j : Int) ∧ Hid (trimP ifs (t.take j) = trimP ifs t)) (fun u5 => (intOf u5).toNat)
  case atStart => exact ⟨t.length, Nat.le_refl _, rfl, hide (by rw [List.take_length])⟩
  case round =>
    obtain ⟨j, hj, rfl, HT⟩ := hrel
    have hst := fun W => sl_to t j (j : Int) rfl hj W
    rcases Nat.eq_zero_or_pos j with h0 | h0
    · have HE : Hid (trimP ifs t = t.take j) := hide (by rw [← HT.out, h0]; rfl)
      have hj1 : ¬ (0 : Int) < (j : Int) := by omega
      have hj2 : ¬ (0 < j) := by omega
      clear HT h0
      go_wp2_with fail
      go_ret
      exact ⟨by rw [HE.out]; rfl, rfl⟩
    · obtain ⟨y, hy⟩ : ∃ y, t[j - 1]? = some y := ⟨_, List.getElem?_eq_getElem (by omega)⟩
      have hix : ∀ W, (Instr.index 9 (.string ⟨t.toArray⟩) (.int .i64 ((j : Int) - 1))).run Try.prog W = .ok (.int .u8 (y.toNat : Int)) W := fun W => by
        have := ix_l t (j - 1) y hy W
        rwa [show ((j - 1 : Nat) : Int) = (j : Int) - 1 by omega] at this
      have hj1 : (0 : Int) < (j : Int) := by omega
      have htk : t.take j = t.take (j - 1) ++ [y] := by
        have := take_snoc' hy
        rwa [show j - 1 + 1 = j by omega] at this
      have XK := hide (fun W => kind_any y ifs hl W)
      by_cases hk : kindP ifs y = 1
      · have HT2 : Hid (trimP ifs (t.take (j - 1)) = trimP ifs t) := hide (by rw [← HT.out, htk, trim_white ifs _ y hk])
        rw [hk] at XK
        clear hk hy htk HT hst
        go_wp2_with fail
        refine (XK.out _).mono ?_
        rintro e w' ⟨rfl, rfl⟩
        go_wp2_with fail
        go_round
        case rel => exact ⟨j - 1, by omega, by congr 1; omega, HT2⟩
        case measure => simp [intOf]; omega
      · have HE : Hid (trimP ifs t = t.take j) := hide (by rw [← HT.out, htk, trim_stop ifs _ y hk])
        have hk1 : ((kindP ifs y : Int) == 1) = false := by rw [beq_eq_false_iff_ne]; omega
        generalize kindP ifs y = K at *
        clear hk hy htk HT
        go_wp2_with fail
        refine (XK.out _).mono ?_
        rintro e w' ⟨rfl, rfl⟩
        go_wp2_with fail
        go_ret
        exact ⟨by rw [HE.out]; rfl, rfl⟩
set_option maxHeartbeats 1000000 in
theorem refline_no (s ifs : LB) (n : Int) (w : World) (h : n < 1 ∨ 100 < n) : Calls Try.prog 20 #[.string ⟨s.toArray⟩, .string ⟨ifs.toArray⟩, .int .i64 n] w fun e w' => e = .returned (.slice none 0 0) ∧ w = w' := by
  rcases h with h | h
  · go_enter Try.func20, Try.ntmps20
    go_wp2_with fail
    go_ret
    exact ⟨rfl, rfl⟩
  · have h' : ¬ n < 1 := by omega
    go_enter Try.func20, Try.ntmps20
    go_wp2_with fail
    go_ret
    exact ⟨rfl, rfl⟩
/-- Skipping the bytes of a kind. -/
def skK (ifs : LB) (k : Nat) (t : LB) : LB := t.dropWhile fun c => kindP ifs c == k
theorem skK_1 (ifs t : LB) : skK ifs 1 t = sk1 ifs t := rfl
theorem skK_0 (ifs t : LB) : skK ifs 0 t = r0 ifs t := rfl
theorem skK_step {ifs p : LB} {k a : Nat} {y : UInt8} (hy : p[a]? = some y) (hk : kindP ifs y = k) : skK ifs k (p.drop a) = skK ifs k (p.drop (a + 1)) := by
  obtain ⟨h1, h2⟩ := List.getElem?_eq_some_iff.1 hy
  rw [List.drop_eq_getElem_cons h1, h2]
  unfold skK
  rw [List.dropWhile_cons]
  simp [hk]
theorem skK_stop {ifs p : LB} {k a : Nat} {y : UInt8} (hy : p[a]? = some y) (hk : kindP ifs y ≠ k) : skK ifs k (p.drop a) = p.drop a := by
  obtain ⟨h1, h2⟩ := List.getElem?_eq_some_iff.1 hy
  rw [List.drop_eq_getElem_cons h1, h2]
  unfold skK
  rw [List.dropWhile_cons]
  simp [hk]
theorem skK_end {ifs p : LB} {k a : Nat} (h : p.length ≤ a) : skK ifs k (p.drop a) = p.drop a := by
  rw [List.drop_of_length_le h]; rfl
theorem word_take {ifs p : LB} {a b : Nat} (hab : a ≤ b) (hb : b ≤ p.length) (h : p.drop b = skK ifs 0 (p.drop a)) : (p.drop a).take (b - a) = w0 ifs (p.drop a) := by
  have h1 := r0_len ifs (p.drop a)
  rw [skK_0] at h
  have h2 := congrArg List.length h
  rw [List.length_drop] at h2
  rw [List.length_drop] at h1
  have h3 : (w0 ifs (p.drop a)).length = b - a := by omega
  have h4 : p.drop a = w0 ifs (p.drop a) ++ r0 ifs (p.drop a) := (List.takeWhile_append_dropWhile).symm
  have h5 : (p.drop a).take (w0 ifs (p.drop a)).length = (w0 ifs (p.drop a) ++ r0 ifs (p.drop a)).take (w0 ifs (p.drop a)).length := congrArg (List.take _) h4
  rw [← h3, h5]
  exact List.take_left
theorem words_step (ifs t : LB) (k : Nat) (ht : t ≠ []) : wordsF ifs (k + 1) t = (w0 ifs t :: (wordsF ifs k (nextF ifs t)).1, (wordsF ifs k (nextF ifs t)).2) := by
  cases t with
  | nil => exact absurd rfl ht
  | cons c r => rfl
theorem words_end (ifs : LB) (k : Nat) : wordsF ifs k [] = ([], []) := by cases k <;> rfl
theorem next_1 {ifs t u : LB} (h : u = sk1 ifs (r0 ifs t)) (hu : ∀ c r, u = c :: r → kindP ifs c ≠ 2) : nextF ifs t = u := by
  unfold nextF
  rw [← h]
  cases u with
  | nil => rfl
  | cons c r => dsimp only; rw [if_neg (hu c r rfl)]
theorem next_2 {ifs t u : LB} {c : UInt8} (h : c :: u = sk1 ifs (r0 ifs t)) (hc : kindP ifs c = 2) : nextF ifs t = sk1 ifs u := by
  unfold nextF
  rw [← h]
  dsimp only
  rw [if_pos hc]
/-- The words so far and what is left. -/
def Way (ifs p : LB) (n : Nat) (out : List LB) (a : Nat) : Prop := out.length ≤ n - 1 ∧ wordsF ifs (n - 1) (sk1 ifs p) = (out ++ (wordsF ifs (n - 1 - out.length) (p.drop a)).1, (wordsF ifs (n - 1 - out.length) (p.drop a)).2)
theorem Way.step {ifs p : LB} {n : Nat} {out : List LB} {a b : Nat} (h : Way ifs p n out a) (ho : out.length < n - 1) (ha : a < p.length) (hb : p.drop b = nextF ifs (p.drop a)) : Way ifs p n (out ++ [w0 ifs (p.drop a)]) b := by
  obtain ⟨h1, h2⟩ := h
  refine ⟨by simp; omega, ?_⟩
  have hne : p.drop a ≠ [] := by
    intro e
    have := congrArg List.length e
    simp at this; omega
  obtain ⟨k, hk⟩ : ∃ k, n - 1 - out.length = k + 1 := ⟨n - 1 - out.length - 1, by omega⟩
  rw [hk, words_step ifs _ k hne] at h2
  rw [h2, hb]
  have : n - 1 - (out ++ [w0 ifs (p.drop a)]).length = k := by simp; omega
  rw [this]
  simp
theorem Way.rest {ifs p : LB} {n : Nat} {out : List LB} {a : Nat} (h : Way ifs p n out a) (ha : a < p.length) (ho : ¬ out.length < n - 1) : lineW ifs p n = out ++ [trimP ifs (p.drop a)] := by
  obtain ⟨h1, h2⟩ := h
  have hk : n - 1 - out.length = 0 := by omega
  rw [hk] at h2
  have h3 : wordsF ifs 0 (p.drop a) = ([], p.drop a) := by cases p.drop a <;> rfl
  rw [h3, List.append_nil] at h2
  unfold lineW
  rw [h2]
  dsimp only
  rw [if_neg (fun e => by
    have := congrArg List.length e
    simp at this; omega)]
theorem Way.done {ifs p : LB} {n : Nat} {out : List LB} {a : Nat} (h : Way ifs p n out a) (ha : p.length ≤ a) : lineW ifs p n = out := by
  obtain ⟨h1, h2⟩ := h
  rw [List.drop_of_length_le ha, words_end, List.append_nil] at h2
  unfold lineW
  rw [h2]
  dsimp only
  rw [if_pos rfl]
theorem lineW_len (ifs p : LB) (n : Nat) (hn : 1 ≤ n) : (lineW ifs p n).length ≤ n := by
  have h : ∀ (k : Nat) (t : LB), (wordsF ifs k t).1.length ≤ k := by
    intro k
    induction k with
    | zero => intro t; cases t <;> simp [wordsF]
    | succ k ih =>
      intro t
      cases t with
      | nil => simp [wordsF]
      | cons c r => unfold wordsF; have := ih (nextF ifs (c :: r)); simp; omega
  have := h (n - 1) (sk1 ifs p)
  unfold lineW
  split
  · omega
  · simp; omega
def slLen : Value → Nat
  | .slice _ n _ => n
  | _ => 0
set_option maxRecDepth 1000000 in
set_option maxHeartbeats 32000000 in
theorem refline_yes (p ifs : LB) (n : Nat) (w : World) (hp : p.length ≤ 20000) (hif : ifs.length ≤ 1000) (h1 : 1 ≤ n) (h2 : n ≤ 100) : Calls Try.prog 20 #[.string ⟨p.toArray⟩, .string ⟨ifs.toArray⟩, .int .i64 (n : Int)] w fun e w' => ∃ A c, e = .returned (.slice A n c) ∧ Ow w.heap.size w' A n c (lineF ifs p n) ∧ Below w.heap.size w w' := by
  have k1 : ¬ (n : Int) < 1 := by omega
  have k2 : ¬ (100 : Int) < (n : Int) := by omega
  have XK := hide (fun c W => kind_any c ifs (by omega) W)
  have HIX := hide (fun a y h W => ix_l p a y h W)
  have HLF : Hid (lineF ifs p n = lineW ifs p n ++ List.replicate (n - (lineW ifs p n).length) []) := hide rfl
  have HLN := hide (lineW_len ifs p n h1)
  obtain ⟨i0, hi, hz0, hz1, hz2⟩ := info_parts infoStr
  have HI0 := hide hi
  clear hi
  go_enter Try.func20, Try.ntmps20
  go_upto_block 0 with (fail)
  go_cut [8] (fun u8 wx => ∃ a : Nat, a ≤ p.length ∧ u8 = .int .i64 (a : Int) ∧ Hid (Way ifs p n [] a) ∧ w = wx)
  case first =>
    go_wp2_with fail
    go_loop [8] (fun u8 => ∃ a : Nat, 0 ≤ a ∧ a ≤ p.length ∧ u8 = .int .i64 (a : Int) ∧ Hid (skK ifs 1 (p.drop a) = sk1 ifs p)) (fun u8 => p.length - (intOf u8).toNat)
    case atStart => exact ⟨0, Nat.le_refl _, Nat.zero_le _, rfl, hide rfl⟩
    case round =>
      obtain ⟨a, ha0, ha, rfl, HS⟩ := hrel
      have hex : (∃ y, p[a]? = some y ∧ kindP ifs y = 1) ∨ (p.length ≤ a) ∨ (∃ y, p[a]? = some y ∧ kindP ifs y ≠ 1 ∧ a < p.length) := by
        rcases Nat.lt_or_ge a p.length with h | h
        · by_cases hk : kindP ifs p[a] = 1
          · exact .inl ⟨_, List.getElem?_eq_getElem h, hk⟩
          · exact .inr (.inr ⟨_, List.getElem?_eq_getElem h, hk, h⟩)
        · exact .inr (.inl h)
      rcases hex with ⟨y, hy, hk⟩ | hend | ⟨y, hy, hk, hlt⟩
      · have hlt : a < p.length := (List.getElem?_eq_some_iff.1 hy).1
        have HS2 : Hid (skK ifs 1 (p.drop (a + 1)) = sk1 ifs p) := hide ((skK_step hy hk).symm.trans HS.out)
        have hix := HIX.out a y hy
        have XY := hide (XK.out y)
        rw [hk] at XY
        have hlt1 : (a : Int) < (p.length : Int) := by omega
        clear hy hk HS
        go_wp2_with fail
        refine (XY.out _).mono ?_
        rintro e w' ⟨rfl, rfl⟩
        go_wp2_with fail
        go_round
        case rel => exact ⟨a + 1, by omega, by omega, by go_num, HS2⟩
        case measure => simp [intOf]; omega
      · have HE : Hid (p.drop a = sk1 ifs p) := hide ((skK_end hend).symm.trans HS.out)
        have hlt1 : ¬ (a : Int) < (p.length : Int) := by omega
        clear HS
        go_wp2_with fail
        go_meet
        exact ⟨a, ha, rfl, hide ⟨Nat.zero_le _, by rw [HE.out]; rfl⟩, rfl⟩
      · have HE : Hid (p.drop a = sk1 ifs p) := hide ((skK_stop hy hk).symm.trans HS.out)
        have hlt1 : (a : Int) < (p.length : Int) := by omega
        have hix := HIX.out a y hy
        have XY := hide (XK.out y)
        have hk1 : ((kindP ifs y : Int) == 1) = false := by rw [beq_eq_false_iff_ne]; omega
        obtain ⟨K, hKe⟩ : ∃ K, kindP ifs y = K := ⟨_, rfl⟩
        rw [hKe] at XY hk1
        clear hy hk HS hKe
        go_wp2_with fail
        refine (XY.out _).mono ?_
        rintro e w' ⟨rfl, rfl⟩
        clear XY
        go_wp2_with fail
        go_meet
        exact ⟨a, ha, rfl, hide ⟨Nat.zero_le _, by rw [HE.out]; rfl⟩, rfl⟩
  case rest =>
    obtain ⟨a, ha, rfl, HW, rfl⟩ := hcut
    go_wp2_with fail
    go_loopw [7, 8] (fun u7 u8 wy => ∃ (out : List LB) (m : Nat) (A : Option Addr) (c b : Nat), b ≤ p.length ∧ m ≤ n - 1 ∧ u8 = .int .i64 (b : Int) ∧ u7 = .slice A m c ∧ Hid (out.length = m) ∧ Hid (Way ifs p n out b) ∧ Hid (Below w.heap.size w wy) ∧ Hid (Ow w.heap.size wy A m c out)) (fun u7 _ _ => n - slLen u7)
    case atStart => exact ⟨[], 0, none, 0, a, ha, Nat.zero_le _, rfl, rfl, hide rfl, HW, hide (Below.refl _ _), hide (Ow.none_ _ _)⟩
    case round =>
      clear HW
      obtain ⟨out, m, A, c, b, hb, hol, rfl, rfl, HM, HW, HB, HO⟩ := hrel
      by_cases hgo : b < p.length ∧ m < n - 1
      · obtain ⟨g1, g2⟩ := hgo
        have g3 : (b : Int) < (p.length : Int) := by omega
        have g4 : (m : Int) < (n : Int) - 1 := by omega
        go_upto_block 4 with (fail)
        go_cut [8] (fun u8 wy => ∃ d : Nat, b ≤ d ∧ d ≤ p.length ∧ u8 = .int .i64 (d : Int) ∧ Hid (p.drop d = skK ifs 0 (p.drop b)) ∧ wr = wy)
        case first =>
          go_wp2_with fail
          go_loop [8] (fun u8 => ∃ a : Nat, b ≤ a ∧ a ≤ p.length ∧ u8 = .int .i64 (a : Int) ∧ Hid (skK ifs 0 (p.drop a) = skK ifs 0 (p.drop b))) (fun u8 => p.length - (intOf u8).toNat)
          case atStart => exact ⟨b, Nat.le_refl _, hb, rfl, hide rfl⟩
          case round =>
            obtain ⟨d, hd0, hd, rfl, HS⟩ := hrel
            have hex : (∃ y, p[d]? = some y ∧ kindP ifs y = 0) ∨ (p.length ≤ d) ∨ (∃ y, p[d]? = some y ∧ kindP ifs y ≠ 0 ∧ d < p.length) := by
              rcases Nat.lt_or_ge d p.length with h | h
              · by_cases hk : kindP ifs p[d] = 0
                · exact .inl ⟨_, List.getElem?_eq_getElem h, hk⟩
                · exact .inr (.inr ⟨_, List.getElem?_eq_getElem h, hk, h⟩)
              · exact .inr (.inl h)
            rcases hex with ⟨y, hy, hk⟩ | hend | ⟨y, hy, hk, hlt⟩
            · have hlt : d < p.length := (List.getElem?_eq_some_iff.1 hy).1
              have HS2 : Hid (skK ifs 0 (p.drop (d + 1)) = skK ifs 0 (p.drop b)) := hide ((skK_step hy hk).symm.trans HS.out)
              have hix := HIX.out d y hy
              have XY := hide (XK.out y)
              rw [hk] at XY
              have hlt1 : (d : Int) < (p.length : Int) := by omega
              clear hy hk HS
              go_wp2_with fail
              refine (XY.out _).mono ?_
              rintro e w' ⟨rfl, rfl⟩
              go_wp2_with fail
              go_round
              case rel => exact ⟨d + 1, by omega, by omega, by go_num, HS2⟩
              case measure => simp [intOf]; omega
            · have HE : Hid (p.drop d = skK ifs 0 (p.drop b)) := hide ((skK_end hend).symm.trans HS.out)
              have hlt1 : ¬ (d : Int) < (p.length : Int) := by omega
              clear HS
              go_wp2_with fail
              go_meet
              exact ⟨d, hd0, hd, rfl, HE, rfl⟩
            · have HE : Hid (p.drop d = skK ifs 0 (p.drop b)) := hide ((skK_stop hy hk).symm.trans HS.out)
              have hlt1 : (d : Int) < (p.length : Int) := by omega
              have hix := HIX.out d y hy
              have XY := hide (XK.out y)
              have hk1 : ((kindP ifs y : Int) == 0) = false := by rw [beq_eq_false_iff_ne]; omega
              obtain ⟨K, hKe⟩ : ∃ K, kindP ifs y = K := ⟨_, rfl⟩
              rw [hKe] at XY hk1
              clear hy hk HS hKe
              go_wp2_with fail
              refine (XY.out _).mono ?_
              rintro e w' ⟨rfl, rfl⟩
              clear XY
              go_wp2_with fail
              go_meet
              exact ⟨d, hd0, hd, rfl, HE, rfl⟩
        case rest =>
          obtain ⟨d, hd0, hd, rfl, HD, rfl⟩ := hcut
          have hsl := sl_two p b d (b : Int) (d : Int) rfl rfl hd0 hd
          rw [word_take hd0 hd HD.out] at hsl
          obtain ⟨X, hX⟩ : ∃ X, w0 ifs (p.drop b) = X := ⟨_, rfl⟩
          have HST := hide (fun b' h => (Way.step (b := b') HW.out (by have := HM.out; omega) g1 h))
          rw [hX] at hsl HST
          have HM2 : Hid ((out ++ [X]).length = m + 1) := hide (by have := HM.out; simp; omega)
          clear hX HM HW
          have HOA5 := hide (HO.out.alloc (.cells #[.string ⟨X.toArray⟩] 9))
          have HR5 := hide (one_str wr X)
          have hbw5 : w.heap.size ≤ wr.heap.size := HB.out.size
          go_upto_block 6 with (at_builtin; (refine wpList_append_any _ rfl (.tmp 56) (.tmp 61) 31 rfl w.heap.size 9 i0 _ 1 16 Try.underlying31 HI0.out hz0 hz1 hz2 rfl (by omega) (.slice A m c) (m) (svs out) rfl (by exact HOA5.out) (wr.heap.size + 1) (some ⟨wr.heap.size, 0, none⟩) 1 1 (svs [X]) rfl (by exact HR5.out) (svs_one _) ?c15 ?c25 ?c35 ?_))
          case c15 => unfold maxLen; omega
          case c25 => omega
          case c35 => simp; omega
          intro v5 W5 hown2 hg2 hat2
          obtain ⟨A5, c5, rfl, hO5, hB5⟩ := ow_next' HO.out (x := X) (by exact hown2) hg2 HB.out (Nat.le_refl _)
          have HO5 := hide hO5
          have HB5 := hide hB5
          clear hown2 hg2 hat2 hO5 hB5 HOA5 HR5 hbw5 HO HB
          clear hsl
          go_upto_block 6 with (fail)
          go_cut [8] (fun u8 wy => ∃ f : Nat, d ≤ f ∧ f ≤ p.length ∧ u8 = .int .i64 (f : Int) ∧ Hid (p.drop f = skK ifs 1 (p.drop d)) ∧ W5 = wy)
          case first =>
            go_wp2_with fail
            go_loop [8] (fun u8 => ∃ a : Nat, d ≤ a ∧ a ≤ p.length ∧ u8 = .int .i64 (a : Int) ∧ Hid (skK ifs 1 (p.drop a) = skK ifs 1 (p.drop d))) (fun u8 => p.length - (intOf u8).toNat)
            case atStart => exact ⟨d, Nat.le_refl _, hd, rfl, hide rfl⟩
            case round =>
              obtain ⟨f, hf0, hf, rfl, HS⟩ := hrel
              have hex : (∃ y, p[f]? = some y ∧ kindP ifs y = 1) ∨ (p.length ≤ f) ∨ (∃ y, p[f]? = some y ∧ kindP ifs y ≠ 1 ∧ f < p.length) := by
                rcases Nat.lt_or_ge f p.length with h | h
                · by_cases hk : kindP ifs p[f] = 1
                  · exact .inl ⟨_, List.getElem?_eq_getElem h, hk⟩
                  · exact .inr (.inr ⟨_, List.getElem?_eq_getElem h, hk, h⟩)
                · exact .inr (.inl h)
              rcases hex with ⟨y, hy, hk⟩ | hend | ⟨y, hy, hk, hlt⟩
              · have hlt : f < p.length := (List.getElem?_eq_some_iff.1 hy).1
                have HS2 : Hid (skK ifs 1 (p.drop (f + 1)) = skK ifs 1 (p.drop d)) := hide ((skK_step hy hk).symm.trans HS.out)
                have hix := HIX.out f y hy
                have XY := hide (XK.out y)
                rw [hk] at XY
                have hlt1 : (f : Int) < (p.length : Int) := by omega
                clear hy hk HS
                go_wp2_with fail
                refine (XY.out _).mono ?_
                rintro e w' ⟨rfl, rfl⟩
                go_wp2_with fail
                go_round
                case rel => exact ⟨f + 1, by omega, by omega, by go_num, HS2⟩
                case measure => simp [intOf]; omega
              · have HE : Hid (p.drop f = skK ifs 1 (p.drop d)) := hide ((skK_end hend).symm.trans HS.out)
                have hlt1 : ¬ (f : Int) < (p.length : Int) := by omega
                clear HS
                go_wp2_with fail
                go_meet
                exact ⟨f, hf0, hf, rfl, HE, rfl⟩
              · have HE : Hid (p.drop f = skK ifs 1 (p.drop d)) := hide ((skK_stop hy hk).symm.trans HS.out)
                have hlt1 : (f : Int) < (p.length : Int) := by omega
                have hix := HIX.out f y hy
                have XY := hide (XK.out y)
                have hk1 : ((kindP ifs y : Int) == 1) = false := by rw [beq_eq_false_iff_ne]; omega
                obtain ⟨K, hKe⟩ : ∃ K, kindP ifs y = K := ⟨_, rfl⟩
                rw [hKe] at XY hk1
                clear hy hk HS hKe
                go_wp2_with fail
                refine (XY.out _).mono ?_
                rintro e w' ⟨rfl, rfl⟩
                clear XY
                go_wp2_with fail
                go_meet
                exact ⟨f, hf0, hf, rfl, HE, rfl⟩
          case rest =>
            obtain ⟨f, hf0, hf, rfl, HF, rfl⟩ := hcut
            have HF2 : Hid (p.drop f = sk1 ifs (r0 ifs (p.drop b))) := hide (by rw [HF.out, HD.out]; rfl)
            clear HF HD
            rcases Nat.lt_or_ge f p.length with hfl | hfl
            · obtain ⟨y, hy⟩ : ∃ y, p[f]? = some y := ⟨_, List.getElem?_eq_getElem hfl⟩
              have hix := HIX.out f y hy
              have XY := hide (XK.out y)
              have hlt1 : (f : Int) < (p.length : Int) := by omega
              have hdc : p.drop f = y :: p.drop (f + 1) := by
                obtain ⟨q1, q2⟩ := List.getElem?_eq_some_iff.1 hy
                rw [List.drop_eq_getElem_cons q1, q2]
              have HDC := hide hdc
              clear hdc hy
              by_cases hk : kindP ifs y = 2
              · have HN : Hid (nextF ifs (p.drop b) = sk1 ifs (p.drop (f + 1))) := hide (next_2 (by rw [← HDC.out]; exact HF2.out) hk)
                rw [hk] at XY
                clear hk HDC HF2
                go_wp2_with fail
                refine (XY.out _).mono ?_
                rintro e w' ⟨rfl, rfl⟩
                clear XY hix
                go_wp2_with fail
                go_loop [8] (fun u8 => ∃ a : Nat, f + 1 ≤ a ∧ a ≤ p.length ∧ u8 = .int .i64 (a : Int) ∧ Hid (skK ifs 1 (p.drop a) = sk1 ifs (p.drop (f + 1)))) (fun u8 => p.length - (intOf u8).toNat)
                case atStart => exact ⟨f + 1, Nat.le_refl _, by omega, by go_num, hide rfl⟩
                case round =>
                  obtain ⟨v5, hv50, hv5, rfl, HS⟩ := hrel
                  have hex : (∃ y, p[v5]? = some y ∧ kindP ifs y = 1) ∨ (p.length ≤ v5) ∨ (∃ y, p[v5]? = some y ∧ kindP ifs y ≠ 1 ∧ v5 < p.length) := by
                    rcases Nat.lt_or_ge v5 p.length with h | h
                    · by_cases hk : kindP ifs p[v5] = 1
                      · exact .inl ⟨_, List.getElem?_eq_getElem h, hk⟩
                      · exact .inr (.inr ⟨_, List.getElem?_eq_getElem h, hk, h⟩)
                    · exact .inr (.inl h)
                  rcases hex with ⟨y, hy, hk⟩ | hend | ⟨y, hy, hk, hlt⟩
                  · have hlt : v5 < p.length := (List.getElem?_eq_some_iff.1 hy).1
                    have HS2 : Hid (skK ifs 1 (p.drop (v5 + 1)) = sk1 ifs (p.drop (f + 1))) := hide ((skK_step hy hk).symm.trans HS.out)
                    have hix := HIX.out v5 y hy
                    have XY := hide (XK.out y)
                    rw [hk] at XY
                    have hlt1 : (v5 : Int) < (p.length : Int) := by omega
                    clear hy hk HS
                    go_wp2_with fail
                    refine (XY.out _).mono ?_
                    rintro e w' ⟨rfl, rfl⟩
                    go_wp2_with fail
                    go_round
                    case rel => exact ⟨v5 + 1, by omega, by omega, by go_num, HS2⟩
                    case measure => simp [intOf]; omega
                  · have HE : Hid (p.drop v5 = sk1 ifs (p.drop (f + 1))) := hide ((skK_end hend).symm.trans HS.out)
                    have hlt1 : ¬ (v5 : Int) < (p.length : Int) := by omega
                    clear HS
                    go_wp2_with fail
                    go_roundw
                    case rel => exact ⟨out ++ [X], m + 1, A5, c5, v5, hv5, by omega, rfl, rfl, HM2, hide (HST.out v5 (by rw [HE.out, HN.out])), HB5, HO5⟩
                    case measure => (try simp only [slLen]); first | omega | (simp [slLen]; omega)
                  · have HE : Hid (p.drop v5 = sk1 ifs (p.drop (f + 1))) := hide ((skK_stop hy hk).symm.trans HS.out)
                    have hlt1 : (v5 : Int) < (p.length : Int) := by omega
                    have hix := HIX.out v5 y hy
                    have XY := hide (XK.out y)
                    have hk1 : ((kindP ifs y : Int) == 1) = false := by rw [beq_eq_false_iff_ne]; omega
                    obtain ⟨K, hKe⟩ : ∃ K, kindP ifs y = K := ⟨_, rfl⟩
                    rw [hKe] at XY hk1
                    clear hy hk HS hKe
                    go_wp2_with fail
                    refine (XY.out _).mono ?_
                    rintro e w' ⟨rfl, rfl⟩
                    clear XY
                    go_wp2_with fail
                    go_roundw
                    case rel => exact ⟨out ++ [X], m + 1, A5, c5, v5, hv5, by omega, rfl, rfl, HM2, hide (HST.out v5 (by rw [HE.out, HN.out])), HB5, HO5⟩
                    case measure => (try simp only [slLen]); first | omega | (simp [slLen]; omega)
              · have HN : Hid (p.drop f = nextF ifs (p.drop b)) := hide (next_1 HF2.out (fun c r e => by
                  rw [HDC.out] at e
                  injection e with e1 e2
                  rw [← e1]; exact hk)).symm
                have hk1 : ((kindP ifs y : Int) == 2) = false := by rw [beq_eq_false_iff_ne]; omega
                generalize kindP ifs y = K at *
                clear hk HDC HF2
                go_wp2_with fail
                refine (XY.out _).mono ?_
                rintro e w' ⟨rfl, rfl⟩
                clear XY hix
                go_wp2_with fail
                go_roundw
                case rel => exact ⟨out ++ [X], m + 1, A5, c5, f, hf, by omega, rfl, rfl, HM2, hide (HST.out f HN.out), HB5, HO5⟩
                case measure => (try simp only [slLen]); first | omega | (simp [slLen]; omega)
            · have HN : Hid (p.drop f = nextF ifs (p.drop b)) := hide (next_1 HF2.out (fun c r e => by
                rw [List.drop_of_length_le hfl] at e
                cases e)).symm
              have hlt1 : ¬ (f : Int) < (p.length : Int) := by omega
              clear HF2
              go_wp2_with fail
              go_roundw
              case rel => exact ⟨out ++ [X], m + 1, A5, c5, f, hf, by omega, rfl, rfl, HM2, hide (HST.out f HN.out), HB5, HO5⟩
              case measure => (try simp only [slLen]); first | omega | (simp [slLen]; omega)
      · have hno : (p.length ≤ b) ∨ (b < p.length ∧ ¬ m < n - 1) := by omega
        rcases hno with hno | ⟨hno, hmn⟩
        · have HLW : Hid (lineW ifs p n = out) := hide (Way.done HW.out hno)
          have g3 : ¬ (b : Int) < (p.length : Int) := by omega
          have hmn : m ≤ n := by omega
          clear HW HM
          go_wp2_with fail
          go_loopw [7] (fun u7 wz => ∃ (q : Nat) (A : Option Addr) (c : Nat), m + q ≤ n ∧ u7 = .slice A (m + q) c ∧ Hid (Below w.heap.size w wz) ∧ Hid (Ow w.heap.size wz A (m + q) c (lineW ifs p n ++ List.replicate q []))) (fun u7 _ => n - slLen u7)
          case atStart => exact ⟨0, _, _, by omega, rfl, HB, hide (by rw [HLW.out]; simpa using HO.out)⟩
          case round =>
            clear HO HB
            obtain ⟨q, Aq, cq, hq, rfl, HBq, HOq⟩ := hrel
            by_cases hqn : m + q < n
            · have k3 : ((m : Nat) : Int) + (q : Int) < (n : Int) := by omega
              have k4 : ((m + q : Nat) : Int) < (n : Int) := by omega
              have HOA9 := hide (HOq.out.alloc (.cells #[.string ⟨([] : LB).toArray⟩] 9))
              have HR9 := hide (one_str wr ([] : LB))
              have hbw9 : w.heap.size ≤ wr.heap.size := HBq.out.size
              go_wp2_with (at_builtin; (refine wpList_append_any _ rfl (.tmp 121) (.tmp 122) 31 rfl w.heap.size 9 i0 _ 1 16 Try.underlying31 HI0.out hz0 hz1 hz2 rfl (by omega) (.slice Aq (m + q) cq) ((m + q)) (svs (lineW ifs p n ++ List.replicate q [])) rfl (by exact HOA9.out) (wr.heap.size + 1) (some ⟨wr.heap.size, 0, none⟩) 1 1 (svs [([] : LB)]) rfl (by exact HR9.out) (svs_one _) ?c19 ?c29 ?c39 ?_))
              case c19 => unfold maxLen; omega
              case c29 => omega
              case c39 => simp; omega
              intro v9 W9 hown2 hg2 hat2
              obtain ⟨A9, c9, rfl, hO5, hB5⟩ := ow_next' HOq.out (x := ([] : LB)) (by exact hown2) hg2 HBq.out (Nat.le_refl _)
              have HO9 := hide hO5
              have HB9 := hide hB5
              clear hown2 hg2 hat2 hO5 hB5 HOA9 HR9 hbw9 HOq HBq
              have HO10 : Hid (Ow w.heap.size W9 A9 (m + (q + 1)) c9 (lineW ifs p n ++ List.replicate (q + 1) [])) := hide (by
                have := HO9.out
                rw [List.append_assoc, ← List.replicate_succ'] at this
                exact this)
              clear HO9
              go_wp2_with fail
              go_roundw
              case rel => exact ⟨q + 1, A9, c9, by omega, rfl, HB9, HO10⟩
              case measure => (try simp only [slLen]); first | omega | (simp [slLen]; omega)
            · have k3 : ¬ ((m : Nat) : Int) + (q : Int) < (n : Int) := by omega
              have k4 : ¬ ((m + q : Nat) : Int) < (n : Int) := by omega
              have HFN : Hid (Ow w.heap.size wr Aq n cq (lineF ifs p n)) := hide (by
                have h5 := HOq.out
                have hl := h5.len
                rw [List.length_append, List.length_replicate] at hl
                rw [HLF.out]
                have e1 : n - (lineW ifs p n).length = q := by omega
                rw [e1]
                have e2 : m + q = n := by omega
                rw [e2] at h5
                exact h5)
              have e3 : m + q = n := by omega
              rw [e3]
              have k5 : ¬ (n : Int) < (n : Int) := by omega
              clear HOq e3 k3 k4 hqn
              go_wp2_with fail
              go_ret
              exact ⟨Aq, cq, rfl, HFN.out, HBq.out⟩
        · have HLW : Hid (lineW ifs p n = out ++ [trimP ifs (p.drop b)]) := hide (Way.rest HW.out hno (by have := HM.out; omega))
          have g3 : (b : Int) < (p.length : Int) := by omega
          have g4 : ¬ (m : Int) < (n : Int) - 1 := by omega
          have hsl := fun W => sl_from p b hb W
          have XT := hide (fun W => trimmed_any (p.drop b) ifs (by omega) (by rw [List.length_drop]; omega) W)
          obtain ⟨X, hX⟩ : ∃ X, trimP ifs (p.drop b) = X := ⟨_, rfl⟩
          rw [hX] at XT HLW
          clear hX HW HM
          go_wp2_with fail
          refine (XT.out _).mono ?_
          rintro e w' ⟨rfl, rfl⟩
          clear XT hsl
          have HOA7 := hide (HO.out.alloc (.cells #[.string ⟨X.toArray⟩] 9))
          have HR7 := hide (one_str wr X)
          have hbw7 : w.heap.size ≤ wr.heap.size := HB.out.size
          go_wp2_with (at_builtin; (refine wpList_append_any _ rfl (.tmp 109) (.tmp 115) 31 rfl w.heap.size 9 i0 _ 1 16 Try.underlying31 HI0.out hz0 hz1 hz2 rfl (by omega) (.slice A m c) (m) (svs out) rfl (by exact HOA7.out) (wr.heap.size + 1) (some ⟨wr.heap.size, 0, none⟩) 1 1 (svs [X]) rfl (by exact HR7.out) (svs_one _) ?c17 ?c27 ?c37 ?_))
          case c17 => unfold maxLen; omega
          case c27 => omega
          case c37 => simp; omega
          intro v7 W7 hown2 hg2 hat2
          obtain ⟨A7, c7, rfl, hO5, hB5⟩ := ow_next' HO.out (x := X) (by exact hown2) hg2 HB.out (Nat.le_refl _)
          have HO7 := hide hO5
          have HB7 := hide hB5
          clear hown2 hg2 hat2 hO5 hB5 HOA7 HR7 hbw7 HO HB
          have hm1 : m + 1 ≤ n := by omega
          go_wp2_with fail
          go_loopw [7] (fun u7 wz => ∃ (q : Nat) (A : Option Addr) (c : Nat), (m + 1) + q ≤ n ∧ u7 = .slice A ((m + 1) + q) c ∧ Hid (Below w.heap.size w wz) ∧ Hid (Ow w.heap.size wz A ((m + 1) + q) c (lineW ifs p n ++ List.replicate q []))) (fun u7 _ => n - slLen u7)
          case atStart => exact ⟨0, _, _, by omega, rfl, HB7, hide (by rw [HLW.out]; simpa using HO7.out)⟩
          case round =>
            clear HO7 HB7
            obtain ⟨q, Aq, cq, hq, rfl, HBq, HOq⟩ := hrel
            by_cases hqn : (m + 1) + q < n
            · exfalso; omega
            · have k3 : ¬ (((m + 1) : Nat) : Int) + (q : Int) < (n : Int) := by omega
              have k4 : ¬ (((m + 1) + q : Nat) : Int) < (n : Int) := by omega
              have HFN : Hid (Ow w.heap.size wr Aq n cq (lineF ifs p n)) := hide (by
                have h5 := HOq.out
                have hl := h5.len
                rw [List.length_append, List.length_replicate] at hl
                rw [HLF.out]
                have e1 : n - (lineW ifs p n).length = q := by omega
                rw [e1]
                have e2 : (m + 1) + q = n := by omega
                rw [e2] at h5
                exact h5)
              have e3 : (m + 1) + q = n := by omega
              rw [e3]
              have k5 : ¬ (n : Int) < (n : Int) := by omega
              clear HOq e3 k3 k4 hqn
              go_wp2_with fail
              go_ret
              exact ⟨Aq, cq, rfl, HFN.out, HBq.out⟩
end Go.Proofs.Ytnongbbhpkmdjaa
