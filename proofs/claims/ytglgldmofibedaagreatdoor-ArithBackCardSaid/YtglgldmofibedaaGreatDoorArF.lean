/- Contracts of slices.Index, Contains and of arith.number, enter. -/
import Derived.Test.YtglgldmofibedaaGreatDoorArE
namespace Go.Proofs.YtglgldmofibedaaGreatDoor
open Go.RowKit
set_option linter.unusedVariables false
theorem spot_none {w : World} {ad : Addr} {u : Value} (h : w.cell? ad = some u) : ad = ⟨ad.block, ad.off, none⟩ := by
  obtain ⟨b, o, s⟩ := ad
  cases s with
  | none => rfl
  | some x =>
    unfold World.cell? at h
    split at h <;> simp at h
theorem rd_cells {w : World} {B n : Nat} {A : Option Addr} {ks : List Tok} (h : Reads w B 1 A n (svs ks)) (h0 : 0 < n) :
    ∃ g o, A = some ⟨g, o, none⟩ ∧ g < B ∧ ∀ j (hj : j < ks.length), w.cell? ⟨g, o + j, none⟩ = some (.string ⟨ks[j].toArray⟩) := by
  have hl : ks.length = n := by have := h.1; rw [svs_length] at this; omega
  obtain ⟨ad, rfl, hb, hc⟩ := h.2 h0
  have h00 := hc 0 _ (svs_get ks 0 (by omega))
  rw [add_zero_] at h00
  have hs := spot_none h00
  refine ⟨ad.block, ad.off, by rw [← hs], hb, fun j hj => ?_⟩
  have := hc j _ (svs_get ks j hj)
  rw [hs, at_add] at this
  exact this
theorem rd_len {w : World} {B n : Nat} {A : Option Addr} {ks : List Tok} (h : Reads w B 1 A n (svs ks)) : n = ks.length := by have := h.1; rw [svs_length] at this; omega
theorem str_at (g o n c q : Nat) (i : Int) (hi : i = (q : Int)) (hq : q < n) (W : World) : (Instr.indexAt 31 (.slice (some ⟨g, o, none⟩) n c) (.int .i64 i)).run Tryz.prog W = .ok (.pointer (some ⟨g, o + q, none⟩)) W := by
  subst hi
  have hE : Tryz.prog.elem 31 = 9 := by simp [Program.elem, Tryz.underlying31]
  rw [run_indexAt_slice W 31 ⟨g, o, none⟩ n c .i64 (q : Int) (slice_ht Tryz.underlying31), if_pos ⟨by omega, by omega⟩]
  rw [hE, run_sizeOf_one 9 sizeStr]
  simp only [Result.andThen, Int.toNat_natCast, at_add, Nat.mul_one]
/-- Where a text is in a row; -1: nowhere. -/
def idxP (s : Tok) : List Tok → Nat → Int
  | [], _ => -1
  | o :: l, k => if s == o then (k : Int) else idxP s l (k + 1)
theorem idx_mem (s : Tok) : ∀ l k, decide (0 ≤ idxP s l k) = memP s l
  | [], _ => rfl
  | o :: l, k => by
    unfold idxP memP
    cases h : (s == o)
    · rw [Bool.false_or, ← idx_mem s l (k + 1)]; rfl
    · simp
set_option maxRecDepth 100000 in
set_option maxHeartbeats 2000000 in
theorem index_any (ks : List Tok) (s : Tok) (A : Option Addr) (n c : Nat) (B : Nat) (w : World) (hA : Reads w B 1 A n (svs ks)) (hn : n ≤ 1000000) :
    Calls Tryz.prog 59 #[.slice A n c, .string ⟨s.toArray⟩] w fun e w' => e = .returned (.int .i64 (idxP s ks 0)) ∧ w = w' := by
  have HL := hide (rd_len hA)
  have HA := hide hA
  clear hA
  go_enter Tryz.func59, Tryz.ntmps59
  go_wp2_with fail
  go_loopw [8] (fun u8 wx => ∃ k : Nat, k ≤ n ∧ u8 = .int .i64 (k : Int) ∧ wx = w ∧ Hid (idxP s ks 0 = idxP s (ks.drop k) k)) (fun u8 _ => n - (intOf u8).toNat)
  case atStart => exact ⟨0, Nat.zero_le _, rfl, rfl, hide rfl⟩
  case round =>
    obtain ⟨k, hk, rfl, rfl, HN⟩ := hrel
    by_cases hlt : k < n
    · obtain ⟨g, o, rfl, hg, hc⟩ := rd_cells HA.out (by omega)
      have hkl : k < ks.length := by have := HL.out; omega
      have hck := hc k hkl
      have hia := fun W => str_at g o n c k (k : Int) rfl hlt W
      have hlt' : (k : Int) < (n : Int) := by omega
      have HN1 : Hid (idxP s ks 0 = if s == ks[k] then (k : Int) else idxP s (ks.drop (k + 1)) (k + 1)) := hide (by rw [HN.out, List.drop_eq_getElem_cons hkl]; rfl)
      clear HN hc
      generalize ks[k] = x at *
      cases hb : (s == x) with
      | true =>
        rw [hb] at HN1
        go_wp2_with fail
        go_ret
        exact ⟨by rw [HN1.out]; rfl, by first | rfl | trivial⟩
      | false =>
        rw [hb] at HN1
        go_wp2_with fail
        go_roundw
        case rel => exact ⟨k + 1, by omega, by go_num, by first | rfl | trivial, hide (by rw [HN1.out]; rfl)⟩
        case measure => simp [intOf]; omega
    · have hlt' : ¬ (k : Int) < (n : Int) := by omega
      have HE : Hid (idxP s ks 0 = -1) := hide (by rw [HN.out, List.drop_of_length_le (by have := HL.out; omega)]; rfl)
      clear HN
      go_wp2_with fail
      go_ret
      exact ⟨by rw [HE.out]; rfl, by first | rfl | trivial⟩
theorem contains_any (ks : List Tok) (s : Tok) (A : Option Addr) (n c : Nat) (B : Nat) (w : World) (hA : Reads w B 1 A n (svs ks)) (hn : n ≤ 1000000) :
    Calls Tryz.prog 54 #[.slice A n c, .string ⟨s.toArray⟩] w fun e w' => e = .returned (.bool (memP s ks)) ∧ w = w' := by
  have X := hide (index_any ks s A n c B w hA hn)
  have H : Hid (memP s ks = decide (0 ≤ idxP s ks 0)) := hide (idx_mem s ks 0).symm
  clear hA
  generalize idxP s ks 0 = i at *
  go_enter Tryz.func54, Tryz.ntmps54
  go_wp2_with fail
  refine X.out.mono ?_
  rintro e w1 ⟨rfl, rfl⟩
  go_wp2_with fail
  go_ret
  exact ⟨by rw [H.out]; rfl, rfl⟩
/-- The panic of a fault. -/
def badPanic (e : Int) : Ending := .panicked [{ v := .iface 52 (.agg #[.int .i64 e]), recovered := false }]
theorem enter_ok (d : Int) (h : d ≤ 40) (w : World) : Calls Tryz.prog 42 #[.int .i64 d] w fun e w' => e = .returned (.tuple #[]) ∧ w = w' := by
  have h' : ¬ 40 < d := by omega
  go_enter Tryz.func42, Tryz.ntmps42
  go_wp2_with fail
  go_end0
  exact ⟨rfl, rfl⟩
theorem enter_bad (d : Int) (h : 40 < d) (w : World) : Calls Tryz.prog 42 #[.int .i64 d] w fun e w' => e = badPanic 51 ∧ w = w' := by
  go_enter Tryz.func42, Tryz.ntmps42
  go_wp2_with fail
  exact ⟨rfl, rfl, rfl⟩
set_option maxRecDepth 100000 in
set_option maxHeartbeats 2000000 in
theorem number_any (t : Tok) (w : World) (ht : t.length ≤ 1000000) :
    Calls Tryz.prog 57 #[.string ⟨t.toArray⟩] w fun e w' => e = .returned (.int .i64 (numP t)) ∧ w = w' := by
  have X := hide (fun W => cut_any t [48, 120] W ht)
  have key : ∀ (b : Int) (s : Tok), (startsP t [48, 120] = true → b = 16 ∧ s = t.drop 2) → (startsP t [48, 120] = false → b = 10 ∧ s = t) → Hid (numP t = W (numD b s 0)) := by
    intro b s h1 h2
    refine hide ?_
    unfold numP
    cases hb : startsP t [48, 120]
    · obtain ⟨rfl, rfl⟩ := h2 hb; rw [if_neg (by simp)]
    · obtain ⟨rfl, rfl⟩ := h1 hb; rw [if_pos rfl]
  unfold cutP at X
  cases hb : startsP t [48, 120]
  · have HK := key 10 t (fun h => by rw [hb] at h; cases h) (fun _ => ⟨rfl, rfl⟩)
    rw [hb] at X
    clear key hb
    have hll := ht
    go_enter Tryz.func57, Tryz.ntmps57
    go_wp2_with fail
    refine (X.out _).mono ?_
    rintro e w1 ⟨rfl, rfl⟩
    
    go_wp2_with fail
    go_loopw [6, 17] (fun u6 u17 wx => ∃ (k : Nat) (a : Int), k ≤ t.length ∧ u6 = .int .u64 a ∧ u17 = .int .i64 (k : Int) ∧ wx = w ∧ Hid (numD 10 t 0 = numD 10 (t.drop k) a) ∧ 0 ≤ a ∧ a < 18446744073709551616) (fun _ u17 _ => t.length - (intOf u17).toNat)
    case atStart => exact ⟨0, 0, Nat.zero_le _, rfl, rfl, rfl, hide rfl, by omega, by omega⟩
    case round =>
      obtain ⟨k, a, hk, rfl, rfl, rfl, HN, ha0, ha1⟩ := hrel
      by_cases hlt : k < t.length
      · obtain ⟨c, hc⟩ : ∃ c, t[k]? = some c := ⟨_, List.getElem?_eq_getElem hlt⟩
        have hix := ix_l t k c hc
        have hdr : t.drop k = c :: t.drop (k + 1) := by
          obtain ⟨h1, h2⟩ := List.getElem?_eq_some_iff.1 hc
          rw [List.drop_eq_getElem_cons h1, h2]
        have HN2 : Hid (numD 10 t 0 = numD 10 (t.drop (k + 1)) ((a * 10 + hexV c) % 18446744073709551616)) := hide (by rw [HN.out, hdr]; rfl)
        have HX := hide (digit_any c)
        have hlt' : (k : Int) < (t.length : Int) := by omega
        clear HN hc hdr
        generalize hexV c = h at *
        go_wp2_with fail
        refine (HX.out _).mono ?_
        rintro e w1 ⟨rfl, rfl⟩
        go_wp2_with fail
        go_roundw
        case rel => exact ⟨k + 1, _, by omega, rfl, by go_num, trivial, hide (by rw [HN2.out]; congr 1; simp [IntKind.wrap, IntKind.bits, IntKind.signed]), by simp [IntKind.wrap, IntKind.bits, IntKind.signed]; omega, by simp [IntKind.wrap, IntKind.bits, IntKind.signed]; omega⟩
        case measure => simp [intOf]; omega
      · have hlt' : ¬ (k : Int) < (t.length : Int) := by omega
        have HE : Hid (numP t = W a) := hide (by rw [HK.out, HN.out, List.drop_of_length_le (by omega)]; rfl)
        clear HN HK
        go_wp2_with fail
        go_ret
        exact ⟨by rw [HE.out]; rfl, by first | rfl | trivial⟩
  · have HK := key 16 (t.drop 2) (fun _ => ⟨rfl, rfl⟩) (fun h => by rw [hb] at h; cases h)
    have X2 : Hid (∀ W, Calls Tryz.prog 64 #[.string ⟨t.toArray⟩, .string ⟨#[48, 120]⟩] W fun e w' => e = .returned (.tuple #[.string ⟨(t.drop 2).toArray⟩, .bool true]) ∧ W = w') := hide fun W => by
      have h := X.out W
      rw [hb, if_pos rfl] at h
      exact h
    clear key hb X
    have hll : (t.drop 2).length ≤ 1000000 := by simp; omega
    generalize t.drop 2 = s at *
    go_enter Tryz.func57, Tryz.ntmps57
    go_wp2_with fail
    refine (X2.out _).mono ?_
    rintro e w1 ⟨rfl, rfl⟩
    go_wp2_with fail
    go_loopw [6, 17] (fun u6 u17 wx => ∃ (k : Nat) (a : Int), k ≤ s.length ∧ u6 = .int .u64 a ∧ u17 = .int .i64 (k : Int) ∧ wx = w ∧ Hid (numD 16 s 0 = numD 16 (s.drop k) a) ∧ 0 ≤ a ∧ a < 18446744073709551616) (fun _ u17 _ => s.length - (intOf u17).toNat)
    case atStart => exact ⟨0, 0, Nat.zero_le _, rfl, rfl, rfl, hide rfl, by omega, by omega⟩
    case round =>
      obtain ⟨k, a, hk, rfl, rfl, rfl, HN, ha0, ha1⟩ := hrel
      by_cases hlt : k < s.length
      · obtain ⟨c, hc⟩ : ∃ c, s[k]? = some c := ⟨_, List.getElem?_eq_getElem hlt⟩
        have hix := ix_l s k c hc
        have hdr : s.drop k = c :: s.drop (k + 1) := by
          obtain ⟨h1, h2⟩ := List.getElem?_eq_some_iff.1 hc
          rw [List.drop_eq_getElem_cons h1, h2]
        have HN2 : Hid (numD 16 s 0 = numD 16 (s.drop (k + 1)) ((a * 16 + hexV c) % 18446744073709551616)) := hide (by rw [HN.out, hdr]; rfl)
        have HX := hide (digit_any c)
        have hlt' : (k : Int) < (s.length : Int) := by omega
        clear HN hc hdr
        generalize hexV c = h at *
        go_wp2_with fail
        refine (HX.out _).mono ?_
        rintro e w1 ⟨rfl, rfl⟩
        go_wp2_with fail
        go_roundw
        case rel => exact ⟨k + 1, _, by omega, rfl, by go_num, trivial, hide (by rw [HN2.out]; congr 1; simp [IntKind.wrap, IntKind.bits, IntKind.signed]), by simp [IntKind.wrap, IntKind.bits, IntKind.signed]; omega, by simp [IntKind.wrap, IntKind.bits, IntKind.signed]; omega⟩
        case measure => simp [intOf]; omega
      · have hlt' : ¬ (k : Int) < (s.length : Int) := by omega
        have HE : Hid (numP t = W a) := hide (by rw [HK.out, HN.out, List.drop_of_length_le (by omega)]; rfl)
        clear HN HK
        go_wp2_with fail
        go_ret
        exact ⟨by rw [HE.out]; rfl, by first | rfl | trivial⟩
end Go.Proofs.YtglgldmofibedaaGreatDoor
