/- The document's Known and Program. -/
import Derived.Test.YtlkccboongnneaaGreatDoorPgBA
namespace Go.Proofs.YtlkccboongnneaaGreatDoor
open Go.RowKit
set_option linter.unusedVariables false
def names10 : List Bs := [[116, 114, 117, 101], [102, 97, 108, 115, 101], [101, 99, 104, 111], [99, 97, 116], [119, 99], [104, 101, 97, 100], [116, 114], [101, 110, 118], [102, 97, 105, 108], [121, 101, 115]]
theorem prgF_mem {l : Bs} (h : l ∈ names10) : (prgF l).isSome = true := by
  simp only [names10, List.mem_cons, List.mem_nil_iff, or_false] at h
  rcases h with rfl | rfl | rfl | rfl | rfl | rfl | rfl | rfl | rfl | rfl <;> rfl
theorem prgF_not {l : Bs} (h : l ∉ names10) : (prgF l).isSome = false := by
  simp only [names10, List.mem_cons, List.mem_nil_iff, or_false, not_or] at h
  obtain ⟨h1, h2, h3, h4, h5, h6, h7, h8, h9, h10⟩ := h
  unfold prgF
  simp [h1, h2, h3, h4, h5, h6, h7, h8, h9, h10]
set_option maxRecDepth 100000 in
set_option maxHeartbeats 4000000 in
theorem rknown_any (l : Bs) (w : World) :
    Calls Tryz.prog 12 #[.string ⟨l.toArray⟩] w fun e w' => e = .returned (.bool (prgF l).isSome) ∧ Below w.heap.size w w' := by
  have HN : Hid (Reads (w.alloc (.cells #[.string ⟨#[116, 114, 117, 101]⟩, .string ⟨#[102, 97, 108, 115, 101]⟩, .string ⟨#[101, 99, 104, 111]⟩, .string ⟨#[99, 97, 116]⟩, .string ⟨#[119, 99]⟩, .string ⟨#[104, 101, 97, 100]⟩, .string ⟨#[116, 114]⟩, .string ⟨#[101, 110, 118]⟩, .string ⟨#[102, 97, 105, 108]⟩, .string ⟨#[121, 101, 115]⟩] 9)) (w.alloc (.cells #[.string ⟨#[116, 114, 117, 101]⟩, .string ⟨#[102, 97, 108, 115, 101]⟩, .string ⟨#[101, 99, 104, 111]⟩, .string ⟨#[99, 97, 116]⟩, .string ⟨#[119, 99]⟩, .string ⟨#[104, 101, 97, 100]⟩, .string ⟨#[116, 114]⟩, .string ⟨#[101, 110, 118]⟩, .string ⟨#[102, 97, 105, 108]⟩, .string ⟨#[121, 101, 115]⟩] 9)).heap.size 1 (some ⟨w.heap.size, 0, none⟩) 10 (svs names10)) := hide (lit_rdA w _ 9 10 _ rfl rfl)
  go_enter Tryz.func12, Tryz.ntmps12
  go_wp2_with fail
  obtain ⟨W1, hW1⟩ : ∃ W, (w.alloc (.cells #[.string ⟨#[116, 114, 117, 101]⟩, .string ⟨#[102, 97, 108, 115, 101]⟩, .string ⟨#[101, 99, 104, 111]⟩, .string ⟨#[99, 97, 116]⟩, .string ⟨#[119, 99]⟩, .string ⟨#[104, 101, 97, 100]⟩, .string ⟨#[116, 114]⟩, .string ⟨#[101, 110, 118]⟩, .string ⟨#[102, 97, 105, 108]⟩, .string ⟨#[121, 101, 115]⟩] 9)) = W := ⟨_, rfl⟩
  have HB : Hid (Below w.heap.size w W1) := hide (by rw [← hW1]; exact on_alloc _ _)
  rw [hW1] at HN
  go_loopw [4] (fun u4 wx => ∃ (k : Nat), k ≤ 10 ∧ u4 = .int .i64 (k : Int) ∧ Hid (∀ j, j < k → names10[j]? ≠ some l) ∧ W1 = wx) (fun i _ => 10 - (intOf i).toNat)
  case atStart => exact ⟨0, by omega, rfl, hide (fun j hj => absurd hj (by omega)), by rw [hW1]⟩
  case round =>
    obtain ⟨k, hk, rfl, HK, rfl⟩ := hrel
    clear hW1
    by_cases hk10 : k = 10
    · subst hk10
      have HF : Hid ((prgF l).isSome = false) := hide (prgF_not (by
        intro hm
        obtain ⟨j, hj⟩ := List.mem_iff_getElem?.1 hm
        have hj10 : j < 10 := by
          rcases Nat.lt_or_ge j 10 with h | h
          · exact h
          · rw [List.getElem?_eq_none (by simpa [names10] using h)] at hj; cases hj
        exact HK.out j hj10 hj))
      go_wp2_with fail
      go_ret
      exact ⟨by rw [HF.out]; rfl, HB.out⟩
    · have hlt : (k : Int) < 10 := by omega
      obtain ⟨x, hx⟩ : ∃ x, names10[k]? = some x := ⟨_, List.getElem?_eq_getElem (by simp [names10]; omega)⟩
      have hc := cell_s HN.out (k := k) hx
      rw [Nat.zero_add] at hc
      have HX := hide hx
      by_cases he : x = l
      · have HF : Hid ((prgF l).isSome = true) := hide (prgF_mem (by rw [← he]; exact List.mem_of_getElem? hx))
        have heb : (x == l) = true := by rw [he]; simp
        clear he hx
        go_wp2_with fail
        go_ret
        exact ⟨by rw [HF.out]; rfl, HB.out⟩
      · have heb : (x == l) = false := by simpa using he
        have HE := hide he
        clear he hx
        go_wp2_with fail
        go_roundw
        case rel =>
          refine ⟨k + 1, by omega, by simp, hide (fun j hj => ?_), by first | rfl | trivial⟩
          rcases Nat.lt_or_ge j k with h | h
          · exact HK.out j h
          · rw [show j = k from by omega, HX.out]
            intro e
            injection e with e
            exact HE.out e
        case measure => simp [intOf]; omega
theorem ahead_at : ∀ (l : Bs) (k : Nat), (∀ j, j < k → l[j]? ≠ some 10) → (k = l.length ∨ l[k]? = some 10) → ahead 10 l = l.take k := by
  intro l
  induction l with
  | nil => intro k _ h; simp [ahead]
  | cons x l ih =>
    intro k h1 h2
    cases k with
    | zero =>
      rcases h2 with h2 | h2
      · simp at h2
      · simp at h2
        subst h2
        simp [ahead]
    | succ k =>
      have hx : x ≠ 10 := by have := h1 0 (by omega); simpa using this
      have := ih k (fun j hj => by have := h1 (j + 1) (by omega); simpa using this) (by
        rcases h2 with h2 | h2
        · left; simpa using h2
        · right; simpa using h2)
      unfold ahead at this ⊢
      rw [List.takeWhile_cons, if_pos (by simpa using hx), this]
      rfl
set_option maxRecDepth 100000 in
set_option maxHeartbeats 8000000 in
theorem rprogram_any (s : Bs) (A : Option Addr) (n c : Nat) (hn : n ≤ 1000000) (hc : n ≤ c) (w : World) (hR : Reads w w.heap.size 1 A n (bv s)) :
    Calls Tryz.prog 9 #[.slice A n c] w fun e w' => e = .returned (.tuple #[.string ⟨(progP s).1.toArray⟩, .bool (progP s).2]) ∧ Below w.heap.size w w' := by
  have hl : s.length = n := by have := hR.1; simp [bv] at this; exact this
  have HR := hide hR
  by_cases hp : [35, 33] <+: s
  · obtain ⟨r, rfl⟩ := hp
    have hb : behind ([35, 33] ++ r) = (r, true) := by unfold behind; rw [if_pos (List.prefix_append _ _)]; rfl
    have HP : Hid (progP ([35, 33] ++ r) = if (prgF (ahead 10 r)).isSome = true then (ahead 10 r, true) else ([], false)) := hide (by unfold progP; rw [hb]; simp)
    have hrl : r.length + 2 = n := by simp at hl; omega
    obtain ⟨g, o, rfl, hg, hcl⟩ := cells_of hR (by omega) (by simp [bv])
    have q0 := hcl 0 (.int .u8 35) rfl
    have q1 := hcl 1 (.int .u8 33) rfl
    rw [Nat.add_zero] at q0
    have HCL := hide hcl
    have HRL := hide hrl
    have hn2 : ¬ ((n : Int) < 2) := by omega
    have hn2n : 2 ≤ n := by omega
    clear hR hl hb hcl hrl
    go_enter Tryz.func9, Tryz.ntmps9
    go_wp2_with fail
    go_loopw [4] (fun u4 wx => ∃ (t : Nat), 2 ≤ t ∧ t ≤ n ∧ u4 = .int .i64 (t : Int) ∧ Hid (∀ j, j + 2 < t → r[j]? ≠ some 10) ∧ w = wx) (fun i _ => n - (intOf i).toNat)
    case atStart => exact ⟨2, by omega, hn2n, rfl, hide (fun j hj => absurd hj (by omega)), rfl⟩
    case round =>
      obtain ⟨t, ht2, htn, rfl, HK, rfl⟩ := hrel
      by_cases hte : t = n
      · have htl : ¬ ((t : Int) < (n : Int)) := by omega
        have HTE := hide hte
        clear hte
        have hrd := Reads.drop_ HR.out hc (l := 2) (by omega)
        rw [← bv_drop, show (([35, 33] ++ r : Bs).drop 2) = r from rfl] at hrd
        have htk := hrd.take (q := t - 2) (by omega)
        rw [← bv_take] at htk
        have hnm : Hid (ahead 10 r = r.take (t - 2)) := hide (ahead_at r (t - 2) (fun j hj => HK.out j (by omega)) (by left; have := HRL.out; have := HTE.out; omega))
        obtain ⟨nm, hnm2⟩ : ∃ x, r.take (t - 2) = x := ⟨_, rfl⟩
        rw [hnm2] at htk hnm
        have hP2 : Hid (progP (35 :: 33 :: r) = if (prgF nm).isSome = true then (nm, true) else ([], false)) := hide (by show progP ([35, 33] ++ r) = _; rw [HP.out, hnm.out])
        have XK := hide (rknown_any nm w)
        by_cases hc2 : c = 2
        · rw [if_pos hc2] at htk
          have hcv := run_string_of (P := Tryz.prog) w w.heap.size 24 9 5 (some ⟨g, o, none⟩) (t - 2) 0 nm Tryz.underlying24 Tryz.underlying5 Tryz.underlying9 htk
          clear hrd htk hnm2
          go_wp2_with fail
          refine XK.out.mono ?_
          rintro e w2 ⟨rfl, hb⟩
          have HB := hide hb
          clear hb XK hcv
          cases hF : (prgF nm).isSome with
          | false =>
            rw [hF] at hP2
            clear hF
            go_wp2_with fail
            go_ret2
            exact ⟨by rw [hP2.out]; rfl, HB.out⟩
          | true =>
            rw [hF] at hP2
            clear hF
            go_wp2_with fail
            go_ret2
            exact ⟨by rw [hP2.out]; rfl, HB.out⟩
        · rw [if_neg hc2, Option.map_some, add_plain_] at htk
          have hcv := run_string_of (P := Tryz.prog) w w.heap.size 24 9 5 (some ⟨g, o + 2, none⟩) (t - 2) (c - 2) nm Tryz.underlying24 Tryz.underlying5 Tryz.underlying9 htk
          clear hrd htk hnm2
          go_wp2_with fail
          refine XK.out.mono ?_
          rintro e w2 ⟨rfl, hb⟩
          have HB := hide hb
          clear hb XK hcv
          cases hF : (prgF nm).isSome with
          | false =>
            rw [hF] at hP2
            clear hF
            go_wp2_with fail
            go_ret2
            exact ⟨by rw [hP2.out]; rfl, HB.out⟩
          | true =>
            rw [hF] at hP2
            clear hF
            go_wp2_with fail
            go_ret2
            exact ⟨by rw [hP2.out]; rfl, HB.out⟩
      · have htl : (t : Int) < (n : Int) := by omega
        obtain ⟨x, hx⟩ : ∃ x, r[t - 2]? = some x := ⟨_, List.getElem?_eq_getElem (by have := HRL.out; omega)⟩
        have hcx := HCL.out t (.int .u8 (x.toNat : Int)) (by
          obtain ⟨u, rfl⟩ : ∃ u, t = u + 2 := ⟨t - 2, by omega⟩
          simp only [Nat.add_sub_cancel] at hx
          show (bv ([35, 33] ++ r))[u + 2]? = _
          simp [bv, hx])
        by_cases hx10 : x = 10
        · have hxb : ((x.toNat : Int) == 10) = true := by rw [hx10]; rfl
          have HX : Hid (r[t - 2]? = some 10) := hide (by rw [hx, hx10])
          clear hx hx10 hte
          have hrd := Reads.drop_ HR.out hc (l := 2) (by omega)
          rw [← bv_drop, show (([35, 33] ++ r : Bs).drop 2) = r from rfl] at hrd
          have htk := hrd.take (q := t - 2) (by omega)
          rw [← bv_take] at htk
          have hnm : Hid (ahead 10 r = r.take (t - 2)) := hide (ahead_at r (t - 2) (fun j hj => HK.out j (by omega)) (by right; exact HX.out))
          obtain ⟨nm, hnm2⟩ : ∃ x, r.take (t - 2) = x := ⟨_, rfl⟩
          rw [hnm2] at htk hnm
          have hP2 : Hid (progP (35 :: 33 :: r) = if (prgF nm).isSome = true then (nm, true) else ([], false)) := hide (by show progP ([35, 33] ++ r) = _; rw [HP.out, hnm.out])
          have XK := hide (rknown_any nm w)
          by_cases hc2 : c = 2
          · exact absurd hc2 (by omega)
          · rw [if_neg hc2, Option.map_some, add_plain_] at htk
            have hcv := run_string_of (P := Tryz.prog) w w.heap.size 24 9 5 (some ⟨g, o + 2, none⟩) (t - 2) (c - 2) nm Tryz.underlying24 Tryz.underlying5 Tryz.underlying9 htk
            clear hrd htk hnm2
            go_wp2_with fail
            refine XK.out.mono ?_
            rintro e w2 ⟨rfl, hb⟩
            have HB := hide hb
            clear hb XK hcv
            cases hF : (prgF nm).isSome with
            | false =>
              rw [hF] at hP2
              clear hF
              go_wp2_with fail
              go_ret2
              exact ⟨by rw [hP2.out]; rfl, HB.out⟩
            | true =>
              rw [hF] at hP2
              clear hF
              go_wp2_with fail
              go_ret2
              exact ⟨by rw [hP2.out]; rfl, HB.out⟩
        · have hxb : ((x.toNat : Int) == 10) = false := beq_eq_false_iff_ne.2 (by
            intro e
            exact hx10 (UInt8.toNat_inj.1 (by show x.toNat = 10; omega)))
          have HX := hide hx
          have HX10 := hide hx10
          clear hx hx10 hte
          go_wp2_with fail
          go_roundw
          case rel =>
            refine ⟨t + 1, by omega, by omega, by simp, hide (fun j hj => ?_), by first | rfl | trivial⟩
            rcases Nat.lt_or_ge (j + 2) t with h | h
            · exact HK.out j h
            · rw [show j = t - 2 from by omega, HX.out]
              intro e
              injection e with e
              exact HX10.out e
          case measure => simp [intOf]; omega
  · have HP : Hid (progP s = ([], false)) := hide (by unfold progP behind; rw [if_neg hp]; simp)
    match s, hl with
    | [], hl =>
      obtain rfl : n = 0 := hl.symm
      clear hR HR hp
      go_enter Tryz.func9, Tryz.ntmps9
      go_wp2_with fail
      go_ret2
      exact ⟨by rw [HP.out]; rfl, Below.refl _ _⟩
    | [x], hl =>
      obtain rfl : n = 1 := hl.symm
      clear hR HR hp
      go_enter Tryz.func9, Tryz.ntmps9
      go_wp2_with fail
      go_ret2
      exact ⟨by rw [HP.out]; rfl, Below.refl _ _⟩
    | x :: y :: l, hl =>
      have hn2 : ¬ ((n : Int) < 2) := by simp at hl; omega
      have hn2n : 2 ≤ n := by simp at hl; omega
      obtain ⟨g, o, rfl, hg, hcl⟩ := cells_of hR (by omega) (by simp [bv])
      have q0 := hcl 0 (.int .u8 (x.toNat : Int)) rfl
      have q1 := hcl 1 (.int .u8 (y.toNat : Int)) rfl
      rw [Nat.add_zero] at q0
      clear hR HR hcl hl
      by_cases hx : x = 35
      · subst hx
        have hy : y ≠ 33 := by
          rintro rfl
          exact hp ⟨l, rfl⟩
        have hyb : ((y.toNat : Int) == 33) = false := beq_eq_false_iff_ne.2 (by
          intro e
          exact hy (UInt8.toNat_inj.1 (by show y.toNat = 33; omega)))
        clear hp hy
        go_enter Tryz.func9, Tryz.ntmps9
        go_wp2_with fail
        go_ret2
        exact ⟨by rw [HP.out]; rfl, Below.refl _ _⟩
      · have hxb : ((x.toNat : Int) == 35) = false := beq_eq_false_iff_ne.2 (by
          intro e
          exact hx (UInt8.toNat_inj.1 (by show x.toNat = 35; omega)))
        clear hp hx
        go_enter Tryz.func9, Tryz.ntmps9
        go_wp2_with fail
        go_ret2
        exact ⟨by rw [HP.out]; rfl, Below.refl _ _⟩
end Go.Proofs.YtlkccboongnneaaGreatDoor
