/- slices.IndexFunc, ContainsFunc with proto.longerThan's function. -/
import Derived.Test.YtedacfjkbfgikaaPrU
namespace Go.Proofs.Ytedacfjkbfgikaa
open Go.RowKit
set_option linter.unusedVariables false
set_option maxHeartbeats 400000 in
theorem longer_any (gb : Nat) (m : Int) (s : LB) (w : World) (h : Blk w gb 3 #[.int .i64 m]) :
    Calls Try.prog 101 #[.string ⟨s.toArray⟩, .pointer (some ⟨gb, 0, none⟩)] w fun e w' => e = .returned (.bool (decide (m < (s.length : Int)))) ∧ w = w' := by
  have c0 := h.cell 0
  simp only [List.getElem?_toArray, List.getElem?_cons_zero] at c0
  go_enter Try.func101, Try.ntmps101
  go_wp2_with fail
  go_ret
  exact ⟨rfl, rfl⟩
def anyL (m : Int) (l : List LB) : Bool := l.any fun s => decide (m < (s.length : Int))
set_option maxRecDepth 100000 in
set_option maxHeartbeats 4000000 in
theorem indexf_any (gb : Nat) (m : Int) (l : List LB) (A : Option Addr) (n c : Nat) (w : World) (h : Blk w gb 3 #[.int .i64 m]) (hr : Reads w w.heap.size 1 A n (svs l)) (hn : n ≤ 100000) :
    Calls Try.prog 99 #[.slice A n c, .func (.func 101) #[] #[.pointer (some ⟨gb, 0, none⟩)]] w fun e w' => ∃ r : Int, e = .returned (.int .i64 r) ∧ decide (0 ≤ r) = anyL m l ∧ w = w' := by
  have hlen : l.length = n := by have := hr.1; simpa [svs] using this
  have HR := hide hr
  have HK := hide h
  have HL := hide hlen
  clear h hr
  go_enter Try.func99, Try.ntmps99
  go_wp2_with fail
  go_loop [8] (fun s8 => ∃ i : Nat, i ≤ n ∧ s8 = .int .i64 (i : Int) ∧ Hid (anyL m (l.take i) = false)) (fun i => n - (intOf i).toNat)
  case atStart => exact ⟨0, Nat.zero_le _, rfl, hide rfl⟩
  case round =>
    obtain ⟨i, hi', rfl, HN⟩ := hrel
    by_cases hlt : i < n
    · have hlt1 : (i : Int) < (n : Int) := by omega
      obtain ⟨ad, u, rfl, hab, hu, hcell⟩ := HR.out.at_ hlt
      obtain ⟨x, hx⟩ : ∃ x, l[i]? = some x := ⟨l[i]'(by rw [HL.out]; exact hlt), List.getElem?_eq_getElem _⟩
      have hux : u = .string ⟨x.toArray⟩ := by
        have h := hu
        simp only [svs, List.getElem?_map, hx, Option.map_some, Option.some.injEq] at h
        exact h.symm
      subst hux
      have HT : Hid (anyL m (l.take (i + 1)) = decide (m < (x.length : Int))) := hide (by
        have h0 := HN.out
        unfold anyL at h0 ⊢
        rw [List.take_add_one, hx, List.any_append, h0]
        simp)
      have HX := hide hx
      have hen := fun W => fn_enter Try.func101 (by kernel_rfl) rfl #[.string ⟨x.toArray⟩, .pointer (some ⟨gb, 0, none⟩)] W
      have XI := hide (longer_any gb m x w HK.out)
      have v1 : IntKind.i64.wrap ((i : Int) + 1) = (i : Int) + 1 := by simp [IntKind.wrap, IntKind.bits, IntKind.signed]; omega
      clear hx hu
      by_cases hm : m < (x.length : Int)
      · have hd : decide (m < (x.length : Int)) = true := by simp [hm]
        rw [hd] at HT XI
        go_wp2_with fail
        refine XI.out.mono ?_
        rintro e3 w3 ⟨rfl, rfl⟩
        go_wp2_with fail
        go_ret
        refine ⟨_, rfl, ?_, rfl⟩
        have : anyL m l = true := by
          have h1 := HT.out
          unfold anyL at h1 ⊢
          rw [← List.take_append_drop (i + 1) l, List.any_append, h1]
          rfl
        rw [this]
        simp
      · have hd : decide (m < (x.length : Int)) = false := by simp [hm]
        rw [hd] at HT XI
        go_wp2_with fail
        refine XI.out.mono ?_
        rintro e3 w3 ⟨rfl, rfl⟩
        clear hcell hen XI
        go_wp2_with fail
        go_round
        case rel => exact ⟨i + 1, by omega, by go_num, HT⟩
        case measure => simp [intOf]; omega
    · obtain rfl : i = n := by omega
      have hlt1 : ¬ (i : Int) < (i : Int) := by omega
      have hall : l.take i = l := List.take_of_length_le (by rw [HL.out]; exact Nat.le_refl _)
      rw [hall] at HN
      go_wp2_with fail
      go_ret
      exact ⟨-1, rfl, by rw [HN.out]; rfl, rfl⟩
set_option maxRecDepth 100000 in
set_option maxHeartbeats 4000000 in
theorem containsf_any (gb : Nat) (m : Int) (l : List LB) (A : Option Addr) (n c : Nat) (w : World) (h : Blk w gb 3 #[.int .i64 m]) (hr : Reads w w.heap.size 1 A n (svs l)) (hn : n ≤ 100000) :
    Calls Try.prog 67 #[.slice A n c, .func (.func 101) #[] #[.pointer (some ⟨gb, 0, none⟩)]] w fun e w' => e = .returned (.bool (anyL m l)) ∧ w = w' := by
  have X := hide (indexf_any gb m l A n c w h hr hn)
  clear h hr
  go_enter Try.func67, Try.ntmps67
  go_wp2_with fail
  refine X.out.mono ?_
  rintro e3 w3 ⟨r, rfl, hr, rfl⟩
  have HR := hide hr
  clear hr X
  by_cases h0 : 0 ≤ r
  · have hd : decide (0 ≤ r) = true := by simp [h0]
    have HA : Hid (anyL m l = true) := hide (by rw [← HR.out, hd])
    go_wp2_with fail
    go_ret
    exact ⟨by rw [HA.out]; first | rfl | (simp [h0]), rfl⟩
  · have hd : decide (0 ≤ r) = false := by simp [h0]
    have HA : Hid (anyL m l = false) := hide (by rw [← HR.out, hd])
    go_wp2_with fail
    go_ret
    exact ⟨by rw [HA.out]; first | rfl | (simp [h0]), rfl⟩
end Go.Proofs.Ytedacfjkbfgikaa
