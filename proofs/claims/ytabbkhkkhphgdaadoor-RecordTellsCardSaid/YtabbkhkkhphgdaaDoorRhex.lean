/- The contract of the reference's Hex. -/
import Derived.Test.YtabbkhkkhphgdaaDoorPut
import Derived.StillTailTactics
import Derived.Deep.RegionHeld3
import Derived.Deep.RegionLaw
import Derived.BigQuiet
import Derived.Deep.QuietTactic
import Derived.Laws.BitsAllLaws
namespace Go.Proofs.YtabbkhkkhphgdaaDoor
open Go.RowKit
set_option linter.unusedVariables false

/-- A hexadecimal digit. -/
def hexd (n : Nat) : UInt8 := [48, 49, 50, 51, 52, 53, 54, 55, 56, 57, 97, 98, 99, 100, 101, 102].getD n 0
def hexL (l : List UInt8) : List UInt8 := l.flatMap fun b => [hexd (b.toNat / 16), hexd (b.toNat % 16)]

theorem hexL_append (a b : List UInt8) : hexL (a ++ b) = hexL a ++ hexL b := by simp [hexL]
theorem hexL_take (l : List UInt8) (k : Nat) (h : k < l.length) : hexL (l.take (k + 1)) = hexL (l.take k) ++ [hexd (l[k].toNat / 16), hexd (l[k].toNat % 16)] := by
  rw [take_snoc l k h, hexL_append]; rfl
theorem hexL_length (l : List UInt8) : (hexL l).length = 2 * l.length := by
  induction l with
  | nil => rfl
  | cons c r ih => simp [hexL] at ih ⊢; omega
def hexConst : ByteArray := { data := #[48, 49, 50, 51, 52, 53, 54, 55, 56, 57, 97, 98, 99, 100, 101, 102] }
theorem hexConst_at (i : Nat) (h : i < hexConst.size) : hexConst[i] = hexd i := by
  have hh : ∀ j : Fin 16, hexConst[j.val]'(j.isLt) = hexd j.val := by decide
  exact hh ⟨i, h⟩
theorem hex_news (x : Nat) (h1 : ((x : Int) / 16).toNat < hexConst.size) (h2 : ((x : Int) % 16).toNat < hexConst.size) :
    [Value.int .u8 ((hexConst[((x : Int) / 16).toNat]).toNat : Int), Value.int .u8 ((hexConst[((x : Int) % 16).toNat]).toNat : Int)] = bv [hexd (x / 16), hexd (x % 16)] := by
  rw [hexConst_at, hexConst_at]
  rfl

set_option maxHeartbeats 400000 in
theorem rhex_any (A : Option Addr) (n c : Nat) (bs : List UInt8) (w : World) (hr : Rd w A n bs) (hn : n ≤ 1000000) :
    Calls Tryd.prog 35 #[.slice A n c] w fun e w' => e = .returned (.string ⟨(hexL bs).toArray⟩) ∧ Below w.heap.size w w' := by
  obtain ⟨i0, hi, hz0, hz1, hz2⟩ := info_parts info5
  have hl := hide hr.len
  go_enter Tryd.func35, Tryd.ntmps35
  go_wp2
  go_loopw [3, 4] (fun v i wr => ∃ k : Nat, k ≤ n ∧ i = .int .i64 k ∧ wr.ownsRow w.heap.size 5 1 v (2 * k) (bv (hexL (bs.take k))) ∧ Reads wr w.heap.size 1 A n (bv bs) ∧ Below w.heap.size w wr ∧ w.heap.size ≤ wr.heap.size) (fun _ i _ => n - (intOf i).toNat)
  case atStart => exact ⟨0, by omega, rfl, World.ownsRow_nil _ _ _ _, hr, Below.refl _ _, Nat.le_refl _⟩
  case round =>
    obtain ⟨k, hk, rfl, hown, hrd, hbel, hz⟩ := hrel
    by_cases hlt : k < n
    · obtain ⟨ad, u, rfl, hadb, hu, hcell⟩ := hrd.at_ hlt
      rw [bv_get bs k (by have := hl.out; omega)] at hu
      injection hu with hu
      subst hu
      have hb := (bs[k]'(by have := hl.out; omega)).toNat_lt
      have HX := hide (hexL_take bs k (by have := hl.out; omega))
      generalize (bs[k]'(by have := hl.out; omega)).toNat = x at *
      have hx1 : (x : Int) / 16 < 16 := by omega
      have hx2 : (x : Int) % 16 < 16 := by omega
      have hx3 : 0 ≤ (x : Int) / 16 := by omega
      have hx4 : 0 ≤ (x : Int) % 16 := by omega
      have hk0 : (0 : Int) ≤ (k : Int) := Int.natCast_nonneg _
      have hk1 : (k : Int) < (n : Int) := by omega
      have hq1 : IntKind.u8.wrap ((x : Int) / 16) = (x : Int) / 16 := IntWalk.u8_in _ (by omega)
      have hq2 : IntKind.u8.wrap ((x : Int) % 16) = (x : Int) % 16 := IntWalk.u8_in _ (by omega)
      have hq3 : (x : Int).tmod 16 = (x : Int) % 16 := Int.tmod_eq_emod_of_nonneg (by omega)
      go_wp2
      go_region_held3 (fun w' => w'.cell? (ad.add k) = some (.int .u8 (x : Int))) (first | go_keep | (rw [hgrow.cell_far _ (by simp; rw [block_of_add]; omega) (by rw [block_of_add]; intro hc; have := (hown.lt _ hc.symm).1; omega)]; assumption))
        ((refine step_append_lies _ (by rfl) _ _ _ (by rfl) w.heap.size 5 i0 _ 1 1 Tryd.underlying22 hi hz0 hz1 hz2 rfl (by omega) u3 (2 * k) (bv (hexL (bs.take k))) (by rfl) ((hown.alloc _).drew)
            ⟨wr.heap.size, 0, none⟩ 2 2 [_, _] (by rfl) (by rfl) (World.news_of_block (cs := #[_, _]) (t := 5) (fr := (0, 0)) (heap_alloc_new wr _)) (by simp [Value.oneCell'])
            (by omega) (by unfold maxLen; omega) (by omega) (by simp; omega) (wr.heap.size + 1) (by simp) ?_; intro gg cap w1 hown1 hgrow hat hlt))
      all_goals
        have hbel1 : Below w.heap.size w w1 := by
          refine Below.grown ?_ hgrow ?_ ?_
          · exact (hbel.alloc (by omega) _).drew
          · simp; omega
          · exact fun g hg => (hown.lt g hg).1
        have hrd1 := Reads.below hr hbel1
        have hsz1 := hgrow.size
        simp at hsz1
        have hown2 : w1.ownsRow w.heap.size 5 1 (.slice (some ⟨gg, 0, none⟩) (2 * k + 2) cap) (2 * (k + 1)) (bv (hexL (bs.take (k + 1)))) := by
          rw [HX.out, bv_append, ← hex_news x (by show _ < 16; omega) (by show _ < 16; omega)]
          exact hown1
        clear hown1 hcell
        go_wp2
        go_roundw
        case rel => exact ⟨k + 1, by omega, by go_num, hown2, hrd1, hbel1, by omega⟩
        case measure => simp [intOf]; omega
    · obtain rfl : k = n := by omega
      rw [List.take_of_length_le (by have := hl.out; omega)] at hown
      obtain ⟨A', c', rfl⟩ : ∃ A' c', u3 = .slice A' (2 * k) c' := by
        rcases hown.2 with ⟨h, h0⟩ | ⟨g, cap, cur, h, _⟩
        · exact ⟨none, 0, by rw [h, h0]⟩
        · exact ⟨_, _, h⟩
      have hstr := run_string_of (P := Tryd.prog) wr wr.heap.size 22 9 5 A' (2 * k) c' (hexL bs) Tryd.underlying22 Tryd.underlying5 Tryd.underlying9 (Reads.of_own hown)
      go_wp2
      go_ret
      exact ⟨rfl, hbel⟩

end Go.Proofs.YtabbkhkkhphgdaaDoor
