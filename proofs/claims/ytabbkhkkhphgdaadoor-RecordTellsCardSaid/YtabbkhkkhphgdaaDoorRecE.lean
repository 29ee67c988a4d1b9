/- The contracts of num.Dec, num.Hex and record.Word. -/
import Derived.Test.YtabbkhkkhphgdaaDoorRecC
import Derived.Test.YtabbkhkkhphgdaaDoorRhex
import Derived.Test.YtabbkhkkhphgdaaDoorStrs
import Derived.Test.YtabbkhkkhphgdaaDoorDecP
import Derived.Test.YtabbkhkkhphgdaaDoorShelf
import Derived.Lib.AppendIntMem
import Derived.Lib.LaidTab
namespace Go.Proofs.YtabbkhkkhphgdaaDoor
open Go.RowKit
set_option linter.unusedVariables false
theorem itoa_any (n : Int) (w : World) (hn : i64R n) (h : Std w) :
    Calls Tryd.prog 39 #[.int .i64 n] w fun e w' => e = .returned (.string ⟨(Lib.itoa n).toArray⟩) ∧ Below w.heap.size w w' :=
  (Any.strconv_Itoa Tryd.laysM171 n hn.1 hn.2 w h.tab).mono fun e w' ⟨he, k, os, hw⟩ => ⟨he, by rw [hw]; exact Lib.below_grow _ w (Nat.le_refl _) k os⟩
set_option maxHeartbeats 400000 in
theorem dec_any_ (n : Int) (w : World) (hn : i64R n) (h : Std w) :
    Calls Tryd.prog 31 #[.int .i64 n] w fun e w' => e = .returned (.string ⟨(Lib.itoa n).toArray⟩) ∧ Below w.heap.size w w' := by
  go_enter Tryd.func31, Tryd.ntmps31
  go_wp2_with fail
  refine (itoa_any n _ hn h).mono ?_
  rintro e w1 ⟨rfl, hb⟩
  go_wp2
  go_ret
  exact ⟨rfl, hb⟩
set_option maxRecDepth 100000 in
set_option maxHeartbeats 1000000 in
theorem hex_any (A : Option Addr) (n c : Nat) (bs : List UInt8) (w : World) (hr : Rd w A n bs) (hn : n ≤ 1000000) :
    Calls Tryd.prog 32 #[.slice A n c] w fun e w' => e = .returned (.string ⟨(hexL bs).toArray⟩) ∧ Below w.heap.size w w' := by
  obtain ⟨i0, hi, hz0, hz1, hz2⟩ := info_parts infoU8
  have hl := hide hr.len
  go_enter Tryd.func32, Tryd.ntmps32
  go_wp2_with (at_make; refine wpList_make_own w rfl (.const (.int .i64 0)) (.tmp 8) 22 rfl w.heap.size 5 i0 (.int .u8 0) 1 Tryd.underlying22 hi hz0 hz1 .i64 .i64 (2 * (n : Int)) (2 * n) rfl rfl ?c1 ?c2 ?c3 ?c4 ?_)
  case c1 => rfl
  case c2 => rw [hz2]; omega
  case c3 => unfold maxLen; omega
  case c4 => omega
  intro w1 hown hg
  have hbel : Below w.heap.size w w1 := (Below.refl _ _).grown hg (Nat.le_refl _) (by simp)
  have hrd := Reads.below hr hbel
  have hz := hg.size
  go_wp2
  go_loopw [3, 5, 12] (fun v _ i wr => ∃ k : Nat, k ≤ n ∧ i = .int .i64 k ∧ wr.ownsRow w.heap.size 5 1 v (2 * k) (bv (hexL (bs.take k))) ∧ Reads wr w.heap.size 1 A n (bv bs) ∧ Below w.heap.size w wr ∧ w.heap.size < wr.heap.size) (fun _ _ i _ => n - (intOf i).toNat)
  case atStart => exact ⟨0, by omega, rfl, hown, hrd, hbel, by have := World.ownsRow.lt hown _ rfl; omega⟩
  case round =>
    clear hown hrd hbel hz hg
    obtain ⟨k, hk, rfl, hown, hrd, hbel, hz⟩ := hrel
    by_cases hlt : k < n
    · obtain ⟨ad, u, rfl, _, hu, hcell⟩ := hrd.at_ hlt
      rw [bv_get bs k (by have := hl.out; omega)] at hu
      injection hu with hu
      subst hu
      have hb := (bs[k]'(by have := hl.out; omega)).toNat_lt
      have HX := hide (hexL_take bs k (by have := hl.out; omega))
      generalize (bs[k]'(by have := hl.out; omega)).toNat = x at *
      have hand : bits .and .u8 (x : Int) 15 = ((x % 16 : Nat) : Int) := by
        have := u8_and_nat x 15 hb (by omega)
        rw [nat_mask4] at this
        exact this
      have hx1 : (x : Int) / 16 < 16 := by omega
      have hx2 : (x : Int) % 16 < 16 := by omega
      have hx3 : 0 ≤ (x : Int) / 16 := by omega
      have hx4 : 0 ≤ (x : Int) % 16 := by omega
      go_wp2
      go_region_held3 (fun w' => True) (first | exact trivial | go_keep)
        ((refine step_append_lies _ (by rfl) _ _ _ (by rfl) w.heap.size 5 i0 _ 1 1 Tryd.underlying22 hi hz0 hz1 hz2 rfl (by omega) u3 (2 * k) (bv (hexL (bs.take k))) (by rfl) ((hown.alloc _).drew)
            ⟨wr.heap.size, 0, none⟩ 2 2 [_, _] (by rfl) (by rfl) (World.news_of_block (cs := #[_, _]) (t := 5) (fr := (0, 0)) (heap_alloc_new wr _)) (by simp [Value.oneCell'])
            (by omega) (by unfold maxLen; omega) (by omega) (by simp; omega) (wr.heap.size + 1) (by simp) ?_; intro gg cap w1 hown1 hgrow hat hlt))
      all_goals
        have hbel1 : Below w.heap.size w w1 := by
          refine Below.grown ?_ hgrow ?_ ?_
          · exact (hbel.alloc (by omega) _).drew
          · simp; omega
          · exact fun g hg => (hown.lt g hg).1
        have hrd1 := Reads.below hr hbel1
        have hsz1 := hgrow.size
        simp at hsz1
        have hown2 : w1.ownsRow w.heap.size 5 1 (.slice (some ⟨gg, 0, none⟩) (2 * k + 2) cap) (2 * (k + 1)) (bv (hexL (bs.take (k + 1)))) := by
          rw [HX.out, bv_append, ← hex_news x (by show _ < 16; omega) (by show _ < 16; omega)]
          exact hown1
        clear hown1 hcell
        go_wp2
        go_roundw
        case rel => exact ⟨k + 1, by omega, by go_num, hown2, hrd1, hbel1, by omega⟩
        case measure => simp [intOf]; omega
    · obtain rfl : k = n := by omega
      rw [List.take_of_length_le (by have := hl.out; omega)] at hown
      obtain ⟨A', c', rfl⟩ : ∃ A' c', u3 = .slice A' (2 * k) c' := by
        rcases hown.2 with ⟨h, h0⟩ | ⟨g, cap, cur, h, _⟩
        · exact ⟨none, 0, by rw [h, h0]⟩
        · exact ⟨_, _, h⟩
      have hstr := run_string_of (P := Tryd.prog) wr wr.heap.size 22 9 5 A' (2 * k) c' (hexL bs) Tryd.underlying22 Tryd.underlying5 Tryd.underlying9 (Reads.of_own hown)
      go_wp2
      go_ret
      exact ⟨rfl, hbel⟩

/-- A governed operation's name. -/
def wordP (op : Int) : LB := if op < 0 then [] else wordL op.toNat
theorem word_ix (x : Nat) (hx : x < 15) (W : World) : (Instr.indexAt 63 (.pointer (some ⟨0, 0, none⟩)) (.int .i64 (x : Int))).run Tryd.prog W = .ok (.pointer (some ⟨0, x, none⟩)) W := by
  rcases (by omega : x = 0 ∨ x = 1 ∨ x = 2 ∨ x = 3 ∨ x = 4 ∨ x = 5 ∨ x = 6 ∨ x = 7 ∨ x = 8 ∨ x = 9 ∨ x = 10 ∨ x = 11 ∨ x = 12 ∨ x = 13 ∨ x = 14) with rfl | rfl | rfl | rfl | rfl | rfl | rfl | rfl | rfl | rfl | rfl | rfl | rfl | rfl | rfl <;> kernel_rfl
set_option maxHeartbeats 4000000 in
theorem word_in (x : Nat) (hx : x < 15) (w : World) (h : Std w) :
    Calls Tryd.prog 18 #[.int .i64 (x : Int)] w fun e w' => e = .returned (.string ⟨(wordL x).toArray⟩) ∧ w = w' := by
  have hc := h.wds x hx
  have hix := word_ix x hx
  generalize wordL x = L at *
  go_enter Tryd.func18, Tryd.ntmps18
  go_wp2_with fail
  go_ret
  exact ⟨rfl, rfl⟩
set_option maxHeartbeats 4000000 in
theorem word_out (op : Int) (ho : op < 0 ∨ 15 ≤ op) (w : World) :
    Calls Tryd.prog 18 #[.int .i64 op] w fun e w' => e = .returned (.string ⟨([] : LB).toArray⟩) ∧ w = w' := by
  rcases ho with h | h
  · go_enter Tryd.func18, Tryd.ntmps18
    go_wp2_with fail
    go_ret
    exact ⟨rfl, rfl⟩
  · have h0 : ¬ op < 0 := by omega
    go_enter Tryd.func18, Tryd.ntmps18
    go_wp2_with fail
    go_ret
    exact ⟨rfl, rfl⟩
theorem wordL_big {x : Nat} (h : 15 ≤ x) : wordL x = [] := by
  unfold wordL
  split <;> first | omega | rfl
theorem word_any (op : Int) (w : World) (h : Std w) :
    Calls Tryd.prog 18 #[.int .i64 op] w fun e w' => e = .returned (.string ⟨(wordP op).toArray⟩) ∧ w = w' := by
  rcases (by omega : op < 0 ∨ 15 ≤ op ∨ (0 ≤ op ∧ op < 15)) with h1 | h1 | ⟨h1, h2⟩
  · rw [show wordP op = [] by unfold wordP; rw [if_pos h1]]
    exact word_out op (.inl h1) w
  · rw [show wordP op = [] by unfold wordP; rw [if_neg (by omega)]; exact wordL_big (by omega)]
    exact word_out op (.inr h1) w
  · obtain ⟨x, rfl⟩ : ∃ x : Nat, op = (x : Int) := ⟨op.toNat, by omega⟩
    rw [show wordP (x : Int) = wordL x by unfold wordP; rw [if_neg (by omega)]; rfl]
    exact word_in x (by omega) w h
theorem lit4 {B : Nat} (W : World) (hB : B ≤ W.heap.size) (a b c d : LB) : Ow B (W.alloc (.cells #[.string ⟨a.toArray⟩, .string ⟨b.toArray⟩, .string ⟨c.toArray⟩, .string ⟨d.toArray⟩] 9)) (some ⟨W.heap.size, 0, none⟩) 4 4 [a, b, c, d] := by
  have h := Blk.new W 9 #[.string ⟨a.toArray⟩, .string ⟨b.toArray⟩, .string ⟨c.toArray⟩, .string ⟨d.toArray⟩]
  exact h.own hB (cap := 4) (by unfold maxLen; omega) rfl
end Go.Proofs.YtabbkhkkhphgdaaDoor
