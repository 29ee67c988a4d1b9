/- path.Name at every text: strings.ContainsAny with a slash and a nought, whatever the bytes are. -/
import Derived.Test.YtfggoleghpicfaaDoorPathH
import Derived.Laws.RangeAny
import Derived.Laws.Runes
import Derived.Lib.DecodeN
import Derived.Outline
namespace Go.Proofs.YtfggoleghpicfaaDoor
open Go.RowKit
set_option linter.unusedVariables false
def cc : ByteArray := ⟨#[47, 0]⟩
/-- A world in which the iterator at block g has gone on. -/
def stepIt (V : World) (g : Nat) (s : ByteArray) (p : Nat) : World := { V with heap := V.heap.setIfInBounds g (.stringIter s p) }
theorem run_next_at {P : Program} (V : World) (g : Nat) (s : ByteArray) (pos : Nat) (ty : TypeId) (hg : V.heap[g]? = some (.stringIter s pos)) (h : pos < s.size) :
    (Instr.next (.pointer (some ⟨g, 0, none⟩)) true ty).run P V = .ok (.tuple #[.bool true, .int .i64 pos, .int .i32 (Utf8.decode s pos).1]) (stepIt V g s (pos + (Utf8.decode s pos).2)) := by
  simp only [Instr.next, getObj, setObj, Sem.run_bind, Sem.run, hg, Result.andThen, h, if_true]
  simp [goInt, stepIt]
theorem run_next_stop {P : Program} (V : World) (g : Nat) (s : ByteArray) (pos : Nat) (ty : TypeId) (hg : V.heap[g]? = some (.stringIter s pos)) (h : ¬ pos < s.size) :
    (Instr.next (.pointer (some ⟨g, 0, none⟩)) true ty).run P V = .ok (.tuple #[.bool false]) V := by
  simp [Instr.next, getObj, Sem.run, hg, h]
theorem stepIt_at {V : World} {g : Nat} {s : ByteArray} {p q : Nat} (hg : V.heap[g]? = some (.stringIter s p)) : (stepIt V g s q).heap[g]? = some (.stringIter s q) := by
  have hlt : g < V.heap.size := by
    rcases Nat.lt_or_ge g V.heap.size with h | h
    · exact h
    · rw [Array.getElem?_eq_none h] at hg; cases hg
  simp [stepIt, hlt]
theorem stepIt_below {B : Nat} {w V : World} {g : Nat} {s : ByteArray} {q : Nat} (h : Below B w V) (hg : B ≤ g) : Below B w (stepIt V g s q) :=
  ⟨h.os, h.tape, h.output, by simpa [stepIt] using h.size, fun k hk => by
    have := h.block k hk
    simp only [stepIt]
    rw [Array.getElem?_setIfInBounds_ne (by omega)]
    exact this⟩
theorem iter_at (w : World) (s : ByteArray) (p : Nat) : (w.iter s p).heap[w.heap.size]? = some (.stringIter s p) := World.iter_heap w s p
theorem iter_below (w : World) (s : ByteArray) (p : Nat) : Below w.heap.size w (w.iter s p) := (Below.refl _ _).alloc (Nat.le_refl _) _
theorem index_empty (c : UInt8) (w : World) : Calls Tryd.prog 29 #[.string ⟨#[]⟩, .int .u8 (c.toNat : Int)] w fun e w' => e = .returned (.int .i64 (-1)) ∧ w = w' := by
  refine (Any.strings_IndexByte Tryd.lays137 ⟨#[]⟩ (c.toNat : Int) w).mono ?_
  rintro e w' ⟨rfl, rfl⟩
  exact ⟨ret_int (by simp [Lib.indexByte]), rfl⟩
theorem valid_any (r : Nat) (w : World) (h : r < 55296 ∨ (57343 < r ∧ r ≤ 1114111)) : Calls Tryd.prog 55 #[.int .i32 (r : Int)] w fun e w' => e = .returned (.bool true) ∧ w = w' := by
  rcases h with h | ⟨h, h2⟩
  · have h1 : (r : Int) < 55296 := by omega
    go_enter Tryd.func55, Tryd.ntmps55
    go_wp2
    go_ret
    exact ⟨rfl, rfl⟩
  · have h1 : ¬ (r : Int) < 55296 := by omega
    have h3 : (57343 : Int) < (r : Int) := by omega
    have h4 : (r : Int) ≤ 1114111 := by omega
    go_enter Tryd.func55, Tryd.ntmps55
    go_wp2
    go_ret
    exact ⟨rfl, rfl⟩
set_option maxRecDepth 1000000 in
set_option maxHeartbeats 2000000 in
/-- The rune that stands for what is no rune: it is looked for rune by rune. -/
theorem rune_err (w : World) : Calls Tryd.prog 45 #[.string cc, .int .i32 65533] w fun e w' => e = .returned (.int .i64 (-1)) ∧ Below w.heap.size w w' := by
  have n0 := fun ty => run_next_ascii (P := Tryd.prog) w cc 0 ty (by decide) (by decide)
  have n1 := fun ty => run_next_ascii (P := Tryd.prog) w cc 1 ty (by decide) (by decide)
  have n2 := fun ty => run_next_end (P := Tryd.prog) w cc 2 ty (by decide)
  go_enter Tryd.func45, Tryd.ntmps45
  go_wp2_with fail
  go_loopg [5, 6] 2 (fun g _ _ wx => ∃ i : Nat, i + g = 2 ∧ wx = w.iter cc i)
  case atStart => exact ⟨0, rfl, rfl⟩
  case round =>
    obtain ⟨i, hi, rfl⟩ := hrel
    match gk, hi with
    | 0, hi =>
      obtain rfl : i = 2 := by omega
      go_wp2_with fail
      go_ret
      exact ⟨rfl, iter_below w cc 2⟩
    | 1, hi =>
      obtain rfl : i = 1 := by omega
      go_wp2_with fail
      go_roundg 0
      case measure => omega
      case rel => exact ⟨2, rfl, rfl⟩
    | 2, hi =>
      obtain rfl : i = 0 := by omega
      go_wp2_with fail
      go_roundg 1
      case measure => omega
      case rel => exact ⟨1, rfl, rfl⟩
    | n + 3, hi => omega
set_option maxRecDepth 1000000 in
set_option maxHeartbeats 2000000 in
theorem rune_hi (r : Nat) (w : World) (h0 : 128 ≤ r) (hne : r ≠ 65533) (h : r < 55296 ∨ (57343 < r ∧ r ≤ 1114111)) : Calls Tryd.prog 45 #[.string cc, .int .i32 (r : Int)] w fun e w' => e = .returned (.int .i64 (-1)) ∧ Below w.heap.size w w' := by
  have hz : ((r : Int) == 65533) = false := beq_eq_false_iff_ne.2 (by omega)
  have h1 : ¬ (r : Int) < 128 := by omega
  have hv : Utf8.valid (r : Int) = true := by simp [Utf8.valid]; omega
  obtain ⟨f1, f2, f3⟩ := encode_facts (r : Int) hv (by omega)
  obtain ⟨t, ht⟩ : ∃ t, Utf8.encode (r : Int) = t := ⟨_, rfl⟩
  have HV := hide (fun V => valid_any r V h)
  go_enter Tryd.func45, Tryd.ntmps45
  go_wp2_with fail
  refine (HV.out _).mono ?_
  rintro e w1 ⟨rfl, rfl⟩
  go_wp2_with fail
  go_step3
  rw [ht] at f1 f2 f3
  have hcc : cc.size = 2 := rfl
  rcases (show t.size = 2 ∨ t.size = 3 ∨ t.size = 4 by omega) with h2 | h2 | h2
  · have hb := f3 (by omega)
    have hix : ∃ b : UInt8, 128 ≤ b.toNat ∧ ∀ W, (Instr.index 9 (.string t) (.int .i64 1)).run Tryd.prog W = .ok (.int .u8 (b.toNat : Int)) W := by
      refine ⟨t[t.size - 1]'(by omega), hb, fun W => ?_⟩
      rw [run_index_string (P := Tryd.prog) W 9 t .i64 1 Tryd.underlying9, dif_pos (by omega)]
      have e : t.size - 1 = (1 : Int).toNat := by rw [h2]; rfl
      simp only [e]
    obtain ⟨b, hb1, hix⟩ := hix
    have hix0 : ∀ W, (Instr.index 9 (.string cc) (.int .i64 1)).run Tryd.prog W = .ok (.int .u8 0) W := fun W => by rw [run_index_string (P := Tryd.prog) W 9 cc .i64 1 Tryd.underlying9, dif_pos (by decide)]; rfl
    have hsl : ∀ W, (Instr.slice 9 (.string cc) (some (.int .i64 2)) none none).run Tryd.prog W = .ok (.string ⟨#[]⟩) W := fun W => by rfl
    have hbne : ((0 : Int) != (b.toNat : Int)) = true := by rw [bne_iff_ne]; omega
    clear f1 f2 f3 hb
    go_wp2_with fail
    refine wp_loop_rounds 1 ?_
    rw [rounds_succ]
    go_wp2_with fail
    go_step3
    go_wp2_with fail
    go_quiet (fail)
    go_wp2_with fail
    go_quiet ((go_at_call 29; first | exact quiet_add_left (index_empty b _) | exact quiet_left (index_empty b _)))
    go_wp2_with fail
    rw [Exit.noGoto_ret]
    go_wp2_with fail
    rw [Exit.noGoto_ret]
    go_ret
    exact ⟨rfl, ⟨rfl, rfl, rfl, Nat.le_refl _, fun _ _ => rfl⟩⟩
  · go_wp2_with fail
    refine wp_loop_rounds 1 ?_
    rw [rounds_succ]
    go_wp2_with fail
    rw [Exit.noGoto_ret]
    go_ret
    exact ⟨rfl, Below.refl _ _⟩
  · go_wp2_with fail
    refine wp_loop_rounds 1 ?_
    rw [rounds_succ]
    go_wp2_with fail
    rw [Exit.noGoto_ret]
    go_ret
    exact ⟨rfl, Below.refl _ _⟩
/-- No slash and no nought among the first i bytes. -/
def Clear (l : Bs) (i : Nat) : Prop := ∀ (j : Nat) b, j < i → l[j]? = some b → b ≠ 47 ∧ b ≠ 0
theorem Clear.more {l : Bs} {i k : Nat} (h : Clear l i) (hk : ∀ (j : Nat) b, i ≤ j → j < k → l[j]? = some b → b ≠ 47 ∧ b ≠ 0) : Clear l k := fun j b hj hb => by
  rcases Nat.lt_or_ge j i with h1 | h1
  · exact h j b h1 hb
  · exact hk j b h1 hj hb
theorem get_data (s : ByteArray) (k : Nat) {b : UInt8} (h : s.data.toList[k]? = some b) : s.get! k = b ∧ k < s.size := by
  obtain ⟨h1, h2⟩ := List.getElem?_eq_some_iff.1 h
  have h3 : k < s.size := by simpa using h1
  refine ⟨?_, h3⟩
  rw [← h2]
  show s.get! k = _
  simp [ByteArray.get!, getElem!_pos, h3]
/-- What a rune covers behind its first byte is no byte below 128. -/
theorem decode_skips (s : ByteArray) (pos : Nat) (j : Nat) (b : UInt8) (h1 : pos < j) (h2 : j < pos + (Utf8.decode s pos).2) (hb : s.data.toList[j]? = some b) : 128 ≤ b.toNat := by
  obtain ⟨hg, hl⟩ := get_data s j hb
  rw [Lib.decode_at] at h2
  rw [← hg]
  have c1 : j = pos + 1 ∨ j = pos + 2 ∨ j = pos + 3 ∨ pos + 4 ≤ j := by omega
  revert h2
  unfold Lib.decodeN
  rcases c1 with rfl | rfl | rfl | c1 <;> (repeat' split) <;> simp only [] <;> omega
theorem decode_pos (s : ByteArray) (pos : Nat) : 1 ≤ (Utf8.decode s pos).2 := by
  rw [Lib.decode_at]; unfold Lib.decodeN; repeat' split
  all_goals simp
theorem decode_ok (s : ByteArray) (pos : Nat) : (Utf8.decode s pos).1 < 55296 ∨ (57343 < (Utf8.decode s pos).1 ∧ (Utf8.decode s pos).1 ≤ 1114111) := by
  rw [Lib.decode_at]
  have := (s.get! pos).toNat_lt
  unfold Lib.decodeN; repeat' split
  all_goals simp only []
  all_goals omega
end Go.Proofs.YtfggoleghpicfaaDoor
