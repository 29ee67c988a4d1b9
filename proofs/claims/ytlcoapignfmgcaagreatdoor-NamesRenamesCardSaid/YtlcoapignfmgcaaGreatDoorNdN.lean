/- path.Name at every text. -/
import Derived.Test.YtlcoapignfmgcaaGreatDoorGa
import Derived.Test.YtlcoapignfmgcaaGreatDoorShelf
import Derived.Deep.RegionHeld3
import Derived.Deep.DeepCutAuto
import Derived.Lib.Strings
import Derived.Laws.RangeAny
import Derived.Laws.Runes
import Derived.Lib.DecodeN
import Derived.Outline
namespace Go.Proofs.YtlcoapignfmgcaaGreatDoor
open Go.RowKit
set_option linter.unusedVariables false
abbrev Bs := List UInt8
def cc : ByteArray := ⟨#[47, 0]⟩
/-- A world in which the iterator at block g has gone on. -/
def stepIt (V : World) (g : Nat) (s : ByteArray) (p : Nat) : World := { V with heap := V.heap.setIfInBounds g (.stringIter s p) }
theorem run_next_at {P : Program} (V : World) (g : Nat) (s : ByteArray) (pos : Nat) (ty : TypeId) (hg : V.heap[g]? = some (.stringIter s pos)) (h : pos < s.size) :
    (Instr.next (.pointer (some ⟨g, 0, none⟩)) true ty).run P V = .ok (.tuple #[.bool true, .int .i64 pos, .int .i32 (Utf8.decode s pos).1]) (stepIt V g s (pos + (Utf8.decode s pos).2)) := by
  simp only [Instr.next, getObj, setObj, Sem.run_bind, Sem.run, hg, Result.andThen, h, if_true]
  simp [goInt, stepIt]
theorem run_next_stop {P : Program} (V : World) (g : Nat) (s : ByteArray) (pos : Nat) (ty : TypeId) (hg : V.heap[g]? = some (.stringIter s pos)) (h : ¬ pos < s.size) :
    (Instr.next (.pointer (some ⟨g, 0, none⟩)) true ty).run P V = .ok (.tuple #[.bool false]) V := by
  simp [Instr.next, getObj, Sem.run, hg, h]
theorem stepIt_at {V : World} {g : Nat} {s : ByteArray} {p q : Nat} (hg : V.heap[g]? = some (.stringIter s p)) : (stepIt V g s q).heap[g]? = some (.stringIter s q) := by
  have hlt : g < V.heap.size := by
    rcases Nat.lt_or_ge g V.heap.size with h | h
    · exact h
    · rw [Array.getElem?_eq_none h] at hg; cases hg
  simp [stepIt, hlt]
theorem stepIt_below {B : Nat} {w V : World} {g : Nat} {s : ByteArray} {q : Nat} (h : Below B w V) (hg : B ≤ g) : Below B w (stepIt V g s q) :=
  ⟨h.os, h.tape, h.output, by simpa [stepIt] using h.size, fun k hk => by
    have := h.block k hk
    simp only [stepIt]
    rw [Array.getElem?_setIfInBounds_ne (by omega)]
    exact this⟩
theorem iter_at (w : World) (s : ByteArray) (p : Nat) : (w.iter s p).heap[w.heap.size]? = some (.stringIter s p) := World.iter_heap w s p
theorem iter_below (w : World) (s : ByteArray) (p : Nat) : Below w.heap.size w (w.iter s p) := (Below.refl _ _).alloc (Nat.le_refl _) _
theorem index_empty (c : UInt8) (w : World) : Calls Tryz.prog 82 #[.string ⟨#[]⟩, .int .u8 (c.toNat : Int)] w fun e w' => e = .returned (.int .i64 (-1)) ∧ w = w' := by
  refine (Any.strings_IndexByte Tryz.lays137 ⟨#[]⟩ (c.toNat : Int) w).mono ?_
  rintro e w' ⟨rfl, rfl⟩
  exact ⟨ret_int (by simp [Lib.indexByte]), rfl⟩
theorem valid_any (r : Nat) (w : World) (h : r < 55296 ∨ (57343 < r ∧ r ≤ 1114111)) : Calls Tryz.prog 97 #[.int .i32 (r : Int)] w fun e w' => e = .returned (.bool true) ∧ w = w' := by
  rcases h with h | ⟨h, h2⟩
  · have h1 : (r : Int) < 55296 := by omega
    go_enter Tryz.func97, Tryz.ntmps97
    go_wp2
    go_ret
    exact ⟨rfl, rfl⟩
  · have h1 : ¬ (r : Int) < 55296 := by omega
    have h3 : (57343 : Int) < (r : Int) := by omega
    have h4 : (r : Int) ≤ 1114111 := by omega
    go_enter Tryz.func97, Tryz.ntmps97
    go_wp2
    go_ret
    exact ⟨rfl, rfl⟩
set_option maxRecDepth 1000000 in
set_option maxHeartbeats 2000000 in
/-- The rune that stands for what is no rune: it is looked for rune by rune. -/
theorem rune_err (w : World) : Calls Tryz.prog 84 #[.string cc, .int .i32 65533] w fun e w' => e = .returned (.int .i64 (-1)) ∧ Below w.heap.size w w' := by
  have n0 := fun ty => run_next_ascii (P := Tryz.prog) w cc 0 ty (by decide) (by decide)
  have n1 := fun ty => run_next_ascii (P := Tryz.prog) w cc 1 ty (by decide) (by decide)
  have n2 := fun ty => run_next_end (P := Tryz.prog) w cc 2 ty (by decide)
  go_enter Tryz.func84, Tryz.ntmps84
  go_wp2_with fail
  go_loopg [5, 6] 2 (fun g _ _ wx => ∃ i : Nat, i + g = 2 ∧ wx = w.iter cc i)
  case atStart => exact ⟨0, rfl, rfl⟩
  case round =>
    obtain ⟨i, hi, rfl⟩ := hrel
    match gk, hi with
    | 0, hi =>
      obtain rfl : i = 2 := by omega
      go_wp2_with fail
      go_ret
      exact ⟨rfl, iter_below w cc 2⟩
    | 1, hi =>
      obtain rfl : i = 1 := by omega
      go_wp2_with fail
      go_roundg 0
      case measure => omega
      case rel => exact ⟨2, rfl, rfl⟩
    | 2, hi =>
      obtain rfl : i = 0 := by omega
      go_wp2_with fail
      go_roundg 1
      case measure => omega
      case rel => exact ⟨1, rfl, rfl⟩
    | n + 3, hi => omega
set_option maxRecDepth 1000000 in
set_option maxHeartbeats 2000000 in
theorem rune_hi (r : Nat) (w : World) (h0 : 128 ≤ r) (hne : r ≠ 65533) (h : r < 55296 ∨ (57343 < r ∧ r ≤ 1114111)) : Calls Tryz.prog 84 #[.string cc, .int .i32 (r : Int)] w fun e w' => e = .returned (.int .i64 (-1)) ∧ Below w.heap.size w w' := by
  have hz : ((r : Int) == 65533) = false := beq_eq_false_iff_ne.2 (by omega)
  have h1 : ¬ (r : Int) < 128 := by omega
  have hv : Utf8.valid (r : Int) = true := by simp [Utf8.valid]; omega
  obtain ⟨f1, f2, f3⟩ := encode_facts (r : Int) hv (by omega)
  obtain ⟨t, ht⟩ : ∃ t, Utf8.encode (r : Int) = t := ⟨_, rfl⟩
  have HV := hide (fun V => valid_any r V h)
  go_enter Tryz.func84, Tryz.ntmps84
  go_wp2_with fail
  refine (HV.out _).mono ?_
  rintro e w1 ⟨rfl, rfl⟩
  go_wp2_with fail
  go_step3
  rw [ht] at f1 f2 f3
  have hcc : cc.size = 2 := rfl
  rcases (show t.size = 2 ∨ t.size = 3 ∨ t.size = 4 by omega) with h2 | h2 | h2
  · have hb := f3 (by omega)
    have hix : ∃ b : UInt8, 128 ≤ b.toNat ∧ ∀ W, (Instr.index 9 (.string t) (.int .i64 1)).run Tryz.prog W = .ok (.int .u8 (b.toNat : Int)) W := by
      refine ⟨t[t.size - 1]'(by omega), hb, fun W => ?_⟩
      rw [run_index_string (P := Tryz.prog) W 9 t .i64 1 Tryz.underlying9, dif_pos (by omega)]
      have e : t.size - 1 = (1 : Int).toNat := by rw [h2]; rfl
      simp only [e]
    obtain ⟨b, hb1, hix⟩ := hix
    have hix0 : ∀ W, (Instr.index 9 (.string cc) (.int .i64 1)).run Tryz.prog W = .ok (.int .u8 0) W := fun W => by rw [run_index_string (P := Tryz.prog) W 9 cc .i64 1 Tryz.underlying9, dif_pos (by decide)]; rfl
    have hsl : ∀ W, (Instr.slice 9 (.string cc) (some (.int .i64 2)) none none).run Tryz.prog W = .ok (.string ⟨#[]⟩) W := fun W => by rfl
    have hbne : ((0 : Int) != (b.toNat : Int)) = true := by rw [bne_iff_ne]; omega
    clear f1 f2 f3 hb
    go_wp2_with fail
    refine wp_loop_rounds 1 ?_
    rw [rounds_succ]
    go_wp2_with fail
    go_step3
    go_wp2_with fail
    go_quiet (fail)
    go_wp2_with fail
    go_quiet ((go_at_call 82; first | exact quiet_add_left (index_empty b _) | exact quiet_left (index_empty b _)))
    go_wp2_with fail
    rw [Exit.noGoto_ret]
    go_wp2_with fail
    rw [Exit.noGoto_ret]
    go_ret
    exact ⟨rfl, ⟨rfl, rfl, rfl, Nat.le_refl _, fun _ _ => rfl⟩⟩
  · go_wp2_with fail
    refine wp_loop_rounds 1 ?_
    rw [rounds_succ]
    go_wp2_with fail
    rw [Exit.noGoto_ret]
    go_ret
    exact ⟨rfl, Below.refl _ _⟩
  · go_wp2_with fail
    refine wp_loop_rounds 1 ?_
    rw [rounds_succ]
    go_wp2_with fail
    rw [Exit.noGoto_ret]
    go_ret
    exact ⟨rfl, Below.refl _ _⟩
/-- No slash and no nought among the first i bytes. -/
def Clear (l : Bs) (i : Nat) : Prop := ∀ (j : Nat) b, j < i → l[j]? = some b → b ≠ 47 ∧ b ≠ 0
theorem Clear.more {l : Bs} {i k : Nat} (h : Clear l i) (hk : ∀ (j : Nat) b, i ≤ j → j < k → l[j]? = some b → b ≠ 47 ∧ b ≠ 0) : Clear l k := fun j b hj hb => by
  rcases Nat.lt_or_ge j i with h1 | h1
  · exact h j b h1 hb
  · exact hk j b h1 hj hb
theorem get_data (s : ByteArray) (k : Nat) {b : UInt8} (h : s.data.toList[k]? = some b) : s.get! k = b ∧ k < s.size := by
  obtain ⟨h1, h2⟩ := List.getElem?_eq_some_iff.1 h
  have h3 : k < s.size := by simpa using h1
  refine ⟨?_, h3⟩
  rw [← h2]
  show s.get! k = _
  simp [ByteArray.get!, getElem!_pos, h3]
/-- What a rune covers behind its first byte is no byte below 128. -/
theorem decode_skips (s : ByteArray) (pos : Nat) (j : Nat) (b : UInt8) (h1 : pos < j) (h2 : j < pos + (Utf8.decode s pos).2) (hb : s.data.toList[j]? = some b) : 128 ≤ b.toNat := by
  obtain ⟨hg, hl⟩ := get_data s j hb
  rw [Lib.decode_at] at h2
  rw [← hg]
  have c1 : j = pos + 1 ∨ j = pos + 2 ∨ j = pos + 3 ∨ pos + 4 ≤ j := by omega
  revert h2
  unfold Lib.decodeN
  rcases c1 with rfl | rfl | rfl | c1 <;> (repeat' split) <;> simp only [] <;> omega
theorem decode_pos (s : ByteArray) (pos : Nat) : 1 ≤ (Utf8.decode s pos).2 := by
  rw [Lib.decode_at]; unfold Lib.decodeN; repeat' split
  all_goals simp
theorem decode_ok (s : ByteArray) (pos : Nat) : (Utf8.decode s pos).1 < 55296 ∨ (57343 < (Utf8.decode s pos).1 ∧ (Utf8.decode s pos).1 ≤ 1114111) := by
  rw [Lib.decode_at]
  have := (s.get! pos).toNat_lt
  unfold Lib.decodeN; repeat' split
  all_goals simp only []
  all_goals omega
theorem not_clear {s : ByteArray} {i : Nat} {b : UInt8} (h : s.data.toList[i]? = some b) (hl : i < s.size) (hb : b = 47 ∨ b = 0) : ¬ Clear s.data.toList s.size := fun hc => by
  have := hc i b hl h
  rcases hb with rfl | rfl
  · exact this.1 rfl
  · exact this.2 rfl
def RetIdx (w : World) (s : ByteArray) (e : Ending) (w' : World) : Prop := ∃ z : Int, e = .returned (.int .i64 z) ∧ -1 ≤ z ∧ ((z < 0 → Clear s.data.toList s.size) ∧ (0 ≤ z → ¬ Clear s.data.toList s.size)) ∧ Below w.heap.size w w'
theorem rune_hit (x : UInt8) (w : World) (h : x = 47 ∨ x = 0) : ∃ z : Int, 0 ≤ z ∧ Calls Tryz.prog 84 #[.string cc, .int .i32 (x.toNat : Int)] w fun e w' => e = .returned (.int .i64 z) ∧ w = w' := by
  rcases h with rfl | rfl
  · refine ⟨0, by omega, (Any.strings_IndexRune_ascii { Tryz.lays150 with } cc 47 w (by omega) (by omega)).mono ?_⟩
    rintro e w' ⟨rfl, rfl⟩
    exact ⟨ret_int (by decide), rfl⟩
  · refine ⟨1, by omega, (Any.strings_IndexRune_ascii { Tryz.lays150 with } cc 0 w (by omega) (by omega)).mono ?_⟩
    rintro e w' ⟨rfl, rfl⟩
    exact ⟨ret_int (by decide), rfl⟩
theorem rune_miss (x : UInt8) (w : World) (hx : x.toNat < 128) (h : x ≠ 47 ∧ x ≠ 0) : Calls Tryz.prog 84 #[.string cc, .int .i32 (x.toNat : Int)] w fun e w' => e = .returned (.int .i64 (-1)) ∧ w = w' := by
  refine (Any.strings_IndexRune_ascii { Tryz.lays150 with } cc (x.toNat : Int) w (by omega) (by omega)).mono ?_
  rintro e w' ⟨rfl, rfl⟩
  have e : ((x.toNat : Int)).toNat.toUInt8 = x := by simp
  refine ⟨ret_int ?_, rfl⟩
  rw [e]
  have e1 : ((47 : UInt8) == x) = false := beq_eq_false_iff_ne.2 (Ne.symm h.1)
  have e2 : ((0 : UInt8) == x) = false := beq_eq_false_iff_ne.2 (Ne.symm h.2)
  show Lib.indexByte [47, 0] x = -1
  simp [Lib.indexByte, e1, e2]
theorem rune_any (r : Nat) (w : World) (h0 : 128 ≤ r) (h : r < 55296 ∨ (57343 < r ∧ r ≤ 1114111)) : Calls Tryz.prog 84 #[.string cc, .int .i32 (r : Int)] w fun e w' => e = .returned (.int .i64 (-1)) ∧ Below w.heap.size w w' := by
  by_cases hne : r = 65533
  · subst hne; exact rune_err w
  · exact rune_hi r w h0 hne h
set_option maxRecDepth 1000000 in
set_option maxHeartbeats 4000000 in
theorem any_short (s : ByteArray) (w : World) (h8 : s.size ≤ 8) : Calls Tryz.prog 70 #[.string s, .string cc] w (RetIdx w s) := by
  have hemp : cc.toList.isEmpty = false := by rw [Lib.toList_data]; rfl
  have hn1 : ((cc.size : Int) == 1) = false := by decide
  have h8z : decide ((8 : Int) < (s.size : Int)) = false := decide_eq_false (by omega)
  go_enter Tryz.func70, Tryz.ntmps70
  go_wp2_with fail
  refine (Any.strings_shouldUseASCIISet { Tryz.lays150 with } _ _).mono ?_
  rintro e w' ⟨rfl, hw⟩
  rw [hw, h8z]
  clear hw
  go_wp2_with fail
  obtain ⟨g0, hg0⟩ : ∃ g0, w.heap.size = g0 := ⟨_, rfl⟩
  have HG0 := hide hg0
  have hi0 := iter_at w s 0
  have hb0 := iter_below w s 0
  rw [hg0] at hi0 hb0 ⊢
  have HI0 := hide hi0
  have HB0 := hide hb0
  clear hg0 hi0 hb0 hemp hn1 h8z
  go_loopg [9, 10] s.size (fun g _ _ wx => ∃ i : Nat, s.size ≤ i + g ∧ wx.heap[g0]? = some (.stringIter s i) ∧ Clear s.data.toList i ∧ Below g0 w wx)
  case atStart => exact ⟨0, by omega, HI0.out, fun j b h => absurd h (by omega), HB0.out⟩
  case round =>
    clear HI0 HB0
    obtain ⟨i, hig, hit, hcl, hbe⟩ := hrel
    have HIT := hide hit
    have HCL := hide hcl
    have HBE := hide hbe
    have hglt : g0 < wr.heap.size := by
      rcases Nat.lt_or_ge g0 wr.heap.size with h | h
      · exact h
      · rw [Array.getElem?_eq_none h] at hit; cases hit
    clear hit hcl hbe
    by_cases hlt : i < s.size
    · obtain ⟨g, rfl⟩ : ∃ g, gk = g + 1 := ⟨gk - 1, by omega⟩
      have hnx := fun ty => run_next_at (P := Tryz.prog) wr g0 s i ty HIT.out hlt
      have hd := decode_pos s i
      have hok := decode_ok s i
      have hskip := hide (decode_skips s i)
      obtain ⟨b, hb⟩ : ∃ b, s.data.toList[i]? = some b := ⟨_, List.getElem?_eq_getElem (by simpa using hlt)⟩
      have hsb : s[i]'hlt = b := by
        obtain ⟨h1, h2⟩ := List.getElem?_eq_some_iff.1 hb
        rw [← h2]; rfl
      by_cases hlo : b.toNat < 128
      · have hde := decode_ascii s i hlt (by rw [hsb]; exact hlo)
        rw [hsb] at hde
        rw [hde] at hnx
        obtain ⟨W1, hW1⟩ : ∃ W1, stepIt wr g0 s (i + 1) = W1 := ⟨_, rfl⟩
        have hW1i : W1.heap[g0]? = some (.stringIter s (i + 1)) := by rw [← hW1]; exact stepIt_at HIT.out
        have hW1b : Below g0 w W1 := by rw [← hW1]; exact stepIt_below HBE.out (Nat.le_refl _)
        simp only [hW1] at hnx
        have HWI := hide hW1i
        have HWB := hide hW1b
        have HBB := hide hb
        clear hW1 hW1i hW1b hd hok hskip hde hsb hb
        by_cases hhit : b = 47 ∨ b = 0
        · obtain ⟨z, hz, hrune⟩ := rune_hit b W1 hhit
          have HRU := hide hrune
          have HNC : Hid (¬ Clear s.data.toList s.size) := hide (not_clear HBB.out hlt hhit)
          clear hrune
          go_wp2_with fail
          refine HRU.out.mono ?_
          rintro e w2 ⟨rfl, rfl⟩
          go_wp2_with fail
          go_ret
          exact ⟨(i : Int), rfl, by omega, ⟨fun h => absurd h (by omega), fun _ => HNC.out⟩, by rw [HG0.out]; exact HWB.out⟩
        · have HRU := hide (rune_miss b W1 hlo (by simpa [not_or] using hhit))
          have HHIT := hide hhit
          clear hhit
          go_wp2_with fail
          refine HRU.out.mono ?_
          rintro e w2 ⟨rfl, rfl⟩
          go_wp2_with fail
          go_roundg g
          case measure => omega
          case rel =>
            refine ⟨i + 1, by omega, HWI.out, HCL.out.more fun j c h1 h2 hc => ?_, HWB.out⟩
            obtain rfl : j = i := by omega
            have hbb := HBB.out
            rw [hc] at hbb
            injection hbb with hbb
            subst hbb
            simpa [not_or] using HHIT.out
      · obtain ⟨dr, hdr⟩ : ∃ dr, (Utf8.decode s i).1 = dr := ⟨_, rfl⟩
        obtain ⟨dz, hdz⟩ : ∃ dz, (Utf8.decode s i).2 = dz := ⟨_, rfl⟩
        have h128 := (decode_high s i hlt (by rw [hsb]; omega)).1
        rw [hdr] at h128 hok hnx
        rw [hdz] at hd hskip hnx
        obtain ⟨W1, hW1⟩ : ∃ W1, stepIt wr g0 s (i + dz) = W1 := ⟨_, rfl⟩
        have hW1i : W1.heap[g0]? = some (.stringIter s (i + dz)) := by rw [← hW1]; exact stepIt_at HIT.out
        have hW1b : Below g0 w W1 := by rw [← hW1]; exact stepIt_below HBE.out (Nat.le_refl _)
        have hW1l : g0 < W1.heap.size := by rw [← hW1]; simpa [stepIt] using hglt
        simp only [hW1] at hnx
        have HWI := hide hW1i
        have HWB := hide hW1b
        have HBB := hide hb
        have HRU := hide (rune_any dr W1 h128 hok)
        clear hW1 hW1i hW1b hok hsb hb hdr hdz
        go_wp2_with fail
        refine HRU.out.mono ?_
        rintro e w2 ⟨rfl, hb2⟩
        have HB2 := hide hb2
        clear hb2
        go_wp2_with fail
        go_roundg g
        case measure => omega
        case rel =>
          refine ⟨i + dz, by omega, (HB2.out.block g0 hW1l).trans HWI.out, HCL.out.more fun j c h1 h2 hc => ?_, HWB.out.trans (HB2.out.mono (by omega))⟩
          have hc128 : 128 ≤ c.toNat := by
            rcases Nat.lt_or_ge i j with h3 | h3
            · exact hskip.out j c h3 h2 hc
            · obtain rfl : j = i := by omega
              have hbb := HBB.out
              rw [hc] at hbb
              injection hbb with hbb
              subst hbb
              omega
          constructor <;> (rintro rfl; simp at hc128)
    · have hnx := fun ty => run_next_stop (P := Tryz.prog) wr g0 s i ty HIT.out hlt
      have HC : Hid (Clear s.data.toList s.size) := hide fun j b h1 h2 => HCL.out j b (by omega) h2
      go_wp2_with fail
      go_ret
      exact ⟨-1, rfl, by omega, ⟨fun _ => HC.out, fun h => absurd h (by omega)⟩, by rw [HG0.out]; exact HBE.out⟩
theorem info59 : (Tryz.prog.info? 120).map (fun i => (i.zero, i.size)) = some (some (.agg (Array.replicate 256 (.bool false))), 256) := by kernel_rfl
theorem cc_ascii : ∀ (j : Nat) b, cc.data.toList[j]? = some b → b.toNat < 128 := fun j b hj => by
  match j with
  | 0 => simp [cc] at hj; subst hj; decide
  | 1 => simp [cc] at hj; subst hj; decide
  | j + 2 => simp [cc] at hj
theorem cc_has (b : UInt8) (h : cc.data.toList.contains b = false) : b ≠ 47 ∧ b ≠ 0 := by
  simp [cc] at h
  exact h
theorem cc_hit (b : UInt8) (h : cc.data.toList.contains b = true) : b = 47 ∨ b = 0 := by
  simp [cc] at h
  exact h
set_option maxRecDepth 1000000 in
set_option maxHeartbeats 4000000 in
theorem any_long (s : ByteArray) (w : World) (h8 : 8 < s.size) (hs : s.size ≤ 9223372036854775807) : Calls Tryz.prog 70 #[.string s, .string cc] w (RetIdx w s) := by
  have hemp : cc.toList.isEmpty = false := by rw [Lib.toList_data]; rfl
  have hn1 : ((cc.size : Int) == 1) = false := by decide
  have h8z : decide ((8 : Int) < (s.size : Int)) = true := decide_eq_true (by omega)
  obtain ⟨SC, hSC⟩ : ∃ SC, Lib.setCells cc.data.toList = SC := ⟨_, rfl⟩
  have hM : Hid (Calls Tryz.prog 86 #[.string cc] w fun e w' => e = .returned (.tuple #[.agg (Lib.setCells cc.data.toList), .bool true]) ∧ w' = w.alloc (.cells (Lib.setCells cc.data.toList) 120)) := hide (Any.strings_makeASCIISet { Tryz.lays150 with } (zero_of_info info59).1 (zero_of_info info59).2 cc w (by decide) cc_ascii)
  have hsz : SC.size = 256 := by rw [← hSC]; exact Lib.setCells_size _
  have hsc : (storeCells ⟨w.heap.size + 1, 0, none⟩ SC.toList 0).run Tryz.prog ((w.alloc (.cells SC 120)).alloc (.cells (Array.replicate 256 (.bool false)) 120)) = .ok () ((w.alloc (.cells SC 120)).alloc (.cells SC 120)) := by
    have := run_storeCells_new (P := Tryz.prog) (w.alloc (.cells SC 120)) 120 (Array.replicate 256 (.bool false)) SC (by rw [hsz]; exact (zero_of_info info59).2) (by rw [hsz, Array.size_replicate]) (by rw [← hSC]; exact Lib.setCells_one _)
    simpa using this
  rw [← show Tryz.zeroCells120 = Array.replicate 256 (.bool false) by kernel_rfl] at hsc
  have hcell : ∀ x : UInt8, ((w.alloc (.cells SC 120)).alloc (.cells SC 120)).cell? ⟨w.heap.size + 1, x.toNat, none⟩ = some (.bool (cc.data.toList.contains x)) := fun x => by
    rw [World.cell?_alloc_at _ _ _ _ (by simp), ← hSC, Lib.setCells_at]
  have HC := hide hcell
  rw [hSC] at hM
  clear hcell hSC
  go_enter Tryz.func70, Tryz.ntmps70
  go_wp2_with fail
  refine (Any.strings_shouldUseASCIISet { Tryz.lays150 with } _ _).mono ?_
  rintro e w' ⟨rfl, hw⟩
  rw [hw, h8z]
  clear hw
  go_wp2_with fail
  refine hM.out.mono ?_
  rintro e w' ⟨rfl, hw⟩
  rw [hw]
  clear hw
  go_wp2_with fail
  obtain ⟨W0, hW0⟩ : ∃ W0, (w.alloc (.cells SC 120)).alloc (.cells SC 120) = W0 := ⟨_, rfl⟩
  have hB0 : Below w.heap.size w W0 := by rw [← hW0]; exact ((Below.refl _ _).alloc (Nat.le_refl _) _).alloc (by simp) _
  rw [hW0] at HC ⊢
  have HB0 := hide hB0
  clear hM hsc hW0 hB0 hsz
  go_wp2_with fail
  go_loop [8] (fun u8 => ∃ i : Nat, i ≤ s.size ∧ u8 = .int .i64 i ∧ Clear s.data.toList i) (fun u8 => s.size - (intOf u8).toNat)
  case atStart => exact ⟨0, Nat.zero_le _, rfl, fun j b h => absurd h (by omega)⟩
  case round =>
    obtain ⟨i, hi, rfl, hcl⟩ := hrel
    have HCL := hide hcl
    clear hcl
    by_cases hlt : i < s.size
    · obtain ⟨b, hb⟩ : ∃ b, s.data.toList[i]? = some b := ⟨_, List.getElem?_eq_getElem (by simpa using hlt)⟩
      have hsb : s[i]'hlt = b := by
        obtain ⟨h1, h2⟩ := List.getElem?_eq_some_iff.1 hb
        rw [← h2]; rfl
      have hix : ∀ W, (Instr.index 9 (.string s) (.int .i64 (i : Int))).run Tryz.prog W = .ok (.int .u8 (b.toNat : Int)) W := fun W => by
        rw [run_index_string (P := Tryz.prog) W 9 s .i64 (i : Int) Tryz.underlying9, dif_pos (by omega)]
        simp only [Int.toNat_natCast, hsb]
      have hcx := HC.out b
      obtain ⟨v, hv⟩ : ∃ v, cc.data.toList.contains b = v := ⟨_, rfl⟩
      rw [hv] at hcx
      have HCT := hide (fun W h => (Any.asciiSet_contains { Tryz.lays150 with } (w.heap.size + 1) b v W h))
      have HCX := hide hcx
      have HBB := hide hb
      clear hb hsb hcx
      go_wp2_with fail
      refine (HCT.out _ HCX.out).mono ?_
      rintro e w2 ⟨rfl, hw2⟩
      rw [hw2]
      clear hw2
      cases v with
      | true =>
        have HNC : Hid (¬ Clear s.data.toList s.size) := hide (not_clear HBB.out hlt (cc_hit b hv))
        clear hv
        go_wp2_with fail
        go_ret
        exact ⟨(i : Int), rfl, by omega, ⟨fun h => absurd h (by omega), fun _ => HNC.out⟩, HB0.out⟩
      | false =>
        have HF := hide (cc_has b hv)
        clear hv
        go_wp2_with fail
        go_round
        case rel =>
          refine ⟨i + 1, by omega, by go_num, HCL.out.more fun j c h1 h2 hc => ?_⟩
          obtain rfl : j = i := by omega
          have hbb := HBB.out
          rw [hc] at hbb
          injection hbb with hbb
          subst hbb
          exact HF.out
        case measure => simp [intOf]; omega
    · obtain rfl : i = s.size := by omega
      go_wp2_with fail
      go_ret
      exact ⟨-1, rfl, by omega, ⟨fun _ => HCL.out, fun h => absurd h (by omega)⟩, HB0.out⟩
theorem idx_any (s : ByteArray) (w : World) (hs : s.size ≤ 9223372036854775807) : Calls Tryz.prog 70 #[.string s, .string cc] w (RetIdx w s) := by
  rcases Nat.lt_or_ge 8 s.size with h | h
  · exact any_long s w h hs
  · exact any_short s w h
/-- Whether there is a slash or a nought; said only where there is none. -/
def RetHas (w : World) (s : ByteArray) (e : Ending) (w' : World) : Prop := ∃ b : Bool, e = .returned (.bool b) ∧ ((b = false → Clear s.data.toList s.size) ∧ (b = true → ¬ Clear s.data.toList s.size)) ∧ Below w.heap.size w w'
set_option maxHeartbeats 1000000 in
theorem has_any (s : ByteArray) (w : World) (hs : s.size ≤ 9223372036854775807) : Calls Tryz.prog 58 #[.string s, .string cc] w (RetHas w s) := by
  have HI := hide (idx_any s w hs)
  go_enter Tryz.func58, Tryz.ntmps58
  go_wp2_with fail
  refine HI.out.mono ?_
  rintro e w1 ⟨z, rfl, hz, hc, hb⟩
  have HCL := hide hc
  have HB := hide hb
  clear hc hb
  by_cases h : 0 ≤ z
  · go_wp2_with fail
    go_ret
    exact ⟨true, by simp, ⟨(fun h => by cases h), fun _ => HCL.out.2 h⟩, HB.out⟩
  · go_wp2_with fail
    go_ret
    exact ⟨false, by simp; omega, ⟨(fun _ => HCL.out.1 (by omega)), fun h => by cases h⟩, HB.out⟩
def hasL (l : Bs) (c : UInt8) : Bool := l.contains c
/-- What a name is told to be. -/
def nameC (l : Bs) : Int := if l = [] ∨ l = [46] ∨ l = [46, 46] ∨ hasL l 47 = true ∨ hasL l 0 = true then 32 else if 32 < l.length then 31 else 0
theorem clear_has {l : Bs} (h : Clear l l.length) : hasL l 47 = false ∧ hasL l 0 = false := by
  constructor <;>
  · unfold hasL
    rw [Bool.eq_false_iff]
    intro hc
    rw [List.contains_iff_mem] at hc
    obtain ⟨j, hj⟩ := List.getElem?_of_mem hc
    obtain ⟨hjl, _⟩ := List.getElem?_eq_some_iff.1 hj
    have := h j _ hjl hj
    first | exact this.1 rfl | exact this.2 rfl
theorem not_clear_has {l : Bs} (h : ¬ Clear l l.length) : hasL l 47 = true ∨ hasL l 0 = true := by
  by_cases h1 : hasL l 47 = true
  · exact .inl h1
  · by_cases h2 : hasL l 0 = true
    · exact .inr h2
    · refine absurd ?_ h
      intro j b hj hb
      unfold hasL at h1 h2
      rw [List.contains_iff_mem] at h1 h2
      have := List.mem_of_getElem? hb
      constructor
      · rintro rfl; exact h1 this
      · rintro rfl; exact h2 this
set_option maxHeartbeats 1000000 in
theorem name_c (l : Bs) (w : World) (hl : l.length ≤ 9223372036854775807) : Calls Tryz.prog 31 #[.string ⟨l.toArray⟩] w fun e w' => e = .returned (.int .i64 (nameC l)) ∧ Below w.heap.size w w' := by
  have hh := has_any ⟨l.toArray⟩ w (show l.length ≤ _ from hl)
  change Calls Tryz.prog 58 #[.string ⟨l.toArray⟩, .string ⟨#[47, 0]⟩] w (RetHas w ⟨l.toArray⟩) at hh
  have HH := hide hh
  clear hh
  by_cases e0 : l = []
  · subst e0
    go_enter Tryz.func31, Tryz.ntmps31
    go_wp2
    go_ret
    exact ⟨rfl, Below.refl _ _⟩
  by_cases e1 : l = [46]
  · subst e1
    go_enter Tryz.func31, Tryz.ntmps31
    go_wp2
    go_ret
    exact ⟨rfl, Below.refl _ _⟩
  by_cases e2 : l = [46, 46]
  · subst e2
    go_enter Tryz.func31, Tryz.ntmps31
    go_wp2
    go_ret
    exact ⟨rfl, Below.refl _ _⟩
  have t0 : l.isEmpty = false := by cases l with
    | nil => exact absurd rfl e0
    | cons x t => rfl
  have t1 : (l == [46]) = false := beq_eq_false_iff_ne.2 e1
  have t2 : (l == [46, 46]) = false := beq_eq_false_iff_ne.2 e2
  have HE : Hid (nameC l = if hasL l 47 = true ∨ hasL l 0 = true then 32 else if 32 < l.length then 31 else 0) := hide (by unfold nameC; simp only [e0, e1, e2, false_or])
  clear e0 e1 e2
  go_enter Tryz.func31, Tryz.ntmps31
  go_wp2_with fail
  refine HH.out.mono ?_
  rintro e w1 ⟨b, rfl, hc, hb⟩
  have HC := hide hc
  have HB := hide hb
  clear hc hb
  cases b with
  | true =>
    have HN := hide (not_clear_has (l := l) (HC.out.2 rfl))
    go_wp2_with fail
    go_ret
    exact ⟨ret_int (by rw [HE.out, if_pos HN.out]), HB.out⟩
  | false =>
    have HN := hide (clear_has (l := l) (HC.out.1 rfl))
    by_cases h32 : 32 < l.length
    · have h32' : (32 : Int) < (l.length : Int) := by omega
      go_wp2_with fail
      go_ret
      exact ⟨ret_int (by rw [HE.out, HN.out.1, HN.out.2]; simp [h32]), HB.out⟩
    · have h32' : ¬ (32 : Int) < (l.length : Int) := by omega
      go_wp2_with fail
      go_ret
      exact ⟨ret_int (by rw [HE.out, HN.out.1, HN.out.2]; simp [h32]), HB.out⟩
end Go.Proofs.YtlcoapignfmgcaaGreatDoor
