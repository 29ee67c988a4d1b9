/- Contracts of num.Dec, num.Parse and the reference's. -/
import Derived.Test.YtglgldmofibedaaGreatDoorBase
import Derived.Test.YtglgldmofibedaaGreatDoorDecP
import Derived.Test.YtglgldmofibedaaGreatDoorShelf
import Derived.Lib.AtoiErrMem
import Derived.Lib.AppendIntMem
import Derived.Lib.LaidTab
import Derived.Lib.AtoiAllCases
namespace Go.Proofs.YtglgldmofibedaaGreatDoor
open Go.RowKit
set_option linter.unusedVariables false

/-- What the library's variables hold: the table of powers, the two errors. -/
structure Std (w : World) : Prop where
  tab : Lib.TabIs Tryz.prog w "internal/strconv.uint64pow10" .u64 Lib.pow10Tab
  syn : ∃ t p, w.cell? ⟨6, 0, none⟩ = some (.iface t p)
  rng : ∃ t p, w.cell? ⟨7, 0, none⟩ = some (.iface t p)
theorem Std.below {w w' : World} (h : Std w) (hb : Below w.heap.size w w') : Std w' := by
  obtain ⟨t0, p0, h0⟩ := h.syn
  obtain ⟨t1, p1, h1⟩ := h.rng
  have l0 := World.block_lt_of_cell? w _ h0
  have l1 := World.block_lt_of_cell? w _ h1
  exact ⟨Lib.tabBelow_of_tabIs h.tab w' hb, ⟨t0, p0, (hb.cell (by exact l0)).trans h0⟩, ⟨t1, p1, (hb.cell (by exact l1)).trans h1⟩⟩

theorem atoi_any (s : ByteArray) (w : World) (hs : s.size ≤ 1000000) (h : Std w) :
    Calls Tryz.prog 68 #[.string s] w fun e w' => Below w.heap.size w w' ∧
      ((∃ v, Lib.atoiAll s.data.toList = .ok v ∧ e = .returned (.tuple #[.int .i64 v, .nilIface])) ∨
       ((∀ v, Lib.atoiAll s.data.toList ≠ .ok v) ∧ ∃ x t p, e = .returned (.tuple #[.int .i64 x, .iface t p]))) := by
  obtain ⟨t0, p0, h0⟩ := h.syn
  obtain ⟨t1, p1, h1⟩ := h.rng
  rcases hA : Lib.atoiAll s.data.toList with v | _ | _
  · refine (Any.strconv_Atoi_ok Tryz.laysC172 s (by omega) v hA w).mono fun e w' ⟨he, hw⟩ => ⟨?_, .inl ⟨v, rfl, he⟩⟩
    rcases hw with rfl | ⟨t, rfl⟩
    · exact Below.refl _ _
    · exact Lib.bytesWorld_below _ _ _
  · refine (Any.strconv_Atoi_syntax Tryz.laysC172 s (by omega) hA _ w h0 (.inr ⟨_, _, rfl⟩)).mono fun e w' ⟨N, he, _, _, hb⟩ => ⟨hb, .inr ⟨fun v hv => (by cases hv), _, _, _, he⟩⟩
  · refine (Any.strconv_Atoi_range Tryz.laysC172 s (by omega) hA _ w h1 (.inr ⟨_, _, rfl⟩)).mono fun e w' ⟨N, he, _, _, hb⟩ => ⟨hb, .inr ⟨fun v hv => (by cases hv), _, _, _, he⟩⟩

theorem itoa_any (n : Int) (w : World) (hn : i64R n) (h : Std w) :
    Calls Tryz.prog 73 #[.int .i64 n] w fun e w' => e = .returned (.string ⟨(Lib.itoa n).toArray⟩) ∧ Below w.heap.size w w' :=
  (Any.strconv_Itoa Tryz.laysM171 n hn.1 hn.2 w h.tab).mono fun e w' ⟨he, k, os, hw⟩ => ⟨he, by rw [hw]; exact Lib.below_grow _ w (Nat.le_refl _) k os⟩

set_option maxHeartbeats 400000 in
theorem dec_any (n : Int) (w : World) (hn : i64R n) (h : Std w) :
    Calls Tryz.prog 69 #[.int .i64 n] w fun e w' => e = .returned (.string ⟨(Lib.itoa n).toArray⟩) ∧ Below w.heap.size w w' := by
  go_enter Tryz.func69, Tryz.ntmps69
  go_wp2_with fail
  refine (itoa_any n _ hn h).mono ?_
  rintro e w1 ⟨rfl, hb⟩
  go_wp2
  go_ret
  exact ⟨rfl, hb⟩

/-- How a text is parsed: it is the numeral of an int, or of none. -/
def ParseEnd (w : World) (s : List UInt8) (e : Ending) (w' : World) : Prop :=
  Below w.heap.size w w' ∧ ((∃ v, i64R v ∧ Lib.itoa v = s ∧ e = .returned (.tuple #[.int .i64 v, .bool true])) ∨
    ((∀ v, i64R v → Lib.itoa v ≠ s) ∧ e = .returned (.tuple #[.int .i64 0, .bool false])))

theorem toList_eq (s : ByteArray) : s.toList = s.data.toList := ByteArray.toList_eq s

set_option maxHeartbeats 400000 in
theorem parse_any (s : ByteArray) (w : World) (hs : s.size ≤ 1000000) (h : Std w) :
    Calls Tryz.prog 65 #[.string s] w (ParseEnd w s.data.toList) := by
  go_enter Tryz.func65, Tryz.ntmps65
  go_wp2_with fail
  refine (atoi_any s _ hs h).mono ?_
  rintro e w1 ⟨hb, ⟨v, hv, rfl⟩ | ⟨hno, x, t, p, rfl⟩⟩
  · have hS := h.below hb
    have hr : i64R v := Lib.atoiAll_bounds hv
    have hall := hide hb
    clear hb
    go_wp2_with fail
    refine (dec_any v _ hr hS).mono ?_
    rintro e w2 ⟨rfl, hb2⟩
    have hb3 := hall.out.trans (hb2.mono hall.out.size)
    go_wp2
    · go_ret2
      rename_i hne
      simp only [Bool.not_eq_true', beq_eq_false_iff_ne, ne_eq, toList_eq] at hne
      refine ⟨hb3, .inr ⟨fun u hu hus => hne ?_, rfl⟩⟩
      have := atoi_itoa u hu
      rw [hus, hv] at this
      injection this with this
      rw [this, hus]
    · go_ret2
      rename_i heq
      simp only [Bool.not_eq_false', beq_iff_eq, toList_eq] at heq
      exact ⟨hb3, .inl ⟨v, hr, heq, rfl⟩⟩
  · go_wp2_with fail
    go_ret2
    refine ⟨hb, .inr ⟨fun u hu hus => ?_, rfl⟩⟩
    have := atoi_itoa u hu
    rw [hus] at this
    exact hno u this

end Go.Proofs.YtglgldmofibedaaGreatDoor
