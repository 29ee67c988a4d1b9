/- strings.Index of one byte; strings.SplitSeq. -/
import Derived.Test.YtbphpijehfcbkaaDoorExQ
import Derived.Test.YtbphpijehfcbkaaDoorExR
namespace Go.Proofs.YtbphpijehfcbkaaDoor
open Go.RowKit
set_option linter.unusedVariables false
theorem ixb47 (l : LB) (c : UInt8) (w : World) : Calls Tryd.prog 47 #[.string ⟨l.toArray⟩, .int .u8 (c.toNat : Int)] w fun e w' => e = .returned (.int .i64 (Lib.indexByte l c)) ∧ w = w' := by
  refine (Any.stringslite_IndexByte (ρ := Tryd.lays137_ren) { Tryd.lays137 with } ⟨l.toArray⟩ (c.toNat : Int) w).mono ?_
  rintro e w' ⟨rfl, rfl⟩
  refine ⟨?_, rfl⟩
  simp
set_option maxHeartbeats 1000000 in
theorem index_at (s : LB) (hs : s ≠ [47]) (w : World) : Calls Tryd.prog 41 #[.string ⟨s.toArray⟩, .string ⟨#[47]⟩] w fun e w' => e = .returned (.int .i64 (Lib.indexByte s 47)) ∧ w = w' := by
  have X := hide (fun W => ixb47 s 47 W)
  have t1 : (s == [47]) = false := beq_eq_false_iff_ne.2 hs
  have t2 : (([47] : LB) == s) = false := beq_eq_false_iff_ne.2 (fun h => hs h.symm)
  have hix := ix_l [47] 0 47 rfl
  generalize Lib.indexByte s 47 = r at *
  have X49 : Hid (∀ W, Calls Tryd.prog 49 #[.string ⟨s.toArray⟩, .string ⟨#[47]⟩] W fun e w' => e = .returned (.int .i64 r) ∧ W = w') := hide (fun W => by
    go_enter Tryd.func49, Tryd.ntmps49
    go_wp2_with fail
    refine (X.out _).mono ?_
    rintro e w1 ⟨rfl, rfl⟩
    go_wp2_with fail
    go_ret
    exact ⟨rfl, rfl⟩)
  clear X t1 t2 hix
  go_enter Tryd.func41, Tryd.ntmps41
  go_wp2_with fail
  refine (X49.out _).mono ?_
  rintro e w1 ⟨rfl, rfl⟩
  go_wp2_with fail
  go_ret
  exact ⟨rfl, rfl⟩
theorem sl_from (p : LB) (a : Nat) (ha : a ≤ p.length) (W : World) : (Instr.slice 9 (.string ⟨p.toArray⟩) (some (.int .i64 (a : Int))) none none).run Tryd.prog W = .ok (.string ⟨(p.drop a).toArray⟩) W := by
  rw [run_slice_string_l W 9 ⟨p.toArray⟩ Tryd.underlying9 .i64 (a : Int) (by omega) (by show (a : Int) ≤ ((p.length : Nat) : Int); omega), Int.toNat_natCast]
  exact congrArg (fun x => Result.ok (Value.string x) W) (ext_from p a)
theorem sl_to (p : LB) (b : Nat) (j : Int) (hj : j = (b : Int)) (hb : b ≤ p.length) (W : World) : (Instr.slice 9 (.string ⟨p.toArray⟩) none (some (.int .i64 j)) none).run Tryd.prog W = .ok (.string ⟨(p.take b).toArray⟩) W := by
  subst hj
  rw [run_slice_string_h W 9 ⟨p.toArray⟩ Tryd.underlying9 .i64 (b : Int) (by omega) (by show (b : Int) ≤ ((p.length : Nat) : Int); omega), Int.toNat_natCast, ext_two]
  rfl
def restOf : Nat → LB
  | 0 => [47, 97, 47, 47, 98, 42]
  | 1 => [97, 47, 47, 98, 42]
  | 2 => [47, 98, 42]
  | _ => [98, 42]
def xs4 : List LB := [[], [97], [], [98, 42]]
theorem box_other {W : World} {B b : Nat} {t : TypeId} {v u : Value} (h : Boxed W B t v) (hne : B ≠ b) : Boxed (W.setCell ⟨b, 0, none⟩ u) B t v := (Below.heap_setCell W ⟨b, 0, none⟩ u B hne).trans h
def boxLen (w : World) (b : Nat) : Nat := match w.cell? ⟨b, 0, none⟩ with
  | some (.string s) => s.size
  | _ => 0
theorem boxLen_eq {w : World} {b : Nat} {t : TypeId} {s : LB} (h : Boxed w b t (.string ⟨s.toArray⟩)) : boxLen w b = s.length := by
  unfold boxLen
  rw [h.cell]; rfl
set_option maxRecDepth 100000 in
set_option maxHeartbeats 4000000 in
theorem split_iter (n b l : Nat) (w : World) (I J : List LB → World → Prop) (W : World) (hb : b + 2 < w.heap.size) (hIset : ∀ s W v, I s W → I s (W.setCell ⟨b, 0, none⟩ v)) (hJI : ∀ s W, J s W → I s W)
    (hJk : ∀ s W W', J s W → KeepsFrom w.heap.size W W' → I s W' → J s W') (h0 : J [] W)
    (b1 : Boxed W b 9 (.string ⟨(restOf 0).toArray⟩)) (b2 : Boxed W (b + 1) 9 (.string ⟨#[47]⟩)) (b3 : Boxed W (b + 2) 3 (.int .i64 0))
    (hY : ∀ pre x W1, J pre W1 → pre.length < xs4.length → YieldAt Fence.wide (n - 1) Tryd.prog l #[.string ⟨x.toArray⟩] W1 fun e W' => e = .returned (.bool true) ∧ J (pre ++ [x]) W' ∧ KeepsK (fun k => k = b ∨ k = b + 1 ∨ k = b + 2) W1 W') (h1 : 1 ≤ n) :
    CallsIn Fence.wide n Tryd.prog 39 #[.func (.yield l) #[] #[], .pointer (some ⟨b + 1, 0, none⟩), .pointer (some ⟨b, 0, none⟩), .pointer (some ⟨b + 2, 0, none⟩)] W fun e W' => (∃ v, e = .returned v) ∧ J xs4 W' := by
  have c2 := b2.cell
  refine callsIn_of_wp Tryd.func39 rfl trivial ?_ rfl
  simp only [Tryd.ntmps39, List.size_toArray, List.length_cons, List.length_nil, Nat.reduceAdd, Nat.reduceSub, Array.replicate_succ, Array.replicate_zero, List.push_toArray, List.append_toArray, List.nil_append, List.cons_append]
  gi_wp2
  clear c2
  gi_loopw [7] (fun _ wr => ∃ k : Nat, k ≤ 3 ∧ Boxed wr b 9 (.string ⟨(restOf k).toArray⟩) ∧ Boxed wr (b + 1) 9 (.string ⟨#[47]⟩) ∧ Boxed wr (b + 2) 3 (.int .i64 0) ∧ J (xs4.take k) wr) (fun _ wr => boxLen wr b)
  case atStart => exact ⟨0, by omega, b1, b2, b3, h0⟩
  case round =>
    clear b1 b2 b3 h0
    obtain ⟨k, hk, b1, b2, b3, hJ⟩ := hrel
    have c1 := b1.cell
    have c2 := b2.cell
    have c3 := b3.cell
    rcases (by omega : k = 0 ∨ k = 1 ∨ k = 2 ∨ k = 3) with rfl | rfl | rfl | rfl
    · have hs1 : ∀ V, (Instr.slice 9 (.string ⟨#[47, 97, 47, 47, 98, 42]⟩) none (some (.int .i64 0)) none).run Tryd.prog V = .ok (.string ⟨#[]⟩) V := fun V => sl_to [47, 97, 47, 47, 98, 42] 0 0 rfl (by decide) V
      have hs2 : ∀ V, (Instr.slice 9 (.string ⟨#[47, 97, 47, 47, 98, 42]⟩) (some (.int .i64 1)) none none).run Tryd.prog V = .ok (.string ⟨#[97, 47, 47, 98, 42]⟩) V := fun V => sl_from [47, 97, 47, 47, 98, 42] 1 (by decide) V
      have XI : ∀ V, CallsIn Fence.wide (n - 1) Tryd.prog 41 #[.string ⟨#[47, 97, 47, 47, 98, 42]⟩, .string ⟨#[47]⟩] V fun e w' => e = .returned (.int .i64 0) ∧ V = w' := fun V => callsIn_wide.2 (index_at [47, 97, 47, 47, 98, 42] (by decide) V)
      obtain ⟨fn, tmps, assign, body, hy, hR⟩ := hY (xs4.take 0) [] wr hJ (by decide)
      change wr.cell? ⟨b, 0, none⟩ = some (.string ⟨#[47, 97, 47, 47, 98, 42]⟩) at c1
      gi_wp2
      refine ⟨trivial, (XI _).mono ?_⟩
      rintro e w1 ⟨rfl, rfl⟩
      gi_wp2
      refine hR.mono ?_
      rintro e W3 ⟨rfl, hJ3, hk3⟩
      have d1 : Boxed W3 b 9 (.string ⟨#[47, 97, 47, 47, 98, 42]⟩) := (hk3.2 b (.inl rfl)).trans b1
      have d2 : Boxed W3 (b + 1) 9 (.string ⟨#[47]⟩) := (hk3.2 (b + 1) (.inr (.inl rfl))).trans b2
      have d3 : Boxed W3 (b + 2) 3 (.int .i64 0) := (hk3.2 (b + 2) (.inr (.inr rfl))).trans b3
      have e1 := d1.cell
      have e2 := d2.cell
      have ef := d1.frozen
      have hJ4 : J (xs4.take 1) (W3.setCell ⟨b, 0, none⟩ (.string ⟨#[97, 47, 47, 98, 42]⟩)) := hJk _ _ _ hJ3 ((KeepsOthers.setCell _ _ _).from _) (hIset _ _ _ (hJI _ _ hJ3))
      gi_wp2
      go_roundw
      case rel => exact ⟨1, by omega, d1.set _, box_other d2 (by omega), box_other d3 (by omega), hJ4⟩
      case measure => rw [boxLen_eq (s := [97, 47, 47, 98, 42]) (d1.set _), boxLen_eq (s := [47, 97, 47, 47, 98, 42]) b1]; decide
    · have hs1 : ∀ V, (Instr.slice 9 (.string ⟨#[97, 47, 47, 98, 42]⟩) none (some (.int .i64 1)) none).run Tryd.prog V = .ok (.string ⟨#[97]⟩) V := fun V => sl_to [97, 47, 47, 98, 42] 1 1 rfl (by decide) V
      have hs2 : ∀ V, (Instr.slice 9 (.string ⟨#[97, 47, 47, 98, 42]⟩) (some (.int .i64 2)) none none).run Tryd.prog V = .ok (.string ⟨#[47, 98, 42]⟩) V := fun V => sl_from [97, 47, 47, 98, 42] 2 (by decide) V
      have XI : ∀ V, CallsIn Fence.wide (n - 1) Tryd.prog 41 #[.string ⟨#[97, 47, 47, 98, 42]⟩, .string ⟨#[47]⟩] V fun e w' => e = .returned (.int .i64 1) ∧ V = w' := fun V => callsIn_wide.2 (index_at [97, 47, 47, 98, 42] (by decide) V)
      obtain ⟨fn, tmps, assign, body, hy, hR⟩ := hY (xs4.take 1) [97] wr hJ (by decide)
      change wr.cell? ⟨b, 0, none⟩ = some (.string ⟨#[97, 47, 47, 98, 42]⟩) at c1
      gi_wp2
      refine ⟨trivial, (XI _).mono ?_⟩
      rintro e w1 ⟨rfl, rfl⟩
      gi_wp2
      refine hR.mono ?_
      rintro e W3 ⟨rfl, hJ3, hk3⟩
      have d1 : Boxed W3 b 9 (.string ⟨#[97, 47, 47, 98, 42]⟩) := (hk3.2 b (.inl rfl)).trans b1
      have d2 : Boxed W3 (b + 1) 9 (.string ⟨#[47]⟩) := (hk3.2 (b + 1) (.inr (.inl rfl))).trans b2
      have d3 : Boxed W3 (b + 2) 3 (.int .i64 0) := (hk3.2 (b + 2) (.inr (.inr rfl))).trans b3
      have e1 := d1.cell
      have e2 := d2.cell
      have ef := d1.frozen
      have hJ4 : J (xs4.take 2) (W3.setCell ⟨b, 0, none⟩ (.string ⟨#[47, 98, 42]⟩)) := hJk _ _ _ hJ3 ((KeepsOthers.setCell _ _ _).from _) (hIset _ _ _ (hJI _ _ hJ3))
      gi_wp2
      go_roundw
      case rel => exact ⟨2, by omega, d1.set _, box_other d2 (by omega), box_other d3 (by omega), hJ4⟩
      case measure => rw [boxLen_eq (s := [47, 98, 42]) (d1.set _), boxLen_eq (s := [97, 47, 47, 98, 42]) b1]; decide
    · have hs1 : ∀ V, (Instr.slice 9 (.string ⟨#[47, 98, 42]⟩) none (some (.int .i64 0)) none).run Tryd.prog V = .ok (.string ⟨#[]⟩) V := fun V => sl_to [47, 98, 42] 0 0 rfl (by decide) V
      have hs2 : ∀ V, (Instr.slice 9 (.string ⟨#[47, 98, 42]⟩) (some (.int .i64 1)) none none).run Tryd.prog V = .ok (.string ⟨#[98, 42]⟩) V := fun V => sl_from [47, 98, 42] 1 (by decide) V
      have XI : ∀ V, CallsIn Fence.wide (n - 1) Tryd.prog 41 #[.string ⟨#[47, 98, 42]⟩, .string ⟨#[47]⟩] V fun e w' => e = .returned (.int .i64 0) ∧ V = w' := fun V => callsIn_wide.2 (index_at [47, 98, 42] (by decide) V)
      obtain ⟨fn, tmps, assign, body, hy, hR⟩ := hY (xs4.take 2) [] wr hJ (by decide)
      change wr.cell? ⟨b, 0, none⟩ = some (.string ⟨#[47, 98, 42]⟩) at c1
      gi_wp2
      refine ⟨trivial, (XI _).mono ?_⟩
      rintro e w1 ⟨rfl, rfl⟩
      gi_wp2
      refine hR.mono ?_
      rintro e W3 ⟨rfl, hJ3, hk3⟩
      have d1 : Boxed W3 b 9 (.string ⟨#[47, 98, 42]⟩) := (hk3.2 b (.inl rfl)).trans b1
      have d2 : Boxed W3 (b + 1) 9 (.string ⟨#[47]⟩) := (hk3.2 (b + 1) (.inr (.inl rfl))).trans b2
      have d3 : Boxed W3 (b + 2) 3 (.int .i64 0) := (hk3.2 (b + 2) (.inr (.inr rfl))).trans b3
      have e1 := d1.cell
      have e2 := d2.cell
      have ef := d1.frozen
      have hJ4 : J (xs4.take 3) (W3.setCell ⟨b, 0, none⟩ (.string ⟨#[98, 42]⟩)) := hJk _ _ _ hJ3 ((KeepsOthers.setCell _ _ _).from _) (hIset _ _ _ (hJI _ _ hJ3))
      gi_wp2
      go_roundw
      case rel => exact ⟨3, by omega, d1.set _, box_other d2 (by omega), box_other d3 (by omega), hJ4⟩
      case measure => rw [boxLen_eq (s := [98, 42]) (d1.set _), boxLen_eq (s := [47, 98, 42]) b1]; decide
    · have XI : ∀ V, CallsIn Fence.wide (n - 1) Tryd.prog 41 #[.string ⟨#[98, 42]⟩, .string ⟨#[47]⟩] V fun e w' => e = .returned (.int .i64 (-1)) ∧ V = w' := fun V => callsIn_wide.2 (index_at [98, 42] (by decide) V)
      obtain ⟨fn, tmps, assign, body, hy, hR⟩ := hY (xs4.take 3) [98, 42] wr hJ (by decide)
      change wr.cell? ⟨b, 0, none⟩ = some (.string ⟨#[98, 42]⟩) at c1
      gi_wp2
      refine ⟨trivial, (XI _).mono ?_⟩
      rintro e w1 ⟨rfl, rfl⟩
      gi_wp2
      refine hR.mono ?_
      rintro e W3 ⟨rfl, hJ3, hk3⟩
      gi_wp2
      go_end0
      exact ⟨⟨_, rfl⟩, hJ3⟩
end Go.Proofs.YtbphpijehfcbkaaDoor
