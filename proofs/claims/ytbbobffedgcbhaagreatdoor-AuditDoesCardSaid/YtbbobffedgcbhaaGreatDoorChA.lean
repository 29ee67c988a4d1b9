/- bytes.Equal, bytes.Clone, chain.cut. -/
import Derived.Test.YtbbobffedgcbhaaGreatDoorLnkA
namespace Go.Proofs.YtbbobffedgcbhaaGreatDoor
open Go.RowKit
set_option linter.unusedVariables false
set_option maxHeartbeats 400000 in
theorem beq_any (A B : Option Addr) (n m c d : Nat) (a b : List UInt8) (w : World) (X Y : Nat) (ha : Reads w X 1 A n (bv a)) (hb : Reads w Y 1 B m (bv b)) :
    Calls Tryz.prog 57 #[.slice A n c, .slice B m d] w fun e w' => e = .returned (.bool (a == b)) ∧ w = w' := by
  have r1 := run_string_of (P := Tryz.prog) w X 22 9 5 A n c a Tryz.underlying22 Tryz.underlying5 Tryz.underlying9 ha
  have r2 := run_string_of (P := Tryz.prog) w Y 22 9 5 B m d b Tryz.underlying22 Tryz.underlying5 Tryz.underlying9 hb
  go_enter Tryz.func57, Tryz.ntmps57
  go_wp2
  go_ret
  exact ⟨rfl, rfl⟩
set_option maxHeartbeats 400000 in
theorem bclone_any (ad : Addr) (n c : Nat) (bs : List UInt8) (w : World) (hr : Rd w (some ad) n bs) (hn : n ≤ 1000000) :
    Calls Tryz.prog 62 #[.slice (some ad) n c] w fun e w' => ∃ v, e = .returned v ∧ w'.ownsRow w.heap.size 5 1 v n (bv bs) ∧ Below w.heap.size w w' := by
  obtain ⟨i0, hi, hz0, hz1, hz2⟩ := info_parts infoU8
  have hnil := fun (W : World) => Lib.run_eql_slice_nil (P := Tryz.prog) W 22 5 (some ad) n c 0 0 Tryz.underlying22
  have hown0 : (w.alloc (.cells #[] 5)).ownsRow w.heap.size 5 1 (.slice (some ⟨w.heap.size, 0, none⟩) 0 0) 0 [] :=
    Blk.own (cap := 0) (Blk.new w 5 #[]) (Nat.le_refl _) (Nat.zero_le _) rfl
  have hb0 := (Below.refl w.heap.size w).alloc (Nat.le_refl _) (.cells #[] 5)
  have hr0 := hr.alloc (Nat.le_refl _) (.cells #[] 5)
  go_enter Tryz.func62, Tryz.ntmps62
  go_wp2_with (at_builtin; (refine wpList_append_any _ rfl (.tmp 5) (.tmp 6) 22 rfl w.heap.size 5 i0 _ 1 1 Tryz.underlying22 hi hz0 hz1 hz2 rfl (by omega) (.slice (some ⟨w.heap.size, 0, none⟩) 0 0) 0 [] rfl hown0 w.heap.size (some ad) n c (bv bs) rfl hr0 (bv_one bs) ?c1 ?c2 ?c3 ?_))
  case c1 => unfold maxLen; omega
  case c2 => omega
  case c3 => simp
  intro v1 w1 hown1 hg1 hat1
  go_wp2
  go_ret
  refine ⟨v1, rfl, by simpa using hown1, hb0.grown hg1 (by simp) (fun g hg => by simp [Value.ownBlock] at hg; omega)⟩
theorem sl_cap (A : Option Addr) (n c q z : Nat) (k k2 k3 : IntKind) (l h : Int) (hl : l = (q : Int)) (hh : h = (z : Int)) (hq : q ≤ z) (hz : z ≤ c) (W : World) : (Instr.slice 22 (.slice A n c) (some (.int k l)) (some (.int k2 h)) (some (.int k3 h))).run Tryz.prog W = .ok (.slice (from_ z q A) (z - q) (z - q)) W := by
  subst hl; subst hh
  have hE : Tryz.prog.elem 22 = 5 := by simp [Program.elem, Tryz.underlying22]
  rw [run_slice_any W 22 A n c (slice_ht Tryz.underlying22), hE]
  have h1 : (Instr.sliceBounds true n c (some (.int k (q : Int))) (some (.int k2 (z : Int))) (some (.int k3 (z : Int)))).run Tryz.prog W = .ok (q, z, z) W := by
    simp [Instr.sliceBounds, run_sliceBound, *]
  rw [h1]
  simp only [Result.andThen]
  rw [run_sizeOf_one _ sizeU8]
  simp only [sliced, from_, Nat.mul_one]
theorem reads_cap {w : World} {B n q z : Nat} {A : Option Addr} {bs : LB} (h : Reads w B 1 A n (bv bs)) (hq : q ≤ z) (hz : z ≤ n) : Reads w B 1 (from_ z q A) (z - q) (bv ((bs.drop q).take (z - q))) := by
  have h1 := reads_from (h.take hz) hq (Nat.le_refl z)
  rw [← bv_take, ← bv_drop, List.drop_take] at h1
  exact h1
theorem cut_none {bs : LB} (h : cutP bs = none) : bs.length < 2 ∨ (2 ≤ bs.length ∧ bs.length < 2 + numB (bs.take 2) + 32) := by
  unfold cutP at h
  split at h
  · left; assumption
  · split at h
    · right; constructor
      · omega
      · assumption
    · cases h
def CutNo (w : World) (e : Ending) (w' : World) : Prop := e = .returned (.tuple #[.slice none 0 0, .slice none 0 0, .bool false]) ∧ Below w.heap.size w w'
def CutYes (body own : LB) (B : Nat) (w : World) (e : Ending) (w' : World) : Prop := ∃ A1 A2, e = .returned (.tuple #[.slice A1 body.length body.length, .slice A2 32 32, .bool true]) ∧ Reads w' B 1 A1 body.length (bv body) ∧ Reads w' B 1 A2 32 (bv own) ∧ A2 ≠ none ∧ Below w.heap.size w w'
theorem numB2_lt (b : LB) : numB (b.take 2) < 65536 := by
  have h1 := numB_lt (b.take 2)
  have h2 : 256 ^ (b.take 2).length ≤ 256 ^ 2 := Nat.pow_le_pow_right (by omega) (by rw [List.length_take]; omega)
  omega
set_option maxRecDepth 100000 in
set_option maxHeartbeats 4000000 in
theorem cut_no {bs : LB} (h : cutP bs = none) (A : Option Addr) (n c B : Nat) (w : World) (hR : Reads w B 1 A n (bv bs)) (hB : B ≤ w.heap.size) (hnc : n ≤ c) (hn : n ≤ 1000000) :
    Calls Tryz.prog 59 #[.slice A n c] w (CutNo w) := by
  have hl : bs.length = n := Rd.len (w := w) (A := A) (hR.more hB)
  subst hl
  rcases cut_none h with h1 | ⟨h1, h2⟩
  · have k1 : (bs.length : Int) < 2 := by omega
    clear hR h
    generalize bs.length = m at *
    go_enter Tryz.func59, Tryz.ntmps59
    go_wp2_with fail
    refine bodyPost_ret (v := .tuple #[.slice none 0 0, .slice none 0 0, .bool false]) (by simp only [results, Tryz.results59]; go_simp) rfl ⟨rfl, Below.refl _ _⟩
  · have k1 : ¬ (bs.length : Int) < 2 := by omega
    have k2 : (bs.length : Int) < 2 + (numB (bs.take 2) : Int) + 32 := by omega
    have hb2 := numB2_lt bs
    have hs := fun W => sl_to A bs.length c 2 .i64 2 rfl (by omega) W
    have hT : Rd w A 2 (bs.take 2) := rd_to (hR.more hB) h1
    have XG := hide (get_yes A 2 c (bs.take 2) w (by omega) (by omega) hT)
    have w1 : IntKind.i64.wrap (numB (bs.take 2) : Int) = (numB (bs.take 2) : Int) := by simp [IntKind.wrap, IntKind.bits, IntKind.signed]; omega
    have w2 : IntKind.i64.wrap (2 + (numB (bs.take 2) : Int)) = 2 + (numB (bs.take 2) : Int) := by simp [IntKind.wrap, IntKind.bits, IntKind.signed]; omega
    have w3 : IntKind.i64.wrap (2 + (numB (bs.take 2) : Int) + 32) = 2 + (numB (bs.take 2) : Int) + 32 := by simp [IntKind.wrap, IntKind.bits, IntKind.signed]; omega
    clear hR h hT
    generalize numB (bs.take 2) = x at *
    generalize bs.length = m at *
    go_enter Tryz.func59, Tryz.ntmps59
    go_wp2_with fail
    with_reducible refine XG.out.mono ?_
    rintro e w1 ⟨rfl, rfl⟩
    go_wp2_with fail
    refine bodyPost_ret (v := .tuple #[.slice none 0 0, .slice none 0 0, .bool false]) (by simp only [results, Tryz.results59]; go_simp) rfl ⟨rfl, Below.refl _ _⟩
set_option maxRecDepth 100000 in
set_option maxHeartbeats 4000000 in
theorem cut_yes {bs body own : LB} (h : cutP bs = some (body, own)) (A : Option Addr) (n c B : Nat) (w : World) (hR : Reads w B 1 A n (bv bs)) (hB : B ≤ w.heap.size) (hnc : n ≤ c) (hn : n ≤ 1000000) :
    Calls Tryz.prog 59 #[.slice A n c] w (CutYes body own B w) := by
  have hl : bs.length = n := Rd.len (w := w) (A := A) (hR.more hB)
  obtain ⟨p1, p2, p3, p4, p5, p6⟩ := cut_some h
  subst hl
  have k1 : ¬ (bs.length : Int) < 2 := by omega
  have k2 : ¬ (bs.length : Int) < 2 + (body.length : Int) + 32 := by omega
  have hb2 := numB2_lt bs
  rw [p1] at hb2
  have hs := fun W => sl_to A bs.length c 2 .i64 2 rfl (by omega) W
  have hT : Rd w A 2 (bs.take 2) := rd_to (hR.more hB) (by omega)
  have XG := hide (get_yes A 2 c (bs.take 2) w (by omega) (by omega) hT)
  rw [p1] at XG
  have r1 := reads_cap hR (q := 2) (z := 2 + body.length) (by omega) (by omega)
  have r2 := reads_cap hR (q := 2 + body.length) (z := 2 + body.length + 32) (by omega) (by omega)
  rw [show 2 + body.length - 2 = body.length by omega, ← p5] at r1
  rw [show 2 + body.length + 32 - (2 + body.length) = 32 by omega, ← p6] at r2
  have s1 := fun W => sl_cap A bs.length c 2 (2 + body.length) .i64 .i64 .i64 2 (2 + (body.length : Int)) rfl (by omega) (by omega) (by omega) W
  have s2 := fun W => sl_cap A bs.length c (2 + body.length) (2 + body.length + 32) .i64 .i64 .i64 (2 + (body.length : Int)) (2 + (body.length : Int) + 32) (by omega) (by omega) (by omega) (by omega) W
  rw [show 2 + body.length - 2 = body.length by omega] at s1
  rw [show 2 + body.length + 32 - (2 + body.length) = 32 by omega] at s2
  have hne : from_ (2 + body.length + 32) (2 + body.length) A ≠ none := by
    obtain ⟨ad, e, _⟩ := hR.2 (by omega)
    unfold from_
    rw [e, if_neg (by omega)]
    simp
  have w1 : IntKind.i64.wrap (body.length : Int) = (body.length : Int) := by simp [IntKind.wrap, IntKind.bits, IntKind.signed]; omega
  have w2 : IntKind.i64.wrap (2 + (body.length : Int)) = 2 + (body.length : Int) := by simp [IntKind.wrap, IntKind.bits, IntKind.signed]; omega
  have w3 : IntKind.i64.wrap (2 + (body.length : Int) + 32) = 2 + (body.length : Int) + 32 := by simp [IntKind.wrap, IntKind.bits, IntKind.signed]; omega
  have HEND : Hid (∀ A1 A2 W, Reads w B 1 A1 body.length (bv body) → Reads w B 1 A2 32 (bv own) → A2 ≠ none → Below w.heap.size w W → CutYes body own B w (.returned (.tuple #[.slice A1 body.length body.length, .slice A2 32 32, .bool true])) W) := hide (fun A1 A2 W h1 h2 h3 h4 => ⟨A1, A2, rfl, h1.below (h4.mono hB), h2.below (h4.mono hB), h3, h4⟩)
  generalize from_ (2 + body.length) 2 A = A1 at *
  generalize from_ (2 + body.length + 32) (2 + body.length) A = A2 at *
  have R1 := hide r1
  have R2 := hide r2
  have NE := hide hne
  clear hR h hT r1 r2 hne p1 p2 p3 p4 p5 p6
  generalize CutYes body own B w = POST at *
  generalize body.length = x at *
  generalize bs.length = m at *
  go_enter Tryz.func59, Tryz.ntmps59
  go_wp2_with fail
  with_reducible refine XG.out.mono ?_
  rintro e w1 ⟨rfl, rfl⟩
  clear XG
  go_upto_region 8 with (fail)
  go_quiet (fail)
  go_wp2_with fail
  refine bodyPost_ret (v := .tuple #[.slice A1 x x, .slice A2 32 32, .bool true]) (by simp only [results, Tryz.results59]; go_simp) rfl (HEND.out _ _ _ R1.out R2.out NE.out (below_drewN (Below.refl w.heap.size w) _))
end Go.Proofs.YtbbobffedgcbhaaGreatDoor
