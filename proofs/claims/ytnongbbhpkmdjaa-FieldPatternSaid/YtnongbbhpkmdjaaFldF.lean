/- WriteString; the contracts of Text, Pattern and Special. -/
import Derived.Test.YtnongbbhpkmdjaaGsT
namespace Go.Proofs.Ytnongbbhpkmdjaa
open Go.RowKit
set_option linter.unusedVariables false
set_option maxHeartbeats 2000000 in
set_option maxRecDepth 100000 in
theorem writeString_any (B b : Nat) (l : LB) (t : LB) (w : World) (h : Lib.IsBuilder 54 5 B b (bv l) w) (hlen : l.length + t.length ≤ 140737488355328) (hBw : B ≤ w.heap.size) :
    Calls Try.prog 33 #[.pointer (some ⟨b, 0, none⟩), .string ⟨t.toArray⟩] w fun e w' => e = .returned (.tuple #[.int .i64 (t.length : Int), .nilIface]) ∧ (Lib.BuilderAt 54 5 B b (.pointer (some ⟨b, 0, none⟩)) (bv (l ++ t)) w' ∧ Below B w w') := by
  obtain ⟨i0, hi, hz0, hz1, hz2⟩ := info_parts bByte
  have hstr := strCells_bv t
  have HSTR := hide hstr
  clear hstr
  go_enter Try.func33, Try.ntmps33
  go_wp2_with fail
  refine (copyCheck_any B b (bv l) _ h).mono ?_
  rintro e w1 ⟨rfl, h1, hb1⟩
  obtain ⟨hB, v, hbk, hown, hne⟩ := h1
  have c0 : w1.cell? ⟨b, 0, none⟩ = some (.pointer (some ⟨b, 0, none⟩)) := by rw [Lib.cell_of_heap hbk]; rfl
  have c1 : w1.cell? ⟨b, 1, none⟩ = some v := by rw [Lib.cell_of_heap hbk]; rfl
  have hbw1 : B ≤ w1.heap.size := by have := hb1.size; omega
  go_wp2_with (at_builtin; (refine Lib.wpList_append_own_string _ rfl _ _ 41 9 rfl B 5 i0 Try.underlying41 Try.underlying9 hi hz0 hz1 hz2 v (bv l).length (bv l) rfl hown ⟨t.toArray⟩ rfl ?c1 ?c2 ?c3 ?_))
  case c1 => show (bv l).length + t.length ≤ maxLen; rw [bv_length]; unfold maxLen; omega
  case c2 => show (bv l).length + t.length ≤ 140737488355328; rw [bv_length]; omega
  case c3 => exact hbw1
  intro v' w2 hown' hgrow _
  rw [HSTR.out] at hown'
  obtain ⟨A2, x2, rfl⟩ := own_slice hown'
  have hlt : b < w1.heap.size := by
    rcases Nat.lt_or_ge b w1.heap.size with h' | h'
    · exact h'
    · simp [Array.getElem?_eq_none h'] at hbk
  have hb2 : w2.heap[b]? = some (.cells #[.pointer (some ⟨b, 0, none⟩), v] 54 (0, 0)) := by
    rw [hgrow.block b hlt (fun e => hne e.symm)]
    exact hbk
  have d0 : w2.cell? ⟨b, 0, none⟩ = some (.pointer (some ⟨b, 0, none⟩)) := by rw [Lib.cell_of_heap hb2]; rfl
  have d1 : w2.cell? ⟨b, 1, none⟩ = some v := by rw [Lib.cell_of_heap hb2]; rfl
  have f1 : w2.frozen? ⟨b, 1, none⟩ = false := Lib.frozen_of_heap hb2 1
  have HO := hide hown'
  have HG := hide hgrow
  have hb2l : b < w2.heap.size := Nat.lt_of_lt_of_le hlt hgrow.size
  have HBK := hide hb2
  have HOW := hide hown
  have HB1 := hide hb1
  clear hown' hgrow hbk c0 c1 hown hb1 hb2
  go_wp2
  go_ret2
  refine ⟨rfl, ?_, ?_⟩
  · have ho := HO.out
    rw [← bv_append] at ho
    exact Lib.BuilderAt.put (T := 54) (e := 5) hB HBK.out (bs' := bv (l ++ t)) (by
      have e : (bv l).length + (⟨t.toArray⟩ : ByteArray).size = (bv (l ++ t)).length := by rw [bv_length, bv_length, List.length_append]; rfl
      rw [← e]; exact ho) (by decide)
  · exact (HB1.out.grown HG.out hbw1 (fun k hk => (HOW.out.lt k hk).1)).setCell (p := ⟨b, 1, none⟩) hB _
theorem ib_below {B b : Nat} {bs : List Value} {w w' : World} (h : Lib.IsBuilder 54 5 B b bs w) (hb : Below w.heap.size w w') : Lib.IsBuilder 54 5 B b bs w' := by
  have go : ∀ x, Lib.BuilderAt 54 5 B b x bs w → Lib.BuilderAt 54 5 B b x bs w' := by
    rintro x ⟨hB, v, hbk, hown, hne⟩
    exact ⟨hB, v, (hb.block b (Blk.lt (t := 54) hbk)).trans hbk, own_below hown hb, hne⟩
  exact h.imp (go _) (go _)
theorem ib_lt {B b : Nat} {bs : List Value} {w : World} (h : Lib.IsBuilder 54 5 B b bs w) : b < w.heap.size := by
  rcases h with h | h
  · exact h.lt
  · exact h.lt
theorem cells_of {w : World} {B size n : Nat} {A : Option Addr} {xs : List Value} (h : Reads w B size A n xs) (h0 : 0 < n) (hx : 0 < xs.length) : ∃ g o, A = some ⟨g, o, none⟩ ∧ g < B ∧ ∀ j u, xs[j]? = some u → w.cell? ⟨g, o + j, none⟩ = some u := by
  obtain ⟨ad, rfl, hb, hc⟩ := h.2 h0
  have h00 := hc 0 xs[0] (List.getElem?_eq_getElem hx)
  rw [add_zero_] at h00
  have hs : ad = ⟨ad.block, ad.off, none⟩ := by
    obtain ⟨b, o, s⟩ := ad
    cases s with
    | none => rfl
    | some x =>
      unfold World.cell? at h00
      split at h00 <;> simp at h00
  refine ⟨ad.block, ad.off, by rw [← hs], hb, fun j u hj => ?_⟩
  have := hc j u hj
  rw [hs, at_add] at this
  exact this
theorem run_sizeOf_n {P : Program} {e : TypeId} {n : Nat} (hs : (P.info? e).map (·.size) = some n) (W : World) : (sizeOf e).run P W = .ok n W := by
  obtain ⟨i, hi, h1⟩ := Option.map_eq_some_iff.1 hs
  simp [sizeOf, typeInfo, hi, h1]
theorem pc_at (g1 o m k q : Nat) (i : Int) (hi : i = (q : Int)) (hq : q < m) (W : World) : (Instr.indexAt 22 (.slice (some ⟨g1, o, none⟩) m k) (.int .i64 i)).run Try.prog W = .ok (.pointer (some ⟨g1, o + q * 4, none⟩)) W := by
  subst hi
  have hE : Try.prog.elem 22 = 35 := by simp [Program.elem, Try.underlying22]
  rw [run_indexAt_slice W 22 ⟨g1, o, none⟩ m k .i64 (q : Int) (slice_ht Try.underlying22), if_pos ⟨by omega, by omega⟩]
  rw [hE, run_sizeOf_n sizePc W]
  simp only [Result.andThen, Int.toNat_natCast, at_add]
theorem pc_cells {w : World} {B n : Nat} {A : Option Addr} {l : List Pc} (h : Reads w B 4 A n (pvs l)) {k : Nat} {p : Pc} (hp : l[k]? = some p) : ∃ g o, A = some ⟨g, o, none⟩ ∧ g < B ∧ w.cell? ⟨g, o + k * 4, none⟩ = some (.string ⟨p.text.toArray⟩) ∧ w.cell? ⟨g, o + k * 4 + 1, none⟩ = some (.bool p.quoted) ∧ w.cell? ⟨g, o + k * 4 + 2, none⟩ = some (.bool p.soft) ∧ w.cell? ⟨g, o + k * 4 + 3, none⟩ = some (.bool p.gap) := by
  obtain ⟨hk, he⟩ := List.getElem?_eq_some_iff.1 hp
  have hn : l.length = n := by have := h.1; rw [pvs_length] at this; omega
  obtain ⟨g, o, rfl, hg, hc⟩ := cells_of h (by omega) (by rw [pvs_length]; omega)
  refine ⟨g, o, rfl, hg, ?_, ?_, ?_, ?_⟩
  · exact hc (k * 4 + 0) _ (by rw [pvs_at l k 0 hk (by omega), he]; rfl)
  · exact hc (k * 4 + 1) _ (by rw [pvs_at l k 1 hk (by omega), he]; rfl)
  · exact hc (k * 4 + 2) _ (by rw [pvs_at l k 2 hk (by omega), he]; rfl)
  · exact hc (k * 4 + 3) _ (by rw [pvs_at l k 3 hk (by omega), he]; rfl)
/-- The texts of pieces. -/
def txl (l : List Pc) : LB := (l.map (·.text)).flatten
theorem txl_up (f : Fd) : txl (up f) = txt f := by
  unfold txl txt up
  rw [List.map_map]
  rfl
theorem txl_snoc (l : List Pc) (p : Pc) : txl (l ++ [p]) = txl l ++ p.text := by simp [txl]
theorem flat_le {α : Type} : ∀ (l : List (List α)) (k : Nat), (l.take k).flatten.length ≤ l.flatten.length
  | [], k => by simp
  | x :: r, 0 => by simp
  | x :: r, k + 1 => by
    have := flat_le r k
    simp only [List.take_succ_cons, List.flatten_cons, List.length_append]
    omega
theorem txl_take (l : List Pc) (k : Nat) : (txl (l.take k)).length ≤ (txl l).length := by
  unfold txl
  rw [List.map_take]
  exact flat_le _ k
theorem take_snoc' {α : Type} {l : List α} {k : Nat} {p : α} (h : l[k]? = some p) : l.take (k + 1) = l.take k ++ [p] := by
  obtain ⟨h1, h2⟩ := List.getElem?_eq_some_iff.1 h
  rw [List.take_succ_eq_append_getElem h1, h2]
set_option maxHeartbeats 4000000 in
set_option maxRecDepth 100000 in
theorem text_any (l : List Pc) (A : Option Addr) (n c : Nat) (w : World) (hR : Reads w w.heap.size 4 A n (pvs l)) (hn : n ≤ 1000000) (hlen : (txl l).length ≤ 1000000) :
    Calls Try.prog 12 #[.slice A n c] w fun e w' => e = .returned (.string ⟨(txl l).toArray⟩) ∧ Below w.heap.size w w' := by
  have hll : l.length = n := by have := hR.1; rw [pvs_length] at this; omega
  have HLL := hide hll
  have HR := hide hR
  clear hR hll
  go_enter Try.func12, Try.ntmps12
  go_wp2_with fail
  obtain ⟨b, hb⟩ : ∃ b, w.heap.size = b := ⟨_, rfl⟩
  obtain ⟨W0, hW0⟩ : ∃ W, w.alloc (.cells #[.pointer none, .slice none 0 0] 54) = W := ⟨_, rfl⟩
  have hB0 : Below b w W0 := by rw [← hW0, ← hb]; exact (Below.refl _ _).alloc (Nat.le_refl _) _
  have hI0 : Lib.IsBuilder 54 5 b b (bv []) W0 := .inl ⟨Nat.le_refl _, .slice none 0 0, by
    have := Blk.new w 54 #[.pointer none, .slice none 0 0]
    rw [← hW0, ← hb]; exact this, World.ownsRow_nil _ _ _ _, by simp [Value.ownBlock]⟩
  have HBB := hide hb
  rw [hW0, hb]
  rw [hb] at HR
  have HB0 := hide hB0
  have HI0 := hide hI0
  clear hW0 hb hB0 hI0
  go_loopw [8] (fun u8 wx => ∃ i : Nat, i ≤ n ∧ u8 = .int .i64 i ∧ Hid (Below b w wx) ∧ Hid (Lib.IsBuilder 54 5 b b (bv (txl (l.take i))) wx)) (fun u8 _ => n - (intOf u8).toNat)
  case atStart => exact ⟨0, Nat.zero_le _, rfl, HB0, HI0⟩
  case round =>
    clear HB0 HI0
    obtain ⟨i, hi, rfl, HB, HI⟩ := hrel
    have hbw := ib_lt HI.out
    by_cases hlt : i < n
    · obtain ⟨p, hp⟩ : ∃ p, l[i]? = some p := ⟨_, List.getElem?_eq_getElem (by have := HLL.out; omega)⟩
      obtain ⟨g, o, rfl, hg, q0, q1, q2, q3⟩ := pc_cells HR.out hp
      have r0 := (HB.out.cell (p := ⟨g, o + i * 4, none⟩) hg).trans q0
      have r1 := (HB.out.cell (p := ⟨g, o + i * 4 + 1, none⟩) hg).trans q1
      have r2 := (HB.out.cell (p := ⟨g, o + i * 4 + 2, none⟩) hg).trans q2
      have r3 := (HB.out.cell (p := ⟨g, o + i * 4 + 3, none⟩) hg).trans q3
      have hia := fun W => pc_at g o n c i (i : Int) rfl hlt W
      have hlt' : (i : Int) < (n : Int) := by omega
      have HTX : Hid (txl (l.take (i + 1)) = txl (l.take i) ++ p.text) := hide (by rw [take_snoc' hp, txl_snoc])
      have hl1 := txl_take l i
      have hl2 := txl_take l (i + 1)
      have hl3 : (txl (l.take i)).length + p.text.length ≤ 1000000 := by have := congrArg List.length HTX.out; rw [List.length_append] at this; omega
      have HI2 := hide (ib_below HI.out ((Below.refl _ _).alloc (Nat.le_refl _) (.cells #[.string ⟨p.text.toArray⟩, .bool p.quoted, .bool p.soft, .bool p.gap] 35)))
      have XW := hide (fun W h hw => writeString_any b b (txl (l.take i)) p.text W h (by omega) hw)
      generalize txl (l.take i) = done at *
      clear hp q0 q1 q2 q3
      go_wp2_with fail
      refine (XW.out _ (by exact HI2.out) (by simp; omega)).mono ?_
      rintro e w1 ⟨rfl, hI3, hb3⟩
      have HI3 : Hid (Lib.IsBuilder 54 5 b b (bv (txl ((l).take (i + 1)))) w1) := hide (by rw [HTX.out]; exact .inr hI3)
      have HB3 : Hid (Below b w w1) := hide ((HB.out.alloc (Nat.le_of_lt hbw) _).trans hb3)
      clear hI3 hb3
      go_wp2_with fail
      go_roundw
      case rel => exact ⟨i + 1, by omega, by go_num, HB3, HI3⟩
      case measure => simp [intOf]; omega
    · have hlt' : ¬ (i : Int) < (n : Int) := by omega
      have HI2 : Hid (Lib.IsBuilder 54 5 b b (Lib.byteCells (txl l)) wr) := hide (by
        have := HI.out
        rw [List.take_of_length_le (by have := HLL.out; omega)] at this
        rw [bcells]; exact this)
      go_wp2_with fail
      refine (Any.Builder_String_any Try.lays169 Try.Builder_Extra_169 b b (txl l) wr HI2.out (Nat.le_of_lt hbw)).mono ?_
      rintro e w2 ⟨rfl, hb2⟩
      have HB2 := hide (HB.out.trans hb2)
      clear hb2
      go_wp2_with fail
      go_ret
      exact ⟨rfl, by rw [HBB.out]; exact HB2.out⟩
end Go.Proofs.Ytnongbbhpkmdjaa
