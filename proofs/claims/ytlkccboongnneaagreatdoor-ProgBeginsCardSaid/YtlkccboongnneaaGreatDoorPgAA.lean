/- Begin; pieces joined; digits. -/
import Derived.Test.YtlkccboongnneaaGreatDoorPgZ
import Derived.Laws.Runes
namespace Go.Proofs.YtlkccboongnneaaGreatDoor
open Go.RowKit
set_option linter.unusedVariables false
def bornP (pid : Int) (prog : Bs) (args env : List Bs) (fds : List Int) : PR := ⟨pid, prog, args, env, fds, false, 0, 0, 0, []⟩
set_option maxRecDepth 100000 in
set_option maxHeartbeats 4000000 in
theorem begin_any (pid : Int) (prog : Bs) (args env : List Bs) (fds : List Int) (A : Option Addr) (an ac : Nat) (E : Option Addr) (en ec : Nat) (F : Option Addr) (fn fc : Nat) (w : World)
    (h1 : Reads w w.heap.size 1 A an (svs args)) (h2 : Reads w w.heap.size 1 E en (svs env)) (h3 : Reads w w.heap.size 1 F fn (ivs fds)) (hn : an ≤ 1000000 ∧ en ≤ 1000000 ∧ fn ≤ 1000000) :
    Calls Tryz.prog 10 #[.int .i64 pid, .string ⟨prog.toArray⟩, .slice A an ac, .slice E en ec, .slice F fn fc] w (AfterEnd w (bornP pid prog args env fds)) := by
  go_enter Tryz.func10, Tryz.ntmps10
  go_wp2_with fail
  generalize hW1 : w.alloc (.cells #[Value.int .i64 0, .string ⟨#[]⟩, .slice none 0 0, .slice none 0 0, .slice none 0 0, .bool false, .int .i64 0, .int .i64 0, .int .i64 0, .slice none 0 0] 26) = W1
  have hA1 : Blk W1 w.heap.size 26 #[Value.int .i64 0, .string ⟨#[]⟩, .slice none 0 0, .slice none 0 0, .slice none 0 0, .bool false, .int .i64 0, .int .i64 0, .int .i64 0, .slice none 0 0] := by rw [← hW1]; exact Blk.new w 26 _
  have hb0 : Below w.heap.size w W1 := by rw [← hW1]; exact (Below.refl _ _).alloc (Nat.le_refl _) _
  have hsz : W1.heap.size = w.heap.size + 1 := by rw [← hW1]; simp
  have hI : InP W1 W1.heap.size (bornP pid prog args env fds) ⟨A, an, ac, E, en, ec, F, fn, fc, none, 0, 0⟩ :=
    ⟨(h1.below hb0).more (by omega), (h2.below hb0).more (by omega), (h3.below hb0).more (by omega), ⟨rfl, fun h => absurd h (by show ¬ (0 : Nat) < 0; omega)⟩⟩
  have XC0 := cproc_any (bornP pid prog args env fds) ⟨A, an, ac, E, en, ec, F, fn, fc, none, 0, 0⟩ W1 hI ⟨hn.1, hn.2.1, hn.2.2, by show 0 ≤ _; omega⟩
  simp only [PR.v, PR.cells, bornP] at XC0
  have XC := hide XC0
  have HB0 := hide hb0
  clear XC0 hI h1 h2 h3 hW1 hb0 hn
  refine XC.out.mono ?_
  rintro e w2 ⟨s', rfl, ho, -, -, -, hd, hb⟩
  have HO := hide ho
  have HA2 := hide (hA1.below hb hA1.lt)
  have HB2 := hide (HB0.out.trans (hb.mono (by omega)))
  have hg2 : w.heap.size < w2.heap.size := by have := hb.size; omega
  clear ho hd hb XC hA1 HB0
  obtain ⟨⟨i0, i1, i2, i3, i4, i5, i6, i7, i8, i9⟩, j0, j1, j2, j3, j4, j5, j6, j7, j8, j9⟩ := ten HA2.out
  go_wp2_with fail
  have hOW : Hid (OwP (w.heap.size + 1) w2 (bornP pid prog args env fds) s') := hide (HO.out.more (by omega))
  refine bodyPost_ret (v := PR.v (bornP pid prog args env fds) s') (by simp only [results, Tryz.results10]; go_simp; rfl) rfl ⟨s', rfl, ?_, ?_⟩
  · refine OwP.more (B := w.heap.size + 1) ?_ (by omega)
    repeat (refine OwP.far ?_ (by simp) _)
    exact hOW.out
  · repeat (refine Below.setCell ?_ (by simp) _)
    exact HB2.out
/-- Pieces that came in. -/
def RowsP (w : World) (L : Option Addr) (n : Nat) (bs : List Bs) : Prop :=
  bs.length = n ∧ ∀ (i : Nat) b, bs[i]? = some b → ∃ g o A q cq, L = some ⟨g, o, none⟩ ∧ g < w.heap.size ∧ w.cell? ⟨g, o + i, none⟩ = some (.slice A q cq) ∧ q ≤ cq ∧ Reads w w.heap.size 1 A q (bv b)
theorem RowsP.below {w w' : World} {L : Option Addr} {n : Nat} {bs : List Bs} (h : RowsP w L n bs) (hb : Below w.heap.size w w') : RowsP w' L n bs := by
  refine ⟨h.1, fun i b hi => ?_⟩
  obtain ⟨g, o, A, q, cq, e, hg, hc, hq, hr⟩ := h.2 i b hi
  exact ⟨g, o, A, q, cq, e, Nat.lt_of_lt_of_le hg hb.size, (hb.cell (p := ⟨g, o + i, none⟩) hg).trans hc, hq, (hr.below hb).more hb.size⟩
def okPiece (b : Bs) : Prop := 1 ≤ b.length ∧ b.length ≤ 16
def AllOk (bs : List Bs) : Prop := ∀ b ∈ bs, okPiece b
theorem flat_take (bs : List Bs) (k : Nat) (b : Bs) (h : bs[k]? = some b) : flat (bs.take (k + 1)) = flat (bs.take k) ++ b := by
  induction bs generalizing k with
  | nil => simp at h
  | cons x l ih =>
    cases k with
    | zero => simp at h; subst h; simp [flat]
    | succ k => simp at h; simp [flat, ih k h]
theorem flat_le (bs : List Bs) (h : ∀ b ∈ bs, b.length ≤ 16) : (flat bs).length ≤ 16 * bs.length := by
  induction bs with
  | nil => simp [flat]
  | cons x l ih =>
    have := ih fun b hb => h b (by simp [hb])
    have := h x (by simp)
    simp [flat]; omega
set_option maxHeartbeats 4000000 in
theorem joined_any (L : Option Addr) (n c : Nat) (bs : List Bs) (w : World) (h : RowsP w L n bs) (hn : n ≤ 5864062014805) :
    Calls Tryz.prog 16 #[.slice L n c] w fun e w' => ((AllOk bs ∧ e = .returned (.tuple #[.string ⟨(flat bs).toArray⟩, .bool (decide (n ≤ 20))])) ∨ ((¬ AllOk bs) ∧ e = .returned (.tuple #[.string ⟨#[]⟩, .bool false]))) ∧ Below w.heap.size w w' := by
  have H := hide h
  have hl := hide h.1
  clear h
  go_enter Tryz.func16, Tryz.ntmps16
  go_wp2_with fail
  go_loopw [4, 5] (fun u4 u5 wx => ∃ (k : Nat), k ≤ n ∧ u5 = .int .i64 (k : Int) ∧ u4 = .string ⟨(flat (bs.take k)).toArray⟩ ∧ Hid (∀ b ∈ bs.take k, okPiece b) ∧ Hid (Below w.heap.size w wx)) (fun _ i _ => n - (intOf i).toNat)
  case atStart => exact ⟨0, Nat.zero_le _, rfl, by simp [flat], hide (by simp), hide (Below.refl _ _)⟩
  case round =>
    obtain ⟨k, hk, rfl, rfl, HK, HB⟩ := hrel
    have hfl : (flat (bs.take k)).length ≤ 16 * n := by
      have := flat_le (bs.take k) fun b hb => (HK.out b hb).2
      rw [List.length_take] at this
      omega
    obtain ⟨S, hS⟩ : ∃ S, flat (bs.take k) = S := ⟨_, rfl⟩
    rw [hS] at hfl ⊢
    have HS := hide hS
    clear hS
    by_cases hkn : k = n
    · subst hkn
      have hall : Hid (AllOk bs) := hide (by unfold AllOk; have := HK.out; rwa [List.take_of_length_le (by rw [hl.out]; exact Nat.le_refl _)] at this)
      have hSf : Hid (S = flat bs) := hide (by rw [← HS.out, List.take_of_length_le (by rw [hl.out]; exact Nat.le_refl _)])
      go_wp2_with fail
      go_ret2
      refine ⟨.inl ⟨hall.out, ?_⟩, HB.out⟩
      rw [← hSf.out]
      simp; omega
    · have hlt : (k : Int) < (n : Int) := by omega
      obtain ⟨b, hb⟩ : ∃ b, bs[k]? = some b := ⟨_, List.getElem?_eq_getElem (by rw [hl.out]; omega)⟩
      obtain ⟨g, o, A, q, cq, rfl, hg, hc, hqc, hr⟩ := (H.out.below HB.out).2 k b hb
      have hbl : b.length = q := by have := hr.1; simp [bv] at this; exact this
      have hcv := run_string_of (P := Tryz.prog) wr wr.heap.size 24 9 5 A q cq b Tryz.underlying24 Tryz.underlying5 Tryz.underlying9 hr
      have HBB := hide hb
      have HBL := hide hbl
      have HCV := hcv
      clear hr hb hbl
      by_cases h1 : 1 ≤ q
      · have h1b : ¬ ((q : Int) < 1) := by omega
        by_cases h16 : q ≤ 16
        · have h16b : ¬ (16 < (q : Int)) := by omega
          have hb16 : b.length ≤ 16 := by rw [HBL.out]; exact h16
          go_wp2_with fail
          go_roundw
          case rel =>
            refine ⟨k + 1, by omega, by simp, ?_, hide ?_, HB⟩
            · rw [flat_take bs k b HBB.out, HS.out, catB]
            · intro x hx
              rw [List.take_add_one, HBB.out] at hx
              simp at hx
              rcases hx with hx | rfl
              · exact HK.out x hx
              · exact ⟨by rw [HBL.out]; exact h1, by rw [HBL.out]; exact h16⟩
          case measure => simp [intOf]; omega
        · have h16b : (16 : Int) < (q : Int) := by omega
          go_wp2_with fail
          go_ret2
          exact ⟨.inr ⟨fun hh => h16 (by have := (hh b (List.mem_of_getElem? HBB.out)).2; rw [HBL.out] at this; exact this), rfl⟩, HB.out⟩
      · have h1b : (q : Int) < 1 := by omega
        go_wp2_with fail
        go_ret2
        exact ⟨.inr ⟨fun hh => h1 (by have := (hh b (List.mem_of_getElem? HBB.out)).1; rw [HBL.out] at this; exact this), rfl⟩, HB.out⟩
end Go.Proofs.YtlkccboongnneaaGreatDoor
