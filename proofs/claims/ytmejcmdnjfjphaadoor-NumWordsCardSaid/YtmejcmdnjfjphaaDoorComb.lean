/- One contract a function, for every input. -/
import Derived.Test.YtmejcmdnjfjphaaDoorHeads
namespace Go.Proofs.YtmejcmdnjfjphaaDoor
open Go.RowKit
set_option linter.unusedVariables false

def getX (bs : List UInt8) : Nat := if 1 ≤ bs.length ∧ bs.length ≤ 8 then numB bs else 0
def getE (bs : List UInt8) : Int := if 1 ≤ bs.length ∧ bs.length ≤ 8 then 0 else 2
theorem getX_lt (bs : List UInt8) : getX bs < 18446744073709551616 := by
  unfold getX; split
  · exact numB_lt8 bs (by omega)
  · omega
theorem get_c (A : Option Addr) (n c : Nat) (bs : List UInt8) (w : World) (hr : Rd w A n bs) :
    Calls Tryd.prog 8 #[.slice A n c] w fun e w' => e = .returned (.tuple #[.int .u64 (getX bs), .int .i64 (getE bs)]) ∧ w = w' := by
  have hl := hr.len
  unfold getX getE
  by_cases h : 1 ≤ bs.length ∧ bs.length ≤ 8
  · rw [if_pos h, if_pos h]; exact get_yes A n c bs w (by omega) (by omega) hr
  · rw [if_neg h, if_neg h]; exact get_no A n c w (by omega)
theorem rget_c (A : Option Addr) (n c : Nat) (bs : List UInt8) (w : World) (hr : Rd w A n bs) :
    Calls Tryd.prog 9 #[.slice A n c] w fun e w' => e = .returned (.tuple #[.int .u64 (getX bs), .int .i64 (getE bs)]) ∧ w = w' := by
  have hl := hr.len
  unfold getX getE
  by_cases h : 1 ≤ bs.length ∧ bs.length ≤ 8
  · rw [if_pos h, if_pos h]; exact rget_yes A n c bs w (by omega) (by omega) hr
  · rw [if_neg h, if_neg h]; exact rget_no A n c w (by omega)
def putL (n : Nat) (m : Int) : List UInt8 := if 1 ≤ m ∧ m ≤ 8 then be m.toNat n else []
theorem rd_nil (w : World) : Rd w none 0 [] := Reads.none_
theorem put_c (n : Nat) (m : Int) (w : World) (hn : n < 18446744073709551616) :
    Calls Tryd.prog 11 #[.int .u64 n, .int .i64 m] w fun e w' => ∃ A k c, e = .returned (.slice A k c) ∧ Rd w' A k (putL n m) ∧ Below w.heap.size w w' := by
  unfold putL
  by_cases h : 1 ≤ m ∧ m ≤ 8
  · rw [if_pos h]
    obtain ⟨k, rfl⟩ := Int.eq_ofNat_of_zero_le (show 0 ≤ m by omega)
    exact (put_sl n k w (by omega) (by omega) hn).mono fun e w' ⟨A, c, he, hr, hb⟩ => ⟨A, k, c, he, hr, hb⟩
  · rw [if_neg h]
    exact (put_no n m w (by omega)).mono fun e w' ⟨he, hw⟩ => ⟨none, 0, 0, he, rd_nil w', hw ▸ Below.refl _ _⟩
theorem rput_c (n : Nat) (m : Int) (w : World) (hn : n < 18446744073709551616) :
    Calls Tryd.prog 12 #[.int .u64 n, .int .i64 m] w fun e w' => ∃ A k c, e = .returned (.slice A k c) ∧ Rd w' A k (putL n m) ∧ Below w.heap.size w w' := by
  unfold putL
  by_cases h : 1 ≤ m ∧ m ≤ 8
  · rw [if_pos h]
    obtain ⟨k, rfl⟩ := Int.eq_ofNat_of_zero_le (show 0 ≤ m by omega)
    exact (rput_sl n k w (by omega) (by omega) hn).mono fun e w' ⟨A, c, he, hr, hb⟩ => ⟨A, k, c, he, hr, hb⟩
  · rw [if_neg h]
    exact (rput_no n m w (by omega)).mono fun e w' ⟨he, hw⟩ => ⟨none, 0, 0, he, rd_nil w', hw ▸ Below.refl _ _⟩
def pX (l : List UInt8) : Int := match Lib.atoiAll l with
  | .ok v => if Lib.itoa v = l then v else 0
  | _ => 0
def pB (l : List UInt8) : Bool := match Lib.atoiAll l with
  | .ok v => decide (Lib.itoa v = l)
  | _ => false
theorem p_yes (v : Int) (hv : i64R v) : pX (Lib.itoa v) = v ∧ pB (Lib.itoa v) = true := by
  unfold pX pB
  rw [atoi_itoa v hv]
  simp
theorem p_no (l : List UInt8) (h : ∀ v, i64R v → Lib.itoa v ≠ l) : pX l = 0 ∧ pB l = false := by
  unfold pX pB
  rcases hA : Lib.atoiAll l with v | _ | _
  · have := h v (Lib.atoiAll_bounds hA)
    simp [this]
  · simp
  · simp
theorem pX_R (l : List UInt8) : i64R (pX l) := by
  by_cases h : ∃ v, i64R v ∧ Lib.itoa v = l
  · obtain ⟨v, hv, rfl⟩ := h
    rw [(p_yes v hv).1]; exact hv
  · rw [(p_no l fun v hv he => h ⟨v, hv, he⟩).1]; unfold i64R; omega
theorem parseEnd_c {w : World} {l : List UInt8} {e : Ending} {w' : World} (h : ParseEnd w l e w') : e = .returned (.tuple #[.int .i64 (pX l), .bool (pB l)]) ∧ Below w.heap.size w w' := by
  obtain ⟨hb, ⟨v, hv, rfl, rfl⟩ | ⟨hno, rfl⟩⟩ := h
  · rw [(p_yes v hv).1, (p_yes v hv).2]; exact ⟨rfl, hb⟩
  · rw [(p_no l hno).1, (p_no l hno).2]; exact ⟨rfl, hb⟩
theorem parse_c (s : ByteArray) (w : World) (hs : s.size ≤ 1000000) (h : Std w) :
    Calls Tryd.prog 14 #[.string s] w fun e w' => e = .returned (.tuple #[.int .i64 (pX s.data.toList), .bool (pB s.data.toList)]) ∧ Below w.heap.size w w' :=
  (parse_any s w hs h).mono fun _ _ => parseEnd_c
theorem rparse_c (s : ByteArray) (w : World) (hs : s.size ≤ 1000000) :
    Calls Tryd.prog 15 #[.string s] w fun e w' => e = .returned (.tuple #[.int .i64 (pX s.data.toList), .bool (pB s.data.toList)]) ∧ Below w.heap.size w w' :=
  (rparse_any s w hs).mono fun _ _ => parseEnd_c
def uX (l : List UInt8) : List UInt8 := (unhexS l).getD []
def uB (l : List UInt8) : Bool := (unhexS l).isSome
theorem unhexEnd_c {w : World} {l : List UInt8} {e : Ending} {w' : World} (h : UnhexEnd w l e w') : ∃ A n c, e = .returned (.tuple #[.slice A n c, .bool (uB l)]) ∧ Rd w' A n (uX l) ∧ Below w.heap.size w w' := by
  unfold uX uB
  rcases h with ⟨h, he, hb⟩ | ⟨b, A, n, c, h, he, hr, hb⟩
  · rw [h]; exact ⟨none, 0, 0, he, rd_nil _, hb⟩
  · rw [h]; exact ⟨A, n, c, he, hr, hb⟩
theorem unhexS_odd (l : List UInt8) (h : l.length % 2 = 1) : unhexS l = none := by
  unfold unhexS
  rw [if_neg]
  rintro ⟨h', _⟩
  omega
theorem unhex_c (s : ByteArray) (w : World) (hs : s.size ≤ 1000000) :
    Calls Tryd.prog 16 #[.string s] w fun e w' => ∃ A n c, e = .returned (.tuple #[.slice A n c, .bool (uB s.data.toList)]) ∧ Rd w' A n (uX s.data.toList) ∧ Below w.heap.size w w' := by
  by_cases h : s.size % 2 = 0
  · exact (unhex_even s w h hs).mono fun _ _ => unhexEnd_c
  · refine (unhex_odd s w (by omega) hs).mono fun e w' ⟨he, hw⟩ => unhexEnd_c (.inl ⟨unhexS_odd _ ?_, he, hw ▸ Below.refl _ _⟩)
    rw [Array.length_toList]; show s.size % 2 = 1; omega
theorem runhex_c (s : ByteArray) (w : World) (hs : s.size ≤ 1000000) :
    Calls Tryd.prog 17 #[.string s] w fun e w' => ∃ A n c, e = .returned (.tuple #[.slice A n c, .bool (uB s.data.toList)]) ∧ Rd w' A n (uX s.data.toList) ∧ Below w.heap.size w w' := by
  by_cases h : s.size % 2 = 0
  · exact (runhex_even s w h hs).mono fun _ _ => unhexEnd_c
  · refine (runhex_odd s w (by omega) hs).mono fun e w' ⟨he, hw⟩ => unhexEnd_c (.inl ⟨unhexS_odd _ ?_, he, hw ▸ Below.refl _ _⟩)
    rw [Array.length_toList]; show s.size % 2 = 1; omega

/-! There and back. -/
theorem hexd_dgt (n : Nat) (h : n < 16) : dgt (hexd n).toNat = n := by
  have hh : ∀ j : Fin 16, dgt (hexd j.val).toNat = j.val := by decide
  exact hh ⟨n, h⟩
theorem hexL_cons (c : UInt8) (r : List UInt8) : hexL (c :: r) = hexd (c.toNat / 16) :: hexd (c.toNat % 16) :: hexL r := rfl
theorem da_hex (l : List UInt8) : ∀ i, i < l.length → da (hexL l) (2 * i) = ((l.getD i 0).toNat / 16 : Nat) ∧ da (hexL l) (2 * i + 1) = ((l.getD i 0).toNat % 16 : Nat) := by
  induction l with
  | nil => intro i h; simp at h
  | cons c r ih =>
    intro i h
    have hc := c.toNat_lt
    rw [hexL_cons]
    rcases i with _ | i
    · unfold da
      simp only [Nat.mul_zero, Nat.zero_add, List.getD_cons_zero, List.getD_cons_succ]
      exact ⟨hexd_dgt _ (by omega), hexd_dgt _ (by omega)⟩
    · have := ih i (by simpa using h)
      unfold da at this ⊢
      rw [show 2 * (i + 1) = 2 * i + 1 + 1 from by omega]
      simp only [List.getD_cons_succ]
      exact this
theorem unhex_hex (l : List UInt8) : unhexS (hexL l) = some l := by
  have hl : (hexL l).length / 2 = l.length := by rw [hexL_length]; omega
  have hg := unhexS_good (hexL l) (by rw [hexL_length]; omega) (by
    intro i hi
    rw [hl] at hi
    obtain ⟨h1, h2⟩ := da_hex l i hi
    unfold okAt
    rw [h1, h2, decide_eq_true (by omega), decide_eq_true (by omega)]
    rfl)
  rw [hg, hl]
  congr 1
  apply List.ext_getElem?
  intro i
  by_cases hi : i < l.length
  · obtain ⟨h1, h2⟩ := da_hex l i hi
    have hc := l[i].toNat_lt
    simp only [unh, List.getElem?_map, List.getElem?_range hi, Option.map_some, List.getElem?_eq_getElem hi, h1, h2]
    congr 1
    have : l.getD i 0 = l[i] := by simp [hi]
    rw [this]
    have e : (16 * ((l[i].toNat / 16 : Nat) : Int) + ((l[i].toNat % 16 : Nat) : Int)).toNat = l[i].toNat := by omega
    rw [e]
    simp
  · simp [unh, hi]
theorem u_hex (l : List UInt8) : uX (hexL l) = l ∧ uB (hexL l) = true := by
  unfold uX uB
  rw [unhex_hex]
  exact ⟨rfl, rfl⟩
end Go.Proofs.YtmejcmdnjfjphaaDoor
