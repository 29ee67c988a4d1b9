/- What cat, head, wc and tr write in all; digits. -/
import Derived.Test.YtlkccboongnneaaGreatDoorPgAE
namespace Go.Proofs.YtlkccboongnneaaGreatDoor
open Go.RowKit
set_option linter.unusedVariables false
theorem begun_idem {p : PR} (h : (begun p).phase ≠ 0) : begun (begun p) = begun p := by
  generalize begun p = q at h
  unfold begun
  rw [if_neg h]
theorem ran_begun {at_ : Nat} {p : PR} (h0 : p.phase = 0) (h1 : (begun p).phase = 1) : ∀ (f : Nat) (out : Bs) (ps : List Bs), ranP at_ f p out ps = ranP at_ f (begun p) out ps := by
  intro f out ps
  have hb := begun_idem (p := p) (by omega)
  cases f with
  | zero => rfl
  | succ f =>
    have hn : nextP (begun p) = nextP p := by unfold nextP; rw [hb]
    have ha : ∀ n d, afterP (begun p) n d = afterP p n d := by
      intro n d
      unfold afterP
      rw [hb, if_neg (show ¬ (begun p).phase = 4 by omega), if_neg (show ¬ p.phase = 4 by omega), if_neg (show ¬ (begun p).phase = 4 by omega)]
    rw [ranP, ranP, hn]
    simp only [ha]
theorem rounds_le (ps : List Bs) (h : AllOk ps) : rounds_ ps ≤ 17 * ps.length := by
  induction ps with
  | nil => simp [rounds_]
  | cons b l ih =>
    have h1 := ih fun x hx => h x (by simp [hx])
    have h2 := h b (by simp)
    unfold okPiece at h2
    simp only [rounds_, List.length_cons]
    omega
theorem ok_ne (ps : List Bs) (h : AllOk ps) : ∀ b ∈ ps, b ≠ [] := by
  intro b hb e
  have := (h b hb).1
  rw [e] at this
  simp at this
theorem cat_all (at_ : Int) (ps : List Bs) (h : AllOk ps) (hn : ps.length ≤ 20) : ranP (atN at_) 400 (bornP 1 nCat [nCat] [] []) [] ps = (flat ps, 0, true) := by
  have hr := rounds_le ps h
  have hat : 1 ≤ atN at_ := by unfold atN; omega
  have hb : begun (bornP 1 nCat [nCat] [] []) = ⟨1, nCat, [nCat], [], [], false, 0, 1, 0, []⟩ := by rfl
  rw [ran_begun rfl (by rw [hb]), hb, ran_pass _ hat ps 400 _ [] rfl (by decide) (by decide) (ok_ne ps h) (by omega)]
  simp [passP, nCat, nTr]
theorem head_all (at_ : Int) (ps : List Bs) (h : AllOk ps) (hn : ps.length ≤ 20) (k : Nat) (hk : k ≤ 300) : ranP (atN at_) 400 (bornP 1 nHead [nHead, Lib.decDigits k] [] []) [] ps = ((flat ps).take k, 0, true) := by
  have hr := rounds_le ps h
  have hat : 1 ≤ atN at_ := by unfold atN; omega
  have hit : Lib.itoa (k : Int) = Lib.decDigits k := by
    rcases itoa_shape (k : Int) with ⟨h1, _⟩ | ⟨_, h2⟩
    · omega
    · rw [h2]; congr 1
  have hnum : numOf (Lib.decDigits k) = some (k : Int) := numOf_some ⟨by omega, by omega⟩ hit
  have hhc : headC ((bornP 1 nHead [nHead, Lib.decDigits k] [] []).args.tail) = (k : Int) := by
    show headC [Lib.decDigits k] = _
    have e : headC [Lib.decDigits k] = if 0 ≤ (k : Int) then (k : Int) else 10 := by unfold headC; dsimp only; rw [hnum]
    rw [e, if_pos (by omega)]
  have hst : startP (bornP 1 nHead [nHead, Lib.decDigits k] [] []) = startHeadP (bornP 1 nHead [nHead, Lib.decDigits k] [] []) := by
    have hp : (bornP 1 nHead [nHead, Lib.decDigits k] [] []).prog = nHead := rfl
    unfold startP startHeadP
    rw [if_neg (by rw [hp]; decide), if_neg (by rw [hp]; decide), if_pos hp]
  have hbg : begun (bornP 1 nHead [nHead, Lib.decDigits k] [] []) = startHeadP (bornP 1 nHead [nHead, Lib.decDigits k] [] []) := by
    conv => lhs; unfold begun
    rw [if_pos (show (bornP 1 nHead [nHead, Lib.decDigits k] [] []).phase = 0 from rfl), hst]
  by_cases h0 : k = 0
  · subst h0
    have hs0 := startHeadP_zero hhc
    rw [ran_end (atN at_) 399 _ _ _ (by rw [hbg, hs0]), hbg, hs0]
    simp
  · have hs1 := startHeadP_eq hhc (by omega)
    rw [hs1] at hbg
    rw [ran_begun rfl (by rw [hbg]), hbg, ran_head _ hat ps 400 _ [] k rfl rfl rfl (by omega) (ok_ne ps h) (by omega)]
    simp [bornP]
theorem flat_len (ps : List Bs) (h : AllOk ps) (hn : ps.length ≤ 20) : (flat ps).length ≤ 320 := by
  have := flat_le ps fun b hb => (h b hb).2
  omega
theorem dec_of_nat (k : Nat) : Lib.itoa (k : Int) = Lib.decDigits k := by
  rcases itoa_shape (k : Int) with ⟨h1, _⟩ | ⟨_, h2⟩
  · omega
  · rw [h2]; congr 1
theorem wc_all (at_ : Int) (ps : List Bs) (h : AllOk ps) (hn : ps.length ≤ 20) : ranP (atN at_) 400 (bornP 1 nWc [nWc] [] []) [] ps = (Lib.decDigits (flat ps).length ++ [10], 0, true) := by
  have hr := rounds_le ps h
  have hfl := flat_len ps h hn
  have hat : 1 ≤ atN at_ := by unfold atN; omega
  have hb : begun (bornP 1 nWc [nWc] [] []) = ⟨1, nWc, [nWc], [], [], false, 0, 1, 0, []⟩ := by rfl
  rw [ran_begun rfl (by rw [hb]), hb, ran_wc _ hat ps 400 _ [] 0 rfl rfl rfl (by omega) (ok_ne ps h) (by omega)]
  simp only [List.nil_append, Nat.zero_add]
  rw [dec_of_nat]
  simp [wcN]
theorem wcl_all (at_ : Int) (ps : List Bs) (h : AllOk ps) (hn : ps.length ≤ 20) : ranP (atN at_) 400 (bornP 1 nWc [nWc, [45, 108]] [] []) [] ps = (Lib.decDigits ((flat ps).count 10) ++ [10], 0, true) := by
  have hr := rounds_le ps h
  have hfl := flat_len ps h hn
  have hat : 1 ≤ atN at_ := by unfold atN; omega
  have hb : begun (bornP 1 nWc [nWc, [45, 108]] [] []) = ⟨1, nWc, [nWc, [45, 108]], [], [], false, 0, 1, 0, []⟩ := by rfl
  rw [ran_begun rfl (by rw [hb]), hb, ran_wc _ hat ps 400 _ [] 0 rfl rfl rfl (by omega) (ok_ne ps h) (by omega)]
  simp only [List.nil_append, Nat.zero_add]
  rw [dec_of_nat]
  simp [wcN, linesIn]
theorem tr_all (at_ : Int) (ps : List Bs) (h : AllOk ps) (hn : ps.length ≤ 20) (a b : UInt8) : ranP (atN at_) 400 (bornP 1 nTr [nTr, [a], [b]] [] []) [] ps = (swap a b (flat ps), 0, true) := by
  have hr := rounds_le ps h
  have hat : 1 ≤ atN at_ := by unfold atN; omega
  have hb : begun (bornP 1 nTr [nTr, [a], [b]] [] []) = ⟨1, nTr, [nTr, [a], [b]], [], [], false, 0, 1, 0, []⟩ := by rfl
  rw [ran_begun rfl (by rw [hb]), hb, ran_pass _ hat ps 400 _ [] rfl (show nTr ≠ nWc by decide) (show nTr ≠ nHead by decide) (ok_ne ps h) (by omega)]
  simp [passP, trB]
/-- Digits so far: what is left, what is written. -/
def DI (n X : Nat) (l : Bs) : Prop := (l = [] ∧ X = n) ∨ (l ≠ [] ∧ ((0 < X ∧ Lib.decDigits n = Lib.decDigits X ++ l) ∨ (X = 0 ∧ Lib.decDigits n = l)))
theorem DI.next {n X : Nat} {l : Bs} (h : DI n X l) (hx : 0 < X ∨ l = []) : DI n (X / 10) (UInt8.ofNat (48 + X % 10) :: l) := by
  right
  refine ⟨by simp, ?_⟩
  have hd : Lib.decDigits n = Lib.decDigits X ++ l := by
    rcases h with ⟨rfl, rfl⟩ | ⟨hl, ⟨_, e⟩ | ⟨h0, e⟩⟩
    · simp
    · exact e
    · rcases hx with h1 | h1
      · omega
      · exact absurd h1 hl
  by_cases h10 : X < 10
  · right
    refine ⟨by omega, ?_⟩
    rw [hd, dec_small h10, show X % 10 = X from by omega]
    rfl
  · left
    refine ⟨by omega, ?_⟩
    rw [hd, dec_big h10]
    simp
theorem DI.done {n X : Nat} {l : Bs} (h : DI n X l) (h0 : X = 0) (hl : l ≠ []) : Lib.decDigits n = l := by
  rcases h with ⟨h1, _⟩ | ⟨_, ⟨h1, _⟩ | ⟨_, e⟩⟩
  · exact absurd h1 hl
  · omega
  · exact e
theorem DI.len {n X : Nat} {l : Bs} (h : DI n X l) (hn : n < 1000000000) : l.length ≤ 9 := by
  have hd := dec_len n 8 (by omega)
  rcases h with ⟨h1, _⟩ | ⟨_, ⟨_, e⟩ | ⟨_, e⟩⟩
  · rw [h1]; simp
  · rw [e] at hd; simp at hd; omega
  · rw [e] at hd; exact hd
theorem rune_dig (j : Nat) (h : j < 10) : Utf8.encode (48 + (j : Int)) = ⟨[UInt8.ofNat (48 + j)].toArray⟩ := by
  have hh : ∀ j : Fin 10, Utf8.encode (48 + (j.val : Int)) = ⟨[UInt8.ofNat (48 + j.val)].toArray⟩ := by decide
  exact hh ⟨j, h⟩
end Go.Proofs.YtlkccboongnneaaGreatDoor
