/- The contract of lex.Name. -/
import Derived.Test.YtpioelpmdaeieaaGreatDoorCutD
import Derived.Laws.RangeAny
import Derived.Laws.Runes
import Derived.Lib.DecodeN
import Derived.Outline
namespace Go.Proofs.YtpioelpmdaeieaaGreatDoor
open Go.RowKit
set_option linter.unusedVariables false
def stepIt (V : World) (g : Nat) (s : ByteArray) (p : Nat) : World := { V with heap := V.heap.setIfInBounds g (.stringIter s p) }
theorem run_next_at {P : Program} (V : World) (g : Nat) (s : ByteArray) (pos : Nat) (ty : TypeId) (hg : V.heap[g]? = some (.stringIter s pos)) (h : pos < s.size) :
    (Instr.next (.pointer (some ⟨g, 0, none⟩)) true ty).run P V = .ok (.tuple #[.bool true, .int .i64 pos, .int .i32 (Utf8.decode s pos).1]) (stepIt V g s (pos + (Utf8.decode s pos).2)) := by
  simp only [Instr.next, getObj, setObj, Sem.run_bind, Sem.run, hg, Result.andThen, h, if_true]
  simp [goInt, stepIt]
theorem run_next_stop {P : Program} (V : World) (g : Nat) (s : ByteArray) (pos : Nat) (ty : TypeId) (hg : V.heap[g]? = some (.stringIter s pos)) (h : ¬ pos < s.size) :
    (Instr.next (.pointer (some ⟨g, 0, none⟩)) true ty).run P V = .ok (.tuple #[.bool false]) V := by
  simp [Instr.next, getObj, Sem.run, hg, h]
theorem stepIt_at {V : World} {g : Nat} {s : ByteArray} {p q : Nat} (hg : V.heap[g]? = some (.stringIter s p)) : (stepIt V g s q).heap[g]? = some (.stringIter s q) := by
  have hlt : g < V.heap.size := by
    rcases Nat.lt_or_ge g V.heap.size with h | h
    · exact h
    · rw [Array.getElem?_eq_none h] at hg; cases hg
  simp [stepIt, hlt]
theorem stepIt_below {B : Nat} {w V : World} {g : Nat} {s : ByteArray} {q : Nat} (h : Below B w V) (hg : B ≤ g) : Below B w (stepIt V g s q) :=
  ⟨h.os, h.tape, h.output, by simpa [stepIt] using h.size, fun k hk => by
    have := h.block k hk
    simp only [stepIt]
    rw [Array.getElem?_setIfInBounds_ne (by omega)]
    exact this⟩
theorem iter_at (w : World) (s : ByteArray) (p : Nat) : (w.iter s p).heap[w.heap.size]? = some (.stringIter s p) := World.iter_heap w s p
theorem iter_below (w : World) (s : ByteArray) (p : Nat) : Below w.heap.size w (w.iter s p) := (Below.refl _ _).alloc (Nat.le_refl _) _
def nameP (p : LB) : Bool := p.length ≠ 0 && p.length ≤ 32 && (p.all fun c => (97 ≤ c.toNat && c.toNat ≤ 122) || (65 ≤ c.toNat && c.toNat ≤ 90) || c.toNat == 95 || (48 ≤ c.toNat && c.toNat ≤ 57)) && !(48 ≤ (p.getD 0 0).toNat && (p.getD 0 0).toNat ≤ 57)
def okc (c : UInt8) : Bool := (97 ≤ c.toNat && c.toNat ≤ 122) || (65 ≤ c.toNat && c.toNat ≤ 90) || c.toNat == 95 || (48 ≤ c.toNat && c.toNat ≤ 57)
def digc (c : UInt8) : Bool := 48 ≤ c.toNat && c.toNat ≤ 57
def NG (p : LB) (i : Nat) : Prop := i ≤ p.length ∧ ∀ j, j < i → okc (p.getD j 0) = true ∧ (j = 0 → digc (p.getD j 0) = false)
theorem okc_hi (c : UInt8) (h : 128 ≤ c.toNat) : okc c = false := by simp only [okc]; simp; omega
theorem name_eq (p : LB) : nameP p = (p.length ≠ 0 && p.length ≤ 32 && p.all okc && !digc (p.getD 0 0)) := rfl
theorem ng_all {p : LB} (h : NG p p.length) (h0 : p.length ≠ 0) (h32 : p.length ≤ 32) : nameP p = true := by
  rw [name_eq]
  have h1 : p.all okc = true := List.all_eq_true.2 fun c hc => by
    obtain ⟨j, hj, rfl⟩ := List.getElem_of_mem hc
    have := (h.2 j hj).1
    simpa [List.getD_eq_getElem?_getD, hj] using this
  have h2 := (h.2 0 (by omega)).2 rfl
  rw [h1, h2]; simp [h0, h32]
theorem ng_not {p : LB} {i : Nat} (hi : i < p.length) (h : okc (p.getD i 0) = false ∨ (i = 0 ∧ digc (p.getD i 0) = true)) : nameP p = false := by
  rw [name_eq]
  rcases h with h | ⟨rfl, h⟩
  · have : p.all okc = false := by
      rw [List.all_eq_false]
      refine ⟨p[i], List.getElem_mem _, ?_⟩
      have hg : p.getD i 0 = p[i] := by simp [List.getD_eq_getElem?_getD, hi]
      rw [← hg, h]; decide
    rw [this]; simp
  · rw [h]; simp
theorem NG.succ {p : LB} {i : Nat} (h : NG p i) (hi : i < p.length) (h1 : okc (p.getD i 0) = true) (h2 : i = 0 → digc (p.getD i 0) = false) : NG p (i + 1) := ⟨by omega, fun j hj => by
  rcases Nat.lt_or_ge j i with hl | hl
  · exact h.2 j hl
  · obtain rfl : j = i := by omega
    exact ⟨h1, h2⟩⟩
set_option maxRecDepth 1000000 in
set_option maxHeartbeats 8000000 in
theorem name_any (p : LB) (w : World) (hl : p.length ≤ 100000) : Calls Tryz.prog 60 #[.string ⟨p.toArray⟩] w fun e w' => e = .returned (.bool (nameP p)) ∧ Below w.heap.size w w' := by
  obtain ⟨R, hR⟩ : ∃ R, nameP p = R := ⟨_, rfl⟩
  have hsz : (⟨p.toArray⟩ : ByteArray).size = p.length := by simp [ByteArray.size]
  rw [hR]
  have HR := hide hR
  clear hR
  by_cases h0 : p.length = 0
  · have HE : Hid (R = false) := hide (by rw [← HR.out, name_eq, h0]; rfl)
    have k1 : (p.length : Int) < 1 := by omega
    clear HR
    go_enter Tryz.func60, Tryz.ntmps60
    go_wp2_with fail
    go_ret
    exact ⟨ret_bool HE.out.symm, Below.refl _ _⟩
  have k1 : ¬ (p.length : Int) < 1 := by omega
  by_cases h32 : 32 < p.length
  · have HE : Hid (R = false) := hide (by rw [← HR.out, name_eq, decide_eq_false (by omega : ¬ p.length ≤ 32)]; simp)
    have k2 : (32 : Int) < (p.length : Int) := by omega
    clear HR
    go_enter Tryz.func60, Tryz.ntmps60
    go_wp2_with fail
    go_ret
    exact ⟨ret_bool HE.out.symm, Below.refl _ _⟩
  have k2 : ¬ (32 : Int) < (p.length : Int) := by omega
  obtain ⟨g0, hg0⟩ : ∃ g0, w.heap.size = g0 := ⟨_, rfl⟩
  have HG0 := hide hg0
  have hi0 := iter_at w ⟨p.toArray⟩ 0
  have hb0 := iter_below w ⟨p.toArray⟩ 0
  rw [hg0] at hi0 hb0 ⊢
  have HI0 := hide hi0
  have HB0 := hide hb0
  clear hi0 hb0
  go_enter Tryz.func60, Tryz.ntmps60
  go_wp2_with fail
  try rw [HG0.out]
  clear hg0
  go_loopg [3, 4, 5, 6] p.length (fun g _ _ _ _ wx => ∃ i : Nat, p.length ≤ i + g ∧ wx.heap[g0]? = some (.stringIter ⟨p.toArray⟩ i) ∧ NG p i ∧ Below g0 w wx)
  case atStart => exact ⟨0, by omega, HI0.out, ⟨Nat.zero_le _, fun j h => absurd h (by omega)⟩, HB0.out⟩
  case round =>
    clear HI0 HB0
    obtain ⟨i, hig, hit, hng, hbe⟩ := hrel
    have HIT := hide hit
    have HNG := hide hng
    have HBE := hide hbe
    have hglt : g0 < wr.heap.size := by
      rcases Nat.lt_or_ge g0 wr.heap.size with h | h
      · exact h
      · rw [Array.getElem?_eq_none h] at hit; cases hit
    clear hit hng hbe
    by_cases hlt : i < p.length
    · obtain ⟨g, rfl⟩ : ∃ g, gk = g + 1 := ⟨gk - 1, by omega⟩
      have hlt' : i < (⟨p.toArray⟩ : ByteArray).size := by rw [hsz]; exact hlt
      have hnx := fun ty => run_next_at (P := Tryz.prog) wr g0 ⟨p.toArray⟩ i ty HIT.out hlt'
      have hsb : (⟨p.toArray⟩ : ByteArray)[i]'hlt' = p.getD i 0 := by
        have hg : p.getD i 0 = p[i] := by simp [List.getD_eq_getElem?_getD, hlt]
        rw [hg]; rfl
      have HN1 := hide (ng_not hlt)
      have HN2 := hide (HNG.out.succ hlt)
      by_cases hlo : (p.getD i 0).toNat < 128
      · have hde := decode_ascii ⟨p.toArray⟩ i hlt' (by rw [hsb]; exact hlo)
        rw [hsb] at hde
        rw [hde] at hnx
        obtain ⟨W1, hW1⟩ : ∃ W1, stepIt wr g0 ⟨p.toArray⟩ (i + 1) = W1 := ⟨_, rfl⟩
        have HWI : Hid (W1.heap[g0]? = some (.stringIter ⟨p.toArray⟩ (i + 1))) := hide (by rw [← hW1]; exact stepIt_at HIT.out)
        have HWB : Hid (Below g0 w W1) := hide (by rw [← hW1]; exact stepIt_below HBE.out (Nat.le_refl _))
        simp only [hW1] at hnx
        clear hW1 hde hsb
        generalize p.getD i 0 = c at *
        have hcc : ((c.toNat : Nat) : Int) = (c.toNat : Int) := rfl
        rcases (show (c.toNat < 48) ∨ (48 ≤ c.toNat ∧ c.toNat ≤ 57) ∨ (57 < c.toNat ∧ c.toNat < 65) ∨ (65 ≤ c.toNat ∧ c.toNat ≤ 90) ∨ (90 < c.toNat ∧ c.toNat < 95) ∨ (c.toNat = 95) ∨ (c.toNat = 96) ∨ (97 ≤ c.toNat ∧ c.toNat ≤ 122) ∨ (122 < c.toNat) by omega) with hc | hc | hc | hc | hc | hc | hc | hc | hc
        · have q1 : ¬ (97 : Int) ≤ (c.toNat : Int) := by omega
          have q2 : (c.toNat : Int) ≤ 122 := by omega
          have q3 : ¬ (65 : Int) ≤ (c.toNat : Int) := by omega
          have q4 : (c.toNat : Int) ≤ 90 := by omega
          have q5 : ((c.toNat : Int) == 95) = false := beq_eq_false_iff_ne.2 (by omega)
          have q6 : ¬ (48 : Int) ≤ (c.toNat : Int) := by omega
          have q7 : (c.toNat : Int) ≤ 57 := by omega
          have HE : Hid (R = false) := hide (HR.out.symm.trans (HN1.out (.inl (by simp only [okc]; simp; omega))))
          clear HR HN1 HN2 hc
          go_wp2_with fail
          go_ret
          exact ⟨ret_bool HE.out.symm, HWB.out⟩
        · have q1 : ¬ (97 : Int) ≤ (c.toNat : Int) := by omega
          have q2 : (c.toNat : Int) ≤ 122 := by omega
          have q3 : ¬ (65 : Int) ≤ (c.toNat : Int) := by omega
          have q4 : (c.toNat : Int) ≤ 90 := by omega
          have q5 : ((c.toNat : Int) == 95) = false := beq_eq_false_iff_ne.2 (by omega)
          have q6 : (48 : Int) ≤ (c.toNat : Int) := by omega
          have q7 : (c.toNat : Int) ≤ 57 := by omega
          by_cases hi0 : i = 0
          · have HE : Hid (R = false) := hide (HR.out.symm.trans (HN1.out (.inr ⟨hi0, by simp only [digc]; simp; omega⟩)))
            have q8 : ((i : Int) == 0) = true := beq_iff_eq.2 (by omega)
            clear HR HN1 HN2 hc hi0
            go_wp2_with fail
            go_ret
            exact ⟨ret_bool HE.out.symm, HWB.out⟩
          · have HNN : Hid (NG p (i + 1)) := hide (HN2.out (by simp only [okc]; simp; omega) (fun h => absurd h hi0))
            have q8 : ((i : Int) == 0) = false := beq_eq_false_iff_ne.2 (by omega)
            clear HR HN1 HN2 hc
            go_wp2_with fail
            go_roundg g
            case measure => omega
            case rel => exact ⟨i + 1, by omega, HWI.out, HNN.out, HWB.out⟩
        · have q1 : ¬ (97 : Int) ≤ (c.toNat : Int) := by omega
          have q2 : (c.toNat : Int) ≤ 122 := by omega
          have q3 : ¬ (65 : Int) ≤ (c.toNat : Int) := by omega
          have q4 : (c.toNat : Int) ≤ 90 := by omega
          have q5 : ((c.toNat : Int) == 95) = false := beq_eq_false_iff_ne.2 (by omega)
          have q6 : (48 : Int) ≤ (c.toNat : Int) := by omega
          have q7 : ¬ (c.toNat : Int) ≤ 57 := by omega
          have HE : Hid (R = false) := hide (HR.out.symm.trans (HN1.out (.inl (by simp only [okc]; simp; omega))))
          clear HR HN1 HN2 hc
          go_wp2_with fail
          go_ret
          exact ⟨ret_bool HE.out.symm, HWB.out⟩
        · have q1 : ¬ (97 : Int) ≤ (c.toNat : Int) := by omega
          have q2 : (c.toNat : Int) ≤ 122 := by omega
          have q3 : (65 : Int) ≤ (c.toNat : Int) := by omega
          have q4 : (c.toNat : Int) ≤ 90 := by omega
          have q5 : ((c.toNat : Int) == 95) = false := beq_eq_false_iff_ne.2 (by omega)
          have q6 : (48 : Int) ≤ (c.toNat : Int) := by omega
          have q7 : ¬ (c.toNat : Int) ≤ 57 := by omega
          have HNN : Hid (NG p (i + 1)) := hide (HN2.out (by simp only [okc]; simp; omega) (fun _ => by simp only [digc]; simp; omega))
          clear HR HN1 HN2 hc
          go_wp2_with fail
          go_roundg g
          case measure => omega
          case rel => exact ⟨i + 1, by omega, HWI.out, HNN.out, HWB.out⟩
        · have q1 : ¬ (97 : Int) ≤ (c.toNat : Int) := by omega
          have q2 : (c.toNat : Int) ≤ 122 := by omega
          have q3 : (65 : Int) ≤ (c.toNat : Int) := by omega
          have q4 : ¬ (c.toNat : Int) ≤ 90 := by omega
          have q5 : ((c.toNat : Int) == 95) = false := beq_eq_false_iff_ne.2 (by omega)
          have q6 : (48 : Int) ≤ (c.toNat : Int) := by omega
          have q7 : ¬ (c.toNat : Int) ≤ 57 := by omega
          have HE : Hid (R = false) := hide (HR.out.symm.trans (HN1.out (.inl (by simp only [okc]; simp; omega))))
          clear HR HN1 HN2 hc
          go_wp2_with fail
          go_ret
          exact ⟨ret_bool HE.out.symm, HWB.out⟩
        · have q1 : ¬ (97 : Int) ≤ (c.toNat : Int) := by omega
          have q2 : (c.toNat : Int) ≤ 122 := by omega
          have q3 : (65 : Int) ≤ (c.toNat : Int) := by omega
          have q4 : ¬ (c.toNat : Int) ≤ 90 := by omega
          have q5 : ((c.toNat : Int) == 95) = true := beq_iff_eq.2 (by omega)
          have q6 : (48 : Int) ≤ (c.toNat : Int) := by omega
          have q7 : ¬ (c.toNat : Int) ≤ 57 := by omega
          have HNN : Hid (NG p (i + 1)) := hide (HN2.out (by simp only [okc]; simp; omega) (fun _ => by simp only [digc]; simp; omega))
          clear HR HN1 HN2 hc
          go_wp2_with fail
          go_roundg g
          case measure => omega
          case rel => exact ⟨i + 1, by omega, HWI.out, HNN.out, HWB.out⟩
        · have q1 : ¬ (97 : Int) ≤ (c.toNat : Int) := by omega
          have q2 : (c.toNat : Int) ≤ 122 := by omega
          have q3 : (65 : Int) ≤ (c.toNat : Int) := by omega
          have q4 : ¬ (c.toNat : Int) ≤ 90 := by omega
          have q5 : ((c.toNat : Int) == 95) = false := beq_eq_false_iff_ne.2 (by omega)
          have q6 : (48 : Int) ≤ (c.toNat : Int) := by omega
          have q7 : ¬ (c.toNat : Int) ≤ 57 := by omega
          have HE : Hid (R = false) := hide (HR.out.symm.trans (HN1.out (.inl (by simp only [okc]; simp; omega))))
          clear HR HN1 HN2 hc
          go_wp2_with fail
          go_ret
          exact ⟨ret_bool HE.out.symm, HWB.out⟩
        · have q1 : (97 : Int) ≤ (c.toNat : Int) := by omega
          have q2 : (c.toNat : Int) ≤ 122 := by omega
          have q3 : (65 : Int) ≤ (c.toNat : Int) := by omega
          have q4 : ¬ (c.toNat : Int) ≤ 90 := by omega
          have q5 : ((c.toNat : Int) == 95) = false := beq_eq_false_iff_ne.2 (by omega)
          have q6 : (48 : Int) ≤ (c.toNat : Int) := by omega
          have q7 : ¬ (c.toNat : Int) ≤ 57 := by omega
          have HNN : Hid (NG p (i + 1)) := hide (HN2.out (by simp only [okc]; simp; omega) (fun _ => by simp only [digc]; simp; omega))
          clear HR HN1 HN2 hc
          go_wp2_with fail
          go_roundg g
          case measure => omega
          case rel => exact ⟨i + 1, by omega, HWI.out, HNN.out, HWB.out⟩
        · have q1 : (97 : Int) ≤ (c.toNat : Int) := by omega
          have q2 : ¬ (c.toNat : Int) ≤ 122 := by omega
          have q3 : (65 : Int) ≤ (c.toNat : Int) := by omega
          have q4 : ¬ (c.toNat : Int) ≤ 90 := by omega
          have q5 : ((c.toNat : Int) == 95) = false := beq_eq_false_iff_ne.2 (by omega)
          have q6 : (48 : Int) ≤ (c.toNat : Int) := by omega
          have q7 : ¬ (c.toNat : Int) ≤ 57 := by omega
          have HE : Hid (R = false) := hide (HR.out.symm.trans (HN1.out (.inl (by simp only [okc]; simp; omega))))
          clear HR HN1 HN2 hc
          go_wp2_with fail
          go_ret
          exact ⟨ret_bool HE.out.symm, HWB.out⟩

      · obtain ⟨dr, hdr⟩ : ∃ dr, (Utf8.decode ⟨p.toArray⟩ i).1 = dr := ⟨_, rfl⟩
        obtain ⟨dz, hdz⟩ : ∃ dz, (Utf8.decode ⟨p.toArray⟩ i).2 = dz := ⟨_, rfl⟩
        have h128 := (decode_high ⟨p.toArray⟩ i hlt' (by rw [hsb]; omega)).1
        rw [hdr] at h128 hnx
        rw [hdz] at hnx
        obtain ⟨W1, hW1⟩ : ∃ W1, stepIt wr g0 ⟨p.toArray⟩ (i + dz) = W1 := ⟨_, rfl⟩
        have HWB : Hid (Below g0 w W1) := hide (by rw [← hW1]; exact stepIt_below HBE.out (Nat.le_refl _))
        simp only [hW1] at hnx
        have HE : Hid (R = false) := hide (HR.out.symm.trans (HN1.out (.inl (okc_hi _ (by omega)))))
        have q1 : (97 : Int) ≤ (dr : Int) := by omega
        have q2 : ¬ (dr : Int) ≤ 122 := by omega
        have q3 : (65 : Int) ≤ (dr : Int) := by omega
        have q4 : ¬ (dr : Int) ≤ 90 := by omega
        have q5 : ((dr : Int) == 95) = false := beq_eq_false_iff_ne.2 (by omega)
        have q6 : (48 : Int) ≤ (dr : Int) := by omega
        have q7 : ¬ (dr : Int) ≤ 57 := by omega
        clear hW1 hsb hdr hdz h128 HR
        go_wp2_with fail
        go_ret
        exact ⟨ret_bool HE.out.symm, HWB.out⟩
    · have hlt' : ¬ i < (⟨p.toArray⟩ : ByteArray).size := by rw [hsz]; exact hlt
      have hnx := fun ty => run_next_stop (P := Tryz.prog) wr g0 ⟨p.toArray⟩ i ty HIT.out hlt'
      have HE : Hid (R = true) := hide (by
        have := HNG.out.1
        obtain rfl : i = p.length := by omega
        exact HR.out.symm.trans (ng_all HNG.out h0 (by omega)))
      clear HR
      go_wp2_with fail
      go_ret
      exact ⟨ret_bool HE.out.symm, HBE.out⟩
end Go.Proofs.YtpioelpmdaeieaaGreatDoor
