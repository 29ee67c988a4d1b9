/- The reference's contracts: has, rooted, Name, Parts. -/
import Derived.Test.YtfggoleghpicfaaDoorLawI
namespace Go.Proofs.YtfggoleghpicfaaDoor
open Go.RowKit
set_option linter.unusedVariables false
theorem ix_l (l : Bs) (i : Nat) (c : UInt8) (h : l[i]? = some c) (W : World) : (Instr.index 9 (.string ⟨l.toArray⟩) (.int .i64 (i : Int))).run Tryd.prog W = .ok (.int .u8 (c.toNat : Int)) W := by
  obtain ⟨h1, h2⟩ := List.getElem?_eq_some_iff.1 h
  rw [run_index_string (P := Tryd.prog) W 9 _ .i64 (i : Int) Tryd.underlying9, dif_pos ⟨by omega, by show (i : Int) < ((l.length : Nat) : Int); omega⟩]
  simp only [Int.toNat_natCast]
  rw [← h2]
  rfl
theorem u8_eq (x c : UInt8) : ((x.toNat : Int) == (c.toNat : Int)) = (x == c) := by
  rw [Bool.eq_iff_iff, beq_iff_eq, beq_iff_eq]
  exact ⟨fun h => UInt8.toNat_inj.1 (by omega), fun h => by rw [h]⟩
def hasL (l : Bs) (c : UInt8) : Bool := l.contains c
set_option maxHeartbeats 1000000 in
theorem rhas_any (l : Bs) (c : UInt8) (w : World) (hl : l.length ≤ 1000000) : Calls Tryd.prog 30 #[.string ⟨l.toArray⟩, .int .u8 (c.toNat : Int)] w fun e w' => e = .returned (.bool (hasL l c)) ∧ w = w' := by
  go_enter Tryd.func30, Tryd.ntmps30
  go_wp2_with fail
  go_loop [5] (fun u5 => ∃ i : Nat, i ≤ l.length ∧ u5 = .int .i64 i ∧ ∀ (j : Nat) x, j < i → l[j]? = some x → x ≠ c) (fun u5 => l.length - (intOf u5).toNat)
  case atStart => exact ⟨0, Nat.zero_le _, rfl, fun j b h => absurd h (by omega)⟩
  case round =>
    obtain ⟨i, hi, rfl, hcl⟩ := hrel
    have HCL := hide hcl
    clear hcl
    by_cases hlt : i < l.length
    · obtain ⟨x, hx⟩ : ∃ x, l[i]? = some x := ⟨_, List.getElem?_eq_getElem hlt⟩
      have hix := ix_l l i x hx
      have HX := hide hx
      by_cases hxc : x = c
      · have hz : ((x.toNat : Int) == (c.toNat : Int)) = true := by rw [u8_eq, hxc]; simp
        have HR : Hid (hasL l c = true) := hide (by unfold hasL; rw [List.contains_iff_mem, ← hxc]; exact List.mem_of_getElem? hx)
        clear hx hxc
        go_wp2_with fail
        go_ret
        exact ⟨ret_bool HR.out.symm, rfl⟩
      · have hz : ((x.toNat : Int) == (c.toNat : Int)) = false := by rw [u8_eq]; exact beq_eq_false_iff_ne.2 hxc
        have HXC := hide hxc
        clear hx hxc
        go_wp2_with fail
        go_round
        case rel =>
          refine ⟨i + 1, by omega, by go_num, fun j y h1 hy => ?_⟩
          rcases Nat.lt_or_ge j i with h2 | h2
          · exact HCL.out j y h2 hy
          · obtain rfl : j = i := by omega
            have h3 := HX.out
            rw [hy] at h3
            injection h3 with h3
            subst h3
            exact HXC.out
        case measure => simp [intOf]; omega
    · obtain rfl : i = l.length := by omega
      have HR : Hid (hasL l c = false) := hide (by
        unfold hasL
        rw [Bool.eq_false_iff]
        intro h
        rw [List.contains_iff_mem] at h
        obtain ⟨j, hj⟩ := List.getElem?_of_mem h
        obtain ⟨hjl, _⟩ := List.getElem?_eq_some_iff.1 hj
        exact HCL.out j c hjl hj rfl)
      go_wp2_with fail
      go_ret
      exact ⟨ret_bool HR.out.symm, rfl⟩
theorem rrooted_any (l : Bs) (w : World) : Calls Tryd.prog 26 #[.string ⟨l.toArray⟩] w fun e w' => e = .returned (.bool (rooted l)) ∧ w = w' := by
  cases l with
  | nil =>
    go_enter Tryd.func26, Tryd.ntmps26
    go_wp2
    go_ret
    exact ⟨rfl, rfl⟩
  | cons x t =>
    go_enter Tryd.func26, Tryd.ntmps26
    go_wp2_with fail
    go_ret
    exact ⟨ret_bool (by rw [rooted_cons]; exact toNat47 x), rfl⟩
/-- What a name is told to be. -/
def nameC (l : Bs) : Int := if l = [] ∨ l = [46] ∨ l = [46, 46] ∨ hasL l 47 = true ∨ hasL l 0 = true then 32 else if 32 < l.length then 31 else 0
set_option maxHeartbeats 1000000 in
theorem rname_any (l : Bs) (w : World) (hl : l.length ≤ 1000000) : Calls Tryd.prog 13 #[.string ⟨l.toArray⟩] w fun e w' => e = .returned (.int .i64 (nameC l)) ∧ w = w' := by
  have H1 := hide (fun V => rhas_any l 47 V hl)
  have H0 := hide (fun V => rhas_any l 0 V hl)
  by_cases e0 : l = []
  · subst e0
    go_enter Tryd.func13, Tryd.ntmps13
    go_wp2
    go_ret
    exact ⟨rfl, rfl⟩
  by_cases e1 : l = [46]
  · subst e1
    go_enter Tryd.func13, Tryd.ntmps13
    go_wp2
    go_ret
    exact ⟨rfl, rfl⟩
  by_cases e2 : l = [46, 46]
  · subst e2
    go_enter Tryd.func13, Tryd.ntmps13
    go_wp2
    go_ret
    exact ⟨rfl, rfl⟩
  have t0 : l.isEmpty = false := by cases l with
    | nil => exact absurd rfl e0
    | cons x t => rfl
  have t1 : (l == [46]) = false := beq_eq_false_iff_ne.2 e1
  have t2 : (l == [46, 46]) = false := beq_eq_false_iff_ne.2 e2
  have HE : Hid (nameC l = if hasL l 47 = true ∨ hasL l 0 = true then 32 else if 32 < l.length then 31 else 0) := hide (by unfold nameC; simp only [e0, e1, e2, false_or])
  clear e0 e1 e2
  obtain ⟨b1, hb1⟩ : ∃ b, hasL l 47 = b := ⟨_, rfl⟩
  obtain ⟨b0, hb0⟩ : ∃ b, hasL l 0 = b := ⟨_, rfl⟩
  rw [hb1] at H1 HE
  rw [hb0] at H0 HE
  clear hb1 hb0
  go_enter Tryd.func13, Tryd.ntmps13
  go_wp2_with fail
  refine (H1.out _).mono ?_
  rintro e w1 ⟨rfl, rfl⟩
  cases b1 with
  | true =>
    go_wp2_with fail
    go_ret
    exact ⟨ret_int (by rw [HE.out]; simp), rfl⟩
  | false =>
    go_wp2_with fail
    refine (H0.out _).mono ?_
    rintro e w1 ⟨rfl, rfl⟩
    cases b0 with
    | true =>
      go_wp2_with fail
      go_ret
      exact ⟨ret_int (by rw [HE.out]; simp), rfl⟩
    | false =>
      by_cases h32 : 32 < l.length
      · have h32' : (32 : Int) < (l.length : Int) := by omega
        go_wp2_with fail
        go_ret
        exact ⟨ret_int (by rw [HE.out]; simp [h32]), rfl⟩
      · have h32' : ¬ (32 : Int) < (l.length : Int) := by omega
        go_wp2_with fail
        go_ret
        exact ⟨ret_int (by rw [HE.out]; simp [h32]), rfl⟩
/-- The parts of what has been read: those that are whole, and the one that has begun. -/
def PartsSt (l : Bs) (done : List Bs) (now : Bs) : Prop := ∃ a, l = a ++ now ∧ (47 : UInt8) ∉ now ∧ ((a = [] ∧ done = []) ∨ ∃ b, a = b ++ [47] ∧ parts b = done)
def fin (done : List Bs) (now : Bs) : List Bs := if now = [] then done else done ++ [now]
theorem PartsSt.nil : PartsSt [] [] [] := ⟨[], rfl, by simp, .inl ⟨rfl, rfl⟩⟩
theorem PartsSt.parts {l : Bs} {done : List Bs} {now : Bs} (h : PartsSt l done now) : parts l = fin done now := by
  obtain ⟨a, rfl, hn, h⟩ := h
  have hp : YtfggoleghpicfaaDoor.parts now = fin [] now := by
    unfold fin
    split
    · rename_i e; subst e; rfl
    · rename_i e; rw [parts_one now ⟨e, hn⟩]; rfl
  rcases h with ⟨rfl, rfl⟩ | ⟨b, rfl, hb⟩
  · rw [List.nil_append]; exact hp
  · rw [List.append_assoc, List.singleton_append, parts_app, hp, hb]
    unfold fin; split <;> simp
theorem PartsSt.byte {l : Bs} {done : List Bs} {now : Bs} (h : PartsSt l done now) {c : UInt8} (hc : c ≠ 47) : PartsSt (l ++ [c]) done (now ++ [c]) := by
  obtain ⟨a, rfl, hn, h⟩ := h
  exact ⟨a, by simp, by simp [hn, Ne.symm hc], h⟩
theorem PartsSt.slash {l : Bs} {done : List Bs} {now : Bs} (h : PartsSt l done now) : PartsSt (l ++ [47]) (fin done now) [] :=
  ⟨l ++ [47], by simp, by simp, .inr ⟨l, rfl, h.parts⟩⟩
end Go.Proofs.YtfggoleghpicfaaDoor
