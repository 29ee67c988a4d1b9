/- Contracts of strings.HasPrefix, CutPrefix, TrimLeft, and of arith.run, token. -/
import Derived.Test.YtglgldmofibedaaGreatDoorArB
import Derived.Test.YtglgldmofibedaaGreatDoorShelf
import Derived.Test.YtglgldmofibedaaGreatDoorArS
namespace Go.Proofs.YtglgldmofibedaaGreatDoor
open Go.RowKit
set_option linter.unusedVariables false
theorem ext_two (l : Tok) (i j : Nat) : (⟨l.toArray⟩ : ByteArray).extract i j = ⟨((l.drop i).take (j - i)).toArray⟩ := by
  apply ByteArray.ext
  apply Array.toList_inj.1
  simp
theorem ext_from (l : Tok) (i : Nat) : (⟨l.toArray⟩ : ByteArray).extract i l.length = ⟨(l.drop i).toArray⟩ := by
  rw [ext_two, List.take_of_length_le (by simp)]
theorem sl_from (p : Tok) (i : Nat) (k : Int) (hk : k = (i : Int)) (hi : i ≤ p.length) : ∀ W, (Instr.slice 9 (.string ⟨p.toArray⟩) (some (.int .i64 k)) none none).run Tryz.prog W = .ok (.string ⟨(p.drop i).toArray⟩) W := fun W => by
  subst hk
  rw [run_slice_string_from_if W 9 ⟨p.toArray⟩ .i64 (i : Int) Tryz.underlying9, if_pos ⟨by omega, by show (i : Int) ≤ ((p.length : Nat) : Int); omega⟩]
  show Result.ok (Value.string ((⟨p.toArray⟩ : ByteArray).extract i p.length)) W = _
  rw [ext_from]
theorem sl_to (p : Tok) (i : Nat) (hi : i ≤ p.length) : ∀ W, (Instr.slice 9 (.string ⟨p.toArray⟩) none (some (.int .i64 (i : Int))) none).run Tryz.prog W = .ok (.string ⟨(p.take i).toArray⟩) W := fun W => by
  rw [run_slice_string_to_if W 9 ⟨p.toArray⟩ .i64 (i : Int) Tryz.underlying9, if_pos ⟨by omega, by show (i : Int) ≤ ((p.length : Nat) : Int); omega⟩]
  show Result.ok (Value.string ((⟨p.toArray⟩ : ByteArray).extract 0 i)) W = _
  rw [ext_two]; rfl
theorem ix_l (l : Tok) (k : Nat) (x : UInt8) (h : l[k]? = some x) : ∀ W, (Instr.index 9 (.string ⟨l.toArray⟩) (.int .i64 (k : Int))).run Tryz.prog W = .ok (.int .u8 (x.toNat : Int)) W := fun W => by
  obtain ⟨h1, h2⟩ := List.getElem?_eq_some_iff.1 h
  rw [run_index_string (P := Tryz.prog) W 9 _ .i64 (k : Int) Tryz.underlying9, dif_pos ⟨by omega, by show (k : Int) < ((l.length : Nat) : Int); omega⟩]
  simp only [Int.toNat_natCast]
  rw [← h2]
  rfl
theorem starts_pre : ∀ (s o : Tok), Lib.hasPrefix s o = startsP s o
  | s, [] => by cases s <;> rfl
  | [], d :: o => rfl
  | c :: r, d :: o => by
    rw [startsP, ← starts_pre r o]
    show (d == c && _) = _
    rw [show (d == c) = (c == d) from by rw [Bool.eq_iff_iff, beq_iff_eq, beq_iff_eq]; exact eq_comm]
    rfl
theorem pre_l (l p : Tok) (w : World) : Calls Tryz.prog 31 #[.string ⟨l.toArray⟩, .string ⟨p.toArray⟩] w fun e w' => e = .returned (.bool (startsP l p)) ∧ w = w' := by
  refine (Any.strings_HasPrefix Tryz.lays99 ⟨l.toArray⟩ ⟨p.toArray⟩ w).mono ?_
  rintro e w' ⟨rfl, rfl⟩
  exact ⟨by rw [← starts_pre], rfl⟩
theorem spre_l (l p : Tok) (w : World) : Calls Tryz.prog 49 #[.string ⟨l.toArray⟩, .string ⟨p.toArray⟩] w fun e w' => e = .returned (.bool (startsP l p)) ∧ w = w' := by
  refine (Any.stringslite_HasPrefix Tryz.lays206 ⟨l.toArray⟩ ⟨p.toArray⟩ w).mono ?_
  rintro e w' ⟨rfl, rfl⟩
  exact ⟨by rw [← starts_pre], rfl⟩
/-- What CutPrefix gives. -/
def cutP (s p : Tok) : Tok × Bool := if startsP s p then (s.drop p.length, true) else (s, false)
set_option maxHeartbeats 1000000 in
theorem scut_any (s p : Tok) (w : World) (hs : s.length ≤ 1000000) :
    Calls Tryz.prog 67 #[.string ⟨s.toArray⟩, .string ⟨p.toArray⟩] w fun e w' => e = .returned (.tuple #[.string ⟨(cutP s p).1.toArray⟩, .bool (cutP s p).2]) ∧ w = w' := by
  have X := hide (spre_l s p)
  have HB : Hid (cutP s p = if startsP s p then (s.drop p.length, true) else (s, false)) := hide rfl
  have hle := starts_le s p
  generalize startsP s p = b at *
  cases b
  · clear hle
    go_enter Tryz.func67, Tryz.ntmps67
    go_wp2_with fail
    refine (X.out _).mono ?_
    rintro e w1 ⟨rfl, rfl⟩
    clear X
    go_wp2_with fail
    go_ret2
    exact ⟨by rw [HB.out]; rfl, rfl⟩
  · have hle2 := hle rfl
    have hsl := sl_from s p.length p.length rfl hle2
    clear hle
    go_enter Tryz.func67, Tryz.ntmps67
    go_wp2_with fail
    refine (X.out _).mono ?_
    rintro e w1 ⟨rfl, rfl⟩
    clear X
    go_wp2_with fail
    go_ret2
    exact ⟨by rw [HB.out]; rfl, rfl⟩
set_option maxHeartbeats 1000000 in
theorem cut_any (s p : Tok) (w : World) (hs : s.length ≤ 1000000) :
    Calls Tryz.prog 64 #[.string ⟨s.toArray⟩, .string ⟨p.toArray⟩] w fun e w' => e = .returned (.tuple #[.string ⟨(cutP s p).1.toArray⟩, .bool (cutP s p).2]) ∧ w = w' := by
  have X := hide (scut_any s p w hs)
  generalize cutP s p = q at *
  go_enter Tryz.func64, Tryz.ntmps64
  go_wp2_with fail
  refine X.out.mono ?_
  rintro e w1 ⟨rfl, rfl⟩
  clear X
  go_wp2_with fail
  go_ret2
  exact ⟨rfl, rfl⟩
theorem trim_is : ∀ s : Tok, Lib.trimLeftS s [32, 9, 10] = trimP s
  | [] => rfl
  | c :: r => by
    rw [trimP, ← trim_is r]
    show List.dropWhile _ (c :: r) = _
    rw [List.dropWhile_cons]
    have h : isB c = ([32, 9, 10] : List UInt8).contains c := by
      unfold isB
      rw [List.contains_cons, List.contains_cons, List.contains_cons, List.contains_nil, Bool.or_false, Bool.or_assoc]
    rw [h]
    rfl
theorem trimL_any (s : Tok) (w : World) :
    Calls Tryz.prog 22 #[.string ⟨s.toArray⟩, .string ⟨#[32, 9, 10]⟩] w fun e w' => e = .returned (.string ⟨(trimP s).toArray⟩) ∧ Below w.heap.size w w' := by
  refine (Any.strings_TrimLeft_laid Tryz.lays161 (by kernel_rfl) ⟨s.toArray⟩ ⟨#[32, 9, 10]⟩ w (by decide) (ascii_of_all (by decide))).mono ?_
  rintro e w' ⟨rfl, hb⟩
  exact ⟨by rw [← trim_is], hb⟩
set_option maxHeartbeats 1000000 in
theorem run_any {g : Nat} {k : UInt8 → Bool} (K : Kind g k) (s : Tok) (w : World) (hs : s.length ≤ 1000000) :
    Calls Tryz.prog 33 #[.string ⟨s.toArray⟩, .func (.func g) #[] #[]] w fun e w' => e = .returned (.int .i64 (runP k s)) ∧ w = w' := by
  have hE := K.enters
  have HK := hide K.tells
  have H0 : Hid (runP k s = runP k (s.drop 0)) := hide (by simp)
  clear K
  go_enter Tryz.func33, Tryz.ntmps33
  go_wp2_with fail
  go_loopw [5] (fun u5 wx => ∃ n : Nat, n ≤ s.length ∧ u5 = .int .i64 (n : Int) ∧ Hid (runP k s = n + runP k (s.drop n)) ∧ wx = w) (fun u5 _ => s.length - (intOf u5).toNat)
  case atStart => exact ⟨0, Nat.zero_le _, rfl, hide (by rw [Nat.zero_add]; exact H0.out), rfl⟩
  case round =>
    clear H0
    obtain ⟨n, hn, rfl, HR, rfl⟩ := hrel
    by_cases hlt : n < s.length
    · obtain ⟨c, hc⟩ : ∃ c, s[n]? = some c := ⟨_, List.getElem?_eq_getElem hlt⟩
      have hix := ix_l s n c hc
      have hdr : s.drop n = c :: s.drop (n + 1) := by
        obtain ⟨h1, h2⟩ := List.getElem?_eq_some_iff.1 hc
        rw [List.drop_eq_getElem_cons h1, h2]
      have HR2 : Hid (runP k s = n + if k c then runP k (s.drop (n + 1)) + 1 else 0) := hide (by rw [HR.out, hdr]; rfl)
      clear HR hc hdr
      have hlt' : (n : Int) < (s.length : Int) := by omega
      have HX := hide (HK.out c)
      generalize k c = b at *
      cases b
      · go_wp2_with fail
        refine (HX.out _).mono ?_
        rintro e w1 ⟨rfl, rfl⟩
        go_wp2_with fail
        go_ret
        exact ⟨by rw [HR2.out]; rfl, rfl⟩
      · go_wp2_with fail
        refine (HX.out _).mono ?_
        rintro e w1 ⟨rfl, rfl⟩
        go_wp2_with fail
        go_roundw
        case rel => exact ⟨n + 1, by omega, by go_num, hide (by rw [HR2.out]; simp; omega), trivial⟩
        case measure => simp [intOf]; omega
    · have hlt' : ¬ (n : Int) < (s.length : Int) := by omega
      have HE : Hid (runP k s = n) := hide (by rw [HR.out, List.drop_of_length_le (by omega)]; rfl)
      clear HR
      go_wp2_with fail
      go_ret
      exact ⟨by rw [HE.out]; rfl, rfl⟩
end Go.Proofs.YtglgldmofibedaaGreatDoor
