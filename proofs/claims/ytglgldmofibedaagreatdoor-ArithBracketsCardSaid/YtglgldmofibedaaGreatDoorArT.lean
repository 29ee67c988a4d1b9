/- heads. -/
import Derived.Test.YtglgldmofibedaaGreatDoorArO
namespace Go.Proofs.YtglgldmofibedaaGreatDoor
open Go.RowKit
set_option linter.unusedVariables false
theorem ev1 : evalP [49, 43, 50, 42, 51] [] = (7, 0) := by kernel_rfl
theorem ev2 : evalP [49, 60, 60, 54, 53] [] = (2, 0) := by kernel_rfl
theorem ev4 : evalP [55, 47, 48] [] = (0, 32) := by kernel_rfl
theorem ev5 : evalP [55, 32, 43] [] = (0, 50) := by kernel_rfl
theorem ev6 : evalP [45, 40, 48, 120, 49, 48, 32, 45, 32, 51, 41, 32, 37, 32, 52] [] = (-1, 0) := by kernel_rfl
theorem parseV_itoa (v : Int) (h : i64R v) : parseV (Lib.itoa v) = v := by
  unfold parseV
  rw [atoi_itoa v h]
  simp
theorem parseV_0 : parseV [48] = 0 := by
  have h := parseV_itoa 0 (by unfold i64R; omega)
  have e : Lib.itoa 0 = [48] := by
    rcases itoa_shape 0 with ⟨h, _⟩ | ⟨_, h⟩
    · omega
    · rw [h, dec_small (by decide)]; decide
  rwa [e] at h
theorem parseV_m7 : parseV [45, 55] = -7 := by
  have h := parseV_itoa (-7) (by unfold i64R; omega)
  have e : Lib.itoa (-7) = [45, 55] := by
    rcases itoa_shape (-7) with ⟨_, h⟩ | ⟨h, _⟩
    · rw [h, dec_small (by decide)]; decide
    · omega
  rwa [e] at h
theorem ev3v (vars : List Tok) : evalP [120, 63, 50, 58, 121] vars = (if valueP [120] vars = 0 then valueP [121] vars else 2, 0) := by kernel_rfl
theorem ev3 : evalP [120, 63, 50, 58, 121] [[120, 61, 48], [121, 61, 45, 55]] = (-7, 0) := by
  rw [ev3v]
  have h1 : valueP [120] [[120, 61, 48], [121, 61, 45, 55]] = parseV [48] := by kernel_rfl
  have h2 : valueP [121] [[120, 61, 48], [121, 61, 45, 55]] = parseV [45, 55] := by kernel_rfl
  rw [h1, h2, parseV_0, parseV_m7, if_pos rfl]
theorem tk1 : toksP [97, 60, 61, 49] = some [[97], [60, 61], [49]] := by kernel_rfl
theorem un1 : unaryP [126] 0 = (-1, true) := by kernel_rfl
theorem ap1 : applyP [62, 62] (-8) 1 = (-4, 0) := by kernel_rfl
end Go.Proofs.YtglgldmofibedaaGreatDoor
