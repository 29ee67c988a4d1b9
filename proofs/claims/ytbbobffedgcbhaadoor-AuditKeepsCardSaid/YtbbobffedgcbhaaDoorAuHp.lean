/- What the law's heads need of logs as plain data. -/
import Derived.Test.YtbbobffedgcbhaaDoorAuWf
import Derived.Test.YtbbobffedgcbhaaDoorAuR
namespace Go.Proofs.YtbbobffedgcbhaaDoor
set_option linter.unusedVariables false
def rA : Rec := ⟨0, 12, [47, 97], [], [], false⟩
def rB : Rec := ⟨1, 12, [47, 98], [], [], false⟩
theorem encA : (encP rA).length = 12 := by kernel_rfl
theorem encB : (encP rB).length = 12 := by kernel_rfl
theorem okA : okP 0 [rA] := ⟨by kernel_rfl, rfl, trivial⟩
theorem scan_nil : scanB [] = ([], zero32, 0) := scanB_all [] trivial
theorem heads_logs : ∃ EB D0 : LB, entP zero32 rA = EB ∧ digP zero32 (encP rA) = D0 ∧ EB.length = 46 ∧ D0.length = 32 ∧ scanB EB = ([rA], D0, 46) ∧
    opP [] 70 (-1) = ⟨[], [], 70, false, -1, 0, zero32, false⟩ ∧ okL ⟨[], [], 70, false, -1, 0, zero32, false⟩ = true ∧
    okL ⟨EB, [], 70, false, -1, 1, D0, false⟩ = true ∧ okL ⟨EB, [], 70, false, -1, 1, D0, true⟩ = true ∧
    (entP D0 rB).length = 46 ∧ opP EB 70 (-1) = ⟨EB, [], 70, false, -1, 1, D0, false⟩ := by
  have h1 := scanB_all [rA] okA
  have c1 : lenP [rA] = 46 := by kernel_rfl
  have e : allP zero32 [rA] = entP zero32 rA := by rw [allP, allP, List.append_nil]
  have e2 : lastP zero32 [rA] = digP zero32 (encP rA) := by rw [lastP, lastP]
  rw [c1, e, e2] at h1
  have hl : (entP zero32 rA).length = 46 := by rw [ent_length, encA]
  have hd : (digP zero32 (encP rA)).length = 32 := digP_length _ _
  obtain ⟨EB, hEB⟩ : ∃ x, entP zero32 rA = x := ⟨_, rfl⟩
  obtain ⟨D0, hD0⟩ : ∃ x, digP zero32 (encP rA) = x := ⟨_, rfl⟩
  rw [hEB] at h1 hl
  rw [hD0] at h1 hd
  refine ⟨EB, D0, hEB, hD0, hl, hd, h1, ?_, ?_, ?_, ?_, by rw [ent_length, encB], ?_⟩
  · unfold opP; rw [scan_nil]; rfl
  · refine okL_join (by decide) ?_ ?_ ?_
    · dsimp only; rw [scan_nil]; rfl
    · dsimp only; rw [scan_nil]
    · right; dsimp only; rw [scan_nil]; exact ⟨rfl, rfl, rfl⟩
  · refine okL_join ?_ ?_ ?_ ?_
    · dsimp only; rw [hl]; decide
    · dsimp only; rw [h1]; rfl
    · dsimp only; rw [h1]
    · right; dsimp only; rw [h1, hl]; exact ⟨rfl, rfl, rfl⟩
  · refine okL_join ?_ ?_ ?_ ?_
    · dsimp only; rw [hl]; decide
    · dsimp only; rw [h1]; rfl
    · dsimp only; rw [h1]
    · left; rfl
  · unfold opP
    rw [h1]
    dsimp only
    rw [List.take_of_length_le (by omega)]
    rfl
end Go.Proofs.YtbbobffedgcbhaaDoor
