/-
  DERIVED. GIVEN WITH THE SEED: THE PROGRAM's TIES (one call each: nine closed facts by the kernel) AND EACH ROW's TIE, after the 31st guide's Derived/Test/Toyas{Tie, Card}.lean. No idea stands in it: it is a product of the set-up. Laid BY PROGRAM, IN A SANDBOX (cutbox-door.mjs). By AI agents, Wed Nov 11 2026. No macro, syntax, notation, axiom, sorry.
-/
import Derived.Test.YtbbobffedgcbhaaDoorRows
import Derived.LaidByTextLater
import Derived.SevenTiedAt
import Derived.LaidSub
import Derived.LaidOnce
namespace Go.Proofs.YtbbobffedgcbhaaDoor
open Go
set_option maxRecDepth 100000
theorem seatTie1 : Tryd.prog.laidByTextLater [("errors.errorType", Rows.laid_errors_errorType), ("turnkey/sha.first", Rows.laid_turnkey_sha_first), ("turnkey/sha.constants", Rows.laid_turnkey_sha_constants), ("turnkey/audit.errArgument", Rows.laid_turnkey_audit_errArgument), ("turnkey/audit.errMedium", Rows.laid_turnkey_audit_errMedium), ("turnkey/audit.errStopped", Rows.laid_turnkey_audit_errStopped)] [.handle, .data, .data, .sentinel, .sentinel, .sentinel] true :=
  Program.laidByTextLater_by_one 83 8 65 (by kernel_rfl) (by kernel_rfl) (by kernel_rfl) (by kernel_rfl) (by kernel_rfl) (by kernel_rfl) (fun _ _ => by kernel_rfl)
theorem noOwnUnsafe : Tryd.pinned.checked.prog.headLifts.contains "ownunsafe" = false := by kernel_rfl
theorem tie : Tryd.prog.laidByTextLater [("errors.errorType", Rows.laid_errors_errorType), ("turnkey/sha.first", Rows.laid_turnkey_sha_first), ("turnkey/sha.constants", Rows.laid_turnkey_sha_constants), ("turnkey/audit.errArgument", Rows.laid_turnkey_audit_errArgument), ("turnkey/audit.errMedium", Rows.laid_turnkey_audit_errMedium), ("turnkey/audit.errStopped", Rows.laid_turnkey_audit_errStopped)] [.handle, .data, .data, .sentinel, .sentinel, .sentinel] true :=
  Program.laidByTextLater.sub seatTie1 ["errors.errorType", "turnkey/sha.first", "turnkey/sha.constants", "turnkey/audit.errArgument", "turnkey/audit.errMedium", "turnkey/audit.errStopped"] (by kernel_rfl) (by kernel_rfl)
theorem auditKeeps_row_tie : Rows.auditKeepsRow.laidByTextAt .later Tryd.pinned [.handle, .data, .data, .sentinel, .sentinel, .sentinel] true :=
  OpenClaim.laidByTextAt_later rfl rfl tie noOwnUnsafe
theorem auditCuts_row_tie : Rows.auditCutsRow.laidByTextAt .later Tryd.pinned [.handle, .data, .data, .sentinel, .sentinel, .sentinel] true :=
  OpenClaim.laidByTextAt_later rfl rfl tie noOwnUnsafe
theorem auditKeepsUpto_row_tie : Rows.auditKeepsUptoRow.laidByTextAt .later Tryd.pinned [.handle, .data, .data, .sentinel, .sentinel, .sentinel] true :=
  OpenClaim.laidByTextAt_later rfl rfl tie noOwnUnsafe
theorem auditCutsUpto_row_tie : Rows.auditCutsUptoRow.laidByTextAt .later Tryd.pinned [.handle, .data, .data, .sentinel, .sentinel, .sentinel] true :=
  OpenClaim.laidByTextAt_later rfl rfl tie noOwnUnsafe
end Go.Proofs.YtbbobffedgcbhaaDoor
