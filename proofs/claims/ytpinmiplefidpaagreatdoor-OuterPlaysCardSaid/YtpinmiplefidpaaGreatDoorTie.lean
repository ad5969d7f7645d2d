/-
  DERIVED. GIVEN WITH THE SEED: THE PROGRAM's TIES (one call each: nine closed facts by the kernel) AND EACH ROW's TIE, after the 31st guide's Derived/Test/Toyas{Tie, Card}.lean. No idea stands in it: it is a product of the set-up. Laid BY PROGRAM, IN A SANDBOX (cutbox-door.mjs). By AI agents, Wed Nov 11 2026. No macro, syntax, notation, axiom, sorry.
-/
import Derived.Test.YtpinmiplefidpaaGreatDoorRows
import Derived.LaidByTextLater
import Derived.SevenTiedAt
import Derived.LaidSub
import Derived.LaidOnce
namespace Go.Proofs.YtpinmiplefidpaaGreatDoor
open Go
set_option maxRecDepth 100000
theorem seatTie1 : Tryz.prog.laidByTextLater [("estray/answer.letters", Rows.laid_estray_answer_letters), ("estray/ledger.whys", Rows.laid_estray_ledger_whys), ("estray/ledger.answers", Rows.laid_estray_ledger_answers)] [.widerDeep, .wider, .wider] true :=
  Program.laidByTextLater_by_one 24 8 5 (by kernel_rfl) (by kernel_rfl) (by kernel_rfl) (by kernel_rfl) (by kernel_rfl) (by kernel_rfl) (fun _ _ => by kernel_rfl)
theorem noOwnUnsafe : Tryz.pinned.checked.prog.headLifts.contains "ownunsafe" = false := by kernel_rfl
theorem tie : Tryz.prog.laidByTextLater [("estray/answer.letters", Rows.laid_estray_answer_letters), ("estray/ledger.whys", Rows.laid_estray_ledger_whys), ("estray/ledger.answers", Rows.laid_estray_ledger_answers)] [.widerDeep, .wider, .wider] true :=
  Program.laidByTextLater.sub seatTie1 ["estray/answer.letters", "estray/ledger.whys", "estray/ledger.answers"] (by kernel_rfl) (by kernel_rfl)
theorem outerPlays_row_tie : Rows.outerPlaysRow.laidByTextAt .later Tryz.pinned [.widerDeep, .wider, .wider] true :=
  OpenClaim.laidByTextAt_later rfl rfl tie noOwnUnsafe
theorem outerNil_row_tie : Rows.outerNilRow.laidByTextAt .later Tryz.pinned [.widerDeep, .wider, .wider] true :=
  OpenClaim.laidByTextAt_later rfl rfl tie noOwnUnsafe
theorem outerOnce_row_tie : Rows.outerOnceRow.laidByTextAt .later Tryz.pinned [.widerDeep, .wider, .wider] true :=
  OpenClaim.laidByTextAt_later rfl rfl tie noOwnUnsafe
theorem outerAnswers_row_tie : Rows.outerAnswersRow.laidByTextAt .later Tryz.pinned [.widerDeep, .wider, .wider] true :=
  OpenClaim.laidByTextAt_later rfl rfl tie noOwnUnsafe
theorem outerTold_row_tie : Rows.outerToldRow.laidByTextAt .later Tryz.pinned [.widerDeep, .wider, .wider] true :=
  OpenClaim.laidByTextAt_later rfl rfl tie noOwnUnsafe
theorem outerRefuses_row_tie : Rows.outerRefusesRow.laidByTextAt .later Tryz.pinned [.widerDeep, .wider, .wider] true :=
  OpenClaim.laidByTextAt_later rfl rfl tie noOwnUnsafe
theorem outerTimes_row_tie : Rows.outerTimesRow.laidByTextAt .later Tryz.pinned [.widerDeep, .wider, .wider] true :=
  OpenClaim.laidByTextAt_later rfl rfl tie noOwnUnsafe
theorem outerCopies_row_tie : Rows.outerCopiesRow.laidByTextAt .later Tryz.pinned [.widerDeep, .wider, .wider] true :=
  OpenClaim.laidByTextAt_later rfl rfl tie noOwnUnsafe
theorem outerKnown_row_tie : Rows.outerKnownRow.laidByTextAt .later Tryz.pinned [.widerDeep, .wider, .wider] true :=
  OpenClaim.laidByTextAt_later rfl rfl tie noOwnUnsafe
theorem outerPlaysUpto_row_tie : Rows.outerPlaysUptoRow.laidByTextAt .later Tryz.pinned [.widerDeep, .wider, .wider] true :=
  OpenClaim.laidByTextAt_later rfl rfl tie noOwnUnsafe
theorem outerNilUpto_row_tie : Rows.outerNilUptoRow.laidByTextAt .later Tryz.pinned [.widerDeep, .wider, .wider] true :=
  OpenClaim.laidByTextAt_later rfl rfl tie noOwnUnsafe
theorem outerOnceUpto_row_tie : Rows.outerOnceUptoRow.laidByTextAt .later Tryz.pinned [.widerDeep, .wider, .wider] true :=
  OpenClaim.laidByTextAt_later rfl rfl tie noOwnUnsafe
theorem outerAnswersUpto_row_tie : Rows.outerAnswersUptoRow.laidByTextAt .later Tryz.pinned [.widerDeep, .wider, .wider] true :=
  OpenClaim.laidByTextAt_later rfl rfl tie noOwnUnsafe
theorem outerToldUpto_row_tie : Rows.outerToldUptoRow.laidByTextAt .later Tryz.pinned [.widerDeep, .wider, .wider] true :=
  OpenClaim.laidByTextAt_later rfl rfl tie noOwnUnsafe
theorem outerRefusesUpto_row_tie : Rows.outerRefusesUptoRow.laidByTextAt .later Tryz.pinned [.widerDeep, .wider, .wider] true :=
  OpenClaim.laidByTextAt_later rfl rfl tie noOwnUnsafe
theorem outerTimesUpto_row_tie : Rows.outerTimesUptoRow.laidByTextAt .later Tryz.pinned [.widerDeep, .wider, .wider] true :=
  OpenClaim.laidByTextAt_later rfl rfl tie noOwnUnsafe
theorem outerCopiesUpto_row_tie : Rows.outerCopiesUptoRow.laidByTextAt .later Tryz.pinned [.widerDeep, .wider, .wider] true :=
  OpenClaim.laidByTextAt_later rfl rfl tie noOwnUnsafe
theorem outerKnownUpto_row_tie : Rows.outerKnownUptoRow.laidByTextAt .later Tryz.pinned [.widerDeep, .wider, .wider] true :=
  OpenClaim.laidByTextAt_later rfl rfl tie noOwnUnsafe
end Go.Proofs.YtpinmiplefidpaaGreatDoor
