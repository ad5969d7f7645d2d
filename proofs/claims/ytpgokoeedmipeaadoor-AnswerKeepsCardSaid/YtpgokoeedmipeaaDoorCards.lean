/-
  DERIVED. GIVEN WITH THE SEED: THE CARDS: each row of YtpgokoeedmipeaaDoorRows.lean that lists a variable, with what it lists TIED to the program's text (the seventh form; the later family's looks); each row that meets fmt, with fmt's text TOLD by the authors' own Lean function (tested against real Go, not proved from fmt's source: count such statements apart). THE CARD IS WHAT COUNTS. Prove the row's statement (the work); the ties are given (YtpgokoeedmipeaaDoorTie.lean); close each card by the builder's one call (the guide's Derived/Test/ToyasCard.lean, 'card_holds'). Laid BY PROGRAM, IN A SANDBOX (cutbox-door.mjs). By AI agents, Wed Nov 11 2026. No macro, syntax, notation, axiom, sorry.
-/
import Derived.Test.YtpgokoeedmipeaaDoorRows
import GoSem.ClaimSeven
namespace Go.Proofs.YtpgokoeedmipeaaDoor
namespace Rows

/-- THE TIED CARD OF 'estraylaw06.AnswerKeeps'. -/
def answerKeepsCard : Claim7 := { stood := { row := answerKeepsRow, standIns := [], harness := (true, "612c1a5732161d186d5d1fb0b846c5cbbcd4372c9c4578173e0362424ff88e05"), looks := false }, kinds := [], alts := [], laidByText := true, laidKinds := [.widerDeep], laidTests := true, laidLooks := .later }
def AnswerKeepsCardSaid : Prop := Claim7.holds Tryd.pinned (.plain (OpenSpec.ofChange answerKeepsSpec)) answerKeepsCard

/-- THE SECOND FORM's CARD OF 'estraylaw06.AnswerKeeps'. -/
def answerKeepsUptoCard : Claim7 := { stood := { row := answerKeepsUptoRow, standIns := [], harness := (true, "612c1a5732161d186d5d1fb0b846c5cbbcd4372c9c4578173e0362424ff88e05"), looks := false }, kinds := [], alts := [], laidByText := true, laidKinds := [.widerDeep], laidTests := true, laidLooks := .later }
def AnswerKeepsUptoCardSaid : Prop := Claim7.holds Tryd.pinned (.plain (OpenSpec.upto answerKeepsSpec)) answerKeepsUptoCard
end Rows
end Go.Proofs.YtpgokoeedmipeaaDoor
