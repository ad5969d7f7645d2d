/-
  DERIVED. GIVEN WITH THE SEED: THE CARDS: each row of YtllfmancfkmimaaDoorRows.lean that lists a variable, with what it lists TIED to the program's text (the seventh form; the later family's looks); each row that meets fmt, with fmt's text TOLD by the authors' own Lean function (tested against real Go, not proved from fmt's source: count such statements apart). THE CARD IS WHAT COUNTS. Prove the row's statement (the work); the ties are given (YtllfmancfkmimaaDoorTie.lean); close each card by the builder's one call (the guide's Derived/Test/ToyasCard.lean, 'card_holds'). Laid BY PROGRAM, IN A SANDBOX (cutbox-door.mjs). By AI agents, Wed Nov 11 2026. No macro, syntax, notation, axiom, sorry.
-/
import Derived.Test.YtllfmancfkmimaaDoorRows
import GoSem.ClaimSeven
namespace Go.Proofs.YtllfmancfkmimaaDoor
namespace Rows

/-- THE TIED CARD OF 'estraylaw06.AnswerTexts'. -/
def answerTextsCard : Claim7 := { stood := { row := answerTextsRow, standIns := [], harness := (true, "87c3d1d8a1f04a9d760b927ed36e08668621c8daa5312f162db6b609c8dae41e"), looks := false }, kinds := [], alts := [], laidByText := true, laidKinds := [.widerDeep], laidTests := true, laidLooks := .later }
def AnswerTextsCardSaid : Prop := Claim7.holds Tryd.pinned (.plain (OpenSpec.ofChange answerTextsSpec)) answerTextsCard

/-- THE TIED CARD OF 'estraylaw06.AnswerPlays'. -/
def answerPlaysCard : Claim7 := { stood := { row := answerPlaysRow, standIns := [], harness := (true, "87c3d1d8a1f04a9d760b927ed36e08668621c8daa5312f162db6b609c8dae41e"), looks := false }, kinds := [], alts := [], laidByText := true, laidKinds := [.widerDeep], laidTests := true, laidLooks := .later }
def AnswerPlaysCardSaid : Prop := Claim7.holds Tryd.pinned (.plain (OpenSpec.ofChange answerPlaysSpec)) answerPlaysCard

/-- THE TIED CARD OF 'estraylaw06.AnswerNil'. -/
def answerNilCard : Claim7 := { stood := { row := answerNilRow, standIns := [], harness := (true, "87c3d1d8a1f04a9d760b927ed36e08668621c8daa5312f162db6b609c8dae41e"), looks := false }, kinds := [], alts := [], laidByText := true, laidKinds := [.widerDeep], laidTests := true, laidLooks := .later }
def AnswerNilCardSaid : Prop := Claim7.holds Tryd.pinned (.plain (OpenSpec.ofChange answerNilSpec)) answerNilCard

/-- THE TIED CARD OF 'estraylaw06.AnswerOrder'. -/
def answerOrderCard : Claim7 := { stood := { row := answerOrderRow, standIns := [], harness := (true, "87c3d1d8a1f04a9d760b927ed36e08668621c8daa5312f162db6b609c8dae41e"), looks := false }, kinds := [], alts := [], laidByText := true, laidKinds := [.widerDeep], laidTests := true, laidLooks := .later }
def AnswerOrderCardSaid : Prop := Claim7.holds Tryd.pinned (.plain (OpenSpec.ofChange answerOrderSpec)) answerOrderCard

/-- THE TIED CARD OF 'estraylaw06.AnswerBack'. -/
def answerBackCard : Claim7 := { stood := { row := answerBackRow, standIns := [], harness := (true, "87c3d1d8a1f04a9d760b927ed36e08668621c8daa5312f162db6b609c8dae41e"), looks := false }, kinds := [], alts := [], laidByText := true, laidKinds := [.widerDeep], laidTests := true, laidLooks := .later }
def AnswerBackCardSaid : Prop := Claim7.holds Tryd.pinned (.plain (OpenSpec.ofChange answerBackSpec)) answerBackCard

/-- THE TIED CARD OF 'estraylaw06.AnswerJoins'. -/
def answerJoinsCard : Claim7 := { stood := { row := answerJoinsRow, standIns := [], harness := (true, "87c3d1d8a1f04a9d760b927ed36e08668621c8daa5312f162db6b609c8dae41e"), looks := false }, kinds := [], alts := [], laidByText := true, laidKinds := [.widerDeep], laidTests := true, laidLooks := .later }
def AnswerJoinsCardSaid : Prop := Claim7.holds Tryd.pinned (.plain (OpenSpec.ofChange answerJoinsSpec)) answerJoinsCard

/-- THE TIED CARD OF 'estraylaw06.AnswerRoom'. -/
def answerRoomCard : Claim7 := { stood := { row := answerRoomRow, standIns := [], harness := (true, "87c3d1d8a1f04a9d760b927ed36e08668621c8daa5312f162db6b609c8dae41e"), looks := false }, kinds := [], alts := [], laidByText := true, laidKinds := [.widerDeep], laidTests := true, laidLooks := .later }
def AnswerRoomCardSaid : Prop := Claim7.holds Tryd.pinned (.plain (OpenSpec.ofChange answerRoomSpec)) answerRoomCard

/-- THE TIED CARD OF 'estraylaw06.AnswerKeeps'. -/
def answerKeepsCard : Claim7 := { stood := { row := answerKeepsRow, standIns := [], harness := (true, "87c3d1d8a1f04a9d760b927ed36e08668621c8daa5312f162db6b609c8dae41e"), looks := false }, kinds := [], alts := [], laidByText := true, laidKinds := [.widerDeep], laidTests := true, laidLooks := .later }
def AnswerKeepsCardSaid : Prop := Claim7.holds Tryd.pinned (.plain (OpenSpec.ofChange answerKeepsSpec)) answerKeepsCard

/-- THE SECOND FORM's CARD OF 'estraylaw06.AnswerTexts'. -/
def answerTextsUptoCard : Claim7 := { stood := { row := answerTextsUptoRow, standIns := [], harness := (true, "87c3d1d8a1f04a9d760b927ed36e08668621c8daa5312f162db6b609c8dae41e"), looks := false }, kinds := [], alts := [], laidByText := true, laidKinds := [.widerDeep], laidTests := true, laidLooks := .later }
def AnswerTextsUptoCardSaid : Prop := Claim7.holds Tryd.pinned (.plain (OpenSpec.upto answerTextsSpec)) answerTextsUptoCard

/-- THE SECOND FORM's CARD OF 'estraylaw06.AnswerPlays'. -/
def answerPlaysUptoCard : Claim7 := { stood := { row := answerPlaysUptoRow, standIns := [], harness := (true, "87c3d1d8a1f04a9d760b927ed36e08668621c8daa5312f162db6b609c8dae41e"), looks := false }, kinds := [], alts := [], laidByText := true, laidKinds := [.widerDeep], laidTests := true, laidLooks := .later }
def AnswerPlaysUptoCardSaid : Prop := Claim7.holds Tryd.pinned (.plain (OpenSpec.upto answerPlaysSpec)) answerPlaysUptoCard

/-- THE SECOND FORM's CARD OF 'estraylaw06.AnswerNil'. -/
def answerNilUptoCard : Claim7 := { stood := { row := answerNilUptoRow, standIns := [], harness := (true, "87c3d1d8a1f04a9d760b927ed36e08668621c8daa5312f162db6b609c8dae41e"), looks := false }, kinds := [], alts := [], laidByText := true, laidKinds := [.widerDeep], laidTests := true, laidLooks := .later }
def AnswerNilUptoCardSaid : Prop := Claim7.holds Tryd.pinned (.plain (OpenSpec.upto answerNilSpec)) answerNilUptoCard

/-- THE SECOND FORM's CARD OF 'estraylaw06.AnswerOrder'. -/
def answerOrderUptoCard : Claim7 := { stood := { row := answerOrderUptoRow, standIns := [], harness := (true, "87c3d1d8a1f04a9d760b927ed36e08668621c8daa5312f162db6b609c8dae41e"), looks := false }, kinds := [], alts := [], laidByText := true, laidKinds := [.widerDeep], laidTests := true, laidLooks := .later }
def AnswerOrderUptoCardSaid : Prop := Claim7.holds Tryd.pinned (.plain (OpenSpec.upto answerOrderSpec)) answerOrderUptoCard

/-- THE SECOND FORM's CARD OF 'estraylaw06.AnswerBack'. -/
def answerBackUptoCard : Claim7 := { stood := { row := answerBackUptoRow, standIns := [], harness := (true, "87c3d1d8a1f04a9d760b927ed36e08668621c8daa5312f162db6b609c8dae41e"), looks := false }, kinds := [], alts := [], laidByText := true, laidKinds := [.widerDeep], laidTests := true, laidLooks := .later }
def AnswerBackUptoCardSaid : Prop := Claim7.holds Tryd.pinned (.plain (OpenSpec.upto answerBackSpec)) answerBackUptoCard

/-- THE SECOND FORM's CARD OF 'estraylaw06.AnswerJoins'. -/
def answerJoinsUptoCard : Claim7 := { stood := { row := answerJoinsUptoRow, standIns := [], harness := (true, "87c3d1d8a1f04a9d760b927ed36e08668621c8daa5312f162db6b609c8dae41e"), looks := false }, kinds := [], alts := [], laidByText := true, laidKinds := [.widerDeep], laidTests := true, laidLooks := .later }
def AnswerJoinsUptoCardSaid : Prop := Claim7.holds Tryd.pinned (.plain (OpenSpec.upto answerJoinsSpec)) answerJoinsUptoCard

/-- THE SECOND FORM's CARD OF 'estraylaw06.AnswerRoom'. -/
def answerRoomUptoCard : Claim7 := { stood := { row := answerRoomUptoRow, standIns := [], harness := (true, "87c3d1d8a1f04a9d760b927ed36e08668621c8daa5312f162db6b609c8dae41e"), looks := false }, kinds := [], alts := [], laidByText := true, laidKinds := [.widerDeep], laidTests := true, laidLooks := .later }
def AnswerRoomUptoCardSaid : Prop := Claim7.holds Tryd.pinned (.plain (OpenSpec.upto answerRoomSpec)) answerRoomUptoCard

/-- THE SECOND FORM's CARD OF 'estraylaw06.AnswerKeeps'. -/
def answerKeepsUptoCard : Claim7 := { stood := { row := answerKeepsUptoRow, standIns := [], harness := (true, "87c3d1d8a1f04a9d760b927ed36e08668621c8daa5312f162db6b609c8dae41e"), looks := false }, kinds := [], alts := [], laidByText := true, laidKinds := [.widerDeep], laidTests := true, laidLooks := .later }
def AnswerKeepsUptoCardSaid : Prop := Claim7.holds Tryd.pinned (.plain (OpenSpec.upto answerKeepsSpec)) answerKeepsUptoCard
end Rows
end Go.Proofs.YtllfmancfkmimaaDoor
