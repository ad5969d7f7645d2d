/-
  DERIVED. GIVEN WITH THE SEED: THE CARDS: each row of YtmbkhkijmfogcaaDoorRows.lean that lists a variable, with what it lists TIED to the program's text (the seventh form; the later family's looks); each row that meets fmt, with fmt's text TOLD by the authors' own Lean function (tested against real Go, not proved from fmt's source: count such statements apart). THE CARD IS WHAT COUNTS. Prove the row's statement (the work); the ties are given (YtmbkhkijmfogcaaDoorTie.lean); close each card by the builder's one call (the guide's Derived/Test/ToyasCard.lean, 'card_holds'). Laid BY PROGRAM, IN A SANDBOX (cutbox-door.mjs). By AI agents, Wed Nov 11 2026. No macro, syntax, notation, axiom, sorry.
-/
import Derived.Test.YtmbkhkijmfogcaaDoorRows
import GoSem.ClaimSeven
namespace Go.Proofs.YtmbkhkijmfogcaaDoor
namespace Rows

/-- THE TIED CARD OF 'estraylaw13.FieldsChecks'. -/
def fieldsChecksCard : Claim7 := { stood := { row := fieldsChecksRow, standIns := [], harness := (true, "0a5e5ba6721553186f0fffeb29d8b8fe8848f09fd2ca30b9d1c2000242e8c38b"), looks := true }, kinds := [], alts := [], laidByText := true, laidKinds := [.data, .data, .data, .data, .sentinel, .sentinel, .pinned], laidTests := true, laidLooks := .later }
def FieldsChecksCardSaid : Prop := Claim7.holds Tryd.pinned (.plain (OpenSpec.ofChange fieldsChecksSpec)) fieldsChecksCard

/-- THE TIED CARD OF 'estraylaw13.FieldsSets'. -/
def fieldsSetsCard : Claim7 := { stood := { row := fieldsSetsRow, standIns := [], harness := (true, "0a5e5ba6721553186f0fffeb29d8b8fe8848f09fd2ca30b9d1c2000242e8c38b"), looks := true }, kinds := [], alts := [], laidByText := true, laidKinds := [.data, .data, .data, .data, .sentinel, .sentinel, .pinned], laidTests := true, laidLooks := .later }
def FieldsSetsCardSaid : Prop := Claim7.holds Tryd.pinned (.plain (OpenSpec.ofChange fieldsSetsSpec)) fieldsSetsCard

/-- THE TIED CARD OF 'estraylaw13.FieldsTexts'. -/
def fieldsTextsCard : Claim7 := { stood := { row := fieldsTextsRow, standIns := [], harness := (true, "0a5e5ba6721553186f0fffeb29d8b8fe8848f09fd2ca30b9d1c2000242e8c38b"), looks := true }, kinds := [], alts := [], laidByText := true, laidKinds := [.data, .data, .data, .data, .sentinel, .sentinel, .pinned], laidTests := true, laidLooks := .later }
def FieldsTextsCardSaid : Prop := Claim7.holds Tryd.pinned (.plain (OpenSpec.ofChange fieldsTextsSpec)) fieldsTextsCard

/-- THE TIED CARD OF 'estraylaw13.FieldsOne'. -/
def fieldsOneCard : Claim7 := { stood := { row := fieldsOneRow, standIns := [], harness := (true, "0a5e5ba6721553186f0fffeb29d8b8fe8848f09fd2ca30b9d1c2000242e8c38b"), looks := true }, kinds := [], alts := [], laidByText := true, laidKinds := [.data, .data, .data, .data, .sentinel, .sentinel, .pinned], laidTests := true, laidLooks := .later }
def FieldsOneCardSaid : Prop := Claim7.holds Tryd.pinned (.plain (OpenSpec.ofChange fieldsOneSpec)) fieldsOneCard

/-- THE TIED CARD OF 'estraylaw13.FieldsBack'. -/
def fieldsBackCard : Claim7 := { stood := { row := fieldsBackRow, standIns := [], harness := (true, "0a5e5ba6721553186f0fffeb29d8b8fe8848f09fd2ca30b9d1c2000242e8c38b"), looks := true }, kinds := [], alts := [], laidByText := true, laidKinds := [.data, .data, .data, .data, .sentinel, .sentinel, .pinned], laidTests := true, laidLooks := .later }
def FieldsBackCardSaid : Prop := Claim7.holds Tryd.pinned (.plain (OpenSpec.ofChange fieldsBackSpec)) fieldsBackCard

/-- THE TIED CARD OF 'estraylaw13.FieldsReads'. -/
def fieldsReadsCard : Claim7 := { stood := { row := fieldsReadsRow, standIns := [], harness := (true, "0a5e5ba6721553186f0fffeb29d8b8fe8848f09fd2ca30b9d1c2000242e8c38b"), looks := true }, kinds := [], alts := [], laidByText := true, laidKinds := [.data, .data, .data, .data, .sentinel, .sentinel, .pinned], laidTests := true, laidLooks := .later }
def FieldsReadsCardSaid : Prop := Claim7.holds Tryd.pinned (.plain (OpenSpec.ofChange fieldsReadsSpec)) fieldsReadsCard

/-- THE TIED CARD OF 'estraylaw13.FieldsRefs'. -/
def fieldsRefsCard : Claim7 := { stood := { row := fieldsRefsRow, standIns := [], harness := (true, "0a5e5ba6721553186f0fffeb29d8b8fe8848f09fd2ca30b9d1c2000242e8c38b"), looks := true }, kinds := [], alts := [], laidByText := true, laidKinds := [.data, .data, .data, .data, .sentinel, .sentinel, .pinned], laidTests := true, laidLooks := .later }
def FieldsRefsCardSaid : Prop := Claim7.holds Tryd.pinned (.plain (OpenSpec.ofChange fieldsRefsSpec)) fieldsRefsCard

/-- THE TIED CARD OF 'estraylaw13.FieldsWrong'. -/
def fieldsWrongCard : Claim7 := { stood := { row := fieldsWrongRow, standIns := [], harness := (true, "0a5e5ba6721553186f0fffeb29d8b8fe8848f09fd2ca30b9d1c2000242e8c38b"), looks := true }, kinds := [], alts := [], laidByText := true, laidKinds := [.data, .data, .data, .data, .sentinel, .sentinel, .pinned], laidTests := true, laidLooks := .later }
def FieldsWrongCardSaid : Prop := Claim7.holds Tryd.pinned (.plain (OpenSpec.ofChange fieldsWrongSpec)) fieldsWrongCard

/-- THE SECOND FORM's CARD OF 'estraylaw13.FieldsChecks'. -/
def fieldsChecksUptoCard : Claim7 := { stood := { row := fieldsChecksUptoRow, standIns := [], harness := (true, "0a5e5ba6721553186f0fffeb29d8b8fe8848f09fd2ca30b9d1c2000242e8c38b"), looks := true }, kinds := [], alts := [], laidByText := true, laidKinds := [.data, .data, .data, .data, .sentinel, .sentinel, .pinned], laidTests := true, laidLooks := .later }
def FieldsChecksUptoCardSaid : Prop := Claim7.holds Tryd.pinned (.plain (OpenSpec.upto fieldsChecksSpec)) fieldsChecksUptoCard

/-- THE SECOND FORM's CARD OF 'estraylaw13.FieldsSets'. -/
def fieldsSetsUptoCard : Claim7 := { stood := { row := fieldsSetsUptoRow, standIns := [], harness := (true, "0a5e5ba6721553186f0fffeb29d8b8fe8848f09fd2ca30b9d1c2000242e8c38b"), looks := true }, kinds := [], alts := [], laidByText := true, laidKinds := [.data, .data, .data, .data, .sentinel, .sentinel, .pinned], laidTests := true, laidLooks := .later }
def FieldsSetsUptoCardSaid : Prop := Claim7.holds Tryd.pinned (.plain (OpenSpec.upto fieldsSetsSpec)) fieldsSetsUptoCard

/-- THE SECOND FORM's CARD OF 'estraylaw13.FieldsTexts'. -/
def fieldsTextsUptoCard : Claim7 := { stood := { row := fieldsTextsUptoRow, standIns := [], harness := (true, "0a5e5ba6721553186f0fffeb29d8b8fe8848f09fd2ca30b9d1c2000242e8c38b"), looks := true }, kinds := [], alts := [], laidByText := true, laidKinds := [.data, .data, .data, .data, .sentinel, .sentinel, .pinned], laidTests := true, laidLooks := .later }
def FieldsTextsUptoCardSaid : Prop := Claim7.holds Tryd.pinned (.plain (OpenSpec.upto fieldsTextsSpec)) fieldsTextsUptoCard

/-- THE SECOND FORM's CARD OF 'estraylaw13.FieldsOne'. -/
def fieldsOneUptoCard : Claim7 := { stood := { row := fieldsOneUptoRow, standIns := [], harness := (true, "0a5e5ba6721553186f0fffeb29d8b8fe8848f09fd2ca30b9d1c2000242e8c38b"), looks := true }, kinds := [], alts := [], laidByText := true, laidKinds := [.data, .data, .data, .data, .sentinel, .sentinel, .pinned], laidTests := true, laidLooks := .later }
def FieldsOneUptoCardSaid : Prop := Claim7.holds Tryd.pinned (.plain (OpenSpec.upto fieldsOneSpec)) fieldsOneUptoCard

/-- THE SECOND FORM's CARD OF 'estraylaw13.FieldsBack'. -/
def fieldsBackUptoCard : Claim7 := { stood := { row := fieldsBackUptoRow, standIns := [], harness := (true, "0a5e5ba6721553186f0fffeb29d8b8fe8848f09fd2ca30b9d1c2000242e8c38b"), looks := true }, kinds := [], alts := [], laidByText := true, laidKinds := [.data, .data, .data, .data, .sentinel, .sentinel, .pinned], laidTests := true, laidLooks := .later }
def FieldsBackUptoCardSaid : Prop := Claim7.holds Tryd.pinned (.plain (OpenSpec.upto fieldsBackSpec)) fieldsBackUptoCard

/-- THE SECOND FORM's CARD OF 'estraylaw13.FieldsReads'. -/
def fieldsReadsUptoCard : Claim7 := { stood := { row := fieldsReadsUptoRow, standIns := [], harness := (true, "0a5e5ba6721553186f0fffeb29d8b8fe8848f09fd2ca30b9d1c2000242e8c38b"), looks := true }, kinds := [], alts := [], laidByText := true, laidKinds := [.data, .data, .data, .data, .sentinel, .sentinel, .pinned], laidTests := true, laidLooks := .later }
def FieldsReadsUptoCardSaid : Prop := Claim7.holds Tryd.pinned (.plain (OpenSpec.upto fieldsReadsSpec)) fieldsReadsUptoCard

/-- THE SECOND FORM's CARD OF 'estraylaw13.FieldsRefs'. -/
def fieldsRefsUptoCard : Claim7 := { stood := { row := fieldsRefsUptoRow, standIns := [], harness := (true, "0a5e5ba6721553186f0fffeb29d8b8fe8848f09fd2ca30b9d1c2000242e8c38b"), looks := true }, kinds := [], alts := [], laidByText := true, laidKinds := [.data, .data, .data, .data, .sentinel, .sentinel, .pinned], laidTests := true, laidLooks := .later }
def FieldsRefsUptoCardSaid : Prop := Claim7.holds Tryd.pinned (.plain (OpenSpec.upto fieldsRefsSpec)) fieldsRefsUptoCard

/-- THE SECOND FORM's CARD OF 'estraylaw13.FieldsWrong'. -/
def fieldsWrongUptoCard : Claim7 := { stood := { row := fieldsWrongUptoRow, standIns := [], harness := (true, "0a5e5ba6721553186f0fffeb29d8b8fe8848f09fd2ca30b9d1c2000242e8c38b"), looks := true }, kinds := [], alts := [], laidByText := true, laidKinds := [.data, .data, .data, .data, .sentinel, .sentinel, .pinned], laidTests := true, laidLooks := .later }
def FieldsWrongUptoCardSaid : Prop := Claim7.holds Tryd.pinned (.plain (OpenSpec.upto fieldsWrongSpec)) fieldsWrongUptoCard
end Rows
end Go.Proofs.YtmbkhkijmfogcaaDoor
