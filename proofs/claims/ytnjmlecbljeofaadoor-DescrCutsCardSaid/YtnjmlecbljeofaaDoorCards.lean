/-
  DERIVED. GIVEN WITH THE SEED: THE CARDS: each row of YtnjmlecbljeofaaDoorRows.lean that lists a variable, with what it lists TIED to the program's text (the seventh form; the later family's looks); each row that meets fmt, with fmt's text TOLD by the authors' own Lean function (tested against real Go, not proved from fmt's source: count such statements apart). THE CARD IS WHAT COUNTS. Prove the row's statement (the work); the ties are given (YtnjmlecbljeofaaDoorTie.lean); close each card by the builder's one call (the guide's Derived/Test/ToyasCard.lean, 'card_holds'). Laid BY PROGRAM, IN A SANDBOX (cutbox-door.mjs). By AI agents, Wed Nov 11 2026. No macro, syntax, notation, axiom, sorry.
-/
import Derived.Test.YtnjmlecbljeofaaDoorRows
import GoSem.ClaimSeven
namespace Go.Proofs.YtnjmlecbljeofaaDoor
namespace Rows

/-- THE TIED CARD OF 'estraylaw05.DescrNumbers'. -/
def descrNumbersCard : Claim7 := { stood := { row := descrNumbersRow, standIns := [], harness := (true, "5e43b6d15aa857d863db78e77281f059c6f4972afe1fbd3f57fe0b38282fb3e5"), looks := true }, kinds := [], alts := [], laidByText := true, laidKinds := [.data, .data, .data, .sentinel, .sentinel, .data], laidTests := true, laidLooks := .later }
def DescrNumbersCardSaid : Prop := Claim7.holds Tryd.pinned (.plain (OpenSpec.ofChange descrNumbersSpec)) descrNumbersCard

/-- THE TIED CARD OF 'estraylaw05.DescrTexts'. -/
def descrTextsCard : Claim7 := { stood := { row := descrTextsRow, standIns := [], harness := (true, "5e43b6d15aa857d863db78e77281f059c6f4972afe1fbd3f57fe0b38282fb3e5"), looks := true }, kinds := [], alts := [], laidByText := true, laidKinds := [.data, .data, .data, .sentinel, .sentinel, .data], laidTests := true, laidLooks := .later }
def DescrTextsCardSaid : Prop := Claim7.holds Tryd.pinned (.plain (OpenSpec.ofChange descrTextsSpec)) descrTextsCard

/-- THE TIED CARD OF 'estraylaw05.DescrOuters'. -/
def descrOutersCard : Claim7 := { stood := { row := descrOutersRow, standIns := [], harness := (true, "5e43b6d15aa857d863db78e77281f059c6f4972afe1fbd3f57fe0b38282fb3e5"), looks := true }, kinds := [], alts := [], laidByText := true, laidKinds := [.data, .data, .data, .sentinel, .sentinel, .data], laidTests := true, laidLooks := .later }
def DescrOutersCardSaid : Prop := Claim7.holds Tryd.pinned (.plain (OpenSpec.ofChange descrOutersSpec)) descrOutersCard

/-- THE TIED CARD OF 'estraylaw05.DescrOrders'. -/
def descrOrdersCard : Claim7 := { stood := { row := descrOrdersRow, standIns := [], harness := (true, "5e43b6d15aa857d863db78e77281f059c6f4972afe1fbd3f57fe0b38282fb3e5"), looks := true }, kinds := [], alts := [], laidByText := true, laidKinds := [.data, .data, .data, .sentinel, .sentinel, .data], laidTests := true, laidLooks := .later }
def DescrOrdersCardSaid : Prop := Claim7.holds Tryd.pinned (.plain (OpenSpec.ofChange descrOrdersSpec)) descrOrdersCard

/-- THE TIED CARD OF 'estraylaw05.DescrBack'. -/
def descrBackCard : Claim7 := { stood := { row := descrBackRow, standIns := [], harness := (true, "5e43b6d15aa857d863db78e77281f059c6f4972afe1fbd3f57fe0b38282fb3e5"), looks := true }, kinds := [], alts := [], laidByText := true, laidKinds := [.data, .data, .data, .sentinel, .sentinel, .data], laidTests := true, laidLooks := .later }
def DescrBackCardSaid : Prop := Claim7.holds Tryd.pinned (.plain (OpenSpec.ofChange descrBackSpec)) descrBackCard

/-- THE TIED CARD OF 'estraylaw05.DescrNames'. -/
def descrNamesCard : Claim7 := { stood := { row := descrNamesRow, standIns := [], harness := (true, "5e43b6d15aa857d863db78e77281f059c6f4972afe1fbd3f57fe0b38282fb3e5"), looks := true }, kinds := [], alts := [], laidByText := true, laidKinds := [.data, .data, .data, .sentinel, .sentinel, .data], laidTests := true, laidLooks := .later }
def DescrNamesCardSaid : Prop := Claim7.holds Tryd.pinned (.plain (OpenSpec.ofChange descrNamesSpec)) descrNamesCard

/-- THE TIED CARD OF 'estraylaw05.DescrSorted'. -/
def descrSortedCard : Claim7 := { stood := { row := descrSortedRow, standIns := [], harness := (true, "5e43b6d15aa857d863db78e77281f059c6f4972afe1fbd3f57fe0b38282fb3e5"), looks := true }, kinds := [], alts := [], laidByText := true, laidKinds := [.data, .data, .data, .sentinel, .sentinel, .data], laidTests := true, laidLooks := .later }
def DescrSortedCardSaid : Prop := Claim7.holds Tryd.pinned (.plain (OpenSpec.ofChange descrSortedSpec)) descrSortedCard

/-- THE TIED CARD OF 'estraylaw05.DescrReads'. -/
def descrReadsCard : Claim7 := { stood := { row := descrReadsRow, standIns := [], harness := (true, "5e43b6d15aa857d863db78e77281f059c6f4972afe1fbd3f57fe0b38282fb3e5"), looks := true }, kinds := [], alts := [], laidByText := true, laidKinds := [.data, .data, .data, .sentinel, .sentinel, .data], laidTests := true, laidLooks := .later }
def DescrReadsCardSaid : Prop := Claim7.holds Tryd.pinned (.plain (OpenSpec.ofChange descrReadsSpec)) descrReadsCard

/-- THE TIED CARD OF 'estraylaw05.DescrCuts'. -/
def descrCutsCard : Claim7 := { stood := { row := descrCutsRow, standIns := [], harness := (true, "5e43b6d15aa857d863db78e77281f059c6f4972afe1fbd3f57fe0b38282fb3e5"), looks := true }, kinds := [], alts := [], laidByText := true, laidKinds := [.data, .data, .data, .sentinel, .sentinel, .data], laidTests := true, laidLooks := .later }
def DescrCutsCardSaid : Prop := Claim7.holds Tryd.pinned (.plain (OpenSpec.ofChange descrCutsSpec)) descrCutsCard

/-- THE TIED CARD OF 'estraylaw05.DescrWrong'. -/
def descrWrongCard : Claim7 := { stood := { row := descrWrongRow, standIns := [], harness := (true, "5e43b6d15aa857d863db78e77281f059c6f4972afe1fbd3f57fe0b38282fb3e5"), looks := true }, kinds := [], alts := [], laidByText := true, laidKinds := [.data, .data, .data, .sentinel, .sentinel, .data], laidTests := true, laidLooks := .later }
def DescrWrongCardSaid : Prop := Claim7.holds Tryd.pinned (.plain (OpenSpec.ofChange descrWrongSpec)) descrWrongCard

/-- THE SECOND FORM's CARD OF 'estraylaw05.DescrNumbers'. -/
def descrNumbersUptoCard : Claim7 := { stood := { row := descrNumbersUptoRow, standIns := [], harness := (true, "5e43b6d15aa857d863db78e77281f059c6f4972afe1fbd3f57fe0b38282fb3e5"), looks := true }, kinds := [], alts := [], laidByText := true, laidKinds := [.data, .data, .data, .sentinel, .sentinel, .data], laidTests := true, laidLooks := .later }
def DescrNumbersUptoCardSaid : Prop := Claim7.holds Tryd.pinned (.plain (OpenSpec.upto descrNumbersSpec)) descrNumbersUptoCard

/-- THE SECOND FORM's CARD OF 'estraylaw05.DescrTexts'. -/
def descrTextsUptoCard : Claim7 := { stood := { row := descrTextsUptoRow, standIns := [], harness := (true, "5e43b6d15aa857d863db78e77281f059c6f4972afe1fbd3f57fe0b38282fb3e5"), looks := true }, kinds := [], alts := [], laidByText := true, laidKinds := [.data, .data, .data, .sentinel, .sentinel, .data], laidTests := true, laidLooks := .later }
def DescrTextsUptoCardSaid : Prop := Claim7.holds Tryd.pinned (.plain (OpenSpec.upto descrTextsSpec)) descrTextsUptoCard

/-- THE SECOND FORM's CARD OF 'estraylaw05.DescrOuters'. -/
def descrOutersUptoCard : Claim7 := { stood := { row := descrOutersUptoRow, standIns := [], harness := (true, "5e43b6d15aa857d863db78e77281f059c6f4972afe1fbd3f57fe0b38282fb3e5"), looks := true }, kinds := [], alts := [], laidByText := true, laidKinds := [.data, .data, .data, .sentinel, .sentinel, .data], laidTests := true, laidLooks := .later }
def DescrOutersUptoCardSaid : Prop := Claim7.holds Tryd.pinned (.plain (OpenSpec.upto descrOutersSpec)) descrOutersUptoCard

/-- THE SECOND FORM's CARD OF 'estraylaw05.DescrOrders'. -/
def descrOrdersUptoCard : Claim7 := { stood := { row := descrOrdersUptoRow, standIns := [], harness := (true, "5e43b6d15aa857d863db78e77281f059c6f4972afe1fbd3f57fe0b38282fb3e5"), looks := true }, kinds := [], alts := [], laidByText := true, laidKinds := [.data, .data, .data, .sentinel, .sentinel, .data], laidTests := true, laidLooks := .later }
def DescrOrdersUptoCardSaid : Prop := Claim7.holds Tryd.pinned (.plain (OpenSpec.upto descrOrdersSpec)) descrOrdersUptoCard

/-- THE SECOND FORM's CARD OF 'estraylaw05.DescrBack'. -/
def descrBackUptoCard : Claim7 := { stood := { row := descrBackUptoRow, standIns := [], harness := (true, "5e43b6d15aa857d863db78e77281f059c6f4972afe1fbd3f57fe0b38282fb3e5"), looks := true }, kinds := [], alts := [], laidByText := true, laidKinds := [.data, .data, .data, .sentinel, .sentinel, .data], laidTests := true, laidLooks := .later }
def DescrBackUptoCardSaid : Prop := Claim7.holds Tryd.pinned (.plain (OpenSpec.upto descrBackSpec)) descrBackUptoCard

/-- THE SECOND FORM's CARD OF 'estraylaw05.DescrNames'. -/
def descrNamesUptoCard : Claim7 := { stood := { row := descrNamesUptoRow, standIns := [], harness := (true, "5e43b6d15aa857d863db78e77281f059c6f4972afe1fbd3f57fe0b38282fb3e5"), looks := true }, kinds := [], alts := [], laidByText := true, laidKinds := [.data, .data, .data, .sentinel, .sentinel, .data], laidTests := true, laidLooks := .later }
def DescrNamesUptoCardSaid : Prop := Claim7.holds Tryd.pinned (.plain (OpenSpec.upto descrNamesSpec)) descrNamesUptoCard

/-- THE SECOND FORM's CARD OF 'estraylaw05.DescrSorted'. -/
def descrSortedUptoCard : Claim7 := { stood := { row := descrSortedUptoRow, standIns := [], harness := (true, "5e43b6d15aa857d863db78e77281f059c6f4972afe1fbd3f57fe0b38282fb3e5"), looks := true }, kinds := [], alts := [], laidByText := true, laidKinds := [.data, .data, .data, .sentinel, .sentinel, .data], laidTests := true, laidLooks := .later }
def DescrSortedUptoCardSaid : Prop := Claim7.holds Tryd.pinned (.plain (OpenSpec.upto descrSortedSpec)) descrSortedUptoCard

/-- THE SECOND FORM's CARD OF 'estraylaw05.DescrReads'. -/
def descrReadsUptoCard : Claim7 := { stood := { row := descrReadsUptoRow, standIns := [], harness := (true, "5e43b6d15aa857d863db78e77281f059c6f4972afe1fbd3f57fe0b38282fb3e5"), looks := true }, kinds := [], alts := [], laidByText := true, laidKinds := [.data, .data, .data, .sentinel, .sentinel, .data], laidTests := true, laidLooks := .later }
def DescrReadsUptoCardSaid : Prop := Claim7.holds Tryd.pinned (.plain (OpenSpec.upto descrReadsSpec)) descrReadsUptoCard

/-- THE SECOND FORM's CARD OF 'estraylaw05.DescrCuts'. -/
def descrCutsUptoCard : Claim7 := { stood := { row := descrCutsUptoRow, standIns := [], harness := (true, "5e43b6d15aa857d863db78e77281f059c6f4972afe1fbd3f57fe0b38282fb3e5"), looks := true }, kinds := [], alts := [], laidByText := true, laidKinds := [.data, .data, .data, .sentinel, .sentinel, .data], laidTests := true, laidLooks := .later }
def DescrCutsUptoCardSaid : Prop := Claim7.holds Tryd.pinned (.plain (OpenSpec.upto descrCutsSpec)) descrCutsUptoCard

/-- THE SECOND FORM's CARD OF 'estraylaw05.DescrWrong'. -/
def descrWrongUptoCard : Claim7 := { stood := { row := descrWrongUptoRow, standIns := [], harness := (true, "5e43b6d15aa857d863db78e77281f059c6f4972afe1fbd3f57fe0b38282fb3e5"), looks := true }, kinds := [], alts := [], laidByText := true, laidKinds := [.data, .data, .data, .sentinel, .sentinel, .data], laidTests := true, laidLooks := .later }
def DescrWrongUptoCardSaid : Prop := Claim7.holds Tryd.pinned (.plain (OpenSpec.upto descrWrongSpec)) descrWrongUptoCard
end Rows
end Go.Proofs.YtnjmlecbljeofaaDoor
