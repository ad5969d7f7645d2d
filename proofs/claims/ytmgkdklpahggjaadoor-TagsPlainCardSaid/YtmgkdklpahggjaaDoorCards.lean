/-
  DERIVED. GIVEN WITH THE SEED: THE CARDS: each row of YtmgkdklpahggjaaDoorRows.lean that lists a variable, with what it lists TIED to the program's text (the seventh form; the later family's looks); each row that meets fmt, with fmt's text TOLD by the authors' own Lean function (tested against real Go, not proved from fmt's source: count such statements apart). THE CARD IS WHAT COUNTS. Prove the row's statement (the work); the ties are given (YtmgkdklpahggjaaDoorTie.lean); close each card by the builder's one call (the guide's Derived/Test/ToyasCard.lean, 'card_holds'). Laid BY PROGRAM, IN A SANDBOX (cutbox-door.mjs). By AI agents, Wed Nov 11 2026. No macro, syntax, notation, axiom, sorry.
-/
import Derived.Test.YtmgkdklpahggjaaDoorRows
import GoSem.ClaimSeven
namespace Go.Proofs.YtmgkdklpahggjaaDoor
namespace Rows

/-- THE TIED CARD OF 'estraylaw02.TagsChecks'. -/
def tagsChecksCard : Claim7 := { stood := { row := tagsChecksRow, standIns := [], harness := (true, "41043c60fbc177b9edee07b3fc970032890150e51bc268053743f56f6ee43de4"), looks := false }, kinds := [], alts := [], laidByText := true, laidKinds := [.data, .pinned], laidTests := true, laidLooks := .later }
def TagsChecksCardSaid : Prop := Claim7.holds Tryd.pinned (.plain (OpenSpec.ofChange tagsChecksSpec)) tagsChecksCard

/-- THE TIED CARD OF 'estraylaw02.TagsReads'. -/
def tagsReadsCard : Claim7 := { stood := { row := tagsReadsRow, standIns := [], harness := (true, "41043c60fbc177b9edee07b3fc970032890150e51bc268053743f56f6ee43de4"), looks := false }, kinds := [], alts := [], laidByText := true, laidKinds := [.data, .pinned], laidTests := true, laidLooks := .later }
def TagsReadsCardSaid : Prop := Claim7.holds Tryd.pinned (.plain (OpenSpec.ofChange tagsReadsSpec)) tagsReadsCard

/-- THE TIED CARD OF 'estraylaw02.TagsCuts'. -/
def tagsCutsCard : Claim7 := { stood := { row := tagsCutsRow, standIns := [], harness := (true, "41043c60fbc177b9edee07b3fc970032890150e51bc268053743f56f6ee43de4"), looks := false }, kinds := [], alts := [], laidByText := true, laidKinds := [.data, .pinned], laidTests := true, laidLooks := .later }
def TagsCutsCardSaid : Prop := Claim7.holds Tryd.pinned (.plain (OpenSpec.ofChange tagsCutsSpec)) tagsCutsCard

/-- THE TIED CARD OF 'estraylaw02.TagsOrders'. -/
def tagsOrdersCard : Claim7 := { stood := { row := tagsOrdersRow, standIns := [], harness := (true, "41043c60fbc177b9edee07b3fc970032890150e51bc268053743f56f6ee43de4"), looks := false }, kinds := [], alts := [], laidByText := true, laidKinds := [.data, .pinned], laidTests := true, laidLooks := .later }
def TagsOrdersCardSaid : Prop := Claim7.holds Tryd.pinned (.plain (OpenSpec.ofChange tagsOrdersSpec)) tagsOrdersCard

/-- THE TIED CARD OF 'estraylaw02.TagsBack'. -/
def tagsBackCard : Claim7 := { stood := { row := tagsBackRow, standIns := [], harness := (true, "41043c60fbc177b9edee07b3fc970032890150e51bc268053743f56f6ee43de4"), looks := false }, kinds := [], alts := [], laidByText := true, laidKinds := [.data, .pinned], laidTests := true, laidLooks := .later }
def TagsBackCardSaid : Prop := Claim7.holds Tryd.pinned (.plain (OpenSpec.ofChange tagsBackSpec)) tagsBackCard

/-- THE TIED CARD OF 'estraylaw02.TagsRead'. -/
def tagsReadCard : Claim7 := { stood := { row := tagsReadRow, standIns := [], harness := (true, "41043c60fbc177b9edee07b3fc970032890150e51bc268053743f56f6ee43de4"), looks := false }, kinds := [], alts := [], laidByText := true, laidKinds := [.data, .pinned], laidTests := true, laidLooks := .later }
def TagsReadCardSaid : Prop := Claim7.holds Tryd.pinned (.plain (OpenSpec.ofChange tagsReadSpec)) tagsReadCard

/-- THE TIED CARD OF 'estraylaw02.TagsParts'. -/
def tagsPartsCard : Claim7 := { stood := { row := tagsPartsRow, standIns := [], harness := (true, "41043c60fbc177b9edee07b3fc970032890150e51bc268053743f56f6ee43de4"), looks := false }, kinds := [], alts := [], laidByText := true, laidKinds := [.data, .pinned], laidTests := true, laidLooks := .later }
def TagsPartsCardSaid : Prop := Claim7.holds Tryd.pinned (.plain (OpenSpec.ofChange tagsPartsSpec)) tagsPartsCard

/-- THE TIED CARD OF 'estraylaw02.TagsSorts'. -/
def tagsSortsCard : Claim7 := { stood := { row := tagsSortsRow, standIns := [], harness := (true, "41043c60fbc177b9edee07b3fc970032890150e51bc268053743f56f6ee43de4"), looks := false }, kinds := [], alts := [], laidByText := true, laidKinds := [.data, .pinned], laidTests := true, laidLooks := .later }
def TagsSortsCardSaid : Prop := Claim7.holds Tryd.pinned (.plain (OpenSpec.ofChange tagsSortsSpec)) tagsSortsCard

/-- THE TIED CARD OF 'estraylaw02.TagsRefuses'. -/
def tagsRefusesCard : Claim7 := { stood := { row := tagsRefusesRow, standIns := [], harness := (true, "41043c60fbc177b9edee07b3fc970032890150e51bc268053743f56f6ee43de4"), looks := false }, kinds := [], alts := [], laidByText := true, laidKinds := [.data, .pinned], laidTests := true, laidLooks := .later }
def TagsRefusesCardSaid : Prop := Claim7.holds Tryd.pinned (.plain (OpenSpec.ofChange tagsRefusesSpec)) tagsRefusesCard

/-- THE TIED CARD OF 'estraylaw02.TagsPlain'. -/
def tagsPlainCard : Claim7 := { stood := { row := tagsPlainRow, standIns := [], harness := (true, "41043c60fbc177b9edee07b3fc970032890150e51bc268053743f56f6ee43de4"), looks := false }, kinds := [], alts := [], laidByText := true, laidKinds := [.data, .pinned], laidTests := true, laidLooks := .later }
def TagsPlainCardSaid : Prop := Claim7.holds Tryd.pinned (.plain (OpenSpec.ofChange tagsPlainSpec)) tagsPlainCard

/-- THE SECOND FORM's CARD OF 'estraylaw02.TagsChecks'. -/
def tagsChecksUptoCard : Claim7 := { stood := { row := tagsChecksUptoRow, standIns := [], harness := (true, "41043c60fbc177b9edee07b3fc970032890150e51bc268053743f56f6ee43de4"), looks := false }, kinds := [], alts := [], laidByText := true, laidKinds := [.data, .pinned], laidTests := true, laidLooks := .later }
def TagsChecksUptoCardSaid : Prop := Claim7.holds Tryd.pinned (.plain (OpenSpec.upto tagsChecksSpec)) tagsChecksUptoCard

/-- THE SECOND FORM's CARD OF 'estraylaw02.TagsReads'. -/
def tagsReadsUptoCard : Claim7 := { stood := { row := tagsReadsUptoRow, standIns := [], harness := (true, "41043c60fbc177b9edee07b3fc970032890150e51bc268053743f56f6ee43de4"), looks := false }, kinds := [], alts := [], laidByText := true, laidKinds := [.data, .pinned], laidTests := true, laidLooks := .later }
def TagsReadsUptoCardSaid : Prop := Claim7.holds Tryd.pinned (.plain (OpenSpec.upto tagsReadsSpec)) tagsReadsUptoCard

/-- THE SECOND FORM's CARD OF 'estraylaw02.TagsCuts'. -/
def tagsCutsUptoCard : Claim7 := { stood := { row := tagsCutsUptoRow, standIns := [], harness := (true, "41043c60fbc177b9edee07b3fc970032890150e51bc268053743f56f6ee43de4"), looks := false }, kinds := [], alts := [], laidByText := true, laidKinds := [.data, .pinned], laidTests := true, laidLooks := .later }
def TagsCutsUptoCardSaid : Prop := Claim7.holds Tryd.pinned (.plain (OpenSpec.upto tagsCutsSpec)) tagsCutsUptoCard

/-- THE SECOND FORM's CARD OF 'estraylaw02.TagsOrders'. -/
def tagsOrdersUptoCard : Claim7 := { stood := { row := tagsOrdersUptoRow, standIns := [], harness := (true, "41043c60fbc177b9edee07b3fc970032890150e51bc268053743f56f6ee43de4"), looks := false }, kinds := [], alts := [], laidByText := true, laidKinds := [.data, .pinned], laidTests := true, laidLooks := .later }
def TagsOrdersUptoCardSaid : Prop := Claim7.holds Tryd.pinned (.plain (OpenSpec.upto tagsOrdersSpec)) tagsOrdersUptoCard

/-- THE SECOND FORM's CARD OF 'estraylaw02.TagsBack'. -/
def tagsBackUptoCard : Claim7 := { stood := { row := tagsBackUptoRow, standIns := [], harness := (true, "41043c60fbc177b9edee07b3fc970032890150e51bc268053743f56f6ee43de4"), looks := false }, kinds := [], alts := [], laidByText := true, laidKinds := [.data, .pinned], laidTests := true, laidLooks := .later }
def TagsBackUptoCardSaid : Prop := Claim7.holds Tryd.pinned (.plain (OpenSpec.upto tagsBackSpec)) tagsBackUptoCard

/-- THE SECOND FORM's CARD OF 'estraylaw02.TagsRead'. -/
def tagsReadUptoCard : Claim7 := { stood := { row := tagsReadUptoRow, standIns := [], harness := (true, "41043c60fbc177b9edee07b3fc970032890150e51bc268053743f56f6ee43de4"), looks := false }, kinds := [], alts := [], laidByText := true, laidKinds := [.data, .pinned], laidTests := true, laidLooks := .later }
def TagsReadUptoCardSaid : Prop := Claim7.holds Tryd.pinned (.plain (OpenSpec.upto tagsReadSpec)) tagsReadUptoCard

/-- THE SECOND FORM's CARD OF 'estraylaw02.TagsParts'. -/
def tagsPartsUptoCard : Claim7 := { stood := { row := tagsPartsUptoRow, standIns := [], harness := (true, "41043c60fbc177b9edee07b3fc970032890150e51bc268053743f56f6ee43de4"), looks := false }, kinds := [], alts := [], laidByText := true, laidKinds := [.data, .pinned], laidTests := true, laidLooks := .later }
def TagsPartsUptoCardSaid : Prop := Claim7.holds Tryd.pinned (.plain (OpenSpec.upto tagsPartsSpec)) tagsPartsUptoCard

/-- THE SECOND FORM's CARD OF 'estraylaw02.TagsSorts'. -/
def tagsSortsUptoCard : Claim7 := { stood := { row := tagsSortsUptoRow, standIns := [], harness := (true, "41043c60fbc177b9edee07b3fc970032890150e51bc268053743f56f6ee43de4"), looks := false }, kinds := [], alts := [], laidByText := true, laidKinds := [.data, .pinned], laidTests := true, laidLooks := .later }
def TagsSortsUptoCardSaid : Prop := Claim7.holds Tryd.pinned (.plain (OpenSpec.upto tagsSortsSpec)) tagsSortsUptoCard

/-- THE SECOND FORM's CARD OF 'estraylaw02.TagsRefuses'. -/
def tagsRefusesUptoCard : Claim7 := { stood := { row := tagsRefusesUptoRow, standIns := [], harness := (true, "41043c60fbc177b9edee07b3fc970032890150e51bc268053743f56f6ee43de4"), looks := false }, kinds := [], alts := [], laidByText := true, laidKinds := [.data, .pinned], laidTests := true, laidLooks := .later }
def TagsRefusesUptoCardSaid : Prop := Claim7.holds Tryd.pinned (.plain (OpenSpec.upto tagsRefusesSpec)) tagsRefusesUptoCard

/-- THE SECOND FORM's CARD OF 'estraylaw02.TagsPlain'. -/
def tagsPlainUptoCard : Claim7 := { stood := { row := tagsPlainUptoRow, standIns := [], harness := (true, "41043c60fbc177b9edee07b3fc970032890150e51bc268053743f56f6ee43de4"), looks := false }, kinds := [], alts := [], laidByText := true, laidKinds := [.data, .pinned], laidTests := true, laidLooks := .later }
def TagsPlainUptoCardSaid : Prop := Claim7.holds Tryd.pinned (.plain (OpenSpec.upto tagsPlainSpec)) tagsPlainUptoCard
end Rows
end Go.Proofs.YtmgkdklpahggjaaDoor
