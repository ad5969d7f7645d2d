/-
  DERIVED. GIVEN WITH THE SEED: THE CARDS: each row of YtkpgogleehmoaaaDoorRows.lean that lists a variable, with what it lists TIED to the program's text (the seventh form; the later family's looks); each row that meets fmt, with fmt's text TOLD by the authors' own Lean function (tested against real Go, not proved from fmt's source: count such statements apart). THE CARD IS WHAT COUNTS. Prove the row's statement (the work); the ties are given (YtkpgogleehmoaaaDoorTie.lean); close each card by the builder's one call (the guide's Derived/Test/ToyasCard.lean, 'card_holds'). Laid BY PROGRAM, IN A SANDBOX (cutbox-door.mjs). By AI agents, Wed Nov 11 2026. No macro, syntax, notation, axiom, sorry.
-/
import Derived.Test.YtkpgogleehmoaaaDoorRows
import GoSem.ClaimSeven
namespace Go.Proofs.YtkpgogleehmoaaaDoor
namespace Rows

/-- THE TIED CARD OF 'estraylaw01.GensSteps'. -/
def gensStepsCard : Claim7 := { stood := { row := gensStepsRow, standIns := [], harness := (true, "4409c79a954001ef5850c200fc79cb4d6379aad5f9817e91967edeecb478a775"), looks := true }, kinds := [], alts := [], laidByText := true, laidKinds := [.data, .data, .data, .sentinel, .sentinel], laidTests := true, laidLooks := .later }
def GensStepsCardSaid : Prop := Claim7.holds Tryd.pinned (.plain (OpenSpec.ofChange gensStepsSpec)) gensStepsCard

/-- THE TIED CARD OF 'estraylaw01.GensTexts'. -/
def gensTextsCard : Claim7 := { stood := { row := gensTextsRow, standIns := [], harness := (true, "4409c79a954001ef5850c200fc79cb4d6379aad5f9817e91967edeecb478a775"), looks := true }, kinds := [], alts := [], laidByText := true, laidKinds := [.data, .data, .data, .sentinel, .sentinel], laidTests := true, laidLooks := .later }
def GensTextsCardSaid : Prop := Claim7.holds Tryd.pinned (.plain (OpenSpec.ofChange gensTextsSpec)) gensTextsCard

/-- THE TIED CARD OF 'estraylaw01.GensNewer'. -/
def gensNewerCard : Claim7 := { stood := { row := gensNewerRow, standIns := [], harness := (true, "4409c79a954001ef5850c200fc79cb4d6379aad5f9817e91967edeecb478a775"), looks := true }, kinds := [], alts := [], laidByText := true, laidKinds := [.data, .data, .data, .sentinel, .sentinel], laidTests := true, laidLooks := .later }
def GensNewerCardSaid : Prop := Claim7.holds Tryd.pinned (.plain (OpenSpec.ofChange gensNewerSpec)) gensNewerCard

/-- THE TIED CARD OF 'estraylaw01.GensChain'. -/
def gensChainCard : Claim7 := { stood := { row := gensChainRow, standIns := [], harness := (true, "4409c79a954001ef5850c200fc79cb4d6379aad5f9817e91967edeecb478a775"), looks := true }, kinds := [], alts := [], laidByText := true, laidKinds := [.data, .data, .data, .sentinel, .sentinel], laidTests := true, laidLooks := .later }
def GensChainCardSaid : Prop := Claim7.holds Tryd.pinned (.plain (OpenSpec.ofChange gensChainSpec)) gensChainCard

/-- THE TIED CARD OF 'estraylaw01.GensSplit'. -/
def gensSplitCard : Claim7 := { stood := { row := gensSplitRow, standIns := [], harness := (true, "4409c79a954001ef5850c200fc79cb4d6379aad5f9817e91967edeecb478a775"), looks := true }, kinds := [], alts := [], laidByText := true, laidKinds := [.data, .data, .data, .sentinel, .sentinel], laidTests := true, laidLooks := .later }
def GensSplitCardSaid : Prop := Claim7.holds Tryd.pinned (.plain (OpenSpec.ofChange gensSplitSpec)) gensSplitCard

/-- THE TIED CARD OF 'estraylaw01.GensOrder'. -/
def gensOrderCard : Claim7 := { stood := { row := gensOrderRow, standIns := [], harness := (true, "4409c79a954001ef5850c200fc79cb4d6379aad5f9817e91967edeecb478a775"), looks := true }, kinds := [], alts := [], laidByText := true, laidKinds := [.data, .data, .data, .sentinel, .sentinel], laidTests := true, laidLooks := .later }
def GensOrderCardSaid : Prop := Claim7.holds Tryd.pinned (.plain (OpenSpec.ofChange gensOrderSpec)) gensOrderCard

/-- THE TIED CARD OF 'estraylaw01.GensBack'. -/
def gensBackCard : Claim7 := { stood := { row := gensBackRow, standIns := [], harness := (true, "4409c79a954001ef5850c200fc79cb4d6379aad5f9817e91967edeecb478a775"), looks := true }, kinds := [], alts := [], laidByText := true, laidKinds := [.data, .data, .data, .sentinel, .sentinel], laidTests := true, laidLooks := .later }
def GensBackCardSaid : Prop := Claim7.holds Tryd.pinned (.plain (OpenSpec.ofChange gensBackSpec)) gensBackCard

/-- THE TIED CARD OF 'estraylaw01.GensReads'. -/
def gensReadsCard : Claim7 := { stood := { row := gensReadsRow, standIns := [], harness := (true, "4409c79a954001ef5850c200fc79cb4d6379aad5f9817e91967edeecb478a775"), looks := true }, kinds := [], alts := [], laidByText := true, laidKinds := [.data, .data, .data, .sentinel, .sentinel], laidTests := true, laidLooks := .later }
def GensReadsCardSaid : Prop := Claim7.holds Tryd.pinned (.plain (OpenSpec.ofChange gensReadsSpec)) gensReadsCard

/-- THE TIED CARD OF 'estraylaw01.GensNone'. -/
def gensNoneCard : Claim7 := { stood := { row := gensNoneRow, standIns := [], harness := (true, "4409c79a954001ef5850c200fc79cb4d6379aad5f9817e91967edeecb478a775"), looks := true }, kinds := [], alts := [], laidByText := true, laidKinds := [.data, .data, .data, .sentinel, .sentinel], laidTests := true, laidLooks := .later }
def GensNoneCardSaid : Prop := Claim7.holds Tryd.pinned (.plain (OpenSpec.ofChange gensNoneSpec)) gensNoneCard

/-- THE SECOND FORM's CARD OF 'estraylaw01.GensSteps'. -/
def gensStepsUptoCard : Claim7 := { stood := { row := gensStepsUptoRow, standIns := [], harness := (true, "4409c79a954001ef5850c200fc79cb4d6379aad5f9817e91967edeecb478a775"), looks := true }, kinds := [], alts := [], laidByText := true, laidKinds := [.data, .data, .data, .sentinel, .sentinel], laidTests := true, laidLooks := .later }
def GensStepsUptoCardSaid : Prop := Claim7.holds Tryd.pinned (.plain (OpenSpec.upto gensStepsSpec)) gensStepsUptoCard

/-- THE SECOND FORM's CARD OF 'estraylaw01.GensTexts'. -/
def gensTextsUptoCard : Claim7 := { stood := { row := gensTextsUptoRow, standIns := [], harness := (true, "4409c79a954001ef5850c200fc79cb4d6379aad5f9817e91967edeecb478a775"), looks := true }, kinds := [], alts := [], laidByText := true, laidKinds := [.data, .data, .data, .sentinel, .sentinel], laidTests := true, laidLooks := .later }
def GensTextsUptoCardSaid : Prop := Claim7.holds Tryd.pinned (.plain (OpenSpec.upto gensTextsSpec)) gensTextsUptoCard

/-- THE SECOND FORM's CARD OF 'estraylaw01.GensNewer'. -/
def gensNewerUptoCard : Claim7 := { stood := { row := gensNewerUptoRow, standIns := [], harness := (true, "4409c79a954001ef5850c200fc79cb4d6379aad5f9817e91967edeecb478a775"), looks := true }, kinds := [], alts := [], laidByText := true, laidKinds := [.data, .data, .data, .sentinel, .sentinel], laidTests := true, laidLooks := .later }
def GensNewerUptoCardSaid : Prop := Claim7.holds Tryd.pinned (.plain (OpenSpec.upto gensNewerSpec)) gensNewerUptoCard

/-- THE SECOND FORM's CARD OF 'estraylaw01.GensChain'. -/
def gensChainUptoCard : Claim7 := { stood := { row := gensChainUptoRow, standIns := [], harness := (true, "4409c79a954001ef5850c200fc79cb4d6379aad5f9817e91967edeecb478a775"), looks := true }, kinds := [], alts := [], laidByText := true, laidKinds := [.data, .data, .data, .sentinel, .sentinel], laidTests := true, laidLooks := .later }
def GensChainUptoCardSaid : Prop := Claim7.holds Tryd.pinned (.plain (OpenSpec.upto gensChainSpec)) gensChainUptoCard

/-- THE SECOND FORM's CARD OF 'estraylaw01.GensSplit'. -/
def gensSplitUptoCard : Claim7 := { stood := { row := gensSplitUptoRow, standIns := [], harness := (true, "4409c79a954001ef5850c200fc79cb4d6379aad5f9817e91967edeecb478a775"), looks := true }, kinds := [], alts := [], laidByText := true, laidKinds := [.data, .data, .data, .sentinel, .sentinel], laidTests := true, laidLooks := .later }
def GensSplitUptoCardSaid : Prop := Claim7.holds Tryd.pinned (.plain (OpenSpec.upto gensSplitSpec)) gensSplitUptoCard

/-- THE SECOND FORM's CARD OF 'estraylaw01.GensOrder'. -/
def gensOrderUptoCard : Claim7 := { stood := { row := gensOrderUptoRow, standIns := [], harness := (true, "4409c79a954001ef5850c200fc79cb4d6379aad5f9817e91967edeecb478a775"), looks := true }, kinds := [], alts := [], laidByText := true, laidKinds := [.data, .data, .data, .sentinel, .sentinel], laidTests := true, laidLooks := .later }
def GensOrderUptoCardSaid : Prop := Claim7.holds Tryd.pinned (.plain (OpenSpec.upto gensOrderSpec)) gensOrderUptoCard

/-- THE SECOND FORM's CARD OF 'estraylaw01.GensBack'. -/
def gensBackUptoCard : Claim7 := { stood := { row := gensBackUptoRow, standIns := [], harness := (true, "4409c79a954001ef5850c200fc79cb4d6379aad5f9817e91967edeecb478a775"), looks := true }, kinds := [], alts := [], laidByText := true, laidKinds := [.data, .data, .data, .sentinel, .sentinel], laidTests := true, laidLooks := .later }
def GensBackUptoCardSaid : Prop := Claim7.holds Tryd.pinned (.plain (OpenSpec.upto gensBackSpec)) gensBackUptoCard

/-- THE SECOND FORM's CARD OF 'estraylaw01.GensReads'. -/
def gensReadsUptoCard : Claim7 := { stood := { row := gensReadsUptoRow, standIns := [], harness := (true, "4409c79a954001ef5850c200fc79cb4d6379aad5f9817e91967edeecb478a775"), looks := true }, kinds := [], alts := [], laidByText := true, laidKinds := [.data, .data, .data, .sentinel, .sentinel], laidTests := true, laidLooks := .later }
def GensReadsUptoCardSaid : Prop := Claim7.holds Tryd.pinned (.plain (OpenSpec.upto gensReadsSpec)) gensReadsUptoCard

/-- THE SECOND FORM's CARD OF 'estraylaw01.GensNone'. -/
def gensNoneUptoCard : Claim7 := { stood := { row := gensNoneUptoRow, standIns := [], harness := (true, "4409c79a954001ef5850c200fc79cb4d6379aad5f9817e91967edeecb478a775"), looks := true }, kinds := [], alts := [], laidByText := true, laidKinds := [.data, .data, .data, .sentinel, .sentinel], laidTests := true, laidLooks := .later }
def GensNoneUptoCardSaid : Prop := Claim7.holds Tryd.pinned (.plain (OpenSpec.upto gensNoneSpec)) gensNoneUptoCard
end Rows
end Go.Proofs.YtkpgogleehmoaaaDoor
