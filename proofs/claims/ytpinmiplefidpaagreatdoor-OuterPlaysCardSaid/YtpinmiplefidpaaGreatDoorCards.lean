/-
  DERIVED. GIVEN WITH THE SEED: THE CARDS: each row of YtpinmiplefidpaaGreatDoorRows.lean that lists a variable, with what it lists TIED to the program's text (the seventh form; the later family's looks); each row that meets fmt, with fmt's text TOLD by the authors' own Lean function (tested against real Go, not proved from fmt's source: count such statements apart). THE CARD IS WHAT COUNTS. Prove the row's statement (the work); the ties are given (YtpinmiplefidpaaGreatDoorTie.lean); close each card by the builder's one call (the guide's Derived/Test/ToyasCard.lean, 'card_holds'). Laid BY PROGRAM, IN A SANDBOX (cutbox-door.mjs). By AI agents, Wed Nov 11 2026. No macro, syntax, notation, axiom, sorry.
-/
import Derived.Test.YtpinmiplefidpaaGreatDoorRows
import GoSem.ClaimSeven
namespace Go.Proofs.YtpinmiplefidpaaGreatDoor
namespace Rows

/-- THE TIED CARD OF 'estraylaw12.OuterPlays'. -/
def outerPlaysCard : Claim7 := { stood := { row := outerPlaysRow, standIns := [], harness := (true, "49e4fd828d36bdb88b63869169d981d83a4459aebac09372577f83ce38b2c439"), looks := true }, kinds := [], alts := [], laidByText := true, laidKinds := [.widerDeep, .wider, .wider], laidTests := true, laidLooks := .later }
def OuterPlaysCardSaid : Prop := Claim7.holds Tryz.pinned (.plain (OpenSpec.ofChange outerPlaysSpec)) outerPlaysCard

/-- THE TIED CARD OF 'estraylaw12.OuterNil'. -/
def outerNilCard : Claim7 := { stood := { row := outerNilRow, standIns := [], harness := (true, "49e4fd828d36bdb88b63869169d981d83a4459aebac09372577f83ce38b2c439"), looks := true }, kinds := [], alts := [], laidByText := true, laidKinds := [.widerDeep, .wider, .wider], laidTests := true, laidLooks := .later }
def OuterNilCardSaid : Prop := Claim7.holds Tryz.pinned (.plain (OpenSpec.ofChange outerNilSpec)) outerNilCard

/-- THE TIED CARD OF 'estraylaw12.OuterOnce'. -/
def outerOnceCard : Claim7 := { stood := { row := outerOnceRow, standIns := [], harness := (true, "49e4fd828d36bdb88b63869169d981d83a4459aebac09372577f83ce38b2c439"), looks := true }, kinds := [], alts := [], laidByText := true, laidKinds := [.widerDeep, .wider, .wider], laidTests := true, laidLooks := .later }
def OuterOnceCardSaid : Prop := Claim7.holds Tryz.pinned (.plain (OpenSpec.ofChange outerOnceSpec)) outerOnceCard

/-- THE TIED CARD OF 'estraylaw12.OuterAnswers'. -/
def outerAnswersCard : Claim7 := { stood := { row := outerAnswersRow, standIns := [], harness := (true, "49e4fd828d36bdb88b63869169d981d83a4459aebac09372577f83ce38b2c439"), looks := true }, kinds := [], alts := [], laidByText := true, laidKinds := [.widerDeep, .wider, .wider], laidTests := true, laidLooks := .later }
def OuterAnswersCardSaid : Prop := Claim7.holds Tryz.pinned (.plain (OpenSpec.ofChange outerAnswersSpec)) outerAnswersCard

/-- THE TIED CARD OF 'estraylaw12.OuterTold'. -/
def outerToldCard : Claim7 := { stood := { row := outerToldRow, standIns := [], harness := (true, "49e4fd828d36bdb88b63869169d981d83a4459aebac09372577f83ce38b2c439"), looks := true }, kinds := [], alts := [], laidByText := true, laidKinds := [.widerDeep, .wider, .wider], laidTests := true, laidLooks := .later }
def OuterToldCardSaid : Prop := Claim7.holds Tryz.pinned (.plain (OpenSpec.ofChange outerToldSpec)) outerToldCard

/-- THE TIED CARD OF 'estraylaw12.OuterRefuses'. -/
def outerRefusesCard : Claim7 := { stood := { row := outerRefusesRow, standIns := [], harness := (true, "49e4fd828d36bdb88b63869169d981d83a4459aebac09372577f83ce38b2c439"), looks := true }, kinds := [], alts := [], laidByText := true, laidKinds := [.widerDeep, .wider, .wider], laidTests := true, laidLooks := .later }
def OuterRefusesCardSaid : Prop := Claim7.holds Tryz.pinned (.plain (OpenSpec.ofChange outerRefusesSpec)) outerRefusesCard

/-- THE TIED CARD OF 'estraylaw12.OuterTimes'. -/
def outerTimesCard : Claim7 := { stood := { row := outerTimesRow, standIns := [], harness := (true, "49e4fd828d36bdb88b63869169d981d83a4459aebac09372577f83ce38b2c439"), looks := true }, kinds := [], alts := [], laidByText := true, laidKinds := [.widerDeep, .wider, .wider], laidTests := true, laidLooks := .later }
def OuterTimesCardSaid : Prop := Claim7.holds Tryz.pinned (.plain (OpenSpec.ofChange outerTimesSpec)) outerTimesCard

/-- THE TIED CARD OF 'estraylaw12.OuterCopies'. -/
def outerCopiesCard : Claim7 := { stood := { row := outerCopiesRow, standIns := [], harness := (true, "49e4fd828d36bdb88b63869169d981d83a4459aebac09372577f83ce38b2c439"), looks := true }, kinds := [], alts := [], laidByText := true, laidKinds := [.widerDeep, .wider, .wider], laidTests := true, laidLooks := .later }
def OuterCopiesCardSaid : Prop := Claim7.holds Tryz.pinned (.plain (OpenSpec.ofChange outerCopiesSpec)) outerCopiesCard

/-- THE TIED CARD OF 'estraylaw12.OuterKnown'. -/
def outerKnownCard : Claim7 := { stood := { row := outerKnownRow, standIns := [], harness := (true, "49e4fd828d36bdb88b63869169d981d83a4459aebac09372577f83ce38b2c439"), looks := true }, kinds := [], alts := [], laidByText := true, laidKinds := [.widerDeep, .wider, .wider], laidTests := true, laidLooks := .later }
def OuterKnownCardSaid : Prop := Claim7.holds Tryz.pinned (.plain (OpenSpec.ofChange outerKnownSpec)) outerKnownCard

/-- THE SECOND FORM's CARD OF 'estraylaw12.OuterPlays'. -/
def outerPlaysUptoCard : Claim7 := { stood := { row := outerPlaysUptoRow, standIns := [], harness := (true, "49e4fd828d36bdb88b63869169d981d83a4459aebac09372577f83ce38b2c439"), looks := true }, kinds := [], alts := [], laidByText := true, laidKinds := [.widerDeep, .wider, .wider], laidTests := true, laidLooks := .later }
def OuterPlaysUptoCardSaid : Prop := Claim7.holds Tryz.pinned (.plain (OpenSpec.upto outerPlaysSpec)) outerPlaysUptoCard

/-- THE SECOND FORM's CARD OF 'estraylaw12.OuterNil'. -/
def outerNilUptoCard : Claim7 := { stood := { row := outerNilUptoRow, standIns := [], harness := (true, "49e4fd828d36bdb88b63869169d981d83a4459aebac09372577f83ce38b2c439"), looks := true }, kinds := [], alts := [], laidByText := true, laidKinds := [.widerDeep, .wider, .wider], laidTests := true, laidLooks := .later }
def OuterNilUptoCardSaid : Prop := Claim7.holds Tryz.pinned (.plain (OpenSpec.upto outerNilSpec)) outerNilUptoCard

/-- THE SECOND FORM's CARD OF 'estraylaw12.OuterOnce'. -/
def outerOnceUptoCard : Claim7 := { stood := { row := outerOnceUptoRow, standIns := [], harness := (true, "49e4fd828d36bdb88b63869169d981d83a4459aebac09372577f83ce38b2c439"), looks := true }, kinds := [], alts := [], laidByText := true, laidKinds := [.widerDeep, .wider, .wider], laidTests := true, laidLooks := .later }
def OuterOnceUptoCardSaid : Prop := Claim7.holds Tryz.pinned (.plain (OpenSpec.upto outerOnceSpec)) outerOnceUptoCard

/-- THE SECOND FORM's CARD OF 'estraylaw12.OuterAnswers'. -/
def outerAnswersUptoCard : Claim7 := { stood := { row := outerAnswersUptoRow, standIns := [], harness := (true, "49e4fd828d36bdb88b63869169d981d83a4459aebac09372577f83ce38b2c439"), looks := true }, kinds := [], alts := [], laidByText := true, laidKinds := [.widerDeep, .wider, .wider], laidTests := true, laidLooks := .later }
def OuterAnswersUptoCardSaid : Prop := Claim7.holds Tryz.pinned (.plain (OpenSpec.upto outerAnswersSpec)) outerAnswersUptoCard

/-- THE SECOND FORM's CARD OF 'estraylaw12.OuterTold'. -/
def outerToldUptoCard : Claim7 := { stood := { row := outerToldUptoRow, standIns := [], harness := (true, "49e4fd828d36bdb88b63869169d981d83a4459aebac09372577f83ce38b2c439"), looks := true }, kinds := [], alts := [], laidByText := true, laidKinds := [.widerDeep, .wider, .wider], laidTests := true, laidLooks := .later }
def OuterToldUptoCardSaid : Prop := Claim7.holds Tryz.pinned (.plain (OpenSpec.upto outerToldSpec)) outerToldUptoCard

/-- THE SECOND FORM's CARD OF 'estraylaw12.OuterRefuses'. -/
def outerRefusesUptoCard : Claim7 := { stood := { row := outerRefusesUptoRow, standIns := [], harness := (true, "49e4fd828d36bdb88b63869169d981d83a4459aebac09372577f83ce38b2c439"), looks := true }, kinds := [], alts := [], laidByText := true, laidKinds := [.widerDeep, .wider, .wider], laidTests := true, laidLooks := .later }
def OuterRefusesUptoCardSaid : Prop := Claim7.holds Tryz.pinned (.plain (OpenSpec.upto outerRefusesSpec)) outerRefusesUptoCard

/-- THE SECOND FORM's CARD OF 'estraylaw12.OuterTimes'. -/
def outerTimesUptoCard : Claim7 := { stood := { row := outerTimesUptoRow, standIns := [], harness := (true, "49e4fd828d36bdb88b63869169d981d83a4459aebac09372577f83ce38b2c439"), looks := true }, kinds := [], alts := [], laidByText := true, laidKinds := [.widerDeep, .wider, .wider], laidTests := true, laidLooks := .later }
def OuterTimesUptoCardSaid : Prop := Claim7.holds Tryz.pinned (.plain (OpenSpec.upto outerTimesSpec)) outerTimesUptoCard

/-- THE SECOND FORM's CARD OF 'estraylaw12.OuterCopies'. -/
def outerCopiesUptoCard : Claim7 := { stood := { row := outerCopiesUptoRow, standIns := [], harness := (true, "49e4fd828d36bdb88b63869169d981d83a4459aebac09372577f83ce38b2c439"), looks := true }, kinds := [], alts := [], laidByText := true, laidKinds := [.widerDeep, .wider, .wider], laidTests := true, laidLooks := .later }
def OuterCopiesUptoCardSaid : Prop := Claim7.holds Tryz.pinned (.plain (OpenSpec.upto outerCopiesSpec)) outerCopiesUptoCard

/-- THE SECOND FORM's CARD OF 'estraylaw12.OuterKnown'. -/
def outerKnownUptoCard : Claim7 := { stood := { row := outerKnownUptoRow, standIns := [], harness := (true, "49e4fd828d36bdb88b63869169d981d83a4459aebac09372577f83ce38b2c439"), looks := true }, kinds := [], alts := [], laidByText := true, laidKinds := [.widerDeep, .wider, .wider], laidTests := true, laidLooks := .later }
def OuterKnownUptoCardSaid : Prop := Claim7.holds Tryz.pinned (.plain (OpenSpec.upto outerKnownSpec)) outerKnownUptoCard
end Rows
end Go.Proofs.YtpinmiplefidpaaGreatDoor
