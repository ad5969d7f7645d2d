/-
  NARROWER THAN 'FOR EVERY INPUT', by the rows' own cells (each row's printed sentence says how): OuterPlays: laid · OuterNil: laid · OuterOnce: laid · OuterAnswers: laid · OuterTold: laid · OuterRefuses: laid · OuterTimes: laid · OuterCopies: laid · OuterKnown: laid.
  DERIVED. THE GIVEN ROWS OF THIS SEAT. 9 by the template 'for every input the law returns true; each argument reads behind the call as it read before'; 0 by the template 'total and deterministic' (their statements: YtpinmiplefidpaaGreatDoorTotals.lean).
  GIVEN WITH THE SEED: the statements are not yours to turn. If you find one false, say at which input.
  Laid BY PROGRAM, IN A SANDBOX (cutbox-rows.mjs): the forced cells as the released guide's own fill.sh prints them over the translation 1dfb945bd6388257… (all of the seat's roots in one cut). By AI agents, Wed Nov 11 2026. No macro, syntax, notation, axiom, sorry.
-/
import Derived.Test.YtpinmiplefidpaaGreatDoorChecked
import GoSem.Claim
import GoSem.ClaimJoined
import GoSem.ClaimMapViews
import Derived.JoinedTies
import Derived.KernelRfl
namespace Go.Proofs.YtpinmiplefidpaaGreatDoor
/- THE CELL 'sum', in the pinned program and in every row, IS THE sha256 OF THE DUMP (.gsa) THAT YtpinmiplefidpaaGreatDoorProg.lean LOADS. Nothing in Lean hashes anything: it is a label: what it is worth is what the hold of that sum in a sandbox is worth. -/
noncomputable def Tryz.pinned : Pinned := { name := "ytpinmiplefidpaagreatdoor", sum := "1dfb945bd6388257fcdcf7386deb546f5a1ad7b03fb01dc118a31c7627940d3e", checked := Tryz.checked }
namespace Rows
def none {H : Type} : Left H := { results := [], args := [] }

/- WHAT THE LISTED PACKAGE-LEVEL VARIABLES READ AS WHEN THE CALL BEGINS. Each datum BY PROGRAM (the guide's laid-datum.mjs) off the statement by which the dump's own 'gosem.cut.vars' lays the variable. In a bare row this is a premise. The card (YtpinmiplefidpaaGreatDoorCards.lean) ties it to the program's text. -/
def laid_estray_answer_letters {H : Type} : DataW H := .agg [.lit (.int .u8 0), .lit (.int .u8 111), .lit (.int .u8 108), .lit (.int .u8 102)]
def laid_estray_ledger_whys {H : Type} : DataW H := .agg [.lit (.string []), .lit (.string [99, 108, 111, 115, 101]), .lit (.string [101, 120, 112, 105, 114, 121]), .lit (.string [99, 111, 108, 108, 101, 99, 116])]
def laid_estray_ledger_answers {H : Type} : DataW H := .agg [.lit (.string []), .lit (.string [111, 107]), .lit (.string [108, 97, 116, 101, 114]), .lit (.string [102, 97, 105, 108])]

/-- 'estraylaw12.OuterPlays': WHATEVER THE INPUT: true; the input reads as it did. -/
def outerPlaysSpec : ChangeSpec := { name := "outerPlays", fn := fun _ => fun
  | [d1, d2, d3] => { results := [.lit (.bool true)], args := [d1, d2, d3] }
  | _ => none }
def outerPlaysRow : OpenClaim := { program := "ytpinmiplefidpaagreatdoor", sum := "1dfb945bd6388257fcdcf7386deb546f5a1ad7b03fb01dc118a31c7627940d3e", func := "estray/estraylaw12.OuterPlays", spec := "outerPlays", unfollowed := true, recurses := true, named := ["estray/answer.letters", "estray/ledger.whys", "estray/ledger.answers"], plainKeys := false, apart := false, laid := [("estray/answer.letters", laid_estray_answer_letters), ("estray/ledger.whys", laid_estray_ledger_whys), ("estray/ledger.answers", laid_estray_ledger_answers)] }
def OuterPlaysSaid : Prop := outerPlaysRow.holds Tryz.pinned (OpenSpec.ofChange outerPlaysSpec)

/-- ITS FALSE NEIGHBOUR: 'it returns false'. Refute it at one input. -/
def outerPlaysWrong : ChangeSpec := { name := "outerPlays", fn := fun _ => fun
  | [d1, d2, d3] => { results := [.lit (.bool false)], args := [d1, d2, d3] }
  | _ => none }
def OuterPlaysWrongFalsely : Prop := outerPlaysRow.holds Tryz.pinned (OpenSpec.ofChange outerPlaysWrong)

/-- 'estraylaw12.OuterNil': WHATEVER THE INPUT: true; the input reads as it did. -/
def outerNilSpec : ChangeSpec := { name := "outerNil", fn := fun _ => fun
  | [d] => { results := [.lit (.bool true)], args := [d] }
  | _ => none }
def outerNilRow : OpenClaim := { program := "ytpinmiplefidpaagreatdoor", sum := "1dfb945bd6388257fcdcf7386deb546f5a1ad7b03fb01dc118a31c7627940d3e", func := "estray/estraylaw12.OuterNil", spec := "outerNil", unfollowed := true, recurses := true, named := ["estray/answer.letters", "estray/ledger.whys", "estray/ledger.answers"], plainKeys := false, apart := false, laid := [("estray/answer.letters", laid_estray_answer_letters), ("estray/ledger.whys", laid_estray_ledger_whys), ("estray/ledger.answers", laid_estray_ledger_answers)] }
def OuterNilSaid : Prop := outerNilRow.holds Tryz.pinned (OpenSpec.ofChange outerNilSpec)

/-- ITS FALSE NEIGHBOUR: 'it returns false'. Refute it at one input. -/
def outerNilWrong : ChangeSpec := { name := "outerNil", fn := fun _ => fun
  | [d] => { results := [.lit (.bool false)], args := [d] }
  | _ => none }
def OuterNilWrongFalsely : Prop := outerNilRow.holds Tryz.pinned (OpenSpec.ofChange outerNilWrong)

/-- 'estraylaw12.OuterOnce': WHATEVER THE INPUT: true; the input reads as it did. -/
def outerOnceSpec : ChangeSpec := { name := "outerOnce", fn := fun _ => fun
  | [d] => { results := [.lit (.bool true)], args := [d] }
  | _ => none }
def outerOnceRow : OpenClaim := { program := "ytpinmiplefidpaagreatdoor", sum := "1dfb945bd6388257fcdcf7386deb546f5a1ad7b03fb01dc118a31c7627940d3e", func := "estray/estraylaw12.OuterOnce", spec := "outerOnce", unfollowed := true, recurses := true, named := ["estray/answer.letters", "estray/ledger.whys", "estray/ledger.answers"], plainKeys := false, apart := false, laid := [("estray/answer.letters", laid_estray_answer_letters), ("estray/ledger.whys", laid_estray_ledger_whys), ("estray/ledger.answers", laid_estray_ledger_answers)] }
def OuterOnceSaid : Prop := outerOnceRow.holds Tryz.pinned (OpenSpec.ofChange outerOnceSpec)

/-- ITS FALSE NEIGHBOUR: 'it returns false'. Refute it at one input. -/
def outerOnceWrong : ChangeSpec := { name := "outerOnce", fn := fun _ => fun
  | [d] => { results := [.lit (.bool false)], args := [d] }
  | _ => none }
def OuterOnceWrongFalsely : Prop := outerOnceRow.holds Tryz.pinned (OpenSpec.ofChange outerOnceWrong)

/-- 'estraylaw12.OuterAnswers': WHATEVER THE INPUT: true; the input reads as it did. -/
def outerAnswersSpec : ChangeSpec := { name := "outerAnswers", fn := fun _ => fun
  | [d1, d2, d3, d4, d5] => { results := [.lit (.bool true)], args := [d1, d2, d3, d4, d5] }
  | _ => none }
def outerAnswersRow : OpenClaim := { program := "ytpinmiplefidpaagreatdoor", sum := "1dfb945bd6388257fcdcf7386deb546f5a1ad7b03fb01dc118a31c7627940d3e", func := "estray/estraylaw12.OuterAnswers", spec := "outerAnswers", unfollowed := true, recurses := true, named := ["estray/answer.letters", "estray/ledger.whys", "estray/ledger.answers"], plainKeys := false, apart := false, laid := [("estray/answer.letters", laid_estray_answer_letters), ("estray/ledger.whys", laid_estray_ledger_whys), ("estray/ledger.answers", laid_estray_ledger_answers)] }
def OuterAnswersSaid : Prop := outerAnswersRow.holds Tryz.pinned (OpenSpec.ofChange outerAnswersSpec)

/-- ITS FALSE NEIGHBOUR: 'it returns false'. Refute it at one input. -/
def outerAnswersWrong : ChangeSpec := { name := "outerAnswers", fn := fun _ => fun
  | [d1, d2, d3, d4, d5] => { results := [.lit (.bool false)], args := [d1, d2, d3, d4, d5] }
  | _ => none }
def OuterAnswersWrongFalsely : Prop := outerAnswersRow.holds Tryz.pinned (OpenSpec.ofChange outerAnswersWrong)

/-- 'estraylaw12.OuterTold': WHATEVER THE INPUT: true; the input reads as it did. -/
def outerToldSpec : ChangeSpec := { name := "outerTold", fn := fun _ => fun
  | [d1, d2] => { results := [.lit (.bool true)], args := [d1, d2] }
  | _ => none }
def outerToldRow : OpenClaim := { program := "ytpinmiplefidpaagreatdoor", sum := "1dfb945bd6388257fcdcf7386deb546f5a1ad7b03fb01dc118a31c7627940d3e", func := "estray/estraylaw12.OuterTold", spec := "outerTold", unfollowed := true, recurses := true, named := ["estray/answer.letters", "estray/ledger.whys", "estray/ledger.answers"], plainKeys := false, apart := false, laid := [("estray/answer.letters", laid_estray_answer_letters), ("estray/ledger.whys", laid_estray_ledger_whys), ("estray/ledger.answers", laid_estray_ledger_answers)] }
def OuterToldSaid : Prop := outerToldRow.holds Tryz.pinned (OpenSpec.ofChange outerToldSpec)

/-- ITS FALSE NEIGHBOUR: 'it returns false'. Refute it at one input. -/
def outerToldWrong : ChangeSpec := { name := "outerTold", fn := fun _ => fun
  | [d1, d2] => { results := [.lit (.bool false)], args := [d1, d2] }
  | _ => none }
def OuterToldWrongFalsely : Prop := outerToldRow.holds Tryz.pinned (OpenSpec.ofChange outerToldWrong)

/-- 'estraylaw12.OuterRefuses': WHATEVER THE INPUT: true; the input reads as it did. -/
def outerRefusesSpec : ChangeSpec := { name := "outerRefuses", fn := fun _ => fun
  | [d1, d2, d3, d4] => { results := [.lit (.bool true)], args := [d1, d2, d3, d4] }
  | _ => none }
def outerRefusesRow : OpenClaim := { program := "ytpinmiplefidpaagreatdoor", sum := "1dfb945bd6388257fcdcf7386deb546f5a1ad7b03fb01dc118a31c7627940d3e", func := "estray/estraylaw12.OuterRefuses", spec := "outerRefuses", unfollowed := true, recurses := true, named := ["estray/answer.letters", "estray/ledger.whys", "estray/ledger.answers"], plainKeys := false, apart := false, laid := [("estray/answer.letters", laid_estray_answer_letters), ("estray/ledger.whys", laid_estray_ledger_whys), ("estray/ledger.answers", laid_estray_ledger_answers)] }
def OuterRefusesSaid : Prop := outerRefusesRow.holds Tryz.pinned (OpenSpec.ofChange outerRefusesSpec)

/-- ITS FALSE NEIGHBOUR: 'it returns false'. Refute it at one input. -/
def outerRefusesWrong : ChangeSpec := { name := "outerRefuses", fn := fun _ => fun
  | [d1, d2, d3, d4] => { results := [.lit (.bool false)], args := [d1, d2, d3, d4] }
  | _ => none }
def OuterRefusesWrongFalsely : Prop := outerRefusesRow.holds Tryz.pinned (OpenSpec.ofChange outerRefusesWrong)

/-- 'estraylaw12.OuterTimes': WHATEVER THE INPUT: true; the input reads as it did. -/
def outerTimesSpec : ChangeSpec := { name := "outerTimes", fn := fun _ => fun
  | [d] => { results := [.lit (.bool true)], args := [d] }
  | _ => none }
def outerTimesRow : OpenClaim := { program := "ytpinmiplefidpaagreatdoor", sum := "1dfb945bd6388257fcdcf7386deb546f5a1ad7b03fb01dc118a31c7627940d3e", func := "estray/estraylaw12.OuterTimes", spec := "outerTimes", unfollowed := true, recurses := true, named := ["estray/answer.letters", "estray/ledger.whys", "estray/ledger.answers"], plainKeys := false, apart := false, laid := [("estray/answer.letters", laid_estray_answer_letters), ("estray/ledger.whys", laid_estray_ledger_whys), ("estray/ledger.answers", laid_estray_ledger_answers)] }
def OuterTimesSaid : Prop := outerTimesRow.holds Tryz.pinned (OpenSpec.ofChange outerTimesSpec)

/-- ITS FALSE NEIGHBOUR: 'it returns false'. Refute it at one input. -/
def outerTimesWrong : ChangeSpec := { name := "outerTimes", fn := fun _ => fun
  | [d] => { results := [.lit (.bool false)], args := [d] }
  | _ => none }
def OuterTimesWrongFalsely : Prop := outerTimesRow.holds Tryz.pinned (OpenSpec.ofChange outerTimesWrong)

/-- 'estraylaw12.OuterCopies': WHATEVER THE INPUT: true; the input reads as it did. -/
def outerCopiesSpec : ChangeSpec := { name := "outerCopies", fn := fun _ => fun
  | [d1, d2] => { results := [.lit (.bool true)], args := [d1, d2] }
  | _ => none }
def outerCopiesRow : OpenClaim := { program := "ytpinmiplefidpaagreatdoor", sum := "1dfb945bd6388257fcdcf7386deb546f5a1ad7b03fb01dc118a31c7627940d3e", func := "estray/estraylaw12.OuterCopies", spec := "outerCopies", unfollowed := true, recurses := true, named := ["estray/answer.letters", "estray/ledger.whys", "estray/ledger.answers"], plainKeys := false, apart := false, laid := [("estray/answer.letters", laid_estray_answer_letters), ("estray/ledger.whys", laid_estray_ledger_whys), ("estray/ledger.answers", laid_estray_ledger_answers)] }
def OuterCopiesSaid : Prop := outerCopiesRow.holds Tryz.pinned (OpenSpec.ofChange outerCopiesSpec)

/-- ITS FALSE NEIGHBOUR: 'it returns false'. Refute it at one input. -/
def outerCopiesWrong : ChangeSpec := { name := "outerCopies", fn := fun _ => fun
  | [d1, d2] => { results := [.lit (.bool false)], args := [d1, d2] }
  | _ => none }
def OuterCopiesWrongFalsely : Prop := outerCopiesRow.holds Tryz.pinned (OpenSpec.ofChange outerCopiesWrong)

/-- 'estraylaw12.OuterKnown': WHATEVER THE INPUT: true; the input reads as it did. -/
def outerKnownSpec : ChangeSpec := { name := "outerKnown", fn := fun _ => fun
  | [] => { results := [.lit (.bool true)], args := [] }
  | _ => none }
def outerKnownRow : OpenClaim := { program := "ytpinmiplefidpaagreatdoor", sum := "1dfb945bd6388257fcdcf7386deb546f5a1ad7b03fb01dc118a31c7627940d3e", func := "estray/estraylaw12.OuterKnown", spec := "outerKnown", unfollowed := true, recurses := true, named := ["estray/answer.letters", "estray/ledger.whys", "estray/ledger.answers"], plainKeys := false, apart := false, laid := [("estray/answer.letters", laid_estray_answer_letters), ("estray/ledger.whys", laid_estray_ledger_whys), ("estray/ledger.answers", laid_estray_ledger_answers)] }
def OuterKnownSaid : Prop := outerKnownRow.holds Tryz.pinned (OpenSpec.ofChange outerKnownSpec)

/-- ITS FALSE NEIGHBOUR: 'it returns false'. Refute it at one input. -/
def outerKnownWrong : ChangeSpec := { name := "outerKnown", fn := fun _ => fun
  | [] => { results := [.lit (.bool false)], args := [] }
  | _ => none }
def OuterKnownWrongFalsely : Prop := outerKnownRow.holds Tryz.pinned (OpenSpec.ofChange outerKnownWrong)

/- THE SECOND FORM. 'bulk': how many values and letters a reading holds, each counted each time it is reached (what is shared counts as often as it is met; a slice's spare places count too). A statement '..UptoSaid' is the law's where the arguments, and the package variables that the reading takes, are together of bulk at most 1048576: NARROWER than '..Said'. Prove '..Said' where nothing that the law and all that it calls make is longer than what came in: it says more and counts as full. Else prove '..UptoSaid'. A law counts once. -/
mutual
def uptoBulk {H : Type} : DataW H → Nat
  | .lit (.string bytes) => bytes.length + 1
  | .lit _ => 1
  | .nil => 1
  | .ptr d => uptoBulk d + 1
  | .slice elems spare => uptoBulkAll elems + uptoBulkAll spare + 1
  | .agg parts => uptoBulkAll parts + 1
  | .iface _ d => uptoBulk d + 1
  | .map entries => uptoBulkEntries entries + 1
  | .held _ => 1
def uptoBulkAll {H : Type} : List (DataW H) → Nat
  | [] => 0
  | d :: r => uptoBulk d + uptoBulkAll r
def uptoBulkEntries {H : Type} : List (Lit × DataW H) → Nat
  | [] => 0
  | x :: r => uptoBulkEntry x + uptoBulkEntries r
def uptoBulkEntry {H : Type} : Lit × DataW H → Nat
  | (.string bytes, d) => bytes.length + uptoBulk d + 1
  | (_, d) => uptoBulk d + 1
 end
def uptoSmall : (H : Type) → List (DataW H) → Bool := fun _ ds => decide (uptoBulkAll ds ≤ 1048576)
def OpenSpec.upto (s : _root_.Go.ChangeSpec) : _root_.Go.OpenSpec := { _root_.Go.OpenSpec.ofChange s with cond := some uptoSmall }

/-- 'estraylaw12.OuterPlays', WHERE WHAT IT READS IS OF BULK AT MOST 1048576: true; the input reads as it did. -/
def outerPlaysUptoRow : OpenClaim := { program := "ytpinmiplefidpaagreatdoor", sum := "1dfb945bd6388257fcdcf7386deb546f5a1ad7b03fb01dc118a31c7627940d3e", func := "estray/estraylaw12.OuterPlays", spec := "outerPlays", unfollowed := true, recurses := true, named := ["estray/answer.letters", "estray/ledger.whys", "estray/ledger.answers"], plainKeys := false, apart := false, laid := [("estray/answer.letters", laid_estray_answer_letters), ("estray/ledger.whys", laid_estray_ledger_whys), ("estray/ledger.answers", laid_estray_ledger_answers)], narrowed := true }
def OuterPlaysUptoSaid : Prop := outerPlaysUptoRow.holds Tryz.pinned (OpenSpec.upto outerPlaysSpec)

/-- 'estraylaw12.OuterNil', WHERE WHAT IT READS IS OF BULK AT MOST 1048576: true; the input reads as it did. -/
def outerNilUptoRow : OpenClaim := { program := "ytpinmiplefidpaagreatdoor", sum := "1dfb945bd6388257fcdcf7386deb546f5a1ad7b03fb01dc118a31c7627940d3e", func := "estray/estraylaw12.OuterNil", spec := "outerNil", unfollowed := true, recurses := true, named := ["estray/answer.letters", "estray/ledger.whys", "estray/ledger.answers"], plainKeys := false, apart := false, laid := [("estray/answer.letters", laid_estray_answer_letters), ("estray/ledger.whys", laid_estray_ledger_whys), ("estray/ledger.answers", laid_estray_ledger_answers)], narrowed := true }
def OuterNilUptoSaid : Prop := outerNilUptoRow.holds Tryz.pinned (OpenSpec.upto outerNilSpec)

/-- 'estraylaw12.OuterOnce', WHERE WHAT IT READS IS OF BULK AT MOST 1048576: true; the input reads as it did. -/
def outerOnceUptoRow : OpenClaim := { program := "ytpinmiplefidpaagreatdoor", sum := "1dfb945bd6388257fcdcf7386deb546f5a1ad7b03fb01dc118a31c7627940d3e", func := "estray/estraylaw12.OuterOnce", spec := "outerOnce", unfollowed := true, recurses := true, named := ["estray/answer.letters", "estray/ledger.whys", "estray/ledger.answers"], plainKeys := false, apart := false, laid := [("estray/answer.letters", laid_estray_answer_letters), ("estray/ledger.whys", laid_estray_ledger_whys), ("estray/ledger.answers", laid_estray_ledger_answers)], narrowed := true }
def OuterOnceUptoSaid : Prop := outerOnceUptoRow.holds Tryz.pinned (OpenSpec.upto outerOnceSpec)

/-- 'estraylaw12.OuterAnswers', WHERE WHAT IT READS IS OF BULK AT MOST 1048576: true; the input reads as it did. -/
def outerAnswersUptoRow : OpenClaim := { program := "ytpinmiplefidpaagreatdoor", sum := "1dfb945bd6388257fcdcf7386deb546f5a1ad7b03fb01dc118a31c7627940d3e", func := "estray/estraylaw12.OuterAnswers", spec := "outerAnswers", unfollowed := true, recurses := true, named := ["estray/answer.letters", "estray/ledger.whys", "estray/ledger.answers"], plainKeys := false, apart := false, laid := [("estray/answer.letters", laid_estray_answer_letters), ("estray/ledger.whys", laid_estray_ledger_whys), ("estray/ledger.answers", laid_estray_ledger_answers)], narrowed := true }
def OuterAnswersUptoSaid : Prop := outerAnswersUptoRow.holds Tryz.pinned (OpenSpec.upto outerAnswersSpec)

/-- 'estraylaw12.OuterTold', WHERE WHAT IT READS IS OF BULK AT MOST 1048576: true; the input reads as it did. -/
def outerToldUptoRow : OpenClaim := { program := "ytpinmiplefidpaagreatdoor", sum := "1dfb945bd6388257fcdcf7386deb546f5a1ad7b03fb01dc118a31c7627940d3e", func := "estray/estraylaw12.OuterTold", spec := "outerTold", unfollowed := true, recurses := true, named := ["estray/answer.letters", "estray/ledger.whys", "estray/ledger.answers"], plainKeys := false, apart := false, laid := [("estray/answer.letters", laid_estray_answer_letters), ("estray/ledger.whys", laid_estray_ledger_whys), ("estray/ledger.answers", laid_estray_ledger_answers)], narrowed := true }
def OuterToldUptoSaid : Prop := outerToldUptoRow.holds Tryz.pinned (OpenSpec.upto outerToldSpec)

/-- 'estraylaw12.OuterRefuses', WHERE WHAT IT READS IS OF BULK AT MOST 1048576: true; the input reads as it did. -/
def outerRefusesUptoRow : OpenClaim := { program := "ytpinmiplefidpaagreatdoor", sum := "1dfb945bd6388257fcdcf7386deb546f5a1ad7b03fb01dc118a31c7627940d3e", func := "estray/estraylaw12.OuterRefuses", spec := "outerRefuses", unfollowed := true, recurses := true, named := ["estray/answer.letters", "estray/ledger.whys", "estray/ledger.answers"], plainKeys := false, apart := false, laid := [("estray/answer.letters", laid_estray_answer_letters), ("estray/ledger.whys", laid_estray_ledger_whys), ("estray/ledger.answers", laid_estray_ledger_answers)], narrowed := true }
def OuterRefusesUptoSaid : Prop := outerRefusesUptoRow.holds Tryz.pinned (OpenSpec.upto outerRefusesSpec)

/-- 'estraylaw12.OuterTimes', WHERE WHAT IT READS IS OF BULK AT MOST 1048576: true; the input reads as it did. -/
def outerTimesUptoRow : OpenClaim := { program := "ytpinmiplefidpaagreatdoor", sum := "1dfb945bd6388257fcdcf7386deb546f5a1ad7b03fb01dc118a31c7627940d3e", func := "estray/estraylaw12.OuterTimes", spec := "outerTimes", unfollowed := true, recurses := true, named := ["estray/answer.letters", "estray/ledger.whys", "estray/ledger.answers"], plainKeys := false, apart := false, laid := [("estray/answer.letters", laid_estray_answer_letters), ("estray/ledger.whys", laid_estray_ledger_whys), ("estray/ledger.answers", laid_estray_ledger_answers)], narrowed := true }
def OuterTimesUptoSaid : Prop := outerTimesUptoRow.holds Tryz.pinned (OpenSpec.upto outerTimesSpec)

/-- 'estraylaw12.OuterCopies', WHERE WHAT IT READS IS OF BULK AT MOST 1048576: true; the input reads as it did. -/
def outerCopiesUptoRow : OpenClaim := { program := "ytpinmiplefidpaagreatdoor", sum := "1dfb945bd6388257fcdcf7386deb546f5a1ad7b03fb01dc118a31c7627940d3e", func := "estray/estraylaw12.OuterCopies", spec := "outerCopies", unfollowed := true, recurses := true, named := ["estray/answer.letters", "estray/ledger.whys", "estray/ledger.answers"], plainKeys := false, apart := false, laid := [("estray/answer.letters", laid_estray_answer_letters), ("estray/ledger.whys", laid_estray_ledger_whys), ("estray/ledger.answers", laid_estray_ledger_answers)], narrowed := true }
def OuterCopiesUptoSaid : Prop := outerCopiesUptoRow.holds Tryz.pinned (OpenSpec.upto outerCopiesSpec)

/-- 'estraylaw12.OuterKnown', WHERE WHAT IT READS IS OF BULK AT MOST 1048576: true; the input reads as it did. -/
def outerKnownUptoRow : OpenClaim := { program := "ytpinmiplefidpaagreatdoor", sum := "1dfb945bd6388257fcdcf7386deb546f5a1ad7b03fb01dc118a31c7627940d3e", func := "estray/estraylaw12.OuterKnown", spec := "outerKnown", unfollowed := true, recurses := true, named := ["estray/answer.letters", "estray/ledger.whys", "estray/ledger.answers"], plainKeys := false, apart := false, laid := [("estray/answer.letters", laid_estray_answer_letters), ("estray/ledger.whys", laid_estray_ledger_whys), ("estray/ledger.answers", laid_estray_ledger_answers)], narrowed := true }
def OuterKnownUptoSaid : Prop := outerKnownUptoRow.holds Tryz.pinned (OpenSpec.upto outerKnownSpec)

end Rows
end Go.Proofs.YtpinmiplefidpaaGreatDoor
