/-
  NARROWER THAN 'FOR EVERY INPUT', by the rows' own cells (each row's printed sentence says how): AnswerTexts: laid · AnswerPlays: laid · AnswerNil: laid · AnswerOrder: laid · AnswerBack: laid · AnswerJoins: laid · AnswerRoom: laid · AnswerKeeps: laid.
  DERIVED. THE GIVEN ROWS OF THIS SEAT. 8 by the template 'for every input the law returns true; each argument reads behind the call as it read before'; 0 by the template 'total and deterministic' (their statements: YtllfmancfkmimaaDoorTotals.lean).
  GIVEN WITH THE SEED: the statements are not yours to turn. If you find one false, say at which input.
  Laid BY PROGRAM, IN A SANDBOX (cutbox-rows.mjs): the forced cells as the released guide's own fill.sh prints them over the translation 804d449a0ec3b845… (all of the seat's roots in one cut). By AI agents, Wed Nov 11 2026. No macro, syntax, notation, axiom, sorry.
-/
import Derived.Test.YtllfmancfkmimaaDoorChecked
import GoSem.Claim
import GoSem.ClaimJoined
import GoSem.ClaimMapViews
import Derived.JoinedTies
import Derived.KernelRfl
namespace Go.Proofs.YtllfmancfkmimaaDoor
/- THE CELL 'sum', in the pinned program and in every row, IS THE sha256 OF THE DUMP (.gsa) THAT YtllfmancfkmimaaDoorProg.lean LOADS. Nothing in Lean hashes anything: it is a label: what it is worth is what the hold of that sum in a sandbox is worth. -/
noncomputable def Tryd.pinned : Pinned := { name := "ytllfmancfkmimaadoor", sum := "804d449a0ec3b84545e4bb1993d82a8ffa83324874c189d50338d783a39c4095", checked := Tryd.checked }
namespace Rows
def none {H : Type} : Left H := { results := [], args := [] }

/- WHAT THE LISTED PACKAGE-LEVEL VARIABLES READ AS WHEN THE CALL BEGINS. Each datum BY PROGRAM (the guide's laid-datum.mjs) off the statement by which the dump's own 'gosem.cut.vars' lays the variable. In a bare row this is a premise. The card (YtllfmancfkmimaaDoorCards.lean) ties it to the program's text. -/
def laid_estray_answer_letters {H : Type} : DataW H := .agg [.lit (.int .u8 0), .lit (.int .u8 111), .lit (.int .u8 108), .lit (.int .u8 102)]

/-- 'estraylaw06.AnswerTexts': WHATEVER THE INPUT: true; the input reads as it did. -/
def answerTextsSpec : ChangeSpec := { name := "answerTexts", fn := fun _ => fun
  | [d1, d2] => { results := [.lit (.bool true)], args := [d1, d2] }
  | _ => none }
def answerTextsRow : OpenClaim := { program := "ytllfmancfkmimaadoor", sum := "804d449a0ec3b84545e4bb1993d82a8ffa83324874c189d50338d783a39c4095", func := "estray/estraylaw06.AnswerTexts", spec := "answerTexts", unfollowed := true, recurses := true, named := ["estray/answer.letters"], apart := false, laid := [("estray/answer.letters", laid_estray_answer_letters)] }
def AnswerTextsSaid : Prop := answerTextsRow.holds Tryd.pinned (OpenSpec.ofChange answerTextsSpec)

/-- ITS FALSE NEIGHBOUR: 'it returns false'. Refute it at one input. -/
def answerTextsWrong : ChangeSpec := { name := "answerTexts", fn := fun _ => fun
  | [d1, d2] => { results := [.lit (.bool false)], args := [d1, d2] }
  | _ => none }
def AnswerTextsWrongFalsely : Prop := answerTextsRow.holds Tryd.pinned (OpenSpec.ofChange answerTextsWrong)

/-- 'estraylaw06.AnswerPlays': WHATEVER THE INPUT: true; the input reads as it did. -/
def answerPlaysSpec : ChangeSpec := { name := "answerPlays", fn := fun _ => fun
  | [d] => { results := [.lit (.bool true)], args := [d] }
  | _ => none }
def answerPlaysRow : OpenClaim := { program := "ytllfmancfkmimaadoor", sum := "804d449a0ec3b84545e4bb1993d82a8ffa83324874c189d50338d783a39c4095", func := "estray/estraylaw06.AnswerPlays", spec := "answerPlays", unfollowed := true, recurses := true, named := ["estray/answer.letters"], apart := false, laid := [("estray/answer.letters", laid_estray_answer_letters)] }
def AnswerPlaysSaid : Prop := answerPlaysRow.holds Tryd.pinned (OpenSpec.ofChange answerPlaysSpec)

/-- ITS FALSE NEIGHBOUR: 'it returns false'. Refute it at one input. -/
def answerPlaysWrong : ChangeSpec := { name := "answerPlays", fn := fun _ => fun
  | [d] => { results := [.lit (.bool false)], args := [d] }
  | _ => none }
def AnswerPlaysWrongFalsely : Prop := answerPlaysRow.holds Tryd.pinned (OpenSpec.ofChange answerPlaysWrong)

/-- 'estraylaw06.AnswerNil': WHATEVER THE INPUT: true; the input reads as it did. -/
def answerNilSpec : ChangeSpec := { name := "answerNil", fn := fun _ => fun
  | [d1, d2] => { results := [.lit (.bool true)], args := [d1, d2] }
  | _ => none }
def answerNilRow : OpenClaim := { program := "ytllfmancfkmimaadoor", sum := "804d449a0ec3b84545e4bb1993d82a8ffa83324874c189d50338d783a39c4095", func := "estray/estraylaw06.AnswerNil", spec := "answerNil", unfollowed := true, recurses := true, named := ["estray/answer.letters"], apart := false, laid := [("estray/answer.letters", laid_estray_answer_letters)] }
def AnswerNilSaid : Prop := answerNilRow.holds Tryd.pinned (OpenSpec.ofChange answerNilSpec)

/-- ITS FALSE NEIGHBOUR: 'it returns false'. Refute it at one input. -/
def answerNilWrong : ChangeSpec := { name := "answerNil", fn := fun _ => fun
  | [d1, d2] => { results := [.lit (.bool false)], args := [d1, d2] }
  | _ => none }
def AnswerNilWrongFalsely : Prop := answerNilRow.holds Tryd.pinned (OpenSpec.ofChange answerNilWrong)

/-- 'estraylaw06.AnswerOrder': WHATEVER THE INPUT: true; the input reads as it did. -/
def answerOrderSpec : ChangeSpec := { name := "answerOrder", fn := fun _ => fun
  | [d] => { results := [.lit (.bool true)], args := [d] }
  | _ => none }
def answerOrderRow : OpenClaim := { program := "ytllfmancfkmimaadoor", sum := "804d449a0ec3b84545e4bb1993d82a8ffa83324874c189d50338d783a39c4095", func := "estray/estraylaw06.AnswerOrder", spec := "answerOrder", unfollowed := true, recurses := true, named := ["estray/answer.letters"], apart := false, laid := [("estray/answer.letters", laid_estray_answer_letters)] }
def AnswerOrderSaid : Prop := answerOrderRow.holds Tryd.pinned (OpenSpec.ofChange answerOrderSpec)

/-- ITS FALSE NEIGHBOUR: 'it returns false'. Refute it at one input. -/
def answerOrderWrong : ChangeSpec := { name := "answerOrder", fn := fun _ => fun
  | [d] => { results := [.lit (.bool false)], args := [d] }
  | _ => none }
def AnswerOrderWrongFalsely : Prop := answerOrderRow.holds Tryd.pinned (OpenSpec.ofChange answerOrderWrong)

/-- 'estraylaw06.AnswerBack': WHATEVER THE INPUT: true; the input reads as it did. -/
def answerBackSpec : ChangeSpec := { name := "answerBack", fn := fun _ => fun
  | [d1, d2] => { results := [.lit (.bool true)], args := [d1, d2] }
  | _ => none }
def answerBackRow : OpenClaim := { program := "ytllfmancfkmimaadoor", sum := "804d449a0ec3b84545e4bb1993d82a8ffa83324874c189d50338d783a39c4095", func := "estray/estraylaw06.AnswerBack", spec := "answerBack", unfollowed := true, recurses := true, named := ["estray/answer.letters"], apart := false, laid := [("estray/answer.letters", laid_estray_answer_letters)] }
def AnswerBackSaid : Prop := answerBackRow.holds Tryd.pinned (OpenSpec.ofChange answerBackSpec)

/-- ITS FALSE NEIGHBOUR: 'it returns false'. Refute it at one input. -/
def answerBackWrong : ChangeSpec := { name := "answerBack", fn := fun _ => fun
  | [d1, d2] => { results := [.lit (.bool false)], args := [d1, d2] }
  | _ => none }
def AnswerBackWrongFalsely : Prop := answerBackRow.holds Tryd.pinned (OpenSpec.ofChange answerBackWrong)

/-- 'estraylaw06.AnswerJoins': WHATEVER THE INPUT: true; the input reads as it did. -/
def answerJoinsSpec : ChangeSpec := { name := "answerJoins", fn := fun _ => fun
  | [d1, d2] => { results := [.lit (.bool true)], args := [d1, d2] }
  | _ => none }
def answerJoinsRow : OpenClaim := { program := "ytllfmancfkmimaadoor", sum := "804d449a0ec3b84545e4bb1993d82a8ffa83324874c189d50338d783a39c4095", func := "estray/estraylaw06.AnswerJoins", spec := "answerJoins", unfollowed := true, recurses := true, named := ["estray/answer.letters"], apart := false, laid := [("estray/answer.letters", laid_estray_answer_letters)] }
def AnswerJoinsSaid : Prop := answerJoinsRow.holds Tryd.pinned (OpenSpec.ofChange answerJoinsSpec)

/-- ITS FALSE NEIGHBOUR: 'it returns false'. Refute it at one input. -/
def answerJoinsWrong : ChangeSpec := { name := "answerJoins", fn := fun _ => fun
  | [d1, d2] => { results := [.lit (.bool false)], args := [d1, d2] }
  | _ => none }
def AnswerJoinsWrongFalsely : Prop := answerJoinsRow.holds Tryd.pinned (OpenSpec.ofChange answerJoinsWrong)

/-- 'estraylaw06.AnswerRoom': WHATEVER THE INPUT: true; the input reads as it did. -/
def answerRoomSpec : ChangeSpec := { name := "answerRoom", fn := fun _ => fun
  | [d1, d2, d3] => { results := [.lit (.bool true)], args := [d1, d2, d3] }
  | _ => none }
def answerRoomRow : OpenClaim := { program := "ytllfmancfkmimaadoor", sum := "804d449a0ec3b84545e4bb1993d82a8ffa83324874c189d50338d783a39c4095", func := "estray/estraylaw06.AnswerRoom", spec := "answerRoom", unfollowed := true, recurses := true, named := ["estray/answer.letters"], apart := false, laid := [("estray/answer.letters", laid_estray_answer_letters)] }
def AnswerRoomSaid : Prop := answerRoomRow.holds Tryd.pinned (OpenSpec.ofChange answerRoomSpec)

/-- ITS FALSE NEIGHBOUR: 'it returns false'. Refute it at one input. -/
def answerRoomWrong : ChangeSpec := { name := "answerRoom", fn := fun _ => fun
  | [d1, d2, d3] => { results := [.lit (.bool false)], args := [d1, d2, d3] }
  | _ => none }
def AnswerRoomWrongFalsely : Prop := answerRoomRow.holds Tryd.pinned (OpenSpec.ofChange answerRoomWrong)

/-- 'estraylaw06.AnswerKeeps': WHATEVER THE INPUT: true; the input reads as it did. -/
def answerKeepsSpec : ChangeSpec := { name := "answerKeeps", fn := fun _ => fun
  | [d1, d2, d3, d4] => { results := [.lit (.bool true)], args := [d1, d2, d3, d4] }
  | _ => none }
def answerKeepsRow : OpenClaim := { program := "ytllfmancfkmimaadoor", sum := "804d449a0ec3b84545e4bb1993d82a8ffa83324874c189d50338d783a39c4095", func := "estray/estraylaw06.AnswerKeeps", spec := "answerKeeps", unfollowed := true, recurses := true, named := ["estray/answer.letters"], apart := false, laid := [("estray/answer.letters", laid_estray_answer_letters)] }
def AnswerKeepsSaid : Prop := answerKeepsRow.holds Tryd.pinned (OpenSpec.ofChange answerKeepsSpec)

/-- ITS FALSE NEIGHBOUR: 'it returns false'. Refute it at one input. -/
def answerKeepsWrong : ChangeSpec := { name := "answerKeeps", fn := fun _ => fun
  | [d1, d2, d3, d4] => { results := [.lit (.bool false)], args := [d1, d2, d3, d4] }
  | _ => none }
def AnswerKeepsWrongFalsely : Prop := answerKeepsRow.holds Tryd.pinned (OpenSpec.ofChange answerKeepsWrong)

/- THE SECOND FORM. 'bulk': how many values and letters a reading holds, each counted each time it is reached (what is shared counts as often as it is met; a slice's spare places count too). A statement '..UptoSaid' is the law's where the arguments, and the package variables that the reading takes, are together of bulk at most 1048576: NARROWER than '..Said'. Prove '..Said' where nothing that the law and all that it calls make is longer than what came in: it says more and counts as full. Else prove '..UptoSaid'. A law counts once. -/
mutual
def uptoBulk {H : Type} : DataW H → Nat
  | .lit (.string bytes) => bytes.length + 1
  | .lit _ => 1
  | .nil => 1
  | .ptr d => uptoBulk d + 1
  | .slice elems spare => uptoBulkAll elems + uptoBulkAll spare + 1
  | .agg parts => uptoBulkAll parts + 1
  | .iface _ d => uptoBulk d + 1
  | .map entries => uptoBulkEntries entries + 1
  | .held _ => 1
def uptoBulkAll {H : Type} : List (DataW H) → Nat
  | [] => 0
  | d :: r => uptoBulk d + uptoBulkAll r
def uptoBulkEntries {H : Type} : List (Lit × DataW H) → Nat
  | [] => 0
  | x :: r => uptoBulkEntry x + uptoBulkEntries r
def uptoBulkEntry {H : Type} : Lit × DataW H → Nat
  | (.string bytes, d) => bytes.length + uptoBulk d + 1
  | (_, d) => uptoBulk d + 1
 end
def uptoSmall : (H : Type) → List (DataW H) → Bool := fun _ ds => decide (uptoBulkAll ds ≤ 1048576)
def OpenSpec.upto (s : _root_.Go.ChangeSpec) : _root_.Go.OpenSpec := { _root_.Go.OpenSpec.ofChange s with cond := some uptoSmall }

/-- 'estraylaw06.AnswerTexts', WHERE WHAT IT READS IS OF BULK AT MOST 1048576: true; the input reads as it did. -/
def answerTextsUptoRow : OpenClaim := { program := "ytllfmancfkmimaadoor", sum := "804d449a0ec3b84545e4bb1993d82a8ffa83324874c189d50338d783a39c4095", func := "estray/estraylaw06.AnswerTexts", spec := "answerTexts", unfollowed := true, recurses := true, named := ["estray/answer.letters"], apart := false, laid := [("estray/answer.letters", laid_estray_answer_letters)], narrowed := true }
def AnswerTextsUptoSaid : Prop := answerTextsUptoRow.holds Tryd.pinned (OpenSpec.upto answerTextsSpec)

/-- 'estraylaw06.AnswerPlays', WHERE WHAT IT READS IS OF BULK AT MOST 1048576: true; the input reads as it did. -/
def answerPlaysUptoRow : OpenClaim := { program := "ytllfmancfkmimaadoor", sum := "804d449a0ec3b84545e4bb1993d82a8ffa83324874c189d50338d783a39c4095", func := "estray/estraylaw06.AnswerPlays", spec := "answerPlays", unfollowed := true, recurses := true, named := ["estray/answer.letters"], apart := false, laid := [("estray/answer.letters", laid_estray_answer_letters)], narrowed := true }
def AnswerPlaysUptoSaid : Prop := answerPlaysUptoRow.holds Tryd.pinned (OpenSpec.upto answerPlaysSpec)

/-- 'estraylaw06.AnswerNil', WHERE WHAT IT READS IS OF BULK AT MOST 1048576: true; the input reads as it did. -/
def answerNilUptoRow : OpenClaim := { program := "ytllfmancfkmimaadoor", sum := "804d449a0ec3b84545e4bb1993d82a8ffa83324874c189d50338d783a39c4095", func := "estray/estraylaw06.AnswerNil", spec := "answerNil", unfollowed := true, recurses := true, named := ["estray/answer.letters"], apart := false, laid := [("estray/answer.letters", laid_estray_answer_letters)], narrowed := true }
def AnswerNilUptoSaid : Prop := answerNilUptoRow.holds Tryd.pinned (OpenSpec.upto answerNilSpec)

/-- 'estraylaw06.AnswerOrder', WHERE WHAT IT READS IS OF BULK AT MOST 1048576: true; the input reads as it did. -/
def answerOrderUptoRow : OpenClaim := { program := "ytllfmancfkmimaadoor", sum := "804d449a0ec3b84545e4bb1993d82a8ffa83324874c189d50338d783a39c4095", func := "estray/estraylaw06.AnswerOrder", spec := "answerOrder", unfollowed := true, recurses := true, named := ["estray/answer.letters"], apart := false, laid := [("estray/answer.letters", laid_estray_answer_letters)], narrowed := true }
def AnswerOrderUptoSaid : Prop := answerOrderUptoRow.holds Tryd.pinned (OpenSpec.upto answerOrderSpec)

/-- 'estraylaw06.AnswerBack', WHERE WHAT IT READS IS OF BULK AT MOST 1048576: true; the input reads as it did. -/
def answerBackUptoRow : OpenClaim := { program := "ytllfmancfkmimaadoor", sum := "804d449a0ec3b84545e4bb1993d82a8ffa83324874c189d50338d783a39c4095", func := "estray/estraylaw06.AnswerBack", spec := "answerBack", unfollowed := true, recurses := true, named := ["estray/answer.letters"], apart := false, laid := [("estray/answer.letters", laid_estray_answer_letters)], narrowed := true }
def AnswerBackUptoSaid : Prop := answerBackUptoRow.holds Tryd.pinned (OpenSpec.upto answerBackSpec)

/-- 'estraylaw06.AnswerJoins', WHERE WHAT IT READS IS OF BULK AT MOST 1048576: true; the input reads as it did. -/
def answerJoinsUptoRow : OpenClaim := { program := "ytllfmancfkmimaadoor", sum := "804d449a0ec3b84545e4bb1993d82a8ffa83324874c189d50338d783a39c4095", func := "estray/estraylaw06.AnswerJoins", spec := "answerJoins", unfollowed := true, recurses := true, named := ["estray/answer.letters"], apart := false, laid := [("estray/answer.letters", laid_estray_answer_letters)], narrowed := true }
def AnswerJoinsUptoSaid : Prop := answerJoinsUptoRow.holds Tryd.pinned (OpenSpec.upto answerJoinsSpec)

/-- 'estraylaw06.AnswerRoom', WHERE WHAT IT READS IS OF BULK AT MOST 1048576: true; the input reads as it did. -/
def answerRoomUptoRow : OpenClaim := { program := "ytllfmancfkmimaadoor", sum := "804d449a0ec3b84545e4bb1993d82a8ffa83324874c189d50338d783a39c4095", func := "estray/estraylaw06.AnswerRoom", spec := "answerRoom", unfollowed := true, recurses := true, named := ["estray/answer.letters"], apart := false, laid := [("estray/answer.letters", laid_estray_answer_letters)], narrowed := true }
def AnswerRoomUptoSaid : Prop := answerRoomUptoRow.holds Tryd.pinned (OpenSpec.upto answerRoomSpec)

/-- 'estraylaw06.AnswerKeeps', WHERE WHAT IT READS IS OF BULK AT MOST 1048576: true; the input reads as it did. -/
def answerKeepsUptoRow : OpenClaim := { program := "ytllfmancfkmimaadoor", sum := "804d449a0ec3b84545e4bb1993d82a8ffa83324874c189d50338d783a39c4095", func := "estray/estraylaw06.AnswerKeeps", spec := "answerKeeps", unfollowed := true, recurses := true, named := ["estray/answer.letters"], apart := false, laid := [("estray/answer.letters", laid_estray_answer_letters)], narrowed := true }
def AnswerKeepsUptoSaid : Prop := answerKeepsUptoRow.holds Tryd.pinned (OpenSpec.upto answerKeepsSpec)

end Rows
end Go.Proofs.YtllfmancfkmimaaDoor
