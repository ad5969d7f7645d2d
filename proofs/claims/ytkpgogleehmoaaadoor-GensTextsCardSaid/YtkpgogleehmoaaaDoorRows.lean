/-
  NARROWER THAN 'FOR EVERY INPUT', by the rows' own cells (each row's printed sentence says how): GensSteps: laid · GensTexts: laid · GensNewer: laid · GensChain: laid · GensSplit: laid · GensOrder: laid · GensBack: laid · GensReads: laid · GensNone: laid.
  DERIVED. THE GIVEN ROWS OF THIS SEAT. 9 by the template 'for every input the law returns true; each argument reads behind the call as it read before'; 0 by the template 'total and deterministic' (their statements: YtkpgogleehmoaaaDoorTotals.lean).
  GIVEN WITH THE SEED: the statements are not yours to turn. If you find one false, say at which input.
  Laid BY PROGRAM, IN A SANDBOX (cutbox-rows.mjs): the forced cells as the released guide's own fill.sh prints them over the translation 223c318d40ed1ed8… (all of the seat's roots in one cut). By AI agents, Wed Nov 11 2026. No macro, syntax, notation, axiom, sorry.
-/
import Derived.Test.YtkpgogleehmoaaaDoorChecked
import GoSem.Claim
import GoSem.ClaimJoined
import GoSem.ClaimMapViews
import Derived.JoinedTies
import Derived.KernelRfl
namespace Go.Proofs.YtkpgogleehmoaaaDoor
/- THE CELL 'sum', in the pinned program and in every row, IS THE sha256 OF THE DUMP (.gsa) THAT YtkpgogleehmoaaaDoorProg.lean LOADS. Nothing in Lean hashes anything: it is a label: what it is worth is what the hold of that sum in a sandbox is worth. -/
noncomputable def Tryd.pinned : Pinned := { name := "ytkpgogleehmoaaadoor", sum := "223c318d40ed1ed839231f45a3ce4df5c065def7f54a2aa8cbc20a5ea1148568", checked := Tryd.checked }
namespace Rows
def none {H : Type} : Left H := { results := [], args := [] }

/- WHAT THE LISTED PACKAGE-LEVEL VARIABLES READ AS WHEN THE CALL BEGINS. Each datum BY PROGRAM (the guide's laid-datum.mjs) off the statement by which the dump's own 'gosem.cut.vars' lays the variable. In a bare row this is a premise. The card (YtkpgogleehmoaaaDoorCards.lean) ties it to the program's text. -/
def laid_math_bits_deBruijn32tab {H : Type} : DataW H := .agg [.lit (.int .u8 0), .lit (.int .u8 1), .lit (.int .u8 28), .lit (.int .u8 2), .lit (.int .u8 29), .lit (.int .u8 14), .lit (.int .u8 24), .lit (.int .u8 3), .lit (.int .u8 30), .lit (.int .u8 22), .lit (.int .u8 20), .lit (.int .u8 15), .lit (.int .u8 25), .lit (.int .u8 17), .lit (.int .u8 4), .lit (.int .u8 8), .lit (.int .u8 31), .lit (.int .u8 27), .lit (.int .u8 13), .lit (.int .u8 23), .lit (.int .u8 21), .lit (.int .u8 19), .lit (.int .u8 16), .lit (.int .u8 7), .lit (.int .u8 26), .lit (.int .u8 12), .lit (.int .u8 18), .lit (.int .u8 6), .lit (.int .u8 11), .lit (.int .u8 5), .lit (.int .u8 10), .lit (.int .u8 9)]
def laid_math_bits_deBruijn64tab {H : Type} : DataW H := .agg [.lit (.int .u8 0), .lit (.int .u8 1), .lit (.int .u8 56), .lit (.int .u8 2), .lit (.int .u8 57), .lit (.int .u8 49), .lit (.int .u8 28), .lit (.int .u8 3), .lit (.int .u8 61), .lit (.int .u8 58), .lit (.int .u8 42), .lit (.int .u8 50), .lit (.int .u8 38), .lit (.int .u8 29), .lit (.int .u8 17), .lit (.int .u8 4), .lit (.int .u8 62), .lit (.int .u8 47), .lit (.int .u8 59), .lit (.int .u8 36), .lit (.int .u8 45), .lit (.int .u8 43), .lit (.int .u8 51), .lit (.int .u8 22), .lit (.int .u8 53), .lit (.int .u8 39), .lit (.int .u8 33), .lit (.int .u8 30), .lit (.int .u8 24), .lit (.int .u8 18), .lit (.int .u8 12), .lit (.int .u8 5), .lit (.int .u8 63), .lit (.int .u8 55), .lit (.int .u8 48), .lit (.int .u8 27), .lit (.int .u8 60), .lit (.int .u8 41), .lit (.int .u8 37), .lit (.int .u8 16), .lit (.int .u8 46), .lit (.int .u8 35), .lit (.int .u8 44), .lit (.int .u8 21), .lit (.int .u8 52), .lit (.int .u8 32), .lit (.int .u8 23), .lit (.int .u8 11), .lit (.int .u8 54), .lit (.int .u8 26), .lit (.int .u8 40), .lit (.int .u8 15), .lit (.int .u8 34), .lit (.int .u8 20), .lit (.int .u8 31), .lit (.int .u8 10), .lit (.int .u8 25), .lit (.int .u8 14), .lit (.int .u8 19), .lit (.int .u8 9), .lit (.int .u8 13), .lit (.int .u8 8), .lit (.int .u8 7), .lit (.int .u8 6)]
def laid_internal_strconv_uint64pow10 {H : Type} : DataW H := .agg [.lit (.int .u64 1), .lit (.int .u64 10), .lit (.int .u64 100), .lit (.int .u64 1000), .lit (.int .u64 10000), .lit (.int .u64 100000), .lit (.int .u64 1000000), .lit (.int .u64 10000000), .lit (.int .u64 100000000), .lit (.int .u64 1000000000), .lit (.int .u64 10000000000), .lit (.int .u64 100000000000), .lit (.int .u64 1000000000000), .lit (.int .u64 10000000000000), .lit (.int .u64 100000000000000), .lit (.int .u64 1000000000000000), .lit (.int .u64 10000000000000000), .lit (.int .u64 100000000000000000), .lit (.int .u64 1000000000000000000), .lit (.int .u64 10000000000000000000)]
def laid_strconv_ErrRange {H : Type} : DataW H := .iface "*errors.errorString" (.ptr (.agg [.lit (.string [118, 97, 108, 117, 101, 32, 111, 117, 116, 32, 111, 102, 32, 114, 97, 110, 103, 101])]))
def laid_strconv_ErrSyntax {H : Type} : DataW H := .iface "*errors.errorString" (.ptr (.agg [.lit (.string [105, 110, 118, 97, 108, 105, 100, 32, 115, 121, 110, 116, 97, 120])]))

/-- 'estraylaw01.GensSteps': WHATEVER THE INPUT: true; the input reads as it did. -/
def gensStepsSpec : ChangeSpec := { name := "gensSteps", fn := fun _ => fun
  | [d1, d2] => { results := [.lit (.bool true)], args := [d1, d2] }
  | _ => none }
def gensStepsRow : OpenClaim := { program := "ytkpgogleehmoaaadoor", sum := "223c318d40ed1ed839231f45a3ce4df5c065def7f54a2aa8cbc20a5ea1148568", func := "estray/estraylaw01.GensSteps", spec := "gensSteps", unfollowed := true, recurses := true, named := ["strconv.ErrSyntax", "strconv.ErrRange", "internal/strconv.uint64pow10", "math/bits.deBruijn32tab", "math/bits.deBruijn64tab"], apart := false, laid := [("math/bits.deBruijn32tab", laid_math_bits_deBruijn32tab), ("math/bits.deBruijn64tab", laid_math_bits_deBruijn64tab), ("internal/strconv.uint64pow10", laid_internal_strconv_uint64pow10), ("strconv.ErrRange", laid_strconv_ErrRange), ("strconv.ErrSyntax", laid_strconv_ErrSyntax)] }
def GensStepsSaid : Prop := gensStepsRow.holds Tryd.pinned (OpenSpec.ofChange gensStepsSpec)

/-- ITS FALSE NEIGHBOUR: 'it returns false'. Refute it at one input. -/
def gensStepsWrong : ChangeSpec := { name := "gensSteps", fn := fun _ => fun
  | [d1, d2] => { results := [.lit (.bool false)], args := [d1, d2] }
  | _ => none }
def GensStepsWrongFalsely : Prop := gensStepsRow.holds Tryd.pinned (OpenSpec.ofChange gensStepsWrong)

/-- 'estraylaw01.GensTexts': WHATEVER THE INPUT: true; the input reads as it did. -/
def gensTextsSpec : ChangeSpec := { name := "gensTexts", fn := fun _ => fun
  | [d1, d2] => { results := [.lit (.bool true)], args := [d1, d2] }
  | _ => none }
def gensTextsRow : OpenClaim := { program := "ytkpgogleehmoaaadoor", sum := "223c318d40ed1ed839231f45a3ce4df5c065def7f54a2aa8cbc20a5ea1148568", func := "estray/estraylaw01.GensTexts", spec := "gensTexts", unfollowed := true, recurses := true, named := ["strconv.ErrSyntax", "strconv.ErrRange", "internal/strconv.uint64pow10", "math/bits.deBruijn32tab", "math/bits.deBruijn64tab"], apart := false, laid := [("math/bits.deBruijn32tab", laid_math_bits_deBruijn32tab), ("math/bits.deBruijn64tab", laid_math_bits_deBruijn64tab), ("internal/strconv.uint64pow10", laid_internal_strconv_uint64pow10), ("strconv.ErrRange", laid_strconv_ErrRange), ("strconv.ErrSyntax", laid_strconv_ErrSyntax)] }
def GensTextsSaid : Prop := gensTextsRow.holds Tryd.pinned (OpenSpec.ofChange gensTextsSpec)

/-- ITS FALSE NEIGHBOUR: 'it returns false'. Refute it at one input. -/
def gensTextsWrong : ChangeSpec := { name := "gensTexts", fn := fun _ => fun
  | [d1, d2] => { results := [.lit (.bool false)], args := [d1, d2] }
  | _ => none }
def GensTextsWrongFalsely : Prop := gensTextsRow.holds Tryd.pinned (OpenSpec.ofChange gensTextsWrong)

/-- 'estraylaw01.GensNewer': WHATEVER THE INPUT: true; the input reads as it did. -/
def gensNewerSpec : ChangeSpec := { name := "gensNewer", fn := fun _ => fun
  | [d1, d2] => { results := [.lit (.bool true)], args := [d1, d2] }
  | _ => none }
def gensNewerRow : OpenClaim := { program := "ytkpgogleehmoaaadoor", sum := "223c318d40ed1ed839231f45a3ce4df5c065def7f54a2aa8cbc20a5ea1148568", func := "estray/estraylaw01.GensNewer", spec := "gensNewer", unfollowed := true, recurses := true, named := ["strconv.ErrSyntax", "strconv.ErrRange", "internal/strconv.uint64pow10", "math/bits.deBruijn32tab", "math/bits.deBruijn64tab"], apart := false, laid := [("math/bits.deBruijn32tab", laid_math_bits_deBruijn32tab), ("math/bits.deBruijn64tab", laid_math_bits_deBruijn64tab), ("internal/strconv.uint64pow10", laid_internal_strconv_uint64pow10), ("strconv.ErrRange", laid_strconv_ErrRange), ("strconv.ErrSyntax", laid_strconv_ErrSyntax)] }
def GensNewerSaid : Prop := gensNewerRow.holds Tryd.pinned (OpenSpec.ofChange gensNewerSpec)

/-- ITS FALSE NEIGHBOUR: 'it returns false'. Refute it at one input. -/
def gensNewerWrong : ChangeSpec := { name := "gensNewer", fn := fun _ => fun
  | [d1, d2] => { results := [.lit (.bool false)], args := [d1, d2] }
  | _ => none }
def GensNewerWrongFalsely : Prop := gensNewerRow.holds Tryd.pinned (OpenSpec.ofChange gensNewerWrong)

/-- 'estraylaw01.GensChain': WHATEVER THE INPUT: true; the input reads as it did. -/
def gensChainSpec : ChangeSpec := { name := "gensChain", fn := fun _ => fun
  | [d1, d2] => { results := [.lit (.bool true)], args := [d1, d2] }
  | _ => none }
def gensChainRow : OpenClaim := { program := "ytkpgogleehmoaaadoor", sum := "223c318d40ed1ed839231f45a3ce4df5c065def7f54a2aa8cbc20a5ea1148568", func := "estray/estraylaw01.GensChain", spec := "gensChain", unfollowed := true, recurses := true, named := ["strconv.ErrSyntax", "strconv.ErrRange", "internal/strconv.uint64pow10", "math/bits.deBruijn32tab", "math/bits.deBruijn64tab"], apart := false, laid := [("math/bits.deBruijn32tab", laid_math_bits_deBruijn32tab), ("math/bits.deBruijn64tab", laid_math_bits_deBruijn64tab), ("internal/strconv.uint64pow10", laid_internal_strconv_uint64pow10), ("strconv.ErrRange", laid_strconv_ErrRange), ("strconv.ErrSyntax", laid_strconv_ErrSyntax)] }
def GensChainSaid : Prop := gensChainRow.holds Tryd.pinned (OpenSpec.ofChange gensChainSpec)

/-- ITS FALSE NEIGHBOUR: 'it returns false'. Refute it at one input. -/
def gensChainWrong : ChangeSpec := { name := "gensChain", fn := fun _ => fun
  | [d1, d2] => { results := [.lit (.bool false)], args := [d1, d2] }
  | _ => none }
def GensChainWrongFalsely : Prop := gensChainRow.holds Tryd.pinned (OpenSpec.ofChange gensChainWrong)

/-- 'estraylaw01.GensSplit': WHATEVER THE INPUT: true; the input reads as it did. -/
def gensSplitSpec : ChangeSpec := { name := "gensSplit", fn := fun _ => fun
  | [d1, d2, d3] => { results := [.lit (.bool true)], args := [d1, d2, d3] }
  | _ => none }
def gensSplitRow : OpenClaim := { program := "ytkpgogleehmoaaadoor", sum := "223c318d40ed1ed839231f45a3ce4df5c065def7f54a2aa8cbc20a5ea1148568", func := "estray/estraylaw01.GensSplit", spec := "gensSplit", unfollowed := true, recurses := true, named := ["strconv.ErrSyntax", "strconv.ErrRange", "internal/strconv.uint64pow10", "math/bits.deBruijn32tab", "math/bits.deBruijn64tab"], apart := false, laid := [("math/bits.deBruijn32tab", laid_math_bits_deBruijn32tab), ("math/bits.deBruijn64tab", laid_math_bits_deBruijn64tab), ("internal/strconv.uint64pow10", laid_internal_strconv_uint64pow10), ("strconv.ErrRange", laid_strconv_ErrRange), ("strconv.ErrSyntax", laid_strconv_ErrSyntax)] }
def GensSplitSaid : Prop := gensSplitRow.holds Tryd.pinned (OpenSpec.ofChange gensSplitSpec)

/-- ITS FALSE NEIGHBOUR: 'it returns false'. Refute it at one input. -/
def gensSplitWrong : ChangeSpec := { name := "gensSplit", fn := fun _ => fun
  | [d1, d2, d3] => { results := [.lit (.bool false)], args := [d1, d2, d3] }
  | _ => none }
def GensSplitWrongFalsely : Prop := gensSplitRow.holds Tryd.pinned (OpenSpec.ofChange gensSplitWrong)

/-- 'estraylaw01.GensOrder': WHATEVER THE INPUT: true; the input reads as it did. -/
def gensOrderSpec : ChangeSpec := { name := "gensOrder", fn := fun _ => fun
  | [d1, d2, d3] => { results := [.lit (.bool true)], args := [d1, d2, d3] }
  | _ => none }
def gensOrderRow : OpenClaim := { program := "ytkpgogleehmoaaadoor", sum := "223c318d40ed1ed839231f45a3ce4df5c065def7f54a2aa8cbc20a5ea1148568", func := "estray/estraylaw01.GensOrder", spec := "gensOrder", unfollowed := true, recurses := true, named := ["strconv.ErrSyntax", "strconv.ErrRange", "internal/strconv.uint64pow10", "math/bits.deBruijn32tab", "math/bits.deBruijn64tab"], apart := false, laid := [("math/bits.deBruijn32tab", laid_math_bits_deBruijn32tab), ("math/bits.deBruijn64tab", laid_math_bits_deBruijn64tab), ("internal/strconv.uint64pow10", laid_internal_strconv_uint64pow10), ("strconv.ErrRange", laid_strconv_ErrRange), ("strconv.ErrSyntax", laid_strconv_ErrSyntax)] }
def GensOrderSaid : Prop := gensOrderRow.holds Tryd.pinned (OpenSpec.ofChange gensOrderSpec)

/-- ITS FALSE NEIGHBOUR: 'it returns false'. Refute it at one input. -/
def gensOrderWrong : ChangeSpec := { name := "gensOrder", fn := fun _ => fun
  | [d1, d2, d3] => { results := [.lit (.bool false)], args := [d1, d2, d3] }
  | _ => none }
def GensOrderWrongFalsely : Prop := gensOrderRow.holds Tryd.pinned (OpenSpec.ofChange gensOrderWrong)

/-- 'estraylaw01.GensBack': WHATEVER THE INPUT: true; the input reads as it did. -/
def gensBackSpec : ChangeSpec := { name := "gensBack", fn := fun _ => fun
  | [d1, d2, d3] => { results := [.lit (.bool true)], args := [d1, d2, d3] }
  | _ => none }
def gensBackRow : OpenClaim := { program := "ytkpgogleehmoaaadoor", sum := "223c318d40ed1ed839231f45a3ce4df5c065def7f54a2aa8cbc20a5ea1148568", func := "estray/estraylaw01.GensBack", spec := "gensBack", unfollowed := true, recurses := true, named := ["internal/strconv.uint64pow10", "math/bits.deBruijn32tab", "math/bits.deBruijn64tab", "strconv.ErrSyntax", "strconv.ErrRange"], apart := false, laid := [("math/bits.deBruijn32tab", laid_math_bits_deBruijn32tab), ("math/bits.deBruijn64tab", laid_math_bits_deBruijn64tab), ("internal/strconv.uint64pow10", laid_internal_strconv_uint64pow10), ("strconv.ErrRange", laid_strconv_ErrRange), ("strconv.ErrSyntax", laid_strconv_ErrSyntax)] }
def GensBackSaid : Prop := gensBackRow.holds Tryd.pinned (OpenSpec.ofChange gensBackSpec)

/-- ITS FALSE NEIGHBOUR: 'it returns false'. Refute it at one input. -/
def gensBackWrong : ChangeSpec := { name := "gensBack", fn := fun _ => fun
  | [d1, d2, d3] => { results := [.lit (.bool false)], args := [d1, d2, d3] }
  | _ => none }
def GensBackWrongFalsely : Prop := gensBackRow.holds Tryd.pinned (OpenSpec.ofChange gensBackWrong)

/-- 'estraylaw01.GensReads': WHATEVER THE INPUT: true; the input reads as it did. -/
def gensReadsSpec : ChangeSpec := { name := "gensReads", fn := fun _ => fun
  | [d] => { results := [.lit (.bool true)], args := [d] }
  | _ => none }
def gensReadsRow : OpenClaim := { program := "ytkpgogleehmoaaadoor", sum := "223c318d40ed1ed839231f45a3ce4df5c065def7f54a2aa8cbc20a5ea1148568", func := "estray/estraylaw01.GensReads", spec := "gensReads", unfollowed := true, recurses := true, named := ["strconv.ErrSyntax", "strconv.ErrRange", "internal/strconv.uint64pow10", "math/bits.deBruijn32tab", "math/bits.deBruijn64tab"], apart := false, laid := [("math/bits.deBruijn32tab", laid_math_bits_deBruijn32tab), ("math/bits.deBruijn64tab", laid_math_bits_deBruijn64tab), ("internal/strconv.uint64pow10", laid_internal_strconv_uint64pow10), ("strconv.ErrRange", laid_strconv_ErrRange), ("strconv.ErrSyntax", laid_strconv_ErrSyntax)] }
def GensReadsSaid : Prop := gensReadsRow.holds Tryd.pinned (OpenSpec.ofChange gensReadsSpec)

/-- ITS FALSE NEIGHBOUR: 'it returns false'. Refute it at one input. -/
def gensReadsWrong : ChangeSpec := { name := "gensReads", fn := fun _ => fun
  | [d] => { results := [.lit (.bool false)], args := [d] }
  | _ => none }
def GensReadsWrongFalsely : Prop := gensReadsRow.holds Tryd.pinned (OpenSpec.ofChange gensReadsWrong)

/-- 'estraylaw01.GensNone': WHATEVER THE INPUT: true; the input reads as it did. -/
def gensNoneSpec : ChangeSpec := { name := "gensNone", fn := fun _ => fun
  | [d] => { results := [.lit (.bool true)], args := [d] }
  | _ => none }
def gensNoneRow : OpenClaim := { program := "ytkpgogleehmoaaadoor", sum := "223c318d40ed1ed839231f45a3ce4df5c065def7f54a2aa8cbc20a5ea1148568", func := "estray/estraylaw01.GensNone", spec := "gensNone", unfollowed := true, recurses := true, named := ["internal/strconv.uint64pow10", "math/bits.deBruijn32tab", "math/bits.deBruijn64tab", "strconv.ErrSyntax", "strconv.ErrRange"], apart := false, laid := [("math/bits.deBruijn32tab", laid_math_bits_deBruijn32tab), ("math/bits.deBruijn64tab", laid_math_bits_deBruijn64tab), ("internal/strconv.uint64pow10", laid_internal_strconv_uint64pow10), ("strconv.ErrRange", laid_strconv_ErrRange), ("strconv.ErrSyntax", laid_strconv_ErrSyntax)] }
def GensNoneSaid : Prop := gensNoneRow.holds Tryd.pinned (OpenSpec.ofChange gensNoneSpec)

/-- ITS FALSE NEIGHBOUR: 'it returns false'. Refute it at one input. -/
def gensNoneWrong : ChangeSpec := { name := "gensNone", fn := fun _ => fun
  | [d] => { results := [.lit (.bool false)], args := [d] }
  | _ => none }
def GensNoneWrongFalsely : Prop := gensNoneRow.holds Tryd.pinned (OpenSpec.ofChange gensNoneWrong)

/- THE SECOND FORM. 'bulk': how many values and letters a reading holds, each counted each time it is reached (what is shared counts as often as it is met; a slice's spare places count too). A statement '..UptoSaid' is the law's where the arguments, and the package variables that the reading takes, are together of bulk at most 1048576: NARROWER than '..Said'. Prove '..Said' where nothing that the law and all that it calls make is longer than what came in: it says more and counts as full. Else prove '..UptoSaid'. A law counts once. -/
mutual
def uptoBulk {H : Type} : DataW H → Nat
  | .lit (.string bytes) => bytes.length + 1
  | .lit _ => 1
  | .nil => 1
  | .ptr d => uptoBulk d + 1
  | .slice elems spare => uptoBulkAll elems + uptoBulkAll spare + 1
  | .agg parts => uptoBulkAll parts + 1
  | .iface _ d => uptoBulk d + 1
  | .map entries => uptoBulkEntries entries + 1
  | .held _ => 1
def uptoBulkAll {H : Type} : List (DataW H) → Nat
  | [] => 0
  | d :: r => uptoBulk d + uptoBulkAll r
def uptoBulkEntries {H : Type} : List (Lit × DataW H) → Nat
  | [] => 0
  | x :: r => uptoBulkEntry x + uptoBulkEntries r
def uptoBulkEntry {H : Type} : Lit × DataW H → Nat
  | (.string bytes, d) => bytes.length + uptoBulk d + 1
  | (_, d) => uptoBulk d + 1
 end
def uptoSmall : (H : Type) → List (DataW H) → Bool := fun _ ds => decide (uptoBulkAll ds ≤ 1048576)
def OpenSpec.upto (s : _root_.Go.ChangeSpec) : _root_.Go.OpenSpec := { _root_.Go.OpenSpec.ofChange s with cond := some uptoSmall }

/-- 'estraylaw01.GensSteps', WHERE WHAT IT READS IS OF BULK AT MOST 1048576: true; the input reads as it did. -/
def gensStepsUptoRow : OpenClaim := { program := "ytkpgogleehmoaaadoor", sum := "223c318d40ed1ed839231f45a3ce4df5c065def7f54a2aa8cbc20a5ea1148568", func := "estray/estraylaw01.GensSteps", spec := "gensSteps", unfollowed := true, recurses := true, named := ["strconv.ErrSyntax", "strconv.ErrRange", "internal/strconv.uint64pow10", "math/bits.deBruijn32tab", "math/bits.deBruijn64tab"], apart := false, laid := [("math/bits.deBruijn32tab", laid_math_bits_deBruijn32tab), ("math/bits.deBruijn64tab", laid_math_bits_deBruijn64tab), ("internal/strconv.uint64pow10", laid_internal_strconv_uint64pow10), ("strconv.ErrRange", laid_strconv_ErrRange), ("strconv.ErrSyntax", laid_strconv_ErrSyntax)], narrowed := true }
def GensStepsUptoSaid : Prop := gensStepsUptoRow.holds Tryd.pinned (OpenSpec.upto gensStepsSpec)

/-- 'estraylaw01.GensTexts', WHERE WHAT IT READS IS OF BULK AT MOST 1048576: true; the input reads as it did. -/
def gensTextsUptoRow : OpenClaim := { program := "ytkpgogleehmoaaadoor", sum := "223c318d40ed1ed839231f45a3ce4df5c065def7f54a2aa8cbc20a5ea1148568", func := "estray/estraylaw01.GensTexts", spec := "gensTexts", unfollowed := true, recurses := true, named := ["strconv.ErrSyntax", "strconv.ErrRange", "internal/strconv.uint64pow10", "math/bits.deBruijn32tab", "math/bits.deBruijn64tab"], apart := false, laid := [("math/bits.deBruijn32tab", laid_math_bits_deBruijn32tab), ("math/bits.deBruijn64tab", laid_math_bits_deBruijn64tab), ("internal/strconv.uint64pow10", laid_internal_strconv_uint64pow10), ("strconv.ErrRange", laid_strconv_ErrRange), ("strconv.ErrSyntax", laid_strconv_ErrSyntax)], narrowed := true }
def GensTextsUptoSaid : Prop := gensTextsUptoRow.holds Tryd.pinned (OpenSpec.upto gensTextsSpec)

/-- 'estraylaw01.GensNewer', WHERE WHAT IT READS IS OF BULK AT MOST 1048576: true; the input reads as it did. -/
def gensNewerUptoRow : OpenClaim := { program := "ytkpgogleehmoaaadoor", sum := "223c318d40ed1ed839231f45a3ce4df5c065def7f54a2aa8cbc20a5ea1148568", func := "estray/estraylaw01.GensNewer", spec := "gensNewer", unfollowed := true, recurses := true, named := ["strconv.ErrSyntax", "strconv.ErrRange", "internal/strconv.uint64pow10", "math/bits.deBruijn32tab", "math/bits.deBruijn64tab"], apart := false, laid := [("math/bits.deBruijn32tab", laid_math_bits_deBruijn32tab), ("math/bits.deBruijn64tab", laid_math_bits_deBruijn64tab), ("internal/strconv.uint64pow10", laid_internal_strconv_uint64pow10), ("strconv.ErrRange", laid_strconv_ErrRange), ("strconv.ErrSyntax", laid_strconv_ErrSyntax)], narrowed := true }
def GensNewerUptoSaid : Prop := gensNewerUptoRow.holds Tryd.pinned (OpenSpec.upto gensNewerSpec)

/-- 'estraylaw01.GensChain', WHERE WHAT IT READS IS OF BULK AT MOST 1048576: true; the input reads as it did. -/
def gensChainUptoRow : OpenClaim := { program := "ytkpgogleehmoaaadoor", sum := "223c318d40ed1ed839231f45a3ce4df5c065def7f54a2aa8cbc20a5ea1148568", func := "estray/estraylaw01.GensChain", spec := "gensChain", unfollowed := true, recurses := true, named := ["strconv.ErrSyntax", "strconv.ErrRange", "internal/strconv.uint64pow10", "math/bits.deBruijn32tab", "math/bits.deBruijn64tab"], apart := false, laid := [("math/bits.deBruijn32tab", laid_math_bits_deBruijn32tab), ("math/bits.deBruijn64tab", laid_math_bits_deBruijn64tab), ("internal/strconv.uint64pow10", laid_internal_strconv_uint64pow10), ("strconv.ErrRange", laid_strconv_ErrRange), ("strconv.ErrSyntax", laid_strconv_ErrSyntax)], narrowed := true }
def GensChainUptoSaid : Prop := gensChainUptoRow.holds Tryd.pinned (OpenSpec.upto gensChainSpec)

/-- 'estraylaw01.GensSplit', WHERE WHAT IT READS IS OF BULK AT MOST 1048576: true; the input reads as it did. -/
def gensSplitUptoRow : OpenClaim := { program := "ytkpgogleehmoaaadoor", sum := "223c318d40ed1ed839231f45a3ce4df5c065def7f54a2aa8cbc20a5ea1148568", func := "estray/estraylaw01.GensSplit", spec := "gensSplit", unfollowed := true, recurses := true, named := ["strconv.ErrSyntax", "strconv.ErrRange", "internal/strconv.uint64pow10", "math/bits.deBruijn32tab", "math/bits.deBruijn64tab"], apart := false, laid := [("math/bits.deBruijn32tab", laid_math_bits_deBruijn32tab), ("math/bits.deBruijn64tab", laid_math_bits_deBruijn64tab), ("internal/strconv.uint64pow10", laid_internal_strconv_uint64pow10), ("strconv.ErrRange", laid_strconv_ErrRange), ("strconv.ErrSyntax", laid_strconv_ErrSyntax)], narrowed := true }
def GensSplitUptoSaid : Prop := gensSplitUptoRow.holds Tryd.pinned (OpenSpec.upto gensSplitSpec)

/-- 'estraylaw01.GensOrder', WHERE WHAT IT READS IS OF BULK AT MOST 1048576: true; the input reads as it did. -/
def gensOrderUptoRow : OpenClaim := { program := "ytkpgogleehmoaaadoor", sum := "223c318d40ed1ed839231f45a3ce4df5c065def7f54a2aa8cbc20a5ea1148568", func := "estray/estraylaw01.GensOrder", spec := "gensOrder", unfollowed := true, recurses := true, named := ["strconv.ErrSyntax", "strconv.ErrRange", "internal/strconv.uint64pow10", "math/bits.deBruijn32tab", "math/bits.deBruijn64tab"], apart := false, laid := [("math/bits.deBruijn32tab", laid_math_bits_deBruijn32tab), ("math/bits.deBruijn64tab", laid_math_bits_deBruijn64tab), ("internal/strconv.uint64pow10", laid_internal_strconv_uint64pow10), ("strconv.ErrRange", laid_strconv_ErrRange), ("strconv.ErrSyntax", laid_strconv_ErrSyntax)], narrowed := true }
def GensOrderUptoSaid : Prop := gensOrderUptoRow.holds Tryd.pinned (OpenSpec.upto gensOrderSpec)

/-- 'estraylaw01.GensBack', WHERE WHAT IT READS IS OF BULK AT MOST 1048576: true; the input reads as it did. -/
def gensBackUptoRow : OpenClaim := { program := "ytkpgogleehmoaaadoor", sum := "223c318d40ed1ed839231f45a3ce4df5c065def7f54a2aa8cbc20a5ea1148568", func := "estray/estraylaw01.GensBack", spec := "gensBack", unfollowed := true, recurses := true, named := ["internal/strconv.uint64pow10", "math/bits.deBruijn32tab", "math/bits.deBruijn64tab", "strconv.ErrSyntax", "strconv.ErrRange"], apart := false, laid := [("math/bits.deBruijn32tab", laid_math_bits_deBruijn32tab), ("math/bits.deBruijn64tab", laid_math_bits_deBruijn64tab), ("internal/strconv.uint64pow10", laid_internal_strconv_uint64pow10), ("strconv.ErrRange", laid_strconv_ErrRange), ("strconv.ErrSyntax", laid_strconv_ErrSyntax)], narrowed := true }
def GensBackUptoSaid : Prop := gensBackUptoRow.holds Tryd.pinned (OpenSpec.upto gensBackSpec)

/-- 'estraylaw01.GensReads', WHERE WHAT IT READS IS OF BULK AT MOST 1048576: true; the input reads as it did. -/
def gensReadsUptoRow : OpenClaim := { program := "ytkpgogleehmoaaadoor", sum := "223c318d40ed1ed839231f45a3ce4df5c065def7f54a2aa8cbc20a5ea1148568", func := "estray/estraylaw01.GensReads", spec := "gensReads", unfollowed := true, recurses := true, named := ["strconv.ErrSyntax", "strconv.ErrRange", "internal/strconv.uint64pow10", "math/bits.deBruijn32tab", "math/bits.deBruijn64tab"], apart := false, laid := [("math/bits.deBruijn32tab", laid_math_bits_deBruijn32tab), ("math/bits.deBruijn64tab", laid_math_bits_deBruijn64tab), ("internal/strconv.uint64pow10", laid_internal_strconv_uint64pow10), ("strconv.ErrRange", laid_strconv_ErrRange), ("strconv.ErrSyntax", laid_strconv_ErrSyntax)], narrowed := true }
def GensReadsUptoSaid : Prop := gensReadsUptoRow.holds Tryd.pinned (OpenSpec.upto gensReadsSpec)

/-- 'estraylaw01.GensNone', WHERE WHAT IT READS IS OF BULK AT MOST 1048576: true; the input reads as it did. -/
def gensNoneUptoRow : OpenClaim := { program := "ytkpgogleehmoaaadoor", sum := "223c318d40ed1ed839231f45a3ce4df5c065def7f54a2aa8cbc20a5ea1148568", func := "estray/estraylaw01.GensNone", spec := "gensNone", unfollowed := true, recurses := true, named := ["internal/strconv.uint64pow10", "math/bits.deBruijn32tab", "math/bits.deBruijn64tab", "strconv.ErrSyntax", "strconv.ErrRange"], apart := false, laid := [("math/bits.deBruijn32tab", laid_math_bits_deBruijn32tab), ("math/bits.deBruijn64tab", laid_math_bits_deBruijn64tab), ("internal/strconv.uint64pow10", laid_internal_strconv_uint64pow10), ("strconv.ErrRange", laid_strconv_ErrRange), ("strconv.ErrSyntax", laid_strconv_ErrSyntax)], narrowed := true }
def GensNoneUptoSaid : Prop := gensNoneUptoRow.holds Tryd.pinned (OpenSpec.upto gensNoneSpec)

end Rows
end Go.Proofs.YtkpgogleehmoaaaDoor
