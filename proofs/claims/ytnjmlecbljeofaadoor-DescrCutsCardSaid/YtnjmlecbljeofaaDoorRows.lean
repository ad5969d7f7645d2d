/-
  NARROWER THAN 'FOR EVERY INPUT', by the rows' own cells (each row's printed sentence says how): DescrNumbers: laid · DescrTexts: laid · DescrOuters: laid · DescrOrders: laid · DescrBack: laid · DescrNames: laid · DescrSorted: laid · DescrReads: laid · DescrCuts: laid · DescrWrong: laid.
  DERIVED. THE GIVEN ROWS OF THIS SEAT. 10 by the template 'for every input the law returns true; each argument reads behind the call as it read before'; 0 by the template 'total and deterministic' (their statements: YtnjmlecbljeofaaDoorTotals.lean).
  GIVEN WITH THE SEED: the statements are not yours to turn. If you find one false, say at which input.
  Laid BY PROGRAM, IN A SANDBOX (cutbox-rows.mjs): the forced cells as the released guide's own fill.sh prints them over the translation 46d343dc4c24bfdf… (all of the seat's roots in one cut). By AI agents, Wed Nov 11 2026. No macro, syntax, notation, axiom, sorry.
-/
import Derived.Test.YtnjmlecbljeofaaDoorChecked
import GoSem.Claim
import GoSem.ClaimJoined
import GoSem.ClaimMapViews
import Derived.JoinedTies
import Derived.KernelRfl
namespace Go.Proofs.YtnjmlecbljeofaaDoor
/- THE CELL 'sum', in the pinned program and in every row, IS THE sha256 OF THE DUMP (.gsa) THAT YtnjmlecbljeofaaDoorProg.lean LOADS. Nothing in Lean hashes anything: it is a label: what it is worth is what the hold of that sum in a sandbox is worth. -/
noncomputable def Tryd.pinned : Pinned := { name := "ytnjmlecbljeofaadoor", sum := "46d343dc4c24bfdfc07804cfa67148f1844e3a22a733d7b68c66afb47db1c1de", checked := Tryd.checked }
namespace Rows
def none {H : Type} : Left H := { results := [], args := [] }

/- WHAT THE LISTED PACKAGE-LEVEL VARIABLES READ AS WHEN THE CALL BEGINS. Each datum BY PROGRAM (the guide's laid-datum.mjs) off the statement by which the dump's own 'gosem.cut.vars' lays the variable. In a bare row this is a premise. The card (YtnjmlecbljeofaaDoorCards.lean) ties it to the program's text. -/
def laid_math_bits_deBruijn32tab {H : Type} : DataW H := .agg [.lit (.int .u8 0), .lit (.int .u8 1), .lit (.int .u8 28), .lit (.int .u8 2), .lit (.int .u8 29), .lit (.int .u8 14), .lit (.int .u8 24), .lit (.int .u8 3), .lit (.int .u8 30), .lit (.int .u8 22), .lit (.int .u8 20), .lit (.int .u8 15), .lit (.int .u8 25), .lit (.int .u8 17), .lit (.int .u8 4), .lit (.int .u8 8), .lit (.int .u8 31), .lit (.int .u8 27), .lit (.int .u8 13), .lit (.int .u8 23), .lit (.int .u8 21), .lit (.int .u8 19), .lit (.int .u8 16), .lit (.int .u8 7), .lit (.int .u8 26), .lit (.int .u8 12), .lit (.int .u8 18), .lit (.int .u8 6), .lit (.int .u8 11), .lit (.int .u8 5), .lit (.int .u8 10), .lit (.int .u8 9)]
def laid_math_bits_deBruijn64tab {H : Type} : DataW H := .agg [.lit (.int .u8 0), .lit (.int .u8 1), .lit (.int .u8 56), .lit (.int .u8 2), .lit (.int .u8 57), .lit (.int .u8 49), .lit (.int .u8 28), .lit (.int .u8 3), .lit (.int .u8 61), .lit (.int .u8 58), .lit (.int .u8 42), .lit (.int .u8 50), .lit (.int .u8 38), .lit (.int .u8 29), .lit (.int .u8 17), .lit (.int .u8 4), .lit (.int .u8 62), .lit (.int .u8 47), .lit (.int .u8 59), .lit (.int .u8 36), .lit (.int .u8 45), .lit (.int .u8 43), .lit (.int .u8 51), .lit (.int .u8 22), .lit (.int .u8 53), .lit (.int .u8 39), .lit (.int .u8 33), .lit (.int .u8 30), .lit (.int .u8 24), .lit (.int .u8 18), .lit (.int .u8 12), .lit (.int .u8 5), .lit (.int .u8 63), .lit (.int .u8 55), .lit (.int .u8 48), .lit (.int .u8 27), .lit (.int .u8 60), .lit (.int .u8 41), .lit (.int .u8 37), .lit (.int .u8 16), .lit (.int .u8 46), .lit (.int .u8 35), .lit (.int .u8 44), .lit (.int .u8 21), .lit (.int .u8 52), .lit (.int .u8 32), .lit (.int .u8 23), .lit (.int .u8 11), .lit (.int .u8 54), .lit (.int .u8 26), .lit (.int .u8 40), .lit (.int .u8 15), .lit (.int .u8 34), .lit (.int .u8 20), .lit (.int .u8 31), .lit (.int .u8 10), .lit (.int .u8 25), .lit (.int .u8 14), .lit (.int .u8 19), .lit (.int .u8 9), .lit (.int .u8 13), .lit (.int .u8 8), .lit (.int .u8 7), .lit (.int .u8 6)]
def laid_internal_strconv_uint64pow10 {H : Type} : DataW H := .agg [.lit (.int .u64 1), .lit (.int .u64 10), .lit (.int .u64 100), .lit (.int .u64 1000), .lit (.int .u64 10000), .lit (.int .u64 100000), .lit (.int .u64 1000000), .lit (.int .u64 10000000), .lit (.int .u64 100000000), .lit (.int .u64 1000000000), .lit (.int .u64 10000000000), .lit (.int .u64 100000000000), .lit (.int .u64 1000000000000), .lit (.int .u64 10000000000000), .lit (.int .u64 100000000000000), .lit (.int .u64 1000000000000000), .lit (.int .u64 10000000000000000), .lit (.int .u64 100000000000000000), .lit (.int .u64 1000000000000000000), .lit (.int .u64 10000000000000000000)]
def laid_strconv_ErrRange {H : Type} : DataW H := .iface "*errors.errorString" (.ptr (.agg [.lit (.string [118, 97, 108, 117, 101, 32, 111, 117, 116, 32, 111, 102, 32, 114, 97, 110, 103, 101])]))
def laid_strconv_ErrSyntax {H : Type} : DataW H := .iface "*errors.errorString" (.ptr (.agg [.lit (.string [105, 110, 118, 97, 108, 105, 100, 32, 115, 121, 110, 116, 97, 120])]))
def laid_estray_descr_letters {H : Type} : DataW H := .agg [.lit (.string [102]), .lit (.string [98]), .lit (.string [108])]

/-- 'estraylaw05.DescrNumbers': WHATEVER THE INPUT: true; the input reads as it did. -/
def descrNumbersSpec : ChangeSpec := { name := "descrNumbers", fn := fun _ => fun
  | [d1, d2] => { results := [.lit (.bool true)], args := [d1, d2] }
  | _ => none }
def descrNumbersRow : OpenClaim := { program := "ytnjmlecbljeofaadoor", sum := "46d343dc4c24bfdfc07804cfa67148f1844e3a22a733d7b68c66afb47db1c1de", func := "estray/estraylaw05.DescrNumbers", spec := "descrNumbers", inPlace := ["internal/bytealg.IndexByteString", "internal/bytealg.IndexString"], unfollowed := true, recurses := true, named := ["estray/descr.letters", "internal/strconv.uint64pow10", "math/bits.deBruijn32tab", "math/bits.deBruijn64tab", "internal/bytealg.MaxLen", "strconv.ErrSyntax", "strconv.ErrRange"], apart := false, laid := [("math/bits.deBruijn32tab", laid_math_bits_deBruijn32tab), ("math/bits.deBruijn64tab", laid_math_bits_deBruijn64tab), ("internal/strconv.uint64pow10", laid_internal_strconv_uint64pow10), ("strconv.ErrRange", laid_strconv_ErrRange), ("strconv.ErrSyntax", laid_strconv_ErrSyntax), ("estray/descr.letters", laid_estray_descr_letters)] }
def DescrNumbersSaid : Prop := descrNumbersRow.holds Tryd.pinned (OpenSpec.ofChange descrNumbersSpec)

/-- ITS FALSE NEIGHBOUR: 'it returns false'. Refute it at one input. -/
def descrNumbersWrong : ChangeSpec := { name := "descrNumbers", fn := fun _ => fun
  | [d1, d2] => { results := [.lit (.bool false)], args := [d1, d2] }
  | _ => none }
def DescrNumbersWrongFalsely : Prop := descrNumbersRow.holds Tryd.pinned (OpenSpec.ofChange descrNumbersWrong)

/-- 'estraylaw05.DescrTexts': WHATEVER THE INPUT: true; the input reads as it did. -/
def descrTextsSpec : ChangeSpec := { name := "descrTexts", fn := fun _ => fun
  | [d1, d2] => { results := [.lit (.bool true)], args := [d1, d2] }
  | _ => none }
def descrTextsRow : OpenClaim := { program := "ytnjmlecbljeofaadoor", sum := "46d343dc4c24bfdfc07804cfa67148f1844e3a22a733d7b68c66afb47db1c1de", func := "estray/estraylaw05.DescrTexts", spec := "descrTexts", inPlace := ["internal/bytealg.IndexByteString", "internal/bytealg.IndexString"], unfollowed := true, recurses := true, named := ["estray/descr.letters", "internal/strconv.uint64pow10", "math/bits.deBruijn32tab", "math/bits.deBruijn64tab", "internal/bytealg.MaxLen", "strconv.ErrSyntax", "strconv.ErrRange"], apart := false, laid := [("math/bits.deBruijn32tab", laid_math_bits_deBruijn32tab), ("math/bits.deBruijn64tab", laid_math_bits_deBruijn64tab), ("internal/strconv.uint64pow10", laid_internal_strconv_uint64pow10), ("strconv.ErrRange", laid_strconv_ErrRange), ("strconv.ErrSyntax", laid_strconv_ErrSyntax), ("estray/descr.letters", laid_estray_descr_letters)] }
def DescrTextsSaid : Prop := descrTextsRow.holds Tryd.pinned (OpenSpec.ofChange descrTextsSpec)

/-- ITS FALSE NEIGHBOUR: 'it returns false'. Refute it at one input. -/
def descrTextsWrong : ChangeSpec := { name := "descrTexts", fn := fun _ => fun
  | [d1, d2] => { results := [.lit (.bool false)], args := [d1, d2] }
  | _ => none }
def DescrTextsWrongFalsely : Prop := descrTextsRow.holds Tryd.pinned (OpenSpec.ofChange descrTextsWrong)

/-- 'estraylaw05.DescrOuters': WHATEVER THE INPUT: true; the input reads as it did. -/
def descrOutersSpec : ChangeSpec := { name := "descrOuters", fn := fun _ => fun
  | [d1, d2] => { results := [.lit (.bool true)], args := [d1, d2] }
  | _ => none }
def descrOutersRow : OpenClaim := { program := "ytnjmlecbljeofaadoor", sum := "46d343dc4c24bfdfc07804cfa67148f1844e3a22a733d7b68c66afb47db1c1de", func := "estray/estraylaw05.DescrOuters", spec := "descrOuters", inPlace := ["internal/bytealg.IndexByteString", "internal/bytealg.IndexString"], unfollowed := true, recurses := true, named := ["estray/descr.letters", "internal/strconv.uint64pow10", "math/bits.deBruijn32tab", "math/bits.deBruijn64tab", "internal/bytealg.MaxLen", "strconv.ErrSyntax", "strconv.ErrRange"], apart := false, laid := [("math/bits.deBruijn32tab", laid_math_bits_deBruijn32tab), ("math/bits.deBruijn64tab", laid_math_bits_deBruijn64tab), ("internal/strconv.uint64pow10", laid_internal_strconv_uint64pow10), ("strconv.ErrRange", laid_strconv_ErrRange), ("strconv.ErrSyntax", laid_strconv_ErrSyntax), ("estray/descr.letters", laid_estray_descr_letters)] }
def DescrOutersSaid : Prop := descrOutersRow.holds Tryd.pinned (OpenSpec.ofChange descrOutersSpec)

/-- ITS FALSE NEIGHBOUR: 'it returns false'. Refute it at one input. -/
def descrOutersWrong : ChangeSpec := { name := "descrOuters", fn := fun _ => fun
  | [d1, d2] => { results := [.lit (.bool false)], args := [d1, d2] }
  | _ => none }
def DescrOutersWrongFalsely : Prop := descrOutersRow.holds Tryd.pinned (OpenSpec.ofChange descrOutersWrong)

/-- 'estraylaw05.DescrOrders': WHATEVER THE INPUT: true; the input reads as it did. -/
def descrOrdersSpec : ChangeSpec := { name := "descrOrders", fn := fun _ => fun
  | [d1, d2] => { results := [.lit (.bool true)], args := [d1, d2] }
  | _ => none }
def descrOrdersRow : OpenClaim := { program := "ytnjmlecbljeofaadoor", sum := "46d343dc4c24bfdfc07804cfa67148f1844e3a22a733d7b68c66afb47db1c1de", func := "estray/estraylaw05.DescrOrders", spec := "descrOrders", inPlace := ["internal/bytealg.IndexByteString", "internal/bytealg.IndexString"], unfollowed := true, recurses := true, named := ["estray/descr.letters", "internal/strconv.uint64pow10", "math/bits.deBruijn32tab", "math/bits.deBruijn64tab", "internal/bytealg.MaxLen", "strconv.ErrSyntax", "strconv.ErrRange"], apart := false, laid := [("math/bits.deBruijn32tab", laid_math_bits_deBruijn32tab), ("math/bits.deBruijn64tab", laid_math_bits_deBruijn64tab), ("internal/strconv.uint64pow10", laid_internal_strconv_uint64pow10), ("strconv.ErrRange", laid_strconv_ErrRange), ("strconv.ErrSyntax", laid_strconv_ErrSyntax), ("estray/descr.letters", laid_estray_descr_letters)] }
def DescrOrdersSaid : Prop := descrOrdersRow.holds Tryd.pinned (OpenSpec.ofChange descrOrdersSpec)

/-- ITS FALSE NEIGHBOUR: 'it returns false'. Refute it at one input. -/
def descrOrdersWrong : ChangeSpec := { name := "descrOrders", fn := fun _ => fun
  | [d1, d2] => { results := [.lit (.bool false)], args := [d1, d2] }
  | _ => none }
def DescrOrdersWrongFalsely : Prop := descrOrdersRow.holds Tryd.pinned (OpenSpec.ofChange descrOrdersWrong)

/-- 'estraylaw05.DescrBack': WHATEVER THE INPUT: true; the input reads as it did. -/
def descrBackSpec : ChangeSpec := { name := "descrBack", fn := fun _ => fun
  | [d1, d2, d3] => { results := [.lit (.bool true)], args := [d1, d2, d3] }
  | _ => none }
def descrBackRow : OpenClaim := { program := "ytnjmlecbljeofaadoor", sum := "46d343dc4c24bfdfc07804cfa67148f1844e3a22a733d7b68c66afb47db1c1de", func := "estray/estraylaw05.DescrBack", spec := "descrBack", inPlace := ["internal/bytealg.IndexByteString", "internal/bytealg.IndexString"], unfollowed := true, recurses := true, named := ["estray/descr.letters", "internal/strconv.uint64pow10", "math/bits.deBruijn32tab", "math/bits.deBruijn64tab", "internal/bytealg.MaxLen", "strconv.ErrSyntax", "strconv.ErrRange"], apart := false, laid := [("math/bits.deBruijn32tab", laid_math_bits_deBruijn32tab), ("math/bits.deBruijn64tab", laid_math_bits_deBruijn64tab), ("internal/strconv.uint64pow10", laid_internal_strconv_uint64pow10), ("strconv.ErrRange", laid_strconv_ErrRange), ("strconv.ErrSyntax", laid_strconv_ErrSyntax), ("estray/descr.letters", laid_estray_descr_letters)] }
def DescrBackSaid : Prop := descrBackRow.holds Tryd.pinned (OpenSpec.ofChange descrBackSpec)

/-- ITS FALSE NEIGHBOUR: 'it returns false'. Refute it at one input. -/
def descrBackWrong : ChangeSpec := { name := "descrBack", fn := fun _ => fun
  | [d1, d2, d3] => { results := [.lit (.bool false)], args := [d1, d2, d3] }
  | _ => none }
def DescrBackWrongFalsely : Prop := descrBackRow.holds Tryd.pinned (OpenSpec.ofChange descrBackWrong)

/-- 'estraylaw05.DescrNames': WHATEVER THE INPUT: true; the input reads as it did. -/
def descrNamesSpec : ChangeSpec := { name := "descrNames", fn := fun _ => fun
  | [d1, d2, d3, d4, d5, d6] => { results := [.lit (.bool true)], args := [d1, d2, d3, d4, d5, d6] }
  | _ => none }
def descrNamesRow : OpenClaim := { program := "ytnjmlecbljeofaadoor", sum := "46d343dc4c24bfdfc07804cfa67148f1844e3a22a733d7b68c66afb47db1c1de", func := "estray/estraylaw05.DescrNames", spec := "descrNames", inPlace := ["internal/bytealg.IndexByteString", "internal/bytealg.IndexString"], unfollowed := true, recurses := true, named := ["estray/descr.letters", "internal/strconv.uint64pow10", "math/bits.deBruijn32tab", "math/bits.deBruijn64tab", "internal/bytealg.MaxLen", "strconv.ErrSyntax", "strconv.ErrRange"], apart := false, laid := [("math/bits.deBruijn32tab", laid_math_bits_deBruijn32tab), ("math/bits.deBruijn64tab", laid_math_bits_deBruijn64tab), ("internal/strconv.uint64pow10", laid_internal_strconv_uint64pow10), ("strconv.ErrRange", laid_strconv_ErrRange), ("strconv.ErrSyntax", laid_strconv_ErrSyntax), ("estray/descr.letters", laid_estray_descr_letters)] }
def DescrNamesSaid : Prop := descrNamesRow.holds Tryd.pinned (OpenSpec.ofChange descrNamesSpec)

/-- ITS FALSE NEIGHBOUR: 'it returns false'. Refute it at one input. -/
def descrNamesWrong : ChangeSpec := { name := "descrNames", fn := fun _ => fun
  | [d1, d2, d3, d4, d5, d6] => { results := [.lit (.bool false)], args := [d1, d2, d3, d4, d5, d6] }
  | _ => none }
def DescrNamesWrongFalsely : Prop := descrNamesRow.holds Tryd.pinned (OpenSpec.ofChange descrNamesWrong)

/-- 'estraylaw05.DescrSorted': WHATEVER THE INPUT: true; the input reads as it did. -/
def descrSortedSpec : ChangeSpec := { name := "descrSorted", fn := fun _ => fun
  | [d1, d2, d3] => { results := [.lit (.bool true)], args := [d1, d2, d3] }
  | _ => none }
def descrSortedRow : OpenClaim := { program := "ytnjmlecbljeofaadoor", sum := "46d343dc4c24bfdfc07804cfa67148f1844e3a22a733d7b68c66afb47db1c1de", func := "estray/estraylaw05.DescrSorted", spec := "descrSorted", inPlace := ["internal/bytealg.IndexByteString", "internal/bytealg.IndexString"], unfollowed := true, recurses := true, named := ["estray/descr.letters", "internal/strconv.uint64pow10", "math/bits.deBruijn32tab", "math/bits.deBruijn64tab", "internal/bytealg.MaxLen", "strconv.ErrSyntax", "strconv.ErrRange"], apart := false, laid := [("math/bits.deBruijn32tab", laid_math_bits_deBruijn32tab), ("math/bits.deBruijn64tab", laid_math_bits_deBruijn64tab), ("internal/strconv.uint64pow10", laid_internal_strconv_uint64pow10), ("strconv.ErrRange", laid_strconv_ErrRange), ("strconv.ErrSyntax", laid_strconv_ErrSyntax), ("estray/descr.letters", laid_estray_descr_letters)] }
def DescrSortedSaid : Prop := descrSortedRow.holds Tryd.pinned (OpenSpec.ofChange descrSortedSpec)

/-- ITS FALSE NEIGHBOUR: 'it returns false'. Refute it at one input. -/
def descrSortedWrong : ChangeSpec := { name := "descrSorted", fn := fun _ => fun
  | [d1, d2, d3] => { results := [.lit (.bool false)], args := [d1, d2, d3] }
  | _ => none }
def DescrSortedWrongFalsely : Prop := descrSortedRow.holds Tryd.pinned (OpenSpec.ofChange descrSortedWrong)

/-- 'estraylaw05.DescrReads': WHATEVER THE INPUT: true; the input reads as it did. -/
def descrReadsSpec : ChangeSpec := { name := "descrReads", fn := fun _ => fun
  | [d1, d2] => { results := [.lit (.bool true)], args := [d1, d2] }
  | _ => none }
def descrReadsRow : OpenClaim := { program := "ytnjmlecbljeofaadoor", sum := "46d343dc4c24bfdfc07804cfa67148f1844e3a22a733d7b68c66afb47db1c1de", func := "estray/estraylaw05.DescrReads", spec := "descrReads", inPlace := ["internal/bytealg.IndexByteString", "internal/bytealg.IndexString"], unfollowed := true, recurses := true, named := ["estray/descr.letters", "internal/strconv.uint64pow10", "math/bits.deBruijn32tab", "math/bits.deBruijn64tab", "internal/bytealg.MaxLen", "strconv.ErrSyntax", "strconv.ErrRange"], apart := false, laid := [("math/bits.deBruijn32tab", laid_math_bits_deBruijn32tab), ("math/bits.deBruijn64tab", laid_math_bits_deBruijn64tab), ("internal/strconv.uint64pow10", laid_internal_strconv_uint64pow10), ("strconv.ErrRange", laid_strconv_ErrRange), ("strconv.ErrSyntax", laid_strconv_ErrSyntax), ("estray/descr.letters", laid_estray_descr_letters)] }
def DescrReadsSaid : Prop := descrReadsRow.holds Tryd.pinned (OpenSpec.ofChange descrReadsSpec)

/-- ITS FALSE NEIGHBOUR: 'it returns false'. Refute it at one input. -/
def descrReadsWrong : ChangeSpec := { name := "descrReads", fn := fun _ => fun
  | [d1, d2] => { results := [.lit (.bool false)], args := [d1, d2] }
  | _ => none }
def DescrReadsWrongFalsely : Prop := descrReadsRow.holds Tryd.pinned (OpenSpec.ofChange descrReadsWrong)

/-- 'estraylaw05.DescrCuts': WHATEVER THE INPUT: true; the input reads as it did. -/
def descrCutsSpec : ChangeSpec := { name := "descrCuts", fn := fun _ => fun
  | [d1, d2, d3, d4, d5] => { results := [.lit (.bool true)], args := [d1, d2, d3, d4, d5] }
  | _ => none }
def descrCutsRow : OpenClaim := { program := "ytnjmlecbljeofaadoor", sum := "46d343dc4c24bfdfc07804cfa67148f1844e3a22a733d7b68c66afb47db1c1de", func := "estray/estraylaw05.DescrCuts", spec := "descrCuts", inPlace := ["internal/bytealg.IndexByteString", "internal/bytealg.IndexString"], unfollowed := true, recurses := true, named := ["estray/descr.letters", "internal/strconv.uint64pow10", "math/bits.deBruijn32tab", "math/bits.deBruijn64tab", "internal/bytealg.MaxLen", "strconv.ErrSyntax", "strconv.ErrRange"], apart := false, laid := [("math/bits.deBruijn32tab", laid_math_bits_deBruijn32tab), ("math/bits.deBruijn64tab", laid_math_bits_deBruijn64tab), ("internal/strconv.uint64pow10", laid_internal_strconv_uint64pow10), ("strconv.ErrRange", laid_strconv_ErrRange), ("strconv.ErrSyntax", laid_strconv_ErrSyntax), ("estray/descr.letters", laid_estray_descr_letters)] }
def DescrCutsSaid : Prop := descrCutsRow.holds Tryd.pinned (OpenSpec.ofChange descrCutsSpec)

/-- ITS FALSE NEIGHBOUR: 'it returns false'. Refute it at one input. -/
def descrCutsWrong : ChangeSpec := { name := "descrCuts", fn := fun _ => fun
  | [d1, d2, d3, d4, d5] => { results := [.lit (.bool false)], args := [d1, d2, d3, d4, d5] }
  | _ => none }
def DescrCutsWrongFalsely : Prop := descrCutsRow.holds Tryd.pinned (OpenSpec.ofChange descrCutsWrong)

/-- 'estraylaw05.DescrWrong': WHATEVER THE INPUT: true; the input reads as it did. -/
def descrWrongSpec : ChangeSpec := { name := "descrWrong", fn := fun _ => fun
  | [d1, d2, d3, d4, d5] => { results := [.lit (.bool true)], args := [d1, d2, d3, d4, d5] }
  | _ => none }
def descrWrongRow : OpenClaim := { program := "ytnjmlecbljeofaadoor", sum := "46d343dc4c24bfdfc07804cfa67148f1844e3a22a733d7b68c66afb47db1c1de", func := "estray/estraylaw05.DescrWrong", spec := "descrWrong", inPlace := ["internal/bytealg.IndexByteString", "internal/bytealg.IndexString"], unfollowed := true, recurses := true, named := ["estray/descr.letters", "internal/strconv.uint64pow10", "math/bits.deBruijn32tab", "math/bits.deBruijn64tab", "internal/bytealg.MaxLen", "strconv.ErrSyntax", "strconv.ErrRange"], apart := false, laid := [("math/bits.deBruijn32tab", laid_math_bits_deBruijn32tab), ("math/bits.deBruijn64tab", laid_math_bits_deBruijn64tab), ("internal/strconv.uint64pow10", laid_internal_strconv_uint64pow10), ("strconv.ErrRange", laid_strconv_ErrRange), ("strconv.ErrSyntax", laid_strconv_ErrSyntax), ("estray/descr.letters", laid_estray_descr_letters)] }
def DescrWrongSaid : Prop := descrWrongRow.holds Tryd.pinned (OpenSpec.ofChange descrWrongSpec)

/-- ITS FALSE NEIGHBOUR: 'it returns false'. Refute it at one input. -/
def descrWrongWrong : ChangeSpec := { name := "descrWrong", fn := fun _ => fun
  | [d1, d2, d3, d4, d5] => { results := [.lit (.bool false)], args := [d1, d2, d3, d4, d5] }
  | _ => none }
def DescrWrongWrongFalsely : Prop := descrWrongRow.holds Tryd.pinned (OpenSpec.ofChange descrWrongWrong)

/- THE SECOND FORM. 'bulk': how many values and letters a reading holds, each counted each time it is reached (what is shared counts as often as it is met; a slice's spare places count too). A statement '..UptoSaid' is the law's where the arguments, and the package variables that the reading takes, are together of bulk at most 1048576: NARROWER than '..Said'. Prove '..Said' where nothing that the law and all that it calls make is longer than what came in: it says more and counts as full. Else prove '..UptoSaid'. A law counts once. -/
mutual
def uptoBulk {H : Type} : DataW H → Nat
  | .lit (.string bytes) => bytes.length + 1
  | .lit _ => 1
  | .nil => 1
  | .ptr d => uptoBulk d + 1
  | .slice elems spare => uptoBulkAll elems + uptoBulkAll spare + 1
  | .agg parts => uptoBulkAll parts + 1
  | .iface _ d => uptoBulk d + 1
  | .map entries => uptoBulkEntries entries + 1
  | .held _ => 1
def uptoBulkAll {H : Type} : List (DataW H) → Nat
  | [] => 0
  | d :: r => uptoBulk d + uptoBulkAll r
def uptoBulkEntries {H : Type} : List (Lit × DataW H) → Nat
  | [] => 0
  | x :: r => uptoBulkEntry x + uptoBulkEntries r
def uptoBulkEntry {H : Type} : Lit × DataW H → Nat
  | (.string bytes, d) => bytes.length + uptoBulk d + 1
  | (_, d) => uptoBulk d + 1
 end
def uptoSmall : (H : Type) → List (DataW H) → Bool := fun _ ds => decide (uptoBulkAll ds ≤ 1048576)
def OpenSpec.upto (s : _root_.Go.ChangeSpec) : _root_.Go.OpenSpec := { _root_.Go.OpenSpec.ofChange s with cond := some uptoSmall }

/-- 'estraylaw05.DescrNumbers', WHERE WHAT IT READS IS OF BULK AT MOST 1048576: true; the input reads as it did. -/
def descrNumbersUptoRow : OpenClaim := { program := "ytnjmlecbljeofaadoor", sum := "46d343dc4c24bfdfc07804cfa67148f1844e3a22a733d7b68c66afb47db1c1de", func := "estray/estraylaw05.DescrNumbers", spec := "descrNumbers", inPlace := ["internal/bytealg.IndexByteString", "internal/bytealg.IndexString"], unfollowed := true, recurses := true, named := ["estray/descr.letters", "internal/strconv.uint64pow10", "math/bits.deBruijn32tab", "math/bits.deBruijn64tab", "internal/bytealg.MaxLen", "strconv.ErrSyntax", "strconv.ErrRange"], apart := false, laid := [("math/bits.deBruijn32tab", laid_math_bits_deBruijn32tab), ("math/bits.deBruijn64tab", laid_math_bits_deBruijn64tab), ("internal/strconv.uint64pow10", laid_internal_strconv_uint64pow10), ("strconv.ErrRange", laid_strconv_ErrRange), ("strconv.ErrSyntax", laid_strconv_ErrSyntax), ("estray/descr.letters", laid_estray_descr_letters)], narrowed := true }
def DescrNumbersUptoSaid : Prop := descrNumbersUptoRow.holds Tryd.pinned (OpenSpec.upto descrNumbersSpec)

/-- 'estraylaw05.DescrTexts', WHERE WHAT IT READS IS OF BULK AT MOST 1048576: true; the input reads as it did. -/
def descrTextsUptoRow : OpenClaim := { program := "ytnjmlecbljeofaadoor", sum := "46d343dc4c24bfdfc07804cfa67148f1844e3a22a733d7b68c66afb47db1c1de", func := "estray/estraylaw05.DescrTexts", spec := "descrTexts", inPlace := ["internal/bytealg.IndexByteString", "internal/bytealg.IndexString"], unfollowed := true, recurses := true, named := ["estray/descr.letters", "internal/strconv.uint64pow10", "math/bits.deBruijn32tab", "math/bits.deBruijn64tab", "internal/bytealg.MaxLen", "strconv.ErrSyntax", "strconv.ErrRange"], apart := false, laid := [("math/bits.deBruijn32tab", laid_math_bits_deBruijn32tab), ("math/bits.deBruijn64tab", laid_math_bits_deBruijn64tab), ("internal/strconv.uint64pow10", laid_internal_strconv_uint64pow10), ("strconv.ErrRange", laid_strconv_ErrRange), ("strconv.ErrSyntax", laid_strconv_ErrSyntax), ("estray/descr.letters", laid_estray_descr_letters)], narrowed := true }
def DescrTextsUptoSaid : Prop := descrTextsUptoRow.holds Tryd.pinned (OpenSpec.upto descrTextsSpec)

/-- 'estraylaw05.DescrOuters', WHERE WHAT IT READS IS OF BULK AT MOST 1048576: true; the input reads as it did. -/
def descrOutersUptoRow : OpenClaim := { program := "ytnjmlecbljeofaadoor", sum := "46d343dc4c24bfdfc07804cfa67148f1844e3a22a733d7b68c66afb47db1c1de", func := "estray/estraylaw05.DescrOuters", spec := "descrOuters", inPlace := ["internal/bytealg.IndexByteString", "internal/bytealg.IndexString"], unfollowed := true, recurses := true, named := ["estray/descr.letters", "internal/strconv.uint64pow10", "math/bits.deBruijn32tab", "math/bits.deBruijn64tab", "internal/bytealg.MaxLen", "strconv.ErrSyntax", "strconv.ErrRange"], apart := false, laid := [("math/bits.deBruijn32tab", laid_math_bits_deBruijn32tab), ("math/bits.deBruijn64tab", laid_math_bits_deBruijn64tab), ("internal/strconv.uint64pow10", laid_internal_strconv_uint64pow10), ("strconv.ErrRange", laid_strconv_ErrRange), ("strconv.ErrSyntax", laid_strconv_ErrSyntax), ("estray/descr.letters", laid_estray_descr_letters)], narrowed := true }
def DescrOutersUptoSaid : Prop := descrOutersUptoRow.holds Tryd.pinned (OpenSpec.upto descrOutersSpec)

/-- 'estraylaw05.DescrOrders', WHERE WHAT IT READS IS OF BULK AT MOST 1048576: true; the input reads as it did. -/
def descrOrdersUptoRow : OpenClaim := { program := "ytnjmlecbljeofaadoor", sum := "46d343dc4c24bfdfc07804cfa67148f1844e3a22a733d7b68c66afb47db1c1de", func := "estray/estraylaw05.DescrOrders", spec := "descrOrders", inPlace := ["internal/bytealg.IndexByteString", "internal/bytealg.IndexString"], unfollowed := true, recurses := true, named := ["estray/descr.letters", "internal/strconv.uint64pow10", "math/bits.deBruijn32tab", "math/bits.deBruijn64tab", "internal/bytealg.MaxLen", "strconv.ErrSyntax", "strconv.ErrRange"], apart := false, laid := [("math/bits.deBruijn32tab", laid_math_bits_deBruijn32tab), ("math/bits.deBruijn64tab", laid_math_bits_deBruijn64tab), ("internal/strconv.uint64pow10", laid_internal_strconv_uint64pow10), ("strconv.ErrRange", laid_strconv_ErrRange), ("strconv.ErrSyntax", laid_strconv_ErrSyntax), ("estray/descr.letters", laid_estray_descr_letters)], narrowed := true }
def DescrOrdersUptoSaid : Prop := descrOrdersUptoRow.holds Tryd.pinned (OpenSpec.upto descrOrdersSpec)

/-- 'estraylaw05.DescrBack', WHERE WHAT IT READS IS OF BULK AT MOST 1048576: true; the input reads as it did. -/
def descrBackUptoRow : OpenClaim := { program := "ytnjmlecbljeofaadoor", sum := "46d343dc4c24bfdfc07804cfa67148f1844e3a22a733d7b68c66afb47db1c1de", func := "estray/estraylaw05.DescrBack", spec := "descrBack", inPlace := ["internal/bytealg.IndexByteString", "internal/bytealg.IndexString"], unfollowed := true, recurses := true, named := ["estray/descr.letters", "internal/strconv.uint64pow10", "math/bits.deBruijn32tab", "math/bits.deBruijn64tab", "internal/bytealg.MaxLen", "strconv.ErrSyntax", "strconv.ErrRange"], apart := false, laid := [("math/bits.deBruijn32tab", laid_math_bits_deBruijn32tab), ("math/bits.deBruijn64tab", laid_math_bits_deBruijn64tab), ("internal/strconv.uint64pow10", laid_internal_strconv_uint64pow10), ("strconv.ErrRange", laid_strconv_ErrRange), ("strconv.ErrSyntax", laid_strconv_ErrSyntax), ("estray/descr.letters", laid_estray_descr_letters)], narrowed := true }
def DescrBackUptoSaid : Prop := descrBackUptoRow.holds Tryd.pinned (OpenSpec.upto descrBackSpec)

/-- 'estraylaw05.DescrNames', WHERE WHAT IT READS IS OF BULK AT MOST 1048576: true; the input reads as it did. -/
def descrNamesUptoRow : OpenClaim := { program := "ytnjmlecbljeofaadoor", sum := "46d343dc4c24bfdfc07804cfa67148f1844e3a22a733d7b68c66afb47db1c1de", func := "estray/estraylaw05.DescrNames", spec := "descrNames", inPlace := ["internal/bytealg.IndexByteString", "internal/bytealg.IndexString"], unfollowed := true, recurses := true, named := ["estray/descr.letters", "internal/strconv.uint64pow10", "math/bits.deBruijn32tab", "math/bits.deBruijn64tab", "internal/bytealg.MaxLen", "strconv.ErrSyntax", "strconv.ErrRange"], apart := false, laid := [("math/bits.deBruijn32tab", laid_math_bits_deBruijn32tab), ("math/bits.deBruijn64tab", laid_math_bits_deBruijn64tab), ("internal/strconv.uint64pow10", laid_internal_strconv_uint64pow10), ("strconv.ErrRange", laid_strconv_ErrRange), ("strconv.ErrSyntax", laid_strconv_ErrSyntax), ("estray/descr.letters", laid_estray_descr_letters)], narrowed := true }
def DescrNamesUptoSaid : Prop := descrNamesUptoRow.holds Tryd.pinned (OpenSpec.upto descrNamesSpec)

/-- 'estraylaw05.DescrSorted', WHERE WHAT IT READS IS OF BULK AT MOST 1048576: true; the input reads as it did. -/
def descrSortedUptoRow : OpenClaim := { program := "ytnjmlecbljeofaadoor", sum := "46d343dc4c24bfdfc07804cfa67148f1844e3a22a733d7b68c66afb47db1c1de", func := "estray/estraylaw05.DescrSorted", spec := "descrSorted", inPlace := ["internal/bytealg.IndexByteString", "internal/bytealg.IndexString"], unfollowed := true, recurses := true, named := ["estray/descr.letters", "internal/strconv.uint64pow10", "math/bits.deBruijn32tab", "math/bits.deBruijn64tab", "internal/bytealg.MaxLen", "strconv.ErrSyntax", "strconv.ErrRange"], apart := false, laid := [("math/bits.deBruijn32tab", laid_math_bits_deBruijn32tab), ("math/bits.deBruijn64tab", laid_math_bits_deBruijn64tab), ("internal/strconv.uint64pow10", laid_internal_strconv_uint64pow10), ("strconv.ErrRange", laid_strconv_ErrRange), ("strconv.ErrSyntax", laid_strconv_ErrSyntax), ("estray/descr.letters", laid_estray_descr_letters)], narrowed := true }
def DescrSortedUptoSaid : Prop := descrSortedUptoRow.holds Tryd.pinned (OpenSpec.upto descrSortedSpec)

/-- 'estraylaw05.DescrReads', WHERE WHAT IT READS IS OF BULK AT MOST 1048576: true; the input reads as it did. -/
def descrReadsUptoRow : OpenClaim := { program := "ytnjmlecbljeofaadoor", sum := "46d343dc4c24bfdfc07804cfa67148f1844e3a22a733d7b68c66afb47db1c1de", func := "estray/estraylaw05.DescrReads", spec := "descrReads", inPlace := ["internal/bytealg.IndexByteString", "internal/bytealg.IndexString"], unfollowed := true, recurses := true, named := ["estray/descr.letters", "internal/strconv.uint64pow10", "math/bits.deBruijn32tab", "math/bits.deBruijn64tab", "internal/bytealg.MaxLen", "strconv.ErrSyntax", "strconv.ErrRange"], apart := false, laid := [("math/bits.deBruijn32tab", laid_math_bits_deBruijn32tab), ("math/bits.deBruijn64tab", laid_math_bits_deBruijn64tab), ("internal/strconv.uint64pow10", laid_internal_strconv_uint64pow10), ("strconv.ErrRange", laid_strconv_ErrRange), ("strconv.ErrSyntax", laid_strconv_ErrSyntax), ("estray/descr.letters", laid_estray_descr_letters)], narrowed := true }
def DescrReadsUptoSaid : Prop := descrReadsUptoRow.holds Tryd.pinned (OpenSpec.upto descrReadsSpec)

/-- 'estraylaw05.DescrCuts', WHERE WHAT IT READS IS OF BULK AT MOST 1048576: true; the input reads as it did. -/
def descrCutsUptoRow : OpenClaim := { program := "ytnjmlecbljeofaadoor", sum := "46d343dc4c24bfdfc07804cfa67148f1844e3a22a733d7b68c66afb47db1c1de", func := "estray/estraylaw05.DescrCuts", spec := "descrCuts", inPlace := ["internal/bytealg.IndexByteString", "internal/bytealg.IndexString"], unfollowed := true, recurses := true, named := ["estray/descr.letters", "internal/strconv.uint64pow10", "math/bits.deBruijn32tab", "math/bits.deBruijn64tab", "internal/bytealg.MaxLen", "strconv.ErrSyntax", "strconv.ErrRange"], apart := false, laid := [("math/bits.deBruijn32tab", laid_math_bits_deBruijn32tab), ("math/bits.deBruijn64tab", laid_math_bits_deBruijn64tab), ("internal/strconv.uint64pow10", laid_internal_strconv_uint64pow10), ("strconv.ErrRange", laid_strconv_ErrRange), ("strconv.ErrSyntax", laid_strconv_ErrSyntax), ("estray/descr.letters", laid_estray_descr_letters)], narrowed := true }
def DescrCutsUptoSaid : Prop := descrCutsUptoRow.holds Tryd.pinned (OpenSpec.upto descrCutsSpec)

/-- 'estraylaw05.DescrWrong', WHERE WHAT IT READS IS OF BULK AT MOST 1048576: true; the input reads as it did. -/
def descrWrongUptoRow : OpenClaim := { program := "ytnjmlecbljeofaadoor", sum := "46d343dc4c24bfdfc07804cfa67148f1844e3a22a733d7b68c66afb47db1c1de", func := "estray/estraylaw05.DescrWrong", spec := "descrWrong", inPlace := ["internal/bytealg.IndexByteString", "internal/bytealg.IndexString"], unfollowed := true, recurses := true, named := ["estray/descr.letters", "internal/strconv.uint64pow10", "math/bits.deBruijn32tab", "math/bits.deBruijn64tab", "internal/bytealg.MaxLen", "strconv.ErrSyntax", "strconv.ErrRange"], apart := false, laid := [("math/bits.deBruijn32tab", laid_math_bits_deBruijn32tab), ("math/bits.deBruijn64tab", laid_math_bits_deBruijn64tab), ("internal/strconv.uint64pow10", laid_internal_strconv_uint64pow10), ("strconv.ErrRange", laid_strconv_ErrRange), ("strconv.ErrSyntax", laid_strconv_ErrSyntax), ("estray/descr.letters", laid_estray_descr_letters)], narrowed := true }
def DescrWrongUptoSaid : Prop := descrWrongUptoRow.holds Tryd.pinned (OpenSpec.upto descrWrongSpec)

end Rows
end Go.Proofs.YtnjmlecbljeofaaDoor
