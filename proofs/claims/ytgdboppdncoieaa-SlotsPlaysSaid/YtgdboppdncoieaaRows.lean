/-
  No cell of these rows narrows 'for every input' (looked for: loops, veiled, ifaces, maps, wideKeys, modest, calm, conditions, laid).
  DERIVED. THE GIVEN ROWS OF THIS SEAT. 8 by the template 'for every input the law returns true; each argument reads behind the call as it read before'; 0 by the template 'total and deterministic' (their statements: YtgdboppdncoieaaTotals.lean).
  GIVEN WITH THE SEED: the statements are not yours to turn. If you find one false, say at which input.
  Laid BY PROGRAM, IN A SANDBOX (cutbox-rows.mjs): the forced cells as the released guide's own fill.sh prints them over the translation 81ea6c33fd01182a… (all of the seat's roots in one cut). By AI agents, Wed Nov 11 2026. No macro, syntax, notation, axiom, sorry.
-/
import Derived.Test.YtgdboppdncoieaaChecked
import GoSem.Claim
import GoSem.ClaimJoined
import GoSem.ClaimMapViews
import Derived.JoinedTies
import Derived.KernelRfl
namespace Go.Proofs.Ytgdboppdncoieaa
/- THE CELL 'sum', in the pinned program and in every row, IS THE sha256 OF THE DUMP (.gsa) THAT YtgdboppdncoieaaProg.lean LOADS. Nothing in Lean hashes anything: it is a label: what it is worth is what the hold of that sum in a sandbox is worth. -/
noncomputable def Try.pinned : Pinned := { name := "ytgdboppdncoieaa", sum := "81ea6c33fd01182a271b01f78dd24ef0f49bbb2e96eb1e8772b89faf7f21bdfe", checked := Try.checked }
namespace Rows
def none {H : Type} : Left H := { results := [], args := [] }

/-- 'estraylaw04.SlotsPlays': WHATEVER THE INPUT: true; the input reads as it did. -/
def slotsPlaysSpec : ChangeSpec := { name := "slotsPlays", fn := fun _ => fun
  | [d1, d2, d3, d4] => { results := [.lit (.bool true)], args := [d1, d2, d3, d4] }
  | _ => none }
def slotsPlaysRow : OpenClaim := { program := "ytgdboppdncoieaa", sum := "81ea6c33fd01182a271b01f78dd24ef0f49bbb2e96eb1e8772b89faf7f21bdfe", func := "estray/estraylaw04.SlotsPlays", spec := "slotsPlays", unfollowed := true, recurses := true, apart := false }
def SlotsPlaysSaid : Prop := slotsPlaysRow.holds Try.pinned (OpenSpec.ofChange slotsPlaysSpec)

/-- ITS FALSE NEIGHBOUR: 'it returns false'. Refute it at one input. -/
def slotsPlaysWrong : ChangeSpec := { name := "slotsPlays", fn := fun _ => fun
  | [d1, d2, d3, d4] => { results := [.lit (.bool false)], args := [d1, d2, d3, d4] }
  | _ => none }
def SlotsPlaysWrongFalsely : Prop := slotsPlaysRow.holds Try.pinned (OpenSpec.ofChange slotsPlaysWrong)

/-- 'estraylaw04.SlotsNil': WHATEVER THE INPUT: true; the input reads as it did. -/
def slotsNilSpec : ChangeSpec := { name := "slotsNil", fn := fun _ => fun
  | [d] => { results := [.lit (.bool true)], args := [d] }
  | _ => none }
def slotsNilRow : OpenClaim := { program := "ytgdboppdncoieaa", sum := "81ea6c33fd01182a271b01f78dd24ef0f49bbb2e96eb1e8772b89faf7f21bdfe", func := "estray/estraylaw04.SlotsNil", spec := "slotsNil", unfollowed := true, recurses := true, apart := false }
def SlotsNilSaid : Prop := slotsNilRow.holds Try.pinned (OpenSpec.ofChange slotsNilSpec)

/-- ITS FALSE NEIGHBOUR: 'it returns false'. Refute it at one input. -/
def slotsNilWrong : ChangeSpec := { name := "slotsNil", fn := fun _ => fun
  | [d] => { results := [.lit (.bool false)], args := [d] }
  | _ => none }
def SlotsNilWrongFalsely : Prop := slotsNilRow.holds Try.pinned (OpenSpec.ofChange slotsNilWrong)

/-- 'estraylaw04.SlotsNever': WHATEVER THE INPUT: true; the input reads as it did. -/
def slotsNeverSpec : ChangeSpec := { name := "slotsNever", fn := fun _ => fun
  | [d1, d2, d3] => { results := [.lit (.bool true)], args := [d1, d2, d3] }
  | _ => none }
def slotsNeverRow : OpenClaim := { program := "ytgdboppdncoieaa", sum := "81ea6c33fd01182a271b01f78dd24ef0f49bbb2e96eb1e8772b89faf7f21bdfe", func := "estray/estraylaw04.SlotsNever", spec := "slotsNever", unfollowed := true, recurses := true, apart := false }
def SlotsNeverSaid : Prop := slotsNeverRow.holds Try.pinned (OpenSpec.ofChange slotsNeverSpec)

/-- ITS FALSE NEIGHBOUR: 'it returns false'. Refute it at one input. -/
def slotsNeverWrong : ChangeSpec := { name := "slotsNever", fn := fun _ => fun
  | [d1, d2, d3] => { results := [.lit (.bool false)], args := [d1, d2, d3] }
  | _ => none }
def SlotsNeverWrongFalsely : Prop := slotsNeverRow.holds Try.pinned (OpenSpec.ofChange slotsNeverWrong)

/-- 'estraylaw04.SlotsCounts': WHATEVER THE INPUT: true; the input reads as it did. -/
def slotsCountsSpec : ChangeSpec := { name := "slotsCounts", fn := fun _ => fun
  | [d1, d2, d3] => { results := [.lit (.bool true)], args := [d1, d2, d3] }
  | _ => none }
def slotsCountsRow : OpenClaim := { program := "ytgdboppdncoieaa", sum := "81ea6c33fd01182a271b01f78dd24ef0f49bbb2e96eb1e8772b89faf7f21bdfe", func := "estray/estraylaw04.SlotsCounts", spec := "slotsCounts", unfollowed := true, recurses := true, apart := false }
def SlotsCountsSaid : Prop := slotsCountsRow.holds Try.pinned (OpenSpec.ofChange slotsCountsSpec)

/-- ITS FALSE NEIGHBOUR: 'it returns false'. Refute it at one input. -/
def slotsCountsWrong : ChangeSpec := { name := "slotsCounts", fn := fun _ => fun
  | [d1, d2, d3] => { results := [.lit (.bool false)], args := [d1, d2, d3] }
  | _ => none }
def SlotsCountsWrongFalsely : Prop := slotsCountsRow.holds Try.pinned (OpenSpec.ofChange slotsCountsWrong)

/-- 'estraylaw04.SlotsLowest': WHATEVER THE INPUT: true; the input reads as it did. -/
def slotsLowestSpec : ChangeSpec := { name := "slotsLowest", fn := fun _ => fun
  | [d1, d2, d3] => { results := [.lit (.bool true)], args := [d1, d2, d3] }
  | _ => none }
def slotsLowestRow : OpenClaim := { program := "ytgdboppdncoieaa", sum := "81ea6c33fd01182a271b01f78dd24ef0f49bbb2e96eb1e8772b89faf7f21bdfe", func := "estray/estraylaw04.SlotsLowest", spec := "slotsLowest", unfollowed := true, recurses := true, apart := false }
def SlotsLowestSaid : Prop := slotsLowestRow.holds Try.pinned (OpenSpec.ofChange slotsLowestSpec)

/-- ITS FALSE NEIGHBOUR: 'it returns false'. Refute it at one input. -/
def slotsLowestWrong : ChangeSpec := { name := "slotsLowest", fn := fun _ => fun
  | [d1, d2, d3] => { results := [.lit (.bool false)], args := [d1, d2, d3] }
  | _ => none }
def SlotsLowestWrongFalsely : Prop := slotsLowestRow.holds Try.pinned (OpenSpec.ofChange slotsLowestWrong)

/-- 'estraylaw04.SlotsStale': WHATEVER THE INPUT: true; the input reads as it did. -/
def slotsStaleSpec : ChangeSpec := { name := "slotsStale", fn := fun _ => fun
  | [d1, d2, d3, d4] => { results := [.lit (.bool true)], args := [d1, d2, d3, d4] }
  | _ => none }
def slotsStaleRow : OpenClaim := { program := "ytgdboppdncoieaa", sum := "81ea6c33fd01182a271b01f78dd24ef0f49bbb2e96eb1e8772b89faf7f21bdfe", func := "estray/estraylaw04.SlotsStale", spec := "slotsStale", unfollowed := true, recurses := true, apart := false }
def SlotsStaleSaid : Prop := slotsStaleRow.holds Try.pinned (OpenSpec.ofChange slotsStaleSpec)

/-- ITS FALSE NEIGHBOUR: 'it returns false'. Refute it at one input. -/
def slotsStaleWrong : ChangeSpec := { name := "slotsStale", fn := fun _ => fun
  | [d1, d2, d3, d4] => { results := [.lit (.bool false)], args := [d1, d2, d3, d4] }
  | _ => none }
def SlotsStaleWrongFalsely : Prop := slotsStaleRow.holds Try.pinned (OpenSpec.ofChange slotsStaleWrong)

/-- 'estraylaw04.SlotsCopies': WHATEVER THE INPUT: true; the input reads as it did. -/
def slotsCopiesSpec : ChangeSpec := { name := "slotsCopies", fn := fun _ => fun
  | [d1, d2, d3, d4] => { results := [.lit (.bool true)], args := [d1, d2, d3, d4] }
  | _ => none }
def slotsCopiesRow : OpenClaim := { program := "ytgdboppdncoieaa", sum := "81ea6c33fd01182a271b01f78dd24ef0f49bbb2e96eb1e8772b89faf7f21bdfe", func := "estray/estraylaw04.SlotsCopies", spec := "slotsCopies", unfollowed := true, recurses := true, apart := false }
def SlotsCopiesSaid : Prop := slotsCopiesRow.holds Try.pinned (OpenSpec.ofChange slotsCopiesSpec)

/-- ITS FALSE NEIGHBOUR: 'it returns false'. Refute it at one input. -/
def slotsCopiesWrong : ChangeSpec := { name := "slotsCopies", fn := fun _ => fun
  | [d1, d2, d3, d4] => { results := [.lit (.bool false)], args := [d1, d2, d3, d4] }
  | _ => none }
def SlotsCopiesWrongFalsely : Prop := slotsCopiesRow.holds Try.pinned (OpenSpec.ofChange slotsCopiesWrong)

/-- 'estraylaw04.SlotsKnown': WHATEVER THE INPUT: true; the input reads as it did. -/
def slotsKnownSpec : ChangeSpec := { name := "slotsKnown", fn := fun _ => fun
  | [] => { results := [.lit (.bool true)], args := [] }
  | _ => none }
def slotsKnownRow : OpenClaim := { program := "ytgdboppdncoieaa", sum := "81ea6c33fd01182a271b01f78dd24ef0f49bbb2e96eb1e8772b89faf7f21bdfe", func := "estray/estraylaw04.SlotsKnown", spec := "slotsKnown", unfollowed := true, recurses := true, apart := false }
def SlotsKnownSaid : Prop := slotsKnownRow.holds Try.pinned (OpenSpec.ofChange slotsKnownSpec)

/-- ITS FALSE NEIGHBOUR: 'it returns false'. Refute it at one input. -/
def slotsKnownWrong : ChangeSpec := { name := "slotsKnown", fn := fun _ => fun
  | [] => { results := [.lit (.bool false)], args := [] }
  | _ => none }
def SlotsKnownWrongFalsely : Prop := slotsKnownRow.holds Try.pinned (OpenSpec.ofChange slotsKnownWrong)

/- THE SECOND FORM. 'bulk': how many values and letters a reading holds, each counted each time it is reached (what is shared counts as often as it is met; a slice's spare places count too). A statement '..UptoSaid' is the law's where the arguments, and the package variables that the reading takes, are together of bulk at most 1048576: NARROWER than '..Said'. Prove '..Said' where nothing that the law and all that it calls make is longer than what came in: it says more and counts as full. Else prove '..UptoSaid'. A law counts once. -/
mutual
def uptoBulk {H : Type} : DataW H → Nat
  | .lit (.string bytes) => bytes.length + 1
  | .lit _ => 1
  | .nil => 1
  | .ptr d => uptoBulk d + 1
  | .slice elems spare => uptoBulkAll elems + uptoBulkAll spare + 1
  | .agg parts => uptoBulkAll parts + 1
  | .iface _ d => uptoBulk d + 1
  | .map entries => uptoBulkEntries entries + 1
  | .held _ => 1
def uptoBulkAll {H : Type} : List (DataW H) → Nat
  | [] => 0
  | d :: r => uptoBulk d + uptoBulkAll r
def uptoBulkEntries {H : Type} : List (Lit × DataW H) → Nat
  | [] => 0
  | x :: r => uptoBulkEntry x + uptoBulkEntries r
def uptoBulkEntry {H : Type} : Lit × DataW H → Nat
  | (.string bytes, d) => bytes.length + uptoBulk d + 1
  | (_, d) => uptoBulk d + 1
 end
def uptoSmall : (H : Type) → List (DataW H) → Bool := fun _ ds => decide (uptoBulkAll ds ≤ 1048576)
def OpenSpec.upto (s : _root_.Go.ChangeSpec) : _root_.Go.OpenSpec := { _root_.Go.OpenSpec.ofChange s with cond := some uptoSmall }

/-- 'estraylaw04.SlotsPlays', WHERE WHAT IT READS IS OF BULK AT MOST 1048576: true; the input reads as it did. -/
def slotsPlaysUptoRow : OpenClaim := { program := "ytgdboppdncoieaa", sum := "81ea6c33fd01182a271b01f78dd24ef0f49bbb2e96eb1e8772b89faf7f21bdfe", func := "estray/estraylaw04.SlotsPlays", spec := "slotsPlays", unfollowed := true, recurses := true, apart := false, narrowed := true }
def SlotsPlaysUptoSaid : Prop := slotsPlaysUptoRow.holds Try.pinned (OpenSpec.upto slotsPlaysSpec)

/-- 'estraylaw04.SlotsNil', WHERE WHAT IT READS IS OF BULK AT MOST 1048576: true; the input reads as it did. -/
def slotsNilUptoRow : OpenClaim := { program := "ytgdboppdncoieaa", sum := "81ea6c33fd01182a271b01f78dd24ef0f49bbb2e96eb1e8772b89faf7f21bdfe", func := "estray/estraylaw04.SlotsNil", spec := "slotsNil", unfollowed := true, recurses := true, apart := false, narrowed := true }
def SlotsNilUptoSaid : Prop := slotsNilUptoRow.holds Try.pinned (OpenSpec.upto slotsNilSpec)

/-- 'estraylaw04.SlotsNever', WHERE WHAT IT READS IS OF BULK AT MOST 1048576: true; the input reads as it did. -/
def slotsNeverUptoRow : OpenClaim := { program := "ytgdboppdncoieaa", sum := "81ea6c33fd01182a271b01f78dd24ef0f49bbb2e96eb1e8772b89faf7f21bdfe", func := "estray/estraylaw04.SlotsNever", spec := "slotsNever", unfollowed := true, recurses := true, apart := false, narrowed := true }
def SlotsNeverUptoSaid : Prop := slotsNeverUptoRow.holds Try.pinned (OpenSpec.upto slotsNeverSpec)

/-- 'estraylaw04.SlotsCounts', WHERE WHAT IT READS IS OF BULK AT MOST 1048576: true; the input reads as it did. -/
def slotsCountsUptoRow : OpenClaim := { program := "ytgdboppdncoieaa", sum := "81ea6c33fd01182a271b01f78dd24ef0f49bbb2e96eb1e8772b89faf7f21bdfe", func := "estray/estraylaw04.SlotsCounts", spec := "slotsCounts", unfollowed := true, recurses := true, apart := false, narrowed := true }
def SlotsCountsUptoSaid : Prop := slotsCountsUptoRow.holds Try.pinned (OpenSpec.upto slotsCountsSpec)

/-- 'estraylaw04.SlotsLowest', WHERE WHAT IT READS IS OF BULK AT MOST 1048576: true; the input reads as it did. -/
def slotsLowestUptoRow : OpenClaim := { program := "ytgdboppdncoieaa", sum := "81ea6c33fd01182a271b01f78dd24ef0f49bbb2e96eb1e8772b89faf7f21bdfe", func := "estray/estraylaw04.SlotsLowest", spec := "slotsLowest", unfollowed := true, recurses := true, apart := false, narrowed := true }
def SlotsLowestUptoSaid : Prop := slotsLowestUptoRow.holds Try.pinned (OpenSpec.upto slotsLowestSpec)

/-- 'estraylaw04.SlotsStale', WHERE WHAT IT READS IS OF BULK AT MOST 1048576: true; the input reads as it did. -/
def slotsStaleUptoRow : OpenClaim := { program := "ytgdboppdncoieaa", sum := "81ea6c33fd01182a271b01f78dd24ef0f49bbb2e96eb1e8772b89faf7f21bdfe", func := "estray/estraylaw04.SlotsStale", spec := "slotsStale", unfollowed := true, recurses := true, apart := false, narrowed := true }
def SlotsStaleUptoSaid : Prop := slotsStaleUptoRow.holds Try.pinned (OpenSpec.upto slotsStaleSpec)

/-- 'estraylaw04.SlotsCopies', WHERE WHAT IT READS IS OF BULK AT MOST 1048576: true; the input reads as it did. -/
def slotsCopiesUptoRow : OpenClaim := { program := "ytgdboppdncoieaa", sum := "81ea6c33fd01182a271b01f78dd24ef0f49bbb2e96eb1e8772b89faf7f21bdfe", func := "estray/estraylaw04.SlotsCopies", spec := "slotsCopies", unfollowed := true, recurses := true, apart := false, narrowed := true }
def SlotsCopiesUptoSaid : Prop := slotsCopiesUptoRow.holds Try.pinned (OpenSpec.upto slotsCopiesSpec)

/-- 'estraylaw04.SlotsKnown', WHERE WHAT IT READS IS OF BULK AT MOST 1048576: true; the input reads as it did. -/
def slotsKnownUptoRow : OpenClaim := { program := "ytgdboppdncoieaa", sum := "81ea6c33fd01182a271b01f78dd24ef0f49bbb2e96eb1e8772b89faf7f21bdfe", func := "estray/estraylaw04.SlotsKnown", spec := "slotsKnown", unfollowed := true, recurses := true, apart := false, narrowed := true }
def SlotsKnownUptoSaid : Prop := slotsKnownUptoRow.holds Try.pinned (OpenSpec.upto slotsKnownSpec)

end Rows
end Go.Proofs.Ytgdboppdncoieaa
