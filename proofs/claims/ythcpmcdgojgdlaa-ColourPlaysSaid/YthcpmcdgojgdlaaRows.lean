/-
  No cell of these rows narrows 'for every input' (looked for: loops, veiled, ifaces, maps, wideKeys, modest, calm, conditions, laid).
  DERIVED. THE GIVEN ROWS OF THIS SEAT. 6 by the template 'for every input the law returns true; each argument reads behind the call as it read before'; 0 by the template 'total and deterministic' (their statements: YthcpmcdgojgdlaaTotals.lean).
  GIVEN WITH THE SEED: the statements are not yours to turn. If you find one false, say at which input.
  Laid BY PROGRAM, IN A SANDBOX (cutbox-rows.mjs): the forced cells as the released guide's own fill.sh prints them over the translation 35a95f4411038b44… (all of the seat's roots in one cut). By AI agents, Wed Nov 11 2026. No macro, syntax, notation, axiom, sorry.
-/
import Derived.Test.YthcpmcdgojgdlaaChecked
import GoSem.Claim
import GoSem.ClaimJoined
import GoSem.ClaimMapViews
import Derived.JoinedTies
import Derived.KernelRfl
namespace Go.Proofs.Ythcpmcdgojgdlaa
/- THE CELL 'sum', in the pinned program and in every row, IS THE sha256 OF THE DUMP (.gsa) THAT YthcpmcdgojgdlaaProg.lean LOADS. Nothing in Lean hashes anything: it is a label: what it is worth is what the hold of that sum in a sandbox is worth. -/
noncomputable def Try.pinned : Pinned := { name := "ythcpmcdgojgdlaa", sum := "35a95f4411038b445299a5d03e3cc6c8d7d44764b11ab973c6d84afe8deb2dd9", checked := Try.checked }
namespace Rows
def none {H : Type} : Left H := { results := [], args := [] }

/-- 'estraylaw15.ColourPlays': WHATEVER THE INPUT: true; the input reads as it did. -/
def colourPlaysSpec : ChangeSpec := { name := "colourPlays", fn := fun _ => fun
  | [d1, d2] => { results := [.lit (.bool true)], args := [d1, d2] }
  | _ => none }
def colourPlaysRow : OpenClaim := { program := "ythcpmcdgojgdlaa", sum := "35a95f4411038b445299a5d03e3cc6c8d7d44764b11ab973c6d84afe8deb2dd9", func := "estray/estraylaw15.ColourPlays", spec := "colourPlays", unfollowed := true, recurses := true, apart := false }
def ColourPlaysSaid : Prop := colourPlaysRow.holds Try.pinned (OpenSpec.ofChange colourPlaysSpec)

/-- ITS FALSE NEIGHBOUR: 'it returns false'. Refute it at one input. -/
def colourPlaysWrong : ChangeSpec := { name := "colourPlays", fn := fun _ => fun
  | [d1, d2] => { results := [.lit (.bool false)], args := [d1, d2] }
  | _ => none }
def ColourPlaysWrongFalsely : Prop := colourPlaysRow.holds Try.pinned (OpenSpec.ofChange colourPlaysWrong)

/-- 'estraylaw15.ColourNil': WHATEVER THE INPUT: true; the input reads as it did. -/
def colourNilSpec : ChangeSpec := { name := "colourNil", fn := fun _ => fun
  | [d] => { results := [.lit (.bool true)], args := [d] }
  | _ => none }
def colourNilRow : OpenClaim := { program := "ythcpmcdgojgdlaa", sum := "35a95f4411038b445299a5d03e3cc6c8d7d44764b11ab973c6d84afe8deb2dd9", func := "estray/estraylaw15.ColourNil", spec := "colourNil", unfollowed := true, recurses := true, apart := false }
def ColourNilSaid : Prop := colourNilRow.holds Try.pinned (OpenSpec.ofChange colourNilSpec)

/-- ITS FALSE NEIGHBOUR: 'it returns false'. Refute it at one input. -/
def colourNilWrong : ChangeSpec := { name := "colourNil", fn := fun _ => fun
  | [d] => { results := [.lit (.bool false)], args := [d] }
  | _ => none }
def ColourNilWrongFalsely : Prop := colourNilRow.holds Try.pinned (OpenSpec.ofChange colourNilWrong)

/-- 'estraylaw15.ColourWay': WHATEVER THE INPUT: true; the input reads as it did. -/
def colourWaySpec : ChangeSpec := { name := "colourWay", fn := fun _ => fun
  | [d1, d2] => { results := [.lit (.bool true)], args := [d1, d2] }
  | _ => none }
def colourWayRow : OpenClaim := { program := "ythcpmcdgojgdlaa", sum := "35a95f4411038b445299a5d03e3cc6c8d7d44764b11ab973c6d84afe8deb2dd9", func := "estray/estraylaw15.ColourWay", spec := "colourWay", unfollowed := true, recurses := true, apart := false }
def ColourWaySaid : Prop := colourWayRow.holds Try.pinned (OpenSpec.ofChange colourWaySpec)

/-- ITS FALSE NEIGHBOUR: 'it returns false'. Refute it at one input. -/
def colourWayWrong : ChangeSpec := { name := "colourWay", fn := fun _ => fun
  | [d1, d2] => { results := [.lit (.bool false)], args := [d1, d2] }
  | _ => none }
def ColourWayWrongFalsely : Prop := colourWayRow.holds Try.pinned (OpenSpec.ofChange colourWayWrong)

/-- 'estraylaw15.ColourCounts': WHATEVER THE INPUT: true; the input reads as it did. -/
def colourCountsSpec : ChangeSpec := { name := "colourCounts", fn := fun _ => fun
  | [d1, d2, d3] => { results := [.lit (.bool true)], args := [d1, d2, d3] }
  | _ => none }
def colourCountsRow : OpenClaim := { program := "ythcpmcdgojgdlaa", sum := "35a95f4411038b445299a5d03e3cc6c8d7d44764b11ab973c6d84afe8deb2dd9", func := "estray/estraylaw15.ColourCounts", spec := "colourCounts", unfollowed := true, recurses := true, apart := false }
def ColourCountsSaid : Prop := colourCountsRow.holds Try.pinned (OpenSpec.ofChange colourCountsSpec)

/-- ITS FALSE NEIGHBOUR: 'it returns false'. Refute it at one input. -/
def colourCountsWrong : ChangeSpec := { name := "colourCounts", fn := fun _ => fun
  | [d1, d2, d3] => { results := [.lit (.bool false)], args := [d1, d2, d3] }
  | _ => none }
def ColourCountsWrongFalsely : Prop := colourCountsRow.holds Try.pinned (OpenSpec.ofChange colourCountsWrong)

/-- 'estraylaw15.ColourApart': WHATEVER THE INPUT: true; the input reads as it did. -/
def colourApartSpec : ChangeSpec := { name := "colourApart", fn := fun _ => fun
  | [d1, d2, d3, d4] => { results := [.lit (.bool true)], args := [d1, d2, d3, d4] }
  | _ => none }
def colourApartRow : OpenClaim := { program := "ythcpmcdgojgdlaa", sum := "35a95f4411038b445299a5d03e3cc6c8d7d44764b11ab973c6d84afe8deb2dd9", func := "estray/estraylaw15.ColourApart", spec := "colourApart", unfollowed := true, recurses := true, apart := false }
def ColourApartSaid : Prop := colourApartRow.holds Try.pinned (OpenSpec.ofChange colourApartSpec)

/-- ITS FALSE NEIGHBOUR: 'it returns false'. Refute it at one input. -/
def colourApartWrong : ChangeSpec := { name := "colourApart", fn := fun _ => fun
  | [d1, d2, d3, d4] => { results := [.lit (.bool false)], args := [d1, d2, d3, d4] }
  | _ => none }
def ColourApartWrongFalsely : Prop := colourApartRow.holds Try.pinned (OpenSpec.ofChange colourApartWrong)

/-- 'estraylaw15.ColourStays': WHATEVER THE INPUT: true; the input reads as it did. -/
def colourStaysSpec : ChangeSpec := { name := "colourStays", fn := fun _ => fun
  | [d1, d2, d3] => { results := [.lit (.bool true)], args := [d1, d2, d3] }
  | _ => none }
def colourStaysRow : OpenClaim := { program := "ythcpmcdgojgdlaa", sum := "35a95f4411038b445299a5d03e3cc6c8d7d44764b11ab973c6d84afe8deb2dd9", func := "estray/estraylaw15.ColourStays", spec := "colourStays", unfollowed := true, recurses := true, apart := false }
def ColourStaysSaid : Prop := colourStaysRow.holds Try.pinned (OpenSpec.ofChange colourStaysSpec)

/-- ITS FALSE NEIGHBOUR: 'it returns false'. Refute it at one input. -/
def colourStaysWrong : ChangeSpec := { name := "colourStays", fn := fun _ => fun
  | [d1, d2, d3] => { results := [.lit (.bool false)], args := [d1, d2, d3] }
  | _ => none }
def ColourStaysWrongFalsely : Prop := colourStaysRow.holds Try.pinned (OpenSpec.ofChange colourStaysWrong)

/- THE SECOND FORM. 'bulk': how many values and letters a reading holds, each counted each time it is reached (what is shared counts as often as it is met; a slice's spare places count too). A statement '..UptoSaid' is the law's where the arguments, and the package variables that the reading takes, are together of bulk at most 1048576: NARROWER than '..Said'. Prove '..Said' where nothing that the law and all that it calls make is longer than what came in: it says more and counts as full. Else prove '..UptoSaid'. A law counts once. -/
mutual
def uptoBulk {H : Type} : DataW H → Nat
  | .lit (.string bytes) => bytes.length + 1
  | .lit _ => 1
  | .nil => 1
  | .ptr d => uptoBulk d + 1
  | .slice elems spare => uptoBulkAll elems + uptoBulkAll spare + 1
  | .agg parts => uptoBulkAll parts + 1
  | .iface _ d => uptoBulk d + 1
  | .map entries => uptoBulkEntries entries + 1
  | .held _ => 1
def uptoBulkAll {H : Type} : List (DataW H) → Nat
  | [] => 0
  | d :: r => uptoBulk d + uptoBulkAll r
def uptoBulkEntries {H : Type} : List (Lit × DataW H) → Nat
  | [] => 0
  | x :: r => uptoBulkEntry x + uptoBulkEntries r
def uptoBulkEntry {H : Type} : Lit × DataW H → Nat
  | (.string bytes, d) => bytes.length + uptoBulk d + 1
  | (_, d) => uptoBulk d + 1
 end
def uptoSmall : (H : Type) → List (DataW H) → Bool := fun _ ds => decide (uptoBulkAll ds ≤ 1048576)
def OpenSpec.upto (s : _root_.Go.ChangeSpec) : _root_.Go.OpenSpec := { _root_.Go.OpenSpec.ofChange s with cond := some uptoSmall }

/-- 'estraylaw15.ColourPlays', WHERE WHAT IT READS IS OF BULK AT MOST 1048576: true; the input reads as it did. -/
def colourPlaysUptoRow : OpenClaim := { program := "ythcpmcdgojgdlaa", sum := "35a95f4411038b445299a5d03e3cc6c8d7d44764b11ab973c6d84afe8deb2dd9", func := "estray/estraylaw15.ColourPlays", spec := "colourPlays", unfollowed := true, recurses := true, apart := false, narrowed := true }
def ColourPlaysUptoSaid : Prop := colourPlaysUptoRow.holds Try.pinned (OpenSpec.upto colourPlaysSpec)

/-- 'estraylaw15.ColourNil', WHERE WHAT IT READS IS OF BULK AT MOST 1048576: true; the input reads as it did. -/
def colourNilUptoRow : OpenClaim := { program := "ythcpmcdgojgdlaa", sum := "35a95f4411038b445299a5d03e3cc6c8d7d44764b11ab973c6d84afe8deb2dd9", func := "estray/estraylaw15.ColourNil", spec := "colourNil", unfollowed := true, recurses := true, apart := false, narrowed := true }
def ColourNilUptoSaid : Prop := colourNilUptoRow.holds Try.pinned (OpenSpec.upto colourNilSpec)

/-- 'estraylaw15.ColourWay', WHERE WHAT IT READS IS OF BULK AT MOST 1048576: true; the input reads as it did. -/
def colourWayUptoRow : OpenClaim := { program := "ythcpmcdgojgdlaa", sum := "35a95f4411038b445299a5d03e3cc6c8d7d44764b11ab973c6d84afe8deb2dd9", func := "estray/estraylaw15.ColourWay", spec := "colourWay", unfollowed := true, recurses := true, apart := false, narrowed := true }
def ColourWayUptoSaid : Prop := colourWayUptoRow.holds Try.pinned (OpenSpec.upto colourWaySpec)

/-- 'estraylaw15.ColourCounts', WHERE WHAT IT READS IS OF BULK AT MOST 1048576: true; the input reads as it did. -/
def colourCountsUptoRow : OpenClaim := { program := "ythcpmcdgojgdlaa", sum := "35a95f4411038b445299a5d03e3cc6c8d7d44764b11ab973c6d84afe8deb2dd9", func := "estray/estraylaw15.ColourCounts", spec := "colourCounts", unfollowed := true, recurses := true, apart := false, narrowed := true }
def ColourCountsUptoSaid : Prop := colourCountsUptoRow.holds Try.pinned (OpenSpec.upto colourCountsSpec)

/-- 'estraylaw15.ColourApart', WHERE WHAT IT READS IS OF BULK AT MOST 1048576: true; the input reads as it did. -/
def colourApartUptoRow : OpenClaim := { program := "ythcpmcdgojgdlaa", sum := "35a95f4411038b445299a5d03e3cc6c8d7d44764b11ab973c6d84afe8deb2dd9", func := "estray/estraylaw15.ColourApart", spec := "colourApart", unfollowed := true, recurses := true, apart := false, narrowed := true }
def ColourApartUptoSaid : Prop := colourApartUptoRow.holds Try.pinned (OpenSpec.upto colourApartSpec)

/-- 'estraylaw15.ColourStays', WHERE WHAT IT READS IS OF BULK AT MOST 1048576: true; the input reads as it did. -/
def colourStaysUptoRow : OpenClaim := { program := "ythcpmcdgojgdlaa", sum := "35a95f4411038b445299a5d03e3cc6c8d7d44764b11ab973c6d84afe8deb2dd9", func := "estray/estraylaw15.ColourStays", spec := "colourStays", unfollowed := true, recurses := true, apart := false, narrowed := true }
def ColourStaysUptoSaid : Prop := colourStaysUptoRow.holds Try.pinned (OpenSpec.upto colourStaysSpec)

end Rows
end Go.Proofs.Ythcpmcdgojgdlaa
