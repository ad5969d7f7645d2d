/-
  No cell of these rows narrows 'for every input' (looked for: loops, veiled, ifaces, maps, wideKeys, modest, calm, conditions, laid).
  DERIVED. THE GIVEN ROWS OF THIS SEAT. 7 by the template 'for every input the law returns true; each argument reads behind the call as it read before'; 0 by the template 'total and deterministic' (their statements: YthahmcipkchdjaaTotals.lean).
  GIVEN WITH THE SEED: the statements are not yours to turn. If you find one false, say at which input.
  Laid BY PROGRAM, IN A SANDBOX (cutbox-rows.mjs): the forced cells as the released guide's own fill.sh prints them over the translation 1d879ceef9e526d1… (all of the seat's roots in one cut). By AI agents, Wed Nov 11 2026. No macro, syntax, notation, axiom, sorry.
-/
import Derived.Test.YthahmcipkchdjaaChecked
import GoSem.Claim
import GoSem.ClaimJoined
import GoSem.ClaimMapViews
import Derived.JoinedTies
import Derived.KernelRfl
namespace Go.Proofs.Ythahmcipkchdjaa
/- THE CELL 'sum', in the pinned program and in every row, IS THE sha256 OF THE DUMP (.gsa) THAT YthahmcipkchdjaaProg.lean LOADS. Nothing in Lean hashes anything: it is a label: what it is worth is what the hold of that sum in a sandbox is worth. -/
noncomputable def Try.pinned : Pinned := { name := "ythahmcipkchdjaa", sum := "1d879ceef9e526d194d1d2725d23f54b5d7ad8389520568198998abab82caada", checked := Try.checked }
namespace Rows
def none {H : Type} : Left H := { results := [], args := [] }

/-- 'estraylaw09.FdsPlays': WHATEVER THE INPUT: true; the input reads as it did. -/
def fdsPlaysSpec : ChangeSpec := { name := "fdsPlays", fn := fun _ => fun
  | [d1, d2, d3, d4] => { results := [.lit (.bool true)], args := [d1, d2, d3, d4] }
  | _ => none }
def fdsPlaysRow : OpenClaim := { program := "ythahmcipkchdjaa", sum := "1d879ceef9e526d194d1d2725d23f54b5d7ad8389520568198998abab82caada", func := "estray/estraylaw09.FdsPlays", spec := "fdsPlays", inPlace := ["maps.clone"], unfollowed := true, recurses := true, plainKeys := false, apart := false }
def FdsPlaysSaid : Prop := fdsPlaysRow.holds Try.pinned (OpenSpec.ofChange fdsPlaysSpec)

/-- ITS FALSE NEIGHBOUR: 'it returns false'. Refute it at one input. -/
def fdsPlaysWrong : ChangeSpec := { name := "fdsPlays", fn := fun _ => fun
  | [d1, d2, d3, d4] => { results := [.lit (.bool false)], args := [d1, d2, d3, d4] }
  | _ => none }
def FdsPlaysWrongFalsely : Prop := fdsPlaysRow.holds Try.pinned (OpenSpec.ofChange fdsPlaysWrong)

/-- 'estraylaw09.FdsLowest': WHATEVER THE INPUT: true; the input reads as it did. -/
def fdsLowestSpec : ChangeSpec := { name := "fdsLowest", fn := fun _ => fun
  | [d1, d2, d3] => { results := [.lit (.bool true)], args := [d1, d2, d3] }
  | _ => none }
def fdsLowestRow : OpenClaim := { program := "ythahmcipkchdjaa", sum := "1d879ceef9e526d194d1d2725d23f54b5d7ad8389520568198998abab82caada", func := "estray/estraylaw09.FdsLowest", spec := "fdsLowest", unfollowed := true, recurses := true, plainKeys := false, apart := false }
def FdsLowestSaid : Prop := fdsLowestRow.holds Try.pinned (OpenSpec.ofChange fdsLowestSpec)

/-- ITS FALSE NEIGHBOUR: 'it returns false'. Refute it at one input. -/
def fdsLowestWrong : ChangeSpec := { name := "fdsLowest", fn := fun _ => fun
  | [d1, d2, d3] => { results := [.lit (.bool false)], args := [d1, d2, d3] }
  | _ => none }
def FdsLowestWrongFalsely : Prop := fdsLowestRow.holds Try.pinned (OpenSpec.ofChange fdsLowestWrong)

/-- 'estraylaw09.FdsStale': WHATEVER THE INPUT: true; the input reads as it did. -/
def fdsStaleSpec : ChangeSpec := { name := "fdsStale", fn := fun _ => fun
  | [d1, d2, d3, d4] => { results := [.lit (.bool true)], args := [d1, d2, d3, d4] }
  | _ => none }
def fdsStaleRow : OpenClaim := { program := "ythahmcipkchdjaa", sum := "1d879ceef9e526d194d1d2725d23f54b5d7ad8389520568198998abab82caada", func := "estray/estraylaw09.FdsStale", spec := "fdsStale", unfollowed := true, recurses := true, plainKeys := false, apart := false }
def FdsStaleSaid : Prop := fdsStaleRow.holds Try.pinned (OpenSpec.ofChange fdsStaleSpec)

/-- ITS FALSE NEIGHBOUR: 'it returns false'. Refute it at one input. -/
def fdsStaleWrong : ChangeSpec := { name := "fdsStale", fn := fun _ => fun
  | [d1, d2, d3, d4] => { results := [.lit (.bool false)], args := [d1, d2, d3, d4] }
  | _ => none }
def FdsStaleWrongFalsely : Prop := fdsStaleRow.holds Try.pinned (OpenSpec.ofChange fdsStaleWrong)

/-- 'estraylaw09.FdsRetires': WHATEVER THE INPUT: true; the input reads as it did. -/
def fdsRetiresSpec : ChangeSpec := { name := "fdsRetires", fn := fun _ => fun
  | [d1, d2] => { results := [.lit (.bool true)], args := [d1, d2] }
  | _ => none }
def fdsRetiresRow : OpenClaim := { program := "ythahmcipkchdjaa", sum := "1d879ceef9e526d194d1d2725d23f54b5d7ad8389520568198998abab82caada", func := "estray/estraylaw09.FdsRetires", spec := "fdsRetires", unfollowed := true, recurses := true, plainKeys := false, apart := false }
def FdsRetiresSaid : Prop := fdsRetiresRow.holds Try.pinned (OpenSpec.ofChange fdsRetiresSpec)

/-- ITS FALSE NEIGHBOUR: 'it returns false'. Refute it at one input. -/
def fdsRetiresWrong : ChangeSpec := { name := "fdsRetires", fn := fun _ => fun
  | [d1, d2] => { results := [.lit (.bool false)], args := [d1, d2] }
  | _ => none }
def FdsRetiresWrongFalsely : Prop := fdsRetiresRow.holds Try.pinned (OpenSpec.ofChange fdsRetiresWrong)

/-- 'estraylaw09.FdsApart': WHATEVER THE INPUT: true; the input reads as it did. -/
def fdsApartSpec : ChangeSpec := { name := "fdsApart", fn := fun _ => fun
  | [d1, d2, d3, d4] => { results := [.lit (.bool true)], args := [d1, d2, d3, d4] }
  | _ => none }
def fdsApartRow : OpenClaim := { program := "ythahmcipkchdjaa", sum := "1d879ceef9e526d194d1d2725d23f54b5d7ad8389520568198998abab82caada", func := "estray/estraylaw09.FdsApart", spec := "fdsApart", inPlace := ["maps.clone"], unfollowed := true, recurses := true, plainKeys := false, apart := false }
def FdsApartSaid : Prop := fdsApartRow.holds Try.pinned (OpenSpec.ofChange fdsApartSpec)

/-- ITS FALSE NEIGHBOUR: 'it returns false'. Refute it at one input. -/
def fdsApartWrong : ChangeSpec := { name := "fdsApart", fn := fun _ => fun
  | [d1, d2, d3, d4] => { results := [.lit (.bool false)], args := [d1, d2, d3, d4] }
  | _ => none }
def FdsApartWrongFalsely : Prop := fdsApartRow.holds Try.pinned (OpenSpec.ofChange fdsApartWrong)

/-- 'estraylaw09.FdsRefuses': WHATEVER THE INPUT: true; the input reads as it did. -/
def fdsRefusesSpec : ChangeSpec := { name := "fdsRefuses", fn := fun _ => fun
  | [d1, d2, d3] => { results := [.lit (.bool true)], args := [d1, d2, d3] }
  | _ => none }
def fdsRefusesRow : OpenClaim := { program := "ythahmcipkchdjaa", sum := "1d879ceef9e526d194d1d2725d23f54b5d7ad8389520568198998abab82caada", func := "estray/estraylaw09.FdsRefuses", spec := "fdsRefuses", unfollowed := true, recurses := true, plainKeys := false, apart := false }
def FdsRefusesSaid : Prop := fdsRefusesRow.holds Try.pinned (OpenSpec.ofChange fdsRefusesSpec)

/-- ITS FALSE NEIGHBOUR: 'it returns false'. Refute it at one input. -/
def fdsRefusesWrong : ChangeSpec := { name := "fdsRefuses", fn := fun _ => fun
  | [d1, d2, d3] => { results := [.lit (.bool false)], args := [d1, d2, d3] }
  | _ => none }
def FdsRefusesWrongFalsely : Prop := fdsRefusesRow.holds Try.pinned (OpenSpec.ofChange fdsRefusesWrong)

/-- 'estraylaw09.FdsNil': WHATEVER THE INPUT: true; the input reads as it did. -/
def fdsNilSpec : ChangeSpec := { name := "fdsNil", fn := fun _ => fun
  | [d1, d2] => { results := [.lit (.bool true)], args := [d1, d2] }
  | _ => none }
def fdsNilRow : OpenClaim := { program := "ythahmcipkchdjaa", sum := "1d879ceef9e526d194d1d2725d23f54b5d7ad8389520568198998abab82caada", func := "estray/estraylaw09.FdsNil", spec := "fdsNil", inPlace := ["maps.clone"], unfollowed := true, recurses := true, plainKeys := false, apart := false }
def FdsNilSaid : Prop := fdsNilRow.holds Try.pinned (OpenSpec.ofChange fdsNilSpec)

/-- ITS FALSE NEIGHBOUR: 'it returns false'. Refute it at one input. -/
def fdsNilWrong : ChangeSpec := { name := "fdsNil", fn := fun _ => fun
  | [d1, d2] => { results := [.lit (.bool false)], args := [d1, d2] }
  | _ => none }
def FdsNilWrongFalsely : Prop := fdsNilRow.holds Try.pinned (OpenSpec.ofChange fdsNilWrong)

/- THE SECOND FORM. 'bulk': how many values and letters a reading holds, each counted each time it is reached (what is shared counts as often as it is met; a slice's spare places count too). A statement '..UptoSaid' is the law's where the arguments, and the package variables that the reading takes, are together of bulk at most 1048576: NARROWER than '..Said'. Prove '..Said' where nothing that the law and all that it calls make is longer than what came in: it says more and counts as full. Else prove '..UptoSaid'. A law counts once. -/
mutual
def uptoBulk {H : Type} : DataW H → Nat
  | .lit (.string bytes) => bytes.length + 1
  | .lit _ => 1
  | .nil => 1
  | .ptr d => uptoBulk d + 1
  | .slice elems spare => uptoBulkAll elems + uptoBulkAll spare + 1
  | .agg parts => uptoBulkAll parts + 1
  | .iface _ d => uptoBulk d + 1
  | .map entries => uptoBulkEntries entries + 1
  | .held _ => 1
def uptoBulkAll {H : Type} : List (DataW H) → Nat
  | [] => 0
  | d :: r => uptoBulk d + uptoBulkAll r
def uptoBulkEntries {H : Type} : List (Lit × DataW H) → Nat
  | [] => 0
  | x :: r => uptoBulkEntry x + uptoBulkEntries r
def uptoBulkEntry {H : Type} : Lit × DataW H → Nat
  | (.string bytes, d) => bytes.length + uptoBulk d + 1
  | (_, d) => uptoBulk d + 1
 end
def uptoSmall : (H : Type) → List (DataW H) → Bool := fun _ ds => decide (uptoBulkAll ds ≤ 1048576)
def OpenSpec.upto (s : _root_.Go.ChangeSpec) : _root_.Go.OpenSpec := { _root_.Go.OpenSpec.ofChange s with cond := some uptoSmall }

/-- 'estraylaw09.FdsPlays', WHERE WHAT IT READS IS OF BULK AT MOST 1048576: true; the input reads as it did. -/
def fdsPlaysUptoRow : OpenClaim := { program := "ythahmcipkchdjaa", sum := "1d879ceef9e526d194d1d2725d23f54b5d7ad8389520568198998abab82caada", func := "estray/estraylaw09.FdsPlays", spec := "fdsPlays", inPlace := ["maps.clone"], unfollowed := true, recurses := true, plainKeys := false, apart := false, narrowed := true }
def FdsPlaysUptoSaid : Prop := fdsPlaysUptoRow.holds Try.pinned (OpenSpec.upto fdsPlaysSpec)

/-- 'estraylaw09.FdsLowest', WHERE WHAT IT READS IS OF BULK AT MOST 1048576: true; the input reads as it did. -/
def fdsLowestUptoRow : OpenClaim := { program := "ythahmcipkchdjaa", sum := "1d879ceef9e526d194d1d2725d23f54b5d7ad8389520568198998abab82caada", func := "estray/estraylaw09.FdsLowest", spec := "fdsLowest", unfollowed := true, recurses := true, plainKeys := false, apart := false, narrowed := true }
def FdsLowestUptoSaid : Prop := fdsLowestUptoRow.holds Try.pinned (OpenSpec.upto fdsLowestSpec)

/-- 'estraylaw09.FdsStale', WHERE WHAT IT READS IS OF BULK AT MOST 1048576: true; the input reads as it did. -/
def fdsStaleUptoRow : OpenClaim := { program := "ythahmcipkchdjaa", sum := "1d879ceef9e526d194d1d2725d23f54b5d7ad8389520568198998abab82caada", func := "estray/estraylaw09.FdsStale", spec := "fdsStale", unfollowed := true, recurses := true, plainKeys := false, apart := false, narrowed := true }
def FdsStaleUptoSaid : Prop := fdsStaleUptoRow.holds Try.pinned (OpenSpec.upto fdsStaleSpec)

/-- 'estraylaw09.FdsRetires', WHERE WHAT IT READS IS OF BULK AT MOST 1048576: true; the input reads as it did. -/
def fdsRetiresUptoRow : OpenClaim := { program := "ythahmcipkchdjaa", sum := "1d879ceef9e526d194d1d2725d23f54b5d7ad8389520568198998abab82caada", func := "estray/estraylaw09.FdsRetires", spec := "fdsRetires", unfollowed := true, recurses := true, plainKeys := false, apart := false, narrowed := true }
def FdsRetiresUptoSaid : Prop := fdsRetiresUptoRow.holds Try.pinned (OpenSpec.upto fdsRetiresSpec)

/-- 'estraylaw09.FdsApart', WHERE WHAT IT READS IS OF BULK AT MOST 1048576: true; the input reads as it did. -/
def fdsApartUptoRow : OpenClaim := { program := "ythahmcipkchdjaa", sum := "1d879ceef9e526d194d1d2725d23f54b5d7ad8389520568198998abab82caada", func := "estray/estraylaw09.FdsApart", spec := "fdsApart", inPlace := ["maps.clone"], unfollowed := true, recurses := true, plainKeys := false, apart := false, narrowed := true }
def FdsApartUptoSaid : Prop := fdsApartUptoRow.holds Try.pinned (OpenSpec.upto fdsApartSpec)

/-- 'estraylaw09.FdsRefuses', WHERE WHAT IT READS IS OF BULK AT MOST 1048576: true; the input reads as it did. -/
def fdsRefusesUptoRow : OpenClaim := { program := "ythahmcipkchdjaa", sum := "1d879ceef9e526d194d1d2725d23f54b5d7ad8389520568198998abab82caada", func := "estray/estraylaw09.FdsRefuses", spec := "fdsRefuses", unfollowed := true, recurses := true, plainKeys := false, apart := false, narrowed := true }
def FdsRefusesUptoSaid : Prop := fdsRefusesUptoRow.holds Try.pinned (OpenSpec.upto fdsRefusesSpec)

/-- 'estraylaw09.FdsNil', WHERE WHAT IT READS IS OF BULK AT MOST 1048576: true; the input reads as it did. -/
def fdsNilUptoRow : OpenClaim := { program := "ythahmcipkchdjaa", sum := "1d879ceef9e526d194d1d2725d23f54b5d7ad8389520568198998abab82caada", func := "estray/estraylaw09.FdsNil", spec := "fdsNil", inPlace := ["maps.clone"], unfollowed := true, recurses := true, plainKeys := false, apart := false, narrowed := true }
def FdsNilUptoSaid : Prop := fdsNilUptoRow.holds Try.pinned (OpenSpec.upto fdsNilSpec)

end Rows
end Go.Proofs.Ythahmcipkchdjaa
