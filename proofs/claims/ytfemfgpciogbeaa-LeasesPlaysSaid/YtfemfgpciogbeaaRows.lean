/-
  No cell of these rows narrows 'for every input' (looked for: loops, veiled, ifaces, maps, wideKeys, modest, calm, conditions, laid).
  DERIVED. THE GIVEN ROWS OF THIS SEAT. 7 by the template 'for every input the law returns true; each argument reads behind the call as it read before'; 0 by the template 'total and deterministic' (their statements: YtfemfgpciogbeaaTotals.lean).
  GIVEN WITH THE SEED: the statements are not yours to turn. If you find one false, say at which input.
  Laid BY PROGRAM, IN A SANDBOX (cutbox-rows.mjs): the forced cells as the released guide's own fill.sh prints them over the translation f3bc9b30cf5431e0… (all of the seat's roots in one cut). By AI agents, Wed Nov 11 2026. No macro, syntax, notation, axiom, sorry.
-/
import Derived.Test.YtfemfgpciogbeaaChecked
import GoSem.Claim
import GoSem.ClaimJoined
import GoSem.ClaimMapViews
import Derived.JoinedTies
import Derived.KernelRfl
namespace Go.Proofs.Ytfemfgpciogbeaa
/- THE CELL 'sum', in the pinned program and in every row, IS THE sha256 OF THE DUMP (.gsa) THAT YtfemfgpciogbeaaProg.lean LOADS. Nothing in Lean hashes anything: it is a label: what it is worth is what the hold of that sum in a sandbox is worth. -/
noncomputable def Try.pinned : Pinned := { name := "ytfemfgpciogbeaa", sum := "f3bc9b30cf5431e020ac97308651e6aa5052e9db1a8f9338752591e379b85b9b", checked := Try.checked }
namespace Rows
def none {H : Type} : Left H := { results := [], args := [] }

/-- 'estraylaw11.LeasesPlays': WHATEVER THE INPUT: true; the input reads as it did. -/
def leasesPlaysSpec : ChangeSpec := { name := "leasesPlays", fn := fun _ => fun
  | [d1, d2, d3] => { results := [.lit (.bool true)], args := [d1, d2, d3] }
  | _ => none }
def leasesPlaysRow : OpenClaim := { program := "ytfemfgpciogbeaa", sum := "f3bc9b30cf5431e020ac97308651e6aa5052e9db1a8f9338752591e379b85b9b", func := "estray/estraylaw11.LeasesPlays", spec := "leasesPlays", unfollowed := true, recurses := true, apart := false }
def LeasesPlaysSaid : Prop := leasesPlaysRow.holds Try.pinned (OpenSpec.ofChange leasesPlaysSpec)

/-- ITS FALSE NEIGHBOUR: 'it returns false'. Refute it at one input. -/
def leasesPlaysWrong : ChangeSpec := { name := "leasesPlays", fn := fun _ => fun
  | [d1, d2, d3] => { results := [.lit (.bool false)], args := [d1, d2, d3] }
  | _ => none }
def LeasesPlaysWrongFalsely : Prop := leasesPlaysRow.holds Try.pinned (OpenSpec.ofChange leasesPlaysWrong)

/-- 'estraylaw11.LeasesNil': WHATEVER THE INPUT: true; the input reads as it did. -/
def leasesNilSpec : ChangeSpec := { name := "leasesNil", fn := fun _ => fun
  | [d1, d2, d3] => { results := [.lit (.bool true)], args := [d1, d2, d3] }
  | _ => none }
def leasesNilRow : OpenClaim := { program := "ytfemfgpciogbeaa", sum := "f3bc9b30cf5431e020ac97308651e6aa5052e9db1a8f9338752591e379b85b9b", func := "estray/estraylaw11.LeasesNil", spec := "leasesNil", unfollowed := true, recurses := true, apart := false }
def LeasesNilSaid : Prop := leasesNilRow.holds Try.pinned (OpenSpec.ofChange leasesNilSpec)

/-- ITS FALSE NEIGHBOUR: 'it returns false'. Refute it at one input. -/
def leasesNilWrong : ChangeSpec := { name := "leasesNil", fn := fun _ => fun
  | [d1, d2, d3] => { results := [.lit (.bool false)], args := [d1, d2, d3] }
  | _ => none }
def LeasesNilWrongFalsely : Prop := leasesNilRow.holds Try.pinned (OpenSpec.ofChange leasesNilWrong)

/-- 'estraylaw11.LeasesOnce': WHATEVER THE INPUT: true; the input reads as it did. -/
def leasesOnceSpec : ChangeSpec := { name := "leasesOnce", fn := fun _ => fun
  | [d1, d2, d3] => { results := [.lit (.bool true)], args := [d1, d2, d3] }
  | _ => none }
def leasesOnceRow : OpenClaim := { program := "ytfemfgpciogbeaa", sum := "f3bc9b30cf5431e020ac97308651e6aa5052e9db1a8f9338752591e379b85b9b", func := "estray/estraylaw11.LeasesOnce", spec := "leasesOnce", unfollowed := true, recurses := true, apart := false }
def LeasesOnceSaid : Prop := leasesOnceRow.holds Try.pinned (OpenSpec.ofChange leasesOnceSpec)

/-- ITS FALSE NEIGHBOUR: 'it returns false'. Refute it at one input. -/
def leasesOnceWrong : ChangeSpec := { name := "leasesOnce", fn := fun _ => fun
  | [d1, d2, d3] => { results := [.lit (.bool false)], args := [d1, d2, d3] }
  | _ => none }
def LeasesOnceWrongFalsely : Prop := leasesOnceRow.holds Try.pinned (OpenSpec.ofChange leasesOnceWrong)

/-- 'estraylaw11.LeasesOver': WHATEVER THE INPUT: true; the input reads as it did. -/
def leasesOverSpec : ChangeSpec := { name := "leasesOver", fn := fun _ => fun
  | [d1, d2, d3, d4] => { results := [.lit (.bool true)], args := [d1, d2, d3, d4] }
  | _ => none }
def leasesOverRow : OpenClaim := { program := "ytfemfgpciogbeaa", sum := "f3bc9b30cf5431e020ac97308651e6aa5052e9db1a8f9338752591e379b85b9b", func := "estray/estraylaw11.LeasesOver", spec := "leasesOver", unfollowed := true, recurses := true, apart := false }
def LeasesOverSaid : Prop := leasesOverRow.holds Try.pinned (OpenSpec.ofChange leasesOverSpec)

/-- ITS FALSE NEIGHBOUR: 'it returns false'. Refute it at one input. -/
def leasesOverWrong : ChangeSpec := { name := "leasesOver", fn := fun _ => fun
  | [d1, d2, d3, d4] => { results := [.lit (.bool false)], args := [d1, d2, d3, d4] }
  | _ => none }
def LeasesOverWrongFalsely : Prop := leasesOverRow.holds Try.pinned (OpenSpec.ofChange leasesOverWrong)

/-- 'estraylaw11.LeasesApart': WHATEVER THE INPUT: true; the input reads as it did. -/
def leasesApartSpec : ChangeSpec := { name := "leasesApart", fn := fun _ => fun
  | [d1, d2, d3] => { results := [.lit (.bool true)], args := [d1, d2, d3] }
  | _ => none }
def leasesApartRow : OpenClaim := { program := "ytfemfgpciogbeaa", sum := "f3bc9b30cf5431e020ac97308651e6aa5052e9db1a8f9338752591e379b85b9b", func := "estray/estraylaw11.LeasesApart", spec := "leasesApart", unfollowed := true, recurses := true, apart := false }
def LeasesApartSaid : Prop := leasesApartRow.holds Try.pinned (OpenSpec.ofChange leasesApartSpec)

/-- ITS FALSE NEIGHBOUR: 'it returns false'. Refute it at one input. -/
def leasesApartWrong : ChangeSpec := { name := "leasesApart", fn := fun _ => fun
  | [d1, d2, d3] => { results := [.lit (.bool false)], args := [d1, d2, d3] }
  | _ => none }
def LeasesApartWrongFalsely : Prop := leasesApartRow.holds Try.pinned (OpenSpec.ofChange leasesApartWrong)

/-- 'estraylaw11.LeasesStays': WHATEVER THE INPUT: true; the input reads as it did. -/
def leasesStaysSpec : ChangeSpec := { name := "leasesStays", fn := fun _ => fun
  | [d1, d2, d3] => { results := [.lit (.bool true)], args := [d1, d2, d3] }
  | _ => none }
def leasesStaysRow : OpenClaim := { program := "ytfemfgpciogbeaa", sum := "f3bc9b30cf5431e020ac97308651e6aa5052e9db1a8f9338752591e379b85b9b", func := "estray/estraylaw11.LeasesStays", spec := "leasesStays", unfollowed := true, recurses := true, apart := false }
def LeasesStaysSaid : Prop := leasesStaysRow.holds Try.pinned (OpenSpec.ofChange leasesStaysSpec)

/-- ITS FALSE NEIGHBOUR: 'it returns false'. Refute it at one input. -/
def leasesStaysWrong : ChangeSpec := { name := "leasesStays", fn := fun _ => fun
  | [d1, d2, d3] => { results := [.lit (.bool false)], args := [d1, d2, d3] }
  | _ => none }
def LeasesStaysWrongFalsely : Prop := leasesStaysRow.holds Try.pinned (OpenSpec.ofChange leasesStaysWrong)

/-- 'estraylaw11.LeasesEnds': WHATEVER THE INPUT: true; the input reads as it did. -/
def leasesEndsSpec : ChangeSpec := { name := "leasesEnds", fn := fun _ => fun
  | [] => { results := [.lit (.bool true)], args := [] }
  | _ => none }
def leasesEndsRow : OpenClaim := { program := "ytfemfgpciogbeaa", sum := "f3bc9b30cf5431e020ac97308651e6aa5052e9db1a8f9338752591e379b85b9b", func := "estray/estraylaw11.LeasesEnds", spec := "leasesEnds", unfollowed := true, recurses := true, apart := false }
def LeasesEndsSaid : Prop := leasesEndsRow.holds Try.pinned (OpenSpec.ofChange leasesEndsSpec)

/-- ITS FALSE NEIGHBOUR: 'it returns false'. Refute it at one input. -/
def leasesEndsWrong : ChangeSpec := { name := "leasesEnds", fn := fun _ => fun
  | [] => { results := [.lit (.bool false)], args := [] }
  | _ => none }
def LeasesEndsWrongFalsely : Prop := leasesEndsRow.holds Try.pinned (OpenSpec.ofChange leasesEndsWrong)

/- THE SECOND FORM. 'bulk': how many values and letters a reading holds, each counted each time it is reached (what is shared counts as often as it is met; a slice's spare places count too). A statement '..UptoSaid' is the law's where the arguments, and the package variables that the reading takes, are together of bulk at most 1048576: NARROWER than '..Said'. Prove '..Said' where nothing that the law and all that it calls make is longer than what came in: it says more and counts as full. Else prove '..UptoSaid'. A law counts once. -/
mutual
def uptoBulk {H : Type} : DataW H → Nat
  | .lit (.string bytes) => bytes.length + 1
  | .lit _ => 1
  | .nil => 1
  | .ptr d => uptoBulk d + 1
  | .slice elems spare => uptoBulkAll elems + uptoBulkAll spare + 1
  | .agg parts => uptoBulkAll parts + 1
  | .iface _ d => uptoBulk d + 1
  | .map entries => uptoBulkEntries entries + 1
  | .held _ => 1
def uptoBulkAll {H : Type} : List (DataW H) → Nat
  | [] => 0
  | d :: r => uptoBulk d + uptoBulkAll r
def uptoBulkEntries {H : Type} : List (Lit × DataW H) → Nat
  | [] => 0
  | x :: r => uptoBulkEntry x + uptoBulkEntries r
def uptoBulkEntry {H : Type} : Lit × DataW H → Nat
  | (.string bytes, d) => bytes.length + uptoBulk d + 1
  | (_, d) => uptoBulk d + 1
 end
def uptoSmall : (H : Type) → List (DataW H) → Bool := fun _ ds => decide (uptoBulkAll ds ≤ 1048576)
def OpenSpec.upto (s : _root_.Go.ChangeSpec) : _root_.Go.OpenSpec := { _root_.Go.OpenSpec.ofChange s with cond := some uptoSmall }

/-- 'estraylaw11.LeasesPlays', WHERE WHAT IT READS IS OF BULK AT MOST 1048576: true; the input reads as it did. -/
def leasesPlaysUptoRow : OpenClaim := { program := "ytfemfgpciogbeaa", sum := "f3bc9b30cf5431e020ac97308651e6aa5052e9db1a8f9338752591e379b85b9b", func := "estray/estraylaw11.LeasesPlays", spec := "leasesPlays", unfollowed := true, recurses := true, apart := false, narrowed := true }
def LeasesPlaysUptoSaid : Prop := leasesPlaysUptoRow.holds Try.pinned (OpenSpec.upto leasesPlaysSpec)

/-- 'estraylaw11.LeasesNil', WHERE WHAT IT READS IS OF BULK AT MOST 1048576: true; the input reads as it did. -/
def leasesNilUptoRow : OpenClaim := { program := "ytfemfgpciogbeaa", sum := "f3bc9b30cf5431e020ac97308651e6aa5052e9db1a8f9338752591e379b85b9b", func := "estray/estraylaw11.LeasesNil", spec := "leasesNil", unfollowed := true, recurses := true, apart := false, narrowed := true }
def LeasesNilUptoSaid : Prop := leasesNilUptoRow.holds Try.pinned (OpenSpec.upto leasesNilSpec)

/-- 'estraylaw11.LeasesOnce', WHERE WHAT IT READS IS OF BULK AT MOST 1048576: true; the input reads as it did. -/
def leasesOnceUptoRow : OpenClaim := { program := "ytfemfgpciogbeaa", sum := "f3bc9b30cf5431e020ac97308651e6aa5052e9db1a8f9338752591e379b85b9b", func := "estray/estraylaw11.LeasesOnce", spec := "leasesOnce", unfollowed := true, recurses := true, apart := false, narrowed := true }
def LeasesOnceUptoSaid : Prop := leasesOnceUptoRow.holds Try.pinned (OpenSpec.upto leasesOnceSpec)

/-- 'estraylaw11.LeasesOver', WHERE WHAT IT READS IS OF BULK AT MOST 1048576: true; the input reads as it did. -/
def leasesOverUptoRow : OpenClaim := { program := "ytfemfgpciogbeaa", sum := "f3bc9b30cf5431e020ac97308651e6aa5052e9db1a8f9338752591e379b85b9b", func := "estray/estraylaw11.LeasesOver", spec := "leasesOver", unfollowed := true, recurses := true, apart := false, narrowed := true }
def LeasesOverUptoSaid : Prop := leasesOverUptoRow.holds Try.pinned (OpenSpec.upto leasesOverSpec)

/-- 'estraylaw11.LeasesApart', WHERE WHAT IT READS IS OF BULK AT MOST 1048576: true; the input reads as it did. -/
def leasesApartUptoRow : OpenClaim := { program := "ytfemfgpciogbeaa", sum := "f3bc9b30cf5431e020ac97308651e6aa5052e9db1a8f9338752591e379b85b9b", func := "estray/estraylaw11.LeasesApart", spec := "leasesApart", unfollowed := true, recurses := true, apart := false, narrowed := true }
def LeasesApartUptoSaid : Prop := leasesApartUptoRow.holds Try.pinned (OpenSpec.upto leasesApartSpec)

/-- 'estraylaw11.LeasesStays', WHERE WHAT IT READS IS OF BULK AT MOST 1048576: true; the input reads as it did. -/
def leasesStaysUptoRow : OpenClaim := { program := "ytfemfgpciogbeaa", sum := "f3bc9b30cf5431e020ac97308651e6aa5052e9db1a8f9338752591e379b85b9b", func := "estray/estraylaw11.LeasesStays", spec := "leasesStays", unfollowed := true, recurses := true, apart := false, narrowed := true }
def LeasesStaysUptoSaid : Prop := leasesStaysUptoRow.holds Try.pinned (OpenSpec.upto leasesStaysSpec)

/-- 'estraylaw11.LeasesEnds', WHERE WHAT IT READS IS OF BULK AT MOST 1048576: true; the input reads as it did. -/
def leasesEndsUptoRow : OpenClaim := { program := "ytfemfgpciogbeaa", sum := "f3bc9b30cf5431e020ac97308651e6aa5052e9db1a8f9338752591e379b85b9b", func := "estray/estraylaw11.LeasesEnds", spec := "leasesEnds", unfollowed := true, recurses := true, apart := false, narrowed := true }
def LeasesEndsUptoSaid : Prop := leasesEndsUptoRow.holds Try.pinned (OpenSpec.upto leasesEndsSpec)

end Rows
end Go.Proofs.Ytfemfgpciogbeaa
