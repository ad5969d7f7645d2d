/-
  No cell of these rows narrows 'for every input' (looked for: loops, veiled, ifaces, maps, wideKeys, modest, calm, conditions, laid).
  DERIVED. THE GIVEN ROWS OF THIS SEAT. 7 by the template 'for every input the law returns true; each argument reads behind the call as it read before'; 0 by the template 'total and deterministic' (their statements: YtjhgckaaaonbiaaTotals.lean).
  GIVEN WITH THE SEED: the statements are not yours to turn. If you find one false, say at which input.
  Laid BY PROGRAM, IN A SANDBOX (cutbox-rows.mjs): the forced cells as the released guide's own fill.sh prints them over the translation a18bf6b6fde6ee27… (all of the seat's roots in one cut). By AI agents, Wed Nov 11 2026. No macro, syntax, notation, axiom, sorry.
-/
import Derived.Test.YtjhgckaaaonbiaaChecked
import GoSem.Claim
import GoSem.ClaimJoined
import GoSem.ClaimMapViews
import Derived.JoinedTies
import Derived.KernelRfl
namespace Go.Proofs.Ytjhgckaaaonbiaa
/- THE CELL 'sum', in the pinned program and in every row, IS THE sha256 OF THE DUMP (.gsa) THAT YtjhgckaaaonbiaaProg.lean LOADS. Nothing in Lean hashes anything: it is a label: what it is worth is what the hold of that sum in a sandbox is worth. -/
noncomputable def Try.pinned : Pinned := { name := "ytjhgckaaaonbiaa", sum := "a18bf6b6fde6ee270e8bb9ef60abc0d466703e487abfe25231ccd02d4871251b", checked := Try.checked }
namespace Rows
def none {H : Type} : Left H := { results := [], args := [] }

/-- 'estraylaw10.BufsPlays': WHATEVER THE INPUT: true; the input reads as it did. -/
def bufsPlaysSpec : ChangeSpec := { name := "bufsPlays", fn := fun _ => fun
  | [d1, d2, d3, d4] => { results := [.lit (.bool true)], args := [d1, d2, d3, d4] }
  | _ => none }
def bufsPlaysRow : OpenClaim := { program := "ytjhgckaaaonbiaa", sum := "a18bf6b6fde6ee270e8bb9ef60abc0d466703e487abfe25231ccd02d4871251b", func := "estray/estraylaw10.BufsPlays", spec := "bufsPlays", unfollowed := true, recurses := true, plainKeys := false, apart := false }
def BufsPlaysSaid : Prop := bufsPlaysRow.holds Try.pinned (OpenSpec.ofChange bufsPlaysSpec)

/-- ITS FALSE NEIGHBOUR: 'it returns false'. Refute it at one input. -/
def bufsPlaysWrong : ChangeSpec := { name := "bufsPlays", fn := fun _ => fun
  | [d1, d2, d3, d4] => { results := [.lit (.bool false)], args := [d1, d2, d3, d4] }
  | _ => none }
def BufsPlaysWrongFalsely : Prop := bufsPlaysRow.holds Try.pinned (OpenSpec.ofChange bufsPlaysWrong)

/-- 'estraylaw10.BufsNil': WHATEVER THE INPUT: true; the input reads as it did. -/
def bufsNilSpec : ChangeSpec := { name := "bufsNil", fn := fun _ => fun
  | [d1, d2] => { results := [.lit (.bool true)], args := [d1, d2] }
  | _ => none }
def bufsNilRow : OpenClaim := { program := "ytjhgckaaaonbiaa", sum := "a18bf6b6fde6ee270e8bb9ef60abc0d466703e487abfe25231ccd02d4871251b", func := "estray/estraylaw10.BufsNil", spec := "bufsNil", unfollowed := true, recurses := true, plainKeys := false, apart := false }
def BufsNilSaid : Prop := bufsNilRow.holds Try.pinned (OpenSpec.ofChange bufsNilSpec)

/-- ITS FALSE NEIGHBOUR: 'it returns false'. Refute it at one input. -/
def bufsNilWrong : ChangeSpec := { name := "bufsNil", fn := fun _ => fun
  | [d1, d2] => { results := [.lit (.bool false)], args := [d1, d2] }
  | _ => none }
def BufsNilWrongFalsely : Prop := bufsNilRow.holds Try.pinned (OpenSpec.ofChange bufsNilWrong)

/-- 'estraylaw10.BufsNames': WHATEVER THE INPUT: true; the input reads as it did. -/
def bufsNamesSpec : ChangeSpec := { name := "bufsNames", fn := fun _ => fun
  | [d1, d2, d3, d4] => { results := [.lit (.bool true)], args := [d1, d2, d3, d4] }
  | _ => none }
def bufsNamesRow : OpenClaim := { program := "ytjhgckaaaonbiaa", sum := "a18bf6b6fde6ee270e8bb9ef60abc0d466703e487abfe25231ccd02d4871251b", func := "estray/estraylaw10.BufsNames", spec := "bufsNames", unfollowed := true, recurses := true, plainKeys := false, apart := false }
def BufsNamesSaid : Prop := bufsNamesRow.holds Try.pinned (OpenSpec.ofChange bufsNamesSpec)

/-- ITS FALSE NEIGHBOUR: 'it returns false'. Refute it at one input. -/
def bufsNamesWrong : ChangeSpec := { name := "bufsNames", fn := fun _ => fun
  | [d1, d2, d3, d4] => { results := [.lit (.bool false)], args := [d1, d2, d3, d4] }
  | _ => none }
def BufsNamesWrongFalsely : Prop := bufsNamesRow.holds Try.pinned (OpenSpec.ofChange bufsNamesWrong)

/-- 'estraylaw10.BufsRoom': WHATEVER THE INPUT: true; the input reads as it did. -/
def bufsRoomSpec : ChangeSpec := { name := "bufsRoom", fn := fun _ => fun
  | [d1, d2, d3, d4] => { results := [.lit (.bool true)], args := [d1, d2, d3, d4] }
  | _ => none }
def bufsRoomRow : OpenClaim := { program := "ytjhgckaaaonbiaa", sum := "a18bf6b6fde6ee270e8bb9ef60abc0d466703e487abfe25231ccd02d4871251b", func := "estray/estraylaw10.BufsRoom", spec := "bufsRoom", unfollowed := true, recurses := true, plainKeys := false, apart := false }
def BufsRoomSaid : Prop := bufsRoomRow.holds Try.pinned (OpenSpec.ofChange bufsRoomSpec)

/-- ITS FALSE NEIGHBOUR: 'it returns false'. Refute it at one input. -/
def bufsRoomWrong : ChangeSpec := { name := "bufsRoom", fn := fun _ => fun
  | [d1, d2, d3, d4] => { results := [.lit (.bool false)], args := [d1, d2, d3, d4] }
  | _ => none }
def BufsRoomWrongFalsely : Prop := bufsRoomRow.holds Try.pinned (OpenSpec.ofChange bufsRoomWrong)

/-- 'estraylaw10.BufsEnds': WHATEVER THE INPUT: true; the input reads as it did. -/
def bufsEndsSpec : ChangeSpec := { name := "bufsEnds", fn := fun _ => fun
  | [d1, d2] => { results := [.lit (.bool true)], args := [d1, d2] }
  | _ => none }
def bufsEndsRow : OpenClaim := { program := "ytjhgckaaaonbiaa", sum := "a18bf6b6fde6ee270e8bb9ef60abc0d466703e487abfe25231ccd02d4871251b", func := "estray/estraylaw10.BufsEnds", spec := "bufsEnds", unfollowed := true, recurses := true, plainKeys := false, apart := false }
def BufsEndsSaid : Prop := bufsEndsRow.holds Try.pinned (OpenSpec.ofChange bufsEndsSpec)

/-- ITS FALSE NEIGHBOUR: 'it returns false'. Refute it at one input. -/
def bufsEndsWrong : ChangeSpec := { name := "bufsEnds", fn := fun _ => fun
  | [d1, d2] => { results := [.lit (.bool false)], args := [d1, d2] }
  | _ => none }
def BufsEndsWrongFalsely : Prop := bufsEndsRow.holds Try.pinned (OpenSpec.ofChange bufsEndsWrong)

/-- 'estraylaw10.BufsRefuses': WHATEVER THE INPUT: true; the input reads as it did. -/
def bufsRefusesSpec : ChangeSpec := { name := "bufsRefuses", fn := fun _ => fun
  | [d1, d2, d3, d4] => { results := [.lit (.bool true)], args := [d1, d2, d3, d4] }
  | _ => none }
def bufsRefusesRow : OpenClaim := { program := "ytjhgckaaaonbiaa", sum := "a18bf6b6fde6ee270e8bb9ef60abc0d466703e487abfe25231ccd02d4871251b", func := "estray/estraylaw10.BufsRefuses", spec := "bufsRefuses", unfollowed := true, recurses := true, plainKeys := false, apart := false }
def BufsRefusesSaid : Prop := bufsRefusesRow.holds Try.pinned (OpenSpec.ofChange bufsRefusesSpec)

/-- ITS FALSE NEIGHBOUR: 'it returns false'. Refute it at one input. -/
def bufsRefusesWrong : ChangeSpec := { name := "bufsRefuses", fn := fun _ => fun
  | [d1, d2, d3, d4] => { results := [.lit (.bool false)], args := [d1, d2, d3, d4] }
  | _ => none }
def BufsRefusesWrongFalsely : Prop := bufsRefusesRow.holds Try.pinned (OpenSpec.ofChange bufsRefusesWrong)

/-- 'estraylaw10.BufsCopies': WHATEVER THE INPUT: true; the input reads as it did. -/
def bufsCopiesSpec : ChangeSpec := { name := "bufsCopies", fn := fun _ => fun
  | [d1, d2, d3, d4] => { results := [.lit (.bool true)], args := [d1, d2, d3, d4] }
  | _ => none }
def bufsCopiesRow : OpenClaim := { program := "ytjhgckaaaonbiaa", sum := "a18bf6b6fde6ee270e8bb9ef60abc0d466703e487abfe25231ccd02d4871251b", func := "estray/estraylaw10.BufsCopies", spec := "bufsCopies", unfollowed := true, recurses := true, plainKeys := false, apart := false }
def BufsCopiesSaid : Prop := bufsCopiesRow.holds Try.pinned (OpenSpec.ofChange bufsCopiesSpec)

/-- ITS FALSE NEIGHBOUR: 'it returns false'. Refute it at one input. -/
def bufsCopiesWrong : ChangeSpec := { name := "bufsCopies", fn := fun _ => fun
  | [d1, d2, d3, d4] => { results := [.lit (.bool false)], args := [d1, d2, d3, d4] }
  | _ => none }
def BufsCopiesWrongFalsely : Prop := bufsCopiesRow.holds Try.pinned (OpenSpec.ofChange bufsCopiesWrong)

/- THE SECOND FORM. 'bulk': how many values and letters a reading holds, each counted each time it is reached (what is shared counts as often as it is met; a slice's spare places count too). A statement '..UptoSaid' is the law's where the arguments, and the package variables that the reading takes, are together of bulk at most 1048576: NARROWER than '..Said'. Prove '..Said' where nothing that the law and all that it calls make is longer than what came in: it says more and counts as full. Else prove '..UptoSaid'. A law counts once. -/
mutual
def uptoBulk {H : Type} : DataW H → Nat
  | .lit (.string bytes) => bytes.length + 1
  | .lit _ => 1
  | .nil => 1
  | .ptr d => uptoBulk d + 1
  | .slice elems spare => uptoBulkAll elems + uptoBulkAll spare + 1
  | .agg parts => uptoBulkAll parts + 1
  | .iface _ d => uptoBulk d + 1
  | .map entries => uptoBulkEntries entries + 1
  | .held _ => 1
def uptoBulkAll {H : Type} : List (DataW H) → Nat
  | [] => 0
  | d :: r => uptoBulk d + uptoBulkAll r
def uptoBulkEntries {H : Type} : List (Lit × DataW H) → Nat
  | [] => 0
  | x :: r => uptoBulkEntry x + uptoBulkEntries r
def uptoBulkEntry {H : Type} : Lit × DataW H → Nat
  | (.string bytes, d) => bytes.length + uptoBulk d + 1
  | (_, d) => uptoBulk d + 1
 end
def uptoSmall : (H : Type) → List (DataW H) → Bool := fun _ ds => decide (uptoBulkAll ds ≤ 1048576)
def OpenSpec.upto (s : _root_.Go.ChangeSpec) : _root_.Go.OpenSpec := { _root_.Go.OpenSpec.ofChange s with cond := some uptoSmall }

/-- 'estraylaw10.BufsPlays', WHERE WHAT IT READS IS OF BULK AT MOST 1048576: true; the input reads as it did. -/
def bufsPlaysUptoRow : OpenClaim := { program := "ytjhgckaaaonbiaa", sum := "a18bf6b6fde6ee270e8bb9ef60abc0d466703e487abfe25231ccd02d4871251b", func := "estray/estraylaw10.BufsPlays", spec := "bufsPlays", unfollowed := true, recurses := true, plainKeys := false, apart := false, narrowed := true }
def BufsPlaysUptoSaid : Prop := bufsPlaysUptoRow.holds Try.pinned (OpenSpec.upto bufsPlaysSpec)

/-- 'estraylaw10.BufsNil', WHERE WHAT IT READS IS OF BULK AT MOST 1048576: true; the input reads as it did. -/
def bufsNilUptoRow : OpenClaim := { program := "ytjhgckaaaonbiaa", sum := "a18bf6b6fde6ee270e8bb9ef60abc0d466703e487abfe25231ccd02d4871251b", func := "estray/estraylaw10.BufsNil", spec := "bufsNil", unfollowed := true, recurses := true, plainKeys := false, apart := false, narrowed := true }
def BufsNilUptoSaid : Prop := bufsNilUptoRow.holds Try.pinned (OpenSpec.upto bufsNilSpec)

/-- 'estraylaw10.BufsNames', WHERE WHAT IT READS IS OF BULK AT MOST 1048576: true; the input reads as it did. -/
def bufsNamesUptoRow : OpenClaim := { program := "ytjhgckaaaonbiaa", sum := "a18bf6b6fde6ee270e8bb9ef60abc0d466703e487abfe25231ccd02d4871251b", func := "estray/estraylaw10.BufsNames", spec := "bufsNames", unfollowed := true, recurses := true, plainKeys := false, apart := false, narrowed := true }
def BufsNamesUptoSaid : Prop := bufsNamesUptoRow.holds Try.pinned (OpenSpec.upto bufsNamesSpec)

/-- 'estraylaw10.BufsRoom', WHERE WHAT IT READS IS OF BULK AT MOST 1048576: true; the input reads as it did. -/
def bufsRoomUptoRow : OpenClaim := { program := "ytjhgckaaaonbiaa", sum := "a18bf6b6fde6ee270e8bb9ef60abc0d466703e487abfe25231ccd02d4871251b", func := "estray/estraylaw10.BufsRoom", spec := "bufsRoom", unfollowed := true, recurses := true, plainKeys := false, apart := false, narrowed := true }
def BufsRoomUptoSaid : Prop := bufsRoomUptoRow.holds Try.pinned (OpenSpec.upto bufsRoomSpec)

/-- 'estraylaw10.BufsEnds', WHERE WHAT IT READS IS OF BULK AT MOST 1048576: true; the input reads as it did. -/
def bufsEndsUptoRow : OpenClaim := { program := "ytjhgckaaaonbiaa", sum := "a18bf6b6fde6ee270e8bb9ef60abc0d466703e487abfe25231ccd02d4871251b", func := "estray/estraylaw10.BufsEnds", spec := "bufsEnds", unfollowed := true, recurses := true, plainKeys := false, apart := false, narrowed := true }
def BufsEndsUptoSaid : Prop := bufsEndsUptoRow.holds Try.pinned (OpenSpec.upto bufsEndsSpec)

/-- 'estraylaw10.BufsRefuses', WHERE WHAT IT READS IS OF BULK AT MOST 1048576: true; the input reads as it did. -/
def bufsRefusesUptoRow : OpenClaim := { program := "ytjhgckaaaonbiaa", sum := "a18bf6b6fde6ee270e8bb9ef60abc0d466703e487abfe25231ccd02d4871251b", func := "estray/estraylaw10.BufsRefuses", spec := "bufsRefuses", unfollowed := true, recurses := true, plainKeys := false, apart := false, narrowed := true }
def BufsRefusesUptoSaid : Prop := bufsRefusesUptoRow.holds Try.pinned (OpenSpec.upto bufsRefusesSpec)

/-- 'estraylaw10.BufsCopies', WHERE WHAT IT READS IS OF BULK AT MOST 1048576: true; the input reads as it did. -/
def bufsCopiesUptoRow : OpenClaim := { program := "ytjhgckaaaonbiaa", sum := "a18bf6b6fde6ee270e8bb9ef60abc0d466703e487abfe25231ccd02d4871251b", func := "estray/estraylaw10.BufsCopies", spec := "bufsCopies", unfollowed := true, recurses := true, plainKeys := false, apart := false, narrowed := true }
def BufsCopiesUptoSaid : Prop := bufsCopiesUptoRow.holds Try.pinned (OpenSpec.upto bufsCopiesSpec)

end Rows
end Go.Proofs.Ytjhgckaaaonbiaa
