/-
  No cell of these rows narrows 'for every input' (looked for: loops, veiled, ifaces, maps, wideKeys, modest, calm, conditions, laid).
  DERIVED. THE GIVEN ROWS OF THIS SEAT. 5 by the template 'for every input the law returns true; each argument reads behind the call as it read before'; 0 by the template 'total and deterministic' (their statements: YtlojkbmoaifkaaaTotals.lean).
  GIVEN WITH THE SEED: the statements are not yours to turn. If you find one false, say at which input.
  Laid BY PROGRAM, IN A SANDBOX (cutbox-rows.mjs): the forced cells as the released guide's own fill.sh prints them over the translation c5e95ace35d94621… (all of the seat's roots in one cut). By AI agents, Wed Nov 11 2026. No macro, syntax, notation, axiom, sorry.
-/
import Derived.Test.YtlojkbmoaifkaaaChecked
import GoSem.Claim
import GoSem.ClaimJoined
import GoSem.ClaimMapViews
import Derived.JoinedTies
import Derived.KernelRfl
namespace Go.Proofs.Ytlojkbmoaifkaaa
/- THE CELL 'sum', in the pinned program and in every row, IS THE sha256 OF THE DUMP (.gsa) THAT YtlojkbmoaifkaaaProg.lean LOADS. Nothing in Lean hashes anything: it is a label: what it is worth is what the hold of that sum in a sandbox is worth. -/
noncomputable def Try.pinned : Pinned := { name := "ytlojkbmoaifkaaa", sum := "c5e95ace35d946218eebf2d461f28671b3db99e6a5ed5593b9ecf240151bd03b", checked := Try.checked }
namespace Rows
def none {H : Type} : Left H := { results := [], args := [] }

/-- 'moultlaw08.TwoTells': WHATEVER THE INPUT: true; the input reads as it did. -/
def twoTellsSpec : ChangeSpec := { name := "twoTells", fn := fun _ => fun
  | [d1, d2, d3, d4, d5] => { results := [.lit (.bool true)], args := [d1, d2, d3, d4, d5] }
  | _ => none }
def twoTellsRow : OpenClaim := { program := "ytlojkbmoaifkaaa", sum := "c5e95ace35d946218eebf2d461f28671b3db99e6a5ed5593b9ecf240151bd03b", func := "moult/moultlaw08.TwoTells", spec := "twoTells", unfollowed := true, recurses := true, apart := false }
def TwoTellsSaid : Prop := twoTellsRow.holds Try.pinned (OpenSpec.ofChange twoTellsSpec)

/-- ITS FALSE NEIGHBOUR: 'it returns false'. Refute it at one input. -/
def twoTellsWrong : ChangeSpec := { name := "twoTells", fn := fun _ => fun
  | [d1, d2, d3, d4, d5] => { results := [.lit (.bool false)], args := [d1, d2, d3, d4, d5] }
  | _ => none }
def TwoTellsWrongFalsely : Prop := twoTellsRow.holds Try.pinned (OpenSpec.ofChange twoTellsWrong)

/-- 'moultlaw08.TwoBack': WHATEVER THE INPUT: true; the input reads as it did. -/
def twoBackSpec : ChangeSpec := { name := "twoBack", fn := fun _ => fun
  | [d1, d2, d3, d4] => { results := [.lit (.bool true)], args := [d1, d2, d3, d4] }
  | _ => none }
def twoBackRow : OpenClaim := { program := "ytlojkbmoaifkaaa", sum := "c5e95ace35d946218eebf2d461f28671b3db99e6a5ed5593b9ecf240151bd03b", func := "moult/moultlaw08.TwoBack", spec := "twoBack", unfollowed := true, recurses := true, apart := false }
def TwoBackSaid : Prop := twoBackRow.holds Try.pinned (OpenSpec.ofChange twoBackSpec)

/-- ITS FALSE NEIGHBOUR: 'it returns false'. Refute it at one input. -/
def twoBackWrong : ChangeSpec := { name := "twoBack", fn := fun _ => fun
  | [d1, d2, d3, d4] => { results := [.lit (.bool false)], args := [d1, d2, d3, d4] }
  | _ => none }
def TwoBackWrongFalsely : Prop := twoBackRow.holds Try.pinned (OpenSpec.ofChange twoBackWrong)

/-- 'moultlaw08.TwoCut': WHATEVER THE INPUT: true; the input reads as it did. -/
def twoCutSpec : ChangeSpec := { name := "twoCut", fn := fun _ => fun
  | [d1, d2, d3] => { results := [.lit (.bool true)], args := [d1, d2, d3] }
  | _ => none }
def twoCutRow : OpenClaim := { program := "ytlojkbmoaifkaaa", sum := "c5e95ace35d946218eebf2d461f28671b3db99e6a5ed5593b9ecf240151bd03b", func := "moult/moultlaw08.TwoCut", spec := "twoCut", unfollowed := true, recurses := true, apart := false }
def TwoCutSaid : Prop := twoCutRow.holds Try.pinned (OpenSpec.ofChange twoCutSpec)

/-- ITS FALSE NEIGHBOUR: 'it returns false'. Refute it at one input. -/
def twoCutWrong : ChangeSpec := { name := "twoCut", fn := fun _ => fun
  | [d1, d2, d3] => { results := [.lit (.bool false)], args := [d1, d2, d3] }
  | _ => none }
def TwoCutWrongFalsely : Prop := twoCutRow.holds Try.pinned (OpenSpec.ofChange twoCutWrong)

/-- 'moultlaw08.TwoHarm': WHATEVER THE INPUT: true; the input reads as it did. -/
def twoHarmSpec : ChangeSpec := { name := "twoHarm", fn := fun _ => fun
  | [d1, d2, d3, d4] => { results := [.lit (.bool true)], args := [d1, d2, d3, d4] }
  | _ => none }
def twoHarmRow : OpenClaim := { program := "ytlojkbmoaifkaaa", sum := "c5e95ace35d946218eebf2d461f28671b3db99e6a5ed5593b9ecf240151bd03b", func := "moult/moultlaw08.TwoHarm", spec := "twoHarm", unfollowed := true, recurses := true, apart := false }
def TwoHarmSaid : Prop := twoHarmRow.holds Try.pinned (OpenSpec.ofChange twoHarmSpec)

/-- ITS FALSE NEIGHBOUR: 'it returns false'. Refute it at one input. -/
def twoHarmWrong : ChangeSpec := { name := "twoHarm", fn := fun _ => fun
  | [d1, d2, d3, d4] => { results := [.lit (.bool false)], args := [d1, d2, d3, d4] }
  | _ => none }
def TwoHarmWrongFalsely : Prop := twoHarmRow.holds Try.pinned (OpenSpec.ofChange twoHarmWrong)

/-- 'moultlaw08.TwoBlocks': WHATEVER THE INPUT: true; the input reads as it did. -/
def twoBlocksSpec : ChangeSpec := { name := "twoBlocks", fn := fun _ => fun
  | [d1, d2, d3] => { results := [.lit (.bool true)], args := [d1, d2, d3] }
  | _ => none }
def twoBlocksRow : OpenClaim := { program := "ytlojkbmoaifkaaa", sum := "c5e95ace35d946218eebf2d461f28671b3db99e6a5ed5593b9ecf240151bd03b", func := "moult/moultlaw08.TwoBlocks", spec := "twoBlocks", unfollowed := true, recurses := true, apart := false }
def TwoBlocksSaid : Prop := twoBlocksRow.holds Try.pinned (OpenSpec.ofChange twoBlocksSpec)

/-- ITS FALSE NEIGHBOUR: 'it returns false'. Refute it at one input. -/
def twoBlocksWrong : ChangeSpec := { name := "twoBlocks", fn := fun _ => fun
  | [d1, d2, d3] => { results := [.lit (.bool false)], args := [d1, d2, d3] }
  | _ => none }
def TwoBlocksWrongFalsely : Prop := twoBlocksRow.holds Try.pinned (OpenSpec.ofChange twoBlocksWrong)

/- THE SECOND FORM. 'bulk': how many values and letters a reading holds, each counted each time it is reached (what is shared counts as often as it is met; a slice's spare places count too). A statement '..UptoSaid' is the law's where the arguments, and the package variables that the reading takes, are together of bulk at most 1048576: NARROWER than '..Said'. Prove '..Said' where nothing that the law and all that it calls make is longer than what came in: it says more and counts as full. Else prove '..UptoSaid'. A law counts once. -/
mutual
def uptoBulk {H : Type} : DataW H → Nat
  | .lit (.string bytes) => bytes.length + 1
  | .lit _ => 1
  | .nil => 1
  | .ptr d => uptoBulk d + 1
  | .slice elems spare => uptoBulkAll elems + uptoBulkAll spare + 1
  | .agg parts => uptoBulkAll parts + 1
  | .iface _ d => uptoBulk d + 1
  | .map entries => uptoBulkEntries entries + 1
  | .held _ => 1
def uptoBulkAll {H : Type} : List (DataW H) → Nat
  | [] => 0
  | d :: r => uptoBulk d + uptoBulkAll r
def uptoBulkEntries {H : Type} : List (Lit × DataW H) → Nat
  | [] => 0
  | x :: r => uptoBulkEntry x + uptoBulkEntries r
def uptoBulkEntry {H : Type} : Lit × DataW H → Nat
  | (.string bytes, d) => bytes.length + uptoBulk d + 1
  | (_, d) => uptoBulk d + 1
 end
def uptoSmall : (H : Type) → List (DataW H) → Bool := fun _ ds => decide (uptoBulkAll ds ≤ 1048576)
def OpenSpec.upto (s : _root_.Go.ChangeSpec) : _root_.Go.OpenSpec := { _root_.Go.OpenSpec.ofChange s with cond := some uptoSmall }

/-- 'moultlaw08.TwoTells', WHERE WHAT IT READS IS OF BULK AT MOST 1048576: true; the input reads as it did. -/
def twoTellsUptoRow : OpenClaim := { program := "ytlojkbmoaifkaaa", sum := "c5e95ace35d946218eebf2d461f28671b3db99e6a5ed5593b9ecf240151bd03b", func := "moult/moultlaw08.TwoTells", spec := "twoTells", unfollowed := true, recurses := true, apart := false, narrowed := true }
def TwoTellsUptoSaid : Prop := twoTellsUptoRow.holds Try.pinned (OpenSpec.upto twoTellsSpec)

/-- 'moultlaw08.TwoBack', WHERE WHAT IT READS IS OF BULK AT MOST 1048576: true; the input reads as it did. -/
def twoBackUptoRow : OpenClaim := { program := "ytlojkbmoaifkaaa", sum := "c5e95ace35d946218eebf2d461f28671b3db99e6a5ed5593b9ecf240151bd03b", func := "moult/moultlaw08.TwoBack", spec := "twoBack", unfollowed := true, recurses := true, apart := false, narrowed := true }
def TwoBackUptoSaid : Prop := twoBackUptoRow.holds Try.pinned (OpenSpec.upto twoBackSpec)

/-- 'moultlaw08.TwoCut', WHERE WHAT IT READS IS OF BULK AT MOST 1048576: true; the input reads as it did. -/
def twoCutUptoRow : OpenClaim := { program := "ytlojkbmoaifkaaa", sum := "c5e95ace35d946218eebf2d461f28671b3db99e6a5ed5593b9ecf240151bd03b", func := "moult/moultlaw08.TwoCut", spec := "twoCut", unfollowed := true, recurses := true, apart := false, narrowed := true }
def TwoCutUptoSaid : Prop := twoCutUptoRow.holds Try.pinned (OpenSpec.upto twoCutSpec)

/-- 'moultlaw08.TwoHarm', WHERE WHAT IT READS IS OF BULK AT MOST 1048576: true; the input reads as it did. -/
def twoHarmUptoRow : OpenClaim := { program := "ytlojkbmoaifkaaa", sum := "c5e95ace35d946218eebf2d461f28671b3db99e6a5ed5593b9ecf240151bd03b", func := "moult/moultlaw08.TwoHarm", spec := "twoHarm", unfollowed := true, recurses := true, apart := false, narrowed := true }
def TwoHarmUptoSaid : Prop := twoHarmUptoRow.holds Try.pinned (OpenSpec.upto twoHarmSpec)

/-- 'moultlaw08.TwoBlocks', WHERE WHAT IT READS IS OF BULK AT MOST 1048576: true; the input reads as it did. -/
def twoBlocksUptoRow : OpenClaim := { program := "ytlojkbmoaifkaaa", sum := "c5e95ace35d946218eebf2d461f28671b3db99e6a5ed5593b9ecf240151bd03b", func := "moult/moultlaw08.TwoBlocks", spec := "twoBlocks", unfollowed := true, recurses := true, apart := false, narrowed := true }
def TwoBlocksUptoSaid : Prop := twoBlocksUptoRow.holds Try.pinned (OpenSpec.upto twoBlocksSpec)

end Rows
end Go.Proofs.Ytlojkbmoaifkaaa
