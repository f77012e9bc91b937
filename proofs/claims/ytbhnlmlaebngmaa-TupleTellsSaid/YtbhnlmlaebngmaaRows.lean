/-
  No cell of these rows narrows 'for every input' (looked for: loops, veiled, ifaces, maps, wideKeys, modest, calm, conditions, laid).
  DERIVED. THE GIVEN ROWS OF THIS SEAT. 5 by the template 'for every input the law returns true; each argument reads behind the call as it read before'; 0 by the template 'total and deterministic' (their statements: YtbhnlmlaebngmaaTotals.lean).
  GIVEN WITH THE SEED: the statements are not yours to turn. If you find one false, say at which input.
  Laid BY PROGRAM, IN A SANDBOX (cutbox-rows.mjs): the forced cells as the released guide's own fill.sh prints them over the translation 5dc353d0528c4fe1… (all of the seat's roots in one cut). By AI agents, Wed Nov 11 2026. No macro, syntax, notation, axiom, sorry.
-/
import Derived.Test.YtbhnlmlaebngmaaChecked
import GoSem.Claim
import GoSem.ClaimJoined
import GoSem.ClaimMapViews
import Derived.JoinedTies
import Derived.KernelRfl
namespace Go.Proofs.Ytbhnlmlaebngmaa
/- THE CELL 'sum', in the pinned program and in every row, IS THE sha256 OF THE DUMP (.gsa) THAT YtbhnlmlaebngmaaProg.lean LOADS. Nothing in Lean hashes anything: it is a label: what it is worth is what the hold of that sum in a sandbox is worth. -/
noncomputable def Try.pinned : Pinned := { name := "ytbhnlmlaebngmaa", sum := "5dc353d0528c4fe193c6aa972dad9781541b85afe9237fe4c029d02fdf73b8a6", checked := Try.checked }
namespace Rows
def none {H : Type} : Left H := { results := [], args := [] }

/-- 'moultlaw12.TupleTells': WHATEVER THE INPUT: true; the input reads as it did. -/
def tupleTellsSpec : ChangeSpec := { name := "tupleTells", fn := fun _ => fun
  | [d1, d2, d3, d4, d5, d6, d7] => { results := [.lit (.bool true)], args := [d1, d2, d3, d4, d5, d6, d7] }
  | _ => none }
def tupleTellsRow : OpenClaim := { program := "ytbhnlmlaebngmaa", sum := "5dc353d0528c4fe193c6aa972dad9781541b85afe9237fe4c029d02fdf73b8a6", func := "moult/moultlaw12.TupleTells", spec := "tupleTells", unfollowed := true, recurses := true, apart := false }
def TupleTellsSaid : Prop := tupleTellsRow.holds Try.pinned (OpenSpec.ofChange tupleTellsSpec)

/-- ITS FALSE NEIGHBOUR: 'it returns false'. Refute it at one input. -/
def tupleTellsWrong : ChangeSpec := { name := "tupleTells", fn := fun _ => fun
  | [d1, d2, d3, d4, d5, d6, d7] => { results := [.lit (.bool false)], args := [d1, d2, d3, d4, d5, d6, d7] }
  | _ => none }
def TupleTellsWrongFalsely : Prop := tupleTellsRow.holds Try.pinned (OpenSpec.ofChange tupleTellsWrong)

/-- 'moultlaw12.TupleRight': WHATEVER THE INPUT: true; the input reads as it did. -/
def tupleRightSpec : ChangeSpec := { name := "tupleRight", fn := fun _ => fun
  | [d1, d2] => { results := [.lit (.bool true)], args := [d1, d2] }
  | _ => none }
def tupleRightRow : OpenClaim := { program := "ytbhnlmlaebngmaa", sum := "5dc353d0528c4fe193c6aa972dad9781541b85afe9237fe4c029d02fdf73b8a6", func := "moult/moultlaw12.TupleRight", spec := "tupleRight", unfollowed := true, recurses := true, apart := false }
def TupleRightSaid : Prop := tupleRightRow.holds Try.pinned (OpenSpec.ofChange tupleRightSpec)

/-- ITS FALSE NEIGHBOUR: 'it returns false'. Refute it at one input. -/
def tupleRightWrong : ChangeSpec := { name := "tupleRight", fn := fun _ => fun
  | [d1, d2] => { results := [.lit (.bool false)], args := [d1, d2] }
  | _ => none }
def TupleRightWrongFalsely : Prop := tupleRightRow.holds Try.pinned (OpenSpec.ofChange tupleRightWrong)

/-- 'moultlaw12.TupleSaves': WHATEVER THE INPUT: true; the input reads as it did. -/
def tupleSavesSpec : ChangeSpec := { name := "tupleSaves", fn := fun _ => fun
  | [d1, d2, d3] => { results := [.lit (.bool true)], args := [d1, d2, d3] }
  | _ => none }
def tupleSavesRow : OpenClaim := { program := "ytbhnlmlaebngmaa", sum := "5dc353d0528c4fe193c6aa972dad9781541b85afe9237fe4c029d02fdf73b8a6", func := "moult/moultlaw12.TupleSaves", spec := "tupleSaves", unfollowed := true, recurses := true, apart := false }
def TupleSavesSaid : Prop := tupleSavesRow.holds Try.pinned (OpenSpec.ofChange tupleSavesSpec)

/-- ITS FALSE NEIGHBOUR: 'it returns false'. Refute it at one input. -/
def tupleSavesWrong : ChangeSpec := { name := "tupleSaves", fn := fun _ => fun
  | [d1, d2, d3] => { results := [.lit (.bool false)], args := [d1, d2, d3] }
  | _ => none }
def TupleSavesWrongFalsely : Prop := tupleSavesRow.holds Try.pinned (OpenSpec.ofChange tupleSavesWrong)

/-- 'moultlaw12.TupleCuts': WHATEVER THE INPUT: true; the input reads as it did. -/
def tupleCutsSpec : ChangeSpec := { name := "tupleCuts", fn := fun _ => fun
  | [d1, d2] => { results := [.lit (.bool true)], args := [d1, d2] }
  | _ => none }
def tupleCutsRow : OpenClaim := { program := "ytbhnlmlaebngmaa", sum := "5dc353d0528c4fe193c6aa972dad9781541b85afe9237fe4c029d02fdf73b8a6", func := "moult/moultlaw12.TupleCuts", spec := "tupleCuts", unfollowed := true, recurses := true, apart := false }
def TupleCutsSaid : Prop := tupleCutsRow.holds Try.pinned (OpenSpec.ofChange tupleCutsSpec)

/-- ITS FALSE NEIGHBOUR: 'it returns false'. Refute it at one input. -/
def tupleCutsWrong : ChangeSpec := { name := "tupleCuts", fn := fun _ => fun
  | [d1, d2] => { results := [.lit (.bool false)], args := [d1, d2] }
  | _ => none }
def TupleCutsWrongFalsely : Prop := tupleCutsRow.holds Try.pinned (OpenSpec.ofChange tupleCutsWrong)

/-- 'moultlaw12.TupleInstalls': WHATEVER THE INPUT: true; the input reads as it did. -/
def tupleInstallsSpec : ChangeSpec := { name := "tupleInstalls", fn := fun _ => fun
  | [d1, d2] => { results := [.lit (.bool true)], args := [d1, d2] }
  | _ => none }
def tupleInstallsRow : OpenClaim := { program := "ytbhnlmlaebngmaa", sum := "5dc353d0528c4fe193c6aa972dad9781541b85afe9237fe4c029d02fdf73b8a6", func := "moult/moultlaw12.TupleInstalls", spec := "tupleInstalls", unfollowed := true, recurses := true, apart := false }
def TupleInstallsSaid : Prop := tupleInstallsRow.holds Try.pinned (OpenSpec.ofChange tupleInstallsSpec)

/-- ITS FALSE NEIGHBOUR: 'it returns false'. Refute it at one input. -/
def tupleInstallsWrong : ChangeSpec := { name := "tupleInstalls", fn := fun _ => fun
  | [d1, d2] => { results := [.lit (.bool false)], args := [d1, d2] }
  | _ => none }
def TupleInstallsWrongFalsely : Prop := tupleInstallsRow.holds Try.pinned (OpenSpec.ofChange tupleInstallsWrong)

/- THE SECOND FORM. 'bulk': how many values and letters a reading holds, each counted each time it is reached (what is shared counts as often as it is met; a slice's spare places count too). A statement '..UptoSaid' is the law's where the arguments, and the package variables that the reading takes, are together of bulk at most 1048576: NARROWER than '..Said'. Prove '..Said' where nothing that the law and all that it calls make is longer than what came in: it says more and counts as full. Else prove '..UptoSaid'. A law counts once. -/
mutual
def uptoBulk {H : Type} : DataW H → Nat
  | .lit (.string bytes) => bytes.length + 1
  | .lit _ => 1
  | .nil => 1
  | .ptr d => uptoBulk d + 1
  | .slice elems spare => uptoBulkAll elems + uptoBulkAll spare + 1
  | .agg parts => uptoBulkAll parts + 1
  | .iface _ d => uptoBulk d + 1
  | .map entries => uptoBulkEntries entries + 1
  | .held _ => 1
def uptoBulkAll {H : Type} : List (DataW H) → Nat
  | [] => 0
  | d :: r => uptoBulk d + uptoBulkAll r
def uptoBulkEntries {H : Type} : List (Lit × DataW H) → Nat
  | [] => 0
  | x :: r => uptoBulkEntry x + uptoBulkEntries r
def uptoBulkEntry {H : Type} : Lit × DataW H → Nat
  | (.string bytes, d) => bytes.length + uptoBulk d + 1
  | (_, d) => uptoBulk d + 1
 end
def uptoSmall : (H : Type) → List (DataW H) → Bool := fun _ ds => decide (uptoBulkAll ds ≤ 1048576)
def OpenSpec.upto (s : _root_.Go.ChangeSpec) : _root_.Go.OpenSpec := { _root_.Go.OpenSpec.ofChange s with cond := some uptoSmall }

/-- 'moultlaw12.TupleTells', WHERE WHAT IT READS IS OF BULK AT MOST 1048576: true; the input reads as it did. -/
def tupleTellsUptoRow : OpenClaim := { program := "ytbhnlmlaebngmaa", sum := "5dc353d0528c4fe193c6aa972dad9781541b85afe9237fe4c029d02fdf73b8a6", func := "moult/moultlaw12.TupleTells", spec := "tupleTells", unfollowed := true, recurses := true, apart := false, narrowed := true }
def TupleTellsUptoSaid : Prop := tupleTellsUptoRow.holds Try.pinned (OpenSpec.upto tupleTellsSpec)

/-- 'moultlaw12.TupleRight', WHERE WHAT IT READS IS OF BULK AT MOST 1048576: true; the input reads as it did. -/
def tupleRightUptoRow : OpenClaim := { program := "ytbhnlmlaebngmaa", sum := "5dc353d0528c4fe193c6aa972dad9781541b85afe9237fe4c029d02fdf73b8a6", func := "moult/moultlaw12.TupleRight", spec := "tupleRight", unfollowed := true, recurses := true, apart := false, narrowed := true }
def TupleRightUptoSaid : Prop := tupleRightUptoRow.holds Try.pinned (OpenSpec.upto tupleRightSpec)

/-- 'moultlaw12.TupleSaves', WHERE WHAT IT READS IS OF BULK AT MOST 1048576: true; the input reads as it did. -/
def tupleSavesUptoRow : OpenClaim := { program := "ytbhnlmlaebngmaa", sum := "5dc353d0528c4fe193c6aa972dad9781541b85afe9237fe4c029d02fdf73b8a6", func := "moult/moultlaw12.TupleSaves", spec := "tupleSaves", unfollowed := true, recurses := true, apart := false, narrowed := true }
def TupleSavesUptoSaid : Prop := tupleSavesUptoRow.holds Try.pinned (OpenSpec.upto tupleSavesSpec)

/-- 'moultlaw12.TupleCuts', WHERE WHAT IT READS IS OF BULK AT MOST 1048576: true; the input reads as it did. -/
def tupleCutsUptoRow : OpenClaim := { program := "ytbhnlmlaebngmaa", sum := "5dc353d0528c4fe193c6aa972dad9781541b85afe9237fe4c029d02fdf73b8a6", func := "moult/moultlaw12.TupleCuts", spec := "tupleCuts", unfollowed := true, recurses := true, apart := false, narrowed := true }
def TupleCutsUptoSaid : Prop := tupleCutsUptoRow.holds Try.pinned (OpenSpec.upto tupleCutsSpec)

/-- 'moultlaw12.TupleInstalls', WHERE WHAT IT READS IS OF BULK AT MOST 1048576: true; the input reads as it did. -/
def tupleInstallsUptoRow : OpenClaim := { program := "ytbhnlmlaebngmaa", sum := "5dc353d0528c4fe193c6aa972dad9781541b85afe9237fe4c029d02fdf73b8a6", func := "moult/moultlaw12.TupleInstalls", spec := "tupleInstalls", unfollowed := true, recurses := true, apart := false, narrowed := true }
def TupleInstallsUptoSaid : Prop := tupleInstallsUptoRow.holds Try.pinned (OpenSpec.upto tupleInstallsSpec)

end Rows
end Go.Proofs.Ytbhnlmlaebngmaa
