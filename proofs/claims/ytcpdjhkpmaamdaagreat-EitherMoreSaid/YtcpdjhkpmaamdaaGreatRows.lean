/-
  No cell of these rows narrows 'for every input' (looked for: loops, veiled, ifaces, maps, wideKeys, modest, calm, conditions, laid).
  DERIVED. THE GIVEN ROWS OF THIS SEAT. 4 by the template 'for every input the law returns true; each argument reads behind the call as it read before'; 0 by the template 'total and deterministic' (their statements: YtcpdjhkpmaamdaaGreatTotals.lean).
  GIVEN WITH THE SEED: the statements are not yours to turn. If you find one false, say at which input.
  Laid BY PROGRAM, IN A SANDBOX (cutbox-rows.mjs): the forced cells as the released guide's own fill.sh prints them over the translation 1c818709aa028c49… (all of the seat's roots in one cut). By AI agents, Wed Nov 11 2026. No macro, syntax, notation, axiom, sorry.
-/
import Derived.Test.YtcpdjhkpmaamdaaGreatChecked
import GoSem.Claim
import GoSem.ClaimJoined
import GoSem.ClaimMapViews
import Derived.JoinedTies
import Derived.KernelRfl
namespace Go.Proofs.YtcpdjhkpmaamdaaGreat
/- THE CELL 'sum', in the pinned program and in every row, IS THE sha256 OF THE DUMP (.gsa) THAT YtcpdjhkpmaamdaaGreatProg.lean LOADS. Nothing in Lean hashes anything: it is a label: what it is worth is what the hold of that sum in a sandbox is worth. -/
noncomputable def Tryz.pinned : Pinned := { name := "ytcpdjhkpmaamdaagreat", sum := "1c818709aa028c4965e41029f87575b3aa1dfb6635d7d319c4834fe7b5d92e07", checked := Tryz.checked }
namespace Rows
def none {H : Type} : Left H := { results := [], args := [] }

/-- 'moultlaw10.EitherTells': WHATEVER THE INPUT: true; the input reads as it did. -/
def eitherTellsSpec : ChangeSpec := { name := "eitherTells", fn := fun _ => fun
  | [d1, d2, d3, d4, d5, d6] => { results := [.lit (.bool true)], args := [d1, d2, d3, d4, d5, d6] }
  | _ => none }
def eitherTellsRow : OpenClaim := { program := "ytcpdjhkpmaamdaagreat", sum := "1c818709aa028c4965e41029f87575b3aa1dfb6635d7d319c4834fe7b5d92e07", func := "moult/moultlaw10.EitherTells", spec := "eitherTells", unfollowed := true, recurses := true, apart := false }
def EitherTellsSaid : Prop := eitherTellsRow.holds Tryz.pinned (OpenSpec.ofChange eitherTellsSpec)

/-- ITS FALSE NEIGHBOUR: 'it returns false'. Refute it at one input. -/
def eitherTellsWrong : ChangeSpec := { name := "eitherTells", fn := fun _ => fun
  | [d1, d2, d3, d4, d5, d6] => { results := [.lit (.bool false)], args := [d1, d2, d3, d4, d5, d6] }
  | _ => none }
def EitherTellsWrongFalsely : Prop := eitherTellsRow.holds Tryz.pinned (OpenSpec.ofChange eitherTellsWrong)

/-- 'moultlaw10.EitherTurns': WHATEVER THE INPUT: true; the input reads as it did. -/
def eitherTurnsSpec : ChangeSpec := { name := "eitherTurns", fn := fun _ => fun
  | [d1, d2, d3, d4] => { results := [.lit (.bool true)], args := [d1, d2, d3, d4] }
  | _ => none }
def eitherTurnsRow : OpenClaim := { program := "ytcpdjhkpmaamdaagreat", sum := "1c818709aa028c4965e41029f87575b3aa1dfb6635d7d319c4834fe7b5d92e07", func := "moult/moultlaw10.EitherTurns", spec := "eitherTurns", unfollowed := true, recurses := true, apart := false }
def EitherTurnsSaid : Prop := eitherTurnsRow.holds Tryz.pinned (OpenSpec.ofChange eitherTurnsSpec)

/-- ITS FALSE NEIGHBOUR: 'it returns false'. Refute it at one input. -/
def eitherTurnsWrong : ChangeSpec := { name := "eitherTurns", fn := fun _ => fun
  | [d1, d2, d3, d4] => { results := [.lit (.bool false)], args := [d1, d2, d3, d4] }
  | _ => none }
def EitherTurnsWrongFalsely : Prop := eitherTurnsRow.holds Tryz.pinned (OpenSpec.ofChange eitherTurnsWrong)

/-- 'moultlaw10.EitherMore': WHATEVER THE INPUT: true; the input reads as it did. -/
def eitherMoreSpec : ChangeSpec := { name := "eitherMore", fn := fun _ => fun
  | [d1, d2, d3] => { results := [.lit (.bool true)], args := [d1, d2, d3] }
  | _ => none }
def eitherMoreRow : OpenClaim := { program := "ytcpdjhkpmaamdaagreat", sum := "1c818709aa028c4965e41029f87575b3aa1dfb6635d7d319c4834fe7b5d92e07", func := "moult/moultlaw10.EitherMore", spec := "eitherMore", unfollowed := true, recurses := true, apart := false }
def EitherMoreSaid : Prop := eitherMoreRow.holds Tryz.pinned (OpenSpec.ofChange eitherMoreSpec)

/-- ITS FALSE NEIGHBOUR: 'it returns false'. Refute it at one input. -/
def eitherMoreWrong : ChangeSpec := { name := "eitherMore", fn := fun _ => fun
  | [d1, d2, d3] => { results := [.lit (.bool false)], args := [d1, d2, d3] }
  | _ => none }
def EitherMoreWrongFalsely : Prop := eitherMoreRow.holds Tryz.pinned (OpenSpec.ofChange eitherMoreWrong)

/-- 'moultlaw10.EitherTorn': WHATEVER THE INPUT: true; the input reads as it did. -/
def eitherTornSpec : ChangeSpec := { name := "eitherTorn", fn := fun _ => fun
  | [d1, d2, d3, d4] => { results := [.lit (.bool true)], args := [d1, d2, d3, d4] }
  | _ => none }
def eitherTornRow : OpenClaim := { program := "ytcpdjhkpmaamdaagreat", sum := "1c818709aa028c4965e41029f87575b3aa1dfb6635d7d319c4834fe7b5d92e07", func := "moult/moultlaw10.EitherTorn", spec := "eitherTorn", unfollowed := true, recurses := true, apart := false }
def EitherTornSaid : Prop := eitherTornRow.holds Tryz.pinned (OpenSpec.ofChange eitherTornSpec)

/-- ITS FALSE NEIGHBOUR: 'it returns false'. Refute it at one input. -/
def eitherTornWrong : ChangeSpec := { name := "eitherTorn", fn := fun _ => fun
  | [d1, d2, d3, d4] => { results := [.lit (.bool false)], args := [d1, d2, d3, d4] }
  | _ => none }
def EitherTornWrongFalsely : Prop := eitherTornRow.holds Tryz.pinned (OpenSpec.ofChange eitherTornWrong)

/- THE SECOND FORM. 'bulk': how many values and letters a reading holds, each counted each time it is reached (what is shared counts as often as it is met; a slice's spare places count too). A statement '..UptoSaid' is the law's where the arguments, and the package variables that the reading takes, are together of bulk at most 1048576: NARROWER than '..Said'. Prove '..Said' where nothing that the law and all that it calls make is longer than what came in: it says more and counts as full. Else prove '..UptoSaid'. A law counts once. -/
mutual
def uptoBulk {H : Type} : DataW H → Nat
  | .lit (.string bytes) => bytes.length + 1
  | .lit _ => 1
  | .nil => 1
  | .ptr d => uptoBulk d + 1
  | .slice elems spare => uptoBulkAll elems + uptoBulkAll spare + 1
  | .agg parts => uptoBulkAll parts + 1
  | .iface _ d => uptoBulk d + 1
  | .map entries => uptoBulkEntries entries + 1
  | .held _ => 1
def uptoBulkAll {H : Type} : List (DataW H) → Nat
  | [] => 0
  | d :: r => uptoBulk d + uptoBulkAll r
def uptoBulkEntries {H : Type} : List (Lit × DataW H) → Nat
  | [] => 0
  | x :: r => uptoBulkEntry x + uptoBulkEntries r
def uptoBulkEntry {H : Type} : Lit × DataW H → Nat
  | (.string bytes, d) => bytes.length + uptoBulk d + 1
  | (_, d) => uptoBulk d + 1
 end
def uptoSmall : (H : Type) → List (DataW H) → Bool := fun _ ds => decide (uptoBulkAll ds ≤ 1048576)
def OpenSpec.upto (s : _root_.Go.ChangeSpec) : _root_.Go.OpenSpec := { _root_.Go.OpenSpec.ofChange s with cond := some uptoSmall }

/-- 'moultlaw10.EitherTells', WHERE WHAT IT READS IS OF BULK AT MOST 1048576: true; the input reads as it did. -/
def eitherTellsUptoRow : OpenClaim := { program := "ytcpdjhkpmaamdaagreat", sum := "1c818709aa028c4965e41029f87575b3aa1dfb6635d7d319c4834fe7b5d92e07", func := "moult/moultlaw10.EitherTells", spec := "eitherTells", unfollowed := true, recurses := true, apart := false, narrowed := true }
def EitherTellsUptoSaid : Prop := eitherTellsUptoRow.holds Tryz.pinned (OpenSpec.upto eitherTellsSpec)

/-- 'moultlaw10.EitherTurns', WHERE WHAT IT READS IS OF BULK AT MOST 1048576: true; the input reads as it did. -/
def eitherTurnsUptoRow : OpenClaim := { program := "ytcpdjhkpmaamdaagreat", sum := "1c818709aa028c4965e41029f87575b3aa1dfb6635d7d319c4834fe7b5d92e07", func := "moult/moultlaw10.EitherTurns", spec := "eitherTurns", unfollowed := true, recurses := true, apart := false, narrowed := true }
def EitherTurnsUptoSaid : Prop := eitherTurnsUptoRow.holds Tryz.pinned (OpenSpec.upto eitherTurnsSpec)

/-- 'moultlaw10.EitherMore', WHERE WHAT IT READS IS OF BULK AT MOST 1048576: true; the input reads as it did. -/
def eitherMoreUptoRow : OpenClaim := { program := "ytcpdjhkpmaamdaagreat", sum := "1c818709aa028c4965e41029f87575b3aa1dfb6635d7d319c4834fe7b5d92e07", func := "moult/moultlaw10.EitherMore", spec := "eitherMore", unfollowed := true, recurses := true, apart := false, narrowed := true }
def EitherMoreUptoSaid : Prop := eitherMoreUptoRow.holds Tryz.pinned (OpenSpec.upto eitherMoreSpec)

/-- 'moultlaw10.EitherTorn', WHERE WHAT IT READS IS OF BULK AT MOST 1048576: true; the input reads as it did. -/
def eitherTornUptoRow : OpenClaim := { program := "ytcpdjhkpmaamdaagreat", sum := "1c818709aa028c4965e41029f87575b3aa1dfb6635d7d319c4834fe7b5d92e07", func := "moult/moultlaw10.EitherTorn", spec := "eitherTorn", unfollowed := true, recurses := true, apart := false, narrowed := true }
def EitherTornUptoSaid : Prop := eitherTornUptoRow.holds Tryz.pinned (OpenSpec.upto eitherTornSpec)

end Rows
end Go.Proofs.YtcpdjhkpmaamdaaGreat
