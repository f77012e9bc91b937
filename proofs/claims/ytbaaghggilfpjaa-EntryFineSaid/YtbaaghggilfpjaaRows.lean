/-
  No cell of these rows narrows 'for every input' (looked for: loops, veiled, ifaces, maps, wideKeys, modest, calm, conditions, laid).
  DERIVED. THE GIVEN ROWS OF THIS SEAT. 5 by the template 'for every input the law returns true; each argument reads behind the call as it read before'; 0 by the template 'total and deterministic' (their statements: YtbaaghggilfpjaaTotals.lean).
  GIVEN WITH THE SEED: the statements are not yours to turn. If you find one false, say at which input.
  Laid BY PROGRAM, IN A SANDBOX (cutbox-rows.mjs): the forced cells as the released guide's own fill.sh prints them over the translation 87762d74bbe1b050… (all of the seat's roots in one cut). By AI agents, Wed Nov 11 2026. No macro, syntax, notation, axiom, sorry.
-/
import Derived.Test.YtbaaghggilfpjaaChecked
import GoSem.Claim
import GoSem.ClaimJoined
import GoSem.ClaimMapViews
import Derived.JoinedTies
import Derived.KernelRfl
namespace Go.Proofs.Ytbaaghggilfpjaa
/- THE CELL 'sum', in the pinned program and in every row, IS THE sha256 OF THE DUMP (.gsa) THAT YtbaaghggilfpjaaProg.lean LOADS. Nothing in Lean hashes anything: it is a label: what it is worth is what the hold of that sum in a sandbox is worth. -/
noncomputable def Try.pinned : Pinned := { name := "ytbaaghggilfpjaa", sum := "87762d74bbe1b0502517217d4549a4d88687f4f5930fe9cf2620d72fae3728e5", checked := Try.checked }
namespace Rows
def none {H : Type} : Left H := { results := [], args := [] }

/-- 'moultlaw06.EntryTells': WHATEVER THE INPUT: true; the input reads as it did. -/
def entryTellsSpec : ChangeSpec := { name := "entryTells", fn := fun _ => fun
  | [d1, d2, d3, d4] => { results := [.lit (.bool true)], args := [d1, d2, d3, d4] }
  | _ => none }
def entryTellsRow : OpenClaim := { program := "ytbaaghggilfpjaa", sum := "87762d74bbe1b0502517217d4549a4d88687f4f5930fe9cf2620d72fae3728e5", func := "moult/moultlaw06.EntryTells", spec := "entryTells", unfollowed := true, recurses := true, apart := false }
def EntryTellsSaid : Prop := entryTellsRow.holds Try.pinned (OpenSpec.ofChange entryTellsSpec)

/-- ITS FALSE NEIGHBOUR: 'it returns false'. Refute it at one input. -/
def entryTellsWrong : ChangeSpec := { name := "entryTells", fn := fun _ => fun
  | [d1, d2, d3, d4] => { results := [.lit (.bool false)], args := [d1, d2, d3, d4] }
  | _ => none }
def EntryTellsWrongFalsely : Prop := entryTellsRow.holds Try.pinned (OpenSpec.ofChange entryTellsWrong)

/-- 'moultlaw06.EntryFine': WHATEVER THE INPUT: true; the input reads as it did. -/
def entryFineSpec : ChangeSpec := { name := "entryFine", fn := fun _ => fun
  | [d1, d2] => { results := [.lit (.bool true)], args := [d1, d2] }
  | _ => none }
def entryFineRow : OpenClaim := { program := "ytbaaghggilfpjaa", sum := "87762d74bbe1b0502517217d4549a4d88687f4f5930fe9cf2620d72fae3728e5", func := "moult/moultlaw06.EntryFine", spec := "entryFine", unfollowed := true, recurses := true, apart := false }
def EntryFineSaid : Prop := entryFineRow.holds Try.pinned (OpenSpec.ofChange entryFineSpec)

/-- ITS FALSE NEIGHBOUR: 'it returns false'. Refute it at one input. -/
def entryFineWrong : ChangeSpec := { name := "entryFine", fn := fun _ => fun
  | [d1, d2] => { results := [.lit (.bool false)], args := [d1, d2] }
  | _ => none }
def EntryFineWrongFalsely : Prop := entryFineRow.holds Try.pinned (OpenSpec.ofChange entryFineWrong)

/-- 'moultlaw06.EntryLevels': WHATEVER THE INPUT: true; the input reads as it did. -/
def entryLevelsSpec : ChangeSpec := { name := "entryLevels", fn := fun _ => fun
  | [d] => { results := [.lit (.bool true)], args := [d] }
  | _ => none }
def entryLevelsRow : OpenClaim := { program := "ytbaaghggilfpjaa", sum := "87762d74bbe1b0502517217d4549a4d88687f4f5930fe9cf2620d72fae3728e5", func := "moult/moultlaw06.EntryLevels", spec := "entryLevels", unfollowed := true, recurses := true, apart := false }
def EntryLevelsSaid : Prop := entryLevelsRow.holds Try.pinned (OpenSpec.ofChange entryLevelsSpec)

/-- ITS FALSE NEIGHBOUR: 'it returns false'. Refute it at one input. -/
def entryLevelsWrong : ChangeSpec := { name := "entryLevels", fn := fun _ => fun
  | [d] => { results := [.lit (.bool false)], args := [d] }
  | _ => none }
def EntryLevelsWrongFalsely : Prop := entryLevelsRow.holds Try.pinned (OpenSpec.ofChange entryLevelsWrong)

/-- 'moultlaw06.EntryParts': WHATEVER THE INPUT: true; the input reads as it did. -/
def entryPartsSpec : ChangeSpec := { name := "entryParts", fn := fun _ => fun
  | [d1, d2, d3, d4] => { results := [.lit (.bool true)], args := [d1, d2, d3, d4] }
  | _ => none }
def entryPartsRow : OpenClaim := { program := "ytbaaghggilfpjaa", sum := "87762d74bbe1b0502517217d4549a4d88687f4f5930fe9cf2620d72fae3728e5", func := "moult/moultlaw06.EntryParts", spec := "entryParts", unfollowed := true, recurses := true, apart := false }
def EntryPartsSaid : Prop := entryPartsRow.holds Try.pinned (OpenSpec.ofChange entryPartsSpec)

/-- ITS FALSE NEIGHBOUR: 'it returns false'. Refute it at one input. -/
def entryPartsWrong : ChangeSpec := { name := "entryParts", fn := fun _ => fun
  | [d1, d2, d3, d4] => { results := [.lit (.bool false)], args := [d1, d2, d3, d4] }
  | _ => none }
def EntryPartsWrongFalsely : Prop := entryPartsRow.holds Try.pinned (OpenSpec.ofChange entryPartsWrong)

/-- 'moultlaw06.EntrySums': WHATEVER THE INPUT: true; the input reads as it did. -/
def entrySumsSpec : ChangeSpec := { name := "entrySums", fn := fun _ => fun
  | [d1, d2, d3, d4] => { results := [.lit (.bool true)], args := [d1, d2, d3, d4] }
  | _ => none }
def entrySumsRow : OpenClaim := { program := "ytbaaghggilfpjaa", sum := "87762d74bbe1b0502517217d4549a4d88687f4f5930fe9cf2620d72fae3728e5", func := "moult/moultlaw06.EntrySums", spec := "entrySums", unfollowed := true, recurses := true, apart := false }
def EntrySumsSaid : Prop := entrySumsRow.holds Try.pinned (OpenSpec.ofChange entrySumsSpec)

/-- ITS FALSE NEIGHBOUR: 'it returns false'. Refute it at one input. -/
def entrySumsWrong : ChangeSpec := { name := "entrySums", fn := fun _ => fun
  | [d1, d2, d3, d4] => { results := [.lit (.bool false)], args := [d1, d2, d3, d4] }
  | _ => none }
def EntrySumsWrongFalsely : Prop := entrySumsRow.holds Try.pinned (OpenSpec.ofChange entrySumsWrong)

/- THE SECOND FORM. 'bulk': how many values and letters a reading holds, each counted each time it is reached (what is shared counts as often as it is met; a slice's spare places count too). A statement '..UptoSaid' is the law's where the arguments, and the package variables that the reading takes, are together of bulk at most 1048576: NARROWER than '..Said'. Prove '..Said' where nothing that the law and all that it calls make is longer than what came in: it says more and counts as full. Else prove '..UptoSaid'. A law counts once. -/
mutual
def uptoBulk {H : Type} : DataW H → Nat
  | .lit (.string bytes) => bytes.length + 1
  | .lit _ => 1
  | .nil => 1
  | .ptr d => uptoBulk d + 1
  | .slice elems spare => uptoBulkAll elems + uptoBulkAll spare + 1
  | .agg parts => uptoBulkAll parts + 1
  | .iface _ d => uptoBulk d + 1
  | .map entries => uptoBulkEntries entries + 1
  | .held _ => 1
def uptoBulkAll {H : Type} : List (DataW H) → Nat
  | [] => 0
  | d :: r => uptoBulk d + uptoBulkAll r
def uptoBulkEntries {H : Type} : List (Lit × DataW H) → Nat
  | [] => 0
  | x :: r => uptoBulkEntry x + uptoBulkEntries r
def uptoBulkEntry {H : Type} : Lit × DataW H → Nat
  | (.string bytes, d) => bytes.length + uptoBulk d + 1
  | (_, d) => uptoBulk d + 1
 end
def uptoSmall : (H : Type) → List (DataW H) → Bool := fun _ ds => decide (uptoBulkAll ds ≤ 1048576)
def OpenSpec.upto (s : _root_.Go.ChangeSpec) : _root_.Go.OpenSpec := { _root_.Go.OpenSpec.ofChange s with cond := some uptoSmall }

/-- 'moultlaw06.EntryTells', WHERE WHAT IT READS IS OF BULK AT MOST 1048576: true; the input reads as it did. -/
def entryTellsUptoRow : OpenClaim := { program := "ytbaaghggilfpjaa", sum := "87762d74bbe1b0502517217d4549a4d88687f4f5930fe9cf2620d72fae3728e5", func := "moult/moultlaw06.EntryTells", spec := "entryTells", unfollowed := true, recurses := true, apart := false, narrowed := true }
def EntryTellsUptoSaid : Prop := entryTellsUptoRow.holds Try.pinned (OpenSpec.upto entryTellsSpec)

/-- 'moultlaw06.EntryFine', WHERE WHAT IT READS IS OF BULK AT MOST 1048576: true; the input reads as it did. -/
def entryFineUptoRow : OpenClaim := { program := "ytbaaghggilfpjaa", sum := "87762d74bbe1b0502517217d4549a4d88687f4f5930fe9cf2620d72fae3728e5", func := "moult/moultlaw06.EntryFine", spec := "entryFine", unfollowed := true, recurses := true, apart := false, narrowed := true }
def EntryFineUptoSaid : Prop := entryFineUptoRow.holds Try.pinned (OpenSpec.upto entryFineSpec)

/-- 'moultlaw06.EntryLevels', WHERE WHAT IT READS IS OF BULK AT MOST 1048576: true; the input reads as it did. -/
def entryLevelsUptoRow : OpenClaim := { program := "ytbaaghggilfpjaa", sum := "87762d74bbe1b0502517217d4549a4d88687f4f5930fe9cf2620d72fae3728e5", func := "moult/moultlaw06.EntryLevels", spec := "entryLevels", unfollowed := true, recurses := true, apart := false, narrowed := true }
def EntryLevelsUptoSaid : Prop := entryLevelsUptoRow.holds Try.pinned (OpenSpec.upto entryLevelsSpec)

/-- 'moultlaw06.EntryParts', WHERE WHAT IT READS IS OF BULK AT MOST 1048576: true; the input reads as it did. -/
def entryPartsUptoRow : OpenClaim := { program := "ytbaaghggilfpjaa", sum := "87762d74bbe1b0502517217d4549a4d88687f4f5930fe9cf2620d72fae3728e5", func := "moult/moultlaw06.EntryParts", spec := "entryParts", unfollowed := true, recurses := true, apart := false, narrowed := true }
def EntryPartsUptoSaid : Prop := entryPartsUptoRow.holds Try.pinned (OpenSpec.upto entryPartsSpec)

/-- 'moultlaw06.EntrySums', WHERE WHAT IT READS IS OF BULK AT MOST 1048576: true; the input reads as it did. -/
def entrySumsUptoRow : OpenClaim := { program := "ytbaaghggilfpjaa", sum := "87762d74bbe1b0502517217d4549a4d88687f4f5930fe9cf2620d72fae3728e5", func := "moult/moultlaw06.EntrySums", spec := "entrySums", unfollowed := true, recurses := true, apart := false, narrowed := true }
def EntrySumsUptoSaid : Prop := entrySumsUptoRow.holds Try.pinned (OpenSpec.upto entrySumsSpec)

end Rows
end Go.Proofs.Ytbaaghggilfpjaa
