/-
  NARROWER THAN 'FOR EVERY INPUT', by the rows' own cells (each row's printed sentence says how): SnapTells: laid · SnapBack: laid · SnapHarm: laid · SnapOnly: laid · SnapPieces: laid.
  DERIVED. THE GIVEN ROWS OF THIS SEAT. 5 by the template 'for every input the law returns true; each argument reads behind the call as it read before'; 0 by the template 'total and deterministic' (their statements: YtdggacabjlengaaDoorTotals.lean).
  GIVEN WITH THE SEED: the statements are not yours to turn. If you find one false, say at which input.
  Laid BY PROGRAM, IN A SANDBOX (cutbox-rows.mjs): the forced cells as the released guide's own fill.sh prints them over the translation 093a9534a157ce1f… (all of the seat's roots in one cut). By AI agents, Wed Nov 11 2026. No macro, syntax, notation, axiom, sorry.
-/
import Derived.Test.YtdggacabjlengaaDoorChecked
import GoSem.Claim
import GoSem.ClaimJoined
import GoSem.ClaimMapViews
import Derived.JoinedTies
import Derived.KernelRfl
namespace Go.Proofs.YtdggacabjlengaaDoor
/- THE CELL 'sum', in the pinned program and in every row, IS THE sha256 OF THE DUMP (.gsa) THAT YtdggacabjlengaaDoorProg.lean LOADS. Nothing in Lean hashes anything: it is a label: what it is worth is what the hold of that sum in a sandbox is worth. -/
noncomputable def Tryd.pinned : Pinned := { name := "ytdggacabjlengaadoor", sum := "093a9534a157ce1f28cf781c4f789478a0474cc860528f5c134bb3e8f31f9ae4", checked := Tryd.checked }
namespace Rows
def none {H : Type} : Left H := { results := [], args := [] }

/- WHAT THE LISTED PACKAGE-LEVEL VARIABLES READ AS WHEN THE CALL BEGINS. Each datum BY PROGRAM (the guide's laid-datum.mjs) off the statement by which the dump's own 'gosem.cut.vars' lays the variable. In a bare row this is a premise. The card (YtdggacabjlengaaDoorCards.lean) ties it to the program's text. -/
def laid_moult_crc_rows {H : Type} : DataW H := .agg [.lit (.int .u32 0), .lit (.int .u32 274646895), .lit (.int .u32 549293790), .lit (.int .u32 820201905), .lit (.int .u32 1098587580), .lit (.int .u32 1361435347), .lit (.int .u32 1640403810), .lit (.int .u32 1905808397), .lit (.int .u32 2197175160), .lit (.int .u32 2460548119), .lit (.int .u32 2722870694), .lit (.int .u32 2987750089), .lit (.int .u32 3280807620), .lit (.int .u32 3553878443), .lit (.int .u32 3811616794), .lit (.int .u32 4084100981)]

/-- 'moultlaw09.SnapTells': WHATEVER THE INPUT: true; the input reads as it did. -/
def snapTellsSpec : ChangeSpec := { name := "snapTells", fn := fun _ => fun
  | [d1, d2, d3, d4] => { results := [.lit (.bool true)], args := [d1, d2, d3, d4] }
  | _ => none }
def snapTellsRow : OpenClaim := { program := "ytdggacabjlengaadoor", sum := "093a9534a157ce1f28cf781c4f789478a0474cc860528f5c134bb3e8f31f9ae4", func := "moult/moultlaw09.SnapTells", spec := "snapTells", unfollowed := true, recurses := true, named := ["moult/crc.rows"], apart := false, laid := [("moult/crc.rows", laid_moult_crc_rows)] }
def SnapTellsSaid : Prop := snapTellsRow.holds Tryd.pinned (OpenSpec.ofChange snapTellsSpec)

/-- ITS FALSE NEIGHBOUR: 'it returns false'. Refute it at one input. -/
def snapTellsWrong : ChangeSpec := { name := "snapTells", fn := fun _ => fun
  | [d1, d2, d3, d4] => { results := [.lit (.bool false)], args := [d1, d2, d3, d4] }
  | _ => none }
def SnapTellsWrongFalsely : Prop := snapTellsRow.holds Tryd.pinned (OpenSpec.ofChange snapTellsWrong)

/-- 'moultlaw09.SnapBack': WHATEVER THE INPUT: true; the input reads as it did. -/
def snapBackSpec : ChangeSpec := { name := "snapBack", fn := fun _ => fun
  | [d1, d2, d3] => { results := [.lit (.bool true)], args := [d1, d2, d3] }
  | _ => none }
def snapBackRow : OpenClaim := { program := "ytdggacabjlengaadoor", sum := "093a9534a157ce1f28cf781c4f789478a0474cc860528f5c134bb3e8f31f9ae4", func := "moult/moultlaw09.SnapBack", spec := "snapBack", unfollowed := true, recurses := true, named := ["moult/crc.rows"], apart := false, laid := [("moult/crc.rows", laid_moult_crc_rows)] }
def SnapBackSaid : Prop := snapBackRow.holds Tryd.pinned (OpenSpec.ofChange snapBackSpec)

/-- ITS FALSE NEIGHBOUR: 'it returns false'. Refute it at one input. -/
def snapBackWrong : ChangeSpec := { name := "snapBack", fn := fun _ => fun
  | [d1, d2, d3] => { results := [.lit (.bool false)], args := [d1, d2, d3] }
  | _ => none }
def SnapBackWrongFalsely : Prop := snapBackRow.holds Tryd.pinned (OpenSpec.ofChange snapBackWrong)

/-- 'moultlaw09.SnapHarm': WHATEVER THE INPUT: true; the input reads as it did. -/
def snapHarmSpec : ChangeSpec := { name := "snapHarm", fn := fun _ => fun
  | [d1, d2, d3, d4] => { results := [.lit (.bool true)], args := [d1, d2, d3, d4] }
  | _ => none }
def snapHarmRow : OpenClaim := { program := "ytdggacabjlengaadoor", sum := "093a9534a157ce1f28cf781c4f789478a0474cc860528f5c134bb3e8f31f9ae4", func := "moult/moultlaw09.SnapHarm", spec := "snapHarm", unfollowed := true, recurses := true, named := ["moult/crc.rows"], apart := false, laid := [("moult/crc.rows", laid_moult_crc_rows)] }
def SnapHarmSaid : Prop := snapHarmRow.holds Tryd.pinned (OpenSpec.ofChange snapHarmSpec)

/-- ITS FALSE NEIGHBOUR: 'it returns false'. Refute it at one input. -/
def snapHarmWrong : ChangeSpec := { name := "snapHarm", fn := fun _ => fun
  | [d1, d2, d3, d4] => { results := [.lit (.bool false)], args := [d1, d2, d3, d4] }
  | _ => none }
def SnapHarmWrongFalsely : Prop := snapHarmRow.holds Tryd.pinned (OpenSpec.ofChange snapHarmWrong)

/-- 'moultlaw09.SnapOnly': WHATEVER THE INPUT: true; the input reads as it did. -/
def snapOnlySpec : ChangeSpec := { name := "snapOnly", fn := fun _ => fun
  | [d1, d2] => { results := [.lit (.bool true)], args := [d1, d2] }
  | _ => none }
def snapOnlyRow : OpenClaim := { program := "ytdggacabjlengaadoor", sum := "093a9534a157ce1f28cf781c4f789478a0474cc860528f5c134bb3e8f31f9ae4", func := "moult/moultlaw09.SnapOnly", spec := "snapOnly", unfollowed := true, recurses := true, named := ["moult/crc.rows"], apart := false, laid := [("moult/crc.rows", laid_moult_crc_rows)] }
def SnapOnlySaid : Prop := snapOnlyRow.holds Tryd.pinned (OpenSpec.ofChange snapOnlySpec)

/-- ITS FALSE NEIGHBOUR: 'it returns false'. Refute it at one input. -/
def snapOnlyWrong : ChangeSpec := { name := "snapOnly", fn := fun _ => fun
  | [d1, d2] => { results := [.lit (.bool false)], args := [d1, d2] }
  | _ => none }
def SnapOnlyWrongFalsely : Prop := snapOnlyRow.holds Tryd.pinned (OpenSpec.ofChange snapOnlyWrong)

/-- 'moultlaw09.SnapPieces': WHATEVER THE INPUT: true; the input reads as it did. -/
def snapPiecesSpec : ChangeSpec := { name := "snapPieces", fn := fun _ => fun
  | [d1, d2] => { results := [.lit (.bool true)], args := [d1, d2] }
  | _ => none }
def snapPiecesRow : OpenClaim := { program := "ytdggacabjlengaadoor", sum := "093a9534a157ce1f28cf781c4f789478a0474cc860528f5c134bb3e8f31f9ae4", func := "moult/moultlaw09.SnapPieces", spec := "snapPieces", unfollowed := true, recurses := true, named := ["moult/crc.rows"], apart := false, laid := [("moult/crc.rows", laid_moult_crc_rows)] }
def SnapPiecesSaid : Prop := snapPiecesRow.holds Tryd.pinned (OpenSpec.ofChange snapPiecesSpec)

/-- ITS FALSE NEIGHBOUR: 'it returns false'. Refute it at one input. -/
def snapPiecesWrong : ChangeSpec := { name := "snapPieces", fn := fun _ => fun
  | [d1, d2] => { results := [.lit (.bool false)], args := [d1, d2] }
  | _ => none }
def SnapPiecesWrongFalsely : Prop := snapPiecesRow.holds Tryd.pinned (OpenSpec.ofChange snapPiecesWrong)

/- THE SECOND FORM. 'bulk': how many values and letters a reading holds, each counted each time it is reached (what is shared counts as often as it is met; a slice's spare places count too). A statement '..UptoSaid' is the law's where the arguments, and the package variables that the reading takes, are together of bulk at most 1048576: NARROWER than '..Said'. Prove '..Said' where nothing that the law and all that it calls make is longer than what came in: it says more and counts as full. Else prove '..UptoSaid'. A law counts once. -/
mutual
def uptoBulk {H : Type} : DataW H → Nat
  | .lit (.string bytes) => bytes.length + 1
  | .lit _ => 1
  | .nil => 1
  | .ptr d => uptoBulk d + 1
  | .slice elems spare => uptoBulkAll elems + uptoBulkAll spare + 1
  | .agg parts => uptoBulkAll parts + 1
  | .iface _ d => uptoBulk d + 1
  | .map entries => uptoBulkEntries entries + 1
  | .held _ => 1
def uptoBulkAll {H : Type} : List (DataW H) → Nat
  | [] => 0
  | d :: r => uptoBulk d + uptoBulkAll r
def uptoBulkEntries {H : Type} : List (Lit × DataW H) → Nat
  | [] => 0
  | x :: r => uptoBulkEntry x + uptoBulkEntries r
def uptoBulkEntry {H : Type} : Lit × DataW H → Nat
  | (.string bytes, d) => bytes.length + uptoBulk d + 1
  | (_, d) => uptoBulk d + 1
 end
def uptoSmall : (H : Type) → List (DataW H) → Bool := fun _ ds => decide (uptoBulkAll ds ≤ 1048576)
def OpenSpec.upto (s : _root_.Go.ChangeSpec) : _root_.Go.OpenSpec := { _root_.Go.OpenSpec.ofChange s with cond := some uptoSmall }

/-- 'moultlaw09.SnapTells', WHERE WHAT IT READS IS OF BULK AT MOST 1048576: true; the input reads as it did. -/
def snapTellsUptoRow : OpenClaim := { program := "ytdggacabjlengaadoor", sum := "093a9534a157ce1f28cf781c4f789478a0474cc860528f5c134bb3e8f31f9ae4", func := "moult/moultlaw09.SnapTells", spec := "snapTells", unfollowed := true, recurses := true, named := ["moult/crc.rows"], apart := false, laid := [("moult/crc.rows", laid_moult_crc_rows)], narrowed := true }
def SnapTellsUptoSaid : Prop := snapTellsUptoRow.holds Tryd.pinned (OpenSpec.upto snapTellsSpec)

/-- 'moultlaw09.SnapBack', WHERE WHAT IT READS IS OF BULK AT MOST 1048576: true; the input reads as it did. -/
def snapBackUptoRow : OpenClaim := { program := "ytdggacabjlengaadoor", sum := "093a9534a157ce1f28cf781c4f789478a0474cc860528f5c134bb3e8f31f9ae4", func := "moult/moultlaw09.SnapBack", spec := "snapBack", unfollowed := true, recurses := true, named := ["moult/crc.rows"], apart := false, laid := [("moult/crc.rows", laid_moult_crc_rows)], narrowed := true }
def SnapBackUptoSaid : Prop := snapBackUptoRow.holds Tryd.pinned (OpenSpec.upto snapBackSpec)

/-- 'moultlaw09.SnapHarm', WHERE WHAT IT READS IS OF BULK AT MOST 1048576: true; the input reads as it did. -/
def snapHarmUptoRow : OpenClaim := { program := "ytdggacabjlengaadoor", sum := "093a9534a157ce1f28cf781c4f789478a0474cc860528f5c134bb3e8f31f9ae4", func := "moult/moultlaw09.SnapHarm", spec := "snapHarm", unfollowed := true, recurses := true, named := ["moult/crc.rows"], apart := false, laid := [("moult/crc.rows", laid_moult_crc_rows)], narrowed := true }
def SnapHarmUptoSaid : Prop := snapHarmUptoRow.holds Tryd.pinned (OpenSpec.upto snapHarmSpec)

/-- 'moultlaw09.SnapOnly', WHERE WHAT IT READS IS OF BULK AT MOST 1048576: true; the input reads as it did. -/
def snapOnlyUptoRow : OpenClaim := { program := "ytdggacabjlengaadoor", sum := "093a9534a157ce1f28cf781c4f789478a0474cc860528f5c134bb3e8f31f9ae4", func := "moult/moultlaw09.SnapOnly", spec := "snapOnly", unfollowed := true, recurses := true, named := ["moult/crc.rows"], apart := false, laid := [("moult/crc.rows", laid_moult_crc_rows)], narrowed := true }
def SnapOnlyUptoSaid : Prop := snapOnlyUptoRow.holds Tryd.pinned (OpenSpec.upto snapOnlySpec)

/-- 'moultlaw09.SnapPieces', WHERE WHAT IT READS IS OF BULK AT MOST 1048576: true; the input reads as it did. -/
def snapPiecesUptoRow : OpenClaim := { program := "ytdggacabjlengaadoor", sum := "093a9534a157ce1f28cf781c4f789478a0474cc860528f5c134bb3e8f31f9ae4", func := "moult/moultlaw09.SnapPieces", spec := "snapPieces", unfollowed := true, recurses := true, named := ["moult/crc.rows"], apart := false, laid := [("moult/crc.rows", laid_moult_crc_rows)], narrowed := true }
def SnapPiecesUptoSaid : Prop := snapPiecesUptoRow.holds Tryd.pinned (OpenSpec.upto snapPiecesSpec)

end Rows
end Go.Proofs.YtdggacabjlengaaDoor
