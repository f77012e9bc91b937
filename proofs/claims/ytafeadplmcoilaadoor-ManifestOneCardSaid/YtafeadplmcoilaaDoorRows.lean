/-
  NARROWER THAN 'FOR EVERY INPUT', by the rows' own cells (each row's printed sentence says how): ManifestTells: laid · ManifestBack: laid · ManifestOnly: laid · ManifestNames: laid · ManifestOne: laid.
  DERIVED. THE GIVEN ROWS OF THIS SEAT. 5 by the template 'for every input the law returns true; each argument reads behind the call as it read before'; 0 by the template 'total and deterministic' (their statements: YtafeadplmcoilaaDoorTotals.lean).
  GIVEN WITH THE SEED: the statements are not yours to turn. If you find one false, say at which input.
  Laid BY PROGRAM, IN A SANDBOX (cutbox-rows.mjs): the forced cells as the released guide's own fill.sh prints them over the translation 817bba1dd30f7e4d… (all of the seat's roots in one cut). By AI agents, Wed Nov 11 2026. No macro, syntax, notation, axiom, sorry.
-/
import Derived.Test.YtafeadplmcoilaaDoorChecked
import GoSem.Claim
import GoSem.ClaimJoined
import GoSem.ClaimMapViews
import Derived.JoinedTies
import Derived.KernelRfl
namespace Go.Proofs.YtafeadplmcoilaaDoor
/- THE CELL 'sum', in the pinned program and in every row, IS THE sha256 OF THE DUMP (.gsa) THAT YtafeadplmcoilaaDoorProg.lean LOADS. Nothing in Lean hashes anything: it is a label: what it is worth is what the hold of that sum in a sandbox is worth. -/
noncomputable def Tryd.pinned : Pinned := { name := "ytafeadplmcoilaadoor", sum := "817bba1dd30f7e4d438d14421730c1f584331aec68d141756c791147d3eb238a", checked := Tryd.checked }
namespace Rows
def none {H : Type} : Left H := { results := [], args := [] }

/- WHAT THE LISTED PACKAGE-LEVEL VARIABLES READ AS WHEN THE CALL BEGINS. Each datum BY PROGRAM (the guide's laid-datum.mjs) off the statement by which the dump's own 'gosem.cut.vars' lays the variable. In a bare row this is a premise. The card (YtafeadplmcoilaaDoorCards.lean) ties it to the program's text. -/
def laid_moult_crc_rows {H : Type} : DataW H := .agg [.lit (.int .u32 0), .lit (.int .u32 274646895), .lit (.int .u32 549293790), .lit (.int .u32 820201905), .lit (.int .u32 1098587580), .lit (.int .u32 1361435347), .lit (.int .u32 1640403810), .lit (.int .u32 1905808397), .lit (.int .u32 2197175160), .lit (.int .u32 2460548119), .lit (.int .u32 2722870694), .lit (.int .u32 2987750089), .lit (.int .u32 3280807620), .lit (.int .u32 3553878443), .lit (.int .u32 3811616794), .lit (.int .u32 4084100981)]

/-- 'moultlaw11.ManifestTells': WHATEVER THE INPUT: true; the input reads as it did. -/
def manifestTellsSpec : ChangeSpec := { name := "manifestTells", fn := fun _ => fun
  | [d1, d2, d3] => { results := [.lit (.bool true)], args := [d1, d2, d3] }
  | _ => none }
def manifestTellsRow : OpenClaim := { program := "ytafeadplmcoilaadoor", sum := "817bba1dd30f7e4d438d14421730c1f584331aec68d141756c791147d3eb238a", func := "moult/moultlaw11.ManifestTells", spec := "manifestTells", unfollowed := true, recurses := true, named := ["moult/crc.rows"], apart := false, laid := [("moult/crc.rows", laid_moult_crc_rows)] }
def ManifestTellsSaid : Prop := manifestTellsRow.holds Tryd.pinned (OpenSpec.ofChange manifestTellsSpec)

/-- ITS FALSE NEIGHBOUR: 'it returns false'. Refute it at one input. -/
def manifestTellsWrong : ChangeSpec := { name := "manifestTells", fn := fun _ => fun
  | [d1, d2, d3] => { results := [.lit (.bool false)], args := [d1, d2, d3] }
  | _ => none }
def ManifestTellsWrongFalsely : Prop := manifestTellsRow.holds Tryd.pinned (OpenSpec.ofChange manifestTellsWrong)

/-- 'moultlaw11.ManifestBack': WHATEVER THE INPUT: true; the input reads as it did. -/
def manifestBackSpec : ChangeSpec := { name := "manifestBack", fn := fun _ => fun
  | [d1, d2, d3] => { results := [.lit (.bool true)], args := [d1, d2, d3] }
  | _ => none }
def manifestBackRow : OpenClaim := { program := "ytafeadplmcoilaadoor", sum := "817bba1dd30f7e4d438d14421730c1f584331aec68d141756c791147d3eb238a", func := "moult/moultlaw11.ManifestBack", spec := "manifestBack", unfollowed := true, recurses := true, named := ["moult/crc.rows"], apart := false, laid := [("moult/crc.rows", laid_moult_crc_rows)] }
def ManifestBackSaid : Prop := manifestBackRow.holds Tryd.pinned (OpenSpec.ofChange manifestBackSpec)

/-- ITS FALSE NEIGHBOUR: 'it returns false'. Refute it at one input. -/
def manifestBackWrong : ChangeSpec := { name := "manifestBack", fn := fun _ => fun
  | [d1, d2, d3] => { results := [.lit (.bool false)], args := [d1, d2, d3] }
  | _ => none }
def ManifestBackWrongFalsely : Prop := manifestBackRow.holds Tryd.pinned (OpenSpec.ofChange manifestBackWrong)

/-- 'moultlaw11.ManifestOnly': WHATEVER THE INPUT: true; the input reads as it did. -/
def manifestOnlySpec : ChangeSpec := { name := "manifestOnly", fn := fun _ => fun
  | [d] => { results := [.lit (.bool true)], args := [d] }
  | _ => none }
def manifestOnlyRow : OpenClaim := { program := "ytafeadplmcoilaadoor", sum := "817bba1dd30f7e4d438d14421730c1f584331aec68d141756c791147d3eb238a", func := "moult/moultlaw11.ManifestOnly", spec := "manifestOnly", unfollowed := true, recurses := true, named := ["moult/crc.rows"], apart := false, laid := [("moult/crc.rows", laid_moult_crc_rows)] }
def ManifestOnlySaid : Prop := manifestOnlyRow.holds Tryd.pinned (OpenSpec.ofChange manifestOnlySpec)

/-- ITS FALSE NEIGHBOUR: 'it returns false'. Refute it at one input. -/
def manifestOnlyWrong : ChangeSpec := { name := "manifestOnly", fn := fun _ => fun
  | [d] => { results := [.lit (.bool false)], args := [d] }
  | _ => none }
def ManifestOnlyWrongFalsely : Prop := manifestOnlyRow.holds Tryd.pinned (OpenSpec.ofChange manifestOnlyWrong)

/-- 'moultlaw11.ManifestNames': WHATEVER THE INPUT: true; the input reads as it did. -/
def manifestNamesSpec : ChangeSpec := { name := "manifestNames", fn := fun _ => fun
  | [d] => { results := [.lit (.bool true)], args := [d] }
  | _ => none }
def manifestNamesRow : OpenClaim := { program := "ytafeadplmcoilaadoor", sum := "817bba1dd30f7e4d438d14421730c1f584331aec68d141756c791147d3eb238a", func := "moult/moultlaw11.ManifestNames", spec := "manifestNames", unfollowed := true, recurses := true, named := ["moult/crc.rows"], apart := false, laid := [("moult/crc.rows", laid_moult_crc_rows)] }
def ManifestNamesSaid : Prop := manifestNamesRow.holds Tryd.pinned (OpenSpec.ofChange manifestNamesSpec)

/-- ITS FALSE NEIGHBOUR: 'it returns false'. Refute it at one input. -/
def manifestNamesWrong : ChangeSpec := { name := "manifestNames", fn := fun _ => fun
  | [d] => { results := [.lit (.bool false)], args := [d] }
  | _ => none }
def ManifestNamesWrongFalsely : Prop := manifestNamesRow.holds Tryd.pinned (OpenSpec.ofChange manifestNamesWrong)

/-- 'moultlaw11.ManifestOne': WHATEVER THE INPUT: true; the input reads as it did. -/
def manifestOneSpec : ChangeSpec := { name := "manifestOne", fn := fun _ => fun
  | [d1, d2, d3] => { results := [.lit (.bool true)], args := [d1, d2, d3] }
  | _ => none }
def manifestOneRow : OpenClaim := { program := "ytafeadplmcoilaadoor", sum := "817bba1dd30f7e4d438d14421730c1f584331aec68d141756c791147d3eb238a", func := "moult/moultlaw11.ManifestOne", spec := "manifestOne", unfollowed := true, recurses := true, named := ["moult/crc.rows"], apart := false, laid := [("moult/crc.rows", laid_moult_crc_rows)] }
def ManifestOneSaid : Prop := manifestOneRow.holds Tryd.pinned (OpenSpec.ofChange manifestOneSpec)

/-- ITS FALSE NEIGHBOUR: 'it returns false'. Refute it at one input. -/
def manifestOneWrong : ChangeSpec := { name := "manifestOne", fn := fun _ => fun
  | [d1, d2, d3] => { results := [.lit (.bool false)], args := [d1, d2, d3] }
  | _ => none }
def ManifestOneWrongFalsely : Prop := manifestOneRow.holds Tryd.pinned (OpenSpec.ofChange manifestOneWrong)

/- THE SECOND FORM. 'bulk': how many values and letters a reading holds, each counted each time it is reached (what is shared counts as often as it is met; a slice's spare places count too). A statement '..UptoSaid' is the law's where the arguments, and the package variables that the reading takes, are together of bulk at most 1048576: NARROWER than '..Said'. Prove '..Said' where nothing that the law and all that it calls make is longer than what came in: it says more and counts as full. Else prove '..UptoSaid'. A law counts once. -/
mutual
def uptoBulk {H : Type} : DataW H → Nat
  | .lit (.string bytes) => bytes.length + 1
  | .lit _ => 1
  | .nil => 1
  | .ptr d => uptoBulk d + 1
  | .slice elems spare => uptoBulkAll elems + uptoBulkAll spare + 1
  | .agg parts => uptoBulkAll parts + 1
  | .iface _ d => uptoBulk d + 1
  | .map entries => uptoBulkEntries entries + 1
  | .held _ => 1
def uptoBulkAll {H : Type} : List (DataW H) → Nat
  | [] => 0
  | d :: r => uptoBulk d + uptoBulkAll r
def uptoBulkEntries {H : Type} : List (Lit × DataW H) → Nat
  | [] => 0
  | x :: r => uptoBulkEntry x + uptoBulkEntries r
def uptoBulkEntry {H : Type} : Lit × DataW H → Nat
  | (.string bytes, d) => bytes.length + uptoBulk d + 1
  | (_, d) => uptoBulk d + 1
 end
def uptoSmall : (H : Type) → List (DataW H) → Bool := fun _ ds => decide (uptoBulkAll ds ≤ 1048576)
def OpenSpec.upto (s : _root_.Go.ChangeSpec) : _root_.Go.OpenSpec := { _root_.Go.OpenSpec.ofChange s with cond := some uptoSmall }

/-- 'moultlaw11.ManifestTells', WHERE WHAT IT READS IS OF BULK AT MOST 1048576: true; the input reads as it did. -/
def manifestTellsUptoRow : OpenClaim := { program := "ytafeadplmcoilaadoor", sum := "817bba1dd30f7e4d438d14421730c1f584331aec68d141756c791147d3eb238a", func := "moult/moultlaw11.ManifestTells", spec := "manifestTells", unfollowed := true, recurses := true, named := ["moult/crc.rows"], apart := false, laid := [("moult/crc.rows", laid_moult_crc_rows)], narrowed := true }
def ManifestTellsUptoSaid : Prop := manifestTellsUptoRow.holds Tryd.pinned (OpenSpec.upto manifestTellsSpec)

/-- 'moultlaw11.ManifestBack', WHERE WHAT IT READS IS OF BULK AT MOST 1048576: true; the input reads as it did. -/
def manifestBackUptoRow : OpenClaim := { program := "ytafeadplmcoilaadoor", sum := "817bba1dd30f7e4d438d14421730c1f584331aec68d141756c791147d3eb238a", func := "moult/moultlaw11.ManifestBack", spec := "manifestBack", unfollowed := true, recurses := true, named := ["moult/crc.rows"], apart := false, laid := [("moult/crc.rows", laid_moult_crc_rows)], narrowed := true }
def ManifestBackUptoSaid : Prop := manifestBackUptoRow.holds Tryd.pinned (OpenSpec.upto manifestBackSpec)

/-- 'moultlaw11.ManifestOnly', WHERE WHAT IT READS IS OF BULK AT MOST 1048576: true; the input reads as it did. -/
def manifestOnlyUptoRow : OpenClaim := { program := "ytafeadplmcoilaadoor", sum := "817bba1dd30f7e4d438d14421730c1f584331aec68d141756c791147d3eb238a", func := "moult/moultlaw11.ManifestOnly", spec := "manifestOnly", unfollowed := true, recurses := true, named := ["moult/crc.rows"], apart := false, laid := [("moult/crc.rows", laid_moult_crc_rows)], narrowed := true }
def ManifestOnlyUptoSaid : Prop := manifestOnlyUptoRow.holds Tryd.pinned (OpenSpec.upto manifestOnlySpec)

/-- 'moultlaw11.ManifestNames', WHERE WHAT IT READS IS OF BULK AT MOST 1048576: true; the input reads as it did. -/
def manifestNamesUptoRow : OpenClaim := { program := "ytafeadplmcoilaadoor", sum := "817bba1dd30f7e4d438d14421730c1f584331aec68d141756c791147d3eb238a", func := "moult/moultlaw11.ManifestNames", spec := "manifestNames", unfollowed := true, recurses := true, named := ["moult/crc.rows"], apart := false, laid := [("moult/crc.rows", laid_moult_crc_rows)], narrowed := true }
def ManifestNamesUptoSaid : Prop := manifestNamesUptoRow.holds Tryd.pinned (OpenSpec.upto manifestNamesSpec)

/-- 'moultlaw11.ManifestOne', WHERE WHAT IT READS IS OF BULK AT MOST 1048576: true; the input reads as it did. -/
def manifestOneUptoRow : OpenClaim := { program := "ytafeadplmcoilaadoor", sum := "817bba1dd30f7e4d438d14421730c1f584331aec68d141756c791147d3eb238a", func := "moult/moultlaw11.ManifestOne", spec := "manifestOne", unfollowed := true, recurses := true, named := ["moult/crc.rows"], apart := false, laid := [("moult/crc.rows", laid_moult_crc_rows)], narrowed := true }
def ManifestOneUptoSaid : Prop := manifestOneUptoRow.holds Tryd.pinned (OpenSpec.upto manifestOneSpec)

end Rows
end Go.Proofs.YtafeadplmcoilaaDoor
