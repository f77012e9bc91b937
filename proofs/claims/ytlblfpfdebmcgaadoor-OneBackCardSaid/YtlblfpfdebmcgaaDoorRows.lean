/-
  NARROWER THAN 'FOR EVERY INPUT', by the rows' own cells (each row's printed sentence says how): OneTells: laid · OneBack: laid · OneOnly: laid · OneMore: laid · OneApart: laid.
  DERIVED. THE GIVEN ROWS OF THIS SEAT. 5 by the template 'for every input the law returns true; each argument reads behind the call as it read before'; 0 by the template 'total and deterministic' (their statements: YtlblfpfdebmcgaaDoorTotals.lean).
  GIVEN WITH THE SEED: the statements are not yours to turn. If you find one false, say at which input.
  Laid BY PROGRAM, IN A SANDBOX (cutbox-rows.mjs): the forced cells as the released guide's own fill.sh prints them over the translation 695e51ea83945888… (all of the seat's roots in one cut). By AI agents, Wed Nov 11 2026. No macro, syntax, notation, axiom, sorry.
-/
import Derived.Test.YtlblfpfdebmcgaaDoorChecked
import GoSem.Claim
import GoSem.ClaimJoined
import GoSem.ClaimMapViews
import Derived.JoinedTies
import Derived.KernelRfl
namespace Go.Proofs.YtlblfpfdebmcgaaDoor
/- THE CELL 'sum', in the pinned program and in every row, IS THE sha256 OF THE DUMP (.gsa) THAT YtlblfpfdebmcgaaDoorProg.lean LOADS. Nothing in Lean hashes anything: it is a label: what it is worth is what the hold of that sum in a sandbox is worth. -/
noncomputable def Tryd.pinned : Pinned := { name := "ytlblfpfdebmcgaadoor", sum := "695e51ea8394588871b70b95bf9809ef1e6e8525bfa7ac039a3a38bc2f14c565", checked := Tryd.checked }
namespace Rows
def none {H : Type} : Left H := { results := [], args := [] }

/- WHAT THE LISTED PACKAGE-LEVEL VARIABLES READ AS WHEN THE CALL BEGINS. Each datum BY PROGRAM (the guide's laid-datum.mjs) off the statement by which the dump's own 'gosem.cut.vars' lays the variable. In a bare row this is a premise. The card (YtlblfpfdebmcgaaDoorCards.lean) ties it to the program's text. -/
def laid_moult_crc_rows {H : Type} : DataW H := .agg [.lit (.int .u32 0), .lit (.int .u32 274646895), .lit (.int .u32 549293790), .lit (.int .u32 820201905), .lit (.int .u32 1098587580), .lit (.int .u32 1361435347), .lit (.int .u32 1640403810), .lit (.int .u32 1905808397), .lit (.int .u32 2197175160), .lit (.int .u32 2460548119), .lit (.int .u32 2722870694), .lit (.int .u32 2987750089), .lit (.int .u32 3280807620), .lit (.int .u32 3553878443), .lit (.int .u32 3811616794), .lit (.int .u32 4084100981)]

/-- 'moultlaw07.OneTells': WHATEVER THE INPUT: true; the input reads as it did. -/
def oneTellsSpec : ChangeSpec := { name := "oneTells", fn := fun _ => fun
  | [d1, d2, d3] => { results := [.lit (.bool true)], args := [d1, d2, d3] }
  | _ => none }
def oneTellsRow : OpenClaim := { program := "ytlblfpfdebmcgaadoor", sum := "695e51ea8394588871b70b95bf9809ef1e6e8525bfa7ac039a3a38bc2f14c565", func := "moult/moultlaw07.OneTells", spec := "oneTells", unfollowed := true, recurses := true, named := ["moult/crc.rows"], apart := false, laid := [("moult/crc.rows", laid_moult_crc_rows)] }
def OneTellsSaid : Prop := oneTellsRow.holds Tryd.pinned (OpenSpec.ofChange oneTellsSpec)

/-- ITS FALSE NEIGHBOUR: 'it returns false'. Refute it at one input. -/
def oneTellsWrong : ChangeSpec := { name := "oneTells", fn := fun _ => fun
  | [d1, d2, d3] => { results := [.lit (.bool false)], args := [d1, d2, d3] }
  | _ => none }
def OneTellsWrongFalsely : Prop := oneTellsRow.holds Tryd.pinned (OpenSpec.ofChange oneTellsWrong)

/-- 'moultlaw07.OneBack': WHATEVER THE INPUT: true; the input reads as it did. -/
def oneBackSpec : ChangeSpec := { name := "oneBack", fn := fun _ => fun
  | [d1, d2, d3, d4, d5] => { results := [.lit (.bool true)], args := [d1, d2, d3, d4, d5] }
  | _ => none }
def oneBackRow : OpenClaim := { program := "ytlblfpfdebmcgaadoor", sum := "695e51ea8394588871b70b95bf9809ef1e6e8525bfa7ac039a3a38bc2f14c565", func := "moult/moultlaw07.OneBack", spec := "oneBack", unfollowed := true, recurses := true, named := ["moult/crc.rows"], apart := false, laid := [("moult/crc.rows", laid_moult_crc_rows)] }
def OneBackSaid : Prop := oneBackRow.holds Tryd.pinned (OpenSpec.ofChange oneBackSpec)

/-- ITS FALSE NEIGHBOUR: 'it returns false'. Refute it at one input. -/
def oneBackWrong : ChangeSpec := { name := "oneBack", fn := fun _ => fun
  | [d1, d2, d3, d4, d5] => { results := [.lit (.bool false)], args := [d1, d2, d3, d4, d5] }
  | _ => none }
def OneBackWrongFalsely : Prop := oneBackRow.holds Tryd.pinned (OpenSpec.ofChange oneBackWrong)

/-- 'moultlaw07.OneOnly': WHATEVER THE INPUT: true; the input reads as it did. -/
def oneOnlySpec : ChangeSpec := { name := "oneOnly", fn := fun _ => fun
  | [d] => { results := [.lit (.bool true)], args := [d] }
  | _ => none }
def oneOnlyRow : OpenClaim := { program := "ytlblfpfdebmcgaadoor", sum := "695e51ea8394588871b70b95bf9809ef1e6e8525bfa7ac039a3a38bc2f14c565", func := "moult/moultlaw07.OneOnly", spec := "oneOnly", unfollowed := true, recurses := true, named := ["moult/crc.rows"], apart := false, laid := [("moult/crc.rows", laid_moult_crc_rows)] }
def OneOnlySaid : Prop := oneOnlyRow.holds Tryd.pinned (OpenSpec.ofChange oneOnlySpec)

/-- ITS FALSE NEIGHBOUR: 'it returns false'. Refute it at one input. -/
def oneOnlyWrong : ChangeSpec := { name := "oneOnly", fn := fun _ => fun
  | [d] => { results := [.lit (.bool false)], args := [d] }
  | _ => none }
def OneOnlyWrongFalsely : Prop := oneOnlyRow.holds Tryd.pinned (OpenSpec.ofChange oneOnlyWrong)

/-- 'moultlaw07.OneMore': WHATEVER THE INPUT: true; the input reads as it did. -/
def oneMoreSpec : ChangeSpec := { name := "oneMore", fn := fun _ => fun
  | [d1, d2, d3] => { results := [.lit (.bool true)], args := [d1, d2, d3] }
  | _ => none }
def oneMoreRow : OpenClaim := { program := "ytlblfpfdebmcgaadoor", sum := "695e51ea8394588871b70b95bf9809ef1e6e8525bfa7ac039a3a38bc2f14c565", func := "moult/moultlaw07.OneMore", spec := "oneMore", unfollowed := true, recurses := true, named := ["moult/crc.rows"], apart := false, laid := [("moult/crc.rows", laid_moult_crc_rows)] }
def OneMoreSaid : Prop := oneMoreRow.holds Tryd.pinned (OpenSpec.ofChange oneMoreSpec)

/-- ITS FALSE NEIGHBOUR: 'it returns false'. Refute it at one input. -/
def oneMoreWrong : ChangeSpec := { name := "oneMore", fn := fun _ => fun
  | [d1, d2, d3] => { results := [.lit (.bool false)], args := [d1, d2, d3] }
  | _ => none }
def OneMoreWrongFalsely : Prop := oneMoreRow.holds Tryd.pinned (OpenSpec.ofChange oneMoreWrong)

/-- 'moultlaw07.OneApart': WHATEVER THE INPUT: true; the input reads as it did. -/
def oneApartSpec : ChangeSpec := { name := "oneApart", fn := fun _ => fun
  | [d1, d2, d3, d4] => { results := [.lit (.bool true)], args := [d1, d2, d3, d4] }
  | _ => none }
def oneApartRow : OpenClaim := { program := "ytlblfpfdebmcgaadoor", sum := "695e51ea8394588871b70b95bf9809ef1e6e8525bfa7ac039a3a38bc2f14c565", func := "moult/moultlaw07.OneApart", spec := "oneApart", unfollowed := true, recurses := true, named := ["moult/crc.rows"], apart := false, laid := [("moult/crc.rows", laid_moult_crc_rows)] }
def OneApartSaid : Prop := oneApartRow.holds Tryd.pinned (OpenSpec.ofChange oneApartSpec)

/-- ITS FALSE NEIGHBOUR: 'it returns false'. Refute it at one input. -/
def oneApartWrong : ChangeSpec := { name := "oneApart", fn := fun _ => fun
  | [d1, d2, d3, d4] => { results := [.lit (.bool false)], args := [d1, d2, d3, d4] }
  | _ => none }
def OneApartWrongFalsely : Prop := oneApartRow.holds Tryd.pinned (OpenSpec.ofChange oneApartWrong)

/- THE SECOND FORM. 'bulk': how many values and letters a reading holds, each counted each time it is reached (what is shared counts as often as it is met; a slice's spare places count too). A statement '..UptoSaid' is the law's where the arguments, and the package variables that the reading takes, are together of bulk at most 1048576: NARROWER than '..Said'. Prove '..Said' where nothing that the law and all that it calls make is longer than what came in: it says more and counts as full. Else prove '..UptoSaid'. A law counts once. -/
mutual
def uptoBulk {H : Type} : DataW H → Nat
  | .lit (.string bytes) => bytes.length + 1
  | .lit _ => 1
  | .nil => 1
  | .ptr d => uptoBulk d + 1
  | .slice elems spare => uptoBulkAll elems + uptoBulkAll spare + 1
  | .agg parts => uptoBulkAll parts + 1
  | .iface _ d => uptoBulk d + 1
  | .map entries => uptoBulkEntries entries + 1
  | .held _ => 1
def uptoBulkAll {H : Type} : List (DataW H) → Nat
  | [] => 0
  | d :: r => uptoBulk d + uptoBulkAll r
def uptoBulkEntries {H : Type} : List (Lit × DataW H) → Nat
  | [] => 0
  | x :: r => uptoBulkEntry x + uptoBulkEntries r
def uptoBulkEntry {H : Type} : Lit × DataW H → Nat
  | (.string bytes, d) => bytes.length + uptoBulk d + 1
  | (_, d) => uptoBulk d + 1
 end
def uptoSmall : (H : Type) → List (DataW H) → Bool := fun _ ds => decide (uptoBulkAll ds ≤ 1048576)
def OpenSpec.upto (s : _root_.Go.ChangeSpec) : _root_.Go.OpenSpec := { _root_.Go.OpenSpec.ofChange s with cond := some uptoSmall }

/-- 'moultlaw07.OneTells', WHERE WHAT IT READS IS OF BULK AT MOST 1048576: true; the input reads as it did. -/
def oneTellsUptoRow : OpenClaim := { program := "ytlblfpfdebmcgaadoor", sum := "695e51ea8394588871b70b95bf9809ef1e6e8525bfa7ac039a3a38bc2f14c565", func := "moult/moultlaw07.OneTells", spec := "oneTells", unfollowed := true, recurses := true, named := ["moult/crc.rows"], apart := false, laid := [("moult/crc.rows", laid_moult_crc_rows)], narrowed := true }
def OneTellsUptoSaid : Prop := oneTellsUptoRow.holds Tryd.pinned (OpenSpec.upto oneTellsSpec)

/-- 'moultlaw07.OneBack', WHERE WHAT IT READS IS OF BULK AT MOST 1048576: true; the input reads as it did. -/
def oneBackUptoRow : OpenClaim := { program := "ytlblfpfdebmcgaadoor", sum := "695e51ea8394588871b70b95bf9809ef1e6e8525bfa7ac039a3a38bc2f14c565", func := "moult/moultlaw07.OneBack", spec := "oneBack", unfollowed := true, recurses := true, named := ["moult/crc.rows"], apart := false, laid := [("moult/crc.rows", laid_moult_crc_rows)], narrowed := true }
def OneBackUptoSaid : Prop := oneBackUptoRow.holds Tryd.pinned (OpenSpec.upto oneBackSpec)

/-- 'moultlaw07.OneOnly', WHERE WHAT IT READS IS OF BULK AT MOST 1048576: true; the input reads as it did. -/
def oneOnlyUptoRow : OpenClaim := { program := "ytlblfpfdebmcgaadoor", sum := "695e51ea8394588871b70b95bf9809ef1e6e8525bfa7ac039a3a38bc2f14c565", func := "moult/moultlaw07.OneOnly", spec := "oneOnly", unfollowed := true, recurses := true, named := ["moult/crc.rows"], apart := false, laid := [("moult/crc.rows", laid_moult_crc_rows)], narrowed := true }
def OneOnlyUptoSaid : Prop := oneOnlyUptoRow.holds Tryd.pinned (OpenSpec.upto oneOnlySpec)

/-- 'moultlaw07.OneMore', WHERE WHAT IT READS IS OF BULK AT MOST 1048576: true; the input reads as it did. -/
def oneMoreUptoRow : OpenClaim := { program := "ytlblfpfdebmcgaadoor", sum := "695e51ea8394588871b70b95bf9809ef1e6e8525bfa7ac039a3a38bc2f14c565", func := "moult/moultlaw07.OneMore", spec := "oneMore", unfollowed := true, recurses := true, named := ["moult/crc.rows"], apart := false, laid := [("moult/crc.rows", laid_moult_crc_rows)], narrowed := true }
def OneMoreUptoSaid : Prop := oneMoreUptoRow.holds Tryd.pinned (OpenSpec.upto oneMoreSpec)

/-- 'moultlaw07.OneApart', WHERE WHAT IT READS IS OF BULK AT MOST 1048576: true; the input reads as it did. -/
def oneApartUptoRow : OpenClaim := { program := "ytlblfpfdebmcgaadoor", sum := "695e51ea8394588871b70b95bf9809ef1e6e8525bfa7ac039a3a38bc2f14c565", func := "moult/moultlaw07.OneApart", spec := "oneApart", unfollowed := true, recurses := true, named := ["moult/crc.rows"], apart := false, laid := [("moult/crc.rows", laid_moult_crc_rows)], narrowed := true }
def OneApartUptoSaid : Prop := oneApartUptoRow.holds Tryd.pinned (OpenSpec.upto oneApartSpec)

end Rows
end Go.Proofs.YtlblfpfdebmcgaaDoor
