/-
  DERIVED. GIVEN WITH THE SEED: THE CARDS: each row of YtdggacabjlengaaDoorRows.lean that lists a variable, with what it lists TIED to the program's text (the seventh form; the later family's looks); each row that meets fmt, with fmt's text TOLD by the authors' own Lean function (tested against real Go, not proved from fmt's source: count such statements apart). THE CARD IS WHAT COUNTS. Prove the row's statement (the work); the ties are given (YtdggacabjlengaaDoorTie.lean); close each card by the builder's one call (the guide's Derived/Test/ToyasCard.lean, 'card_holds'). Laid BY PROGRAM, IN A SANDBOX (cutbox-door.mjs). By AI agents, Wed Nov 11 2026. No macro, syntax, notation, axiom, sorry.
-/
import Derived.Test.YtdggacabjlengaaDoorRows
import GoSem.ClaimSeven
namespace Go.Proofs.YtdggacabjlengaaDoor
namespace Rows

/-- THE TIED CARD OF 'moultlaw09.SnapTells'. -/
def snapTellsCard : Claim7 := { stood := { row := snapTellsRow, standIns := [], harness := (true, "dc0b006022127cc9264117c3951c94a3d2cc0c13cb813c6519a4cf3e71b4c8bd"), looks := false }, kinds := [], alts := [], laidByText := true, laidKinds := [.data], laidTests := true, laidLooks := .later }
def SnapTellsCardSaid : Prop := Claim7.holds Tryd.pinned (.plain (OpenSpec.ofChange snapTellsSpec)) snapTellsCard

/-- THE TIED CARD OF 'moultlaw09.SnapBack'. -/
def snapBackCard : Claim7 := { stood := { row := snapBackRow, standIns := [], harness := (true, "dc0b006022127cc9264117c3951c94a3d2cc0c13cb813c6519a4cf3e71b4c8bd"), looks := false }, kinds := [], alts := [], laidByText := true, laidKinds := [.data], laidTests := true, laidLooks := .later }
def SnapBackCardSaid : Prop := Claim7.holds Tryd.pinned (.plain (OpenSpec.ofChange snapBackSpec)) snapBackCard

/-- THE TIED CARD OF 'moultlaw09.SnapHarm'. -/
def snapHarmCard : Claim7 := { stood := { row := snapHarmRow, standIns := [], harness := (true, "dc0b006022127cc9264117c3951c94a3d2cc0c13cb813c6519a4cf3e71b4c8bd"), looks := false }, kinds := [], alts := [], laidByText := true, laidKinds := [.data], laidTests := true, laidLooks := .later }
def SnapHarmCardSaid : Prop := Claim7.holds Tryd.pinned (.plain (OpenSpec.ofChange snapHarmSpec)) snapHarmCard

/-- THE TIED CARD OF 'moultlaw09.SnapOnly'. -/
def snapOnlyCard : Claim7 := { stood := { row := snapOnlyRow, standIns := [], harness := (true, "dc0b006022127cc9264117c3951c94a3d2cc0c13cb813c6519a4cf3e71b4c8bd"), looks := false }, kinds := [], alts := [], laidByText := true, laidKinds := [.data], laidTests := true, laidLooks := .later }
def SnapOnlyCardSaid : Prop := Claim7.holds Tryd.pinned (.plain (OpenSpec.ofChange snapOnlySpec)) snapOnlyCard

/-- THE TIED CARD OF 'moultlaw09.SnapPieces'. -/
def snapPiecesCard : Claim7 := { stood := { row := snapPiecesRow, standIns := [], harness := (true, "dc0b006022127cc9264117c3951c94a3d2cc0c13cb813c6519a4cf3e71b4c8bd"), looks := false }, kinds := [], alts := [], laidByText := true, laidKinds := [.data], laidTests := true, laidLooks := .later }
def SnapPiecesCardSaid : Prop := Claim7.holds Tryd.pinned (.plain (OpenSpec.ofChange snapPiecesSpec)) snapPiecesCard

/-- THE SECOND FORM's CARD OF 'moultlaw09.SnapTells'. -/
def snapTellsUptoCard : Claim7 := { stood := { row := snapTellsUptoRow, standIns := [], harness := (true, "dc0b006022127cc9264117c3951c94a3d2cc0c13cb813c6519a4cf3e71b4c8bd"), looks := false }, kinds := [], alts := [], laidByText := true, laidKinds := [.data], laidTests := true, laidLooks := .later }
def SnapTellsUptoCardSaid : Prop := Claim7.holds Tryd.pinned (.plain (OpenSpec.upto snapTellsSpec)) snapTellsUptoCard

/-- THE SECOND FORM's CARD OF 'moultlaw09.SnapBack'. -/
def snapBackUptoCard : Claim7 := { stood := { row := snapBackUptoRow, standIns := [], harness := (true, "dc0b006022127cc9264117c3951c94a3d2cc0c13cb813c6519a4cf3e71b4c8bd"), looks := false }, kinds := [], alts := [], laidByText := true, laidKinds := [.data], laidTests := true, laidLooks := .later }
def SnapBackUptoCardSaid : Prop := Claim7.holds Tryd.pinned (.plain (OpenSpec.upto snapBackSpec)) snapBackUptoCard

/-- THE SECOND FORM's CARD OF 'moultlaw09.SnapHarm'. -/
def snapHarmUptoCard : Claim7 := { stood := { row := snapHarmUptoRow, standIns := [], harness := (true, "dc0b006022127cc9264117c3951c94a3d2cc0c13cb813c6519a4cf3e71b4c8bd"), looks := false }, kinds := [], alts := [], laidByText := true, laidKinds := [.data], laidTests := true, laidLooks := .later }
def SnapHarmUptoCardSaid : Prop := Claim7.holds Tryd.pinned (.plain (OpenSpec.upto snapHarmSpec)) snapHarmUptoCard

/-- THE SECOND FORM's CARD OF 'moultlaw09.SnapOnly'. -/
def snapOnlyUptoCard : Claim7 := { stood := { row := snapOnlyUptoRow, standIns := [], harness := (true, "dc0b006022127cc9264117c3951c94a3d2cc0c13cb813c6519a4cf3e71b4c8bd"), looks := false }, kinds := [], alts := [], laidByText := true, laidKinds := [.data], laidTests := true, laidLooks := .later }
def SnapOnlyUptoCardSaid : Prop := Claim7.holds Tryd.pinned (.plain (OpenSpec.upto snapOnlySpec)) snapOnlyUptoCard

/-- THE SECOND FORM's CARD OF 'moultlaw09.SnapPieces'. -/
def snapPiecesUptoCard : Claim7 := { stood := { row := snapPiecesUptoRow, standIns := [], harness := (true, "dc0b006022127cc9264117c3951c94a3d2cc0c13cb813c6519a4cf3e71b4c8bd"), looks := false }, kinds := [], alts := [], laidByText := true, laidKinds := [.data], laidTests := true, laidLooks := .later }
def SnapPiecesUptoCardSaid : Prop := Claim7.holds Tryd.pinned (.plain (OpenSpec.upto snapPiecesSpec)) snapPiecesUptoCard
end Rows
end Go.Proofs.YtdggacabjlengaaDoor
