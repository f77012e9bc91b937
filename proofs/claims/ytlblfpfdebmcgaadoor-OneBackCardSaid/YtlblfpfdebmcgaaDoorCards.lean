/-
  DERIVED. GIVEN WITH THE SEED: THE CARDS: each row of YtlblfpfdebmcgaaDoorRows.lean that lists a variable, with what it lists TIED to the program's text (the seventh form; the later family's looks); each row that meets fmt, with fmt's text TOLD by the authors' own Lean function (tested against real Go, not proved from fmt's source: count such statements apart). THE CARD IS WHAT COUNTS. Prove the row's statement (the work); the ties are given (YtlblfpfdebmcgaaDoorTie.lean); close each card by the builder's one call (the guide's Derived/Test/ToyasCard.lean, 'card_holds'). Laid BY PROGRAM, IN A SANDBOX (cutbox-door.mjs). By AI agents, Wed Nov 11 2026. No macro, syntax, notation, axiom, sorry.
-/
import Derived.Test.YtlblfpfdebmcgaaDoorRows
import GoSem.ClaimSeven
namespace Go.Proofs.YtlblfpfdebmcgaaDoor
namespace Rows

/-- THE TIED CARD OF 'moultlaw07.OneTells'. -/
def oneTellsCard : Claim7 := { stood := { row := oneTellsRow, standIns := [], harness := (true, "bc233a75d6d7fb7cebb3db5aab96f629cb1ca3895d2ed90323e1e31283e056d3"), looks := false }, kinds := [], alts := [], laidByText := true, laidKinds := [.data], laidTests := true, laidLooks := .later }
def OneTellsCardSaid : Prop := Claim7.holds Tryd.pinned (.plain (OpenSpec.ofChange oneTellsSpec)) oneTellsCard

/-- THE TIED CARD OF 'moultlaw07.OneBack'. -/
def oneBackCard : Claim7 := { stood := { row := oneBackRow, standIns := [], harness := (true, "bc233a75d6d7fb7cebb3db5aab96f629cb1ca3895d2ed90323e1e31283e056d3"), looks := false }, kinds := [], alts := [], laidByText := true, laidKinds := [.data], laidTests := true, laidLooks := .later }
def OneBackCardSaid : Prop := Claim7.holds Tryd.pinned (.plain (OpenSpec.ofChange oneBackSpec)) oneBackCard

/-- THE TIED CARD OF 'moultlaw07.OneOnly'. -/
def oneOnlyCard : Claim7 := { stood := { row := oneOnlyRow, standIns := [], harness := (true, "bc233a75d6d7fb7cebb3db5aab96f629cb1ca3895d2ed90323e1e31283e056d3"), looks := false }, kinds := [], alts := [], laidByText := true, laidKinds := [.data], laidTests := true, laidLooks := .later }
def OneOnlyCardSaid : Prop := Claim7.holds Tryd.pinned (.plain (OpenSpec.ofChange oneOnlySpec)) oneOnlyCard

/-- THE TIED CARD OF 'moultlaw07.OneMore'. -/
def oneMoreCard : Claim7 := { stood := { row := oneMoreRow, standIns := [], harness := (true, "bc233a75d6d7fb7cebb3db5aab96f629cb1ca3895d2ed90323e1e31283e056d3"), looks := false }, kinds := [], alts := [], laidByText := true, laidKinds := [.data], laidTests := true, laidLooks := .later }
def OneMoreCardSaid : Prop := Claim7.holds Tryd.pinned (.plain (OpenSpec.ofChange oneMoreSpec)) oneMoreCard

/-- THE TIED CARD OF 'moultlaw07.OneApart'. -/
def oneApartCard : Claim7 := { stood := { row := oneApartRow, standIns := [], harness := (true, "bc233a75d6d7fb7cebb3db5aab96f629cb1ca3895d2ed90323e1e31283e056d3"), looks := false }, kinds := [], alts := [], laidByText := true, laidKinds := [.data], laidTests := true, laidLooks := .later }
def OneApartCardSaid : Prop := Claim7.holds Tryd.pinned (.plain (OpenSpec.ofChange oneApartSpec)) oneApartCard

/-- THE SECOND FORM's CARD OF 'moultlaw07.OneTells'. -/
def oneTellsUptoCard : Claim7 := { stood := { row := oneTellsUptoRow, standIns := [], harness := (true, "bc233a75d6d7fb7cebb3db5aab96f629cb1ca3895d2ed90323e1e31283e056d3"), looks := false }, kinds := [], alts := [], laidByText := true, laidKinds := [.data], laidTests := true, laidLooks := .later }
def OneTellsUptoCardSaid : Prop := Claim7.holds Tryd.pinned (.plain (OpenSpec.upto oneTellsSpec)) oneTellsUptoCard

/-- THE SECOND FORM's CARD OF 'moultlaw07.OneBack'. -/
def oneBackUptoCard : Claim7 := { stood := { row := oneBackUptoRow, standIns := [], harness := (true, "bc233a75d6d7fb7cebb3db5aab96f629cb1ca3895d2ed90323e1e31283e056d3"), looks := false }, kinds := [], alts := [], laidByText := true, laidKinds := [.data], laidTests := true, laidLooks := .later }
def OneBackUptoCardSaid : Prop := Claim7.holds Tryd.pinned (.plain (OpenSpec.upto oneBackSpec)) oneBackUptoCard

/-- THE SECOND FORM's CARD OF 'moultlaw07.OneOnly'. -/
def oneOnlyUptoCard : Claim7 := { stood := { row := oneOnlyUptoRow, standIns := [], harness := (true, "bc233a75d6d7fb7cebb3db5aab96f629cb1ca3895d2ed90323e1e31283e056d3"), looks := false }, kinds := [], alts := [], laidByText := true, laidKinds := [.data], laidTests := true, laidLooks := .later }
def OneOnlyUptoCardSaid : Prop := Claim7.holds Tryd.pinned (.plain (OpenSpec.upto oneOnlySpec)) oneOnlyUptoCard

/-- THE SECOND FORM's CARD OF 'moultlaw07.OneMore'. -/
def oneMoreUptoCard : Claim7 := { stood := { row := oneMoreUptoRow, standIns := [], harness := (true, "bc233a75d6d7fb7cebb3db5aab96f629cb1ca3895d2ed90323e1e31283e056d3"), looks := false }, kinds := [], alts := [], laidByText := true, laidKinds := [.data], laidTests := true, laidLooks := .later }
def OneMoreUptoCardSaid : Prop := Claim7.holds Tryd.pinned (.plain (OpenSpec.upto oneMoreSpec)) oneMoreUptoCard

/-- THE SECOND FORM's CARD OF 'moultlaw07.OneApart'. -/
def oneApartUptoCard : Claim7 := { stood := { row := oneApartUptoRow, standIns := [], harness := (true, "bc233a75d6d7fb7cebb3db5aab96f629cb1ca3895d2ed90323e1e31283e056d3"), looks := false }, kinds := [], alts := [], laidByText := true, laidKinds := [.data], laidTests := true, laidLooks := .later }
def OneApartUptoCardSaid : Prop := Claim7.holds Tryd.pinned (.plain (OpenSpec.upto oneApartSpec)) oneApartUptoCard
end Rows
end Go.Proofs.YtlblfpfdebmcgaaDoor
