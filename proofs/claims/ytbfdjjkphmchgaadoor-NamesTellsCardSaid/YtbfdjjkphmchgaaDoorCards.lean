/-
  DERIVED. GIVEN WITH THE SEED: THE CARDS: each row of YtbfdjjkphmchgaaDoorRows.lean that lists a variable, with what it lists TIED to the program's text (the seventh form; the later family's looks); each row that meets fmt, with fmt's text TOLD by the authors' own Lean function (tested against real Go, not proved from fmt's source: count such statements apart). THE CARD IS WHAT COUNTS. Prove the row's statement (the work); the ties are given (YtbfdjjkphmchgaaDoorTie.lean); close each card by the builder's one call (the guide's Derived/Test/ToyasCard.lean, 'card_holds'). Laid BY PROGRAM, IN A SANDBOX (cutbox-door.mjs). By AI agents, Wed Nov 11 2026. No macro, syntax, notation, axiom, sorry.
-/
import Derived.Test.YtbfdjjkphmchgaaDoorRows
import GoSem.ClaimSeven
namespace Go.Proofs.YtbfdjjkphmchgaaDoor
namespace Rows

/-- THE TIED CARD OF 'moultlaw05.NamesTells'. -/
def namesTellsCard : Claim7 := { stood := { row := namesTellsRow, standIns := [], harness := (true, "b428a3874495c9a19e7627a15d937701888621b76dcfc14d5320fbb24d625557"), looks := false }, kinds := [], alts := [], laidByText := true, laidKinds := [.data, .data, .data], laidTests := true, laidLooks := .later }
def NamesTellsCardSaid : Prop := Claim7.holds Tryd.pinned (.plain (OpenSpec.ofChange namesTellsSpec)) namesTellsCard

/-- THE TIED CARD OF 'moultlaw05.NamesBack'. -/
def namesBackCard : Claim7 := { stood := { row := namesBackRow, standIns := [], harness := (true, "b428a3874495c9a19e7627a15d937701888621b76dcfc14d5320fbb24d625557"), looks := false }, kinds := [], alts := [], laidByText := true, laidKinds := [.data, .data, .data], laidTests := true, laidLooks := .later }
def NamesBackCardSaid : Prop := Claim7.holds Tryd.pinned (.plain (OpenSpec.ofChange namesBackSpec)) namesBackCard

/-- THE TIED CARD OF 'moultlaw05.NamesOrder'. -/
def namesOrderCard : Claim7 := { stood := { row := namesOrderRow, standIns := [], harness := (true, "b428a3874495c9a19e7627a15d937701888621b76dcfc14d5320fbb24d625557"), looks := false }, kinds := [], alts := [], laidByText := true, laidKinds := [.data, .data, .data], laidTests := true, laidLooks := .later }
def NamesOrderCardSaid : Prop := Claim7.holds Tryd.pinned (.plain (OpenSpec.ofChange namesOrderSpec)) namesOrderCard

/-- THE TIED CARD OF 'moultlaw05.NamesRest'. -/
def namesRestCard : Claim7 := { stood := { row := namesRestRow, standIns := [], harness := (true, "b428a3874495c9a19e7627a15d937701888621b76dcfc14d5320fbb24d625557"), looks := false }, kinds := [], alts := [], laidByText := true, laidKinds := [.data, .data, .data], laidTests := true, laidLooks := .later }
def NamesRestCardSaid : Prop := Claim7.holds Tryd.pinned (.plain (OpenSpec.ofChange namesRestSpec)) namesRestCard

/-- THE TIED CARD OF 'moultlaw05.NamesNot'. -/
def namesNotCard : Claim7 := { stood := { row := namesNotRow, standIns := [], harness := (true, "b428a3874495c9a19e7627a15d937701888621b76dcfc14d5320fbb24d625557"), looks := false }, kinds := [], alts := [], laidByText := true, laidKinds := [.data, .data, .data], laidTests := true, laidLooks := .later }
def NamesNotCardSaid : Prop := Claim7.holds Tryd.pinned (.plain (OpenSpec.ofChange namesNotSpec)) namesNotCard

/-- THE SECOND FORM's CARD OF 'moultlaw05.NamesTells'. -/
def namesTellsUptoCard : Claim7 := { stood := { row := namesTellsUptoRow, standIns := [], harness := (true, "b428a3874495c9a19e7627a15d937701888621b76dcfc14d5320fbb24d625557"), looks := false }, kinds := [], alts := [], laidByText := true, laidKinds := [.data, .data, .data], laidTests := true, laidLooks := .later }
def NamesTellsUptoCardSaid : Prop := Claim7.holds Tryd.pinned (.plain (OpenSpec.upto namesTellsSpec)) namesTellsUptoCard

/-- THE SECOND FORM's CARD OF 'moultlaw05.NamesBack'. -/
def namesBackUptoCard : Claim7 := { stood := { row := namesBackUptoRow, standIns := [], harness := (true, "b428a3874495c9a19e7627a15d937701888621b76dcfc14d5320fbb24d625557"), looks := false }, kinds := [], alts := [], laidByText := true, laidKinds := [.data, .data, .data], laidTests := true, laidLooks := .later }
def NamesBackUptoCardSaid : Prop := Claim7.holds Tryd.pinned (.plain (OpenSpec.upto namesBackSpec)) namesBackUptoCard

/-- THE SECOND FORM's CARD OF 'moultlaw05.NamesOrder'. -/
def namesOrderUptoCard : Claim7 := { stood := { row := namesOrderUptoRow, standIns := [], harness := (true, "b428a3874495c9a19e7627a15d937701888621b76dcfc14d5320fbb24d625557"), looks := false }, kinds := [], alts := [], laidByText := true, laidKinds := [.data, .data, .data], laidTests := true, laidLooks := .later }
def NamesOrderUptoCardSaid : Prop := Claim7.holds Tryd.pinned (.plain (OpenSpec.upto namesOrderSpec)) namesOrderUptoCard

/-- THE SECOND FORM's CARD OF 'moultlaw05.NamesRest'. -/
def namesRestUptoCard : Claim7 := { stood := { row := namesRestUptoRow, standIns := [], harness := (true, "b428a3874495c9a19e7627a15d937701888621b76dcfc14d5320fbb24d625557"), looks := false }, kinds := [], alts := [], laidByText := true, laidKinds := [.data, .data, .data], laidTests := true, laidLooks := .later }
def NamesRestUptoCardSaid : Prop := Claim7.holds Tryd.pinned (.plain (OpenSpec.upto namesRestSpec)) namesRestUptoCard

/-- THE SECOND FORM's CARD OF 'moultlaw05.NamesNot'. -/
def namesNotUptoCard : Claim7 := { stood := { row := namesNotUptoRow, standIns := [], harness := (true, "b428a3874495c9a19e7627a15d937701888621b76dcfc14d5320fbb24d625557"), looks := false }, kinds := [], alts := [], laidByText := true, laidKinds := [.data, .data, .data], laidTests := true, laidLooks := .later }
def NamesNotUptoCardSaid : Prop := Claim7.holds Tryd.pinned (.plain (OpenSpec.upto namesNotSpec)) namesNotUptoCard
end Rows
end Go.Proofs.YtbfdjjkphmchgaaDoor
