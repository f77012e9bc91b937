/-
  The table of sixteen rows, as the program's text lays it; what the laws' frames want of it.
-/
import Derived.Test.YtnojphkfniimgaaDoorRows
import Derived.Test.YtnojphkfniimgaaDoorBase
import Derived.Test.YtnojphkfniimgaaDoorCrcP
import Derived.LaidMore
import Derived.Lib.LaidTab
import Derived.ProofKit
namespace Go.Proofs.YtnojphkfniimgaaDoor
open Go.RowKit

def tabL : List Int := [0, 274646895, 549293790, 820201905, 1098587580, 1361435347, 1640403810, 1905808397, 2197175160, 2460548119, 2722870694, 2987750089, 3280807620, 3553878443, 3811616794, 4084100981]
theorem gRows : Tryd.prog.globalNamed "moult/crc.rows" = some 0 := by kernel_rfl
theorem tRows : (Tryd.prog.globals[0]?).map (·.type) = some 44 := by kernel_rfl
theorem cells_u32 : Tryd.prog.cellsOf 23 = 1 := by kernel_rfl
theorem cells_tab : Tryd.prog.cellsOf 44 = 16 := by kernel_rfl

/-- The variable holds the sixteen rows. -/
def Tab (w : World) : Prop := 0 < w.heap.size ∧ ∀ i, i < 16 → w.cell? ⟨0, i, none⟩ = some (.int .u32 ((turns 4 i : Nat) : Int))
theorem Tab.on {w w' : World} (h : Tab w) (hb : Below w.heap.size w w') : Tab w' :=
  ⟨Nat.lt_of_lt_of_le h.1 hb.size, fun i hi => (hb.cell (p := ⟨0, i, none⟩) h.1).trans (h.2 i hi)⟩
theorem tab_turns : ∀ i : Fin 16, tabL[i.1]? = some ((turns 4 i.1 : Nat) : Int) := by decide +kernel
theorem of_laid {W : World} (h : laidMetH Tryd.prog [("moult/crc.rows", Rows.laid_moult_crc_rows)] W) : Tab W := by
  rw [MakeChecks.laidMetH_plain _ _ _ (by kernel_rfl)] at h
  have h1 : Lib.TabIs Tryd.prog W "moult/crc.rows" .u32 tabL := Lib.tabIs_of_head gRows tRows Tryd.underlying44 Tryd.underlying23 cells_u32 cells_tab h
  have hc : ∀ i, i < 16 → W.cell? ⟨0, i, none⟩ = some (.int .u32 ((turns 4 i : Nat) : Int)) := by
    intro i hi
    have h2 := World.var?_cell gRows h1 i
    rw [h2]
    have h3 := tab_turns ⟨i, hi⟩
    simp only [List.getElem?_toArray, List.getElem?_map, h3, Option.map_some]
  exact ⟨World.block_lt_of_cell? W _ (hc 0 (by omega)), hc⟩
/-- The door's own heap meets the condition. -/
theorem door_met (os : Os) (args : Array Value) : laidMetH Tryd.prog [("moult/crc.rows", Rows.laid_moult_crc_rows)] ((World.doorLaid Tryd.prog 400 os).forCall (fun _ _ => 0) ⟨#[], args, []⟩).memory :=
  laidMetH_of_parts3 (fuel := 8) (laidMet_of_run' 8 (by kernel_rfl) (by kernel_rfl)) (by kernel_rfl) (by kernel_rfl)

end Go.Proofs.YtnojphkfniimgaaDoor
