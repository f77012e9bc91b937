/-
  Small words on Below.
-/
import Derived.Test.YtbhnlmlaebngmaaBase
namespace Go.Proofs.Ytbhnlmlaebngmaa
open Go.RowKit

theorem below_al {w W : World} (h : Below w.heap.size w W) (o : Obj) : Below w.heap.size w (W.alloc o) := h.alloc h.size o
theorem below_dr {w W : World} (h : Below w.heap.size w W) : Below w.heap.size w W.drew := h.drew
theorem below_st {w W : World} {g i : Nat} (hg : w.heap.size ≤ g) (h : Below w.heap.size w W) (v : Value) : Below w.heap.size w (W.setCell ⟨g, i, none⟩ v) := h.setCell (p := ⟨g, i, none⟩) hg v
theorem below_d0 (w : World) : Below w.heap.size w w := Below.refl _ _
theorem below_on {w W W' : World} (h : Below w.heap.size w W) (h' : Below W.heap.size W W') : Below w.heap.size w W' := h.trans (h'.mono h.size)

end Go.Proofs.Ytbhnlmlaebngmaa
