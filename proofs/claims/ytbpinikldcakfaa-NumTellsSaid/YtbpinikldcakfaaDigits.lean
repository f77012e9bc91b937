/-
  num.digits: its contract.
-/
import Derived.Test.YtbpinikldcakfaaBase
import Derived.Test.YtbpinikldcakfaaPureC
import Derived.Test.YtbpinikldcakfaaShelf
import Derived.RangeFuncBox
import Derived.Deep.RegionWith
import Derived.Deep.RegionHeld3
import Derived.BigRegion
import Derived.Outline
import Derived.StillTailTactics
namespace Go.Proofs.Ytbpinikldcakfaa
open Go.RowKit

theorem len_at (n : Int) (w : World) (h0 : 0 ≤ n) (h1 : n ≤ 1073741824) :
    Calls Try.prog 26 #[.int .u64 (IntKind.u64.wrap n)] w fun e w' => e = .returned (.int .i64 (Lib.bitLen n.toNat)) ∧ w = w' := by
  have e : IntKind.u64.wrap n = n := by rw [IntKind.wrap_u64]; omega
  rw [e]
  exact (Try.bits_Len n w h0 (by omega)).mono fun _ _ ⟨a, b⟩ => ⟨a, b.symm⟩

/-- The iterator's value, and what it has captured. -/
def DigOut (n width least : Int) (w : World) (e : Ending) (w' : World) : Prop :=
  e = .returned (.func (.func 27) #[] #[.pointer (some ⟨w.heap.size + 2, 0, none⟩), .pointer (some ⟨w.heap.size, 0, none⟩), .pointer (some ⟨w.heap.size + 1, 0, none⟩)]) ∧
  Boxed w' w.heap.size 3 (.int .i64 n) ∧ Boxed w' (w.heap.size + 1) 3 (.int .i64 width) ∧ Boxed w' (w.heap.size + 2) 3 (.int .i64 (howMany n width least)) ∧
  w'.heap.size = w.heap.size + 3 ∧ Below w.heap.size w w'
theorem DigOut.mk (n width least : Int) (w : World) :
    DigOut n width least w (.returned (.func (.func 27) #[] #[.pointer (some ⟨w.heap.size + 1 + 1, 0, none⟩), .pointer (some ⟨w.heap.size, 0, none⟩), .pointer (some ⟨w.heap.size + 1, 0, none⟩)]))
      (((w.alloc (.cells #[.int .i64 n] 3)).alloc (.cells #[.int .i64 width] 3)).alloc (.cells #[.int .i64 (max least ((((Lib.bitLen n.toNat : Nat) : Int) + width - 1) / width))] 3)).drew := by
  have h1 := (((Boxed.new w 3 (.int .i64 n)).alloc (.cells #[.int .i64 width] 3)).alloc (.cells #[.int .i64 (max least ((((Lib.bitLen n.toNat : Nat) : Int) + width - 1) / width))] 3))
  have h2 := (Boxed.new (w.alloc (.cells #[.int .i64 n] 3)) 3 (.int .i64 width)).alloc (.cells #[.int .i64 (max least ((((Lib.bitLen n.toNat : Nat) : Int) + width - 1) / width))] 3)
  have h3 := Boxed.new ((w.alloc (.cells #[.int .i64 n] 3)).alloc (.cells #[.int .i64 width] 3)) 3 (.int .i64 (max least ((((Lib.bitLen n.toNat : Nat) : Int) + width - 1) / width)))
  rw [World.size_alloc] at h2
  rw [World.size_alloc, World.size_alloc] at h3
  refine ⟨rfl, h1, h2, h3, ?_, ?_⟩
  · show (((w.alloc _).alloc _).alloc _).heap.size = _
    rw [World.size_alloc, World.size_alloc, World.size_alloc]
  · exact ((((Below.refl _ w).alloc (Nat.le_refl _) _).alloc (by simp) _).alloc (by simp; omega) _).drew

set_option maxRecDepth 100000 in
set_option maxHeartbeats 400000 in
theorem digits_any (n width least : Int) (w : World) (hn : 0 ≤ n ∧ n ≤ 1073741824) (hw : 7 ≤ width ∧ width ≤ 8) :
    Calls Try.prog 23 #[.int .i64 n, .int .i64 width, .int .i64 least] w (DigOut n width least w) := by
  have hL : ((Lib.bitLen n.toNat : Nat) : Int) ≤ 31 := by
    have := Lib.bitLen_le n.toNat 31 (by omega) (by omega)
    omega
  have hL0 : 0 ≤ ((Lib.bitLen n.toNat : Nat) : Int) := by omega
  have hw0 : ¬ width = 0 := by omega
  go_enter Try.func23, Try.ntmps23
  go_wp2
  go_region_held3 (fun w' => w'.cell? ⟨w.heap.size, 0, none⟩ = some (.int .i64 n) ∧ w'.cell? ⟨w.heap.size + 1, 0, none⟩ = some (.int .i64 width)) (go_keep)
    (first | (go_at_call 26; refine (len_at n _ (by omega) (by omega)).mono ?_; rintro e w' ⟨rfl, rfl⟩))
  all_goals
    go_wp2
    go_ret
    exact DigOut.mk n width least w

end Go.Proofs.Ytbpinikldcakfaa
