/-
  The letters of kinds: the map of them: its contract, what a look-up in it tells.
-/
import Derived.Test.YtbfdjjkphmchgaaDoorOrd
import Derived.Maps.OwnSet
import Derived.Maps.RangeWalk
namespace Go.Proofs.YtbfdjjkphmchgaaDoor
open Go.RowKit Go.Maps

theorem kind_keyed : Keyed Tryd.prog 5 := int_keyed Tryd.underlying5
theorem key_kind {k : Int} (hk : 0 ≤ k ∧ k ≤ 255) : keyOf Tryd.prog 5 (.int .u8 k) = some (.int .u8 k) := keyOf_int_mk Tryd.underlying5 (by simp only [Lit.wf, Bool.and_eq_true, decide_eq_true_eq]; exact hk)
theorem zero_byte (w : World) : (zeroValue 5).run Tryd.prog w = .ok (.int .u8 0) w := by kernel_rfl
/-- An element reads as itself. -/
def itself (v : Value) : Option (DataW Value × List MemPlace) := some (.held v, [])
/-- The letters by kinds. -/
def letD : DataW Value := ((DataW.map []).put (.int .u8 3) (.held (.int .u8 115))).put (.int .u8 4) (.held (.int .u8 112))
/-- Block g holds them. -/
def LetAt (w : World) (g : Nat) : Prop := w.ownsMap Tryd.prog 5 itself g 2 letD
theorem LetAt.below {w w' : World} {g : Nat} (h : LetAt w g) (hb : w'.heap[g]? = w.heap[g]?) : LetAt w' g := by
  obtain ⟨es, clock, h1, h2, h3, h4⟩ := h
  exact ⟨es, clock, hb.trans h1, h2, h3, h4⟩
theorem LetAt.lt {w : World} {g : Nat} (h : LetAt w g) : g < w.heap.size := World.ownsMap.lt h
theorem let_at {w : World} {g : Nat} (h : LetAt w g) {k : Int} (hk : 0 ≤ k ∧ k ≤ 255) {v : Value} {y : Bool} (hh : Maps.has letD (.int .u8 k) = y) (hv : letD.atKey (.int .u8 k) (.held (.int .u8 0)) = .held v) :
    (Instr.lookup 50 (.map (some g)) (.int .u8 k) true).run Tryd.prog w = .ok (.tuple #[v, .bool y]) w := by
  obtain ⟨u, ps, hrun, hu⟩ := World.ownsMap.look_ok h kind_keyed Tryd.underlying50 (zero_byte w) (zd := .held (.int .u8 0)) (zp := []) rfl (key_kind hk)
  rw [hh] at hrun
  rw [hv] at hu
  have e : u = v := by
    unfold itself at hu
    cases hu
    rfl
  rw [e] at hrun
  exact hrun
theorem let_look {w : World} {g : Nat} (h : LetAt w g) {k : Int} (hk : 0 ≤ k ∧ k ≤ 255) :
    (Instr.lookup 50 (.map (some g)) (.int .u8 k) true).run Tryd.prog w = .ok (.tuple #[.int .u8 (if k = 3 then 115 else if k = 4 then 112 else 0), .bool (decide (k = 3 ∨ k = 4))]) w := by
  by_cases h1 : k = 3
  · subst h1; exact let_at h hk rfl rfl
  by_cases h2 : k = 4
  · subst h2; exact let_at h hk rfl rfl
  rw [if_neg h1, if_neg h2, decide_eq_false (by omega)]
  have n1 : (Lit.int .u8 k) ≠ .int .u8 3 := fun e => by cases e; exact h1 rfl
  have n2 : (Lit.int .u8 k) ≠ .int .u8 4 := fun e => by cases e; exact h2 rfl
  refine let_at h hk ?_ ?_
  · unfold letD
    rw [has_put_other n2, has_put_other n1]
    rfl
  · unfold letD
    rw [atKey_put_other n2, atKey_put_other n1]
    rfl

set_option maxRecDepth 100000 in
set_option maxHeartbeats 400000 in
theorem letters_any (w : World) : Calls Tryd.prog 25 #[] w fun e w' => (∃ g, e = .returned (.map (some g)) ∧ LetAt w' g ∧ w.heap.size ≤ g) ∧ Below w.heap.size w w' := by
  have hmm := @run_makeMap Tryd.prog
  have h0 : (w.alloc (.map #[] 0)).ownsMap Tryd.prog 5 itself w.heap.size 0 (.map []) := World.ownsMap_made w _ _ _
  have b0 := (Below.refl w.heap.size w).alloc (Nat.le_refl _) (.map #[] 0)
  obtain ⟨w1, r1, h1, g1⟩ := h0.update kind_keyed Tryd.underlying50 (by decide) (key_kind (k := 3) (by decide)) (val := .int .u8 115) (d := .held (.int .u8 115)) (ps := []) rfl
  obtain ⟨w2, r2, h2, g2⟩ := h1.update kind_keyed Tryd.underlying50 (by decide) (key_kind (k := 4) (by decide)) (val := .int .u8 112) (d := .held (.int .u8 112)) (ps := []) rfl
  have b1 := b0.grown g1 b0.size (fun k e => by cases e; exact Nat.le_refl _)
  have b2 := b1.grown g2 b1.size (fun k e => by cases e; exact Nat.le_refl _)
  have Ho := Lib.hid (show LetAt w2 w.heap.size from h2)
  clear h0 h1 h2 g1 g2 b0 b1
  go_enter Tryd.func25, Tryd.ntmps25
  go_wp2_with fail
  go_ret
  exact ⟨⟨w.heap.size, rfl, Ho.out, Nat.le_refl _⟩, b2⟩

end Go.Proofs.YtbfdjjkphmchgaaDoor
