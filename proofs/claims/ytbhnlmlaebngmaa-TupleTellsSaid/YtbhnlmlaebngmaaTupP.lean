/-
  Package tuple: what is left by panic, and told by recover (must, holds); entries in order (each).
-/
import Derived.Test.YtbhnlmlaebngmaaTupD
import Derived.Test.YtbhnlmlaebngmaaRangeX
import Derived.Defers
import Derived.Recover
import Derived.Laws.Pointers
import Derived.Shelf.Abstract
import Derived.WalkLawsBesides
namespace Go.Proofs.Ytbhnlmlaebngmaa
open Go.RowKit Go.Shelf
set_option linter.unusedVariables false
set_option linter.unusedSimpArgs false

/-- What must leaves by. -/
def fellL : List PanicEntry := [{ v := .iface 29 (.int .i64 2), recovered := false }]
set_option maxRecDepth 100000 in
theorem must_yes (w : World) : Calls Try.prog 44 #[.bool true] w fun e w' => e = .returned (.tuple #[]) ∧ w' = w := by
  go_enter Try.func44, Try.ntmps44
  go_wp2_with fail
  go_end0
  exact ⟨rfl, rfl⟩
set_option maxRecDepth 100000 in
theorem must_no (w : World) : Calls Try.prog 44 #[.bool false] w fun e w' => e = .panicked fellL ∧ w' = w := by
  go_enter Try.func44, Try.ntmps44
  go_wp2_with fail
  exact ⟨rfl, rfl, rfl⟩
theorem must_any (b : Bool) (w : World) : Calls Try.prog 44 #[.bool b] w fun e w' => ((b = true ∧ e = .returned (.tuple #[])) ∨ (b = false ∧ e = .panicked fellL)) ∧ w' = w := by
  cases b
  · exact (must_no w).mono fun e w' h => ⟨.inr ⟨rfl, h.1⟩, h.2⟩
  · exact (must_yes w).mono fun e w' h => ⟨.inl ⟨rfl, h.1⟩, h.2⟩

/-! ### holds -/
/-- What is told, written into the box p. -/
def putB (w : World) (p : Nat) : Bool → World
  | true => (w.setCell ⟨p, 0, none⟩ (.bool true)).setCell ⟨p, 0, none⟩ (.bool true)
  | false => w.setCell ⟨p, 0, none⟩ (.bool false)
theorem holds1_panicking (p : Nat) (x : Bool) (w : World) (hc : w.cell? ⟨p, 0, none⟩ = some (.bool x)) (hz : w.frozen? ⟨p, 0, none⟩ = false) :
    CallsD Try.prog 65 #[.pointer (some ⟨p, 0, none⟩)] (.panicking fellL) w fun e u' w' =>
      e = .returned (.tuple #[]) ∧ u' = .panicking [{ v := .iface 29 (.int .i64 2), recovered := true }] ∧ w' = w.setCell ⟨p, 0, none⟩ (.bool false) := by
  refine callsD_of_wpS Try.func65 rfl fun c₀ cs hu => ?_
  apply wpS_region
  simp [wpOpsS, go_sem, recoverD, hu, Try.ntmps65, fellL, hc, hz, bodyPostS, results, Try.results65]
theorem holds1_idle (p : Nat) (x : Bool) (w : World) (hc : w.cell? ⟨p, 0, none⟩ = some (.bool x)) (hz : w.frozen? ⟨p, 0, none⟩ = false) :
    CallsD Try.prog 65 #[.pointer (some ⟨p, 0, none⟩)] .returning w fun e u' w' => e = .returned (.tuple #[]) ∧ u' = .returning ∧ w' = w.setCell ⟨p, 0, none⟩ (.bool true) := by
  refine callsD_of_wpS Try.func65 rfl fun c₀ cs hu => ?_
  apply wpS_region
  cases c₀
  simp_all [wpOpsS, go_sem, recoverD, Try.ntmps65, bodyPostS, results, Try.results65]
/-- What holds answers. -/
def HoldsOut (R : Bool → World → Prop) (z : Nat) (e : Ending) (w'' : World) : Prop := ∃ b w', R b w' ∧ Boxed w' z 4 (.bool false) ∧ e = .returned (.bool b) ∧ w'' = putB w' z b
set_option maxRecDepth 100000 in
theorem holds_any (g : Nat) (caps : Array Value) (w : World) (hg : Enters Try.prog g) (R : Bool → World → Prop)
    (hl : ∀ W, W = w.alloc (.cells #[.bool false] 4) → Calls Try.prog g caps W fun e w' => ((e = .returned (.tuple #[]) ∧ R true w') ∨ (e = .panicked fellL ∧ R false w')) ∧ Boxed w' w.heap.size 4 (.bool false)) :
    Calls Try.prog 53 #[.func (.func g) #[] caps] w (HoldsOut R w.heap.size) := by
  have hmf : ∀ (fn : Fn) (first cap : Array Value) (w : World), (Instr.makeFunc fn first cap).run Try.prog w = .ok (.func fn first cap) w := fun _ _ _ _ => rfl
  have hen := hg
  unfold Enters at hen
  obtain ⟨z, hz⟩ : ∃ z, z = w.heap.size := ⟨_, rfl⟩
  obtain ⟨W, hW⟩ : ∃ W, W = w.alloc (.cells #[.bool false] 4) := ⟨_, rfl⟩
  have HL := Lib.hid (hl W hW)
  rw [← hz] at HL
  have HW := Lib.hid (⟨hW, hz⟩ : _ ∧ _)
  rw [← hz]
  clear hl hg hz hW
  go_enter_defers Try.func53, Try.ntmps53
  go_wp2_with fail
  rw [← HW.out.1, ← HW.out.2]
  refine Calls.mono HL.out ?_
  rintro e w' ⟨⟨rfl, hR⟩ | ⟨rfl, hR⟩, hb⟩
  · have hc := hb.cell
    have hf := hb.frozen
    have HR := Lib.hid (⟨hR, hb⟩ : _ ∧ _)
    clear hR hb
    go_wp2_with fail
    refine leaves_cons (f := 65) (args := #[.pointer (some ⟨z, 0, none⟩)]) (by simp) (by simp [go_sem]) ?_
    refine (holds1_idle z true _ ?_ ?_).mono ?_
    · exact (HR.out.2.set _).cell
    · exact (HR.out.2.set _).frozen
    rintro e u' w'' ⟨rfl, rfl, rfl⟩
    have hc2 := ((HR.out.2.set (.bool true)).set (.bool true)).cell
    simp [Leaves, settle, results, Try.results53, go_sem, hc2]
    exact ⟨true, w', HR.out.1, HR.out.2, rfl, rfl⟩
  · have HR := Lib.hid (⟨hR, hb⟩ : _ ∧ _)
    clear hR hb
    go_wp2_with fail
    refine leaves_cons (f := 65) (args := #[.pointer (some ⟨z, 0, none⟩)]) (by simp) (by simp [go_sem]) ?_
    refine (holds1_panicking z false _ ?_ ?_).mono ?_
    · exact HR.out.2.cell
    · exact HR.out.2.frozen
    rintro e u' w'' ⟨rfl, rfl, rfl⟩
    have hc2 := (HR.out.2.set (.bool false)).cell
    simp [Leaves, settle, results, Try.results53, go_sem, hc2]
    exact ⟨false, w', HR.out.1, HR.out.2, rfl, rfl⟩
end Go.Proofs.Ytbhnlmlaebngmaa
