/-
  A scope of several labels: what holds at each label holds at its first coming and at every jump; the code behind each is walked once.
-/
import Derived.Test.YtbfdjjkphmchgaaDoorBase
import Derived.Scope
import Derived.ScopeJumps
import Derived.WalkMore
import Derived.Outline
namespace Go.Proofs.YtbfdjjkphmchgaaDoor
open Go

/-- As Q; by a goto to a label: what holds there. -/
def Exit.labels (J : Nat → Act → World → Prop) (Q : Exit → Act → World → Prop) : Exit → Act → World → Prop
  | .goto l, a, w => J l a w
  | e, a, w => Q e a w

section
variable {P : Program} {a : Act} {w : World} {Q : Exit → Act → World → Prop}
theorem scope_labels {c : Code} (R : Nat → Code) (J : Nat → Act → World → Prop) (μ : Nat → Act → World → Nat) (hf : ∀ l a w, J l a w → findLabel c l = some (R l))
    (first : c.wp P (Exit.labels J Q) a w)
    (pass : ∀ l a w, J l a w → (R l).wp P (Exit.labels (fun l' a' w' => J l' a' w' ∧ μ l' a' w' < μ l a w) Q) a w) : (Code.scope c).wp P Q a w := by
  intro b k cs
  have from_ : ∀ m l a w, μ l a w = m → J l a w → ∃ e a' w', Q e a' w' ∧ Arrives P (lone (b.at a (.code (R l) :: .inScope c :: k)) cs w) b k cs e a' w' := by
    intro m
    induction m using Nat.strongRecOn with
    | _ m ih =>
      intro l a w hm hJ
      obtain ⟨e, a1, w1, hq, arr⟩ := pass l a w hJ b (.inScope c :: k) cs
      cases e with
      | goto l' =>
        obtain ⟨hJ', hlt⟩ := hq
        obtain ⟨e2, a2, w2, hq2, arr2⟩ := ih _ (by omega) l' a1 w1 rfl hJ'
        exact ⟨e2, a2, w2, hq2, .of_steps (arr _ (by simp [gotoIn, hf _ _ _ hJ'])) arr2⟩
      | normal => exact ⟨.normal, a1, w1, hq, Steps.trans arr (.one step_inScope)⟩
      | exit id => exact ⟨.exit id, a1, w1, hq, fun k' hk => arr k' (by simp [exitTo, hk])⟩
      | ret => exact ⟨_, a1, w1, hq, arr⟩
      | panic ch => exact ⟨_, a1, w1, hq, arr⟩
      | outgrown => exact ⟨_, a1, w1, hq, arr⟩
  obtain ⟨e, a1, w1, hq, arr⟩ := first b (.inScope c :: k) cs
  cases e with
  | goto l' =>
    obtain ⟨e2, a2, w2, hq2, arr2⟩ := from_ _ l' a1 w1 rfl hq
    exact ⟨e2, a2, w2, hq2, .of_steps (.head step_scope (arr _ (by simp [gotoIn, hf _ _ _ hq]))) arr2⟩
  | normal => exact ⟨.normal, a1, w1, hq, .head step_scope (Steps.trans arr (.one step_inScope))⟩
  | exit id => exact ⟨.exit id, a1, w1, hq, fun k' hk => .head step_scope (arr k' (by simp [exitTo, hk]))⟩
  | ret => exact ⟨_, a1, w1, hq, .of_steps (.one step_scope) arr⟩
  | panic ch => exact ⟨_, a1, w1, hq, .of_steps (.one step_scope) arr⟩
  | outgrown => exact ⟨_, a1, w1, hq, .of_steps (.one step_scope) arr⟩
theorem Exit.labels_mono {J J' : Nat → Act → World → Prop} (h : ∀ l a w, J l a w → J' l a w) : ∀ e a w, Exit.labels J Q e a w → Exit.labels J' Q e a w := by
  intro e a w hq
  cases e with
  | goto l => exact h l a w hq
  | _ => exact hq
/-- .. the code behind each label walked once. -/
theorem scope_labels_once {c : Code} (rest : Nat → Code) (J : Nat → Act → World → Prop) (μ : Nat → Act → World → Nat) (hf : ∀ l a w, J l a w → findLabel c l = some (.seq .skip (rest l)))
    (first : (∀ l a w, J l a w → (rest l).wp P (Exit.labels J Q) a w) → c.wp P (Exit.labels J Q) a w)
    (pass : ∀ l a w, J l a w → (rest l).wp P (Exit.labels (fun l' a' w' => J l' a' w' ∧ μ l' a' w' < μ l a w) Q) a w) : (Code.scope c).wp P Q a w :=
  scope_labels (fun l => .seq .skip (rest l)) J μ hf (first fun l a w h => wp_mono (pass l a w h) (Exit.labels_mono fun _ _ _ h => h.1)) fun l a w h => wp_seq (wp_skip (pass l a w h))
/-- Two labels: 1, to which the run comes back; 0, behind which it doesn't jump. -/
def JTwo (J0 J1 : Act → World → Prop) (l : Nat) (a : Act) (w : World) : Prop := (l = 0 ∧ J0 a w) ∨ (l = 1 ∧ J1 a w)
theorem JTwo.zero {J0 J1 : Act → World → Prop} {a : Act} {w : World} (h : J0 a w) : JTwo J0 J1 0 a w := .inl ⟨rfl, h⟩
theorem JTwo.one {J0 J1 : Act → World → Prop} {a : Act} {w : World} (h : J1 a w) : JTwo J0 J1 1 a w := .inr ⟨rfl, h⟩
theorem scope_two {c rest0 rest1 : Code} (J0 J1 : Act → World → Prop) (μ : Act → World → Nat) (hf0 : findLabel c 0 = some (.seq .skip rest0)) (hf1 : findLabel c 1 = some (.seq .skip rest1))
    (first : (∀ a w, J1 a w → rest1.wp P (Exit.labels (JTwo J0 J1) Q) a w) → c.wp P (Exit.labels (JTwo J0 J1) Q) a w)
    (pass1 : ∀ a w, J1 a w → (∀ (J : Nat → Act → World → Prop) a w, J0 a w → rest0.wp P (Exit.labels J Q) a w) → rest1.wp P (Exit.labels (JTwo J0 fun a' w' => J1 a' w' ∧ μ a' w' < μ a w) Q) a w)
    (pass0 : ∀ (J : Nat → Act → World → Prop) a w, J0 a w → rest0.wp P (Exit.labels J Q) a w) : (Code.scope c).wp P Q a w := by
  refine scope_labels_once (fun l => if l = 1 then rest1 else rest0) (JTwo J0 J1) (fun l a w => if l = 1 then μ a w + 1 else 0) ?_ ?_ ?_
  · rintro l a w (⟨rfl, _⟩ | ⟨rfl, _⟩)
    · exact hf0
    · exact hf1
  · exact fun h => first fun a w hJ => h 1 a w (.inr ⟨rfl, hJ⟩)
  · rintro l a w (⟨rfl, h⟩ | ⟨rfl, h⟩)
    · exact pass0 _ a w h
    · refine wp_mono (pass1 a w h pass0) (Exit.labels_mono ?_)
      rintro l a' w' (⟨rfl, h'⟩ | ⟨rfl, h', hlt⟩)
      · exact ⟨.inl ⟨rfl, h'⟩, by simp⟩
      · exact ⟨.inr ⟨rfl, h'⟩, by simp; exact hlt⟩
end

end Go.Proofs.YtbfdjjkphmchgaaDoor
