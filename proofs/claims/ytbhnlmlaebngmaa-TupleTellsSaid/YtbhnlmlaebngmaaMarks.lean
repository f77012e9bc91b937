/-
  Leaving a function whose loops over an iterator have left marks among its deferred calls.
-/
import Derived.RangeFuncNested
import Derived.RangeFuncLeaves
import Derived.RangeFuncBox
import Derived.Test.YtbhnlmlaebngmaaBase
namespace Go.Proofs.Ytbhnlmlaebngmaa
open Go.RowKit

def mark (d : Nat) : Deferred := { target := .collected d, args := #[] }
/-- The marks' blocks are new, and hold nothing. -/
def Marks (B : Nat) (ds : List Nat) (w : World) : Prop := ds.Nodup ∧ ∀ d ∈ ds, B ≤ d ∧ w.heap[d]? = some (.deferred (some []))
/-- Whatever is cells lies as it lay, and all below B. -/
def CellsKept (B : Nat) (w w' : World) : Prop := Below B w w' ∧ ∀ (b : Nat) (o : Obj), w.heap[b]? = some o → o.isCells = true → w'.heap[b]? = some o
theorem CellsKept.refl (B : Nat) (w : World) : CellsKept B w w := ⟨Below.refl _ _, fun _ _ h _ => h⟩

theorem leaves_marks {P : Program} {F : Fence} {m : Nat} {fn : Func} {tmps : Array Value} {R : Ending → World → Prop} {B : Nat} : ∀ (ds : List Nat) (w : World), Marks B ds w →
    (∀ w', CellsKept B w w' → ∃ v, (results fn tmps).run P w' = .ok v w' ∧ R (.returned v) w') → LeavesInM F m P fn tmps R (ds.map mark) .returning w := by
  intro ds
  induction ds with
  | nil => intro w _ h; exact h w (CellsKept.refl _ _)
  | cons d ds ih =>
    intro w hm h
    obtain ⟨hd, hk⟩ := hm
    have hd' := List.nodup_cons.1 hd
    have h1 := hk d (by simp)
    refine ⟨by simp, .inl ⟨d, _, rfl, run_takeDeferred h1.2, ?_⟩⟩
    refine ih _ ⟨hd'.2, fun e he => ?_⟩ (fun w' hw' => h w' ?_)
    · have h2 := hk e (by simp [he])
      refine ⟨h2.1, (World.putObj_heap_other ?_).trans h2.2⟩
      rintro rfl
      exact hd'.1 he
    · have hbp : Below B w (w.putObj d (.deferred none)) := ⟨rfl, rfl, rfl, by simp, fun k hk' => World.putObj_heap_other (by have := h1.1; omega)⟩
      refine ⟨hbp.trans hw'.1, fun b o hb ho => hw'.2 b o ((World.putObj_heap_other ?_).trans hb) ho⟩
      rintro rfl
      rw [h1.2] at hb
      cases hb
      cases ho

theorem Marks.below {B : Nat} {ds : List Nat} {w w' : World} (h : Marks B ds w) (hb : Below w.heap.size w w') : Marks B ds w' :=
  ⟨h.1, fun d hd => ⟨(h.2 d hd).1, (hb.block d (Array.getElem?_eq_some_iff.1 (h.2 d hd).2).1).trans (h.2 d hd).2⟩⟩

theorem own_kept {B base size n : Nat} {e : TypeId} {v : Value} {xs : List Value} {w w' : World} (h : w.ownsRow base e size v n xs) (hk : CellsKept B w w') : w'.ownsRow base e size v n xs := by
  refine ⟨h.1, ?_⟩
  rcases h.2 with a | ⟨g, cap, cur, e1, hb, hh, r⟩
  · exact .inl a
  · exact .inr ⟨g, cap, cur, e1, hb, hk.2 _ _ hh rfl, r⟩

end Go.Proofs.Ytbhnlmlaebngmaa
