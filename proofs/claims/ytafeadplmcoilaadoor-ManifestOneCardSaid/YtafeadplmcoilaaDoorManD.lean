/-
  Manifests: which may be. No program is named here.
-/
import Derived.Test.YtafeadplmcoilaaDoorBase
namespace Go.Proofs.YtafeadplmcoilaaDoor
open Go.RowKit
set_option linter.unusedVariables false

structure SegP where
  sq : Int
  fm : Int
  fi : Int
  ct : Int
deriving DecidableEq
structure ManP where
  nx : Int
  tm : Int
  vt : Int
  ss : Int
  sf : Int
  sg : List SegP
deriving DecidableEq
def FileM (m : ManP) (sq fm : Int) : Prop := 1 ≤ sq ∧ sq ≤ m.nx - 1 ∧ (fm = 1 ∨ fm = 2)
/-- May the segment s at place i be? -/
structure SegM (m : ManP) (i : Nat) (s : SegP) : Prop where
  file : FileM m s.sq s.fm
  snap : s.sq ≠ m.ss
  first : 1 ≤ s.fi ∧ s.fi ≤ 1073741820
  new : ∀ k t, k < i → m.sg[k]? = some t → t.sq ≠ s.sq
  next : ∀ t, 0 < i → m.sg[i - 1]? = some t → s.fi = t.fi + t.ct
  count : (1 ≤ s.ct ∧ s.ct ≤ 4) ∨ (s.ct = -1 ∧ i + 1 = m.sg.length)
/-- May it be? -/
structure May (m : ManP) : Prop where
  nx : 1 ≤ m.nx ∧ m.nx ≤ 1073741824
  tm : 0 ≤ m.tm ∧ m.tm ≤ 1073741824
  vt : 0 ≤ m.vt ∧ m.vt ≤ 5
  few : m.sg.length ≤ 60
  snap : (m.ss = 0 ∧ m.sf = 0) ∨ FileM m m.ss m.sf
  segs : ∀ i s, m.sg[i]? = some s → SegM m i s
def noneM : ManP := ⟨0, 0, 0, 0, 0, []⟩
def CheckIs (m : ManP) (e : Int) : Prop := (May m ∧ e = 0) ∨ (¬ May m ∧ e = 2)
theorem CheckIs.same {m : ManP} {e d : Int} (h : CheckIs m e) (h' : CheckIs m d) : e = d := by
  rcases h with ⟨h, rfl⟩ | ⟨h, rfl⟩ <;> rcases h' with ⟨h', rfl⟩ | ⟨h', rfl⟩
  · rfl
  · exact absurd h h'
  · exact absurd h' h
  · rfl
end Go.Proofs.YtafeadplmcoilaaDoor
