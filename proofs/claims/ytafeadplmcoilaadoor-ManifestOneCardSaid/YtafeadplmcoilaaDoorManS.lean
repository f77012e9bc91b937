/-
  Manifests in memory; the document's within, file: their contracts.
-/
import Derived.Test.YtafeadplmcoilaaDoorBase
import Derived.Test.YtafeadplmcoilaaDoorBel
import Derived.Test.YtafeadplmcoilaaDoorDraw
import Derived.Deep.QuietTactic
import Derived.BigQuiet
import Derived.Laws.StructEq
import Derived.Outline
import Derived.ChangeKeysEq
import Derived.Deep.DeepCutAuto
import Derived.RangeFuncRecord
import Derived.Test.YtafeadplmcoilaaDoorRow
import Derived.Test.YtafeadplmcoilaaDoorManD
namespace Go.Proofs.YtafeadplmcoilaaDoor
open Go.RowKit Go.Maps
set_option linter.unusedVariables false
set_option linter.unusedSimpArgs false

def SegP.cs (s : SegP) : List Value := [.int .i64 s.sq, .int .i64 s.fm, .int .i64 s.fi, .int .i64 s.ct]
def SegP.v (s : SegP) : Value := .agg #[.int .i64 s.sq, .int .i64 s.fm, .int .i64 s.fi, .int .i64 s.ct]
theorem SegP.len (s : SegP) : s.cs.length = 4 := rfl
theorem SegP.one (s : SegP) : ∀ u ∈ s.cs, u.oneCell' = true := fun u hu => by
  simp [SegP.cs] at hu
  rcases hu with rfl | rfl | rfl | rfl <;> rfl
/-- Segments at A: a row of them. -/
def Sg (w : World) (B : Nat) (A : Option Addr) (n : Nat) (l : List SegP) : Prop := Row 4 SegP.cs w B A n l
section
variable {w w' : World} {B B' n : Nat} {A : Option Addr} {l : List SegP}
theorem Sg.on (h : Sg w B A n l) (hb : Below B w w') (hB : B ≤ B') : Sg w' B' A n l := Row.on h hb hB
theorem Sg.len (h : Sg w B A n l) : l.length = n := h.1
theorem Sg.at_ (h : Sg w B A n l) {k : Nat} (hk : k < n) :
    ∃ b off s, A = some ⟨b, off, none⟩ ∧ b < B ∧ l[k]? = some s ∧ w.cell? ⟨b, off + k * 4, none⟩ = some (.int .i64 s.sq) ∧ w.cell? ⟨b, off + k * 4 + 1, none⟩ = some (.int .i64 s.fm) ∧ w.cell? ⟨b, off + k * 4 + 2, none⟩ = some (.int .i64 s.fi) ∧ w.cell? ⟨b, off + k * 4 + 3, none⟩ = some (.int .i64 s.ct) := by
  obtain ⟨b, off, s, rfl, hb, hs, hc⟩ := Row.at_ h hk
  have h1 := hc 1 (by omega)
  have h2 := hc 2 (by omega)
  have h3 := hc 3 (by omega)
  rw [← Nat.add_assoc] at h1 h2 h3
  exact ⟨b, off, s, rfl, hb, hs, hc 0 (by omega), h1, h2, h3⟩
end
/-- A manifest whose segments' slice is v. -/
def manV (m : ManP) (v : Value) : Value := .agg #[.int .i64 m.nx, .int .i64 m.tm, .int .i64 m.vt, .int .i64 m.ss, .int .i64 m.sf, v]
def BoxM (W : World) (z : Nat) (m : ManP) (v : Value) : Prop := W.heap[z]? = some (.cells #[.int .i64 m.nx, .int .i64 m.tm, .int .i64 m.vt, .int .i64 m.ss, .int .i64 m.sf, v] 26 (0, 0))
def BoxS (W : World) (z : Nat) (s : SegP) : Prop := W.heap[z]? = some (.cells #[.int .i64 s.sq, .int .i64 s.fm, .int .i64 s.fi, .int .i64 s.ct] 51 (0, 0))
section
variable {W W' : World} {z : Nat} {m : ManP} {s : SegP} {v : Value}
theorem BoxM.cells (h : BoxM W z m v) : W.cell? ⟨z, 0, none⟩ = some (.int .i64 m.nx) ∧ W.cell? ⟨z, 1, none⟩ = some (.int .i64 m.tm) ∧ W.cell? ⟨z, 2, none⟩ = some (.int .i64 m.vt) ∧ W.cell? ⟨z, 3, none⟩ = some (.int .i64 m.ss) ∧ W.cell? ⟨z, 4, none⟩ = some (.int .i64 m.sf) ∧ W.cell? ⟨z, 5, none⟩ = some v := by
  refine ⟨?_, ?_, ?_, ?_, ?_, ?_⟩ <;> (rw [cell_of_row _ _ _ _ _ _ h]; simp)
theorem BoxM.lt (h : BoxM W z m v) : z < W.heap.size := (Array.getElem?_eq_some_iff.1 h).1
theorem BoxM.below (h : BoxM W z m v) (hb : Below W.heap.size W W') : BoxM W' z m v := (hb.block z h.lt).trans h
theorem BoxM.new (w : World) (m : ManP) (v : Value) : BoxM (w.alloc (.cells #[.int .i64 m.nx, .int .i64 m.tm, .int .i64 m.vt, .int .i64 m.ss, .int .i64 m.sf, v] 26)) w.heap.size m v := World.alloc_heap_new w _
theorem BoxS.cells (h : BoxS W z s) : W.cell? ⟨z, 0, none⟩ = some (.int .i64 s.sq) ∧ W.cell? ⟨z, 1, none⟩ = some (.int .i64 s.fm) ∧ W.cell? ⟨z, 2, none⟩ = some (.int .i64 s.fi) ∧ W.cell? ⟨z, 3, none⟩ = some (.int .i64 s.ct) := by
  refine ⟨?_, ?_, ?_, ?_⟩ <;> (rw [cell_of_row _ _ _ _ _ _ h]; simp)
theorem BoxS.lt (h : BoxS W z s) : z < W.heap.size := (Array.getElem?_eq_some_iff.1 h).1
theorem BoxS.below (h : BoxS W z s) (hb : Below W.heap.size W W') : BoxS W' z s := (hb.block z h.lt).trans h
theorem BoxS.new (w : World) (s : SegP) : BoxS (w.alloc (.cells #[.int .i64 s.sq, .int .i64 s.fm, .int .i64 s.fi, .int .i64 s.ct] 51)) w.heap.size s := World.alloc_heap_new w _
end
def inM (n a b : Int) : Bool := decide (a ≤ n ∧ n ≤ b)
theorem inM_iff {n a b : Int} : inM n a b = true ↔ a ≤ n ∧ n ≤ b := by simp [inM]
theorem inM_yes {n a b : Int} (h : a ≤ n ∧ n ≤ b) : inM n a b = true := inM_iff.2 h
theorem inM_no {n a b : Int} (h : ¬ (a ≤ n ∧ n ≤ b)) : inM n a b = false := by simpa [inM] using h
theorem rwithin_any (n a b : Int) (w : World) : Calls Tryd.prog 41 #[.int .i64 n, .int .i64 a, .int .i64 b] w fun e w' => e = .returned (.bool (inM n a b)) ∧ w' = w := by
  by_cases h : a ≤ n
  · by_cases h2 : n ≤ b
    · have e1 := Lib.hid (inM_yes (a := a) (b := b) ⟨h, h2⟩)
      go_enter Tryd.func41, Tryd.ntmps41
      go_wp2_with fail
      go_ret
      exact ⟨by rw [e1.out]; first | rfl | simp [h, h2], rfl⟩
    · have e1 := Lib.hid (inM_no (n := n) (a := a) (b := b) (by omega))
      go_enter Tryd.func41, Tryd.ntmps41
      go_wp2_with fail
      go_ret
      exact ⟨by rw [e1.out]; first | rfl | simp [h, h2], rfl⟩
  · have e1 := Lib.hid (inM_no (n := n) (a := a) (b := b) (by omega))
    go_enter Tryd.func41, Tryd.ntmps41
    go_wp2_with fail
    go_ret
    exact ⟨by rw [e1.out]; first | rfl | simp [h], rfl⟩
def fileB (m : ManP) (sq fm : Int) : Bool := inM sq 1 (m.nx - 1) && (decide (fm = 1) || decide (fm = 2))
theorem fileB_iff {m : ManP} {sq fm : Int} : fileB m sq fm = true ↔ FileM m sq fm := by simp [fileB, inM, FileM, and_assoc]
set_option maxRecDepth 100000 in
theorem rfile_any (m : ManP) (v : Value) (sq fm : Int) (w : World) (hn : 1 ≤ m.nx ∧ m.nx ≤ 1073741824) : Calls Tryd.prog 42 #[manV m v, .int .i64 sq, .int .i64 fm] w fun e w' => e = .returned (.bool (fileB m sq fm)) ∧ Below w.heap.size w w' := by
  obtain ⟨a, ha⟩ : ∃ a, a = m.nx - 1 := ⟨_, rfl⟩
  have h1 : IntKind.i64.wrap (m.nx - 1) = a := by rw [IntKind.wrap_i64]; omega
  have h1' : wrap64 (m.nx - 1) = a := by unfold wrap64; omega
  have Hk := Lib.hid (show fileB m sq fm = (inM sq 1 a && (decide (fm = 1) || decide (fm = 2))) by rw [ha]; rfl)
  have hb := Lib.hid (below_al (below_d0 w) (.cells #[.int .i64 m.nx, .int .i64 m.tm, .int .i64 m.vt, .int .i64 m.ss, .int .i64 m.sf, v] 26))
  unfold manV
  clear ha hn
  cases h2 : inM sq 1 a with
  | false =>
    go_enter Tryd.func42, Tryd.ntmps42
    go_wp2_with (go_at_call 41; refine (rwithin_any _ _ _ _).mono ?_; rintro e w' ⟨rfl, rfl⟩; (try rw [h2]))
    all_goals
      go_ret
      exact ⟨ret_bool (by rw [Hk.out, h2]; rfl), hb.out⟩
  | true =>
    by_cases h3 : fm = 1
    · have b3 : (fm == 1) = true := by simpa using h3
      go_enter Tryd.func42, Tryd.ntmps42
      go_wp2_with (go_at_call 41; refine (rwithin_any _ _ _ _).mono ?_; rintro e w' ⟨rfl, rfl⟩; (try rw [h2]))
      all_goals
        go_ret
        exact ⟨ret_bool (by rw [Hk.out, h2]; simp [h3]), hb.out⟩
    · have b3 : (fm == 1) = false := by simpa using h3
      go_enter Tryd.func42, Tryd.ntmps42
      go_wp2_with (go_at_call 41; refine (rwithin_any _ _ _ _).mono ?_; rintro e w' ⟨rfl, rfl⟩; (try rw [h2]))
      all_goals
        go_ret
        exact ⟨ret_bool (by rw [Hk.out, h2]; by_cases h4 : fm = 2 <;> simp [h3, h4]), hb.out⟩
end Go.Proofs.YtafeadplmcoilaaDoor
