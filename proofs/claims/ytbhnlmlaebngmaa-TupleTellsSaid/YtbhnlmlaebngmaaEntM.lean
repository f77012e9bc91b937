/-
  Entries, plainly; entry.Right and the document's: their contracts; an entry's box; rows of entries (stage 6's texts, as one).
-/
import Derived.Test.YtbhnlmlaebngmaaBase
import Derived.Test.YtbhnlmlaebngmaaBel
import Derived.Test.YtbhnlmlaebngmaaDraw
import Derived.Deep.QuietTactic
import Derived.BigQuiet
import Derived.Laws.StructEq
import Derived.Outline
import Derived.ChangeKeysEq
import Derived.Deep.DeepCutAuto
import Derived.RangeFuncRecord
import Derived.Test.YtbhnlmlaebngmaaRow
namespace Go.Proofs.Ytbhnlmlaebngmaa
open Go.RowKit

/-- A state. -/
structure StP where
  ix : Int
  tm : Int
  sm : Int
  lv : Int
  fn : Bool
deriving DecidableEq
/-- An entry. -/
structure EnP where
  tm : Int
  kd : Int
  vl : Int
deriving DecidableEq
def StP.v (s : StP) : Value := .agg #[.int .i64 s.ix, .int .i64 s.tm, .int .i64 s.sm, .int .i64 s.lv, .bool s.fn]
def EnP.v (e : EnP) : Value := .agg #[.int .i64 e.tm, .int .i64 e.kd, .int .i64 e.vl]
def StP.cs (s : StP) : List Value := [.int .i64 s.ix, .int .i64 s.tm, .int .i64 s.sm, .int .i64 s.lv, .bool s.fn]
def EnP.cs (e : EnP) : List Value := [.int .i64 e.tm, .int .i64 e.kd, .int .i64 e.vl]
/-- Is n from a to b? -/
def inB (n a b : Int) : Bool := decide (a ≤ n ∧ n ≤ b)
theorem inB_iff {n a b : Int} : inB n a b = true ↔ a ≤ n ∧ n ≤ b := by simp [inB]
theorem inB_not {n a b : Int} : inB n a b = false ↔ ¬ (a ≤ n ∧ n ≤ b) := by simp [inB]
theorem inB_yes {n a b : Int} (h : a ≤ n ∧ n ≤ b) : inB n a b = true := inB_iff.2 h
theorem inB_no {n a b : Int} (h : ¬ (a ≤ n ∧ n ≤ b)) : inB n a b = false := inB_not.2 h
/-- It may be. -/
def RightP (e : EnP) : Prop := (1 ≤ e.tm ∧ e.tm ≤ 1073741824) ∧ (0 ≤ e.kd ∧ e.kd ≤ 4) ∧ (0 ≤ e.vl ∧ e.vl ≤ 1073741824) ∧ (e.kd = 1 ∨ e.vl = 0)
instance (e : EnP) : Decidable (RightP e) := by unfold RightP; infer_instance
def rightB (e : EnP) : Bool := decide (RightP e)
theorem rightB_iff {e : EnP} : rightB e = true ↔ RightP e := by simp [rightB]
theorem rightB_not {e : EnP} : rightB e = false ↔ ¬ RightP e := by simp [rightB]
def firstP : StP := ⟨0, 0, 0, 1, false⟩
def FineP (s : StP) : Prop := (0 ≤ s.ix ∧ s.ix ≤ 1073741824) ∧ (0 ≤ s.tm ∧ s.tm ≤ 1073741824) ∧ (0 ≤ s.sm ∧ s.sm ≤ 1073741824) ∧ (s.tm = 0 ↔ s.ix = 0) ∧ (s.lv = 1 ∨ s.lv = 2) ∧ (s.fn = true → s.lv = 2) ∧ (s.ix = 0 → s = firstP)
instance (s : StP) : Decidable (FineP s) := by unfold FineP; infer_instance
def fineB (s : StP) : Bool := decide (FineP s)
theorem fineB_iff {s : StP} : fineB s = true ↔ FineP s := by simp [fineB]
theorem fineB_not {s : StP} : fineB s = false ↔ ¬ FineP s := by simp [fineB]
/-- Something comes behind it. -/
def GoesP (s : StP) (e : EnP) : Prop := FineP s ∧ RightP e ∧ s.ix ≠ 1073741824
instance (s : StP) (e : EnP) : Decidable (GoesP s e) := by unfold GoesP; infer_instance
/-- What an entry of each kind does. -/
def doesP (s : StP) (k v : Int) : StP :=
  if k = 1 then { s with sm := (s.sm * 31 + v + 1) % 1073741824 }
  else if k = 2 then { s with lv := 2 }
  else if k = 3 then (if s.fn = true then s else { s with lv := 1 })
  else if k = 4 then { s with fn := decide (s.lv = 2) }
  else s
def nextP (s : StP) (e : EnP) : StP := if GoesP s e then doesP ⟨s.ix + 1, e.tm, s.sm, s.lv, s.fn⟩ e.kd e.vl else s
def allP (s : StP) (l : List EnP) : StP := l.foldl nextP s
def levelsP (s : StP) (l : List EnP) : List Int := (List.range l.length).map fun i => (allP s (l.take (i + 1))).lv
def nameK (k : Int) : List UInt8 :=
  if k = 0 then [110, 111, 111, 112] else if k = 1 then [100, 97, 116, 97] else if k = 2 then [112, 114, 111, 112, 111, 115, 101] else if k = 3 then [114, 101, 118, 101, 114, 116] else if k = 4 then [102, 105, 110, 97, 108] else []

/-- The numbers are ints. -/
structure StP.Ok (s : StP) : Prop where
  i0 : -9223372036854775808 ≤ s.ix
  i1 : s.ix ≤ 9223372036854775807
  t0 : -9223372036854775808 ≤ s.tm
  t1 : s.tm ≤ 9223372036854775807
  s0 : -9223372036854775808 ≤ s.sm
  s1 : s.sm ≤ 9223372036854775807
  l0 : -9223372036854775808 ≤ s.lv
  l1 : s.lv ≤ 9223372036854775807
structure EnP.Ok (e : EnP) : Prop where
  t0 : -9223372036854775808 ≤ e.tm
  t1 : e.tm ≤ 9223372036854775807
  k0 : -9223372036854775808 ≤ e.kd
  k1 : e.kd ≤ 9223372036854775807
  v0 : -9223372036854775808 ≤ e.vl
  v1 : e.vl ≤ 9223372036854775807

theorem StP.ext_ {s t : StP} (a : s.ix = t.ix) (b : s.tm = t.tm) (c : s.sm = t.sm) (d : s.lv = t.lv) (e : s.fn = t.fn) : s = t := by
  cases s; cases t; simp only at a b c d e; subst a b c d e; rfl
theorem right_first {t : Int} (h : 1 ≤ t ∧ t ≤ 1073741824) : RightP ⟨t, 0, 0⟩ := by unfold RightP; dsimp only; omega
theorem fine_first : FineP firstP := by decide
theorem fine_zero {s : StP} (h : s.ix = 0) : FineP s ↔ s = firstP := ⟨fun hf => hf.2.2.2.2.2.2 h, fun h => h ▸ fine_first⟩
theorem fine_pos {s : StP} (h : s.ix ≠ 0) : FineP s ↔ (1 ≤ s.ix ∧ s.ix ≤ 1073741824) ∧ (1 ≤ s.tm ∧ s.tm ≤ 1073741824) ∧ (0 ≤ s.sm ∧ s.sm ≤ 1073741824) ∧ (1 ≤ s.lv ∧ s.lv ≤ 2) ∧ (s.lv = 2 ∨ s.fn = false) := by
  unfold FineP
  cases hf : s.fn <;> simp <;> omega
/-- The equation of what comes behind. -/
theorem next_yes {s : StP} {e : EnP} (h : GoesP s e) : nextP s e = doesP ⟨s.ix + 1, e.tm, s.sm, s.lv, s.fn⟩ e.kd e.vl := if_pos h
theorem next_no {s : StP} {e : EnP} (h : ¬ GoesP s e) : nextP s e = s := if_neg h
theorem does_0 (s : StP) (v : Int) : doesP s 0 v = s := rfl
theorem does_ix (s : StP) (k v : Int) : (doesP s k v).ix = s.ix ∧ (doesP s k v).tm = s.tm := by
  unfold doesP
  repeat' split
  all_goals exact ⟨rfl, rfl⟩
theorem does_fine {s : StP} {k v : Int} (hs : FineP s) (h1 : s.ix ≠ 0) : FineP (doesP s k v) := by
  have e := does_ix s k v
  rw [fine_pos (by rw [e.1]; exact h1), e.1, e.2]
  rw [fine_pos h1] at hs
  obtain ⟨a, b, c, d, f⟩ := hs
  refine ⟨a, b, ?_⟩
  unfold doesP
  by_cases k1 : k = 1
  · rw [if_pos k1]; exact ⟨by dsimp only; omega, d, f⟩
  rw [if_neg k1]
  by_cases k2 : k = 2
  · rw [if_pos k2]; exact ⟨c, by dsimp only; omega, .inl rfl⟩
  rw [if_neg k2]
  by_cases k3 : k = 3
  · rw [if_pos k3]
    by_cases hf : s.fn = true
    · rw [if_pos hf]; exact ⟨c, d, f⟩
    · rw [if_neg hf]; exact ⟨c, by dsimp only; omega, .inr (by simpa using hf)⟩
  rw [if_neg k3]
  by_cases k4 : k = 4
  · rw [if_pos k4]
    refine ⟨c, d, ?_⟩
    by_cases hl : s.lv = 2
    · exact .inl hl
    · exact .inr (by simpa using hl)
  rw [if_neg k4]
  exact ⟨c, d, f⟩
theorem fine_step {s : StP} {t : Int} (hs : FineP s) (h : s.ix ≠ 1073741824) (ht : 1 ≤ t ∧ t ≤ 1073741824) : FineP ⟨s.ix + 1, t, s.sm, s.lv, s.fn⟩ ∧ s.ix + 1 ≠ 0 := by
  obtain ⟨a, b, c, d, e, f, _⟩ := hs
  have h0 : s.ix + 1 ≠ 0 := by omega
  refine ⟨(fine_pos h0).2 ⟨by dsimp only; omega, ht, c, by dsimp only; omega, ?_⟩, h0⟩
  dsimp only
  cases hf : s.fn
  · exact .inr rfl
  · exact .inl (f hf)
theorem next_fine {s : StP} {e : EnP} (hs : FineP s) : FineP (nextP s e) := by
  by_cases h : GoesP s e
  · rw [next_yes h]
    obtain ⟨h1, h2⟩ := fine_step hs h.2.2 h.2.1.1
    exact does_fine h1 h2
  · rw [next_no h]; exact hs
theorem all_fine {s : StP} (l : List EnP) (hs : FineP s) : FineP (allP s l) := by
  unfold allP
  induction l generalizing s with
  | nil => exact hs
  | cons e l ih => exact ih (next_fine hs)
theorem all_append (s : StP) (l m : List EnP) : allP s (l ++ m) = allP (allP s l) m := List.foldl_append
theorem all_snoc (s : StP) (l : List EnP) (e : EnP) : allP s (l ++ [e]) = nextP (allP s l) e := by rw [all_append]; rfl
theorem levels_len (s : StP) (l : List EnP) : (levelsP s l).length = l.length := by simp [levelsP]
end Go.Proofs.Ytbhnlmlaebngmaa

namespace Go.Proofs.Ytbhnlmlaebngmaa
open Go.RowKit

theorem beq_eq_decide (a b : Int) : (a == b) = decide (a = b) := by rw [Bool.eq_iff_iff]; simp
theorem within_any (n a b : Int) (w : World) : Calls Try.prog 71 #[.int .i64 n, .int .i64 a, .int .i64 b] w fun e w' => e = .returned (.bool (inB n a b)) ∧ w' = w := by
  by_cases h : a ≤ n
  · by_cases h2 : n ≤ b
    · have e1 := Lib.hid (inB_yes ⟨h, h2⟩)
      go_enter Try.func71, Try.ntmps71
      go_wp2_with fail
      go_ret
      exact ⟨by rw [e1.out]; first | rfl | simp [h, h2], rfl⟩
    · have e1 := Lib.hid (inB_no (n := n) (a := a) (b := b) (by omega))
      go_enter Try.func71, Try.ntmps71
      go_wp2_with fail
      go_ret
      exact ⟨by rw [e1.out]; first | rfl | simp [h, h2], rfl⟩
  · have e1 := Lib.hid (inB_no (n := n) (a := a) (b := b) (by omega))
    go_enter Try.func71, Try.ntmps71
    go_wp2_with fail
    go_ret
    exact ⟨by rw [e1.out]; first | rfl | simp [h], rfl⟩
theorem number_any (n : Int) (w : World) : Calls Try.prog 61 #[.int .i64 n] w fun e w' => e = .returned (.bool (inB n 0 1073741824)) ∧ w' = w := by
  by_cases h : 0 ≤ n
  · by_cases h2 : n ≤ 1073741824
    · have e1 := Lib.hid (inB_yes (a := 0) (b := 1073741824) ⟨h, h2⟩)
      go_enter Try.func61, Try.ntmps61
      go_wp2_with fail
      go_ret
      exact ⟨by rw [e1.out]; first | rfl | simp [h, h2], rfl⟩
    · have e1 := Lib.hid (inB_no (n := n) (a := 0) (b := 1073741824) (by omega))
      go_enter Try.func61, Try.ntmps61
      go_wp2_with fail
      go_ret
      exact ⟨by rw [e1.out]; first | rfl | simp [h, h2], rfl⟩
  · have e1 := Lib.hid (inB_no (n := n) (a := 0) (b := 1073741824) (by omega))
    go_enter Try.func61, Try.ntmps61
    go_wp2_with fail
    go_ret
    exact ⟨by rw [e1.out]; first | rfl | simp [h], rfl⟩

theorem right_any (e : EnP) (w : World) : Calls Try.prog 73 #[e.v] w fun r w' => r = .returned (.bool (rightB e)) ∧ Below w.heap.size w w' := by
  obtain ⟨t, k, v⟩ := e
  unfold EnP.v
  have key : rightB ⟨t, k, v⟩ = (inB t 1 1073741824 && inB k 0 4 && (if k = 1 then inB v 0 1073741824 else decide (v = 0))) := by
    rw [Bool.eq_iff_iff, rightB_iff]
    unfold RightP
    by_cases h : k = 1
    · simp [inB, h]
    · simp [inB, h]; omega
  have Hk := Lib.hid key
  clear key
  by_cases h1 : inB t 1 1073741824 = true
  · by_cases h2 : inB k 0 4 = true
    · by_cases h3 : k = 1
      · subst h3
        go_enter Try.func73, Try.ntmps73
        go_wp2_with (go_at_call 71; refine (within_any _ _ _ _).mono ?_; rintro e w' ⟨rfl, rfl⟩)
        go_ret
        exact ⟨by rw [Hk.out]; simp [h1, h2], below_al (below_d0 w) _⟩
      · have b3 : (k == 1) = false := by simpa using h3
        go_enter Try.func73, Try.ntmps73
        go_wp2_with (go_at_call 71; refine (within_any _ _ _ _).mono ?_; rintro e w' ⟨rfl, rfl⟩)
        all_goals
          go_ret
          exact ⟨ret_bool (by rw [Hk.out, h1, h2, if_neg h3, beq_eq_decide]; rfl), below_al (below_d0 w) _⟩
    · replace h2 := Bool.eq_false_iff.2 h2
      go_enter Try.func73, Try.ntmps73
      go_wp2_with (go_at_call 71; refine (within_any _ _ _ _).mono ?_; rintro e w' ⟨rfl, rfl⟩)
      go_ret
      exact ⟨by rw [Hk.out]; simp [h1, h2], below_al (below_d0 w) _⟩
  · replace h1 := Bool.eq_false_iff.2 h1
    go_enter Try.func73, Try.ntmps73
    go_wp2_with (go_at_call 71; refine (within_any _ _ _ _).mono ?_; rintro e w' ⟨rfl, rfl⟩)
    go_ret
    exact ⟨by rw [Hk.out]; simp [h1], below_al (below_d0 w) _⟩
end Go.Proofs.Ytbhnlmlaebngmaa

namespace Go.Proofs.Ytbhnlmlaebngmaa
open Go.RowKit

/-- Box z holds an entry. -/
def BoxE (W : World) (z : Nat) (e : EnP) : Prop := W.heap[z]? = some (.cells #[.int .i64 e.tm, .int .i64 e.kd, .int .i64 e.vl] 39 (0, 0))
section
variable {W W' : World} {z : Nat} {s : StP} {e : EnP}
theorem BoxE.cells (h : BoxE W z e) : W.cell? ⟨z, 0, none⟩ = some (.int .i64 e.tm) ∧ W.cell? ⟨z, 1, none⟩ = some (.int .i64 e.kd) ∧ W.cell? ⟨z, 2, none⟩ = some (.int .i64 e.vl) := by
  refine ⟨?_, ?_, ?_⟩ <;> (rw [cell_of_row _ _ _ _ _ _ h]; simp)
theorem BoxE.lt (h : BoxE W z e) : z < W.heap.size := (Array.getElem?_eq_some_iff.1 h).1
theorem BoxE.below (h : BoxE W z e) (hb : Below W.heap.size W W') : BoxE W' z e := (hb.block z h.lt).trans h
theorem BoxE.new (w : World) (e : EnP) : BoxE (w.alloc (.cells #[.int .i64 e.tm, .int .i64 e.kd, .int .i64 e.vl] 39)) w.heap.size e := World.alloc_heap_new w _
end

theorem right_key (e : EnP) : rightB e = (decide (e.tm ≥ 1) && (inB e.tm 0 1073741824 && (decide (e.kd ≥ 0) && (decide (e.kd < 5) && (inB e.vl 0 1073741824 && (e.kd == 1 || e.vl == 0)))))) := by
  rw [Bool.eq_iff_iff, rightB_iff]
  unfold RightP
  simp [inB]
  omega
set_option maxRecDepth 100000 in
set_option maxHeartbeats 1000000 in
theorem rright_any (e : EnP) (w : World) : Calls Try.prog 56 #[e.v] w fun r w' => r = .returned (.bool (rightB e)) ∧ Below w.heap.size w w' := by
  have Hk := Lib.hid (right_key e)
  unfold EnP.v
  cases h1 : decide (1 ≤ e.tm) with
  | false =>
    go_enter Try.func56, Try.ntmps56
    go_wp2_with (go_at_call 61; refine (number_any _ _).mono ?_; rintro e w' ⟨rfl, rfl⟩)
    go_ret
    exact ⟨ret_bool (by rw [Hk.out]; simp only [ge_iff_le, h1]; rfl), below_al (below_d0 w) _⟩
  | true =>
    cases h2 : inB e.tm 0 1073741824 with
    | false =>
      go_enter Try.func56, Try.ntmps56
      go_wp2_with (go_at_call 61; refine (number_any _ _).mono ?_; rintro e w' ⟨rfl, rfl⟩)
      go_ret
      exact ⟨ret_bool (by rw [Hk.out]; simp only [ge_iff_le, h1, h2]; rfl), below_al (below_d0 w) _⟩
    | true =>
      cases h3 : decide (0 ≤ e.kd) with
      | false =>
        go_enter Try.func56, Try.ntmps56
        go_wp2_with (go_at_call 61; refine (number_any _ _).mono ?_; rintro e w' ⟨rfl, rfl⟩)
        go_ret
        exact ⟨ret_bool (by rw [Hk.out]; simp only [ge_iff_le, h1, h2, h3]; rfl), below_al (below_d0 w) _⟩
      | true =>
        cases h4 : decide (e.kd < 5) with
        | false =>
          go_enter Try.func56, Try.ntmps56
          go_wp2_with (go_at_call 61; refine (number_any _ _).mono ?_; rintro e w' ⟨rfl, rfl⟩)
          go_ret
          exact ⟨ret_bool (by rw [Hk.out]; simp only [ge_iff_le, h1, h2, h3, h4]; rfl), below_al (below_d0 w) _⟩
        | true =>
          cases h5 : inB e.vl 0 1073741824 with
          | false =>
            go_enter Try.func56, Try.ntmps56
            go_wp2_with (go_at_call 61; refine (number_any _ _).mono ?_; rintro e w' ⟨rfl, rfl⟩)
            go_ret
            exact ⟨ret_bool (by rw [Hk.out]; simp only [ge_iff_le, h1, h2, h3, h4, h5]; rfl), below_al (below_d0 w) _⟩
          | true =>
            cases h6 : (e.kd == 1) with
            | false =>
              cases h7 : (e.vl == 0) with
              | false =>
                go_enter Try.func56, Try.ntmps56
                go_wp2_with (go_at_call 61; refine (number_any _ _).mono ?_; rintro e w' ⟨rfl, rfl⟩)
                go_ret
                exact ⟨ret_bool (by rw [Hk.out]; simp only [ge_iff_le, h1, h2, h3, h4, h5, h6, h7]; rfl), below_al (below_d0 w) _⟩
              | true =>
                go_enter Try.func56, Try.ntmps56
                go_wp2_with (go_at_call 61; refine (number_any _ _).mono ?_; rintro e w' ⟨rfl, rfl⟩)
                go_ret
                exact ⟨ret_bool (by rw [Hk.out]; simp only [ge_iff_le, h1, h2, h3, h4, h5, h6, h7]; rfl), below_al (below_d0 w) _⟩
            | true =>
              go_enter Try.func56, Try.ntmps56
              go_wp2_with (go_at_call 61; refine (number_any _ _).mono ?_; rintro e w' ⟨rfl, rfl⟩)
              go_ret
              exact ⟨ret_bool (by rw [Hk.out]; simp only [ge_iff_le, h1, h2, h3, h4, h5, h6]; rfl), below_al (below_d0 w) _⟩
end Go.Proofs.Ytbhnlmlaebngmaa

namespace Go.Proofs.Ytbhnlmlaebngmaa
open Go.RowKit Go.Maps

theorem EnP.len (e : EnP) : e.cs.length = 3 := rfl
theorem EnP.one (e : EnP) : ∀ u ∈ e.cs, u.oneCell' = true := fun u hu => by
  simp [EnP.cs] at hu
  rcases hu with rfl | rfl | rfl <;> rfl
/-- Entries at A: a row of them. -/
def Es (w : World) (B : Nat) (A : Option Addr) (n : Nat) (l : List EnP) : Prop := Row 3 EnP.cs w B A n l
section
variable {w w' : World} {B B' n : Nat} {A : Option Addr} {l : List EnP}
theorem Es.on (h : Es w B A n l) (hb : Below B w w') (hB : B ≤ B') : Es w' B' A n l := Row.on h hb hB
theorem Es.len (h : Es w B A n l) : l.length = n := h.1
theorem Es.low (h : Es w B A n l) (hb : ∀ k, k < B → w'.heap[k]? = w.heap[k]?) : Es w' B A n l :=
  ⟨h.1, fun hn => by
    obtain ⟨b, off, e, hlt, hc⟩ := h.2 hn
    exact ⟨b, off, e, hlt, fun i x hi j hj => (World.cell?_of_block (a := ⟨b, off + (i * 3 + j), none⟩) (hb b hlt)).trans (hc i x hi j hj)⟩⟩
theorem Es.at_ (h : Es w B A n l) {k : Nat} (hk : k < n) :
    ∃ b off e, A = some ⟨b, off, none⟩ ∧ b < B ∧ l[k]? = some e ∧ w.cell? ⟨b, off + k * 3, none⟩ = some (.int .i64 e.tm) ∧ w.cell? ⟨b, off + k * 3 + 1, none⟩ = some (.int .i64 e.kd) ∧ w.cell? ⟨b, off + k * 3 + 2, none⟩ = some (.int .i64 e.vl) := by
  obtain ⟨b, off, e, rfl, hb, he, hc⟩ := Row.at_ h hk
  have h1 := hc 1 (by omega)
  have h2 := hc 2 (by omega)
  rw [← Nat.add_assoc] at h1 h2
  exact ⟨b, off, e, rfl, hb, he, hc 0 (by omega), h1, h2⟩
end
theorem take_succ {α : Type} {l : List α} {k : Nat} {e : α} (h : l[k]? = some e) : l.take (k + 1) = l.take k ++ [e] := by rw [List.take_add_one, h]; rfl
end Go.Proofs.Ytbhnlmlaebngmaa

