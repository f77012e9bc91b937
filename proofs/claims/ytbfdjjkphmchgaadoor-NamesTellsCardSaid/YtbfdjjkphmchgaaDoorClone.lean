/-
  slices.Clone at idents, names.Sort: their contracts.
-/
import Derived.Test.YtbfdjjkphmchgaaDoorStab
import Derived.Lib.SliceRun
namespace Go.Proofs.YtbfdjjkphmchgaaDoor
open Go.RowKit Go.Sort
set_option linter.unusedVariables false
set_option linter.unusedSimpArgs false

theorem info_ident : (Tryd.prog.info? 23).map (fun i => (i.zero, i.size, i.bytes)) = some (some (.agg #[.int .u8 0, .int .i64 0, .int .i64 0]), 3, 24) := by kernel_rfl
theorem ident_cells : (Value.agg #[.int .u8 0, .int .i64 0, .int .i64 0]).cells.size = 3 := rfl

set_option maxRecDepth 100000 in
set_option maxHeartbeats 2000000 in
theorem clone_any (a : Addr) (n c : Nat) (l : List IdP) (w : World) (hr : Row 3 IdP.cs w w.heap.size (some a) n l) (hn : n ≤ 1000) :
    Calls Tryd.prog 30 #[.slice (some a) n c] w fun e w' => (∃ g c', e = .returned (.slice (some ⟨g, 0, none⟩) n c') ∧ n ≤ c' ∧ Srt w' w.heap.size g n c' l.toArray) ∧ Below w.heap.size w w' := by
  obtain ⟨i0, hi, hz0, hz1, hz2⟩ := info_partsV info_ident
  have hq : (binOp .eql 25 (.slice (some a) n c) (.slice none 0 0)).run Tryd.prog w = .ok (.bool false) w := by
    simp only [binOp]
    simp [Op.equal, Op.maxDepth, Lib.run_equalIn_slice_nil w 9999 25 23 (some a) n c 0 0 Tryd.underlying25]
  have hl : l.length = n := hr.1
  have hsrc := hr.source (by omega) IdP.len IdP.one
  clear hr
  go_enter Tryd.func30, Tryd.ntmps30
  go_wp2_with (at_builtin; refine hold ?_)
  refine unhold (wpList_append (.tmp 5) (.tmp 6) 25 Tryd.underlying25 hi hz0 hz1 hz2 ident_cells (by omega) (own_empty w w.heap.size 23 3 (Nat.le_refl _)) (hsrc.alloc _) (by unfold maxLen; omega) (by omega) (by simp) rfl rfl rfl rfl ?_)
  intro v1 w5 L3
  have hb5 : Below w.heap.size w w5 := L3.below ((Below.refl _ w).alloc (Nat.le_refl _) _) (by simp) (fun g hg => by simp [Value.ownBlock] at hg; omega)
  obtain ⟨g, c', rfl, hc', own⟩ : ∃ g c', v1 = .slice (some ⟨g, 0, none⟩) n c' ∧ n ≤ c' ∧ Srt w5 w.heap.size g n c' l.toArray := by
    have own := L3.1
    have hblk := L3.2.2
    rw [Nat.zero_add, List.nil_append] at own
    have own2 := own
    rcases own.2 with ⟨rfl, _⟩ | ⟨g, cap, cur, rfl, _, _, hnc, _⟩
    · rcases hblk with hblk | hblk <;> simp [Value.ownBlock] at hblk
    · exact ⟨g, cap, rfl, hnc, by simpa using hl, by simpa using own2⟩
  have HO := Lib.hid (⟨hc', own, hb5⟩ : _ ∧ _ ∧ _)
  clear L3 own hb5 hc'
  go_wp2_with fail
  go_ret
  exact ⟨⟨g, c', rfl, HO.out.1, HO.out.2.1⟩, HO.out.2.2⟩

set_option maxRecDepth 100000 in
set_option maxHeartbeats 2000000 in
/-- names.Sort: a row of its own, in order, with the same idents. -/
theorem sort_any (a : Addr) (n c : Nat) (l : List IdP) (w : World) (hr : Row 3 IdP.cs w w.heap.size (some a) n l) (hn : n ≤ 40) :
    Calls Tryd.prog 19 #[.slice (some a) n c] w fun e w' => (∃ g c' d, e = .returned (.slice (some ⟨g, 0, none⟩) n c') ∧ n ≤ c' ∧ Srt w' w.heap.size g n c' d ∧ Whole l d) ∧ Below w.heap.size w w' := by
  have hcl := clone_any a n c l w hr (by omega)
  clear hr
  go_enter Tryd.func19, Tryd.ntmps19
  go_wp2_with fail
  refine hcl.mono ?_
  rintro e w1 ⟨⟨g, c', rfl, hc', hs⟩, hb1⟩
  have hso := sortStable_any w.heap.size g n c' l.toArray w1 hs hn
  have H1 := Lib.hid (⟨hc', hb1⟩ : _ ∧ _)
  clear hc' hs hb1 hcl
  go_wp2_with fail
  refine hso.mono ?_
  rintro e w2 ⟨rfl, ⟨d, hs2, hw2⟩, hb2⟩
  have H2 := Lib.hid (⟨hs2, hw2, H1.out.2.trans hb2⟩ : _ ∧ _ ∧ _)
  clear hs2 hw2 hb2 hso
  go_wp2_with fail
  go_ret
  exact ⟨⟨g, c', d, rfl, H1.out.1, H2.out.1, H2.out.2.1⟩, H2.out.2.2⟩

set_option maxRecDepth 100000 in
set_option maxHeartbeats 2000000 in
theorem cloneNil_any (n c : Nat) (w : World) :
    Calls Tryd.prog 30 #[.slice none n c] w fun e w' => e = .returned (.slice none 0 0) ∧ Below w.heap.size w w' := by
  have hq : (binOp .eql 25 (.slice none n c) (.slice none 0 0)).run Tryd.prog w = .ok (.bool true) w := by
    simp only [binOp]
    simp [Op.equal, Op.maxDepth, Lib.run_equalIn_slice_nil w 9999 25 23 none n c 0 0 Tryd.underlying25]
  go_enter Tryd.func30, Tryd.ntmps30
  go_wp2_with fail
  go_ret
  exact ⟨rfl, Below.refl _ _⟩

set_option maxRecDepth 100000 in
set_option maxHeartbeats 2000000 in
theorem insertionNil_any (fv : Value) (w : World) :
    Calls Tryd.prog 42 #[.slice none 0 0, .int .i64 0, .int .i64 0, fv] w fun e w' => e = .returned (.tuple #[]) ∧ Below w.heap.size w w' := by
  go_enter Tryd.func42, Tryd.ntmps42
  go_wp2_with fail
  go_loopw [8] (fun iv wr => iv = .int .i64 1 ∧ wr = w) (fun _ _ => 0)
  case atStart => exact ⟨rfl, rfl⟩
  obtain ⟨rfl, rfl⟩ := hrel
  go_wp2_with fail
  go_end0
  exact ⟨rfl, Below.refl _ _⟩

set_option maxRecDepth 100000 in
set_option maxHeartbeats 2000000 in
theorem stableNil_any (fv : Value) (w : World) :
    Calls Tryd.prog 38 #[.slice none 0 0, .int .i64 0, fv] w fun e w' => e = .returned (.tuple #[]) ∧ Below w.heap.size w w' := by
  have hin := insertionNil_any fv w
  go_enter Tryd.func38, Tryd.ntmps38
  go_wp2_with fail
  go_loopw [7, 8] (fun av bv wr => av = .int .i64 0 ∧ bv = .int .i64 20 ∧ wr = w) (fun _ _ _ => 0)
  case atStart => exact ⟨rfl, rfl, rfl⟩
  obtain ⟨rfl, rfl, rfl⟩ := hrel
  go_wp2_with fail
  refine hin.mono ?_
  rintro e w2 ⟨rfl, hb2⟩
  go_wp2_with fail
  go_loopw [6] (fun sv wr => sv = .int .i64 20 ∧ wr = w2) (fun _ _ => 0)
  case atStart => exact ⟨rfl, rfl⟩
  obtain ⟨rfl, rfl⟩ := hrel
  go_wp2_with fail
  go_end0
  exact ⟨rfl, hb2⟩

set_option maxRecDepth 100000 in
set_option maxHeartbeats 2000000 in
theorem sortStableNil_any (fv : Value) (w : World) :
    Calls Tryd.prog 31 #[.slice none 0 0, fv] w fun e w' => e = .returned (.tuple #[]) ∧ Below w.heap.size w w' := by
  have hst := stableNil_any fv w
  go_enter Tryd.func31, Tryd.ntmps31
  go_wp2_with fail
  refine hst.mono ?_
  rintro e w2 ⟨rfl, hb2⟩
  go_wp2_with fail
  go_end0
  exact ⟨rfl, hb2⟩

set_option maxRecDepth 100000 in
set_option maxHeartbeats 2000000 in
theorem sortNil_any (n c : Nat) (w : World) :
    Calls Tryd.prog 19 #[.slice none n c] w fun e w' => e = .returned (.slice none 0 0) ∧ Below w.heap.size w w' := by
  have hcl := cloneNil_any n c w
  go_enter Tryd.func19, Tryd.ntmps19
  go_wp2_with fail
  refine hcl.mono ?_
  rintro e w1 ⟨rfl, hb1⟩
  have hso := sortStableNil_any (.func (.func 28) #[] #[]) w1
  have H1 := Lib.hid hb1
  clear hb1 hcl
  go_wp2_with fail
  refine hso.mono ?_
  rintro e w2 ⟨rfl, hb2⟩
  have H2 := Lib.hid (H1.out.trans (hb2.mono H1.out.size))
  clear hb2 hso
  go_wp2_with fail
  go_ret
  exact ⟨rfl, H2.out⟩

/-- Sort's answer, told. -/
def SortOut (l : List IdP) (n : Nat) (e : Ending) (w' : World) : Prop := ∃ A c r, e = .returned (.slice A n c) ∧ n ≤ c ∧ Row 3 IdP.cs w' w'.heap.size A n r ∧ Sym.Ord LEo r ∧ r.Perm l
theorem sortAll_any (A : Option Addr) (n c : Nat) (l : List IdP) (w : World) (hr : Row 3 IdP.cs w w.heap.size A n l) (hn : n ≤ 40) :
    Calls Tryd.prog 19 #[.slice A n c] w fun e w' => SortOut l n e w' ∧ Below w.heap.size w w' := by
  rcases A with _ | a
  · obtain ⟨rfl, rfl⟩ := hr.none_
    refine (sortNil_any 0 c w).mono ?_
    rintro e w' ⟨rfl, hb⟩
    exact ⟨⟨none, 0, [], rfl, Nat.le_refl _, Row.nil, Sym.Ord.nil, List.Perm.refl _⟩, hb⟩
  · refine (sort_any a n c l w hr hn).mono ?_
    rintro e w' ⟨⟨g, c', d, rfl, hc, hs, ho, hp⟩, hb⟩
    exact ⟨⟨_, c', d.toList, rfl, hc, Row.of_own (by omega) IdP.len hs.2, ho, hp⟩, hb⟩

end Go.Proofs.YtbfdjjkphmchgaaDoor
