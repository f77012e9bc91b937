/-
  The developers' small functions of disk: New, within, burn, bytes.Clone, slices.Clone, ownOp: their contracts.
-/
import Derived.Test.YtmfiopopiikbmaaMapM
import Derived.Test.YtmfiopopiikbmaaCrash
import Derived.Lib.SliceRun
namespace Go.Proofs.Ytmfiopopiikbmaa
open Go.RowKit

set_option maxRecDepth 100000 in
set_option maxHeartbeats 400000 in
theorem dev_new (q : Int) (w : World) :
    Calls Try.prog 28 #[.int .i64 q] w fun e w' =>
      e = .returned (.agg #[.slice none 0 0, .slice none 0 0, .int .i64 (max q 0), .int .i64 0, .bool false]) ∧ Below w.heap.size w w' := by
  go_enter Try.func28, Try.ntmps28
  go_wp2_with fail
  all_goals
    refine bodyPost_ret (v := .agg #[.slice none 0 0, .slice none 0 0, .int .i64 (max q 0), .int .i64 0, .bool false]) (by simp [results, Try.results28, go_sem]; try omega) rfl ⟨rfl, ?_⟩
    exact (by repeat (first | exact Below.refl _ _ | refine Below.setCell ?_ (by simp) _ | refine Below.alloc ?_ (by simp; try omega) _))

set_option maxRecDepth 100000 in
set_option maxHeartbeats 400000 in
theorem dev_within (k : Int) (n : Nat) (w : World) :
    Calls Try.prog 46 #[.int .i64 k, .int .i64 (n : Int)] w fun e w' => e = .returned (.int .i64 ((cutP k n : Nat) : Int)) ∧ w' = w := by
  obtain ⟨x, h1, h2⟩ := cut_run (P := Try.prog) k n
  go_enter Try.func46, Try.ntmps46
  go_wp2_with fail
  go_ret
  exact ⟨rfl, rfl⟩

set_option maxRecDepth 100000 in
set_option maxHeartbeats 400000 in
theorem dev_burn (d : DiskP) (A : Option Addr) (n c : Nat) (B : Option Addr) (m k : Nat) (w : World) (hu : d.fuse ≤ 9223372036854775807) :
    Calls Try.prog 33 #[.agg #[.slice A n c, .slice B m k, .int .i64 d.quota, .int .i64 d.fuse, .bool d.dead]] w fun e w' =>
      e = .returned (.agg #[.slice A n c, .slice B m k, .int .i64 d.quota, .int .i64 (burntP d).fuse, .bool (burntP d).dead]) ∧ Below w.heap.size w w' := by
  go_enter Try.func33, Try.ntmps33
  go_wp2_with fail
  · have e1 : burntP d = { d with fuse := d.fuse - 1, dead := decide (d.fuse - 1 = 0) } := by unfold burntP; rw [if_pos (by assumption)]
    rw [e1]
    refine bodyPost_ret (v := .agg #[.slice A n c, .slice B m k, .int .i64 d.quota, .int .i64 (d.fuse - 1), .bool (decide (d.fuse - 1 = 0))]) (by simp [results, Try.results33, go_sem]; try rfl) rfl ⟨rfl, ?_⟩
    exact (by repeat (first | exact Below.refl _ _ | refine Below.setCell ?_ (by simp) _ | refine Below.alloc ?_ (by simp; try omega) _))
  · have e1 : burntP d = d := by unfold burntP; rw [if_neg (by omega)]
    rw [e1]
    refine bodyPost_ret (v := .agg #[.slice A n c, .slice B m k, .int .i64 d.quota, .int .i64 d.fuse, .bool d.dead]) (by simp [results, Try.results33, go_sem]; try rfl) rfl ⟨rfl, ?_⟩
    exact (by repeat (first | exact Below.refl _ _ | refine Below.setCell ?_ (by simp) _ | refine Below.alloc ?_ (by simp; try omega) _))

/-- A copy of bytes, in memory of the call's own. -/
def Copied (l : List Int) (lo : Nat) (e : Ending) (w' : World) : Prop :=
  ∃ p : Byts, e = .returned (.slice p.A p.n p.c) ∧ p.l = l ∧ OwnB w' p ∧ ∀ g, p.v.ownBlock = some g → lo ≤ g
set_option maxRecDepth 100000 in
set_option maxHeartbeats 400000 in
theorem dev_clone (p : Byts) (w : World) (hr : p.Ok w w.heap.size) (hn : p.n ≤ 4398046511104) :
    Calls Try.prog 54 #[.slice p.A p.n p.c] w fun e w' => Copied p.l w.heap.size e w' ∧ Below w.heap.size w w' := by
  obtain ⟨i1, hi, hz0, hz1, hz2⟩ := info_partsV info_u8
  obtain ⟨A, n, c, l⟩ := p
  simp only at hn ⊢
  have Hsrc := Lib.hid hr.rd.source
  have Hby := Lib.hid hr.byt
  have q26 : ∀ (w : World) (a : Option Addr) (n c n' c' : Nat), (binOp .eql 26 (.slice a n c) (.slice none n' c')).run Try.prog w = .ok (.bool a.isNone) w := fun w a n c n' c' => Lib.run_eql_slice_nil w _ _ a n c n' c' Try.underlying26
  go_enter Try.func54, Try.ntmps54
  rcases A with _ | a
  · obtain ⟨e1, e2⟩ := hr.rd.none_
    simp only at e1 e2
    subst e1 e2
    clear Hsrc Hby hr
    go_wp2_with fail
    go_ret
    exact ⟨⟨⟨none, 0, 0, []⟩, rfl, rfl, OwnB.none_ _, fun g hg => by cases hg⟩, Below.refl _ _⟩
  · clear hr
    go_wp2_with (at_builtin; refine hold ?_)
    have b1 := (Below.refl w.heap.size w).alloc (Nat.le_refl _) (.cells #[] 5)
    refine unhold (wpList_append (.tmp 5) (.tmp 6) 26 Try.underlying26 hi hz0 hz1 hz2 byte_cells (by omega) (base := w.heap.size) (v := .slice (some ⟨w.heap.size, 0, none⟩) 0 0) (n := 0) (xs := []) (own_emptyG rfl (Nat.le_refl _)) (Hsrc.out.on b1) (by unfold maxLen; omega) (by omega) (by simp) rfl rfl rfl rfl ?_)
    intro v1 w4 L3
    have b4 : Below w.heap.size w w4 := L3.below b1 (by simp) (fun g hg => by simp [Value.ownBlock] at hg; omega)
    have own4 := L3.1
    rw [List.nil_append, Nat.zero_add] at own4
    obtain ⟨A2, c2, rfl, hc2⟩ := own_slice own4
    have Ho := Lib.hid (⟨own4.mono (Nat.zero_le _), Hby.out⟩ : OwnB w4 ⟨A2, n, c2, l⟩)
    have Hg := Lib.hid (fun g hg => (own4.lt g hg).1)
    clear L3 own4
    go_wp2_with fail
    go_ret
    exact ⟨⟨⟨A2, n, c2, l⟩, rfl, rfl, Ho.out, Hg.out⟩, b4⟩

set_option maxRecDepth 100000 in
set_option maxHeartbeats 400000 in
theorem dev_cloneF (A : Option Addr) (n c : Nat) (fs : List FileM) (w : World) (hr : Fs w w.heap.size A n fs) (hn : n ≤ 100000) :
    Calls Try.prog 52 #[.slice A n c] w fun e w' => (∃ A' c', e = .returned (.slice A' n c') ∧ n ≤ c' ∧ w'.ownsRow w.heap.size 47 2 (.slice A' n c') n (fs.flatMap FileM.cs)) ∧ Below w.heap.size w w' := by
  obtain ⟨i1, hi, hz0, hz1, hz2⟩ := info_partsV info_file
  have Hsrc := Lib.hid hr.source
  have q26 : ∀ (w : World) (a : Option Addr) (n c n' c' : Nat), (binOp .eql 22 (.slice a n c) (.slice none n' c')).run Try.prog w = .ok (.bool a.isNone) w := fun w a n c n' c' => Lib.run_eql_slice_nil w _ _ a n c n' c' Try.underlying22
  go_enter Try.func52, Try.ntmps52
  rcases A with _ | a
  · obtain ⟨e1, e2⟩ := hr.row.none_
    subst e1 e2
    clear Hsrc hr
    go_wp2_with fail
    go_ret
    exact ⟨⟨none, 0, rfl, Nat.le_refl _, World.ownsRow_nil _ _ _ _⟩, Below.refl _ _⟩
  · clear hr
    go_wp2_with (at_builtin; refine hold ?_)
    have b1 := (Below.refl w.heap.size w).alloc (Nat.le_refl _) (.cells #[] 47)
    refine unhold (wpList_append (.tmp 5) (.tmp 6) 22 Try.underlying22 hi hz0 hz1 hz2 file_cells (by omega) (base := w.heap.size) (v := .slice (some ⟨w.heap.size, 0, none⟩) 0 0) (n := 0) (xs := []) (own_emptyG rfl (Nat.le_refl _)) (Hsrc.out.on b1) (by unfold maxLen; omega) (by omega) (by simp) rfl rfl rfl rfl ?_)
    intro v1 w4 L3
    have b4 : Below w.heap.size w w4 := L3.below b1 (by simp) (fun g hg => by simp [Value.ownBlock] at hg; omega)
    have own4 := L3.1
    rw [List.nil_append, Nat.zero_add] at own4
    obtain ⟨A2, c2, rfl, hc2⟩ := own_slice own4
    have Ho := Lib.hid own4
    clear L3 own4
    go_wp2_with fail
    go_ret
    exact ⟨⟨A2, c2, rfl, hc2, Ho.out⟩, b4⟩

set_option maxRecDepth 100000 in
set_option maxHeartbeats 400000 in
theorem dev_cloneO (A : Option Addr) (n c : Nat) (os : List OpM) (w : World) (hr : Os w w.heap.size A n os) (hn : n ≤ 100000) :
    Calls Try.prog 53 #[.slice A n c] w fun e w' => (∃ A' c', e = .returned (.slice A' n c') ∧ n ≤ c' ∧ w'.ownsRow w.heap.size 28 4 (.slice A' n c') n (os.flatMap OpM.cs)) ∧ Below w.heap.size w w' := by
  obtain ⟨i1, hi, hz0, hz1, hz2⟩ := info_partsV info_op
  have Hsrc := Lib.hid (hr.row.source (by omega) OpM.len OpM.one)
  have q26 : ∀ (w : World) (a : Option Addr) (n c n' c' : Nat), (binOp .eql 23 (.slice a n c) (.slice none n' c')).run Try.prog w = .ok (.bool a.isNone) w := fun w a n c n' c' => Lib.run_eql_slice_nil w _ _ a n c n' c' Try.underlying23
  go_enter Try.func53, Try.ntmps53
  rcases A with _ | a
  · obtain ⟨e1, e2⟩ := hr.row.none_
    subst e1 e2
    clear Hsrc hr
    go_wp2_with fail
    go_ret
    exact ⟨⟨none, 0, rfl, Nat.le_refl _, World.ownsRow_nil _ _ _ _⟩, Below.refl _ _⟩
  · clear hr
    go_wp2_with (at_builtin; refine hold ?_)
    have b1 := (Below.refl w.heap.size w).alloc (Nat.le_refl _) (.cells #[] 28)
    refine unhold (wpList_append (.tmp 5) (.tmp 6) 23 Try.underlying23 hi hz0 hz1 hz2 op_cells (by omega) (base := w.heap.size) (v := .slice (some ⟨w.heap.size, 0, none⟩) 0 0) (n := 0) (xs := []) (own_emptyG rfl (Nat.le_refl _)) (Hsrc.out.on b1) (by unfold maxLen; omega) (by omega) (by simp) rfl rfl rfl rfl ?_)
    intro v1 w4 L3
    have b4 : Below w.heap.size w w4 := L3.below b1 (by simp) (fun g hg => by simp [Value.ownBlock] at hg; omega)
    have own4 := L3.1
    rw [List.nil_append, Nat.zero_add] at own4
    obtain ⟨A2, c2, rfl, hc2⟩ := own_slice own4
    have Ho := Lib.hid own4
    clear L3 own4
    go_wp2_with fail
    go_ret
    exact ⟨⟨A2, c2, rfl, hc2, Ho.out⟩, b4⟩

theorem OwnB.set {w : World} {p : Byts} {k i : Nat} (h : OwnB w p) (hne : ∀ g, p.v.ownBlock = some g → g ≠ k) (u : Value) : OwnB (w.setCell ⟨k, i, none⟩ u) p :=
  h.kept (row := some k) ⟨rfl, rfl, rfl, (KeepsWalks.setCell w _ u).size, fun j _ hj => Below.heap_setCell _ _ _ j (fun e => hj (by rw [e]))⟩ fun g hg e => hne g hg (Option.some.inj e)
theorem box4f {W : World} {y : Nat} {o : OpM} (h : Box4 W y o) : W.frozen? ⟨y, 0, none⟩ = false ∧ W.frozen? ⟨y, 1, none⟩ = false ∧ W.frozen? ⟨y, 2, none⟩ = false ∧ W.frozen? ⟨y, 3, none⟩ = false := by
  refine ⟨?_, ?_, ?_, ?_⟩
  all_goals simp [World.frozen?, show W.heap[y]? = _ from h]
theorem box4_put {W : World} {y : Nat} {o : OpM} (h : Box4 W y o) (A : Option Addr) (n c : Nat) (l : List Int) : Box4 (W.setCell ⟨y, 3, none⟩ (.slice A n c)) y ⟨o.kind, o.name, o.to, ⟨A, n, c, l⟩⟩ := heap_set h _

set_option maxRecDepth 100000 in
set_option maxHeartbeats 400000 in
theorem dev_ownOp (o : OpM) (w : World) (hr : o.p.Ok w w.heap.size) (hn : o.p.n ≤ 1048576) :
    Calls Try.prog 32 #[.agg #[.int .u8 o.kind, .string o.name, .string o.to, .slice o.p.A o.p.n o.p.c]] w fun e w' =>
      (∃ p : Byts, e = .returned (.agg #[.int .u8 o.kind, .string o.name, .string o.to, .slice p.A p.n p.c]) ∧ p.l = o.p.l ∧ OwnB w' p ∧ ∀ g, p.v.ownBlock = some g → w.heap.size ≤ g) ∧ Below w.heap.size w w' := by
  go_enter Try.func32, Try.ntmps32
  go_wp2_with fail
  obtain ⟨z, hz⟩ : ∃ z, z = w.heap.size := ⟨_, rfl⟩
  obtain ⟨wa, hwa⟩ : ∃ wa, wa = w.alloc (.cells #[.int .u8 o.kind, .string o.name, .string o.to, .slice o.p.A o.p.n o.p.c] 28) := ⟨_, rfl⟩
  obtain ⟨w0, hw0⟩ : ∃ w0, w0 = wa.alloc (.cells #[.int .u8 0, .string { data := #[] }, .string { data := #[] }, .slice none 0 0] 28) := ⟨_, rfl⟩
  have hsa : wa.heap.size = z + 1 := by rw [hwa, hz]; simp
  have hs0 : w0.heap.size = z + 2 := by rw [hw0]; simp [hsa]
  have hBa : Below w.heap.size w wa := by rw [hwa]; exact (Below.refl _ _).alloc (Nat.le_refl _) _
  have hB0 : Below w.heap.size w w0 := by rw [hw0]; exact hBa.alloc hBa.size _
  have bz0 : Box4 w0 z o := by
    have h1 : Box4 wa z o := by rw [hwa, hz]; exact World.alloc_heap_new w _
    exact h1.below (by rw [hw0]; exact (Below.refl _ _).alloc (Nat.le_refl _) _)
  have by0 : Box4 w0 (z + 1) ⟨0, ByteArray.empty, ByteArray.empty, ⟨none, 0, 0, []⟩⟩ := by rw [hw0, ← hsa]; exact World.alloc_heap_new wa _
  have he : w0 = (w.alloc (.cells #[.int .u8 o.kind, .string o.name, .string o.to, .slice o.p.A o.p.n o.p.c] 28)).alloc (.cells #[.int .u8 0, .string { data := #[] }, .string { data := #[] }, .slice none 0 0] 28) := by rw [hw0, hwa]
  rw [← he, ← hz]
  have Hz := Lib.hid hz
  have Hs := Lib.hid hs0
  have hr0 := hr.on hB0 hB0.size
  clear hwa hw0 he hz hsa hs0 hBa hr
  refine (dev_clone o.p w0 hr0 (by omega)).mono ?_
  rintro e w1 ⟨⟨p, rfl, hpl, hp, hpg⟩, hb1⟩
  have bz1 := bz0.below hb1
  have by1 := by0.below hb1
  have hB1 : Below w.heap.size w w1 := hB0.trans (hb1.mono hB0.size)
  have hpz : ∀ i (u : Value) W, OwnB W p → OwnB (W.setCell ⟨z, i, none⟩ u) p := fun i u W h => h.set (fun g hg => by have := hpg g hg; have := Hs.out; omega) u
  have hpy : ∀ i (u : Value) W, OwnB W p → OwnB (W.setCell ⟨z + 1, i, none⟩ u) p := fun i u W h => h.set (fun g hg => by have := hpg g hg; have := Hs.out; omega) u
  have Hp := Lib.hid (⟨hpl, hpg⟩ : _ ∧ _)
  have HB0 := Lib.hid hB0
  have Ho := Lib.hid (hpy 3 (.slice p.A p.n p.c) _ (hpy 2 (.string o.to) _ (hpy 1 (.string o.name) _ (hpy 0 (.int .u8 o.kind) _ (hpz 3 (.slice p.A p.n p.c) _ hp)))))
  have hzw : w.heap.size ≤ z := by rw [Hz.out]; exact Nat.le_refl _
  have hzw1 : w.heap.size ≤ z + 1 := by omega
  have Hb := Lib.hid ((((((hB1.setCell (p := ⟨z, 3, none⟩) hzw (.slice p.A p.n p.c)).setCell (p := ⟨z + 1, 0, none⟩) hzw1 (.int .u8 o.kind)).setCell (p := ⟨z + 1, 1, none⟩) hzw1 (.string o.name)).setCell (p := ⟨z + 1, 2, none⟩) hzw1 (.string o.to)).setCell (p := ⟨z + 1, 3, none⟩) hzw1 (.slice p.A p.n p.c)))
  obtain ⟨⟨k0, k1, k2, k3⟩, _⟩ := box4 bz1
  obtain ⟨_, _, _, g3⟩ := box4f bz1
  obtain ⟨⟨r0, r1, r2, r3⟩, _⟩ := box4 by1
  obtain ⟨t0, t1, t2, t3⟩ := box4f by1
  clear hpl hp hpg hpz hpy bz0 by0 hb1 hB1 bz1 by1 hB0
  go_wp2_with fail
  refine bodyPost_ret (v := .agg #[.int .u8 o.kind, .string o.name, .string o.to, .slice p.A p.n p.c]) (by simp [results, Try.results32, go_sem, *]) rfl ⟨⟨p, rfl, Hp.out.1, Ho.out, fun g hg => Nat.le_trans HB0.out.size (Hp.out.2 g hg)⟩, Hb.out⟩

end Go.Proofs.Ytmfiopopiikbmaa
