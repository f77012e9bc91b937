/-
  What entries of each kind do: the map of functions, each one's contract; entry.behind, entry.Next.
-/
import Derived.Test.YtbaaghggilfpjaaFine
import Derived.Test.YtbaaghggilfpjaaRangeT
import Derived.Maps.OwnSet
import Derived.Maps.RangeWalk
namespace Go.Proofs.Ytbaaghggilfpjaa
open Go.RowKit Go.Maps

theorem int_kd : Keyed Try.prog 3 := int_keyed Try.underlying3
theorem key_int {k : Int} (hk : 0 ≤ k ∧ k ≤ 9) : keyOf Try.prog 3 (.int .i64 k) = some (.int .i64 k) := keyOf_int_mk Try.underlying3 (by simp only [Lit.wf, Bool.and_eq_true, decide_eq_true_eq]; exact ⟨by show (-9223372036854775808 : Int) ≤ k; omega, by show k ≤ (9223372036854775807 : Int); omega⟩)
theorem zero_func (w : World) : (zeroValue 52).run Try.prog w = .ok .nilFunc w := by kernel_rfl
/-- An element reads as itself. -/
def itself (v : Value) : Option (DataW Value × List MemPlace) := some (.held v, [])
def fnV (g : Nat) : Value := .func (.func g) #[] #[]
/-- The functions by kinds. -/
def effD : DataW Value := (((((DataW.map []).put (.int .i64 0) (.held (fnV 29))).put (.int .i64 1) (.held (fnV 30))).put (.int .i64 2) (.held (fnV 31))).put (.int .i64 3) (.held (fnV 32))).put (.int .i64 4) (.held (fnV 33))
/-- Block g holds them. -/
def EffAt (w : World) (g : Nat) : Prop := w.ownsMap Try.prog 3 itself g 5 effD
theorem EffAt.below {w w' : World} {g : Nat} (h : EffAt w g) (hb : w'.heap[g]? = w.heap[g]?) : EffAt w' g := by
  obtain ⟨es, clock, h1, h2, h3, h4⟩ := h
  exact ⟨es, clock, hb.trans h1, h2, h3, h4⟩
theorem EffAt.lt {w : World} {g : Nat} (h : EffAt w g) : g < w.heap.size := World.ownsMap.lt h
theorem eff_at {w : World} {g : Nat} (h : EffAt w g) {k : Int} (hk : 0 ≤ k ∧ k ≤ 9) {v : Value} (hv : effD.atKey (.int .i64 k) (.held .nilFunc) = .held v) :
    (Instr.lookup 45 (.map (some g)) (.int .i64 k) false).run Try.prog w = .ok v w := by
  obtain ⟨u, ps, hrun, hu⟩ := World.ownsMap.lookup h int_kd Try.underlying45 (zero_func w) (zd := .held .nilFunc) (zp := []) rfl (key_int hk)
  rw [hv] at hu
  have e : u = v := by
    unfold itself at hu
    cases hu
    rfl
  rw [e] at hrun
  exact hrun
def effN (k : Int) : Nat := if k = 1 then 30 else if k = 2 then 31 else if k = 3 then 32 else if k = 4 then 33 else 29
theorem eff_look {w : World} {g : Nat} (h : EffAt w g) {k : Int} (hk : 0 ≤ k ∧ k ≤ 4) :
    (Instr.lookup 45 (.map (some g)) (.int .i64 k) false).run Try.prog w = .ok (.func (.func (effN k)) #[] #[]) w := by
  obtain rfl | rfl | rfl | rfl | rfl : k = 0 ∨ k = 1 ∨ k = 2 ∨ k = 3 ∨ k = 4 := by omega
  all_goals exact eff_at h (by omega) rfl

set_option maxRecDepth 100000 in
set_option maxHeartbeats 400000 in
theorem effects_any (w : World) : Calls Try.prog 27 #[] w fun e w' => (∃ g, e = .returned (.map (some g)) ∧ EffAt w' g ∧ w.heap.size ≤ g) ∧ Below w.heap.size w w' := by
  have hmm := @run_makeMap Try.prog
  have h0 : (w.alloc (.map #[] 0)).ownsMap Try.prog 3 itself w.heap.size 0 (.map []) := World.ownsMap_made w _ _ _
  have b0 := (Below.refl w.heap.size w).alloc (Nat.le_refl _) (.map #[] 0)
  obtain ⟨w1, r1, h1, g1⟩ := h0.update int_kd Try.underlying45 (by decide) (key_int (k := 0) (by decide)) (val := fnV 29) (d := .held (fnV 29)) (ps := []) rfl
  obtain ⟨w2, r2, h2, g2⟩ := h1.update int_kd Try.underlying45 (by decide) (key_int (k := 1) (by decide)) (val := fnV 30) (d := .held (fnV 30)) (ps := []) rfl
  obtain ⟨w3, r3, h3, g3⟩ := h2.update int_kd Try.underlying45 (by decide) (key_int (k := 2) (by decide)) (val := fnV 31) (d := .held (fnV 31)) (ps := []) rfl
  obtain ⟨w4, r4, h4, g4⟩ := h3.update int_kd Try.underlying45 (by decide) (key_int (k := 3) (by decide)) (val := fnV 32) (d := .held (fnV 32)) (ps := []) rfl
  obtain ⟨w5, r5, h5, g5⟩ := h4.update int_kd Try.underlying45 (by decide) (key_int (k := 4) (by decide)) (val := fnV 33) (d := .held (fnV 33)) (ps := []) rfl
  have b1 := b0.grown g1 b0.size (fun k e => by cases e; exact Nat.le_refl _)
  have b2 := b1.grown g2 b1.size (fun k e => by cases e; exact Nat.le_refl _)
  have b3 := b2.grown g3 b2.size (fun k e => by cases e; exact Nat.le_refl _)
  have b4 := b3.grown g4 b3.size (fun k e => by cases e; exact Nat.le_refl _)
  have b5 := b4.grown g5 b4.size (fun k e => by cases e; exact Nat.le_refl _)
  have Ho := Lib.hid (show EffAt w5 w.heap.size from h5)
  clear h0 h1 h2 h3 h4 h5 g1 g2 g3 g4 g5 b0 b1 b2 b3 b4
  unfold fnV at r1 r2 r3 r4 r5
  go_enter Try.func27, Try.ntmps27
  go_wp2_with fail
  go_ret
  exact ⟨⟨w.heap.size, rfl, Ho.out, Nat.le_refl _⟩, b5⟩

/-! ### One kind's function -/
/-- What it tells. -/
def Does (w : World) (s : StP) (e : Ending) (w' : World) : Prop := e = .returned s.v ∧ Below w.heap.size w w'
section
set_option maxRecDepth 100000
set_option maxHeartbeats 1000000
theorem bel2 (w : World) (o o' : Obj) : Below w.heap.size w ((w.alloc o).alloc o') := ((Below.refl _ w).alloc (Nat.le_refl _) o).alloc (by simp) o'
theorem does0 (s : StP) (v : Int) (w : World) : Calls Try.prog 29 #[s.v, .int .i64 v] w (Does w s) := by
  unfold StP.v
  go_enter Try.func29, Try.ntmps29
  go_wp2_with fail
  refine bodyPost_ret (v := s.v) (by simp [results, Try.results29, go_sem]; try rfl) rfl ⟨rfl, ?_⟩
  (repeat (first | exact Below.refl _ _ | refine Below.setCell ?_ (by simp) _ | refine Below.alloc ?_ (by simp; try omega) _))
theorem does1 (s : StP) (v : Int) (w : World) (hs : 0 ≤ s.sm ∧ s.sm ≤ 1073741824) (hv : 0 ≤ v ∧ v ≤ 1073741824) : Calls Try.prog 30 #[s.v, .int .i64 v] w (Does w (doesP s 1 v)) := by
  have e : doesP s 1 v = { s with sm := (s.sm * 31 + v + 1) % 1073741824 } := rfl
  obtain ⟨m1, hm1⟩ : ∃ m, m = s.sm * 31 := ⟨_, rfl⟩
  have q1 : IntKind.i64.wrap (s.sm * 31) = m1 := by rw [IntKind.wrap_i64]; omega
  have q2 : IntKind.i64.wrap (m1 + v) = m1 + v := by rw [IntKind.wrap_i64]; omega
  have q3 : IntKind.i64.wrap (m1 + v + 1) = m1 + v + 1 := by rw [IntKind.wrap_i64]; omega
  have q4 : (m1 + v + 1).tmod 1073741824 = (s.sm * 31 + v + 1) % 1073741824 := by rw [hm1, Int.tmod_eq_emod_of_nonneg (by omega)]
  obtain ⟨m2, hm2⟩ : ∃ m, m = (s.sm * 31 + v + 1) % 1073741824 := ⟨_, rfl⟩
  rw [← hm2] at q4 e
  have q5 : IntKind.i64.wrap m2 = m2 := by rw [IntKind.wrap_i64]; omega
  have He := Lib.hid e
  rw [He.out]
  clear e hm1 hm2
  unfold StP.v
  go_enter Try.func30, Try.ntmps30
  go_wp2_with fail
  refine bodyPost_ret (v := ({ s with sm := m2 } : StP).v) (by simp [results, Try.results30, go_sem]; try rfl) rfl ⟨rfl, ?_⟩
  (repeat (first | exact Below.refl _ _ | refine Below.setCell ?_ (by simp) _ | refine Below.alloc ?_ (by simp; try omega) _))
theorem does2 (s : StP) (v : Int) (w : World) : Calls Try.prog 31 #[s.v, .int .i64 v] w (Does w (doesP s 2 v)) := by
  have e : doesP s 2 v = { s with lv := 2 } := rfl
  rw [e]
  clear e
  unfold StP.v
  go_enter Try.func31, Try.ntmps31
  go_wp2_with fail
  refine bodyPost_ret (v := ({ s with lv := 2 } : StP).v) (by simp [results, Try.results31, go_sem]; try rfl) rfl ⟨rfl, ?_⟩
  (repeat (first | exact Below.refl _ _ | refine Below.setCell ?_ (by simp) _ | refine Below.alloc ?_ (by simp; try omega) _))
theorem does3 (s : StP) (v : Int) (w : World) : Calls Try.prog 32 #[s.v, .int .i64 v] w (Does w (doesP s 3 v)) := by
  obtain ⟨a, b, c, d, f⟩ := s
  cases f
  · have e : doesP ⟨a, b, c, d, false⟩ 3 v = ⟨a, b, c, 1, false⟩ := rfl
    rw [e]
    clear e
    unfold StP.v
    go_enter Try.func32, Try.ntmps32
    go_wp2_with fail
    refine bodyPost_ret (v := (⟨a, b, c, 1, false⟩ : StP).v) (by simp [results, Try.results32, go_sem]; try rfl) rfl ⟨rfl, ?_⟩
    (repeat (first | exact Below.refl _ _ | refine Below.setCell ?_ (by simp) _ | refine Below.alloc ?_ (by simp; try omega) _))
  · have e : doesP ⟨a, b, c, d, true⟩ 3 v = ⟨a, b, c, d, true⟩ := rfl
    rw [e]
    clear e
    unfold StP.v
    go_enter Try.func32, Try.ntmps32
    go_wp2_with fail
    refine bodyPost_ret (v := (⟨a, b, c, d, true⟩ : StP).v) (by simp [results, Try.results32, go_sem]; try rfl) rfl ⟨rfl, ?_⟩
    (repeat (first | exact Below.refl _ _ | refine Below.setCell ?_ (by simp) _ | refine Below.alloc ?_ (by simp; try omega) _))
theorem does4 (s : StP) (v : Int) (w : World) : Calls Try.prog 33 #[s.v, .int .i64 v] w (Does w (doesP s 4 v)) := by
  have e : doesP s 4 v = { s with fn := decide (s.lv = 2) } := rfl
  have q1 : (s.lv == 2) = decide (s.lv = 2) := beq_eq_decide _ _
  obtain ⟨y, hy⟩ : ∃ y, y = decide (s.lv = 2) := ⟨_, rfl⟩
  rw [← hy] at q1 e
  rw [e]
  clear e hy
  unfold StP.v
  go_enter Try.func33, Try.ntmps33
  go_wp2_with fail
  refine bodyPost_ret (v := ({ s with fn := y } : StP).v) (by simp [results, Try.results33, go_sem]; try rfl) rfl ⟨rfl, ?_⟩
  (repeat (first | exact Below.refl _ _ | refine Below.setCell ?_ (by simp) _ | refine Below.alloc ?_ (by simp; try omega) _))
end

end Go.Proofs.Ytbaaghggilfpjaa
