/-
  entry.Next, All, the document's Next, All: their contracts (stage 6's texts, as one).
-/
import Derived.Test.YtbhnlmlaebngmaaFineM
import Derived.Test.YtbhnlmlaebngmaaEntM
import Derived.Test.YtbhnlmlaebngmaaBase
import Derived.Test.YtbhnlmlaebngmaaBel
import Derived.Test.YtbhnlmlaebngmaaDraw
import Derived.Deep.QuietTactic
import Derived.BigQuiet
import Derived.Laws.StructEq
import Derived.Outline
import Derived.ChangeKeysEq
import Derived.Deep.DeepCutAuto
import Derived.RangeFuncRecord
import Derived.Test.YtbhnlmlaebngmaaRangeT
import Derived.Maps.OwnSet
import Derived.Maps.RangeWalk
import Derived.Deep.RegionWith
import Derived.StillTailTactics
import Derived.Test.YtbhnlmlaebngmaaRow
import Derived.Test.YtbhnlmlaebngmaaScope
import Derived.Test.YtbhnlmlaebngmaaMarks
namespace Go.Proofs.Ytbhnlmlaebngmaa
open Go.RowKit

instance (e : EnP) : Decidable (RightP e) := by unfold RightP; infer_instance
instance (s : StP) : Decidable (FineP s) := by unfold FineP; infer_instance
instance (s : StP) (e : EnP) : Decidable (GoesP s e) := by unfold GoesP; infer_instance
end Go.Proofs.Ytbhnlmlaebngmaa

namespace Go.Proofs.Ytbhnlmlaebngmaa
open Go.RowKit Go.Maps

theorem int_kd : Keyed Try.prog 3 := int_keyed Try.underlying3
theorem key_int {k : Int} (hk : 0 ≤ k ∧ k ≤ 9) : keyOf Try.prog 3 (.int .i64 k) = some (.int .i64 k) := keyOf_int_mk Try.underlying3 (by simp only [Lit.wf, Bool.and_eq_true, decide_eq_true_eq]; exact ⟨by show (-9223372036854775808 : Int) ≤ k; omega, by show k ≤ (9223372036854775807 : Int); omega⟩)
theorem zero_func (w : World) : (zeroValue 85).run Try.prog w = .ok .nilFunc w := by kernel_rfl
/-- An element reads as itself. -/
def itself (v : Value) : Option (DataW Value × List MemPlace) := some (.held v, [])
def fnV (g : Nat) : Value := .func (.func g) #[] #[]
/-- The functions by kinds. -/
def effD : DataW Value := (((((DataW.map []).put (.int .i64 0) (.held (fnV 74))).put (.int .i64 1) (.held (fnV 75))).put (.int .i64 2) (.held (fnV 76))).put (.int .i64 3) (.held (fnV 77))).put (.int .i64 4) (.held (fnV 78))
/-- Block g holds them. -/
def EffAt (w : World) (g : Nat) : Prop := w.ownsMap Try.prog 3 itself g 5 effD
theorem EffAt.below {w w' : World} {g : Nat} (h : EffAt w g) (hb : w'.heap[g]? = w.heap[g]?) : EffAt w' g := by
  obtain ⟨es, clock, h1, h2, h3, h4⟩ := h
  exact ⟨es, clock, hb.trans h1, h2, h3, h4⟩
theorem EffAt.lt {w : World} {g : Nat} (h : EffAt w g) : g < w.heap.size := World.ownsMap.lt h
theorem eff_at {w : World} {g : Nat} (h : EffAt w g) {k : Int} (hk : 0 ≤ k ∧ k ≤ 9) {v : Value} (hv : effD.atKey (.int .i64 k) (.held .nilFunc) = .held v) :
    (Instr.lookup 77 (.map (some g)) (.int .i64 k) false).run Try.prog w = .ok v w := by
  obtain ⟨u, ps, hrun, hu⟩ := World.ownsMap.lookup h int_kd Try.underlying77 (zero_func w) (zd := .held .nilFunc) (zp := []) rfl (key_int hk)
  rw [hv] at hu
  have e : u = v := by
    unfold itself at hu
    cases hu
    rfl
  rw [e] at hrun
  exact hrun
def effN (k : Int) : Nat := if k = 1 then 75 else if k = 2 then 76 else if k = 3 then 77 else if k = 4 then 78 else 74
theorem eff_look {w : World} {g : Nat} (h : EffAt w g) {k : Int} (hk : 0 ≤ k ∧ k ≤ 4) :
    (Instr.lookup 77 (.map (some g)) (.int .i64 k) false).run Try.prog w = .ok (.func (.func (effN k)) #[] #[]) w := by
  obtain rfl | rfl | rfl | rfl | rfl : k = 0 ∨ k = 1 ∨ k = 2 ∨ k = 3 ∨ k = 4 := by omega
  all_goals exact eff_at h (by omega) rfl

set_option maxRecDepth 100000 in
set_option maxHeartbeats 400000 in
theorem effects_any (w : World) : Calls Try.prog 69 #[] w fun e w' => (∃ g, e = .returned (.map (some g)) ∧ EffAt w' g ∧ w.heap.size ≤ g) ∧ Below w.heap.size w w' := by
  have hmm := @run_makeMap Try.prog
  have h0 : (w.alloc (.map #[] 0)).ownsMap Try.prog 3 itself w.heap.size 0 (.map []) := World.ownsMap_made w _ _ _
  have b0 := (Below.refl w.heap.size w).alloc (Nat.le_refl _) (.map #[] 0)
  obtain ⟨w1, r1, h1, g1⟩ := h0.update int_kd Try.underlying77 (by decide) (key_int (k := 0) (by decide)) (val := fnV 74) (d := .held (fnV 74)) (ps := []) rfl
  obtain ⟨w2, r2, h2, g2⟩ := h1.update int_kd Try.underlying77 (by decide) (key_int (k := 1) (by decide)) (val := fnV 75) (d := .held (fnV 75)) (ps := []) rfl
  obtain ⟨w3, r3, h3, g3⟩ := h2.update int_kd Try.underlying77 (by decide) (key_int (k := 2) (by decide)) (val := fnV 76) (d := .held (fnV 76)) (ps := []) rfl
  obtain ⟨w4, r4, h4, g4⟩ := h3.update int_kd Try.underlying77 (by decide) (key_int (k := 3) (by decide)) (val := fnV 77) (d := .held (fnV 77)) (ps := []) rfl
  obtain ⟨w5, r5, h5, g5⟩ := h4.update int_kd Try.underlying77 (by decide) (key_int (k := 4) (by decide)) (val := fnV 78) (d := .held (fnV 78)) (ps := []) rfl
  have b1 := b0.grown g1 b0.size (fun k e => by cases e; exact Nat.le_refl _)
  have b2 := b1.grown g2 b1.size (fun k e => by cases e; exact Nat.le_refl _)
  have b3 := b2.grown g3 b2.size (fun k e => by cases e; exact Nat.le_refl _)
  have b4 := b3.grown g4 b3.size (fun k e => by cases e; exact Nat.le_refl _)
  have b5 := b4.grown g5 b4.size (fun k e => by cases e; exact Nat.le_refl _)
  have Ho := Lib.hid (show EffAt w5 w.heap.size from h5)
  clear h0 h1 h2 h3 h4 h5 g1 g2 g3 g4 g5 b0 b1 b2 b3 b4
  unfold fnV at r1 r2 r3 r4 r5
  go_enter Try.func69, Try.ntmps69
  go_wp2_with fail
  go_ret
  exact ⟨⟨w.heap.size, rfl, Ho.out, Nat.le_refl _⟩, b5⟩

/-! ### One kind's function -/
/-- What it tells. -/
def Does (w : World) (s : StP) (e : Ending) (w' : World) : Prop := e = .returned s.v ∧ Below w.heap.size w w'
section
set_option maxRecDepth 100000
set_option maxHeartbeats 1000000
theorem bel2 (w : World) (o o' : Obj) : Below w.heap.size w ((w.alloc o).alloc o') := ((Below.refl _ w).alloc (Nat.le_refl _) o).alloc (by simp) o'
theorem does0 (s : StP) (v : Int) (w : World) : Calls Try.prog 74 #[s.v, .int .i64 v] w (Does w s) := by
  unfold StP.v
  go_enter Try.func74, Try.ntmps74
  go_wp2_with fail
  refine bodyPost_ret (v := s.v) (by simp [results, Try.results74, go_sem]; try rfl) rfl ⟨rfl, ?_⟩
  (repeat (first | exact Below.refl _ _ | refine Below.setCell ?_ (by simp) _ | refine Below.alloc ?_ (by simp; try omega) _))
theorem does1 (s : StP) (v : Int) (w : World) (hs : 0 ≤ s.sm ∧ s.sm ≤ 1073741824) (hv : 0 ≤ v ∧ v ≤ 1073741824) : Calls Try.prog 75 #[s.v, .int .i64 v] w (Does w (doesP s 1 v)) := by
  have e : doesP s 1 v = { s with sm := (s.sm * 31 + v + 1) % 1073741824 } := rfl
  obtain ⟨m1, hm1⟩ : ∃ m, m = s.sm * 31 := ⟨_, rfl⟩
  have q1 : IntKind.i64.wrap (s.sm * 31) = m1 := by rw [IntKind.wrap_i64]; omega
  have q2 : IntKind.i64.wrap (m1 + v) = m1 + v := by rw [IntKind.wrap_i64]; omega
  have q3 : IntKind.i64.wrap (m1 + v + 1) = m1 + v + 1 := by rw [IntKind.wrap_i64]; omega
  have q4 : (m1 + v + 1).tmod 1073741824 = (s.sm * 31 + v + 1) % 1073741824 := by rw [hm1, Int.tmod_eq_emod_of_nonneg (by omega)]
  obtain ⟨m2, hm2⟩ : ∃ m, m = (s.sm * 31 + v + 1) % 1073741824 := ⟨_, rfl⟩
  rw [← hm2] at q4 e
  have q5 : IntKind.i64.wrap m2 = m2 := by rw [IntKind.wrap_i64]; omega
  have He := Lib.hid e
  rw [He.out]
  clear e hm1 hm2
  unfold StP.v
  go_enter Try.func75, Try.ntmps75
  go_wp2_with fail
  refine bodyPost_ret (v := ({ s with sm := m2 } : StP).v) (by simp [results, Try.results75, go_sem]; try rfl) rfl ⟨rfl, ?_⟩
  (repeat (first | exact Below.refl _ _ | refine Below.setCell ?_ (by simp) _ | refine Below.alloc ?_ (by simp; try omega) _))
theorem does2 (s : StP) (v : Int) (w : World) : Calls Try.prog 76 #[s.v, .int .i64 v] w (Does w (doesP s 2 v)) := by
  have e : doesP s 2 v = { s with lv := 2 } := rfl
  rw [e]
  clear e
  unfold StP.v
  go_enter Try.func76, Try.ntmps76
  go_wp2_with fail
  refine bodyPost_ret (v := ({ s with lv := 2 } : StP).v) (by simp [results, Try.results76, go_sem]; try rfl) rfl ⟨rfl, ?_⟩
  (repeat (first | exact Below.refl _ _ | refine Below.setCell ?_ (by simp) _ | refine Below.alloc ?_ (by simp; try omega) _))
theorem does3 (s : StP) (v : Int) (w : World) : Calls Try.prog 77 #[s.v, .int .i64 v] w (Does w (doesP s 3 v)) := by
  obtain ⟨a, b, c, d, f⟩ := s
  cases f
  · have e : doesP ⟨a, b, c, d, false⟩ 3 v = ⟨a, b, c, 1, false⟩ := rfl
    rw [e]
    clear e
    unfold StP.v
    go_enter Try.func77, Try.ntmps77
    go_wp2_with fail
    refine bodyPost_ret (v := (⟨a, b, c, 1, false⟩ : StP).v) (by simp [results, Try.results77, go_sem]; try rfl) rfl ⟨rfl, ?_⟩
    (repeat (first | exact Below.refl _ _ | refine Below.setCell ?_ (by simp) _ | refine Below.alloc ?_ (by simp; try omega) _))
  · have e : doesP ⟨a, b, c, d, true⟩ 3 v = ⟨a, b, c, d, true⟩ := rfl
    rw [e]
    clear e
    unfold StP.v
    go_enter Try.func77, Try.ntmps77
    go_wp2_with fail
    refine bodyPost_ret (v := (⟨a, b, c, d, true⟩ : StP).v) (by simp [results, Try.results77, go_sem]; try rfl) rfl ⟨rfl, ?_⟩
    (repeat (first | exact Below.refl _ _ | refine Below.setCell ?_ (by simp) _ | refine Below.alloc ?_ (by simp; try omega) _))
theorem does4 (s : StP) (v : Int) (w : World) : Calls Try.prog 78 #[s.v, .int .i64 v] w (Does w (doesP s 4 v)) := by
  have e : doesP s 4 v = { s with fn := decide (s.lv = 2) } := rfl
  have q1 : (s.lv == 2) = decide (s.lv = 2) := beq_eq_decide _ _
  obtain ⟨y, hy⟩ : ∃ y, y = decide (s.lv = 2) := ⟨_, rfl⟩
  rw [← hy] at q1 e
  rw [e]
  clear e hy
  unfold StP.v
  go_enter Try.func78, Try.ntmps78
  go_wp2_with fail
  refine bodyPost_ret (v := ({ s with fn := y } : StP).v) (by simp [results, Try.results78, go_sem]; try rfl) rfl ⟨rfl, ?_⟩
  (repeat (first | exact Below.refl _ _ | refine Below.setCell ?_ (by simp) _ | refine Below.alloc ?_ (by simp; try omega) _))
end
end Go.Proofs.Ytbhnlmlaebngmaa

namespace Go.Proofs.Ytbhnlmlaebngmaa
open Go.RowKit Go.Maps

theorem heap_set {W : World} {z i : Nat} {t : TypeId} {cs : Array Value} {fz : Nat × Nat} (h : W.heap[z]? = some (.cells cs t fz)) (v : Value) : (W.setCell ⟨z, i, none⟩ v).heap[z]? = some (.cells (cs.setIfInBounds i v) t fz) := by
  obtain ⟨hlt, hk⟩ := Array.getElem?_eq_some_iff.1 h
  show (W.heap.modify z _)[z]? = _
  rw [Array.getElem?_eq_getElem (by rw [Array.size_modify]; exact hlt), Array.getElem_modify_self, hk]
  rfl
section
variable {W W' : World} {z y i : Nat} {s s' : StP} {e : EnP}
theorem BoxS.frozen (h : BoxS W z s) : W.frozen? ⟨z, 0, none⟩ = false ∧ W.frozen? ⟨z, 1, none⟩ = false ∧ W.frozen? ⟨z, 2, none⟩ = false ∧ W.frozen? ⟨z, 3, none⟩ = false ∧ W.frozen? ⟨z, 4, none⟩ = false := by
  refine ⟨?_, ?_, ?_, ?_, ?_⟩
  all_goals simp [World.frozen?, show W.heap[z]? = _ from h]
theorem BoxS.s0 (h : BoxS W z s) (v : Int) : BoxS (W.setCell ⟨z, 0, none⟩ (.int .i64 v)) z { s with ix := v } := heap_set h _
theorem BoxS.s1 (h : BoxS W z s) (v : Int) : BoxS (W.setCell ⟨z, 1, none⟩ (.int .i64 v)) z { s with tm := v } := heap_set h _
theorem BoxS.s2 (h : BoxS W z s) (v : Int) : BoxS (W.setCell ⟨z, 2, none⟩ (.int .i64 v)) z { s with sm := v } := heap_set h _
theorem BoxS.s3 (h : BoxS W z s) (v : Int) : BoxS (W.setCell ⟨z, 3, none⟩ (.int .i64 v)) z { s with lv := v } := heap_set h _
theorem BoxS.s4 (h : BoxS W z s) (v : Bool) : BoxS (W.setCell ⟨z, 4, none⟩ (.bool v)) z { s with fn := v } := heap_set h _
theorem BoxS.other (h : BoxS W z s) (hne : z ≠ y) (v : Value) : BoxS (W.setCell ⟨y, i, none⟩ v) z s := (Below.heap_setCell _ _ _ z (by simpa using hne)).trans h
theorem BoxE.other (h : BoxE W z e) (hne : z ≠ y) (v : Value) : BoxE (W.setCell ⟨y, i, none⟩ v) z e := (Below.heap_setCell _ _ _ z (by simpa using hne)).trans h
end
/-- The five stores of a whole state. -/
def putS (W : World) (z : Nat) (s : StP) : World := ((((W.setCell ⟨z, 0, none⟩ (.int .i64 s.ix)).setCell ⟨z, 1, none⟩ (.int .i64 s.tm)).setCell ⟨z, 2, none⟩ (.int .i64 s.sm)).setCell ⟨z, 3, none⟩ (.int .i64 s.lv)).setCell ⟨z, 4, none⟩ (.bool s.fn)
theorem putS_box {W : World} {z : Nat} {s : StP} (h : BoxS W z s) (s' : StP) : BoxS (putS W z s') z s' := ((((h.s0 s'.ix).s1 s'.tm).s2 s'.sm).s3 s'.lv).s4 s'.fn
theorem putS_other {W : World} {z y : Nat} {s : StP} (h : BoxS W z s) (hne : z ≠ y) (s' : StP) : BoxS (putS W y s') z s := ((((h.other hne _).other hne _).other hne _).other hne _).other hne _
theorem putS_otherE {W : World} {z y : Nat} {e : EnP} (h : BoxE W z e) (hne : z ≠ y) (s' : StP) : BoxE (putS W y s') z e := ((((h.other hne _).other hne _).other hne _).other hne _).other hne _
theorem putS_below {n : Nat} {w W : World} {z : Nat} (h : Below n w W) (hz : n ≤ z) (s : StP) : Below n w (putS W z s) :=
  ((((h.setCell (p := ⟨z, 0, none⟩) hz _).setCell (p := ⟨z, 1, none⟩) hz _).setCell (p := ⟨z, 2, none⟩) hz _).setCell (p := ⟨z, 3, none⟩) hz _).setCell (p := ⟨z, 4, none⟩) hz _
theorem putS_size (W : World) (z : Nat) (s : StP) : (putS W z s).heap.size = W.heap.size := by simp [putS]
theorem putS_same {W : World} {z k : Nat} (hk : k ≠ z) (s : StP) : (putS W z s).heap[k]? = W.heap[k]? := by
  unfold putS
  rw [Below.heap_setCell _ _ _ k (by simpa using hk), Below.heap_setCell _ _ _ k (by simpa using hk), Below.heap_setCell _ _ _ k (by simpa using hk), Below.heap_setCell _ _ _ k (by simpa using hk), Below.heap_setCell _ _ _ k (by simpa using hk)]

/-- What is made on entering: a box for the state, one for the entry, one for the result. -/
def Three (w w0 : World) (z : Nat) (s : StP) (e : EnP) : Prop := BoxS w0 z s ∧ BoxE w0 (z + 1) e ∧ BoxS w0 (z + 2) ⟨0, 0, 0, 0, false⟩ ∧ Below w.heap.size w w0 ∧ w.heap.size = z ∧ w0.heap.size = z + 3
theorem three_new (w : World) (s : StP) (e : EnP) : Three w (((w.alloc (.cells #[.int .i64 s.ix, .int .i64 s.tm, .int .i64 s.sm, .int .i64 s.lv, .bool s.fn] 23)).alloc (.cells #[.int .i64 e.tm, .int .i64 e.kd, .int .i64 e.vl] 39)).alloc (.cells #[.int .i64 0, .int .i64 0, .int .i64 0, .int .i64 0, .bool false] 23)) w.heap.size s e := by
  obtain ⟨wa, hwa⟩ : ∃ wa, wa = w.alloc (.cells #[.int .i64 s.ix, .int .i64 s.tm, .int .i64 s.sm, .int .i64 s.lv, .bool s.fn] 23) := ⟨_, rfl⟩
  obtain ⟨wb, hwb⟩ : ∃ wb, wb = wa.alloc (.cells #[.int .i64 e.tm, .int .i64 e.kd, .int .i64 e.vl] 39) := ⟨_, rfl⟩
  obtain ⟨w0, hw0⟩ : ∃ w0, w0 = wb.alloc (.cells #[.int .i64 0, .int .i64 0, .int .i64 0, .int .i64 0, .bool false] 23) := ⟨_, rfl⟩
  have hsa : wa.heap.size = w.heap.size + 1 := by rw [hwa]; simp
  have hsb : wb.heap.size = w.heap.size + 2 := by rw [hwb]; simp [hsa]
  have hs0 : w0.heap.size = w.heap.size + 3 := by rw [hw0]; simp [hsb]
  have hBa : Below w.heap.size w wa := by rw [hwa]; exact (Below.refl _ _).alloc (Nat.le_refl _) _
  have hBb : Below w.heap.size w wb := by rw [hwb]; exact hBa.alloc hBa.size _
  have hB0 : Below w.heap.size w w0 := by rw [hw0]; exact hBb.alloc hBb.size _
  have hab : Below wa.heap.size wa wb := by rw [hwb]; exact (Below.refl _ _).alloc (Nat.le_refl _) _
  have hb0 : Below wb.heap.size wb w0 := by rw [hw0]; exact (Below.refl _ _).alloc (Nat.le_refl _) _
  have b1 : BoxS wa w.heap.size s := by rw [hwa]; exact BoxS.new w s
  have b2 : BoxE wb (w.heap.size + 1) e := by rw [hwb, ← hsa]; exact BoxE.new wa e
  have b3 : BoxS w0 (w.heap.size + 2) ⟨0, 0, 0, 0, false⟩ := by rw [hw0, ← hsb]; exact BoxS.new wb ⟨0, 0, 0, 0, false⟩
  rw [← hwa, ← hwb, ← hw0]
  exact ⟨(b1.below hab).below hb0, b2.below hb0, b3, hB0, rfl, hs0⟩

theorem does0' (s : StP) (v : Int) (w : World) : Calls Try.prog 74 #[s.v, .int .i64 v] w (Does w (doesP s 0 v)) := by
  rw [does_0]
  exact does0 s v w
theorem goes_key (s : StP) (e : EnP) : (¬ fineB s = true ∨ ¬ rightB e = true ∨ s.ix = 1073741824) ∨ GoesP s e := by
  by_cases h1 : fineB s = true
  · by_cases h2 : rightB e = true
    · by_cases h3 : s.ix = 1073741824
      · exact .inl (.inr (.inr h3))
      · exact .inr ⟨fineB_iff.1 h1, rightB_iff.1 h2, h3⟩
    · exact .inl (.inr (.inl h2))
  · exact .inl (.inl h1)

/-- A result's box holds it then. -/
theorem does_res {w W : World} {z : Nat} {s' : StP} (hb : Below w.heap.size w W) (hz : w.heap.size ≤ z) : Does w s' (.returned s'.v) (putS W z s') := ⟨rfl, putS_below hb hz s'⟩

set_option maxRecDepth 100000 in
set_option maxHeartbeats 2000000 in
theorem behind_any (s : StP) (e : EnP) (g : Nat) (w : World) (hE : EffAt w g) : Calls Try.prog 70 #[s.v, e.v, .map (some g)] w (Does w (nextP s e)) := by
  have hn := next_no (s := s) (e := e)
  unfold StP.v EnP.v
  go_enter Try.func70, Try.ntmps70
  go_wp2_with fail
  have h3 := three_new w s e
  generalize (((w.alloc _).alloc _).alloc _) = w0 at h3 ⊢
  obtain ⟨z, hz0⟩ : ∃ z, z = w.heap.size := ⟨_, rfl⟩
  rw [← hz0] at h3 ⊢
  clear hz0
  obtain ⟨bs, be, br, hB, hz, hsz⟩ := h3
  have Hs := Lib.hid hsz
  clear hsz
  have HE := Lib.hid (hE.below (hB.block g hE.lt))
  have Hg := Lib.hid (show g < z by have := hE.lt; omega)
  clear hE
  refine (fine_any s _).mono ?_
  rintro r w1 ⟨rfl, hb1⟩
  have bs1 := bs.below hb1
  have be1 := be.below hb1
  have br1 := br.below hb1
  have HE1 := Lib.hid (HE.out.below (hb1.block g HE.out.lt))
  replace hB : Below w.heap.size w w1 := hB.trans (hb1.mono hB.size)
  clear bs be br hb1 HE
  cases hf : fineB s with
  | false =>
    have hg : ¬ GoesP s e := fun h => by rw [fineB_iff.2 h.1] at hf; cases hf
    have Hn := Lib.hid (hn hg)
    obtain ⟨k0, k1, k2, k3, k4⟩ := bs1.cells
    obtain ⟨r0, r1, r2, r3, r4⟩ := br1.cells
    obtain ⟨g0, g1, g2, g3, g4⟩ := br1.frozen
    clear hn hg
    go_wp2_with fail
    rw [Hn.out]
    refine bodyPost_ret (v := s.v) (by simp [results, Try.results70, go_sem, *]; try rfl) rfl (does_res hB (by omega))
  | true =>
    obtain ⟨c0, c1, c2⟩ := be1.cells
    have HB := Lib.hid (⟨bs1, be1, br1, HE1.out, hB⟩ : _ ∧ _ ∧ _ ∧ _ ∧ _)
    clear bs1 be1 br1 HE1 hB
    go_wp2_with fail
    refine (right_any e _).mono ?_
    rintro r w2 ⟨rfl, hb2⟩
    obtain ⟨bs1, be1, br1, HE1, hB⟩ := HB.out
    have bs2 := bs1.below hb2
    have be2 := be1.below hb2
    have br2 := br1.below hb2
    have HE2 := Lib.hid (HE1.below (hb2.block g HE1.lt))
    replace hB : Below w.heap.size w w2 := hB.trans (hb2.mono hB.size)
    clear bs1 be1 br1 hb2 HE1 c0 c1 c2 HB
    obtain ⟨k0, k1, k2, k3, k4⟩ := bs2.cells
    obtain ⟨f0, f1, f2, f3, f4⟩ := bs2.frozen
    obtain ⟨c0, c1, c2⟩ := be2.cells
    obtain ⟨r0, r1, r2, r3, r4⟩ := br2.cells
    obtain ⟨g0, g1, g2, g3, g4⟩ := br2.frozen
    cases hr : rightB e with
    | false =>
      have hg : ¬ GoesP s e := fun h => by rw [rightB_iff.2 h.2.1] at hr; cases hr
      have Hn := Lib.hid (hn hg)
      clear hn hg
      go_wp2_with fail
      rw [Hn.out]
      refine bodyPost_ret (v := s.v) (by simp [results, Try.results70, go_sem, *]; try rfl) rfl (does_res hB (by omega))
    | true =>
      by_cases hi : s.ix = 1073741824
      · have hg : ¬ GoesP s e := fun h => h.2.2 hi
        have Hn := Lib.hid (hn hg)
        have b0 : (s.ix == 1073741824) = true := by simpa using hi
        have Hi := Lib.hid hi
        clear hn hg hi
        go_wp2_with fail
        rw [Hn.out]
        refine bodyPost_ret (v := s.v) (by simp [results, Try.results70, go_sem, *]; try rfl) rfl (does_res hB (by omega))
      · have hF := fineB_iff.1 hf
        have hR := rightB_iff.1 hr
        have Hn := Lib.hid (next_yes ⟨hF, hR, hi⟩)
        have b0 : (s.ix == 1073741824) = false := by simpa using hi
        have hsm : 0 ≤ s.sm ∧ s.sm ≤ 1073741824 := hF.2.2.1
        have hvl : 0 ≤ e.vl ∧ e.vl ≤ 1073741824 := hR.2.2.1
        have hkd : 0 ≤ e.kd ∧ e.kd ≤ 4 := hR.2.1
        have q1 : IntKind.i64.wrap (s.ix + 1) = s.ix + 1 := by have := hF.1; rw [IntKind.wrap_i64]; omega
        clear hn hi hF hR hf hr
        go_upto_region 5 with fail
        obtain ⟨w3, hw3⟩ : ∃ w3, w3 = (w2.setCell ⟨z, 0, none⟩ (.int .i64 (s.ix + 1))).setCell ⟨z, 1, none⟩ (.int .i64 e.tm) := ⟨_, rfl⟩
        have bs3 : BoxS w3 z ⟨s.ix + 1, e.tm, s.sm, s.lv, s.fn⟩ := by rw [hw3]; exact (bs2.s0 _).s1 _
        have be3 : BoxE w3 (z + 1) e := by rw [hw3]; exact (be2.other (by omega) _).other (by omega) _
        have br3 : BoxS w3 (z + 2) ⟨0, 0, 0, 0, false⟩ := by rw [hw3]; exact (br2.other (by omega) _).other (by omega) _
        have hB3 : Below w.heap.size w w3 := by rw [hw3]; exact (hB.setCell (p := ⟨z, 0, none⟩) (by show w.heap.size ≤ z; omega) _).setCell (p := ⟨z, 1, none⟩) (by show w.heap.size ≤ z; omega) _
        have HE3 : EffAt w3 g := by
          have hg := Hg.out
          refine HE2.out.below ?_
          rw [hw3, Below.heap_setCell _ _ _ g (by show g ≠ z; omega), Below.heap_setCell _ _ _ g (by show g ≠ z; omega)]
        have hlk := eff_look HE3 hkd
        rw [← hw3]
        clear hw3 bs2 be2 br2 hB HE2 k0 k1 k2 k3 k4 f0 f1 f2 f3 f4 c0 c1 c2 r0 r1 r2 r3 r4 g0 g1 g2 g3 g4 b0 q1 HE3
        obtain ⟨s3, hs3⟩ : ∃ s3 : StP, s3 = ⟨s.ix + 1, e.tm, s.sm, s.lv, s.fn⟩ := ⟨_, rfl⟩
        rw [← hs3] at bs3
        have Hn3 := Lib.hid (show nextP s e = doesP s3 e.kd e.vl by rw [hs3]; exact Hn.out)
        clear Hn
        have hsm3 : 0 ≤ s3.sm ∧ s3.sm ≤ 1073741824 := by rw [hs3]; exact hsm
        clear hs3 hsm
        obtain ⟨k0, k1, k2, k3, k4⟩ := bs3.cells
        obtain ⟨c0, c1, c2⟩ := be3.cells
        have HB := Lib.hid (⟨br3, hB3⟩ : _ ∧ _)
        clear bs3 be3 br3 hB3
        obtain ⟨k, hk⟩ : ∃ k, k = e.kd := ⟨_, rfl⟩
        rw [← hk] at hlk hkd c1 Hn3 ⊢
        clear hk
        obtain rfl | rfl | rfl | rfl | rfl : k = 0 ∨ k = 1 ∨ k = 2 ∨ k = 3 ∨ k = 4 := by omega
        · have hlk' : (Instr.lookup 77 (.map (some g)) (.int .i64 0) false).run Try.prog w3 = .ok (.func (.func 74) #[] #[]) w3 := hlk
          clear hlk
          go_wp2_with fail
          refine (does0' s3 e.vl w3).mono ?_
          rintro r w4 ⟨rfl, hb4⟩
          unfold StP.v
          obtain ⟨br3, hB3⟩ := HB.out
          have br4 := br3.below hb4
          have hB4 : Below w.heap.size w w4 := hB3.trans (hb4.mono hB3.size)
          clear br3 hB3 hb4 HB k0 k1 k2 k3 k4 c0 c1 c2 hlk'
          obtain ⟨r0, r1, r2, r3, r4⟩ := br4.cells
          obtain ⟨g0, g1, g2, g3, g4⟩ := br4.frozen
          obtain ⟨X, hX⟩ : ∃ X, X = doesP s3 0 e.vl := ⟨_, rfl⟩
          rw [← hX] at Hn3 ⊢
          clear hX
          go_wp2_with fail
          rw [Hn3.out]
          refine bodyPost_ret (v := X.v) (by simp [results, Try.results70, go_sem, *]; try rfl) rfl (does_res hB4 (by omega))
        · have hlk' : (Instr.lookup 77 (.map (some g)) (.int .i64 1) false).run Try.prog w3 = .ok (.func (.func 75) #[] #[]) w3 := hlk
          clear hlk
          go_wp2_with fail
          refine (does1 s3 e.vl w3 hsm3 hvl).mono ?_
          rintro r w4 ⟨rfl, hb4⟩
          unfold StP.v
          obtain ⟨br3, hB3⟩ := HB.out
          have br4 := br3.below hb4
          have hB4 : Below w.heap.size w w4 := hB3.trans (hb4.mono hB3.size)
          clear br3 hB3 hb4 HB k0 k1 k2 k3 k4 c0 c1 c2 hlk'
          obtain ⟨r0, r1, r2, r3, r4⟩ := br4.cells
          obtain ⟨g0, g1, g2, g3, g4⟩ := br4.frozen
          obtain ⟨X, hX⟩ : ∃ X, X = doesP s3 1 e.vl := ⟨_, rfl⟩
          rw [← hX] at Hn3 ⊢
          clear hX
          go_wp2_with fail
          rw [Hn3.out]
          refine bodyPost_ret (v := X.v) (by simp [results, Try.results70, go_sem, *]; try rfl) rfl (does_res hB4 (by omega))
        · have hlk' : (Instr.lookup 77 (.map (some g)) (.int .i64 2) false).run Try.prog w3 = .ok (.func (.func 76) #[] #[]) w3 := hlk
          clear hlk
          go_wp2_with fail
          refine (does2 s3 e.vl w3).mono ?_
          rintro r w4 ⟨rfl, hb4⟩
          unfold StP.v
          obtain ⟨br3, hB3⟩ := HB.out
          have br4 := br3.below hb4
          have hB4 : Below w.heap.size w w4 := hB3.trans (hb4.mono hB3.size)
          clear br3 hB3 hb4 HB k0 k1 k2 k3 k4 c0 c1 c2 hlk'
          obtain ⟨r0, r1, r2, r3, r4⟩ := br4.cells
          obtain ⟨g0, g1, g2, g3, g4⟩ := br4.frozen
          obtain ⟨X, hX⟩ : ∃ X, X = doesP s3 2 e.vl := ⟨_, rfl⟩
          rw [← hX] at Hn3 ⊢
          clear hX
          go_wp2_with fail
          rw [Hn3.out]
          refine bodyPost_ret (v := X.v) (by simp [results, Try.results70, go_sem, *]; try rfl) rfl (does_res hB4 (by omega))
        · have hlk' : (Instr.lookup 77 (.map (some g)) (.int .i64 3) false).run Try.prog w3 = .ok (.func (.func 77) #[] #[]) w3 := hlk
          clear hlk
          go_wp2_with fail
          refine (does3 s3 e.vl w3).mono ?_
          rintro r w4 ⟨rfl, hb4⟩
          unfold StP.v
          obtain ⟨br3, hB3⟩ := HB.out
          have br4 := br3.below hb4
          have hB4 : Below w.heap.size w w4 := hB3.trans (hb4.mono hB3.size)
          clear br3 hB3 hb4 HB k0 k1 k2 k3 k4 c0 c1 c2 hlk'
          obtain ⟨r0, r1, r2, r3, r4⟩ := br4.cells
          obtain ⟨g0, g1, g2, g3, g4⟩ := br4.frozen
          obtain ⟨X, hX⟩ : ∃ X, X = doesP s3 3 e.vl := ⟨_, rfl⟩
          rw [← hX] at Hn3 ⊢
          clear hX
          go_wp2_with fail
          rw [Hn3.out]
          refine bodyPost_ret (v := X.v) (by simp [results, Try.results70, go_sem, *]; try rfl) rfl (does_res hB4 (by omega))
        · have hlk' : (Instr.lookup 77 (.map (some g)) (.int .i64 4) false).run Try.prog w3 = .ok (.func (.func 78) #[] #[]) w3 := hlk
          clear hlk
          go_wp2_with fail
          refine (does4 s3 e.vl w3).mono ?_
          rintro r w4 ⟨rfl, hb4⟩
          unfold StP.v
          obtain ⟨br3, hB3⟩ := HB.out
          have br4 := br3.below hb4
          have hB4 : Below w.heap.size w w4 := hB3.trans (hb4.mono hB3.size)
          clear br3 hB3 hb4 HB k0 k1 k2 k3 k4 c0 c1 c2 hlk'
          obtain ⟨r0, r1, r2, r3, r4⟩ := br4.cells
          obtain ⟨g0, g1, g2, g3, g4⟩ := br4.frozen
          obtain ⟨X, hX⟩ : ∃ X, X = doesP s3 4 e.vl := ⟨_, rfl⟩
          rw [← hX] at Hn3 ⊢
          clear hX
          go_wp2_with fail
          rw [Hn3.out]
          refine bodyPost_ret (v := X.v) (by simp [results, Try.results70, go_sem, *]; try rfl) rfl (does_res hB4 (by omega))
end Go.Proofs.Ytbhnlmlaebngmaa

namespace Go.Proofs.Ytbhnlmlaebngmaa
open Go.RowKit Go.Maps

set_option maxRecDepth 100000 in
set_option maxHeartbeats 2000000 in
theorem rnext_any (s : StP) (e : EnP) (w : World) : Calls Try.prog 64 #[s.v, e.v] w (Does w (nextP s e)) := by
  have hn := next_no (s := s) (e := e)
  unfold StP.v EnP.v
  go_enter Try.func64, Try.ntmps64
  go_wp2_with fail
  have h3 := three_new w s e
  generalize (((w.alloc _).alloc _).alloc _) = w0 at h3 ⊢
  obtain ⟨z, hz0⟩ : ∃ z, z = w.heap.size := ⟨_, rfl⟩
  rw [← hz0] at h3 ⊢
  clear hz0
  obtain ⟨bs, be, br, hB, hz, hsz⟩ := h3
  have Hs := Lib.hid hsz
  clear hsz
  refine (rright_any e _).mono ?_
  rintro r w1 ⟨rfl, hb1⟩
  have bs1 := bs.below hb1
  have be1 := be.below hb1
  have br1 := br.below hb1
  replace hB : Below w.heap.size w w1 := hB.trans (hb1.mono hB.size)
  clear bs be br hb1
  obtain ⟨k0, k1, k2, k3, k4⟩ := bs1.cells
  cases hr : rightB e with
  | false =>
    have hg : ¬ GoesP s e := fun h => by rw [rightB_iff.2 h.2.1] at hr; cases hr
    have Hn := Lib.hid (hn hg)
    obtain ⟨r0, r1, r2, r3, r4⟩ := br1.cells
    obtain ⟨g0, g1, g2, g3, g4⟩ := br1.frozen
    clear hn hg
    go_wp2_with fail
    rw [Hn.out]
    refine bodyPost_ret (v := s.v) (by simp [results, Try.results64, go_sem, *]; try rfl) rfl (does_res hB (by omega))
  | true =>
    have HB := Lib.hid (⟨bs1, be1, br1, hB⟩ : _ ∧ _ ∧ _ ∧ _)
    clear bs1 be1 br1 hB
    go_wp2_with fail
    refine (rfine_any s _).mono ?_
    rintro r w2 ⟨rfl, hb2⟩
    obtain ⟨bs1, be1, br1, hB⟩ := HB.out
    have bs2 := bs1.below hb2
    have be2 := be1.below hb2
    have br2 := br1.below hb2
    replace hB : Below w.heap.size w w2 := hB.trans (hb2.mono hB.size)
    clear bs1 be1 br1 hb2 k0 k1 k2 k3 k4 HB
    obtain ⟨k0, k1, k2, k3, k4⟩ := bs2.cells
    obtain ⟨f0, f1, f2, f3, f4⟩ := bs2.frozen
    obtain ⟨c0, c1, c2⟩ := be2.cells
    obtain ⟨r0, r1, r2, r3, r4⟩ := br2.cells
    obtain ⟨g0, g1, g2, g3, g4⟩ := br2.frozen
    cases hf : fineB s with
    | false =>
      have hg : ¬ GoesP s e := fun h => by rw [fineB_iff.2 h.1] at hf; cases hf
      have Hn := Lib.hid (hn hg)
      clear hn hg
      go_wp2_with fail
      rw [Hn.out]
      refine bodyPost_ret (v := s.v) (by simp [results, Try.results64, go_sem, *]; try rfl) rfl (does_res hB (by omega))
    | true =>
      have hF := fineB_iff.1 hf
      have hR := rightB_iff.1 hr
      by_cases hi : s.ix = 1073741824
      · have hg : ¬ GoesP s e := fun h => h.2.2 hi
        have Hn := Lib.hid (hn hg)
        have b0 : decide ((1073741824 : Int) ≤ s.ix) = true := by simp; omega
        have Hi := Lib.hid hi
        clear hn hg hi hF
        go_wp2_with fail
        rw [Hn.out]
        refine bodyPost_ret (v := s.v) (by simp [results, Try.results64, go_sem, *]; try rfl) rfl (does_res hB (by omega))
      · have Hn := Lib.hid (next_yes ⟨hF, hR, hi⟩)
        have b0 : decide ((1073741824 : Int) ≤ s.ix) = false := by have := hF.1; simp; omega
        have hsm : 0 ≤ s.sm ∧ s.sm ≤ 1073741824 := hF.2.2.1
        have hvl : 0 ≤ e.vl ∧ e.vl ≤ 1073741824 := hR.2.2.1
        have hkd : 0 ≤ e.kd ∧ e.kd ≤ 4 := hR.2.1
        have q1 : IntKind.i64.wrap (s.ix + 1) = s.ix + 1 := by have := hF.1; rw [IntKind.wrap_i64]; omega
        clear hn hi hF hR hf hr
        go_upto_region 5 with fail
        obtain ⟨w3, hw3⟩ : ∃ w3, w3 = (w2.setCell ⟨z, 0, none⟩ (.int .i64 (s.ix + 1))).setCell ⟨z, 1, none⟩ (.int .i64 e.tm) := ⟨_, rfl⟩
        have bs3 : BoxS w3 z ⟨s.ix + 1, e.tm, s.sm, s.lv, s.fn⟩ := by rw [hw3]; exact (bs2.s0 _).s1 _
        have be3 : BoxE w3 (z + 1) e := by rw [hw3]; exact (be2.other (by omega) _).other (by omega) _
        have br3 : BoxS w3 (z + 2) ⟨0, 0, 0, 0, false⟩ := by rw [hw3]; exact (br2.other (by omega) _).other (by omega) _
        have hB3 : Below w.heap.size w w3 := by rw [hw3]; exact (hB.setCell (p := ⟨z, 0, none⟩) (by show w.heap.size ≤ z; omega) _).setCell (p := ⟨z, 1, none⟩) (by show w.heap.size ≤ z; omega) _
        rw [← hw3]
        clear hw3 bs2 be2 br2 hB k0 k1 k2 k3 k4 f0 f1 f2 f3 f4 c0 c1 c2 r0 r1 r2 r3 r4 g0 g1 g2 g3 g4 b0 q1
        obtain ⟨s3, hs3⟩ : ∃ s3 : StP, s3 = ⟨s.ix + 1, e.tm, s.sm, s.lv, s.fn⟩ := ⟨_, rfl⟩
        rw [← hs3] at bs3
        have Hn3 := Lib.hid (show nextP s e = doesP s3 e.kd e.vl by rw [hs3]; exact Hn.out)
        clear Hn
        have hsm3 : 0 ≤ s3.sm ∧ s3.sm ≤ 1073741824 := by rw [hs3]; exact hsm
        clear hs3 hsm
        obtain ⟨k0, k1, k2, k3, k4⟩ := bs3.cells
        obtain ⟨f0, f1, f2, f3, f4⟩ := bs3.frozen
        obtain ⟨c0, c1, c2⟩ := be3.cells
        obtain ⟨r0, r1, r2, r3, r4⟩ := br3.cells
        obtain ⟨g0, g1, g2, g3, g4⟩ := br3.frozen
        obtain ⟨k, hk⟩ : ∃ k, k = e.kd := ⟨_, rfl⟩
        rw [← hk] at hkd c1 Hn3 ⊢
        clear hk
        obtain rfl | rfl | rfl | rfl | rfl : k = 0 ∨ k = 1 ∨ k = 2 ∨ k = 3 ∨ k = 4 := by omega
        · rw [does_0] at Hn3
          go_wp2_with fail
          rw [Hn3.out]
          refine bodyPost_ret (v := s3.v) (by simp [results, Try.results64, go_sem, *]; try rfl) rfl (does_res hB3 (by omega))
        · obtain ⟨m1, hm1⟩ : ∃ m, m = 31 * s3.sm := ⟨_, rfl⟩
          have q1 : IntKind.i64.wrap (31 * s3.sm) = m1 := by rw [IntKind.wrap_i64]; omega
          have q2 : IntKind.i64.wrap (m1 + e.vl) = m1 + e.vl := by rw [IntKind.wrap_i64]; omega
          have q3 : IntKind.i64.wrap (m1 + e.vl + 1) = m1 + e.vl + 1 := by rw [IntKind.wrap_i64]; omega
          have q4 : (m1 + e.vl + 1).tmod 1073741824 = (s3.sm * 31 + e.vl + 1) % 1073741824 := by rw [hm1, Int.tmod_eq_emod_of_nonneg (by omega)]; congr 1; omega
          obtain ⟨m2, hm2⟩ : ∃ m, m = (s3.sm * 31 + e.vl + 1) % 1073741824 := ⟨_, rfl⟩
          have q5 : IntKind.i64.wrap m2 = m2 := by rw [IntKind.wrap_i64]; omega
          rw [← hm2] at q4
          have Hn4 := Lib.hid (show nextP s e = { s3 with sm := m2 } by rw [Hn3.out, hm2]; rfl)
          have Hb5 := Lib.hid (bs3.s2 m2)
          clear Hn3 hm1 hm2
          go_wp2_with fail
          rw [Hn4.out]
          refine bodyPost_ret (v := ({ s3 with sm := m2 } : StP).v) (by simp [results, Try.results64, go_sem, *]; try rfl) rfl (does_res (s' := { s3 with sm := m2 }) (hB3.setCell (p := ⟨z, 2, none⟩) (by show w.heap.size ≤ z; omega) _) (by omega))
        · have Hn4 := Lib.hid (show nextP s e = { s3 with lv := 2 } by rw [Hn3.out]; rfl)
          clear Hn3
          go_wp2_with fail
          rw [Hn4.out]
          refine bodyPost_ret (v := ({ s3 with lv := 2 } : StP).v) (by simp [results, Try.results64, go_sem, *]; try rfl) rfl (does_res (s' := { s3 with lv := 2 }) (hB3.setCell (p := ⟨z, 3, none⟩) (by show w.heap.size ≤ z; omega) _) (by omega))
        · cases hfn : s3.fn with
          | true =>
            have Hn4 := Lib.hid (show nextP s e = s3 by rw [Hn3.out]; show (if s3.fn = true then s3 else _) = s3; rw [if_pos hfn])
            rw [hfn] at k4
            have Hf := Lib.hid hfn
            clear Hn3 hfn
            go_wp2_with fail
            rw [Hn4.out]
            refine bodyPost_ret (v := s3.v) (by simp [results, Try.results64, go_sem, *]; unfold StP.v; rw [Hf.out]) rfl (by have h := does_res (s' := s3) hB3 (show w.heap.size ≤ z + 2 by omega); unfold putS at h; rw [Hf.out] at h; exact h)
          | false =>
            have Hn4 := Lib.hid (show nextP s e = { s3 with lv := 1 } by rw [Hn3.out]; show (if s3.fn = true then s3 else _) = _; rw [if_neg (by rw [hfn]; decide)])
            rw [hfn] at k4
            have Hf := Lib.hid hfn
            clear Hn3 hfn
            go_wp2_with fail
            rw [Hn4.out]
            refine bodyPost_ret (v := ({ s3 with lv := 1 } : StP).v) (by simp [results, Try.results64, go_sem, *]; unfold StP.v; dsimp only; rw [Hf.out]) rfl (by have h := does_res (s' := { s3 with lv := 1 }) (hB3.setCell (p := ⟨z, 3, none⟩) (by show w.heap.size ≤ z; omega) (.int .i64 1)) (show w.heap.size ≤ z + 2 by omega); unfold putS at h; simp only [Hf.out] at h ⊢; exact h)
        · obtain ⟨y, hy⟩ : ∃ y, y = decide (s3.lv = 2) := ⟨_, rfl⟩
          have q1 : (s3.lv == 2) = y := by rw [hy]; exact beq_eq_decide _ _
          have Hn4 := Lib.hid (show nextP s e = { s3 with fn := y } by rw [Hn3.out, hy]; rfl)
          clear Hn3 hy
          go_wp2_with fail
          rw [Hn4.out]
          refine bodyPost_ret (v := ({ s3 with fn := y } : StP).v) (by simp [results, Try.results64, go_sem, *]; try rfl) rfl (does_res (s' := { s3 with fn := y }) (hB3.setCell (p := ⟨z, 4, none⟩) (by show w.heap.size ≤ z; omega) _) (by omega))
end Go.Proofs.Ytbhnlmlaebngmaa

namespace Go.Proofs.Ytbhnlmlaebngmaa
open Go.RowKit Go.Maps

section
variable {w w' : World} {B B' n : Nat} {A : Option Addr} {l : List EnP}
end
set_option maxRecDepth 100000 in
set_option maxHeartbeats 2000000 in
theorem rall_any (s : StP) (A : Option Addr) (n c : Nat) (l : List EnP) (w : World) (hl : Es w w.heap.size A n l) (hn : n ≤ 140737488355328) :
    Calls Try.prog 52 #[s.v, .slice A n c] w (Does w (allP s l)) := by
  have h0 : allP s (l.take 0) = s := rfl
  have hln := hl.len
  have Hall := Lib.hid (show allP s (l.take n) = allP s l by rw [List.take_of_length_le (by omega)])
  have Hl := Lib.hid hl
  clear hl
  unfold StP.v
  go_enter Try.func52, Try.ntmps52
  go_wp2_with fail
  obtain ⟨z, hz⟩ : ∃ z, z = w.heap.size := ⟨_, rfl⟩
  obtain ⟨wa, hwa⟩ : ∃ wa, wa = w.alloc (.cells #[.int .i64 s.ix, .int .i64 s.tm, .int .i64 s.sm, .int .i64 s.lv, .bool s.fn] 23) := ⟨_, rfl⟩
  obtain ⟨w0, hw0⟩ : ∃ w0, w0 = wa.alloc (.cells #[.int .i64 0, .int .i64 0, .int .i64 0, .int .i64 0, .bool false] 23) := ⟨_, rfl⟩
  have hsa : wa.heap.size = z + 1 := by rw [hwa, hz]; simp
  have hBa : Below w.heap.size w wa := by rw [hwa]; exact (Below.refl _ _).alloc (Nat.le_refl _) _
  have hB0 : Below w.heap.size w w0 := by rw [hw0]; exact hBa.alloc hBa.size _
  have ba : BoxS wa z s := by rw [hwa, hz]; exact BoxS.new w s
  have bs0 : BoxS w0 z s := ba.below (by rw [hw0]; exact (Below.refl _ _).alloc (Nat.le_refl _) _)
  have br0 : BoxS w0 (z + 1) ⟨0, 0, 0, 0, false⟩ := by rw [hw0, ← hsa]; exact BoxS.new wa ⟨0, 0, 0, 0, false⟩
  have he : w0 = (w.alloc (.cells #[.int .i64 s.ix, .int .i64 s.tm, .int .i64 s.sm, .int .i64 s.lv, .bool s.fn] 23)).alloc (.cells #[.int .i64 0, .int .i64 0, .int .i64 0, .int .i64 0, .bool false] 23) := by rw [hw0, hwa]
  rw [← he, ← hz]
  have hzw : w.heap.size ≤ z ∧ w.heap.size ≤ z + 1 ∧ z + 1 ≠ z := by omega
  clear he hw0 hwa hz hsa hBa ba
  rw [← h0] at bs0
  go_loopw [5] (fun i wr => ∃ j : Nat, j ≤ n ∧ i = .int .i64 j ∧ BoxS wr z (allP s (l.take j)) ∧ BoxS wr (z + 1) ⟨0, 0, 0, 0, false⟩ ∧ Below w.heap.size w wr) (fun i _ => n - (intOf i).toNat)
  case atStart => exact ⟨0, Nat.zero_le _, rfl, bs0, br0, hB0⟩
  case round =>
    obtain ⟨j, hj, rfl, bs, br, hB⟩ := hrel
    clear bs0 br0 hB0
    obtain ⟨k0, k1, k2, k3, k4⟩ := bs.cells
    by_cases hlt : j < n
    · have hj2 : (0 : Int) ≤ (j : Int) := by omega
      have hj3 : (j : Int) < (n : Int) := by omega
      have hw1 : IntKind.i64.wrap ((j : Int) + 1) = ((j + 1 : Nat) : Int) := by rw [IntKind.wrap_i64]; omega
      obtain ⟨b, off, e, rfl, hb, he, c0, c1, c2⟩ := (Hl.out.on hB hB.size).at_ hlt
      have hnx : nextP (allP s (l.take j)) e = allP s (l.take (j + 1)) := by rw [take_succ he, all_snoc]
      obtain ⟨t, ht⟩ : ∃ t, t = allP s (l.take j) := ⟨_, rfl⟩
      obtain ⟨X, hX⟩ : ∃ X, X = allP s (l.take (j + 1)) := ⟨_, rfl⟩
      rw [← ht] at bs k0 k1 k2 k3 k4 hnx
      rw [← hX] at hnx
      have HX := Lib.hid hX
      have Hnx := Lib.hid hnx
      have HB := Lib.hid (⟨bs, br, hB⟩ : _ ∧ _ ∧ _)
      clear ht hX hnx bs br hB he hb
      go_upto_region 4 with fail
      go_still_tail 5, (by kernel_rfl)
      change wpList _ _ _ _ _ wr.drew
      go_wp2_with fail
      refine (rnext_any t e _).mono ?_
      rw [Hnx.out]
      rintro r w4 ⟨rfl, hb4⟩
      unfold StP.v
      obtain ⟨bs, br, hB⟩ := HB.out
      have hb5 : Below wr.heap.size wr w4 := (below_dr (below_d0 wr)).trans hb4
      have bs4 := bs.below hb5
      have br4 := br.below hb5
      have hB4 : Below w.heap.size w w4 := hB.trans (hb5.mono hB.size)
      obtain ⟨f0, f1, f2, f3, f4⟩ := bs4.frozen
      obtain ⟨d0, d1, d2, d3, d4⟩ := bs4.cells
      have H4 := Lib.hid (⟨bs4, br4, hB4⟩ : _ ∧ _ ∧ _)
      clear bs br hB HB hb4 hb5 bs4 br4 hB4 k0 k1 k2 k3 k4 c0 c1 c2
      go_wp2_with fail
      go_roundw
      case rel =>
        obtain ⟨bs4, br4, hB4⟩ := H4.out
        rw [HX.out] at *
        exact ⟨j + 1, by omega, by go_num, putS_box bs4 _, putS_other br4 (by omega) _, putS_below hB4 (by omega) _⟩
      case measure => simp [intOf]; omega
    · obtain rfl : j = n := by omega
      rw [Hall.out] at bs k0 k1 k2 k3 k4
      obtain ⟨X, hX⟩ : ∃ X, X = allP s l := ⟨_, rfl⟩
      rw [← hX] at bs k0 k1 k2 k3 k4 ⊢
      obtain ⟨r0, r1, r2, r3, r4⟩ := br.cells
      obtain ⟨g0, g1, g2, g3, g4⟩ := br.frozen
      have Hb := Lib.hid (does_res (s' := X) hB hzw.2.1)
      have Hx := Lib.hid hX
      clear Hall hX bs br hB
      go_wp2_with fail
      refine bodyPost_ret (v := X.v) (by simp [results, Try.results52, go_sem, *]; try rfl) rfl (by rw [← Hx.out]; exact Hb.out)
end Go.Proofs.Ytbhnlmlaebngmaa

namespace Go.Proofs.Ytbhnlmlaebngmaa
open Go.RowKit Go.Maps Go.Shelf

attribute [local go_sem] Oper.semAt_some

/-- A state, as it is handed over. -/
abbrev encS (s : StP) : Array Value := #[.agg #[.int .i64 s.ix, .int .i64 s.tm, .int .i64 s.sm, .int .i64 s.lv, .bool s.fn]]
/-- The states behind each. -/
def statesP (s : StP) (l : List EnP) : List StP := (List.range l.length).map fun i => allP s (l.take (i + 1))
theorem states_len (s : StP) (l : List EnP) : (statesP s l).length = l.length := by simp [statesP]
theorem states_succ (s : StP) {l : List EnP} {k : Nat} (hk : k < l.length) : statesP s (l.take (k + 1)) = statesP s (l.take k) ++ [allP s (l.take (k + 1))] := by
  unfold statesP
  rw [List.length_take, List.length_take, Nat.min_eq_left (by omega), Nat.min_eq_left (by omega), List.range_succ, List.map_append]
  congr 1
  · refine List.map_congr_left fun i hi => ?_
    have := List.mem_range.1 hi
    rw [List.take_take, List.take_take, Nat.min_eq_left (by omega), Nat.min_eq_left (by omega)]
  · simp only [List.map_cons, List.map_nil]
    rw [List.take_take, Nat.min_eq_left (Nat.le_refl _)]
/-- What a round must leave alone: what lies below B0; whatever walks; boxes of states, but for zB, and of rows of entries. -/
structure KpE (B0 zB : Nat) (A B : World) : Prop where
  low : ∀ k, k < B0 → B.heap[k]? = A.heap[k]?
  walks : ∀ (k : Nat) (o : Obj), A.heap[k]? = some o → o.isWalk = true → B.heap[k]? = some o
  cells : ∀ (k : Nat) cur t fr, k ≠ zB → A.heap[k]? = some (Obj.cells cur t fr) → t = 23 ∨ t = 24 → B.heap[k]? = some (Obj.cells cur t fr)
theorem KpE.refl (B0 zB : Nat) (A : World) : KpE B0 zB A A := ⟨fun _ _ => rfl, fun _ _ h _ => h, fun _ _ _ _ _ h _ => h⟩
theorem KpE.trans {B0 zB : Nat} {A B C : World} (h : KpE B0 zB A B) (k : KpE B0 zB B C) : KpE B0 zB A C :=
  ⟨fun i hi => (k.low i hi).trans (h.low i hi), fun i o hi ho => k.walks i o (h.walks i o hi ho) ho, fun i cur t fr hz hi ht => k.cells i cur t fr hz (h.cells i cur t fr hz hi ht) ht⟩
theorem KpE.put {B0 zB B : Nat} (hB : B0 ≤ B) (W : World) (l : Nat) (o o' : Obj) (hl : B ≤ l) (h : W.heap[l]? = some o) (hc : o.isCells = false) (hw : o.isWalk = false) : KpE B0 zB W (W.putObj l o') :=
  have key : ∀ (k : Nat) (x : Obj), W.heap[k]? = some x → (x.isWalk = true ∨ x.isCells = true) → (W.putObj l o').heap[k]? = some x := fun k x hk hx => by
    refine (World.putObj_heap_other (fun e => ?_)).trans hk
    subst e
    rw [h] at hk
    cases hk
    rcases hx with hx | hx
    · rw [hw] at hx; cases hx
    · rw [hc] at hx; cases hx
  ⟨fun k hk => World.putObj_heap_other (by omega), fun k x hk hx => key k x hk (.inl hx), fun k cur t fr _ hk _ => key k _ hk (.inr rfl)⟩
theorem KpE.below {B0 zB : Nat} {A B : World} (h : Below A.heap.size A B) (hB : B0 ≤ A.heap.size) : KpE B0 zB A B :=
  ⟨fun k hk => h.block k (by omega), fun k o hk _ => (h.block k (Array.getElem?_eq_some_iff.1 hk).1).trans hk, fun k cur t fr _ hk _ => (h.block k (Array.getElem?_eq_some_iff.1 hk).1).trans hk⟩

theorem grown_of {A B : World} (h : Below A.heap.size A B) : A.grownBy B none := ⟨h.os, h.tape, h.output, h.size, fun k hk _ => h.block k hk⟩
theorem putS_grown (W : World) (x : Nat) (s : StP) : W.grownBy (putS W x s) (some x) := by
  have h := putS_below (z := x) (Below.refl 0 W) (Nat.zero_le _) s
  exact ⟨h.os, h.tape, h.output, h.size, fun k _ hk => putS_same (fun e => hk (by rw [e])) s⟩
/-- What holds at the label: so many have come. -/
structure SInv (s : StP) (l : List EnP) (A : Option Addr) (n c sB lB B0 g x W0 : Nat) (J : List StP → World → Prop) (k : Nat) (w : World) : Prop where
  bx : BoxS w x (allP s (l.take k))
  bs : BoxS w sB s
  bl : Boxed w lB 24 (.slice A n c)
  eff : EffAt w g
  row : Es w B0 A n l
  j : J (statesP s (l.take k)) w
  size : W0 ≤ w.heap.size
def SAct (sB lB g x : Nat) (s : StP) (l0 : Nat) (k : Nat) (a' : Act) : Prop :=
  ∃ (u9 u10 u11 u12 u13 u14 u15 u16 u17 u18 u19 u20 u21 u22 u23 u24 : Value),
    a' = { tmps := #[.func (.yield l0) #[] #[], .pointer (some ⟨sB, 0, none⟩), .pointer (some ⟨lB, 0, none⟩), undef, .map (some g), .pointer (some ⟨x, 0, none⟩), .int .i64 k, .map (some g), .agg #[.int .i64 s.ix, .int .i64 s.tm, .int .i64 s.sm, .int .i64 s.lv, .bool s.fn], u9, u10, u11, u12, u13, u14, u15, u16, u17, u18, u19, u20, u21, u22, u23, u24], defers := [] }
/-- .. and where all of it lies. -/
def SAll (W : World) (s : StP) (l : List EnP) (A : Option Addr) (n c sB lB B0 : Nat) (J : List StP → World → Prop) (l0 : Nat) (a' : Act) (w : World) : Prop :=
  ∃ k g x, k ≤ n ∧ (W.heap.size ≤ x ∧ W.heap.size ≤ g ∧ x ≠ g) ∧ SInv s l A n c sB lB B0 g x W.heap.size J k w ∧ SAct sB lB g x s l0 k a'

set_option maxRecDepth 100000 in
set_option maxHeartbeats 2000000 in
theorem states_in (l0 sB lB zB B0 : Nat) {s : StP} {A : Option Addr} {n c : Nat} {l : List EnP} (hn : n ≤ 140737488355328) (J Jx : List StP → World → Prop) (W : World) (hJ : StaysT 23 W.heap.size J)
    (hY : ∀ pre x W1, J pre W1 → pre.length < l.length → YieldAt Fence.wide 2 Try.prog l0 (encS x) W1 fun e W' =>
      (e = .returned (.bool true) ∧ J (pre ++ [x]) W' ∧ KpE B0 zB W1 W') ∨ (e = .returned (.bool false) ∧ Jx (pre ++ [x]) W'))
    (hsB : BoxS W sB s) (hlB : Boxed W lB 24 (.slice A n c)) (hr : Es W B0 A n l) (hB0 : B0 ≤ W.heap.size) (hz : zB < W.heap.size) (hzs : sB ≠ zB ∧ lB ≠ zB) (h0 : J [] W) :
    CallsIn Fence.wide 3 Try.prog 68 #[.func (.yield l0) #[] #[], .pointer (some ⟨sB, 0, none⟩), .pointer (some ⟨lB, 0, none⟩)] W fun e W' => (∃ v, e = .returned v) ∧
      ((∃ ys, ys = statesP s l ∧ J ys W') ∨ (∃ pre, Jx pre W')) := by
  refine callsIn_of_wp Try.func68 rfl trivial ?_ rfl
  simp only [Try.ntmps68, List.size_toArray, List.length_cons, List.length_nil, Nat.reduceAdd, Nat.reduceSub, Array.replicate_succ, Array.replicate_zero, List.push_toArray, List.append_toArray, List.nil_append, List.cons_append]
  have Hl := Lib.hid hr.len
  refine scope_once 0 (SAll W s l A n c sB lB B0 J l0) (fun a' _ => n - (intOf (a'.tmps.getD 6 undef)).toNat) rfl ?_ ?_
  · intro hrest
    gi_wp2_with fail
    refine ⟨trivial, ?_⟩
    refine (callsIn_wide.2 (effects_any W)).mono ?_
    rintro e w1 ⟨⟨g, rfl, hE, hg⟩, hb1⟩
    have bs1 := hsB.below hb1
    have bl1 : Boxed w1 lB 24 (.slice A n c) := (hb1.block lB hlB.lt).trans hlB
    have hr1 := hr.low (fun k hk => hb1.block k (by omega))
    obtain ⟨k0, k1, k2, k3, k4⟩ := bs1.cells
    gi_wp2_with fail
    refine wpIn_label ?_
    rename_i hK
    have hb2 : Below w1.heap.size w1 (w1.alloc (.cells #[.int .i64 s.ix, .int .i64 s.tm, .int .i64 s.sm, .int .i64 s.lv, .bool s.fn] 23)) := (Below.refl _ _).alloc (Nat.le_refl _) _
    have bx2 := BoxS.new w1 s
    have hx := hb1.size
    obtain ⟨w2, hw2⟩ : ∃ w2, w2 = w1.alloc (.cells #[.int .i64 s.ix, .int .i64 s.tm, .int .i64 s.sm, .int .i64 s.lv, .bool s.fn] 23) := ⟨_, rfl⟩
    rw [← hw2] at hb2 bx2 ⊢
    clear hw2
    have hJ2 : J [] w2 := hJ _ _ w2 none h0 (grown_of (hb1.trans (hb2.mono hx))) (fun r e => by cases e)
    exact hK _ _ (hrest _ _ ⟨0, g, w1.heap.size, Nat.zero_le _, ⟨hx, hg, by have := hE.lt; omega⟩,
      ⟨bx2, bs1.below hb2, (hb2.block lB bl1.lt).trans bl1, hE.below (hb2.block g hE.lt), hr1.low (fun k hk => hb2.block k (by omega)), hJ2, by have := hb2.size; omega⟩, _, _, _, _, _, _, _, _, _, _, _, _, _, _, _, _, rfl⟩)
  · rintro a' wr ⟨k, g, x, hk, ⟨hx, hg, hxg⟩, hi, u9, u10, u11, u12, u13, u14, u15, u16, u17, u18, u19, u20, u21, u22, u23, u24, rfl⟩
    have HI := Lib.hid hi
    obtain ⟨k0, k1, k2, k3, k4⟩ := hi.bx.cells
    have hlc := hi.bl.cell
    have hi2 := hi.row
    clear hi
    by_cases hlt : k < n
    · have hq : ((k : Int) == (n : Int)) = false := by simp; omega
      have hk1 : (0 : Int) ≤ (k : Int) ∧ (k : Int) < (n : Int) := by omega
      have hw1 : IntKind.i64.wrap ((k : Int) + 1) = ((k + 1 : Nat) : Int) := by rw [IntKind.wrap_i64]; omega
      obtain ⟨hk2, hk3⟩ := hk1
      obtain ⟨b, off, en, rfl, hbl, he, c0, c1, c2⟩ := hi2.at_ hlt
      have hnx : nextP (allP s (l.take k)) en = allP s (l.take (k + 1)) := by rw [take_succ he, all_snoc]
      obtain ⟨t, ht⟩ : ∃ t, t = allP s (l.take k) := ⟨_, rfl⟩
      obtain ⟨X, hX⟩ : ∃ X, X = allP s (l.take (k + 1)) := ⟨_, rfl⟩
      rw [← ht] at k0 k1 k2 k3 k4 hnx
      rw [← hX] at hnx
      have HX := Lib.hid (⟨ht, hX⟩ : _ ∧ _)
      have Hnx := Lib.hid hnx
      have HY := Lib.hid hY
      have HG := Lib.hid (⟨hsB, hlB, hr, hB0, hz, hzs, h0⟩ : _ ∧ _ ∧ _ ∧ _ ∧ _ ∧ _ ∧ _)
      clear ht hX hnx he hi2 hY hsB hlB hr hB0 hz hzs h0 hbl
      gi_wp2_with fail
      refine wpIn_wide.2 ?_
      go_still_tail 6, (by kernel_rfl)
      change wpList _ _ _ _ _ wr.drew
      go_wp2_with fail
      refine Calls.mono (behind_any t en g _ ?_) ?_
      · exact HI.out.eff.below rfl
      rw [Hnx.out]
      rintro r w4 ⟨rfl, hb4⟩
      unfold StP.v
      have hb5 : Below wr.heap.size wr w4 := (below_dr (below_d0 wr)).trans hb4
      have bx4 := HI.out.bx.below hb5
      obtain ⟨f0, f1, f2, f3, f4⟩ := bx4.frozen
      obtain ⟨d0, d1, d2, d3, d4⟩ := bx4.cells
      have H4 := Lib.hid (⟨hb5, bx4⟩ : _ ∧ _)
      clear hb4 hb5 bx4 k0 k1 k2 k3 k4 c0 c1 c2 hlc
      go_wp2_with fail
      change Code.wpIn _ _ _ _ _ _ (putS w4 x X)
      have hbx : BoxS (putS w4 x X) x X := putS_box H4.out.2 X
      have hsz4 := H4.out.1.size
      have hJ5 : J (statesP s (l.take k)) (putS w4 x X) := hJ _ w4 _ (some x) (hJ _ wr w4 none HI.out.j (grown_of H4.out.1) (fun r e => by cases e)) (putS_grown w4 x X) (fun r e => by cases e; exact ⟨hx, _, H4.out.2, .inr ⟨_, _, rfl⟩⟩)
      have hsB := HG.out.1.lt
      have hlB := HG.out.2.1.lt
      have hi5 : BoxS (putS w4 x X) sB s ∧ Boxed (putS w4 x X) lB 24 (.slice (some ⟨b, off, none⟩) n c) ∧ EffAt (putS w4 x X) g ∧ Es (putS w4 x X) B0 (some ⟨b, off, none⟩) n l ∧ W.heap.size ≤ (putS w4 x X).heap.size := by
        have h1 := HI.out
        have h2 := HG.out.2.2.2.1
        have h3 := h1.size
        refine ⟨putS_other (h1.bs.below H4.out.1) (by omega) X, ?_, ?_, ?_, by rw [putS_size]; omega⟩
        · exact (putS_same (by omega) X).trans ((H4.out.1.block lB h1.bl.lt).trans h1.bl)
        · exact h1.eff.below ((putS_same (fun e => hxg e.symm) X).trans (H4.out.1.block g h1.eff.lt))
        · exact h1.row.low fun i hi => (putS_same (by omega) X).trans (H4.out.1.block i (by omega))
      obtain ⟨w5, hw5⟩ : ∃ w5, w5 = putS w4 x X := ⟨_, rfl⟩
      rw [← hw5] at hbx hJ5 hi5 ⊢
      clear hw5 f0 f1 f2 f3 f4 d0 d1 d2 d3 d4
      obtain ⟨k0, k1, k2, k3, k4⟩ := hbx.cells
      have hlen : (statesP s (l.take k)).length < l.length := by rw [states_len, List.length_take, Hl.out]; omega
      obtain ⟨fn, tmps, assign, body, hy, hR⟩ := HY.out _ X w5 hJ5 hlen
      have Hst := Lib.hid (show statesP s (l.take k) ++ [X] = statesP s (l.take (k + 1)) by rw [HX.out.2, states_succ s (by rw [Hl.out]; exact hlt)])
      have H5 := Lib.hid (⟨hbx, hi5⟩ : _ ∧ _)
      dsimp only [encS] at hy
      clear hbx hi5 hJ5 hlen
      gi_wp2_with fail
      refine hR.mono ?_
      rintro e W3 (⟨rfl, hJ3, hk3⟩ | ⟨rfl, hJx3⟩)
      · have H3 := Lib.hid (⟨hJ3, hk3⟩ : _ ∧ _)
        clear hJ3 hk3 k0 k1 k2 k3 k4
        gi_wp2_with fail
        refine wpIn_goto ?_
        refine ⟨rfl, ⟨k + 1, g, x, hlt, ⟨hx, hg, hxg⟩, ?_, _, _, _, _, _, _, _, _, _, _, _, _, _, _, _, _, rfl⟩, ?_⟩
        · obtain ⟨hJ3, hk3⟩ := H3.out
          obtain ⟨hbx, hs5, hl5, he5, hr5, hz5⟩ := H5.out
          obtain ⟨_, _, _, hB0, hz, hzs, _⟩ := HG.out
          refine ⟨?_, hk3.cells sB _ _ _ hzs.1 hs5 (.inl rfl), hk3.cells lB _ _ _ hzs.2 hl5 (.inr rfl), ?_, hr5.low hk3.low, by rw [← Hst.out]; exact hJ3, ?_⟩
          · rw [← HX.out.2]
            exact hk3.cells x _ _ _ (by omega) hbx (.inl rfl)
          · obtain ⟨es, clock, h1, h2⟩ := he5
            exact ⟨es, clock, hk3.walks g _ h1 rfl, h2⟩
          · have h6 := hk3.cells x _ _ _ (by omega) hbx (.inl rfl)
            have h7 := (Array.getElem?_eq_some_iff.1 h6).1
            omega
        · simp [intOf]
          omega
      · gi_wp2_with fail
        simp only [Exit.jump]
        go_end0
        exact ⟨⟨_, rfl⟩, .inr ⟨_, hJx3⟩⟩
    · obtain rfl : k = n := by omega
      have hq : ((k : Int) == (k : Int)) = true := by simp
      have hfin : J (statesP s l) wr := by
        have h1 := HI.out.j
        rw [List.take_of_length_le (by rw [Hl.out]; exact Nat.le_refl _)] at h1
        exact h1
      have Hf := Lib.hid hfin
      clear hfin hJ hY h0
      gi_wp2_with fail
      simp only [Exit.jump]
      refine bodyPost_ret (results_none rfl _ _ _) rfl ?_
      exact ⟨⟨_, rfl⟩, .inl Hf.out⟩
end Go.Proofs.Ytbhnlmlaebngmaa

namespace Go.Proofs.Ytbhnlmlaebngmaa
open Go.RowKit Go.Maps Go.Shelf

attribute [local go_sem] Oper.semAt_some

/-- The iterator's contract. -/
theorem states_stops (sB lB zB B0 : Nat) {s : StP} {A : Option Addr} {n c : Nat} {l : List EnP} (hn : n ≤ 140737488355328) (w : World) (hsB : BoxS w sB s) (hlB : Boxed w lB 24 (.slice A n c)) (hr : Es w B0 A n l)
    (hB0 : B0 ≤ w.heap.size) (hz : zB < w.heap.size) (hzs : sB ≠ zB ∧ lB ≠ zB) :
    SeqT 23 Fence.wide 3 Try.prog 68 #[.pointer (some ⟨sB, 0, none⟩), .pointer (some ⟨lB, 0, none⟩)] encS (KpE B0 zB) (fun ys => ys = statesP s l) l.length w := fun l0 J Jx W hW hJ _ hY h0 =>
  states_in l0 sB lB zB B0 hn J Jx W hJ hY (hsB.below hW) ((hW.block lB hlB.lt).trans hlB) (hr.low fun k hk => hW.block k (by omega)) (by have := hW.size; omega) (by have := hW.size; omega) hzs h0

/-- What states answers. -/
def StatesOut (s : StP) (A : Option Addr) (n c : Nat) (w : World) (e : Ending) (w' : World) : Prop :=
  e = .returned (.func (.func 68) #[] #[.pointer (some ⟨w.heap.size, 0, none⟩), .pointer (some ⟨w.heap.size + 1, 0, none⟩)]) ∧ BoxS w' w.heap.size s ∧ Boxed w' (w.heap.size + 1) 24 (.slice A n c) ∧ w'.heap.size = w.heap.size + 2 ∧ Below w.heap.size w w'
set_option maxRecDepth 100000 in
set_option maxHeartbeats 400000 in
theorem states_any (s : StP) (A : Option Addr) (n c : Nat) (w : World) : Calls Try.prog 63 #[.agg #[.int .i64 s.ix, .int .i64 s.tm, .int .i64 s.sm, .int .i64 s.lv, .bool s.fn], .slice A n c] w (StatesOut s A n c w) := by
  go_enter Try.func63, Try.ntmps63
  go_wp2
  go_ret
  have e1 : (w.alloc (.cells #[.int .i64 s.ix, .int .i64 s.tm, .int .i64 s.sm, .int .i64 s.lv, .bool s.fn] 23)).heap.size = w.heap.size + 1 := by simp
  refine ⟨rfl, ?_, ?_, by simp, bel2 w _ _⟩
  · exact BoxS.below (BoxS.new w s) ((Below.refl _ _).alloc (Nat.le_refl _) _)
  · have h := Boxed.new (w.alloc (.cells #[.int .i64 s.ix, .int .i64 s.tm, .int .i64 s.sm, .int .i64 s.lv, .bool s.fn] 23)) 24 (.slice A n c)
    rw [e1] at h
    exact h

theorem states_last (s : StP) (l : List EnP) : (statesP s l).getLast?.getD s = allP s l := by
  unfold statesP
  rcases Nat.eq_zero_or_pos l.length with h | h
  · rw [h, List.eq_nil_of_length_eq_zero h]; rfl
  · obtain ⟨m, hm⟩ : ∃ m, l.length = m + 1 := ⟨l.length - 1, by omega⟩
    rw [hm, List.range_succ, List.map_append]
    simp only [List.map_cons, List.map_nil, List.getLast?_concat, Option.getD_some]
    rw [← hm, List.take_length]

/-- What speaks of blocks below B alone stays, whatever is turned from B on. -/
theorem ownT_low {β : Type} {t : TypeId} {B : Nat} {I : β → World → Prop} (hsz : ∀ s W, I s W → B ≤ W.heap.size) (h : ∀ s W W', I s W → Below B W W' → I s W') : OwnT t B I := fun s W W' row hs hg hr =>
  h s W W' hs ⟨hg.os, hg.tape, hg.output, hg.size, fun k hk => hg.block k (Nat.lt_of_lt_of_le hk (hsz s W hs)) (fun e => by have := (hr k e.symm).1; omega)⟩

/-- Between two rounds: the box z holds the last state that has come; the result's box lies as it lay. -/
structure AInv (w : World) (z D : Nat) (s : StP) (pre : List StP) (W : World) : Prop where
  bs : BoxS W z (pre.getLast?.getD s)
  br : BoxS W (z + 1) ⟨0, 0, 0, 0, false⟩
  low : Below w.heap.size w W
  size : D ≤ W.heap.size
/-- The loop's variable. -/
def AVar (D : Nat) (mk : Nat → StP → Act) (s : StP) (a' : Act) (W : World) : Prop := ∃ bx, BoxS W bx s ∧ D ≤ bx ∧ a' = mk bx s
theorem AVar.put {D : Nat} {mk : Nat → StP → Act} (s : StP) (a' : Act) (W : World) (l : Nat) (o o' : Obj) (h : AVar D mk s a' W) (hl : W.heap[l]? = some o) (ho : o.isCells = false) : AVar D mk s a' (W.putObj l o') := by
  obtain ⟨bx, hb, hD, e⟩ := h
  refine ⟨bx, (World.putObj_heap_other (fun e => ?_)).trans hb, hD, e⟩
  subst e
  rw [show W.heap[bx]? = _ from hb] at hl
  cases hl
  cases ho

set_option maxRecDepth 100000 in
set_option maxHeartbeats 2000000 in
theorem all_in (s : StP) (A : Option Addr) (n c : Nat) (l : List EnP) (w : World) (hl : Es w w.heap.size A n l) (hn : n ≤ 140737488355328) :
    CallsIn Fence.wide 4 Try.prog 51 #[s.v, .slice A n c] w (Does w (allP s l)) := by
  have Hl := Lib.hid hl
  clear hl
  unfold StP.v
  refine callsIn_of_wp_marks Try.func51 rfl trivial ?_ rfl
  simp only [Try.ntmps51, List.size_toArray, List.length_cons, List.length_nil, Nat.reduceAdd, Nat.reduceSub, Array.replicate_succ, Array.replicate_zero, List.push_toArray, List.append_toArray, List.nil_append, List.cons_append]
  gi_wp2_with fail
  refine ⟨trivial, ?_⟩
  obtain ⟨z, hz⟩ : ∃ z, z = w.heap.size := ⟨_, rfl⟩
  obtain ⟨wa, hwa⟩ : ∃ wa, wa = w.alloc (.cells #[.int .i64 s.ix, .int .i64 s.tm, .int .i64 s.sm, .int .i64 s.lv, .bool s.fn] 23) := ⟨_, rfl⟩
  obtain ⟨w0, hw0⟩ : ∃ w0, w0 = wa.alloc (.cells #[.int .i64 0, .int .i64 0, .int .i64 0, .int .i64 0, .bool false] 23) := ⟨_, rfl⟩
  have hsa : wa.heap.size = z + 1 := by rw [hwa, hz]; simp
  have hs0 : w0.heap.size = z + 2 := by rw [hw0]; simp [hsa]
  have hBa : Below w.heap.size w wa := by rw [hwa]; exact (Below.refl _ _).alloc (Nat.le_refl _) _
  have hB0 : Below w.heap.size w w0 := by rw [hw0]; exact hBa.alloc hBa.size _
  have ba : BoxS wa z s := by rw [hwa, hz]; exact BoxS.new w s
  have bs0 : BoxS w0 z s := ba.below (by rw [hw0]; exact (Below.refl _ _).alloc (Nat.le_refl _) _)
  have br0 : BoxS w0 (z + 1) ⟨0, 0, 0, 0, false⟩ := by rw [hw0, ← hsa]; exact BoxS.new wa ⟨0, 0, 0, 0, false⟩
  have he : w0 = (w.alloc (.cells #[.int .i64 s.ix, .int .i64 s.tm, .int .i64 s.sm, .int .i64 s.lv, .bool s.fn] 23)).alloc (.cells #[.int .i64 0, .int .i64 0, .int .i64 0, .int .i64 0, .bool false] 23) := by rw [hw0, hwa]
  rw [← he, ← hz]
  have Hzw := Lib.hid (show w.heap.size ≤ z ∧ w.heap.size ≤ z + 1 ∧ z + 1 ≠ z ∧ w0.heap.size = z + 2 ∧ z = w.heap.size by omega)
  clear he hw0 hwa hz hsa hBa ba hs0
  refine (callsIn_wide.2 (states_any s A n c w0)).mono ?_
  rintro e w1 ⟨rfl, hs1, hl1, hsz1, hb1⟩
  have h0 : AInv w z w1.heap.size s [] w1 := ⟨bs0.below hb1, br0.below hb1, hB0.trans (hb1.mono hB0.size), Nat.le_refl _⟩
  obtain ⟨sB, hsB⟩ : ∃ sB, sB = w0.heap.size := ⟨_, rfl⟩
  rw [← hsB] at hs1 hl1 ⊢
  have Hd := Lib.hid (show w.heap.size ≤ z ∧ z = w.heap.size ∧ z + 1 ≠ z ∧ sB = z + 2 ∧ w1.heap.size = z + 4 by have := Hzw.out; omega)
  have H0 := Lib.hid (⟨h0, hs1, hl1, Hl.out.low (w' := w1) (fun k hk => h0.low.block k hk)⟩ : _ ∧ _ ∧ _ ∧ _)
  clear h0 hs1 hl1 hb1 bs0 br0 hB0 hsz1 hsB
  gi_wp2_with fail
  refine range_T 23 rfl (by decide) (gf := 68) (lb := #[.pointer (some ⟨sB, 0, none⟩), .pointer (some ⟨sB + 1, 0, none⟩)]) rfl trivial (enters_of Try.func68 (by kernel_rfl) rfl)
    (states_stops sB (sB + 1) z w.heap.size hn w1 H0.out.2.1 H0.out.2.2.1 H0.out.2.2.2 (by have := Hd.out; omega) (by have := Hd.out; omega) (by have := Hd.out; omega)) (fun h h' => h.trans h') (KpE.put (by have := Hd.out; omega)) (Below.refl _ _) (fun _ => rfl)
    (AInv w z w1.heap.size s) (fun _ _ _ => False) (ownT_low (fun _ _ h => h.size) (fun pre W W' h hb => ⟨(hb.block z (by have := Hd.out; omega)).trans h.bs, (hb.block (z + 1) (by have := Hd.out; omega)).trans h.br, h.low.trans (hb.mono (by have := Hd.out; omega)), Nat.le_trans h.size hb.size⟩))
    (fun _ _ _ _ _ h _ _ => h) H0.out.1
    (AVar w1.heap.size fun bx d => { tmps := #[.agg #[.int .i64 s.ix, .int .i64 s.tm, .int .i64 s.sm, .int .i64 s.lv, .bool s.fn], .slice A n c, .pointer (some ⟨z, 0, none⟩), undef, .pointer (some ⟨z + 1, 0, none⟩), .pointer (some ⟨bx, 0, none⟩), .agg #[.int .i64 s.ix, .int .i64 s.tm, .int .i64 s.sm, .int .i64 s.lv, .bool s.fn], .slice A n c, .func (.func 68) #[] #[.pointer (some ⟨sB, 0, none⟩), .pointer (some ⟨sB + 1, 0, none⟩)], .agg #[.int .i64 d.ix, .int .i64 d.tm, .int .i64 d.sm, .int .i64 d.lv, .bool d.fn], undef, undef], defers := [] })
    AVar.put ?assign ?body ?done ?stop
  case assign =>
    intro lp pre d W hI hlen
    gi_wp2
    have hb := (Below.refl W.heap.size W).alloc (Nat.le_refl _) (.cells #[.int .i64 d.ix, .int .i64 d.tm, .int .i64 d.sm, .int .i64 d.lv, .bool d.fn] 23)
    have hsz := hI.size
    have hd := Hd.out
    exact ⟨(KeepsOthers.alloc _ _).from _, KpE.below hb (by omega), ⟨hI.bs.below hb, hI.br.below hb, hI.low.trans (hb.mono (by omega)), by have := hb.size; omega⟩, W.heap.size, BoxS.new W d, hsz, rfl⟩
  case body =>
    rintro lp pre d a' W hI ⟨bx, hbx, hDx, rfl⟩ hlen
    obtain ⟨k0, k1, k2, k3, k4⟩ := hbx.cells
    obtain ⟨f0, f1, f2, f3, f4⟩ := hI.bs.frozen
    obtain ⟨d0, d1, d2, d3, d4⟩ := hI.bs.cells
    have HI := Lib.hid hI
    clear hI hbx
    gi_wp2_with fail
    have hI := HI.out
    have hd := Hd.out
    refine ⟨KeepsFrom.of_grownBy (putS_grown W z d) (fun k e => by cases e; omega), ⟨fun k hk => putS_same (by omega) d, fun k o hk ho => (putS_same (fun e => ?_) d).trans hk, fun k cur t fr hne hk _ => (putS_same hne d).trans hk⟩, ⟨?_, putS_other hI.br (by omega) d, putS_below hI.low (by omega) d, ?_⟩⟩
    · rw [e, show W.heap[z]? = _ from hI.bs] at hk
      cases hk
      cases ho
    · rw [List.getLast?_concat]
      exact putS_box hI.bs d
    · show _ ≤ (putS W z d).heap.size
      rw [putS_size]; exact hI.size
  case done =>
    rintro D ys W hD2 rfl hI hK
    have hlast := states_last s l
    have hbs := hI.bs
    rw [hlast] at hbs
    obtain ⟨X, hX⟩ : ∃ X, X = allP s l := ⟨_, rfl⟩
    rw [← hX] at hbs
    obtain ⟨k0, k1, k2, k3, k4⟩ := hbs.cells
    obtain ⟨f0, f1, f2, f3, f4⟩ := hI.br.frozen
    obtain ⟨d0, d1, d2, d3, d4⟩ := hI.br.cells
    have HI := Lib.hid hI
    have HX := Lib.hid hX
    clear hI hX hlast hbs
    gi_wp2_with fail
    change LeavesInM _ _ _ _ _ _ _ _ (putS W (z + 1) X)
    have hI := HI.out
    have hd := Hd.out
    have hbr := putS_box hI.br X
    have hlow := putS_below (z := z + 1) hI.low (by omega) X
    refine leaves_marks (B := w.heap.size) [D] _ ⟨by simp, fun d hd => ?_⟩ fun w' hw' => ⟨X.v, ?_, ⟨by rw [HX.out], hlow.trans hw'.1⟩⟩
    · obtain rfl : d = D := by simpa using hd
      exact ⟨by omega, (putS_same (by omega) X).trans hK⟩
    · have hb' : BoxS w' (z + 1) X := hw'.2 _ _ hbr rfl
      obtain ⟨r0, r1, r2, r3, r4⟩ := hb'.cells
      clear hd
      simp [results, Try.results51, go_sem, *]
      rfl
  case stop =>
    rintro D cc pre W _ h _
    exact h.elim

theorem all_any (s : StP) (A : Option Addr) (n c : Nat) (l : List EnP) (w : World) (hl : Es w w.heap.size A n l) (hn : n ≤ 140737488355328) :
    Calls Try.prog 51 #[s.v, .slice A n c] w (Does w (allP s l)) := callsIn_wide.1 (all_in s A n c l w hl hn)
end Go.Proofs.Ytbhnlmlaebngmaa
