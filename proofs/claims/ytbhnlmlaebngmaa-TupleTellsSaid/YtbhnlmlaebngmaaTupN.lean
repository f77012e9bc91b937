/-
  Package tuple: behind, Last, TermAt, At, State: their contracts.
-/
import Derived.Test.YtbhnlmlaebngmaaTupB
import Derived.Test.YtbhnlmlaebngmaaTupL
namespace Go.Proofs.Ytbhnlmlaebngmaa
open Go.RowKit Go.Shelf
set_option linter.unusedVariables false
set_option linter.unusedSimpArgs false
/-- Index i is k behind Snap's. -/
def Far (t : TupP) (i : Int) (k : Nat) : Prop := i = t.sn.ix + (k : Int) ∧ k ≤ t.lg.length
theorem far_or (t : TupP) (i : Int) : (∃ k, Far t i k) ∨ (i < t.sn.ix ∨ lastT t < i) := by
  by_cases h : i < t.sn.ix ∨ lastT t < i
  · exact .inr h
  · unfold lastT at h
    exact .inl ⟨(i - t.sn.ix).toNat, by omega, by omega⟩
set_option maxRecDepth 100000 in
set_option maxHeartbeats 8000000 in
theorem last_any (t : TupP) (A : Option Addr) (n c : Nat)  (w : World) (hS : Es w w.heap.size A n t.lg) (hn : n ≤ 100000) (hx : Mid t.sn.ix)  :
    Calls Try.prog 29 #[tupV t (.slice A n c)] w fun e w' => e = .returned (.int .i64 (lastT t)) ∧ Below w.heap.size w w' := by
  unfold Mid at hx
  obtain ⟨L, hL⟩ : ∃ x, x = lastT t := ⟨_, rfl⟩
  have q0 : IntKind.i64.wrap (t.sn.ix + (n : Int)) = L := by rw [IntKind.wrap_i64, hL]; unfold lastT; have := hS.len; omega
  have HL := Lib.hid hL
  clear hL hx
  obtain ⟨z1, hz1⟩ : ∃ z, z = w.heap.size := ⟨_, rfl⟩
  obtain ⟨w1, hw1⟩ : ∃ x, x = w.alloc (.cells #[.int .i64 t.sn.ix, .int .i64 t.sn.tm, .int .i64 t.sn.sm, .int .i64 t.sn.lv, .bool t.sn.fn, .slice A n c, .int .i64 t.tm, .int .i64 t.vt] 26) := ⟨_, rfl⟩
  have bb : Below w.heap.size w w1 := by rw [hw1]; exact below_al (below_d0 _) _
  have bz : BoxU w1 z1 t (.slice A n c) := by rw [hw1, hz1]; exact BoxU.new w t _
  replace hS := hS.on bb bb.size
  have B1 := bb
  clear bb
  have HE := Lib.hid (⟨hw1, hz1⟩ : _ ∧ _)
  clear hw1 hz1  
  unfold tupV
  go_enter Try.func29, Try.ntmps29
  rw [← HL.out]
  go_wp2_with fail
  go_ret
  rw [← HE.out.1]
  exact ⟨rfl, B1⟩
set_option maxRecDepth 100000 in
set_option maxHeartbeats 8000000 in
theorem behindT_in (t : TupP) (A : Option Addr) (n c : Nat) (i : Int) (k : Nat) (w : World) (hS : Es w w.heap.size A n t.lg) (hn : n ≤ 100000) (hx : Mid t.sn.ix) (hf : Far t i k) :
    Calls Try.prog 50 #[tupV t (.slice A n c), .int .i64 i] w fun e w' => e = .returned (.tuple #[.int .i64 (k : Int), .bool true]) ∧ Below w.heap.size w w' := by
  unfold Mid at hx
  have Hl := Lib.hid hS.len
  obtain ⟨hk, hkn⟩ := hf
  obtain ⟨d, hd⟩ : ∃ x, x = (k : Int) := ⟨_, rfl⟩
  have q0 : IntKind.i64.wrap (i - t.sn.ix) = d := by rw [IntKind.wrap_i64]; have := Hl.out; omega
  have q1 : decide (i < t.sn.ix) = false := decide_eq_false (by omega)
  have q2 : decide (d < 0) = false := decide_eq_false (by omega)
  have q3 : decide ((n : Int) < d) = false := decide_eq_false (by have := Hl.out; omega)
  rw [← hd]
  clear hk hkn hd hx
  obtain ⟨z1, hz1⟩ : ∃ z, z = w.heap.size := ⟨_, rfl⟩
  obtain ⟨w1, hw1⟩ : ∃ x, x = w.alloc (.cells #[.int .i64 t.sn.ix, .int .i64 t.sn.tm, .int .i64 t.sn.sm, .int .i64 t.sn.lv, .bool t.sn.fn, .slice A n c, .int .i64 t.tm, .int .i64 t.vt] 26) := ⟨_, rfl⟩
  have bb : Below w.heap.size w w1 := by rw [hw1]; exact below_al (below_d0 _) _
  have bz : BoxU w1 z1 t (.slice A n c) := by rw [hw1, hz1]; exact BoxU.new w t _
  replace hS := hS.on bb bb.size
  have B1 := bb
  clear bb
  have HE := Lib.hid (⟨hw1, hz1⟩ : _ ∧ _)
  clear hw1 hz1  
  unfold tupV
  go_enter Try.func50, Try.ntmps50
  obtain ⟨k0, k1, k2, k3, k4, k5, k6, k7⟩ := bz.cells
  go_wp2_with fail
  clear k0 k1 k2 k3 k4 k5 k6 k7
  rw [← HE.out.1]
  exact bodyPost_ret (v := .tuple #[.int .i64 d, .bool true]) (by simp [results, Try.results50, go_sem]) rfl ⟨rfl, B1⟩
set_option maxRecDepth 100000 in
set_option maxHeartbeats 8000000 in
theorem behindT_out (t : TupP) (A : Option Addr) (n c : Nat) (i : Int) (w : World) (hS : Es w w.heap.size A n t.lg) (hn : n ≤ 100000) (hx : Mid t.sn.ix) (hi : I64 i) (hf : i < t.sn.ix ∨ lastT t < i) :
    Calls Try.prog 50 #[tupV t (.slice A n c), .int .i64 i] w fun e w' => e = .returned (.tuple #[.int .i64 0, .bool false]) ∧ Below w.heap.size w w' := by
  unfold Mid at hx
  unfold I64 at hi
  have Hl := Lib.hid hS.len
  unfold lastT at hf
  obtain ⟨d, hd⟩ : ∃ x, x = IntKind.i64.wrap (i - t.sn.ix) := ⟨_, rfl⟩
  have q0 : IntKind.i64.wrap (i - t.sn.ix) = d := hd.symm
  rw [IntKind.wrap_i64] at hd
  obtain ⟨b1, q1⟩ : ∃ b, decide (i < t.sn.ix) = b := ⟨_, rfl⟩
  obtain ⟨b2, q2⟩ : ∃ b, decide (d < 0) = b := ⟨_, rfl⟩
  obtain ⟨b3, q3⟩ : ∃ b, decide ((n : Int) < d) = b := ⟨_, rfl⟩
  have hb : b1 = true ∨ (b1 = false ∧ b2 = true) ∨ (b1 = false ∧ b2 = false ∧ b3 = true) := by
    by_cases g1 : i < t.sn.ix
    · exact .inl (by rw [← q1]; exact decide_eq_true g1)
    · by_cases g2 : d < 0
      · exact .inr (.inl ⟨by rw [← q1]; exact decide_eq_false g1, by rw [← q2]; exact decide_eq_true g2⟩)
      · refine .inr (.inr ⟨by rw [← q1]; exact decide_eq_false g1, by rw [← q2]; exact decide_eq_false g2, ?_⟩)
        rw [← q3]
        exact decide_eq_true (by have := Hl.out; omega)
  clear hd hf hi hx
  obtain ⟨z1, hz1⟩ : ∃ z, z = w.heap.size := ⟨_, rfl⟩
  obtain ⟨w1, hw1⟩ : ∃ x, x = w.alloc (.cells #[.int .i64 t.sn.ix, .int .i64 t.sn.tm, .int .i64 t.sn.sm, .int .i64 t.sn.lv, .bool t.sn.fn, .slice A n c, .int .i64 t.tm, .int .i64 t.vt] 26) := ⟨_, rfl⟩
  have bb : Below w.heap.size w w1 := by rw [hw1]; exact below_al (below_d0 _) _
  have bz : BoxU w1 z1 t (.slice A n c) := by rw [hw1, hz1]; exact BoxU.new w t _
  replace hS := hS.on bb bb.size
  have B1 := bb
  clear bb
  have HE := Lib.hid (⟨hw1, hz1⟩ : _ ∧ _)
  clear hw1 hz1  
  unfold tupV
  go_enter Try.func50, Try.ntmps50
  rcases hb with rfl | ⟨rfl, rfl⟩ | ⟨rfl, rfl, rfl⟩
  · obtain ⟨k0, k1, k2, k3, k4, k5, k6, k7⟩ := bz.cells
    go_wp2_with fail
    clear k0 k1 k2 k3 k4 k5 k6 k7
    rw [← HE.out.1]
    exact bodyPost_ret (v := .tuple #[.int .i64 0, .bool false]) (by simp [results, Try.results50, go_sem]) rfl ⟨rfl, B1⟩
  · obtain ⟨k0, k1, k2, k3, k4, k5, k6, k7⟩ := bz.cells
    go_wp2_with fail
    clear k0 k1 k2 k3 k4 k5 k6 k7
    rw [← HE.out.1]
    exact bodyPost_ret (v := .tuple #[.int .i64 0, .bool false]) (by simp [results, Try.results50, go_sem]) rfl ⟨rfl, B1⟩
  · obtain ⟨k0, k1, k2, k3, k4, k5, k6, k7⟩ := bz.cells
    go_wp2_with fail
    clear k0 k1 k2 k3 k4 k5 k6 k7
    rw [← HE.out.1]
    exact bodyPost_ret (v := .tuple #[.int .i64 0, .bool false]) (by simp [results, Try.results50, go_sem]) rfl ⟨rfl, B1⟩
theorem term_outN {t : TupP} {i : Int} (h : i < t.sn.ix ∨ lastT t < i) : termAtP t i = none := by
  have hne : i ≠ t.sn.ix := by unfold lastT at h; omega
  unfold termAtP
  rw [if_neg hne]
  rcases h with h | h
  · rw [at_low (by omega)]; rfl
  · rw [at_high h]; rfl
theorem at_far {t : TupP} {i : Int} {k : Nat} (h : Far t i (k + 1)) : atP t i = t.lg[k]? := at_in (by have := h.1; omega)
theorem term_far {t : TupP} {i : Int} {k : Nat} (h : Far t i (k + 1)) : termAtP t i = (t.lg[k]?).map EnP.tm := by
  unfold termAtP
  rw [if_neg (by have := h.1; omega), at_far h]
theorem ret_term {v u : Value} (h : v = u) : Ending.returned u = .returned v := by rw [h]
set_option maxRecDepth 100000 in
set_option maxHeartbeats 8000000 in
theorem termAt_out (t : TupP) (A : Option Addr) (n c : Nat) (i : Int) (w : World) (hS : Es w w.heap.size A n t.lg) (hn : n ≤ 100000) (hx : Mid t.sn.ix) (hi : I64 i) (hf : i < t.sn.ix ∨ lastT t < i) :
    Calls Try.prog 21 #[tupV t (.slice A n c), .int .i64 i] w fun e w' => e = .returned (TermV t i) ∧ Below w.heap.size w w' := by
  have HX := Lib.hid hx
  have HF := Lib.hid hf
  have Hl := Lib.hid hS.len
  have HI := Lib.hid hi
  have HV := Lib.hid (show TermV t i = .tuple #[.int .i64 0, .bool false] by unfold TermV; rw [term_outN hf]; rfl)
  clear hx hf hi
  obtain ⟨z1, hz1⟩ : ∃ z, z = w.heap.size := ⟨_, rfl⟩
  obtain ⟨w1, hw1⟩ : ∃ x, x = w.alloc (.cells #[.int .i64 t.sn.ix, .int .i64 t.sn.tm, .int .i64 t.sn.sm, .int .i64 t.sn.lv, .bool t.sn.fn, .slice A n c, .int .i64 t.tm, .int .i64 t.vt] 26) := ⟨_, rfl⟩
  have bb : Below w.heap.size w w1 := by rw [hw1]; exact below_al (below_d0 _) _
  have bz : BoxU w1 z1 t (.slice A n c) := by rw [hw1, hz1]; exact BoxU.new w t _
  replace hS := hS.on bb bb.size
  have B1 := bb
  clear bb
  have HE := Lib.hid (⟨hw1, hz1⟩ : _ ∧ _)
  clear hw1 hz1  
  unfold tupV
  go_enter Try.func21, Try.ntmps21
  obtain ⟨k0, k1, k2, k3, k4, k5, k6, k7⟩ := bz.cells
  go_wp2_with fail
  clear k0 k1 k2 k3 k4 k5 k6 k7
  rw [← HE.out.1, ← HE.out.2]
  clear HE
  refine Calls.mono (show Calls Try.prog 50 #[.agg #[.int .i64 t.sn.ix, .int .i64 t.sn.tm, .int .i64 t.sn.sm, .int .i64 t.sn.lv, .bool t.sn.fn, .slice A n c, .int .i64 t.tm, .int .i64 t.vt], .int .i64 i] w1 (fun e w' => e = .returned (.tuple #[.int .i64 0, .bool false]) ∧ Below w1.heap.size w1 w') from behindT_out t A n c i w1 hS hn HX.out HI.out HF.out) ?_
  intro e w2 hh
  obtain ⟨rfl, bb⟩ := hh
  (try clear hh)
  replace bz := bz.below bb
  replace hS := hS.on bb bb.size
  have B2 := B1.trans (bb.mono B1.size)
  clear bb B1
  go_wp2_with fail
  exact bodyPost_ret (v := TermV t i) (by rw [show TermV t i = _ from HV.out]; simp [results, Try.results21, go_sem]) rfl ⟨rfl, B2⟩
set_option maxRecDepth 100000 in
set_option maxHeartbeats 8000000 in
theorem termAt_0 (t : TupP) (A : Option Addr) (n c : Nat) (i : Int) (w : World) (hS : Es w w.heap.size A n t.lg) (hn : n ≤ 100000) (hx : Mid t.sn.ix) (hf : Far t i 0) :
    Calls Try.prog 21 #[tupV t (.slice A n c), .int .i64 i] w fun e w' => e = .returned (TermV t i) ∧ Below w.heap.size w w' := by
  have HX := Lib.hid hx
  have HF := Lib.hid hf
  have Hl := Lib.hid hS.len
  have HV := Lib.hid (show TermV t i = .tuple #[.int .i64 t.sn.tm, .bool true] by unfold TermV termAtP; rw [if_pos (by have := hf.1; omega)]; rfl)
  clear hx hf
  obtain ⟨z1, hz1⟩ : ∃ z, z = w.heap.size := ⟨_, rfl⟩
  obtain ⟨w1, hw1⟩ : ∃ x, x = w.alloc (.cells #[.int .i64 t.sn.ix, .int .i64 t.sn.tm, .int .i64 t.sn.sm, .int .i64 t.sn.lv, .bool t.sn.fn, .slice A n c, .int .i64 t.tm, .int .i64 t.vt] 26) := ⟨_, rfl⟩
  have bb : Below w.heap.size w w1 := by rw [hw1]; exact below_al (below_d0 _) _
  have bz : BoxU w1 z1 t (.slice A n c) := by rw [hw1, hz1]; exact BoxU.new w t _
  replace hS := hS.on bb bb.size
  have B1 := bb
  clear bb
  have HE := Lib.hid (⟨hw1, hz1⟩ : _ ∧ _)
  clear hw1 hz1  
  unfold tupV
  go_enter Try.func21, Try.ntmps21
  obtain ⟨k0, k1, k2, k3, k4, k5, k6, k7⟩ := bz.cells
  go_wp2_with fail
  clear k0 k1 k2 k3 k4 k5 k6 k7
  rw [← HE.out.1, ← HE.out.2]
  clear HE
  refine Calls.mono (show Calls Try.prog 50 #[.agg #[.int .i64 t.sn.ix, .int .i64 t.sn.tm, .int .i64 t.sn.sm, .int .i64 t.sn.lv, .bool t.sn.fn, .slice A n c, .int .i64 t.tm, .int .i64 t.vt], .int .i64 i] w1 (fun e w' => e = .returned (.tuple #[.int .i64 ((0 : Nat) : Int), .bool true]) ∧ Below w1.heap.size w1 w') from behindT_in t A n c i 0 w1 hS hn HX.out HF.out) ?_
  intro e w2 hh
  obtain ⟨rfl, bb⟩ := hh
  (try clear hh)
  replace bz := bz.below bb
  replace hS := hS.on bb bb.size
  have B2 := B1.trans (bb.mono B1.size)
  clear bb B1
  obtain ⟨k0, k1, k2, k3, k4, k5, k6, k7⟩ := bz.cells
  go_wp2_with fail
  clear k0 k1 k2 k3 k4 k5 k6 k7
  exact bodyPost_ret (v := TermV t i) (by rw [show TermV t i = _ from HV.out]; simp [results, Try.results21, go_sem]) rfl ⟨rfl, B2⟩
set_option maxRecDepth 100000 in
set_option maxHeartbeats 8000000 in
theorem termAt_in (t : TupP) (A : Option Addr) (n c : Nat) (i : Int) (k : Nat) (w : World) (hS : Es w w.heap.size A n t.lg) (hn : n ≤ 100000) (hx : Mid t.sn.ix) (hf : Far t i (k + 1)) :
    Calls Try.prog 21 #[tupV t (.slice A n c), .int .i64 i] w fun e w' => e = .returned (TermV t i) ∧ Below w.heap.size w w' := by
  have HX := Lib.hid hx
  have HF := Lib.hid hf
  have Hl := Lib.hid hS.len
  have hkn : k < n := by have := hf.2; have := Hl.out; omega
  obtain ⟨b, off, en, rfl, hbl, he, d0, d1, d2⟩ := hS.at_ hkn
  clear d0 d1 d2 hbl
  have HV := Lib.hid (show TermV t i = .tuple #[.int .i64 en.tm, .bool true] by unfold TermV; rw [term_far hf, he]; rfl)
  have HD := Lib.hid he
  have q0 : (((k + 1 : Nat) : Int) == 0) = false := by simp; omega
  have q1 : IntKind.i64.wrap (((k + 1 : Nat) : Int) - 1) = (k : Int) := by rw [IntKind.wrap_i64]; omega
  clear hx hf he
  obtain ⟨z1, hz1⟩ : ∃ z, z = w.heap.size := ⟨_, rfl⟩
  obtain ⟨w1, hw1⟩ : ∃ x, x = w.alloc (.cells #[.int .i64 t.sn.ix, .int .i64 t.sn.tm, .int .i64 t.sn.sm, .int .i64 t.sn.lv, .bool t.sn.fn, .slice (some ⟨b, off, none⟩) n c, .int .i64 t.tm, .int .i64 t.vt] 26) := ⟨_, rfl⟩
  have bb : Below w.heap.size w w1 := by rw [hw1]; exact below_al (below_d0 _) _
  have bz : BoxU w1 z1 t (.slice (some ⟨b, off, none⟩) n c) := by rw [hw1, hz1]; exact BoxU.new w t _
  replace hS := hS.on bb bb.size
  have B1 := bb
  clear bb
  have HE := Lib.hid (⟨hw1, hz1⟩ : _ ∧ _)
  clear hw1 hz1  
  unfold tupV
  go_enter Try.func21, Try.ntmps21
  obtain ⟨k0, k1, k2, k3, k4, k5, k6, k7⟩ := bz.cells
  go_wp2_with fail
  clear k0 k1 k2 k3 k4 k5 k6 k7
  rw [← HE.out.1, ← HE.out.2]
  clear HE
  obtain ⟨d, hd⟩ : ∃ x, x = ((k + 1 : Nat) : Int) := ⟨_, rfl⟩
  rw [← hd] at q0 q1
  refine Calls.mono (show Calls Try.prog 50 #[.agg #[.int .i64 t.sn.ix, .int .i64 t.sn.tm, .int .i64 t.sn.sm, .int .i64 t.sn.lv, .bool t.sn.fn, .slice (some ⟨b, off, none⟩) n c, .int .i64 t.tm, .int .i64 t.vt], .int .i64 i] w1 (fun e w' => e = .returned (.tuple #[.int .i64 d, .bool true]) ∧ Below w1.heap.size w1 w') from by rw [hd]; exact behindT_in t _ n c i (k + 1) w1 hS hn HX.out HF.out) ?_
  intro e w2 hh
  obtain ⟨rfl, bb⟩ := hh
  (try clear hh)
  replace bz := bz.below bb
  replace hS := hS.on bb bb.size
  have B2 := B1.trans (bb.mono B1.size)
  clear bb B1
  clear hd
  obtain ⟨b', off', e', hbo, hb', he', d0, d1, d2⟩ := hS.at_ hkn
  obtain ⟨rfl, rfl⟩ : b = b' ∧ off = off' := by simpa using hbo
  obtain rfl : en = e' := Option.some.inj (HD.out.symm.trans he')
  have hki : (0 : Int) ≤ (k : Int) ∧ (k : Int) < (n : Int) := by omega
  obtain ⟨hk0, hk1⟩ := hki
  clear hbo hb' he'
  obtain ⟨k0, k1, k2, k3, k4, k5, k6, k7⟩ := bz.cells
  go_wp2_with fail
  clear k0 k1 k2 k3 k4 k5 k6 k7
  exact bodyPost_ret (v := TermV t i) (by rw [show TermV t i = _ from HV.out]; simp [results, Try.results21, go_sem]) rfl ⟨rfl, B2⟩
theorem termAt_any (t : TupP) (A : Option Addr) (n c : Nat) (i : Int) (w : World) (hS : Es w w.heap.size A n t.lg) (hn : n ≤ 100000) (hx : Mid t.sn.ix) (hi : I64 i) :
    Calls Try.prog 21 #[tupV t (.slice A n c), .int .i64 i] w fun e w' => e = .returned (TermV t i) ∧ Below w.heap.size w w' := by
  rcases far_or t i with ⟨k, hf⟩ | hf
  · cases k with
    | zero => exact termAt_0 t A n c i w hS hn hx hf
    | succ k => exact termAt_in t A n c i k w hS hn hx hf
  · exact termAt_out t A n c i w hS hn hx hi hf
theorem at_out {t : TupP} {i : Int} (h : i < t.sn.ix ∨ lastT t < i) : atP t i = none := by
  rcases h with h | h
  · exact at_low (by omega)
  · exact at_high h
set_option maxRecDepth 100000 in
set_option maxHeartbeats 8000000 in
theorem at_o (t : TupP) (A : Option Addr) (n c : Nat) (i : Int) (w : World) (hS : Es w w.heap.size A n t.lg) (hn : n ≤ 100000) (hx : Mid t.sn.ix) (hi : I64 i) (hf : i < t.sn.ix ∨ lastT t < i) :
    Calls Try.prog 23 #[tupV t (.slice A n c), .int .i64 i] w fun e w' => e = .returned (AtV t i) ∧ Below w.heap.size w w' := by
  have HX := Lib.hid hx
  have HF := Lib.hid hf
  have Hl := Lib.hid hS.len
  have HI := Lib.hid hi
  have HV := Lib.hid (show AtV t i = .tuple #[.agg #[.int .i64 0, .int .i64 0, .int .i64 0], .bool false] by unfold AtV; rw [at_out hf]; rfl)
  clear hx hf hi
  obtain ⟨z1, hz1⟩ : ∃ z, z = w.heap.size := ⟨_, rfl⟩
  obtain ⟨w1, hw1⟩ : ∃ x, x = w.alloc (.cells #[.int .i64 t.sn.ix, .int .i64 t.sn.tm, .int .i64 t.sn.sm, .int .i64 t.sn.lv, .bool t.sn.fn, .slice A n c, .int .i64 t.tm, .int .i64 t.vt] 26) := ⟨_, rfl⟩
  have bb : Below w.heap.size w w1 := by rw [hw1]; exact below_al (below_d0 _) _
  have bz : BoxU w1 z1 t (.slice A n c) := by rw [hw1, hz1]; exact BoxU.new w t _
  replace hS := hS.on bb bb.size
  have B1 := bb
  clear bb
  obtain ⟨z2, hz2⟩ : ∃ z, z = w1.heap.size := ⟨_, rfl⟩
  obtain ⟨w2, hw2⟩ : ∃ x, x = w1.alloc (.cells #[.int .i64 0, .int .i64 0, .int .i64 0] 39) := ⟨_, rfl⟩
  have bb : Below w1.heap.size w1 w2 := by rw [hw2]; exact below_al (below_d0 _) _
  have be : BoxE w2 z2 zeroE := by rw [hw2, hz2]; exact BoxE.new w1 zeroE
  replace bz := bz.below bb
  replace hS := hS.on bb bb.size
  have B2 := B1.trans (bb.mono B1.size)
  clear bb B1
  have hp2 : z1 + 1 = z2 := by rw [hz2, hw1, hz1]; simp
  have lz2 : w.heap.size ≤ z2 := by omega
  have ne12 : z1 ≠ z2 := by omega
  have HE := Lib.hid (⟨hw1, hw2, hz1, hp2⟩ : _ ∧ _ ∧ _ ∧ _)
  have HLZ := Lib.hid lz2
  clear hw1 hz1 hw2 hz2 hp2 lz2
  unfold tupV
  go_enter Try.func23, Try.ntmps23
  obtain ⟨k0, k1, k2, k3, k4, k5, k6, k7⟩ := bz.cells
  go_wp2_with fail
  clear k0 k1 k2 k3 k4 k5 k6 k7
  rw [← HE.out.1, ← HE.out.2.1, ← HE.out.2.2.1]
  (try rw [HE.out.2.2.2])
  clear HE
  refine Calls.mono (show Calls Try.prog 50 #[.agg #[.int .i64 t.sn.ix, .int .i64 t.sn.tm, .int .i64 t.sn.sm, .int .i64 t.sn.lv, .bool t.sn.fn, .slice A n c, .int .i64 t.tm, .int .i64 t.vt], .int .i64 i] w2 (fun e w' => e = .returned (.tuple #[.int .i64 0, .bool false]) ∧ Below w2.heap.size w2 w') from behindT_out t A n c i w2 hS hn HX.out HI.out HF.out) ?_
  intro e w3 hh
  obtain ⟨rfl, bb⟩ := hh
  (try clear hh)
  replace bz := bz.below bb
  replace be := be.below bb
  replace hS := hS.on bb bb.size
  have B3 := B2.trans (bb.mono B2.size)
  clear bb B2
  obtain ⟨g0, g1, g2⟩ := be.cells
  have f0 := be.frozen 0
  have f1 := be.frozen 1
  have f2 := be.frozen 2
  go_wp2_with fail
  obtain ⟨W', hW'⟩ : ∃ W', W' = putE w3 z2 zeroE := ⟨_, rfl⟩
  have b9 := putE_box be zeroE
  have B9 := putE_below HLZ.out zeroE B3
  rw [← hW'] at b9 B9
  have e9 : W' = (((w3.setCell ⟨z2, 0, none⟩ (.int .i64 0)).setCell ⟨z2, 1, none⟩ (.int .i64 0)).setCell ⟨z2, 2, none⟩ (.int .i64 0)) := hW'
  rw [← e9]
  clear e9 hW' g0 g1 g2 f0 f1 f2
  obtain ⟨g0, g1, g2⟩ := b9.cells
  exact bodyPost_ret (v := AtV t i) (by rw [show AtV t i = _ from HV.out]; simp [results, Try.results23, go_sem, g0, g1, g2, zeroE]) rfl ⟨rfl, B9⟩
set_option maxRecDepth 100000 in
set_option maxHeartbeats 8000000 in
theorem at_0 (t : TupP) (A : Option Addr) (n c : Nat) (i : Int) (w : World) (hS : Es w w.heap.size A n t.lg) (hn : n ≤ 100000) (hx : Mid t.sn.ix) (hf : Far t i 0) :
    Calls Try.prog 23 #[tupV t (.slice A n c), .int .i64 i] w fun e w' => e = .returned (AtV t i) ∧ Below w.heap.size w w' := by
  have HX := Lib.hid hx
  have HF := Lib.hid hf
  have Hl := Lib.hid hS.len
  have HV := Lib.hid (show AtV t i = .tuple #[.agg #[.int .i64 0, .int .i64 0, .int .i64 0], .bool false] by unfold AtV; rw [at_low (by have := hf.1; omega)]; rfl)
  clear hx hf
  obtain ⟨z1, hz1⟩ : ∃ z, z = w.heap.size := ⟨_, rfl⟩
  obtain ⟨w1, hw1⟩ : ∃ x, x = w.alloc (.cells #[.int .i64 t.sn.ix, .int .i64 t.sn.tm, .int .i64 t.sn.sm, .int .i64 t.sn.lv, .bool t.sn.fn, .slice A n c, .int .i64 t.tm, .int .i64 t.vt] 26) := ⟨_, rfl⟩
  have bb : Below w.heap.size w w1 := by rw [hw1]; exact below_al (below_d0 _) _
  have bz : BoxU w1 z1 t (.slice A n c) := by rw [hw1, hz1]; exact BoxU.new w t _
  replace hS := hS.on bb bb.size
  have B1 := bb
  clear bb
  obtain ⟨z2, hz2⟩ : ∃ z, z = w1.heap.size := ⟨_, rfl⟩
  obtain ⟨w2, hw2⟩ : ∃ x, x = w1.alloc (.cells #[.int .i64 0, .int .i64 0, .int .i64 0] 39) := ⟨_, rfl⟩
  have bb : Below w1.heap.size w1 w2 := by rw [hw2]; exact below_al (below_d0 _) _
  have be : BoxE w2 z2 zeroE := by rw [hw2, hz2]; exact BoxE.new w1 zeroE
  replace bz := bz.below bb
  replace hS := hS.on bb bb.size
  have B2 := B1.trans (bb.mono B1.size)
  clear bb B1
  have hp2 : z1 + 1 = z2 := by rw [hz2, hw1, hz1]; simp
  have lz2 : w.heap.size ≤ z2 := by omega
  have ne12 : z1 ≠ z2 := by omega
  have HE := Lib.hid (⟨hw1, hw2, hz1, hp2⟩ : _ ∧ _ ∧ _ ∧ _)
  have HLZ := Lib.hid lz2
  clear hw1 hz1 hw2 hz2 hp2 lz2
  unfold tupV
  go_enter Try.func23, Try.ntmps23
  obtain ⟨k0, k1, k2, k3, k4, k5, k6, k7⟩ := bz.cells
  go_wp2_with fail
  clear k0 k1 k2 k3 k4 k5 k6 k7
  rw [← HE.out.1, ← HE.out.2.1, ← HE.out.2.2.1]
  (try rw [HE.out.2.2.2])
  clear HE
  refine Calls.mono (show Calls Try.prog 50 #[.agg #[.int .i64 t.sn.ix, .int .i64 t.sn.tm, .int .i64 t.sn.sm, .int .i64 t.sn.lv, .bool t.sn.fn, .slice A n c, .int .i64 t.tm, .int .i64 t.vt], .int .i64 i] w2 (fun e w' => e = .returned (.tuple #[.int .i64 ((0 : Nat) : Int), .bool true]) ∧ Below w2.heap.size w2 w') from behindT_in t A n c i 0 w2 hS hn HX.out HF.out) ?_
  intro e w3 hh
  obtain ⟨rfl, bb⟩ := hh
  (try clear hh)
  replace bz := bz.below bb
  replace be := be.below bb
  replace hS := hS.on bb bb.size
  have B3 := B2.trans (bb.mono B2.size)
  clear bb B2
  obtain ⟨g0, g1, g2⟩ := be.cells
  have f0 := be.frozen 0
  have f1 := be.frozen 1
  have f2 := be.frozen 2
  go_wp2_with fail
  obtain ⟨W', hW'⟩ : ∃ W', W' = putE w3 z2 zeroE := ⟨_, rfl⟩
  have b9 := putE_box be zeroE
  have B9 := putE_below HLZ.out zeroE B3
  rw [← hW'] at b9 B9
  have e9 : W' = (((w3.setCell ⟨z2, 0, none⟩ (.int .i64 0)).setCell ⟨z2, 1, none⟩ (.int .i64 0)).setCell ⟨z2, 2, none⟩ (.int .i64 0)) := hW'
  rw [← e9]
  clear e9 hW' g0 g1 g2 f0 f1 f2
  obtain ⟨g0, g1, g2⟩ := b9.cells
  exact bodyPost_ret (v := AtV t i) (by rw [show AtV t i = _ from HV.out]; simp [results, Try.results23, go_sem, g0, g1, g2, zeroE]) rfl ⟨rfl, B9⟩
set_option maxRecDepth 100000 in
set_option maxHeartbeats 8000000 in
theorem at_i (t : TupP) (A : Option Addr) (n c : Nat) (i : Int) (k : Nat) (w : World) (hS : Es w w.heap.size A n t.lg) (hn : n ≤ 100000) (hx : Mid t.sn.ix) (hf : Far t i (k + 1)) :
    Calls Try.prog 23 #[tupV t (.slice A n c), .int .i64 i] w fun e w' => e = .returned (AtV t i) ∧ Below w.heap.size w w' := by
  have HX := Lib.hid hx
  have HF := Lib.hid hf
  have Hl := Lib.hid hS.len
  have hkn : k < n := by have := hf.2; have := Hl.out; omega
  obtain ⟨b, off, en, rfl, hbl, he, d0, d1, d2⟩ := hS.at_ hkn
  clear d0 d1 d2 hbl
  have HV := Lib.hid (show AtV t i = .tuple #[.agg #[.int .i64 en.tm, .int .i64 en.kd, .int .i64 en.vl], .bool true] by unfold AtV; rw [at_far hf, he]; rfl)
  have HD := Lib.hid he
  have q0 : (((k + 1 : Nat) : Int) == 0) = false := by simp; omega
  have q1 : IntKind.i64.wrap (((k + 1 : Nat) : Int) - 1) = (k : Int) := by rw [IntKind.wrap_i64]; omega
  clear hx hf he
  obtain ⟨z1, hz1⟩ : ∃ z, z = w.heap.size := ⟨_, rfl⟩
  obtain ⟨w1, hw1⟩ : ∃ x, x = w.alloc (.cells #[.int .i64 t.sn.ix, .int .i64 t.sn.tm, .int .i64 t.sn.sm, .int .i64 t.sn.lv, .bool t.sn.fn, .slice (some ⟨b, off, none⟩) n c, .int .i64 t.tm, .int .i64 t.vt] 26) := ⟨_, rfl⟩
  have bb : Below w.heap.size w w1 := by rw [hw1]; exact below_al (below_d0 _) _
  have bz : BoxU w1 z1 t (.slice (some ⟨b, off, none⟩) n c) := by rw [hw1, hz1]; exact BoxU.new w t _
  replace hS := hS.on bb bb.size
  have B1 := bb
  clear bb
  obtain ⟨z2, hz2⟩ : ∃ z, z = w1.heap.size := ⟨_, rfl⟩
  obtain ⟨w2, hw2⟩ : ∃ x, x = w1.alloc (.cells #[.int .i64 0, .int .i64 0, .int .i64 0] 39) := ⟨_, rfl⟩
  have bb : Below w1.heap.size w1 w2 := by rw [hw2]; exact below_al (below_d0 _) _
  have be : BoxE w2 z2 zeroE := by rw [hw2, hz2]; exact BoxE.new w1 zeroE
  replace bz := bz.below bb
  replace hS := hS.on bb bb.size
  have B2 := B1.trans (bb.mono B1.size)
  clear bb B1
  have hp2 : z1 + 1 = z2 := by rw [hz2, hw1, hz1]; simp
  have lz2 : w.heap.size ≤ z2 := by omega
  have ne12 : z1 ≠ z2 := by omega
  have HE := Lib.hid (⟨hw1, hw2, hz1, hp2⟩ : _ ∧ _ ∧ _ ∧ _)
  have HLZ := Lib.hid lz2
  clear hw1 hz1 hw2 hz2 hp2 lz2
  unfold tupV
  go_enter Try.func23, Try.ntmps23
  obtain ⟨k0, k1, k2, k3, k4, k5, k6, k7⟩ := bz.cells
  go_wp2_with fail
  clear k0 k1 k2 k3 k4 k5 k6 k7
  rw [← HE.out.1, ← HE.out.2.1, ← HE.out.2.2.1]
  (try rw [HE.out.2.2.2])
  clear HE
  obtain ⟨d, hd⟩ : ∃ x, x = ((k + 1 : Nat) : Int) := ⟨_, rfl⟩
  rw [← hd] at q0 q1
  refine Calls.mono (show Calls Try.prog 50 #[.agg #[.int .i64 t.sn.ix, .int .i64 t.sn.tm, .int .i64 t.sn.sm, .int .i64 t.sn.lv, .bool t.sn.fn, .slice (some ⟨b, off, none⟩) n c, .int .i64 t.tm, .int .i64 t.vt], .int .i64 i] w2 (fun e w' => e = .returned (.tuple #[.int .i64 d, .bool true]) ∧ Below w2.heap.size w2 w') from by rw [hd]; exact behindT_in t _ n c i (k + 1) w2 hS hn HX.out HF.out) ?_
  intro e w3 hh
  obtain ⟨rfl, bb⟩ := hh
  (try clear hh)
  replace bz := bz.below bb
  replace be := be.below bb
  replace hS := hS.on bb bb.size
  have B3 := B2.trans (bb.mono B2.size)
  clear bb B2
  clear hd
  obtain ⟨b', off', e', hbo, hb', he', d0, d1, d2⟩ := hS.at_ hkn
  obtain ⟨rfl, rfl⟩ : b = b' ∧ off = off' := by simpa using hbo
  obtain rfl : en = e' := Option.some.inj (HD.out.symm.trans he')
  have hki : (0 : Int) ≤ (k : Int) ∧ (k : Int) < (n : Int) := by omega
  obtain ⟨hk0, hk1⟩ := hki
  clear hbo hb' he'
  obtain ⟨g0, g1, g2⟩ := be.cells
  have f0 := be.frozen 0
  have f1 := be.frozen 1
  have f2 := be.frozen 2
  obtain ⟨k0, k1, k2, k3, k4, k5, k6, k7⟩ := bz.cells
  go_wp2_with fail
  clear k0 k1 k2 k3 k4 k5 k6 k7
  clear d0 d1 d2
  obtain ⟨W', hW'⟩ : ∃ W', W' = putE w3 z2 en := ⟨_, rfl⟩
  have b9 := putE_box be en
  have B9 := putE_below HLZ.out en B3
  rw [← hW'] at b9 B9
  have e9 : W' = (((w3.setCell ⟨z2, 0, none⟩ (.int .i64 en.tm)).setCell ⟨z2, 1, none⟩ (.int .i64 en.kd)).setCell ⟨z2, 2, none⟩ (.int .i64 en.vl)) := hW'
  rw [← e9]
  clear e9 hW' g0 g1 g2 f0 f1 f2
  obtain ⟨g0, g1, g2⟩ := b9.cells
  exact bodyPost_ret (v := AtV t i) (by rw [show AtV t i = _ from HV.out]; simp [results, Try.results23, go_sem, g0, g1, g2]) rfl ⟨rfl, B9⟩
theorem at_any (t : TupP) (A : Option Addr) (n c : Nat) (i : Int) (w : World) (hS : Es w w.heap.size A n t.lg) (hn : n ≤ 100000) (hx : Mid t.sn.ix) (hi : I64 i) :
    Calls Try.prog 23 #[tupV t (.slice A n c), .int .i64 i] w fun e w' => e = .returned (AtV t i) ∧ Below w.heap.size w w' := by
  rcases far_or t i with ⟨k, hf⟩ | hf
  · cases k with
    | zero => exact at_0 t A n c i w hS hn hx hf
    | succ k => exact at_i t A n c i k w hS hn hx hf
  · exact at_o t A n c i w hS hn hx hi hf
set_option maxRecDepth 100000 in
set_option maxHeartbeats 8000000 in
theorem state_o (t : TupP) (A : Option Addr) (n c : Nat) (i : Int) (w : World) (hS : Es w w.heap.size A n t.lg) (hn : n ≤ 100000) (hx : Mid t.sn.ix) (hi : I64 i) (hf : i < t.sn.ix ∨ lastT t < i) :
    Calls Try.prog 25 #[tupV t (.slice A n c), .int .i64 i] w fun e w' => e = .returned (StateV t i) ∧ Below w.heap.size w w' := by
  have HX := Lib.hid hx
  have HF := Lib.hid hf
  have Hl := Lib.hid hS.len
  have HI := Lib.hid hi
  have HV := Lib.hid (show StateV t i = .tuple #[.agg #[.int .i64 0, .int .i64 0, .int .i64 0, .int .i64 0, .bool false], .bool false] by unfold StateV; rw [state_no hf]; rfl)
  clear hx hf hi
  obtain ⟨z1, hz1⟩ : ∃ z, z = w.heap.size := ⟨_, rfl⟩
  obtain ⟨w1, hw1⟩ : ∃ x, x = w.alloc (.cells #[.int .i64 t.sn.ix, .int .i64 t.sn.tm, .int .i64 t.sn.sm, .int .i64 t.sn.lv, .bool t.sn.fn, .slice A n c, .int .i64 t.tm, .int .i64 t.vt] 26) := ⟨_, rfl⟩
  have bb : Below w.heap.size w w1 := by rw [hw1]; exact below_al (below_d0 _) _
  have bz : BoxU w1 z1 t (.slice A n c) := by rw [hw1, hz1]; exact BoxU.new w t _
  replace hS := hS.on bb bb.size
  have B1 := bb
  clear bb
  obtain ⟨z2, hz2⟩ : ∃ z, z = w1.heap.size := ⟨_, rfl⟩
  obtain ⟨w2, hw2⟩ : ∃ x, x = w1.alloc (.cells #[.int .i64 0, .int .i64 0, .int .i64 0, .int .i64 0, .bool false] 23) := ⟨_, rfl⟩
  have bb : Below w1.heap.size w1 w2 := by rw [hw2]; exact below_al (below_d0 _) _
  have br : BoxS w2 z2 noneS := by rw [hw2, hz2]; exact BoxS.new w1 noneS
  replace bz := bz.below bb
  replace hS := hS.on bb bb.size
  have B2 := B1.trans (bb.mono B1.size)
  clear bb B1
  have hp2 : z1 + 1 = z2 := by rw [hz2, hw1, hz1]; simp
  have lz2 : w.heap.size ≤ z2 := by omega
  have ne12 : z1 ≠ z2 := by omega
  have HE := Lib.hid (⟨hw1, hw2, hz1, hp2⟩ : _ ∧ _ ∧ _ ∧ _)
  have HLZ := Lib.hid lz2
  clear hw1 hz1 hw2 hz2 hp2 lz2
  unfold tupV
  go_enter Try.func25, Try.ntmps25
  obtain ⟨k0, k1, k2, k3, k4, k5, k6, k7⟩ := bz.cells
  go_wp2_with fail
  clear k0 k1 k2 k3 k4 k5 k6 k7
  rw [← HE.out.1, ← HE.out.2.1, ← HE.out.2.2.1]
  (try rw [HE.out.2.2.2])
  clear HE
  refine Calls.mono (show Calls Try.prog 50 #[.agg #[.int .i64 t.sn.ix, .int .i64 t.sn.tm, .int .i64 t.sn.sm, .int .i64 t.sn.lv, .bool t.sn.fn, .slice A n c, .int .i64 t.tm, .int .i64 t.vt], .int .i64 i] w2 (fun e w' => e = .returned (.tuple #[.int .i64 0, .bool false]) ∧ Below w2.heap.size w2 w') from behindT_out t A n c i w2 hS hn HX.out HI.out HF.out) ?_
  intro e w3 hh
  obtain ⟨rfl, bb⟩ := hh
  (try clear hh)
  replace bz := bz.below bb
  replace br := br.below bb
  replace hS := hS.on bb bb.size
  have B3 := B2.trans (bb.mono B2.size)
  clear bb B2
  obtain ⟨g0, g1, g2, g3, g4⟩ := br.cells
  obtain ⟨f0, f1, f2, f3, f4⟩ := br.frozen
  go_wp2_with fail
  obtain ⟨W', hW'⟩ : ∃ W', W' = putS w3 z2 noneS := ⟨_, rfl⟩
  have b9 := putS_box br noneS
  have B9 := putS_below B3 HLZ.out noneS
  rw [← hW'] at b9 B9
  have e9 : W' = (((((w3.setCell ⟨z2, 0, none⟩ (.int .i64 0)).setCell ⟨z2, 1, none⟩ (.int .i64 0)).setCell ⟨z2, 2, none⟩ (.int .i64 0)).setCell ⟨z2, 3, none⟩ (.int .i64 0)).setCell ⟨z2, 4, none⟩ (.bool false)) := hW'
  rw [← e9]
  clear e9 hW' g0 g1 g2 g3 g4 f0 f1 f2 f3 f4
  obtain ⟨g0, g1, g2, g3, g4⟩ := b9.cells
  exact bodyPost_ret (v := StateV t i) (by rw [show StateV t i = _ from HV.out]; simp [results, Try.results25, go_sem, g0, g1, g2, g3, g4, noneS]) rfl ⟨rfl, B9⟩
set_option maxRecDepth 100000 in
set_option maxHeartbeats 8000000 in
theorem state_i (t : TupP) (A : Option Addr) (n c : Nat) (i : Int) (u : Nat) (w : World) (hS : Es w w.heap.size A n t.lg) (hn : n ≤ 100000) (hx : Mid t.sn.ix) (hnc : n ≤ c) (hf : Far t i u) :
    Calls Try.prog 25 #[tupV t (.slice A n c), .int .i64 i] w fun e w' => e = .returned (StateV t i) ∧ Below w.heap.size w w' := by
  have HX := Lib.hid hx
  have HF := Lib.hid hf
  have Hl := Lib.hid hS.len
  have hun : u ≤ n := by have := hf.2; have := Hl.out; omega
  obtain ⟨a, ha⟩ : ∃ a, a = allP t.sn (t.lg.take u) := ⟨_, rfl⟩
  have HV := Lib.hid (show StateV t i = .tuple #[.agg #[.int .i64 a.ix, .int .i64 a.tm, .int .i64 a.sm, .int .i64 a.lv, .bool a.fn], .bool true] by unfold StateV; rw [state_yes (u := u) (by have := hf.1; have := hf.2; unfold lastT; omega) (by have := hf.1; omega), ← ha]; rfl)
  have HA := Lib.hid ha
  clear hx hf ha
  obtain ⟨i0, hi0, hz0, hz1, hz2⟩ := info_partsV info_entry
  have hsl : ∀ W : World, (Instr.slice 24 (.slice A n c) none (some (.int .i64 (u : Int))) none).run Try.prog W = .ok (.slice A u c) W := fun W => cut_firstE Try.underlying24 hi0 A n c u (by omega) W
  obtain ⟨z1, hz1⟩ : ∃ z, z = w.heap.size := ⟨_, rfl⟩
  obtain ⟨w1, hw1⟩ : ∃ x, x = w.alloc (.cells #[.int .i64 t.sn.ix, .int .i64 t.sn.tm, .int .i64 t.sn.sm, .int .i64 t.sn.lv, .bool t.sn.fn, .slice A n c, .int .i64 t.tm, .int .i64 t.vt] 26) := ⟨_, rfl⟩
  have bb : Below w.heap.size w w1 := by rw [hw1]; exact below_al (below_d0 _) _
  have bz : BoxU w1 z1 t (.slice A n c) := by rw [hw1, hz1]; exact BoxU.new w t _
  replace hS := hS.on bb bb.size
  have B1 := bb
  clear bb
  obtain ⟨z2, hz2⟩ : ∃ z, z = w1.heap.size := ⟨_, rfl⟩
  obtain ⟨w2, hw2⟩ : ∃ x, x = w1.alloc (.cells #[.int .i64 0, .int .i64 0, .int .i64 0, .int .i64 0, .bool false] 23) := ⟨_, rfl⟩
  have bb : Below w1.heap.size w1 w2 := by rw [hw2]; exact below_al (below_d0 _) _
  have br : BoxS w2 z2 noneS := by rw [hw2, hz2]; exact BoxS.new w1 noneS
  replace bz := bz.below bb
  replace hS := hS.on bb bb.size
  have B2 := B1.trans (bb.mono B1.size)
  clear bb B1
  have hp2 : z1 + 1 = z2 := by rw [hz2, hw1, hz1]; simp
  have lz2 : w.heap.size ≤ z2 := by omega
  have ne12 : z1 ≠ z2 := by omega
  have HE := Lib.hid (⟨hw1, hw2, hz1, hp2⟩ : _ ∧ _ ∧ _ ∧ _)
  have HLZ := Lib.hid lz2
  clear hw1 hz1 hw2 hz2 hp2 lz2
  unfold tupV
  go_enter Try.func25, Try.ntmps25
  obtain ⟨k0, k1, k2, k3, k4, k5, k6, k7⟩ := bz.cells
  go_wp2_with fail
  clear k0 k1 k2 k3 k4 k5 k6 k7
  rw [← HE.out.1, ← HE.out.2.1, ← HE.out.2.2.1]
  (try rw [HE.out.2.2.2])
  clear HE
  refine Calls.mono (show Calls Try.prog 50 #[.agg #[.int .i64 t.sn.ix, .int .i64 t.sn.tm, .int .i64 t.sn.sm, .int .i64 t.sn.lv, .bool t.sn.fn, .slice A n c, .int .i64 t.tm, .int .i64 t.vt], .int .i64 i] w2 (fun e w' => e = .returned (.tuple #[.int .i64 (u : Int), .bool true]) ∧ Below w2.heap.size w2 w') from behindT_in t A n c i u w2 hS hn HX.out HF.out) ?_
  intro e w3 hh
  obtain ⟨rfl, bb⟩ := hh
  (try clear hh)
  replace bz := bz.below bb
  replace br := br.below bb
  replace hS := hS.on bb bb.size
  have B3 := B2.trans (bb.mono B2.size)
  clear bb B2
  go_upto_region 4 with fail
  have hE : Es w3.drew w3.drew.heap.size A u (t.lg.take u) := Row.first hS hun
  refine wp_region_held_drew (S := (fun X => BoxU X z1 t (.slice A n c))) (by kernel_rfl) bz (fun hHeld => ?_)
  refine take_at (i := 0) (d := 17) (oi := ?o1) (v := ?v1) ?hi1 ?hd1 (by kernel_rfl) (by kernel_rfl) (by kernel_rfl) ?hw1 ?hy1 ?hq1 (by assumption) ?r1
  case hi1 => (simp only [List.getElem?_toArray, List.getElem?_cons_zero]; rfl)
  case hd1 => rfl
  case hw1 => rfl
  case hy1 => ((intro w hSw; (try dsimp only at hSw); obtain ⟨s0, s1, s2, s3, s4, s5, s6, s7⟩ := BoxU.cells hSw; go_simp) <;> (with_reducible rfl))
  case hq1 => exact fun _ _ _ h => h
  simp only [List.set_cons_succ, List.set_cons_zero]
  refine take_at (i := 1) (d := 18) (oi := ?o2) (v := ?v2) ?hi2 ?hd2 (by kernel_rfl) (by kernel_rfl) (by kernel_rfl) ?hw2 ?hy2 ?hq2 (by assumption) ?r2
  case hi2 => (simp only [List.getElem?_toArray, List.getElem?_cons_succ, List.getElem?_cons_zero]; rfl)
  case hd2 => rfl
  case hw2 => rfl
  case hy2 => ((intro w hSw; (try dsimp only at hSw); obtain ⟨s0, s1, s2, s3, s4, s5, s6, s7⟩ := BoxU.cells hSw; go_simp) <;> (with_reducible rfl))
  case hq2 => exact fun _ _ _ h => h
  simp only [List.set_cons_succ, List.set_cons_zero]
  refine take_at (i := 2) (d := 19) (oi := ?o3) (v := ?v3) ?hi3 ?hd3 (by kernel_rfl) (by kernel_rfl) (by kernel_rfl) ?hw3 ?hy3 ?hq3 (by assumption) ?r3
  case hi3 => (simp only [List.getElem?_toArray, List.getElem?_cons_succ, List.getElem?_cons_zero]; rfl)
  case hd3 => rfl
  case hw3 => rfl
  case hy3 => ((intro w hSw; (try dsimp only at hSw); obtain ⟨s0, s1, s2, s3, s4, s5, s6, s7⟩ := BoxU.cells hSw; go_simp) <;> (with_reducible rfl))
  case hq3 => exact fun _ _ _ h => h
  simp only [List.set_cons_succ, List.set_cons_zero]
  refine take_at (i := 3) (d := 20) (oi := ?o4) (v := ?v4) ?hi4 ?hd4 (by kernel_rfl) (by kernel_rfl) (by kernel_rfl) ?hw4 ?hy4 ?hq4 (by assumption) ?r4
  case hi4 => (simp only [List.getElem?_toArray, List.getElem?_cons_succ, List.getElem?_cons_zero]; rfl)
  case hd4 => rfl
  case hw4 => rfl
  case hy4 => ((intro w hSw; (try dsimp only at hSw); obtain ⟨s0, s1, s2, s3, s4, s5, s6, s7⟩ := BoxU.cells hSw; go_simp) <;> (with_reducible rfl))
  case hq4 => exact fun _ _ _ h => h
  simp only [List.set_cons_succ, List.set_cons_zero]
  refine take_at (i := 4) (d := 21) (oi := ?o5) (v := ?v5) ?hi5 ?hd5 (by kernel_rfl) (by kernel_rfl) (by kernel_rfl) ?hw5 ?hy5 ?hq5 (by assumption) ?r5
  case hi5 => (simp only [List.getElem?_toArray, List.getElem?_cons_succ, List.getElem?_cons_zero]; rfl)
  case hd5 => rfl
  case hw5 => rfl
  case hy5 => ((intro w hSw; (try dsimp only at hSw); obtain ⟨s0, s1, s2, s3, s4, s5, s6, s7⟩ := BoxU.cells hSw; go_simp) <;> (with_reducible rfl))
  case hq5 => exact fun _ _ _ h => h
  simp only [List.set_cons_succ, List.set_cons_zero]
  refine take_at (i := 5) (d := 22) (oi := ?o6) (v := ?v6) ?hi6 ?hd6 (by kernel_rfl) (by kernel_rfl) (by kernel_rfl) ?hw6 ?hy6 ?hq6 (by assumption) ?r6
  case hi6 => (simp only [List.getElem?_toArray, List.getElem?_cons_succ, List.getElem?_cons_zero]; rfl)
  case hd6 => rfl
  case hw6 => rfl
  case hy6 => ((intro w hSw; (try dsimp only at hSw); obtain ⟨s0, s1, s2, s3, s4, s5, s6, s7⟩ := BoxU.cells hSw; go_simp) <;> (with_reducible rfl))
  case hq6 => exact fun _ _ _ h => h
  simp only [List.set_cons_succ, List.set_cons_zero]
  refine call_at (i := 6) (d := 23) (oi := ?o7) (f := ?f7) (args := ?a7) ?hi7 ?hd7 (by kernel_rfl) ?hw7 ?he7 ?hc7
  case hi7 => (simp only [List.getElem?_toArray, List.getElem?_cons_succ, List.getElem?_cons_zero]; rfl)
  case hd7 => rfl
  case hw7 => rfl
  case he7 => (go_simp; constructor <;> with_reducible rfl)
  refine Calls.mono (show Calls Try.prog 51 #[.agg #[.int .i64 t.sn.ix, .int .i64 t.sn.tm, .int .i64 t.sn.sm, .int .i64 t.sn.lv, .bool t.sn.fn], .slice A u c] w3.drew (fun e w' => e = .returned (allP t.sn (t.lg.take u)).v ∧ Below w3.drew.heap.size w3.drew w') from all_any t.sn A u c (t.lg.take u) w3.drew hE (by omega)) ?_
  rintro e wq ⟨rfl, bb⟩
  rw [← HA.out]
  unfold StP.v
  refine ⟨_, rfl, (bz.below ((Below.refl _ _).drew.trans bb)), fun hHeld => ?_⟩
  simp only [List.set_cons_succ, List.set_cons_zero]
  have bq : Below w3.heap.size w3 wq := (Below.refl _ _).drew.trans bb
  replace br := br.below bq
  have bz2 := bz.below bq
  have Bq := B3.trans (bq.mono B3.size)
  obtain ⟨g0, g1, g2, g3, g4⟩ := br.cells
  obtain ⟨f0, f1, f2, f3, f4⟩ := br.frozen
  obtain ⟨W', hW'⟩ : ∃ W', W' = putS wq z2 a := ⟨_, rfl⟩
  have b9 := putS_box br a
  have B9 := putS_below Bq HLZ.out a
  have bz9 : BoxU W' z1 t (.slice A n c) := by rw [hW']; exact (putS_same ne12 a).trans bz2
  rw [← hW'] at b9 B9
  have e9 : W' = (((((wq.setCell ⟨z2, 0, none⟩ (.int .i64 a.ix)).setCell ⟨z2, 1, none⟩ (.int .i64 a.tm)).setCell ⟨z2, 2, none⟩ (.int .i64 a.sm)).setCell ⟨z2, 3, none⟩ (.int .i64 a.lv)).setCell ⟨z2, 4, none⟩ (.bool a.fn)) := hW'
  clear hW'
  refine wpAnyH_ready (rs := [7]) (by kernel_rfl) (by simp) ?_
  refine br_store (i := 7) (oi := ?o8) (w' := W') ?hi8 ?hd8 ?hw8 ?he8 bz9 ?hc8
  case hi8 => (simp only [List.getElem?_toArray, List.getElem?_cons_succ, List.getElem?_cons_zero]; rfl)
  case hd8 => rfl
  case hw8 => rfl
  case he8 => (rw [e9]; go_simp <;> with_reducible rfl)
  intro hHeld
  clear e9 g0 g1 g2 g3 g4 f0 f1 f2 f3 f4
  refine take_at (i := 8) (d := 5) (oi := ?o9) (v := ?v9) ?hi9 ?hd9 (by kernel_rfl) (by kernel_rfl) (by kernel_rfl) ?hw9 ?hy9 ?hq9 (by assumption) ?r9
  case hi9 => (simp only [List.getElem?_toArray, List.getElem?_cons_succ, List.getElem?_cons_zero]; rfl)
  case hd9 => rfl
  case hw9 => rfl
  case hy9 => ((intro w hSw; (try dsimp only at hSw); obtain ⟨s0, s1, s2, s3, s4, s5, s6, s7⟩ := BoxU.cells hSw; go_simp) <;> (with_reducible rfl))
  case hq9 => exact fun _ _ _ h => h
  simp only [List.set_cons_succ, List.set_cons_zero]
  refine wpAnyH_done (by kernel_rfl) ?_ _
  clear hHeld hsl hi0
  go_wp2_with fail
  obtain ⟨g0, g1, g2, g3, g4⟩ := b9.cells
  exact bodyPost_ret (v := StateV t i) (by rw [show StateV t i = _ from HV.out]; simp [results, Try.results25, go_sem, g0, g1, g2, g3, g4]) rfl ⟨rfl, B9⟩
theorem stateT_any (t : TupP) (A : Option Addr) (n c : Nat) (i : Int) (w : World) (hS : Es w w.heap.size A n t.lg) (hn : n ≤ 100000) (hx : Mid t.sn.ix) (hnc : n ≤ c) (hi : I64 i) :
    Calls Try.prog 25 #[tupV t (.slice A n c), .int .i64 i] w fun e w' => e = .returned (StateV t i) ∧ Below w.heap.size w w' := by
  rcases far_or t i with ⟨k, hf⟩ | hf
  · exact state_i t A n c i k w hS hn hx hnc hf
  · exact state_o t A n c i w hS hn hx hi hf
end Go.Proofs.Ytbhnlmlaebngmaa
