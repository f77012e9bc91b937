/-
  Package tuple: Right, done: their contracts.
-/
import Derived.Test.YtbhnlmlaebngmaaTupM
namespace Go.Proofs.Ytbhnlmlaebngmaa
open Go.RowKit Go.Shelf
set_option linter.unusedVariables false
set_option linter.unusedSimpArgs false
theorem putB_size (w : World) (p : Nat) (b : Bool) : (putB w p b).heap.size = w.heap.size := by cases b <;> simp [putB]
theorem putB_other {w : World} {p k : Nat} (b : Bool) (h : k ≠ p) : (putB w p b).heap[k]? = w.heap[k]? := by
  cases b
  · exact Below.heap_setCell _ _ _ k (by simpa using h)
  · exact (Below.heap_setCell _ _ _ k (by simpa using h)).trans (Below.heap_setCell _ _ _ k (by simpa using h))
theorem putB_below {w W : World} {p B : Nat} (hp : B ≤ p) (b : Bool) (h : Below B w W) : Below B w (putB W p b) := by
  cases b
  · exact h.setCell (p := ⟨p, 0, none⟩) hp _
  · exact (h.setCell (p := ⟨p, 0, none⟩) hp _).setCell (p := ⟨p, 0, none⟩) hp _
theorem putB_ownF {w : World} {p base n : Nat} {v x : Value} {l : List EnP} (hz : Boxed w p 4 x) (b : Bool) (h : OwnF w base v n l) : OwnF (putB w p b) base v n l := keepF_at h (by rw [putB_size]; exact Nat.le_refl _) fun g cur fr hg => putB_other b (by
  rintro rfl
  have h1 := hg.symm.trans (show w.heap[g]? = _ from hz)
  simp at h1)
/-- A yes or a no, whether p. -/
def Asks (R : Bool → Prop) (w : World) (e : Ending) (w' : World) : Prop := (∃ b, R b ∧ e = .returned (.bool b)) ∧ Below w.heap.size w w'
theorem holds_below (g : Nat) (caps : Array Value) (w : World) (hg : Enters Try.prog g) (R : Bool → Prop)
    (hl : ∀ W, Below w.heap.size w W → Calls Try.prog g caps W fun e w' => ((e = .returned (.tuple #[]) ∧ R true) ∨ (e = .panicked fellL ∧ R false)) ∧ Below W.heap.size W w') :
    Calls Try.prog 53 #[.func (.func g) #[] caps] w (Asks R w) := by
  refine (holds_any g caps w hg (fun b w' => R b ∧ Below w.heap.size w w') ?_).mono ?_
  · rintro W rfl
    have b1 : Below w.heap.size w (w.alloc (.cells #[.bool false] 4)) := below_al (below_d0 _) _
    refine (hl _ b1).mono ?_
    rintro e w' ⟨h, hb⟩
    have b2 := b1.trans (hb.mono b1.size)
    refine ⟨?_, (hb.block _ (by simp)).trans (Boxed.new w _ _)⟩
    rcases h with ⟨h1, h2⟩ | ⟨h1, h2⟩
    · exact .inl ⟨h1, h2, b2⟩
    · exact .inr ⟨h1, h2, b2⟩
  · rintro e w'' ⟨b, w', ⟨hR, hb⟩, hz, rfl, rfl⟩
    exact ⟨⟨b, hR, rfl⟩, putB_below (Nat.le_refl _) b hb⟩
set_option maxRecDepth 100000 in
set_option maxHeartbeats 8000000 in
theorem right1_any (t : TupP) (A : Option Addr) (n c z : Nat) (w : World) (hS : Es w w.heap.size A n t.lg) (hn : n ≤ 1000000) (bz : BoxU w z t (.slice A n c)) :
    Calls Try.prog 54 #[.pointer (some ⟨z, 0, none⟩)] w (BeOut t w) := by
  obtain ⟨k0, k1, k2, k3, k4, k5, k6, k7⟩ := bz.cells
  go_enter Try.func54, Try.ntmps54
  go_wp2_with fail
  refine Calls.mono (show Calls Try.prog 55 #[.agg #[.int .i64 t.sn.ix, .int .i64 t.sn.tm, .int .i64 t.sn.sm, .int .i64 t.sn.lv, .bool t.sn.fn, .slice A n c, .int .i64 t.tm, .int .i64 t.vt]] w (BeOut t w) from be_any t A n c w hS hn) ?_
  rintro e w1 ⟨⟨hM, rfl⟩ | ⟨hM, rfl⟩, hb⟩
  · have H := Lib.hid (⟨hM, hb⟩ : _ ∧ _)
    clear hM hb
    go_wp2_with fail
    go_end0
    exact ⟨.inl ⟨H.out.1, rfl⟩, H.out.2⟩
  · exact ⟨rfl, .inr ⟨hM, rfl⟩, hb⟩
set_option maxRecDepth 100000 in
set_option maxHeartbeats 8000000 in
theorem right12 (t : TupP) (A : Option Addr) (n c : Nat) (w : World) (hS : Es w w.heap.size A n t.lg) (hn : n ≤ 100000) :
    Calls Try.prog 27 #[tupV t (.slice A n c)] w fun e w' => (∃ b, MayIs t b ∧ e = .returned (.bool b)) ∧ Below w.heap.size w w' := by
  have hmf : ∀ (fn : Fn) (first cap : Array Value) (w : World), (Instr.makeFunc fn first cap).run Try.prog w = .ok (.func fn first cap) w := fun _ _ _ _ => rfl
  obtain ⟨z1, hz1⟩ : ∃ z, z = w.heap.size := ⟨_, rfl⟩
  obtain ⟨w1, hw1⟩ : ∃ x, x = w.alloc (.cells #[.int .i64 t.sn.ix, .int .i64 t.sn.tm, .int .i64 t.sn.sm, .int .i64 t.sn.lv, .bool t.sn.fn, .slice A n c, .int .i64 t.tm, .int .i64 t.vt] 26) := ⟨_, rfl⟩
  have bb : Below w.heap.size w w1 := by rw [hw1]; exact below_al (below_d0 _) _
  have bz : BoxU w1 z1 t (.slice A n c) := by rw [hw1, hz1]; exact BoxU.new w t _
  replace hS := hS.on bb bb.size
  have B1 := bb
  clear bb
  have HE := Lib.hid (⟨hw1, hz1⟩ : _ ∧ _)
  clear hw1 hz1  
  unfold tupV
  go_enter Try.func27, Try.ntmps27
  go_wp2_with fail
  rw [← HE.out.1, ← HE.out.2]
  clear HE
  refine Calls.mono (show Calls Try.prog 53 #[.func (.func 54) #[] #[.pointer (some ⟨z1, 0, none⟩)]] w1 (Asks (MayIs t) w1) from holds_below 54 _ w1 (enters_of Try.func54 (by kernel_rfl) rfl) (MayIs t) (fun W hW => (right1_any t A n c z1 W (hS.on hW hW.size) (by omega) (bz.below hW)).mono (by rintro e w' ⟨⟨h1, h2⟩ | ⟨h1, h2⟩, hb⟩; exact ⟨.inl ⟨h2, mayYes h1⟩, hb⟩; exact ⟨.inr ⟨h2, mayNo h1⟩, hb⟩))) ?_
  intro e w2 hh
  obtain ⟨⟨b, hR, rfl⟩, bb⟩ := hh
  (try clear hh)
  replace bz := bz.below bb
  replace hS := hS.on bb bb.size
  have B2 := B1.trans (bb.mono B1.size)
  clear bb B1
  have HR := Lib.hid hR
  clear hR
  go_wp2_with fail
  go_ret
  refine ⟨?_, B2⟩
  first | exact ⟨b, HR.out, rfl⟩ | (cases b; exact .inl ⟨HR.out, rfl⟩; exact .inr ⟨HR.out, rfl⟩)
/-- q: o is answered, in memory of the call's own from B1 on; not q: it falls. -/
def StepOut (o : TupP) (q : Prop) (B1 : Nat) (W : World) (e : Ending) (W' : World) : Prop := ((q ∧ ∃ (A' : Option Addr) (n' c' : Nat), e = .returned (tupV o (.slice A' n' c')) ∧ n' ≤ c' ∧ n' ≤ 1000000 ∧ OwnF W' B1 (.slice A' n' c') n' o.lg) ∨ (¬ q ∧ e = .panicked fellL)) ∧ Below B1 W W'
/-- What a step must do with a tuple that may be: q: it makes o of it, in memory of the call's own; not q: it falls. -/
def StepIs (g : Nat) (dc : Array Value) (t o : TupP) (q : Prop) (w : World) : Prop := MayT t → ∀ (B1 : Nat) (W : World) (A : Option Addr) (n c : Nat), w.heap.size ≤ B1 → B1 ≤ W.heap.size → Below w.heap.size w W → OwnE W B1 (.slice A n c) n t.lg → n ≤ c →
  Calls Try.prog g (#[tupV t (.slice A n c)] ++ dc) W (StepOut o q B1 W)
/-- What holds behind look. -/
structure DoneIs (t o : TupP) (q : Prop) (SLv : Value) (w : World) (z1 z3 z4 : Nat) (b : Bool) (W : World) : Prop where
  low : Below w.heap.size w W
  bt : BoxU W z1 t SLv
  br : BoxU W z3 noneT (.slice none 0 0)
  yes : b = true → (q ∧ MayT t ∧ MayT o) ∧ ∃ (A' : Option Addr) (n' c' : Nat), BoxU W z4 o (.slice A' n' c') ∧ n' ≤ c' ∧ OwnF W w.heap.size (.slice A' n' c') n' o.lg
  no : b = false → ¬ (q ∧ MayT t ∧ MayT o)
theorem DoneIs.put {t o : TupP} {q : Prop} {v x : Value} {w W : World} {z1 z3 z4 z5 : Nat} {b : Bool} (h : DoneIs t o q v w z1 z3 z4 b W) (hz : Boxed W z5 4 x) (h5 : w.heap.size ≤ z5) (n1 : z1 ≠ z5) (n3 : z3 ≠ z5) (n4 : z4 ≠ z5) : DoneIs t o q v w z1 z3 z4 b (putB W z5 b) := by
  refine ⟨putB_below h5 b h.low, (putB_other b n1).trans h.bt, (putB_other b n3).trans h.br, fun hb => ?_, h.no⟩
  obtain ⟨h1, A', n', c', h2, h3, h4⟩ := h.yes hb
  exact ⟨h1, A', n', c', (putB_other b n4).trans h2, h3, putB_ownF hz b h4⟩
/-- What done's look answers. -/
def LookOut (t o : TupP) (q : Prop) (SLv : Value) (w : World) (z1 z3 z4 z5 : Nat) (e : Ending) (W' : World) : Prop := ((e = .returned (.tuple #[]) ∧ DoneIs t o q SLv w z1 z3 z4 true W') ∨ (e = .panicked fellL ∧ DoneIs t o q SLv w z1 z3 z4 false W')) ∧ Boxed W' z5 4 (.bool false)
set_option maxRecDepth 100000 in
set_option maxHeartbeats 8000000 in
theorem look_any (t o : TupP) (q : Prop) (g : Nat) (dc : Array Value) (hg : Enters Try.prog g) (A : Option Addr) (n c z1 z2 z3 z4 z5 : Nat) (w w0 : World) (hS : Es w0 w0.heap.size A n t.lg) (hn : n ≤ 100000) (hst : StepIs g dc t o q w)
    (hw : Below w.heap.size w w0) (bt : BoxU w0 z1 t (.slice A n c)) (bd : Boxed w0 z2 71 (.func (.func g) #[] dc)) (br : BoxU w0 z3 noneT (.slice none 0 0)) (bo : BoxU w0 z4 noneT (.slice none 0 0)) (bk : Boxed w0 z5 4 (.bool false))
    (hz : w.heap.size ≤ z4) (n1 : z1 ≠ z4) (n3 : z3 ≠ z4) (n5 : z5 ≠ z4) :
    Calls Try.prog 62 #[.pointer (some ⟨z1, 0, none⟩), .pointer (some ⟨z2, 0, none⟩), .pointer (some ⟨z4, 0, none⟩)] w0 (LookOut t o q (.slice A n c) w z1 z3 z4 z5) := by
  have hen := hg
  unfold Enters at hen
  have HT := Lib.hid hst
  have HZ := Lib.hid (⟨hz, n1, n3, n5, hw⟩ : _ ∧ _ ∧ _ ∧ _ ∧ _)
  have hsz0 := hw.size
  clear hst hz n1 n3 n5 hw hg
  obtain ⟨k0, k1, k2, k3, k4, k5, k6, k7⟩ := bt.cells
  go_enter Try.func62, Try.ntmps62
  go_wp2_with fail
  clear k0 k1 k2 k3 k4 k5 k6 k7
  refine Calls.mono (show Calls Try.prog 55 #[.agg #[.int .i64 t.sn.ix, .int .i64 t.sn.tm, .int .i64 t.sn.sm, .int .i64 t.sn.lv, .bool t.sn.fn, .slice A n c, .int .i64 t.tm, .int .i64 t.vt]] w0 (BeOut t w0) from be_any t A n c w0 hS (by omega)) ?_
  rintro e w1 ⟨hM, hb⟩
  have hsz01 := hb.size
  have b1 := HZ.out.2.2.2.2.trans (hb.mono hsz0)
  have kd1 : Boxed w1 z2 71 (.func (.func g) #[] dc) := (hb.block _ bd.lt).trans bd
  have kk1 : Boxed w1 z5 4 (.bool false) := (hb.block _ bk.lt).trans bk
  have kt1 := bt.below hb
  have kr1 := br.below hb
  have ko1 := bo.below hb
  have hS1 := hS.on hb hb.size
  clear hb
  rcases hM with ⟨hM, rfl⟩ | ⟨hM, rfl⟩
  rotate_left
  · exact ⟨rfl, .inr ⟨rfl, b1, kt1, kr1, fun h => (by cases h), fun _ h => hM h.2.1⟩, kk1⟩
  have HM := Lib.hid hM
  have H1 := Lib.hid (⟨b1, kk1, kr1, ko1⟩ : _ ∧ _ ∧ _ ∧ _)
  clear hM b1 kk1 kr1 ko1 hS bt bd br bo bk
  go_upto_region 1 with fail
  have hDb : BoxU w1.drew z1 t (.slice A n c) ∧ Boxed w1.drew z2 71 (.func (.func g) #[] dc) := ⟨kt1, kd1⟩
  have kbn : Below w1.heap.size w1 w1.drew := (Below.refl _ _).drew
  refine wp_region_held_drew (S := (fun X => BoxU X z1 t (.slice A n c) ∧ Boxed X z2 71 (.func (.func g) #[] dc))) (by kernel_rfl) hDb (fun hHeld => ?_)
  refine take_at (i := 0) (d := 5) (oi := ?o1) (v := ?v1) ?hi1 ?hd1 (by kernel_rfl) (by kernel_rfl) (by kernel_rfl) ?hw1 ?hy1 ?hq1 (by assumption) ?r1
  case hi1 => (simp only [List.getElem?_toArray, List.getElem?_cons_zero]; rfl)
  case hd1 => rfl
  case hw1 => rfl
  case hy1 => ((intro w hSw; (try dsimp only at hSw); obtain ⟨⟨s0, s1, s2, s3, s4, s5, s6, s7⟩, s8⟩ : _ ∧ _ := ⟨BoxU.cells hSw.1, Boxed.cell hSw.2⟩; go_simp) <;> (with_reducible rfl))
  case hq1 => exact fun _ _ _ h => h
  simp only [List.set_cons_succ, List.set_cons_zero]
  refine take_at (i := 1) (d := 6) (oi := ?o2) (v := ?v2) ?hi2 ?hd2 (by kernel_rfl) (by kernel_rfl) (by kernel_rfl) ?hw2 ?hy2 ?hq2 (by assumption) ?r2
  case hi2 => (simp only [List.getElem?_toArray, List.getElem?_cons_succ, List.getElem?_cons_zero]; rfl)
  case hd2 => rfl
  case hw2 => rfl
  case hy2 => ((intro w hSw; (try dsimp only at hSw); obtain ⟨⟨s0, s1, s2, s3, s4, s5, s6, s7⟩, s8⟩ : _ ∧ _ := ⟨BoxU.cells hSw.1, Boxed.cell hSw.2⟩; go_simp) <;> (with_reducible rfl))
  case hq2 => exact fun _ _ _ h => h
  simp only [List.set_cons_succ, List.set_cons_zero]
  refine call_at (i := 2) (d := 7) (oi := ?o3) (f := ?f3) (args := ?a3) ?hi3 ?hd3 (by kernel_rfl) ?hw3 ?he3 ?hc3
  case hi3 => (simp only [List.getElem?_toArray, List.getElem?_cons_succ, List.getElem?_cons_zero]; rfl)
  case hd3 => rfl
  case hw3 => rfl
  case he3 => (go_simp; constructor <;> with_reducible rfl)
  refine Calls.mono (show Calls Try.prog 34 #[.agg #[.int .i64 t.sn.ix, .int .i64 t.sn.tm, .int .i64 t.sn.sm, .int .i64 t.sn.lv, .bool t.sn.fn, .slice A n c, .int .i64 t.tm, .int .i64 t.vt]] w1.drew (fun e w' => (∃ A' c', e = .returned (tupV t (.slice A' n c')) ∧ n ≤ c' ∧ OwnE w' w1.drew.heap.size (.slice A' n c') n t.lg) ∧ Below w1.drew.heap.size w1.drew w') from ownE_any t A n c w1.drew (hS1.on kbn kbn.size) hn) ?_
  rintro e w2 ⟨⟨A2, c2, rfl, hc2, own2⟩, b2⟩
  unfold tupV
  have hD2 : BoxU w2 z1 t (.slice A n c) ∧ Boxed w2 z2 71 (.func (.func g) #[] dc) := ⟨hDb.1.below b2, (b2.block _ hDb.2.lt).trans hDb.2⟩
  refine ⟨_, rfl, hD2, fun hHeld => ?_⟩
  simp only [List.set_cons_succ, List.set_cons_zero]
  obtain ⟨B1, hB1⟩ : ∃ x, x = w1.drew.heap.size := ⟨_, rfl⟩
  rw [← hB1] at own2 b2
  have hB0 : w0.heap.size ≤ B1 := by rw [hB1]; exact Nat.le_trans (show w0.heap.size ≤ w1.heap.size from hsz01) kbn.size
  have hB12 : B1 ≤ w2.heap.size := by rw [hB1]; exact (hB1 ▸ b2).size
  have bw2 : Below w.heap.size w w2 := H1.out.1.trans ((kbn.trans (hB1 ▸ b2)).mono H1.out.1.size)
  have kk2 : Boxed w2 z5 4 (.bool false) := (b2.block _ (by have := H1.out.2.1.lt; rw [hB1]; exact this)).trans H1.out.2.1
  have kr2 := (b2.block z3 (by have := H1.out.2.2.1.lt; rw [hB1]; exact this)).trans (show w1.drew.heap[z3]? = _ from H1.out.2.2.1)
  have ko2 := (b2.block z4 (by have := H1.out.2.2.2.lt; rw [hB1]; exact this)).trans (show w1.drew.heap[z4]? = _ from H1.out.2.2.2)
  have hl1 : z1 < B1 ∧ z2 < B1 ∧ z3 < B1 ∧ z4 < B1 ∧ z5 < B1 := by rw [hB1]; exact ⟨kt1.lt, kd1.lt, H1.out.2.2.1.lt, H1.out.2.2.2.lt, H1.out.2.1.lt⟩
  have H2 := Lib.hid (⟨bw2, kk2, (show BoxU w2 z3 noneT (.slice none 0 0) from kr2), (show BoxU w2 z4 noneT (.slice none 0 0) from ko2), hl1⟩ : _ ∧ _ ∧ _ ∧ _ ∧ _)
  have hwB : w.heap.size ≤ B1 := Nat.le_trans hsz0 hB0
  clear bw2 kk2 kr2 ko2 hl1 hB1 hHeld
  refine call_atX (i := 3) (d := 8) (oi := ?o4) (f := ?f4) (args := ?a4) ?hi4 ?hd4 (by kernel_rfl) ?hw4 ?he4 ?hc4
  case hi4 => (simp only [List.getElem?_toArray, List.getElem?_cons_succ, List.getElem?_cons_zero]; rfl)
  case hd4 => rfl
  case hw4 => rfl
  case he4 => (go_simp; constructor <;> with_reducible rfl)
  refine Calls.mono (HT.out HM.out B1 w2 A2 n c2 hwB hB12 H2.out.1 own2 hc2) ?_
  rintro e w3 ⟨hq, b3⟩
  obtain ⟨l1, l2, l3, l4, l5⟩ := H2.out.2.2.2.2
  have bw3 : Below w.heap.size w w3 := H2.out.1.trans (b3.mono hwB)
  have kt3 : BoxU w3 z1 t (.slice A n c) := (b3.block z1 l1).trans hD2.1
  have kd3 : Boxed w3 z2 71 (.func (.func g) #[] dc) := (b3.block z2 l2).trans hD2.2
  have kr3 : BoxU w3 z3 noneT (.slice none 0 0) := (b3.block z3 l3).trans H2.out.2.2.1
  have ko3 : BoxU w3 z4 noneT (.slice none 0 0) := (b3.block z4 l4).trans H2.out.2.2.2.1
  have kk3 : Boxed w3 z5 4 (.bool false) := (b3.block z5 l5).trans H2.out.2.1
  rcases hq with ⟨hq, A3, n3, c3, rfl, hc3, hn3, own3⟩ | ⟨hq, rfl⟩
  rotate_left
  · exact .inr ⟨_, rfl, rfl, .inr ⟨rfl, bw3, kt3, kr3, fun h => (by cases h), fun _ h => hq h.1⟩, kk3⟩
  refine .inl ⟨_, rfl, ⟨kt3, kd3⟩, fun hHeld => ?_⟩
  simp only [List.set_cons_succ, List.set_cons_zero]
  unfold tupV
  have HQ := Lib.hid hq
  clear hq
  obtain ⟨hz4, ne1, ne3, ne5, _⟩ := HZ.out
  obtain ⟨W', hW'⟩ : ∃ W', W' = putU w3 z4 o (.slice A3 n3 c3) := ⟨_, rfl⟩
  have bo4 : BoxU W' z4 o (.slice A3 n3 c3) := by rw [hW']; exact putU_box ko3 o _
  have bw4 : Below w.heap.size w W' := by rw [hW']; exact putU_below hz4 o _ bw3
  have kt4 : BoxU W' z1 t (.slice A n c) := by rw [hW']; exact putU_boxes kt3 ne1
  have kr4 : BoxU W' z3 noneT (.slice none 0 0) := by rw [hW']; exact putU_boxes kr3 ne3
  have kk4 : Boxed W' z5 4 (.bool false) := by rw [hW']; exact (putU_other o _ ne5).trans kk3
  have own4 : OwnF W' w.heap.size (.slice A3 n3 c3) n3 o.lg := by rw [hW']; exact putU_ownF ko3 (lowF own3 hwB)
  have hD4 : BoxU W' z1 t (.slice A n c) ∧ Boxed W' z2 71 (.func (.func g) #[] dc) := ⟨kt4, by rw [hW']; exact (putU_other o _ (by rintro rfl; have h1 := kd3.symm.trans (show w3.heap[z2]? = _ from ko3); simp at h1)).trans kd3⟩
  have e9 : W' = ((((((((w3.setCell ⟨z4, 0, none⟩ (.int .i64 o.sn.ix)).setCell ⟨z4, 1, none⟩ (.int .i64 o.sn.tm)).setCell ⟨z4, 2, none⟩ (.int .i64 o.sn.sm)).setCell ⟨z4, 3, none⟩ (.int .i64 o.sn.lv)).setCell ⟨z4, 4, none⟩ (.bool o.sn.fn)).setCell ⟨z4, 5, none⟩ (.slice A3 n3 c3)).setCell ⟨z4, 6, none⟩ (.int .i64 o.tm)).setCell ⟨z4, 7, none⟩ (.int .i64 o.vt)) := hW'
  obtain ⟨g0, g1, g2, g3, g4, g5, g6, g7⟩ := ko3.cells
  have f0 := ko3.frozen 0
  have f1 := ko3.frozen 1
  have f2 := ko3.frozen 2
  have f3 := ko3.frozen 3
  have f4 := ko3.frozen 4
  have f5 := ko3.frozen 5
  have f6 := ko3.frozen 6
  have f7 := ko3.frozen 7
  clear hW' own3 kt3 kd3 kr3 kk3 bw3 b3 hHeld
  refine wpAnyH_ready (rs := [4]) (by kernel_rfl) (by simp) ?_
  refine br_store (i := 4) (oi := ?o5) (w' := W') ?hi5 ?hd5 ?hw5 ?he5 hD4 ?hc5
  case hi5 => (simp only [List.getElem?_toArray, List.getElem?_cons_succ, List.getElem?_cons_zero]; rfl)
  case hd5 => rfl
  case hw5 => rfl
  case he5 => (rw [e9]; go_simp <;> with_reducible rfl)
  intro hHeld
  refine wpAnyH_done (by kernel_rfl) ?_ _
  clear hHeld e9 g0 g1 g2 g3 g4 g5 g6 g7 f0 f1 f2 f3 f4 f5 f6 f7 ko3 H1 H2 kt1 kd1 hS1 hDb kbn b2 hD2
  have H4 := Lib.hid (⟨bw4, kk4, kt4, kr4, own4, hc3⟩ : _ ∧ _ ∧ _ ∧ _ ∧ _ ∧ _)
  clear bw4 kk4 kt4 kr4 own4 hD4 hc3
  obtain ⟨k0, k1, k2, k3, k4, k5, k6, k7⟩ := bo4.cells
  go_wp2_with fail
  clear k0 k1 k2 k3 k4 k5 k6 k7
  refine Calls.mono (show Calls Try.prog 55 #[.agg #[.int .i64 o.sn.ix, .int .i64 o.sn.tm, .int .i64 o.sn.sm, .int .i64 o.sn.lv, .bool o.sn.fn, .slice A3 n3 c3, .int .i64 o.tm, .int .i64 o.vt]] W' (BeOut o W') from be_any o A3 n3 c3 W' (OwnF.es H4.out.2.2.2.2.1) hn3) ?_
  rintro e w5 ⟨hM5, b5⟩
  obtain ⟨bw4, kk4, kt4, kr4, own4, hc3⟩ := H4.out
  have bw5 := bw4.trans (b5.mono bw4.size)
  have kk5 : Boxed w5 z5 4 (.bool false) := (b5.block z5 kk4.lt).trans kk4
  rcases hM5 with ⟨hM5, rfl⟩ | ⟨hM5, rfl⟩
  rotate_left
  · exact ⟨rfl, .inr ⟨rfl, bw5, kt4.below b5, kr4.below b5, fun h => (by cases h), fun _ h => hM5 h.2.2⟩, kk5⟩
  have H5 := Lib.hid (show DoneIs t o q (.slice A n c) w z1 z3 z4 true w5 from ⟨bw5, kt4.below b5, kr4.below b5, fun _ => ⟨⟨HQ.out, HM.out, hM5⟩, A3, n3, c3, bo4.below b5, hc3, keepF own4 b5⟩, fun h => by cases h⟩)
  have K5 := Lib.hid kk5
  clear bw4 kk4 kt4 kr4 own4 hc3 bw5 kk5 hM5 b5
  go_wp2_with fail
  go_end0
  exact ⟨.inl ⟨rfl, H5.out⟩, K5.out⟩
end Go.Proofs.Ytbhnlmlaebngmaa
