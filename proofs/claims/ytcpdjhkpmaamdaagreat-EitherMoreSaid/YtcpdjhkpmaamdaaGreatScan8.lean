/-
  two.scan, two.Scan, two.End, two.More, two.File: their contracts.
-/
import Derived.Test.YtcpdjhkpmaamdaaGreatBks
namespace Go.Proofs.YtcpdjhkpmaamdaaGreat
open Go.RowKit Go.Shelf
set_option linter.unusedVariables false

attribute [local go_sem] Oper.semAt_some Ga.run_store_complex

/-- Box z holds what is told of a scan. -/
def BoxCTw (W : World) (z : Nat) (f : Int) (v : Value) (u : Int) : Prop := W.heap[z]? = some (.cells #[.int .i64 f, v, .int .i64 u] 29 (0, 0))
section
variable {W W' : World} {z : Nat} {f u : Int} {v : Value}
theorem BoxCTw.cells (h : BoxCTw W z f v u) : W.cell? ⟨z, 0, none⟩ = some (.int .i64 f) ∧ W.cell? ⟨z, 1, none⟩ = some v ∧ W.cell? ⟨z, 2, none⟩ = some (.int .i64 u) := by
  refine ⟨?_, ?_, ?_⟩ <;> (rw [cell_of_row _ _ _ _ _ _ h]; simp)
theorem BoxCTw.frozen (h : BoxCTw W z f v u) (i : Nat) : W.frozen? ⟨z, i, none⟩ = false := by
  simp [World.frozen?, show W.heap[z]? = _ from h]
theorem BoxCTw.lt (h : BoxCTw W z f v u) : z < W.heap.size := (Array.getElem?_eq_some_iff.1 h).1
theorem BoxCTw.below (h : BoxCTw W z f v u) (hb : Below W.heap.size W W') : BoxCTw W' z f v u := (hb.block z h.lt).trans h
theorem BoxCTw.new (w : World) (f u : Int) (v : Value) : BoxCTw (w.alloc (.cells #[.int .i64 f, v, .int .i64 u] 29)) w.heap.size f v u := World.alloc_heap_new w _
theorem BoxCTw.s0 (h : BoxCTw W z f v u) (x : Int) : BoxCTw (W.setCell ⟨z, 0, none⟩ (.int .i64 x)) z x v u := heap_setTw h _
theorem BoxCTw.s1 (h : BoxCTw W z f v u) (x : Value) : BoxCTw (W.setCell ⟨z, 1, none⟩ x) z f x u := heap_setTw h _
theorem BoxCTw.s2 (h : BoxCTw W z f v u) (x : Int) : BoxCTw (W.setCell ⟨z, 2, none⟩ (.int .i64 x)) z f v x := heap_setTw h _
theorem BoxCTw.other {y : Nat} (h : BoxCTw W z f v u) (hne : z ≠ y) (i : Nat) (x : Value) : BoxCTw (W.setCell ⟨y, i, none⟩ x) z f v u := (Below.heap_setCell _ _ _ z (by simpa using hne)).trans h
end
theorem box_not_rowTw {W : World} {z : Nat} {cs : Array Value} {t e : TypeId} {fr : Nat × Nat} (h : W.heap[z]? = some (.cells cs t fr)) (hte : t ≠ e) {base size k : Nat} {v : Value} {xs : List Value} (hr : W.ownsRow base e size v k xs) : some z ≠ v.ownBlock := by
  rcases hr.2 with ⟨rfl, _⟩ | ⟨g, cap, cur, rfl, _, hg, _⟩
  · simp [Value.ownBlock]
  · intro e1
    obtain rfl : z = g := by simpa [Value.ownBlock] using e1
    rw [h] at hg
    injection hg with hg
    injection hg with _ h2 _
    exact hte h2

/-- What scan answers. -/
def ScanTTw (w : World) (b : List Int) (e : Ending) (w' : World) : Prop :=
  ((∃ f cs r A c n u x y, ScanIs b f cs r ∧ e = .returned (.tuple #[.agg #[.int .i64 f, .slice A n c, .int .i64 (u : Nat)], .complex .f64 x y, .int .i64 0]) ∧ cs.flatten.length = n ∧ (headLTw f ++ blksL (headE f) cs).length = u ∧ n ≤ c ∧ Es w' w'.heap.size A n cs.flatten ∧ Ga.Pt x y (blksE (headE f) cs)) ∨
    ((∀ f, ¬ HeadAt b f) ∧ e = .returned (.tuple #[.agg #[.int .i64 0, .slice none 0 0, .int .i64 0], .complex .f64 0 0, .int .i64 11]))) ∧ Below w.heap.size w w'

/-- Between two rounds. -/
structure GInv (w : World) (f : Int) (p : Int × Int) (h r z zz sB D : Nat) (vs : Value) (pre : List HB) (W : World) : Prop where
  bz : ∃ v, BoxCTw W z f v ((h + (blksL p (csOf pre)).length : Nat) : Int) ∧ W.ownsRow w.heap.size 41 3 v (csOf pre).flatten.length ((csOf pre).flatten.flatMap EnP.cs)
  bp : ∃ x y, Boxed W zz 68 (.complex .f64 x y) ∧ Ga.Pt x y (blksE p (csOf pre))
  br : BoxCTw W r 0 (.slice none 0 0) 0
  bs : Boxed W sB 23 vs
  low : Below w.heap.size w W
  size : D ≤ W.heap.size
theorem GInv.own {w : World} {f : Int} {p : Int × Int} {h r z zz sB D : Nat} {vs : Value} (hz : z < D) (hzz : zz < D) (hr : r < D) (hs : sB < D) (hw : w.heap.size ≤ D) : OwnT 9 D (GInv w f p h r z zz sB D vs) := fun _ W W' row h hg hr' => by
  obtain ⟨⟨v, hv, hrow⟩, ⟨x, y, hp, hpt⟩, h0, h2, hlow, hsz⟩ := h
  have hne : ∀ k, k < D → some k ≠ row := fun k hk e => by have := (hr' k e.symm).1; omega
  refine ⟨⟨v, (hg.block z hv.lt (hne z hz)).trans hv, hrow.kept hg (row_ne (by decide) hrow fun r e => (hr' r e).2)⟩, ⟨x, y, (hg.block zz hp.lt (hne zz hzz)).trans hp, hpt⟩, (hg.block r h0.lt (hne r hr)).trans h0, (hg.block sB h2.lt (hne sB hs)).trans h2, ?_, Nat.le_trans hsz hg.size⟩
  exact hlow.grown hg hlow.size (fun k e => by have := (hr' k e).1; omega)
/-- The loop's variable. -/
def GVar (D : Nat) (mk : Nat → HB → Act) (d : HB) (a' : Act) (W : World) : Prop := ∃ bx, BoxK W bx (.slice d.A d.l.length d.c) d.m d.x d.y ∧ D ≤ bx ∧ a' = mk bx d ∧ Es W W.heap.size d.A d.l.length d.l
theorem GVar.put {D : Nat} {mk : Nat → HB → Act} (d : HB) (a' : Act) (W : World) (l : Nat) (o o' : Obj) (h : GVar D mk d a' W) (hl : W.heap[l]? = some o) (ho : o.isCells = false) : GVar D mk d a' (W.putObj l o') := by
  obtain ⟨bx, hb, hD, e, hes⟩ := h
  refine ⟨bx, (World.putObj_heap_other (fun e => ?_)).trans hb, hD, e, ?_⟩
  · subst e
    rw [show W.heap[bx]? = _ from hb] at hl
    cases hl
    cases ho
  · exact (row_put EnP.len hl ho hes).on (Below.refl _ _) (grownBy_putObj' W l o').size
theorem boxC_not_row {W : World} {z : Nat} {f u : Int} {v : Value} (h : BoxCTw W z f v u) {base size k : Nat} {a : Value} {xs : List Value} (hr : W.ownsRow base 41 size a k xs) : some z ≠ a.ownBlock := box_not_rowTw h (by decide) hr
theorem own_setC {W : World} {z i : Nat} {f u : Int} {v : Value} (h : BoxCTw W z f v u) {base size k : Nat} {a : Value} {xs : List Value} (hr : W.ownsRow base 41 size a k xs) (b : Value) : (W.setCell ⟨z, i, none⟩ b).ownsRow base 41 size a k xs :=
  hr.kept (setCell_grown8 W z i b) (.inr (boxC_not_row h hr).symm)
theorem BoxCTw.other_i {W : World} {z b i : Nat} {f u : Int} {v : Value} (h : BoxCTw W z f v u) (hne : z ≠ b) (a : Value) : BoxCTw (W.setCell ⟨b, i, none⟩ a) z f v u := (Below.heap_setCell _ _ _ z (by simpa using hne)).trans h
theorem head_length {f : Int} (hf : Num f) : (headLTw f).length ≤ 6 ∧ 2 ≤ (headLTw f).length := by
  have h1 := Nu.cnt_bd (n := f) (by have := hf.1; omega) hf.2
  rw [headLTw, List.length_cons, Nu.shortOf_length]
  omega
theorem blks_ge {p : Int × Int} {cs : List (List EnP)} (h : Good cs) : cs.length ≤ (blksL p cs).length := by
  induction cs generalizing p with
  | nil => simp
  | cons c cs ih =>
    have h3 := ih (p := endP p c) h.cons.2
    rw [blksL, List.length_append, block_length, List.length_cons]
    omega
theorem flat_le {cs : List (List EnP)} (h : Good cs) : cs.flatten.length ≤ 4 * cs.length := by
  induction cs with
  | nil => simp
  | cons c cs ih =>
    have h3 := ih h.cons.2
    have h4 := h.cons.1.2.1
    rw [List.flatten_cons, List.length_append, List.length_cons]
    omega
theorem headE_pt_from : Ga.From 0 0 (0, 0) := .inl Ga.Pt.zero

set_option maxRecDepth 100000 in
set_option maxHeartbeats 4000000 in
theorem scan_inTw (A : Option Addr) (n c : Nat) (b : List Int) (w : World) (hr : Rd w w.heap.size .u8 A n b) (hb : Byt b) (hnc : n ≤ c) (hn : n ≤ 1000000) :
    CallsIn Fence.wide 4 Tryz.prog 148 #[.slice A n c] w (ScanTTw w b) := by
  obtain ⟨i0, hi, hz0, hz1, hz2⟩ := info_parts Ga.info_u8
  obtain ⟨j0, hj, hy0, hy1, hy2⟩ := info_partsV info_entryTw
  have Hl := Lib.hid (⟨hr, hb, hr.1⟩ : _ ∧ _ ∧ _)
  clear hr hb
  refine callsIn_of_wp_marks Tryz.func148 rfl trivial ?_ rfl
  simp only [Tryz.ntmps148, List.size_toArray, List.length_cons, List.length_nil, Nat.reduceAdd, Nat.reduceSub, Array.replicate_succ, Array.replicate_zero, List.push_toArray, List.append_toArray, List.nil_append, List.cons_append]
  gi_wp2_with fail
  refine ⟨trivial, ?_⟩
  obtain ⟨r, hr⟩ : ∃ r, r = w.heap.size := ⟨_, rfl⟩
  obtain ⟨w0, hw0⟩ : ∃ w0, w0 = w.alloc (.cells #[.int .i64 0, .slice none 0 0, .int .i64 0] 29) := ⟨_, rfl⟩
  have hB0 : Below w.heap.size w w0 := by rw [hw0]; exact below_al (below_d0 w) _
  have b0 : BoxCTw w0 r 0 (.slice none 0 0) 0 := by rw [hw0, hr]; exact BoxCTw.new _ _ _ _
  rw [← hw0, ← hr]
  have Hr := Lib.hid (show w.heap.size ≤ r ∧ r = w.heap.size by omega)
  clear hw0 hr
  refine (callsIn_wide.2 (headOf_anyTw A n c b w0 (Hl.out.1.on hB0 hB0.size) Hl.out.2.1 hnc (by omega))).mono ?_
  rintro e w1 ⟨hT, hb1⟩
  have b1 := b0.below hb1
  have hB1 := hB0.trans (hb1.mono hB0.size)
  rcases hT with ⟨f, h, hH, hh, rfl⟩ | ⟨hH, rfl⟩
  · have hh6 := head_length hH.1
    rw [← hh] at hh6
    have hhn : h ≤ n := by
      obtain ⟨_, r0, e⟩ := hH
      have h1 := congrArg List.length e
      rw [List.length_append, ← hh, Hl.out.2.2] at h1
      omega
    obtain ⟨z, hz⟩ : ∃ z, z = w1.heap.size := ⟨_, rfl⟩
    obtain ⟨w2, hw2⟩ : ∃ w2, w2 = w1.alloc (.cells #[.int .i64 f, .slice none 0 0, .int .i64 (h : Int)] 29) := ⟨_, rfl⟩
    have hB2 : Below w.heap.size w w2 := by rw [hw2]; exact hB1.alloc hB1.size _
    have bz2 : BoxCTw w2 z f (.slice none 0 0) (h : Int) := by rw [hw2, hz]; exact BoxCTw.new _ _ _ _
    have br2 : BoxCTw w2 r 0 (.slice none 0 0) 0 := b1.below (by rw [hw2]; exact (Below.refl _ _).alloc (Nat.le_refl _) _)
    have hs2 : w2.heap.size = z + 1 := by rw [hw2, hz]; simp
    have hrz : r < z := by rw [hz]; exact b1.lt
    obtain ⟨A', hrun, hcut⟩ := cut_tail8 Tryz.underlying23 hi hz1 A n c h hhn hnc
    obtain ⟨m, hm⟩ : ∃ m, m = n - h := ⟨_, rfl⟩
    obtain ⟨c', hc'⟩ : ∃ c', c' = c - h := ⟨_, rfl⟩
    rw [← hm, ← hc'] at hrun
    obtain ⟨b', hb'⟩ : ∃ b', b' = b.drop h := ⟨_, rfl⟩
    have hhead : b.take h = headLTw f := by
      obtain ⟨_, r0, e⟩ := hH
      rw [e, hh, List.take_left]
    have hrd2 : Rd w2 w2.heap.size .u8 A h (headLTw f) := by
      have h1 := (Hl.out.1.on hB2 hB2.size).first hhn
      rwa [hhead] at h1
    have hcutw : Rd w w.heap.size .u8 A' m b' := by
      have h1 := hcut Hl.out.1
      rwa [← hm, ← hb'] at h1
    have hbe : b = headLTw f ++ b' := by rw [hb', ← hhead, List.take_append_drop]
    have hmc : m ≤ c' := by omega
    have hm9 : m ≤ 1000000000 := by omega
    have H2 := Lib.hid (⟨hB2, bz2, br2, hs2, hrz, hw2, hz, hH, hh, hh6, hrd2, hcutw, hbe, hhn, hm⟩ : _ ∧ _ ∧ _ ∧ _ ∧ _ ∧ _ ∧ _ ∧ _ ∧ _ ∧ _ ∧ _ ∧ _ ∧ _ ∧ _ ∧ _)
    have hhc : (h : Int) ≤ (c : Int) := by omega
    clear b0 hB0 hb1 b1 hB1 hB2 bz2 br2 hs2 hrz hz hm hc' hcut hH hh hh6 hhn hhead hrd2 hcutw hbe hb'
    gi_wp2_with fail
    rw [← hw2, ← H2.out.2.2.2.2.2.2.1]
    clear hw2
    refine ⟨trivial, ?_⟩
    refine (callsIn_wide.2 (Ga.chain_one (c := c) w2 (z + 1) 23 (by rw [H2.out.2.2.2.1]) headE_pt_from H2.out.2.2.2.2.2.2.2.2.2.2.1 (head_byt H2.out.2.2.2.2.2.2.2.1.1) (by have := H2.out.2.2.2.2.2.2.2.2.2.1; omega))).mono ?_
    rintro e w3 ⟨⟨xp, yp, rfl, hpt⟩, hb3⟩
    obtain ⟨hB2, bz2, br2, hs2, hrz, -, -, hH, hh, hh6, hrd2, hcutw, hbe, hhn, hm⟩ := H2.out
    obtain ⟨zz, hzz⟩ : ∃ zz, zz = w3.heap.size := ⟨_, rfl⟩
    obtain ⟨w4, hw4⟩ : ∃ w4, w4 = w3.alloc (.cells #[.complex .f64 xp yp] 68) := ⟨_, rfl⟩
    have hb4 : Below w2.heap.size w2 w4 := by rw [hw4]; exact hb3.alloc hb3.size _
    have bp4 : Boxed w4 zz 68 (.complex .f64 xp yp) := by rw [hw4, hzz]; exact Boxed.new _ _ _
    have hs4 : w4.heap.size = zz + 1 := by rw [hw4, hzz]; simp
    have bz4 := bz2.below hb4
    have br4 := br2.below hb4
    have lo4 := hB2.trans (hb4.mono hB2.size)
    have cp := bp4.cell
    have hzz2 : z < zz := by rw [hzz]; have := hb3.size; omega
    have H4 := Lib.hid (⟨bp4, bz4, br4, lo4, hs4, hpt, hw4, hzz2⟩ : _ ∧ _ ∧ _ ∧ _ ∧ _ ∧ _ ∧ _ ∧ _)
    have Hw4 := Lib.hid (⟨hw4, hzz⟩ : _ ∧ _)
    clear hB2 bz2 br2 hs2 hrz hH hh hh6 hrd2 hcutw hbe hhn hm hzz hw4 hb4 bp4 hs4 bz4 br4 lo4 hb3 hpt hzz2
    gi_wp2_with fail
    rw [← Hw4.out.1, ← Hw4.out.2]
    refine wpIn_wide.2 ?_
    go_still_tail 4, (by kernel_rfl)
    change wpList _ _ _ _ _ w4.drew
    go_wp2_with fail
    have hmd : Below w4.heap.size w4 w4.drew := (Below.refl _ _).drew
    refine Calls.mono (blocks_any A' m c' xp yp w4.drew) ?_
    rintro e w5 ⟨rfl, hl5, hk5, hs5, hb5⟩
    obtain ⟨bp4, bz4, br4, lo4, hs4, hpt, hw4, hzz2⟩ := H4.out
    have hb5' : Below w4.heap.size w4 w5 := ⟨hb5.os, hb5.tape, hb5.output, hb5.size, hb5.block⟩
    obtain ⟨D, hD⟩ : ∃ D, D = w4.drew.heap.size := ⟨_, rfl⟩
    rw [← hD] at hl5 hk5 ⊢
    have hD4 : D = zz + 1 := by rw [hD]; exact hs4
    have hs5' : w5.heap.size = D + 2 := by rw [hs5, hD]
    have Hd := Lib.hid (show w.heap.size ≤ r ∧ r < z ∧ z < zz ∧ D = zz + 1 ∧ w5.heap.size = D + 2 by have := Hr.out; have := H2.out.2.2.2.2.1; omega)
    have h0 : GInv w f (headE f) h r z zz (D + 1) w5.heap.size (.slice A' m c') [] w5 := ⟨⟨_, by simpa [csOf, blksL] using bz4.below hb5', World.ownsRow_nil _ _ _ _⟩, ⟨xp, yp, (hb5'.block _ bp4.lt).trans bp4, hpt⟩, br4.below hb5', hk5, lo4.trans (hb5'.mono lo4.size), Nat.le_refl _⟩
    have hr5 : Rd w5 w.heap.size .u8 A' m b' := H2.out.2.2.2.2.2.2.2.2.2.2.2.1.below h0.low
    have H0 := Lib.hid (⟨h0, hl5, hk5, hr5⟩ : _ ∧ _ ∧ _ ∧ _)
    have Hpt := Lib.hid (show Ga.Pt xp yp (headE f) from hpt)
    have Hbb := Lib.hid (show Byt b' from by
      have h1 := H2.out.2.2.2.2.2.2.2.2.2.2.2.2.1
      intro x hx
      exact Hl.out.2.1 x (by rw [h1]; exact List.mem_append_right _ hx))
    have Hbb2 := Lib.hid (show b'.length ≤ 1000000 ∧ h ≤ 6 from by
      have h1 := congrArg List.length H2.out.2.2.2.2.2.2.2.2.2.2.2.2.1
      have h2 := H2.out.2.2.2.2.2.2.2.2.2.1
      rw [List.length_append, Hl.out.2.2] at h1
      omega)
    clear bp4 bz4 br4 lo4 hs4 hw4 hzz2 hb5 hb5' hD hD4 hs5 hs5' h0 hl5 hk5 hr5 hmd cp hpt
    go_wp2_with fail
    gi_wp2_with fail
    refine range_W 9 rfl (by decide) (gf := 165) (lb := #[.pointer (some ⟨D, 0, none⟩), .pointer (some ⟨D + 1, 0, none⟩)]) rfl trivial (enters_of Tryz.func165 (by kernel_rfl) rfl)
      (blocks_seq D (D + 1) w.heap.size (.inl Hpt.out) (headE_in f) hm9 w5 (by have := Hd.out; omega) H0.out.2.1 H0.out.2.2.1 H0.out.2.2.2 Hbb.out hmc) (fun h h' => h.trans h') (KpBTw.put (by have := Hd.out; omega) (by have := Hd.out; omega)) (Below.refl _ _) (fun _ => rfl)
      (GInv w f (headE f) h r z zz (D + 1) w5.heap.size (.slice A' m c')) (fun _ _ _ => False) (GInv.own (by have := Hd.out; omega) (by have := Hd.out; omega) (by have := Hd.out; omega) (by have := Hd.out; omega) (by have := Hd.out; omega))
      (fun _ _ _ _ _ h _ _ => h) H0.out.1
      (GVar w5.heap.size fun bx d => { tmps := #[.slice A n c, undef, .pointer (some ⟨r, 0, none⟩), .complex .f64 0 0, .int .i64 0, .int .i64 f, .int .i64 h, .bool true, .pointer (some ⟨z, 0, none⟩), .pointer (some ⟨zz, 0, none⟩), .pointer (some ⟨bx, 0, none⟩), .tuple #[.int .i64 f, .int .i64 h, .bool true], .slice A n c, .tuple #[.int .i64 f, .int .i64 h, .bool true], .int .i64 f, .int .i64 h, .bool true, .bool true, .bool false, undef, .int .i64 f, .int .i64 h, .agg #[.int .i64 f, .slice none 0 0, .int .i64 h], .slice A n c, .int .i64 h, .slice A h c, .slice (some ⟨z + 1, 0, none⟩) 1 1, .complex .f64 xp yp, .complex .f64 xp yp, .slice A n c, .int .i64 h, .slice A' m c', .func (.func 165) #[] #[.pointer (some ⟨D, 0, none⟩), .pointer (some ⟨D + 1, 0, none⟩)], .agg #[.slice d.A d.l.length d.c, .int .i64 d.m, .complex .f64 d.x d.y], undef, undef, undef, undef, undef, undef, undef, undef, undef, undef, undef, undef, undef, undef, undef, undef], defers := [] })
      GVar.put ?assign ?body ?done ?stop
    case assign =>
      intro lp pre d W hI hok
      gi_wp2
      have hb := (Below.refl W.heap.size W).alloc (Nat.le_refl _) (.cells #[.slice d.A d.l.length d.c, .int .i64 d.m, .complex .f64 d.x d.y] 183)
      have hsz := hI.size
      have hd := Hd.out
      obtain ⟨v, hv, hrow⟩ := hI.bz
      obtain ⟨xq, yq, hbp, hpq⟩ := hI.bp
      exact ⟨(KeepsOthers.alloc _ _).from _, KpBTw.below hb (by omega) (by omega), ⟨⟨v, hv.below hb, hrow.alloc _⟩, ⟨xq, yq, hbp.alloc _, hpq⟩, hI.br.below hb, hI.bs.alloc _, hI.low.trans (hb.mono (by omega)), by have := hb.size; omega⟩, W.heap.size, BoxK.new W _ _ _ _, hsz, rfl, hok.2.2.2.2.2.on hb hb.size⟩
    case body =>
      rintro lp pre d a' W hI ⟨bx, hbx, hDx, rfl, hes⟩ ⟨_, hso, hso2, hdm, hdpt, hdc, _⟩
      obtain ⟨dA, dc, dl, dm, dx, dy⟩ := d
      dsimp only at hbx hes hso2 hdm hdpt hdc
      dsimp only
      obtain ⟨k0, k1, k2⟩ := hbx.cells
      obtain ⟨v, hv, hrow⟩ := hI.bz
      obtain ⟨xq, yq, hbp, hpq⟩ := hI.bp
      obtain ⟨N, hN⟩ : ∃ N, (csOf pre).flatten.length = N := ⟨_, rfl⟩
      obtain ⟨V, hV⟩ : ∃ V, (blksL (headE f) (csOf pre)).length = V := ⟨_, rfl⟩
      rw [hN] at hrow
      rw [hV] at hv
      have hgood2 := hso2.good
      rw [csOf_snoc] at hgood2
      have hdg : GoodC dl := hgood2 dl (by simp)
      have hroom := hso2.room
      have hlenb := Hbb2.out
      have hNle : N ≤ 4000000 := by
        have h1 := flat_le hso.good
        have h2 := blks_ge (p := headE f) hso.good
        have h3 := hso.room
        rw [hN] at h1
        omega
      obtain ⟨hsn1, hsn2⟩ := blks_snoc (headE f) (csOf pre) dl
      have hV2 : (blksL (headE f) (csOf (pre ++ [⟨dA, dc, dl, dm, dx, dy⟩]))).length = V + dm := by
        rw [csOf_snoc, hsn1, List.length_append, hV, hdm]
      rw [hV2] at hroom
      obtain ⟨L, hL⟩ : ∃ L, dl.length = L := ⟨_, rfl⟩
      rw [hL] at hbx k0 hes hdc
      have hL4 : 1 ≤ L ∧ L ≤ 4 := by rw [← hL]; exact ⟨hdg.1, hdg.2.1⟩
      obtain ⟨A4, c4, rfl, _⟩ := own_slice hrow
      obtain ⟨d0, d1, d2⟩ := hv.cells
      have hesc := hes
      obtain ⟨eb, eo, rfl⟩ : ∃ eb eo, dA = some ⟨eb, eo, none⟩ := by
        obtain ⟨b1, o1, e1, _⟩ := hes.2 (by omega)
        exact ⟨b1, o1, e1⟩
      have hcs := Row.cells (by decide) EnP.len hes
      have hwv : wrap64 ((h : Int) + (V : Int) + (dm : Int)) = (h : Int) + (V : Int) + (dm : Int) := by unfold wrap64; omega
      have HI := Lib.hid (⟨hI, hrow, hv, hN, hV, hL, hbp, hpq, hcs, hbx, hdpt, hV2, hdg⟩ : _ ∧ _ ∧ _ ∧ _ ∧ _ ∧ _ ∧ _ ∧ _ ∧ _ ∧ _ ∧ _ ∧ _ ∧ _)
      clear hI hrow hv hN hV hL hbp hpq hcs hbx hdpt hV2 hdg hso hso2 hdm hes hesc hgood2 hroom hlenb hsn1 hsn2
      gi_wp2_with (gi_at_builtin; refine hold ?_)
      refine unhold (wpListIn_append_own _ rfl _ _ 22 rfl w.heap.size 41 j0 (.agg #[.int .i64 0, .int .i64 0, .int .i64 0]) 3 24 Tryz.underlying22 hj hy0 hy1 hy2 rfl (by decide) _ _ _ rfl HI.out.2.1 ⟨eb, eo, none⟩ L dc (dl.flatMap EnP.cs) rfl (by rw [flat_length _ EnP.len, HI.out.2.2.2.2.2.1]) HI.out.2.2.2.2.2.2.2.2.1 (fun u hu => by obtain ⟨e, _, hu⟩ := List.mem_flatMap.1 hu; exact EnP.one e u hu) (by unfold maxLen; omega) (by omega) HI.out.1.low.size ?_)
      intro v' w4' hown' hgrow _
      obtain ⟨A5, c5, rfl, _⟩ := own_slice hown'
      obtain ⟨hI, hrow, hv, hN, hV, hL, hbp, hpq, hcs, hbx, hdpt, hV2, hdg⟩ := HI.out
      have hd := Hd.out
      have zv : BoxCTw w4' z f (.slice A4 N c4) ((h + V : Nat) : Int) := (hgrow.block z hv.lt (boxC_not_row hv hrow)).trans hv
      have zb : BoxCTw w4' r 0 (.slice none 0 0) 0 := (hgrow.block r hI.br.lt (boxC_not_row hI.br hrow)).trans hI.br
      have zp : Boxed w4' zz 68 (.complex .f64 xq yq) := hbp.kept hgrow (hbp.not_row (by decide) hrow)
      have zs : Boxed w4' (D + 1) 23 (.slice A' m c') := hI.bs.kept hgrow (hI.bs.not_row (by decide) hrow)
      have zk : BoxK w4' bx (.slice (some ⟨eb, eo, none⟩) L dc) dm dx dy := (hgrow.block bx hbx.lt (boxK_not_row hbx hrow)).trans hbx
      have lo4 : Below w.heap.size w w4' := hI.low.grown hgrow hI.low.size fun j ej => (hrow.lt j ej).1
      have kf4 : KeepsFrom w5.heap.size W w4' := (keeps_grown hrow hgrow).from _
      have kp4 : ∀ k, k < w.heap.size → w4'.heap[k]? = W.heap[k]? := fun k hk => hgrow.block k (by have := hI.low.size; omega) (fun e => by have := (hrow.lt k e.symm).1; omega)
      obtain ⟨x1, hx1⟩ : ∃ x, x = w4'.setCell ⟨z, 1, none⟩ (.slice A5 (N + L) c5) := ⟨_, rfl⟩
      have zv1 : BoxCTw x1 z f (.slice A5 (N + L) c5) ((h + V : Nat) : Int) := by rw [hx1]; exact zv.s1 _
      have zk1 : BoxK x1 bx (.slice (some ⟨eb, eo, none⟩) L dc) dm dx dy := by rw [hx1]; exact zk.other (by omega) _ _
      obtain ⟨x2, hx2⟩ : ∃ x, x = x1.setCell ⟨z, 2, none⟩ (.int .i64 ((h : Int) + (V : Int) + (dm : Int))) := ⟨_, rfl⟩
      have zv2 : BoxCTw x2 z f (.slice A5 (N + L) c5) ((h : Int) + (V : Int) + (dm : Int)) := by rw [hx2]; exact zv1.s2 _
      have zk2 : BoxK x2 bx (.slice (some ⟨eb, eo, none⟩) L dc) dm dx dy := by rw [hx2]; exact zk1.other (by omega) _ _
      have zp2 : Boxed x2 zz 68 (.complex .f64 xq yq) := by rw [hx2, hx1]; exact Boxed.other_i (Boxed.other_i zp (by omega) _) (by omega) _
      obtain ⟨x3, hx3⟩ : ∃ x, x = x2.setCell ⟨zz, 0, none⟩ (.complex .f64 dx dy) := ⟨_, rfl⟩
      have hown3 : x3.ownsRow w.heap.size 41 3 (.slice A5 (N + L) c5) (N + L) (((csOf pre).flatten ++ dl).flatMap EnP.cs) := by
        have r0 : w4'.ownsRow w.heap.size 41 3 (.slice A5 (N + L) c5) (N + L) (((csOf pre).flatten ++ dl).flatMap EnP.cs) := by rw [List.flatMap_append]; exact hown'
        have r1 := own_setC zv r0 (i := 1) (.slice A5 (N + L) c5)
        rw [← hx1] at r1
        have r2 := own_setC zv1 r1 (i := 2) (.int .i64 ((h : Int) + (V : Int) + (dm : Int)))
        rw [← hx2] at r2
        rw [hx3]
        exact r2.kept (grownBy_setCell' x2 zz _) (.inr (zp2.not_row (by decide) r2).symm)
      have HX := Lib.hid (⟨zv, zb, zp, zs, lo4, kf4, kp4, hx1, hx2, hx3, hown3, zv2, zp2⟩ : _ ∧ _ ∧ _ ∧ _ ∧ _ ∧ _ ∧ _ ∧ _ ∧ _ ∧ _ ∧ _ ∧ _ ∧ _)
      obtain ⟨a0, a1, a2⟩ := zv.cells
      have af1 := zv.frozen 1
      obtain ⟨e0, e1, e2⟩ := zv1.cells
      have ef2 := zv1.frozen 2
      obtain ⟨m0, m1, m2⟩ := zk1.cells
      obtain ⟨n0, n1, n2⟩ := zk2.cells
      have pf := zp2.frozen
      have pc := zp2.cell
      rw [hx2, hx1] at n0 n1 n2 pf pc
      rw [hx1] at e0 e1 e2 ef2 m0 m1 m2
      clear zv zb zp zs zk lo4 kf4 kp4 hx1 hx2 hx3 hown3 zv1 zk1 zv2 zk2 zp2 hown' hgrow hI hrow hv hN hV hL hbp hpq hcs hbx hdpt hV2 hdg hd d0 d1 d2 k0 k1 k2
      gi_wp2_with fail
      obtain ⟨zv, zb, zp, zs, lo4, kf4, kp4, hx1, hx2, hx3, hown3, zv2, zp2⟩ := HX.out
      obtain ⟨hI, hrow, hv, hN, hV, hL, hbp, hpq, hcs, hbx, hdpt, hV2, hdg⟩ := HI.out
      have hd := Hd.out
      rw [← hx1, ← hx2, ← hx3]
      have g1 := setCell_grown8 w4' z 1 (.slice A5 (N + L) c5)
      have g2 := setCell_grown8 x1 z 2 (.int .i64 ((h : Int) + (V : Int) + (dm : Int)))
      have g3 := setCell_grown8 x2 zz 0 (.complex .f64 dx dy)
      rw [← hx1] at g1
      rw [← hx2] at g2
      rw [← hx3] at g3
      have bs3 : Boxed x3 (D + 1) 23 (.slice A' m c') := by rw [hx3, hx2, hx1]; exact Boxed.other_i (Boxed.other_i (Boxed.other_i zs (by omega) _) (by omega) _) (by omega) _
      have br3 : BoxCTw x3 r 0 (.slice none 0 0) 0 := by rw [hx3, hx2, hx1]; exact BoxCTw.other_i (BoxCTw.other_i (BoxCTw.other_i zb (by omega) _) (by omega) _) (by omega) _
      have lo3 : Below w.heap.size w x3 := by rw [hx3, hx2, hx1]; exact ((lo4.setCell (p := ⟨z, 1, none⟩) (by show w.heap.size ≤ z; omega) _).setCell (p := ⟨z, 2, none⟩) (by show w.heap.size ≤ z; omega) _).setCell (p := ⟨zz, 0, none⟩) (by show w.heap.size ≤ zz; omega) _
      have kf3 : KeepsFrom w5.heap.size W x3 := ((kf4.trans (KeepsFrom.of_grownBy (B := w5.heap.size) g1 (fun k e => by cases e; omega))).trans (KeepsFrom.of_grownBy (B := w5.heap.size) g2 (fun k e => by cases e; omega))).trans (KeepsFrom.of_grownBy (B := w5.heap.size) g3 (fun k e => by cases e; omega))
      have kp3 : ∀ k, k < w.heap.size → x3.heap[k]? = W.heap[k]? := fun k hk => by
        rw [hx3, hx2, hx1]
        exact (Below.heap_setCell _ _ _ k (by show k ≠ zz; omega)).trans ((Below.heap_setCell _ _ _ k (by show k ≠ z; omega)).trans ((Below.heap_setCell _ _ _ k (by show k ≠ z; omega)).trans (kp4 k hk)))
      have hflat : (csOf (pre ++ [(⟨some ⟨eb, eo, none⟩, dc, dl, dm, dx, dy⟩ : HB)])).flatten = (csOf pre).flatten ++ dl := by rw [csOf_snoc]; simp
      refine ⟨kf3, ⟨kp3, bs3.trans hI.bs.symm, kf3.size⟩, ⟨⟨.slice A5 (N + L) c5, ?_, ?_⟩, ⟨dx, dy, ?_, hdpt⟩, br3, bs3, lo3, Nat.le_trans hI.size kf3.size⟩⟩
      · rw [hV2, hx3, show ((h + (V + dm) : Nat) : Int) = (h : Int) + (V : Int) + (dm : Int) by omega]; exact BoxCTw.other_i zv2 (by omega) _
      · rw [hflat, List.length_append, hN, hL]; exact hown3
      · rw [hx3]; exact zp2.set _
    case stop =>
      rintro D' cc pre W _ h _
      exact h.elim
    case done =>
      rintro D' ys W hD2 ⟨rest, hys⟩ hI hK
      obtain ⟨v, hv, hrow⟩ := hI.bz
      obtain ⟨xe, ye, hbp, hpq⟩ := hI.bp
      obtain ⟨A4, c4, rfl, hc4⟩ := own_slice hrow
      obtain ⟨N, hN⟩ : ∃ N, (csOf ys).flatten.length = N := ⟨_, rfl⟩
      obtain ⟨V, hV⟩ : ∃ V, (blksL (headE f) (csOf ys)).length = V := ⟨_, rfl⟩
      rw [hN] at hrow hc4 hv
      rw [hV] at hv
      have HI := Lib.hid (⟨hI, hrow, hN, hV, hc4, hpq, hys, hv, hbp⟩ : _ ∧ _ ∧ _ ∧ _ ∧ _ ∧ _ ∧ _ ∧ _ ∧ _)
      have HK := Lib.hid (⟨hK, hD2⟩ : _ ∧ _)
      clear hI hK hD2 hv hrow hN hV hc4 hpq hys hbp
      gi_wp2_with fail
      refine wpIn_wide.2 ?_
      refine wp_region_noPanic ?_
      obtain ⟨hI, hrow, hN, hV, hc4, hpq, hys, hv, hbp⟩ := HI.out
      have hd := Hd.out
      have HS := Lib.hid (⟨hbp.cell, hv⟩ : W.drew.cell? ⟨zz, 0, none⟩ = some (.complex .f64 xe ye) ∧ BoxCTw W.drew z f (.slice A4 N c4) ((h + V : Nat) : Int))
      have hbr : BoxCTw W.drew r 0 (.slice none 0 0) 0 := hI.br
      obtain ⟨w8, hw8⟩ : ∃ x, x = ((W.drew.setCell ⟨r, 0, none⟩ (.int .i64 f)).setCell ⟨r, 1, none⟩ (.slice A4 N c4)).setCell ⟨r, 2, none⟩ (.int .i64 ((h + V : Nat) : Int)) := ⟨_, rfl⟩
      have c8 : w8.cell? ⟨zz, 0, none⟩ = some (.complex .f64 xe ye) := by
        rw [hw8, cell_set_ne (by show zz ≠ r; omega), cell_set_ne (by show zz ≠ r; omega), cell_set_ne (by show zz ≠ r; omega)]
        exact HS.out.1
      have z8 : BoxCTw w8 z f (.slice A4 N c4) ((h + V : Nat) : Int) := by rw [hw8]; exact BoxCTw.other_i (BoxCTw.other_i (BoxCTw.other_i HS.out.2 (by omega) _) (by omega) _) (by omega) _
      obtain ⟨e0, e1, e2⟩ := hI.br.cells
      have f0 := hI.br.frozen 0
      have f1 := hI.br.frozen 1
      have f2 := hI.br.frozen 2
      have b1 := hI.br.s0 f
      obtain ⟨-, g1, -⟩ := b1.cells
      have gf1 := b1.frozen 1
      obtain ⟨-, -, g2⟩ := (b1.s1 (.slice A4 N c4)).cells
      have gf2 := (b1.s1 (.slice A4 N c4)).frozen 2
      clear b1
      clear hI hrow hN hV hc4 hpq hys hv hbp hbr
      refine wp_region_held_drew (S := fun W1 => W1.cell? ⟨zz, 0, none⟩ = some (.complex .f64 xe ye) ∧ BoxCTw W1 z f (.slice A4 N c4) ((h + V : Nat) : Int)) (by kernel_rfl) HS.out (fun hHeld => ?_)
      refine take_at (i := 0) (d := 48) (oi := ?o1) (v := ?v1) ?hi1 ?hd1 (by kernel_rfl) (by kernel_rfl) (by kernel_rfl) ?hw1 ?hy1 ?hq1 (by assumption) ?r1
      case hi1 => (simp only [List.getElem?_toArray, List.getElem?_cons_zero]; rfl)
      case hd1 => rfl
      case hw1 => rfl
      case hy1 => ((intro w hSw; obtain ⟨s0, s1, s2⟩ := hSw.2.cells; clear hSw; go_simp) <;> (with_reducible rfl))
      case hq1 => exact fun _ _ _ h => h
      simp only [List.set_cons_succ, List.set_cons_zero]
      refine take_at (i := 1) (d := 49) (oi := ?o2) (v := ?v2) ?hi2 ?hd2 (by kernel_rfl) (by kernel_rfl) (by kernel_rfl) ?hw2 ?hy2 ?hq2 (by assumption) ?r2
      case hi2 => (simp only [List.getElem?_toArray, List.getElem?_cons_succ, List.getElem?_cons_zero]; rfl)
      case hd2 => rfl
      case hw2 => rfl
      case hy2 => ((intro w hSw; have s0 := hSw.1; clear hSw; go_simp) <;> (with_reducible rfl))
      case hq2 => exact fun _ _ _ h => h
      simp only [List.set_cons_succ, List.set_cons_zero]
      refine wpAnyH_ready (rs := [2]) (by kernel_rfl) (by simp) ?_
      refine br_store (i := 2) (oi := ?o3) (w' := w8) ?hi3 ?hd3 ?hw3 ?he3 ⟨c8, z8⟩ ?hc3
      case hi3 => (simp only [List.getElem?_toArray, List.getElem?_cons_succ, List.getElem?_cons_zero]; rfl)
      case hd3 => rfl
      case hw3 => rfl
      case he3 => (rw [hw8]; clear hw8; go_simp)
      intro hHeld
      refine take_at (i := 3) (d := 3) (oi := ?o4) (v := ?v4) ?hi4 ?hd4 (by kernel_rfl) (by kernel_rfl) (by kernel_rfl) ?hw4 ?hy4 ?hq4 (by assumption) ?r4
      case hi4 => (simp only [List.getElem?_toArray, List.getElem?_cons_succ, List.getElem?_cons_zero]; rfl)
      case hd4 => rfl
      case hw4 => rfl
      case hy4 => ((intro w hSw; (try dsimp only at hSw); go_simp) <;> (with_reducible rfl))
      case hq4 => exact fun _ _ _ h => h
      simp only [List.set_cons_succ, List.set_cons_zero]
      refine take_at (i := 4) (d := 4) (oi := ?o5) (v := ?v5) ?hi5 ?hd5 (by kernel_rfl) (by kernel_rfl) (by kernel_rfl) ?hw5 ?hy5 ?hq5 (by assumption) ?r5
      case hi5 => (simp only [List.getElem?_toArray, List.getElem?_cons_succ, List.getElem?_cons_zero]; rfl)
      case hd5 => rfl
      case hw5 => rfl
      case hy5 => ((intro w hSw; (try dsimp only at hSw); go_simp) <;> (with_reducible rfl))
      case hq5 => exact fun _ _ _ h => h
      simp only [List.set_cons_succ, List.set_cons_zero]
      refine wpAnyH_done (by kernel_rfl) ?_ _
      refine NoPanic.normal ?_
      clear c8 z8 e0 e1 e2 f0 f1 f2 g1 gf1 g2 gf2 hHeld
      gi_wp2_with fail
      rw [hw8]
      clear hw8
      obtain ⟨hI, hrow, hN, hV, hc4, hpq, hys, hv, hbp⟩ := HI.out
      have hbr : BoxCTw W.drew r 0 (.slice none 0 0) 0 := hI.br
      have b1 := hbr.s0 f
      have b2 := b1.s1 (.slice A4 N c4)
      have b3 := b2.s2 ((h + V : Nat) : Int)
      have r0 : W.drew.ownsRow w.heap.size 41 3 (.slice A4 N c4) N ((csOf ys).flatten.flatMap EnP.cs) := hrow
      have r1 := own_setC hbr r0 (i := 0) (.int .i64 f)
      have r2 := own_setC b1 r1 (i := 1) (.slice A4 N c4)
      have r3 := own_setC b2 r2 (i := 2) (.int .i64 ((h + V : Nat) : Int))
      have hz := Hr.out.1
      have lo3 := ((hI.low.drew.setCell (p := ⟨r, 0, none⟩) hz (.int .i64 f)).setCell (p := ⟨r, 1, none⟩) hz (.slice A4 N c4)).setCell (p := ⟨r, 2, none⟩) hz (.int .i64 ((h + V : Nat) : Int))
      have hDr : r < D' ∧ w.heap.size ≤ D' := by have := HK.out.2; omega
      have hK3 : (((W.drew.setCell ⟨r, 0, none⟩ (.int .i64 f)).setCell ⟨r, 1, none⟩ (.slice A4 N c4)).setCell ⟨r, 2, none⟩ (.int .i64 ((h + V : Nat) : Int))).heap[D']? = some (.deferred (some [])) :=
        (Below.heap_setCell _ _ _ D' (by show D' ≠ r; omega)).trans ((Below.heap_setCell _ _ _ D' (by show D' ≠ r; omega)).trans ((Below.heap_setCell _ _ _ D' (by show D' ≠ r; omega)).trans HK.out.1))
      obtain ⟨-, -, -, -, -, -, -, hH, hh, -, -, -, hbe, -, -⟩ := H2.out
      refine leaves_marks (B := w.heap.size) [D'] _ ⟨by simp, fun d hd' => (by obtain rfl : d = D' := (by simpa using hd'); exact ⟨by omega, hK3⟩)⟩ fun w' hw' => ⟨.tuple #[.agg #[.int .i64 f, .slice A4 N c4, .int .i64 ((h + V : Nat) : Int)], .complex .f64 xe ye, .int .i64 0], ?_, .inl ⟨f, csOf ys, rest, A4, c4, N, h + V, xe, ye, ⟨hH.1, b', hbe, hys⟩, rfl, hN, ?_, hc4, ?_, hpq⟩, lo3.trans hw'.1⟩
      · have b4 : BoxCTw w' r f (.slice A4 N c4) ((h + V : Nat) : Int) := hw'.2 _ _ b3 rfl
        obtain ⟨d0, d1, d2⟩ := b4.cells
        clear b4 b3 b2 b1 r0 r1 r2 r3 lo3 hK3 hw' hI hrow hN hV hc4 hpq hys hv hbp hbr hH hh hbe hDr hd HI HK HS H0 H2 H4 Hd Hr Hl hrun hi hz0 hz1 hz2 hj hy0 hy1 hy2
        simp [results, Tryz.results148, go_sem, d0, d1, d2]
      · rw [List.length_append, hV, ← hh]
      · rw [← hN]
        have h1 := Row.of_own (by decide) EnP.len (own_marksTw r3 hw')
        rw [← hN] at h1
        exact h1
  · have hv : True := trivial
    obtain ⟨d0, d1, d2⟩ := b1.cells
    have f0 := b1.frozen 0
    have f1 := b1.frozen 1
    have f2 := b1.frozen 2
    have H := Lib.hid (⟨b1, hB1, hH⟩ : _ ∧ _ ∧ _)
    clear hv b0 hB0 hb1 b1 hB1 hH
    gi_wp2_with fail
    have hz := Hr.out.1
    have b3 := ((H.out.1.s0 0).s1 (.slice none 0 0)).s2 0
    have hB3 := ((H.out.2.1.setCell (p := ⟨r, 0, none⟩) hz (.int .i64 0)).setCell (p := ⟨r, 1, none⟩) hz (.slice none 0 0)).setCell (p := ⟨r, 2, none⟩) hz (.int .i64 0)
    refine leaves_marks (B := w.heap.size) [] _ ⟨List.nodup_nil, fun d hd => by cases hd⟩ fun w' hw' => ⟨.tuple #[.agg #[.int .i64 0, .slice none 0 0, .int .i64 0], .complex .f64 0 0, .int .i64 11], ?_, .inr ⟨H.out.2.2, rfl⟩, hB3.trans hw'.1⟩
    have b4 : BoxCTw w' r 0 (.slice none 0 0) 0 := hw'.2 _ _ b3 rfl
    clear d0 d1 d2
    obtain ⟨d0, d1, d2⟩ := b4.cells
    simp [results, Tryz.results148, go_sem, d0, d1, d2]

/-- Any call of scan of a drawn text, of at most a million bytes. -/
theorem scan_anyTw (A : Option Addr) (n c : Nat) (b : List Int) (w : World) (hr : Rd w w.heap.size .u8 A n b) (hb : Byt b) (hnc : n ≤ c) (hn : n ≤ 1000000) :
    Calls Tryz.prog 148 #[.slice A n c] w (ScanTTw w b) := callsIn_wide.1 (scan_inTw A n c b w hr hb hnc hn)

end Go.Proofs.YtcpdjhkpmaamdaaGreat
