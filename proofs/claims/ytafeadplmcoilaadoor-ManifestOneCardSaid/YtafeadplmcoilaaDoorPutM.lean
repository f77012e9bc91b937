/-
  manifest.Put: its contract.
-/
import Derived.Test.YtafeadplmcoilaaDoorNumsI
import Derived.Test.YtafeadplmcoilaaDoorChkM
import Derived.Test.YtafeadplmcoilaaDoorKeepM
import Derived.Test.YtafeadplmcoilaaDoorCrcM
import Derived.Test.YtafeadplmcoilaaDoorNumT
namespace Go.Proofs.YtafeadplmcoilaaDoor
open Go.RowKit Go.Shelf Go.Maps
set_option linter.unusedVariables false
set_option linter.unusedSimpArgs false

attribute [local go_sem] Oper.semAt_some

/-- What Put answers. -/
def PutT (m : ManP) (w : World) (e : Ending) (w' : World) : Prop :=
  (∃ A q c L er, e = .returned (.tuple #[.slice A q c, .int .i64 er]) ∧ PutIs m L er ∧ L.length = q ∧ q ≤ c ∧ Rd w' w'.heap.size .u8 A q L) ∧ Below w.heap.size w w'
theorem Boxed.appended0 {W w1 : World} {n₀ B : Nat} {t e : TypeId} {size : Nat} {v v' : Value} {k m : Nat} {xs ys : List Value}
    (hv : Boxed W B t v) (hte : t ≠ e) (hrow : W.ownsRow n₀ e size v k xs) (hn₀ : n₀ ≤ W.heap.size) (hB : n₀ ≤ B)
    (hown' : w1.ownsRow n₀ e size v' m ys) (hgrow : W.grownBy w1 v.ownBlock) :
    Boxed w1 B t v ∧ Boxed (w1.setCell ⟨B, 0, none⟩ v') B t v' ∧ (w1.setCell ⟨B, 0, none⟩ v').ownsRow n₀ e size v' m ys ∧ KeepsOthers W (w1.setCell ⟨B, 0, none⟩ v') ∧ Below n₀ W (w1.setCell ⟨B, 0, none⟩ v') := by
  have hv1 : Boxed w1 B t v := hv.kept hgrow (hv.not_row hte hrow)
  refine ⟨hv1, hv1.set v', hown'.kept (grownBy_setCell' w1 B v') (.inr (hv1.not_row hte hown').symm), ?_, ?_⟩
  · refine (KeepsOthers.of_grownBy hgrow fun j o ej hj => ?_).trans (KeepsOthers.setCell _ _ _)
    rcases hrow.2 with ⟨rfl, _⟩ | ⟨g, cap, cur, rfl, _, hgb, _⟩
    · simp [Value.ownBlock] at ej
    · obtain rfl : g = j := by simpa [Value.ownBlock] using ej
      rw [hgb] at hj; cases hj; rfl
  · refine ((Below.refl n₀ W).grown hgrow hn₀ fun j ej => ?_).setCell (p := ⟨B, 0, none⟩) hB v'
    rcases hrow.2 with ⟨rfl, _⟩ | ⟨g, cap, cur, rfl, hb, _, _⟩
    · simp [Value.ownBlock] at ej
    · obtain rfl : g = j := by simpa [Value.ownBlock] using ej
      exact hb
theorem marks_cellM {B : Nat} {w w' : World} {a : Addr} {v : Value} (h : CellsKept B w w') (hc : w.cell? a = some v) : w'.cell? a = some v := by
  unfold World.cell? at hc
  cases ho : w.heap[a.block]? with
  | none => rw [ho] at hc; cases hc
  | some o =>
    have hcc : o.isCells = true := by
      rw [ho] at hc
      cases o <;> first | rfl | (simp at hc)
    refine (World.cell?_of_block (a := a) ((h.2 _ _ ho hcc).trans ho.symm)).trans ?_
    unfold World.cell?
    exact hc
/-- The text so far. -/
def textN (pre : List Int) : List Int := 77 :: Nu.shortsOf pre
theorem textN_snoc (pre : List Int) (x : Int) : textN (pre ++ [x]) = textN pre ++ Nu.shortOf x := by
  rw [textN, Nu.shortsOf_snoc]
  rfl
theorem nums_mem {m : ManP} (hm : May m) {pre : List Int} {x : Int} (h : pre ++ [x] <+: numsM m) : Nu.isNum x = true := List.all_eq_true.1 (nums_all hm) x (h.subset (by simp))
theorem textN_len {m : ManP} (hm : May m) {pre : List Int} (h : pre <+: numsM m) : (textN pre).length ≤ 1231 := by
  obtain ⟨r, hr⟩ := h
  have h1 := (manT_len hm).2
  have e : manT m = textN pre ++ Nu.shortsOf r := by rw [manT, ← hr, shortsOf_append]; rfl
  rw [e, List.length_append] at h1
  omega
theorem rowB_ne {t : TypeId} (hte : 5 ≠ t) {W : World} {base size : Nat} {v : Value} {k : Nat} {xs : List Value} (h : W.ownsRow base 5 size v k xs) {row : Option Nat} (hr : ∀ r, row = some r → ∃ o : Obj, W.heap[r]? = some o ∧ (o.isCells = false ∨ ∃ cur fr, o = .cells cur t fr)) : v.ownBlock = none ∨ v.ownBlock ≠ row := row_neF hte h hr
/-- Between two rounds. -/
structure PInv (w : World) (m : ManP) (u : Value) (z zF b D : Nat) (pre : List Int) (W : World) : Prop where
  bf : BoxM W zF m u
  row : ∃ v, Boxed W b 27 v ∧ W.ownsRow w.heap.size 5 1 v (textN pre).length ((textN pre).map (Value.int .u8))
  b1 : Boxed W (z + 1) 27 (.slice none 0 0)
  b2 : Boxed W (z + 1 + 1) 30 (.int .i64 0)
  low : Below w.heap.size w W
  size : D ≤ W.heap.size
theorem PInv.own {w : World} {m : ManP} {u : Value} {z zF b D : Nat} (hzz : z + 1 + 1 < D) (hz : zF < D) (hb : b < D) (hw : w.heap.size ≤ D) : OwnT 9 D (PInv w m u z zF b D) := fun _ W W' row h hg hr => by
  obtain ⟨hbf, ⟨v, hv, hrow⟩, h1, h2, hlow, hsz⟩ := h
  have hne : ∀ k, k < D → some k ≠ row := fun k hk e => by have := (hr k e.symm).1; omega
  refine ⟨(hg.block zF hbf.lt (hne _ hz)).trans hbf, ⟨v, (hg.block b hv.lt (hne _ hb)).trans hv, hrow.kept hg (rowB_ne (by decide) hrow fun r e => (hr r e).2)⟩, (hg.block _ h1.lt (hne _ (by omega))).trans h1, (hg.block _ h2.lt (hne _ (by omega))).trans h2, ?_, Nat.le_trans hsz hg.size⟩
  exact hlow.grown hg hlow.size (fun k e => by have := (hr k e).1; omega)

set_option maxRecDepth 100000 in
set_option maxHeartbeats 8000000 in
theorem put_in (m : ManP) (A : Option Addr) (n c : Nat) (w : World) (hT : Cr.Tab w) (hS : Sg w w.heap.size A n m.sg) (hn : n ≤ 1000000) (hk : MOk m) :
    CallsIn Fence.wide 4 Tryd.prog 10 #[manV m (.slice A n c)] w (PutT m w) := by
  obtain ⟨i0, hi, hz0, hz1, hz2⟩ := info_parts Cr.info_u8
  obtain ⟨w1, z, hw1, hz, b1, x1⟩ := box_new (w := w) m (.slice A n c)
  obtain ⟨w2, hw2⟩ : ∃ w2, w2 = w1.alloc (.cells #[.slice none 0 0] 27) := ⟨_, rfl⟩
  obtain ⟨w3, hw3⟩ : ∃ w3, w3 = w2.alloc (.cells #[.int .i64 0] 30) := ⟨_, rfl⟩
  have s1 : w1.heap.size = z + 1 := by rw [hw1, hz]; simp
  have s2 : w2.heap.size = z + 1 + 1 := by rw [hw2]; simp [s1]
  have s3 : w3.heap.size = z + 1 + 1 + 1 := by rw [hw3]; simp [s2]
  have b2 : Below w1.heap.size w1 w2 := by rw [hw2]; exact below_al (below_d0 w1) _
  have b3 : Below w2.heap.size w2 w3 := by rw [hw3]; exact below_al (below_d0 w2) _
  have B2 := b1.trans (b2.mono b1.size)
  have B3 := B2.trans (b3.mono B2.size)
  have x3 := (x1.below b2).below b3
  have p3 : Boxed w3 (z + 1) 27 (.slice none 0 0) := by
    have h : Boxed w2 (z + 1) 27 (.slice none 0 0) := by rw [hw2, ← s1]; exact Boxed.new w1 _ _
    exact (b3.block _ h.lt).trans h
  have r3 : Boxed w3 (z + 1 + 1) 30 (.int .i64 0) := by rw [hw3, ← s2]; exact Boxed.new w2 _ _
  obtain ⟨c0, c1, c2, c3, c4, c5⟩ := x3.cells
  have HW := Lib.hid (⟨hw1, hw2, hw3, hz, s3, B3, x3, p3, r3⟩ : _ ∧ _ ∧ _ ∧ _ ∧ _ ∧ _ ∧ _ ∧ _ ∧ _)
  have HK := Lib.hid (⟨hS, hS.len, hT, hk⟩ : _ ∧ _ ∧ _ ∧ _)
  clear b1 x1 s1 s2 s3 b2 b3 B2 B3 x3 p3 r3 hw1 hw2 hw3 hS hz hT hk c0 c1 c2 c3 c4 c5
  unfold manV
  refine callsIn_of_wp_marks Tryd.func10 rfl trivial ?_ rfl
  simp only [Tryd.ntmps10, List.size_toArray, List.length_cons, List.length_nil, Nat.reduceAdd, Nat.reduceSub, Array.replicate_succ, Array.replicate_zero, List.push_toArray, List.append_toArray, List.nil_append, List.cons_append]
  gi_wp2_with fail
  rw [← HW.out.2.2.2.1, ← HW.out.1, ← HW.out.2.1, ← HW.out.2.2.1]
  refine ⟨trivial, ?_⟩
  refine (callsIn_wide.2 (check_any m A n c w3 (HK.out.1.on HW.out.2.2.2.2.2.1 HW.out.2.2.2.2.2.1.size) hn HK.out.2.2.2)).mono ?_
  rintro e w4 ⟨⟨r, hr, rfl⟩, B4⟩
  obtain ⟨-, -, -, hz, s3, B3, x3, p3, r3⟩ := HW.out
  have x4 := x3.below B4
  have p4 : Boxed w4 (z + 1) 27 (.slice none 0 0) := (B4.block _ p3.lt).trans p3
  have r4 : Boxed w4 (z + 1 + 1) 30 (.int .i64 0) := (B4.block _ r3.lt).trans r3
  have HB4 := B3.trans (B4.mono B3.size)
  have hzs : w.heap.size ≤ z ∧ z + 1 + 1 < w4.heap.size := by have := B4.size; omega
  rcases hr with ⟨hM, rfl⟩ | ⟨hM, rfl⟩
  case inr =>
    have hcp := p4.cell
    have hfp := p4.frozen
    have hcr := r4.cell
    have hfr := r4.frozen
    have H4 := Lib.hid (⟨p4, r4, HB4, hzs, hM⟩ : _ ∧ _ ∧ _ ∧ _ ∧ _)
    clear hM x4 p4 r4 HB4 hzs hz s3 B3 x3 p3 r3 B4
    gi_wp2_with fail
    obtain ⟨p4, r4, HB4, hzs, hM⟩ := H4.out
    have p5 := p4.set (.slice none 0 0)
    have r5 : Boxed ((w4.setCell ⟨z + 1, 0, none⟩ (.slice none 0 0)).setCell ⟨z + 1 + 1, 0, none⟩ (.int .i64 2)) (z + 1 + 1) 30 (.int .i64 2) := (show Boxed (w4.setCell ⟨z + 1, 0, none⟩ (.slice none 0 0)) (z + 1 + 1) 30 (.int .i64 0) from (Below.heap_setCell _ _ _ (z + 1 + 1) (by simp)).trans r4).set _
    have p6 : Boxed ((w4.setCell ⟨z + 1, 0, none⟩ (.slice none 0 0)).setCell ⟨z + 1 + 1, 0, none⟩ (.int .i64 2)) (z + 1) 27 (.slice none 0 0) := (Below.heap_setCell _ _ _ (z + 1) (by simp)).trans p5
    have hB6 := (HB4.setCell (p := ⟨z + 1, 0, none⟩) (by show w.heap.size ≤ z + 1; omega) (.slice none 0 0)).setCell (p := ⟨z + 1 + 1, 0, none⟩) (by show w.heap.size ≤ z + 1 + 1; omega) (.int .i64 2)
    refine leaves_marks (B := w.heap.size) [] _ ⟨List.nodup_nil, fun d hd => by cases hd⟩ fun w' hw' => ⟨.tuple #[.slice none 0 0, .int .i64 2], ?_, ⟨⟨none, 0, 0, [], 2, rfl, .inr ⟨hM, rfl, rfl⟩, rfl, Nat.le_refl _, Rd.nil⟩, hB6.trans hw'.1⟩⟩
    have hb1 : Boxed w' (z + 1) 27 (.slice none 0 0) := hw'.2 _ _ p6 rfl
    have hb2 : Boxed w' (z + 1 + 1) 30 (.int .i64 2) := hw'.2 _ _ r5 rfl
    have hc1 := hb1.cell
    have hc2 := hb2.cell
    simp [results, Tryd.results10, go_sem, hc1, hc2]
  case inl =>
  obtain ⟨g, hg⟩ : ∃ g, w4.heap.size = g := ⟨_, rfl⟩
  obtain ⟨w5, hw5⟩ : ∃ w5, w5 = w4.alloc (.cells #[.int .u8 77] 5) := ⟨_, rfl⟩
  obtain ⟨w6, hw6⟩ : ∃ w6, w6 = w5.alloc (.cells #[.slice (some ⟨g, 0, none⟩) 1 1] 27) := ⟨_, rfl⟩
  have s5 : w5.heap.size = g + 1 := by rw [hw5]; simp [hg]
  have s6 : w6.heap.size = g + 1 + 1 := by rw [hw6]; simp [s5]
  have b5 : Below w4.heap.size w4 w5 := by rw [hw5]; exact below_al (below_d0 w4) _
  have b6 : Below w5.heap.size w5 w6 := by rw [hw6]; exact below_al (below_d0 w5) _
  have B6 := (HB4.trans (b5.mono HB4.size)).trans (b6.mono (HB4.trans (b5.mono HB4.size)).size)
  have B46 := b5.trans (b6.mono b5.size)
  have t6 : w6.ownsRow w.heap.size 5 1 (.slice (some ⟨g, 0, none⟩) 1 1) (textN []).length ((textN []).map (Value.int .u8)) := by
    have h : w5.ownsRow w.heap.size 5 1 (.slice (some ⟨g, 0, none⟩) 1 1) (textN []).length ((textN []).map (Value.int .u8)) := by
      rw [hw5]
      exact own_litM w4 [.int .u8 77] 1 hg.symm HB4.size (by unfold maxLen; omega) rfl
    rw [hw6]
    exact h.alloc _
  have q6 : Boxed w6 (g + 1) 27 (.slice (some ⟨g, 0, none⟩) 1 1) := by rw [hw6, ← s5]; exact Boxed.new w5 _ _
  have p6 : Boxed w6 (z + 1) 27 (.slice none 0 0) := (B46.block _ p4.lt).trans p4
  have r6 : Boxed w6 (z + 1 + 1) 30 (.int .i64 0) := (B46.block _ r4.lt).trans r4
  have x6 := x4.below B46
  obtain ⟨d0, d1, d2, d3, d4, d5⟩ := x4.cells
  obtain ⟨c0, c1, c2, c3, c4, c5⟩ := x6.cells
  rw [hw6, hw5] at c0 c1 c2 c3 c4 c5
  have H6 := Lib.hid (⟨hw5, hw6, hg, s6, B6, t6, q6, p6, r6, x6, hzs, hM⟩ : _ ∧ _ ∧ _ ∧ _ ∧ _ ∧ _ ∧ _ ∧ _ ∧ _ ∧ _ ∧ _ ∧ _)
  have hg2 := hg
  clear hw5 hw6 s5 s6 b5 b6 B6 B46 t6 q6 p6 r6 x6 hzs hM x4 p4 r4 HB4 hz s3 B3 x3 p3 r3 B4 hg d0 d1 d2 d3 d4 d5
  gi_wp2_with fail
  try rw [hg2]
  clear hg2 c0 c1 c2 c3 c4 c5
  rw [← H6.out.1, ← H6.out.2.1]
  refine ⟨trivial, ?_⟩
  refine (callsIn_wide.2 (numbers_any m (.slice A n c) w6)).mono ?_
  rintro e w7 ⟨rfl, hb7, hs7, B7⟩
  obtain ⟨-, -, -, s6, B6, t6, q6, p6, r6, x6, hzs, hM⟩ := H6.out
  obtain ⟨zF, hzF⟩ : ∃ zF, w6.heap.size = zF := ⟨_, rfl⟩
  have t7 := own_at t6 fun k hk => B7.block k (t6.lt k hk).2
  rw [hzF] at hb7 hs7 ⊢
  have h0 : PInv w m (.slice A n c) z zF (g + 1) w7.heap.size [] w7 := ⟨hb7, ⟨_, (B7.block _ q6.lt).trans q6, t7⟩, (B7.block _ p6.lt).trans p6, (B7.block _ r6.lt).trans r6, B6.trans (B7.mono B6.size), Nat.le_refl _⟩
  have hg := H6.out.2.2.1
  have Hd := Lib.hid (show w.heap.size ≤ z ∧ z + 1 + 1 < g ∧ g + 1 + 1 = zF ∧ w7.heap.size = zF + 1 by omega)
  have H0 := Lib.hid (⟨h0, hb7, (Row.low HK.out.1 fun k hk => h0.low.block k hk : Sg w7 w.heap.size A n m.sg), hM⟩ : _ ∧ _ ∧ _ ∧ _)
  clear h0 hb7 hs7 B7 s6 B6 t6 q6 p6 r6 x6 hzs hM hzF t7 hg
  gi_wp2_with fail
  refine range_P 9 rfl (by decide) (gf := 50) (lb := #[.pointer (some ⟨zF, 0, none⟩)]) rfl trivial (enters_of Tryd.func50 (by kernel_rfl) rfl)
    (numbers_seq (tt := 9) zF w.heap.size H0.out.2.2.2 w7 (by have := Hd.out; omega) H0.out.2.1 H0.out.2.2.1) (fun h h' => h.trans h') (KpF.put (by have := Hd.out; omega) (by have := Hd.out; omega)) (Below.refl _ _) (fun _ => rfl)
    (PInv w m (.slice A n c) z zF (g + 1) w7.heap.size) (fun _ _ _ => False) (PInv.own (by have := Hd.out; omega) (by have := Hd.out; omega) (by have := Hd.out; omega) (by have := Hd.out; omega))
    (fun _ _ _ _ _ h _ _ => h) H0.out.1
    (fun d a' W => a' = { tmps := #[.agg #[.int .i64 m.nx, .int .i64 m.tm, .int .i64 m.vt, .int .i64 m.ss, .int .i64 m.sf, .slice A n c], .pointer (some ⟨z, 0, none⟩), .pointer (some ⟨z + 1, 0, none⟩), .pointer (some ⟨z + 1 + 1, 0, none⟩), .pointer (some ⟨g + 1, 0, none⟩), .int .i64 d, undef, undef, .agg #[.int .i64 m.nx, .int .i64 m.tm, .int .i64 m.vt, .int .i64 m.ss, .int .i64 m.sf, .slice A n c], .int .i64 0, .bool false, .slice (some ⟨g, 0, none⟩) 1 1, .agg #[.int .i64 m.nx, .int .i64 m.tm, .int .i64 m.vt, .int .i64 m.ss, .int .i64 m.sf, .slice A n c], .func (.func 50) #[] #[.pointer (some ⟨zF, 0, none⟩)], .int .i64 d, undef, undef, undef, undef, undef, undef, undef, undef, undef, undef, undef, undef, undef, undef], defers := [] })
    (fun d a' W l o o' h hl ho => h) ?assign ?body ?done ?stop
  case assign =>
    intro lp pre d W hI hok
    gi_wp2
    exact ⟨KeepsFrom.refl _ _, KpF.refl _ _ _, hI, by first | rfl | trivial⟩
  case body =>
    rintro lp pre d a' W hI rfl hok
    have hnum := nums_mem H0.out.2.2.2 hok
    have hlen := textN_len H0.out.2.2.2 ((List.prefix_append pre [d]).trans hok)
    obtain ⟨q, hq⟩ : ∃ q, (textN pre).length = q := ⟨_, rfl⟩
    obtain ⟨W1, hW1⟩ : ∃ W1, W1 = W.alloc (.cells #[.int .i64 d] 3) := ⟨_, rfl⟩
    obtain ⟨y, hy⟩ : ∃ y, y = W.heap.size := ⟨_, rfl⟩
    have hr1 : Rd W1 W1.heap.size .i64 (some ⟨y, 0, none⟩) 1 [d] := by rw [hW1]; exact Nu.Rd.made W .i64 3 [d] hy
    have hbe : Below W.heap.size W W1 := by rw [hW1]; exact below_al (below_d0 W) _
    have hk1 : KeepsOthers W W1 := by rw [hW1]; exact KeepsOthers.alloc _ _
    obtain ⟨R, hR⟩ : ∃ R, Nu.shortsOf [d] = R := ⟨_, rfl⟩
    have hR2 : R = Nu.shortOf d := by rw [← hR]; simp [Nu.shortsOf]
    obtain ⟨k, hkq⟩ : ∃ k, R.length = k := ⟨_, rfl⟩
    have hk0 : 1 ≤ k ∧ k ≤ 5 := by
      have h1 := Nu.isNum_iff.1 hnum
      rw [← hkq, hR2, Nu.shortOf_length]
      exact Nu.cnt_bd h1.1 h1.2
    have hSh := Nu.short_yes (some ⟨y, 0, none⟩) 1 1 [d] W1 hr1 (by omega) (by simpa [Nu.allNum] using hnum) hR hkq
    have HI := Lib.hid (⟨hI, hq, hW1, hy, hbe, hk1, hR2, hkq, hk0, hlen⟩ : _ ∧ _ ∧ _ ∧ _ ∧ _ ∧ _ ∧ _ ∧ _ ∧ _ ∧ _)
    clear hI hq hW1 hy hbe hk1 hr1 hR hR2 hkq hk0 hlen hnum hok
    gi_wp2_with fail
    rw [← HI.out.2.2.2.1, ← HI.out.2.2.1]
    refine ⟨trivial, ?_⟩
    refine (callsIn_wide.2 hSh).mono ?_
    rintro e W2 ⟨A2, c2, rfl, hr2, hb2⟩
    obtain ⟨hI, hq, hW1, hy, hbe, hk1, hR2, hkq, hk0, hlen⟩ := HI.out
    obtain ⟨v, hv, hrow⟩ := hI.row
    rw [hq] at hrow
    have bW2 : Below W.heap.size W W2 := hbe.trans (hb2.mono hbe.size)
    have hv2 : Boxed W2 (g + 1) 27 v := (bW2.block _ hv.lt).trans hv
    have hrow2 : W2.ownsRow w.heap.size 5 1 v q ((textN pre).map (Value.int .u8)) := own_at hrow fun j hj => bW2.block j (hrow.lt j hj).2
    obtain ⟨A3, e3, rfl, -⟩ := own_slice hrow2
    have hc := hv2.cell
    have hlow2 : Below w.heap.size w W2 := hI.low.trans (bW2.mono hI.low.size)
    have hf2 := hI.bf.below bW2
    have hp2 : Boxed W2 (z + 1) 27 (.slice none 0 0) := (bW2.block _ hI.b1.lt).trans hI.b1
    have hq2 : Boxed W2 (z + 1 + 1) 30 (.int .i64 0) := (bW2.block _ hI.b2.lt).trans hI.b2
    have hrd := hr2.rd
    obtain ⟨bl, off, hA2, _, _⟩ := hrd.at_ (by omega)
    subst hA2
    have hk2 : KeepsFrom w7.heap.size W W2 := ⟨bW2.size, fun j o hj ho hc' => (bW2.block j (Array.getElem?_eq_some_iff.1 ho).1).trans ho⟩
    have HR := Lib.hid (⟨hv2, hrow2, hlow2, hf2, hp2, hq2, hrd, hk2, bW2⟩ : _ ∧ _ ∧ _ ∧ _ ∧ _ ∧ _ ∧ _ ∧ _ ∧ _)
    clear hI hq hW1 hy hbe hk1 hR2 hkq hk0 hlen hv hrow bW2 hv2 hrow2 hlow2 hf2 hp2 hq2 hrd hr2 hb2 hSh hk2
    gi_wp2_with (gi_at_builtin; refine hold ?_)
    refine unhold (wpListIn_append_own _ rfl _ _ 27 rfl w.heap.size 5 i0 (.int .u8 0) 1 1 Tryd.underlying27 hi hz0 hz1 hz2 rfl (by decide) _ _ _ rfl HR.out.2.1 ⟨bl, off, none⟩ k c2 (R.map (Value.int .u8)) rfl (by rw [List.length_map, HI.out.2.2.2.2.2.2.2.1, Nat.mul_one]) HR.out.2.2.2.2.2.2.1.cells (fun u hu => by obtain ⟨x, _, rfl⟩ := List.mem_map.1 hu; rfl) (by have := HI.out.2.2.2.2.2.2.2.2.1; have := HI.out.2.2.2.2.2.2.2.2.2; have := HI.out.2.1; unfold maxLen; omega) (by have := HI.out.2.2.2.2.2.2.2.2.1; have := HI.out.2.2.2.2.2.2.2.2.2; have := HI.out.2.1; omega) HR.out.2.2.1.size ?_)
    intro v' w9 hown' hgrow _
    obtain ⟨A5, e5, rfl, -⟩ := own_slice hown'
    obtain ⟨hv1', hv9, hr9, hk9, hb9⟩ := Boxed.appended0 HR.out.1 (by decide) HR.out.2.1 HR.out.2.2.1.size (by have := Hd.out; omega) hown' hgrow
    have hc1 := hv1'.cell
    have hf1 := hv1'.frozen
    obtain ⟨-, hrow2, hlow2, hf2, hp2, hq2, -, hk2, bW2⟩ := HR.out
    have hzf : w9.heap[zF]? = W2.heap[zF]? := hgrow.block zF hf2.lt (hf2.not_row (by decide) hrow2)
    have hp9 : w9.heap[z + 1]? = W2.heap[z + 1]? := hgrow.block _ hp2.lt (hp2.not_row (by decide) hrow2)
    have hq9 : w9.heap[z + 1 + 1]? = W2.heap[z + 1 + 1]? := hgrow.block _ hq2.lt (hq2.not_row (by decide) hrow2)
    have H2 := Lib.hid (⟨hv9, hr9, hk9, hb9, hzf, hp9, hq9⟩ : _ ∧ _ ∧ _ ∧ _ ∧ _ ∧ _ ∧ _)
    clear hv1' hv9 hr9 hk9 hb9 hzf hp9 hq9 hown' hgrow hc hrow2 hlow2 hf2 hp2 hq2 hk2 bW2
    gi_wp2_with fail
    obtain ⟨hv9, hr9, hk9, hb9, hzf, hp9, hq9⟩ := H2.out
    obtain ⟨-, hrow2, hlow2, hf2, hp2, hq2, -, hk2, bW2⟩ := HR.out
    obtain ⟨hI, hq, hW1, hy, hbe, hk1, hR2, hkq, hk0, hlen⟩ := HI.out
    have hd := Hd.out
    have o9 : ∀ j, j ≠ g + 1 → (w9.setCell ⟨g + 1, 0, none⟩ (.slice A5 (q + k) e5)).heap[j]? = w9.heap[j]? := fun j hj => Below.heap_setCell _ _ _ j (by simpa using hj)
    have hzf2 := (o9 zF (by omega)).trans (hzf.trans (bW2.block _ hI.bf.lt))
    refine ⟨hk2.trans (hk9.from _), ⟨fun j hj => (hb9.block j hj).trans (bW2.block j (by have := hI.low.size; omega)), hzf2, Nat.le_trans bW2.size hk9.size⟩, ⟨hzf2.trans hI.bf, ⟨_, hv9, ?_⟩, (o9 _ (by omega)).trans (hp9.trans hp2), (o9 _ (by omega)).trans (hq9.trans hq2), hlow2.trans hb9, by have := hI.size; have := bW2.size; have := hk9.size; omega⟩⟩
    rw [textN_snoc, List.length_append, List.map_append, hq, ← hR2, hkq]
    exact hr9
  case stop =>
    rintro D cc pre W _ h _
    exact h.elim
  case done =>
    rintro D ys W hD2 rfl hI hK
    have hlen := textN_len H0.out.2.2.2 (List.prefix_refl _)
    have hTx : textN (numsM m) = manT m := rfl
    obtain ⟨v, hv, hrow⟩ := hI.row
    rw [hTx] at hrow hlen
    obtain ⟨q, hq⟩ : ∃ q, (manT m).length = q := ⟨_, rfl⟩
    rw [hq] at hrow hlen
    obtain ⟨A3, e3, rfl, hqe⟩ := own_slice hrow
    have hc := hv.cell
    have hrd := Rd.of_own hrow
    have hput := Cr.put_c A3 q e3 (manT m) W (HK.out.2.2.1.on hI.low) hrd (manT_byt H0.out.2.2.2) hqe (by omega)
    have HR := Lib.hid (⟨hI, hK, hq, hD2⟩ : _ ∧ _ ∧ _ ∧ _)
    clear hI hv hrow hK hq hqe hlen hTx hrd hD2
    gi_wp2_with fail
    refine ⟨trivial, ?_⟩
    refine (callsIn_wide.2 hput).mono ?_
    rintro e w9 ⟨⟨x, A9, c9, hx9, rfl, hc9, hr9⟩, hb9⟩
    obtain ⟨hI, hK, hq, hD2⟩ := HR.out
    have p9 : Boxed w9 (z + 1) 27 (.slice none 0 0) := (hb9.block _ hI.b1.lt).trans hI.b1
    have r9 : Boxed w9 (z + 1 + 1) 30 (.int .i64 0) := (hb9.block _ hI.b2.lt).trans hI.b2
    have HB9 := hI.low.trans (hb9.mono hI.low.size)
    have k9 : w9.heap[D]? = some (.deferred (some [])) := (hb9.block _ (Array.getElem?_eq_some_iff.1 hK).1).trans hK
    have e9 : manL m = manT m ++ Cr.fourI x := by rw [manL, sealL, hx9.sum]
    obtain ⟨q4, hq4⟩ : ∃ q4, q + 4 = q4 := ⟨_, rfl⟩
    rw [hq4] at hc9 hr9 ⊢
    have hcp := p9.cell
    have hfp := p9.frozen
    have hcr := r9.cell
    have hfr := r9.frozen
    have H9 := Lib.hid (⟨p9, r9, HB9, k9, e9, hc9, hr9, hq, hq4, hD2⟩ : _ ∧ _ ∧ _ ∧ _ ∧ _ ∧ _ ∧ _ ∧ _ ∧ _ ∧ _)
    clear hI hK hq hD2 p9 r9 HB9 k9 e9 hc9 hr9 hq4 hx9 hb9 hc hput
    gi_wp2_with fail
    obtain ⟨p9, r9, HB9, k9, e9, hc9, hr9, hq, hq4, hD2⟩ := H9.out
    have hd := Hd.out
    obtain ⟨W5, hW5⟩ : ∃ W5, W5 = (w9.setCell ⟨z + 1, 0, none⟩ (.slice A9 q4 c9)).setCell ⟨z + 1 + 1, 0, none⟩ (.int .i64 0) := ⟨_, rfl⟩
    have o5 : ∀ j, j ≠ z + 1 → j ≠ z + 1 + 1 → W5.heap[j]? = w9.heap[j]? := fun j h1 h2 => by rw [hW5, Below.heap_setCell _ _ _ j (by simpa using h2), Below.heap_setCell _ _ _ j (by simpa using h1)]
    have p5 : Boxed W5 (z + 1) 27 (.slice A9 q4 c9) := by
      rw [hW5]
      exact (Below.heap_setCell _ _ _ (z + 1) (by simp)).trans (p9.set _)
    have r5 : Boxed W5 (z + 1 + 1) 30 (.int .i64 0) := by
      rw [hW5]
      exact (show Boxed (w9.setCell ⟨z + 1, 0, none⟩ (.slice A9 q4 c9)) (z + 1 + 1) 30 (.int .i64 0) from (Below.heap_setCell _ _ _ (z + 1 + 1) (by simp)).trans r9).set _
    have hB5 : Below w.heap.size w W5 := by
      rw [hW5]
      exact (HB9.setCell (p := ⟨z + 1, 0, none⟩) (by show w.heap.size ≤ z + 1; omega) _).setCell (p := ⟨z + 1 + 1, 0, none⟩) (by show w.heap.size ≤ z + 1 + 1; omega) _
    rw [← hW5]
    refine leaves_marks (B := w.heap.size) [D] _ ⟨by simp, fun d hd => ?_⟩ fun w' hw' => ⟨.tuple #[.slice A9 q4 c9, .int .i64 0], ?_, ⟨⟨A9, q4, c9, manL m, 0, rfl, .inl ⟨H0.out.2.2.2, rfl, rfl⟩, by rw [e9, List.length_append, hq, fourI_length, hq4], hc9, ?_⟩, hB5.trans hw'.1⟩⟩
    · obtain rfl : d = D := by simpa using hd
      have := Array.getElem?_eq_some_iff.1 k9
      exact ⟨by omega, (o5 d (by omega) (by omega)).trans k9⟩
    · have hb1 : Boxed w' (z + 1) 27 (.slice A9 q4 c9) := hw'.2 _ _ p5 rfl
      have hb2 : Boxed w' (z + 1 + 1) 30 (.int .i64 0) := hw'.2 _ _ r5 rfl
      have hc1 := hb1.cell
      have hc2 := hb2.cell
      simp [results, Tryd.results10, go_sem, hc1, hc2]
    · rw [e9]
      refine ⟨hr9.1, fun hn0 => ?_⟩
      obtain ⟨bl, off, e, hlt, hcell⟩ := hr9.2 hn0
      have h0 := hcell 0 hn0
      have hlen0 : 0 < (manT m ++ Cr.fourI x).length := by rw [hr9.1]; exact hn0
      rw [List.getElem?_eq_getElem hlen0] at h0
      have n1 : bl ≠ z + 1 := by
        rintro rfl
        rw [cell_of_row _ _ _ _ _ _ p9] at h0
        match off, h0 with
        | 0, h0 => simp at h0
        | off + 1, h0 => simp at h0
      have n2 : bl ≠ z + 1 + 1 := by
        rintro rfl
        rw [cell_of_row _ _ _ _ _ _ r9] at h0
        match off, h0 with
        | 0, h0 => simp at h0
        | off + 1, h0 => simp at h0
      have hsz5 : W5.heap.size = w9.heap.size := by rw [hW5]; simp
      refine ⟨bl, off, e, by have := hw'.1.size; omega, fun i hi => ?_⟩
      have hi' : i < (manT m ++ Cr.fourI x).length := by rw [hr9.1]; exact hi
      have h1 := hcell i hi
      rw [List.getElem?_eq_getElem hi'] at h1 ⊢
      exact marks_cellM hw' ((World.cell?_of_block (a := ⟨bl, off + i, none⟩) (o5 bl n1 n2)).trans h1)

theorem put_any (m : ManP) (A : Option Addr) (n c : Nat) (w : World) (hT : Cr.Tab w) (hS : Sg w w.heap.size A n m.sg) (hn : n ≤ 1000000) (hk : MOk m) :
    Calls Tryd.prog 10 #[manV m (.slice A n c)] w (PutT m w) := callsIn_wide.1 (put_in m A n c w hT hS hn hk)
end Go.Proofs.YtafeadplmcoilaaDoor
