/-
  two.Block: its contract.
-/
import Derived.Test.YtcpdjhkpmaamdaaGreatTextsI
import Derived.Test.YtcpdjhkpmaamdaaGreatDraw
import Derived.StillTailTactics
namespace Go.Proofs.YtcpdjhkpmaamdaaGreat
open Go.RowKit Go.Shelf
set_option linter.unusedVariables false

attribute [local go_sem] Oper.semAt_some Ga.run_store_complex

/-- Block's answer. -/
def BlkT (w : World) (p : Int × Int) (l : List EnP) (e : Ending) (w' : World) : Prop :=
  ((GoodC l ∧ ∃ A c n x y, e = .returned (.tuple #[.slice A n c, .complex .f64 x y, .int .i64 0]) ∧ (blockL p l).length = n ∧ Rd w' w'.heap.size .u8 A n (blockL p l) ∧ Ga.Pt x y (endP p l) ∧ n ≤ c) ∨
    (¬ GoodC l ∧ e = .returned (.tuple #[.slice none 0 0, .complex .f64 0 0, .int .i64 2]))) ∧ Below w.heap.size w w'

/-- The bytes put so far. -/
def soFar (l : List EnP) (k : Nat) : List Int := (l.length : Int) :: Nu.shortsOf (numsL (l.take k))
theorem soFar_zero (l : List EnP) : soFar l 0 = [(l.length : Int)] := rfl
theorem soFar_next {l : List EnP} {k : Nat} {e : EnP} (h : l[k]? = some e) : soFar l (k + 1) = soFar l k ++ Nu.shortsOf (nums e) := by
  unfold soFar
  rw [take_succ h, nums_append]
  simp [numsL, Nu.shortsOf]
theorem soFar_all {l : List EnP} {k : Nat} (h : l.length ≤ k) : soFar l k = bodyL l := by unfold soFar bodyL; rw [List.take_of_length_le h]
theorem soFar_length {l : List EnP} {k : Nat} (h : allR (l.take k) = true) : (soFar l k).length ≤ 1 + 15 * l.length := by
  have h1 := shorts_le h
  have h2 : (l.take k).length ≤ l.length := by rw [List.length_take]; omega
  simp only [soFar, List.length_cons]
  omega
theorem allR_snoc {l : List EnP} {k : Nat} {e : EnP} (h : l[k]? = some e) (hr : rightB e = true) (ha : allR (l.take k) = true) : allR (l.take (k + 1)) = true := by
  rw [take_succ h, allR_append, ha, Bool.true_and]
  simp [allR, hr]

theorem shorts_pos {e : EnP} (h : rightB e = true) : 1 ≤ (Nu.shortsOf (nums e)).length := by
  have h1 := Nu.isNum_iff.1 (List.all_eq_true.1 (right_nums h) e.tm (by simp [nums]))
  have h2 := Nu.cnt_bd h1.1 h1.2
  simp only [nums, Nu.shortsOf, List.flatMap_cons, List.length_append, Nu.shortOf_length]
  omega
/-- Between two rounds: the box b holds a row of the call's own of the bytes so far; the results' boxes hold nothing yet. -/
structure BInv (w : World) (l : List EnP) (r b D : Nat) (pre : List HRTw) (W : World) : Prop where
  row : ∃ v, Boxed W b 23 v ∧ W.ownsRow w.heap.size 5 1 v (soFar l pre.length).length ((soFar l pre.length).map (Value.int .u8))
  all : allR (l.take pre.length) = true
  r0 : Boxed W r 23 (.slice none 0 0)
  r1 : Boxed W (r + 1) 68 (.complex .f64 0 0)
  r2 : Boxed W (r + 2) 25 (.int .i64 0)
  low : Below w.heap.size w W
  size : D ≤ W.heap.size
theorem BInv.own {w : World} {l : List EnP} {r b D : Nat} (hb : b < D) (hr : r + 2 < D) (hw : w.heap.size ≤ D) : OwnT 9 D (BInv w l r b D) := fun _ W W' row h hg hr' => by
  obtain ⟨⟨v, hv, hrow⟩, hall, h0, h1, h2, hlow, hsz⟩ := h
  have hne : ∀ k, k < D → some k ≠ row := fun k hk e => by have := (hr' k e.symm).1; omega
  refine ⟨⟨v, (hg.block b hv.lt (hne b hb)).trans hv, hrow.kept hg (row_ne (by decide) hrow fun r e => (hr' r e).2)⟩, hall, (hg.block r h0.lt (hne r (by omega))).trans h0, (hg.block (r + 1) h1.lt (hne _ (by omega))).trans h1, (hg.block (r + 2) h2.lt (hne _ hr)).trans h2, ?_, Nat.le_trans hsz hg.size⟩
  exact hlow.grown hg hlow.size (fun k e => by have := (hr' k e).1; omega)
/-- .. and when one may not be. -/
structure BEnd (w : World) (l : List EnP) (r D : Nat) (W : World) : Prop where
  no : ¬ GoodC l
  r0 : Boxed W r 23 (.slice none 0 0)
  r1 : Boxed W (r + 1) 68 (.complex .f64 0 0)
  r2 : Boxed W (r + 2) 25 (.int .i64 2)
  low : Below w.heap.size w W
  size : D ≤ W.heap.size
theorem BEnd.own {w : World} {l : List EnP} {r D : Nat} (hr : r + 2 < D) (hw : w.heap.size ≤ D) (c : Code) : OwnT 9 D (fun (_ : List HRTw) W => c = Code.ret ∧ BEnd w l r D W) :=
  ownT_low (fun _ _ h => h.2.size) fun _ _ _ h hb => ⟨h.1, h.2.no, (hb.block r (by omega)).trans h.2.r0, (hb.block (r + 1) (by omega)).trans h.2.r1, (hb.block (r + 2) hr).trans h.2.r2, h.2.low.trans (hb.mono hw), Nat.le_trans h.2.size hb.size⟩
/-- A row of the call's own lies on where marks are taken away. -/
theorem own_marksTw {w w' : World} {B base : Nat} {e : TypeId} {size : Nat} {v : Value} {n : Nat} {xs : List Value} (h : w.ownsRow base e size v n xs) (hb : CellsKept B w w') : w'.ownsRow base e size v n xs := by
  refine ⟨h.1, ?_⟩
  rcases h.2 with a | ⟨g, cap, cur, e1, hbg, hh, r⟩
  · exact .inl a
  · exact .inr ⟨g, cap, cur, e1, hbg, hb.2 g _ hh rfl, r⟩
/-- 'b = append(b, ..)' at a box of the call's own: what lies behind the store. -/
theorem box_appendedTw {W w1 : World} {n₀ B : Nat} {t e : TypeId} {size : Nat} {v v' : Value} {k m : Nat} {xs ys : List Value}
    (hv : Boxed W B t v) (hte : t ≠ e) (hrow : W.ownsRow n₀ e size v k xs) (hn₀ : n₀ ≤ W.heap.size) (hB : n₀ ≤ B)
    (hown' : w1.ownsRow n₀ e size v' m ys) (hgrow : W.grownBy w1 v.ownBlock) :
    Boxed w1 B t v ∧ Boxed (w1.setCell ⟨B, 0, none⟩ v') B t v' ∧ (w1.setCell ⟨B, 0, none⟩ v').ownsRow n₀ e size v' m ys ∧ KeepsOthers W (w1.setCell ⟨B, 0, none⟩ v') ∧ Below n₀ W (w1.setCell ⟨B, 0, none⟩ v') := by
  have hv1 : Boxed w1 B t v := hv.kept hgrow (hv.not_row hte hrow)
  refine ⟨hv1, hv1.set v', hown'.kept (grownBy_setCell' w1 B v') (.inr (hv1.not_row hte hown').symm), ?_, ?_⟩
  · refine (KeepsOthers.of_grownBy hgrow fun j o ej hj => ?_).trans (KeepsOthers.setCell _ _ _)
    rcases hrow.2 with ⟨rfl, _⟩ | ⟨g, cap, cur, rfl, _, hgb, _⟩
    · simp [Value.ownBlock] at ej
    · obtain rfl : g = j := by simpa [Value.ownBlock] using ej
      rw [hgb] at hj; cases hj; rfl
  · refine ((Below.refl n₀ W).grown hgrow hn₀ fun j ej => ?_).setCell (p := ⟨B, 0, none⟩) hB v'
    rcases hrow.2 with ⟨rfl, _⟩ | ⟨g, cap, cur, rfl, hb, _, _⟩
    · simp [Value.ownBlock] at ej
    · obtain rfl : g = j := by simpa [Value.ownBlock] using ej
      exact hb

/-- The three results' boxes, written. -/
def put3 (W : World) (r : Nat) (u0 u1 u2 : Value) : World := ((W.setCell ⟨r, 0, none⟩ u0).setCell ⟨r + 1, 0, none⟩ u1).setCell ⟨r + 2, 0, none⟩ u2
theorem put3_box {W : World} {r : Nat} {t0 t1 t2 : TypeId} {v0 v1 v2 : Value} (h0 : Boxed W r t0 v0) (h1 : Boxed W (r + 1) t1 v1) (h2 : Boxed W (r + 2) t2 v2) (u0 u1 u2 : Value) :
    Boxed (put3 W r u0 u1 u2) r t0 u0 ∧ Boxed (put3 W r u0 u1 u2) (r + 1) t1 u1 ∧ Boxed (put3 W r u0 u1 u2) (r + 2) t2 u2 :=
  ⟨((h0.set u0).other (by omega) _).other (by omega) _, ((h1.other (by omega) _).set u1).other (by omega) _, ((h2.other (by omega) _).other (by omega) _).set u2⟩
theorem put3_grown (W : World) (r : Nat) (u0 u1 u2 : Value) {B : Nat} (hB : r + 2 < B) : KeepsFrom B W (put3 W r u0 u1 u2) :=
  ((KeepsFrom.of_grownBy (B := B) (grownBy_setCell' W r u0) (fun k e => by cases e; omega)).trans (KeepsFrom.of_grownBy (B := B) (grownBy_setCell' _ (r + 1) u1) (fun k e => by cases e; omega))).trans (KeepsFrom.of_grownBy (B := B) (grownBy_setCell' _ (r + 2) u2) (fun k e => by cases e; omega))
theorem put3_below {W : World} {r B : Nat} (hB : B ≤ r) (u0 u1 u2 : Value) {w : World} (h : Below B w W) : Below B w (put3 W r u0 u1 u2) :=
  ((h.setCell (p := ⟨r, 0, none⟩) hB u0).setCell (p := ⟨r + 1, 0, none⟩) (by show B ≤ r + 1; omega) u1).setCell (p := ⟨r + 2, 0, none⟩) (by show B ≤ r + 2; omega) u2
theorem put3_size (W : World) (r : Nat) (u0 u1 u2 : Value) : W.heap.size ≤ (put3 W r u0 u1 u2).heap.size := by
  have h1 := (grownBy_setCell' W r u0).size
  have h2 := (grownBy_setCell' (W.setCell ⟨r, 0, none⟩ u0) (r + 1) u1).size
  have h3 := (grownBy_setCell' ((W.setCell ⟨r, 0, none⟩ u0).setCell ⟨r + 1, 0, none⟩ u1) (r + 2) u2).size
  unfold put3
  omega
theorem put3_other {W : World} {r D : Nat} (u0 u1 u2 : Value) {o : Obj} (h : W.heap[D]? = some o) (hD : r + 2 < D) : (put3 W r u0 u1 u2).heap[D]? = some o := by
  have hlt := (Array.getElem?_eq_some_iff.1 h).1
  have g1 := grownBy_setCell' W r u0
  have g2 := grownBy_setCell' (W.setCell ⟨r, 0, none⟩ u0) (r + 1) u1
  have g3 := grownBy_setCell' ((W.setCell ⟨r, 0, none⟩ u0).setCell ⟨r + 1, 0, none⟩ u1) (r + 2) u2
  exact ((g3.block D (by have := g1.size; have := g2.size; omega) (by simp; omega)).trans ((g2.block D (by have := g1.size; omega) (by simp; omega)).trans (g1.block D hlt (by simp; omega)))).trans h
theorem put3_own {W : World} {r base : Nat} {t0 t1 t2 e : TypeId} {v0 v1 v2 : Value} (h0 : Boxed W r t0 v0) (h1 : Boxed W (r + 1) t1 v1) (h2 : Boxed W (r + 2) t2 v2) (n0 : t0 ≠ e) (n1 : t1 ≠ e) (n2 : t2 ≠ e) (u0 u1 u2 : Value)
    {v : Value} {n : Nat} {xs : List Value} (h : W.ownsRow base e 1 v n xs) : (put3 W r u0 u1 u2).ownsRow base e 1 v n xs := by
  have a1 := h.kept (grownBy_setCell' W r u0) (.inr (h0.not_row n0 h).symm)
  have a2 := a1.kept (grownBy_setCell' _ (r + 1) u1) (.inr ((h1.other (by omega) u0).not_row n1 a1).symm)
  exact a2.kept (grownBy_setCell' _ (r + 2) u2) (.inr (((h2.other (by omega) u0).other (by omega) u1).not_row n2 a2).symm)

theorem cell_set_ne {W : World} {a b : Addr} {v : Value} (h : a.block ≠ b.block) : (W.setCell b v).cell? a = W.cell? a := World.cell?_of_block (a := a) (Below.heap_setCell _ _ _ _ h)
/-- An append that is a drawn region's step. -/
theorem br_append {P : Program} {md : Region.Mode} {S : World → Prop} {fuel : Nat} {listed : Array Bool} {T : List Value} {ds : List Deferred} {w : World} {base B : Nat} {e : TypeId} {i0 : TypeInfo} {z : Value} {bytes n m c : Nat} {v : Value} {xs : List Value} {A : Option Addr} {R : List Int} {k : IntKind}
    {ops : Array Oper} {i d : Nat} {oi : Oper} {Q : Exit → Act → World → Prop} (s x : Operand) (t : TypeId) (hi : ops[i]? = some oi) (hd : oi.dst = some d) (hgd : oi.guard = none)
    (ho : oi.op = .call { callee := .builtin .append, args := #[s, x], argTypes := #[t, t] })
    (ht : P.underlying t = some (.slice e)) (hi0 : P.info? e = some i0) (hz : i0.zero = some z) (h1 : i0.size = 1) (h2 : i0.bytes = bytes) (hzs : z.cells.size = 1)
    (hs : (Act.mk T.toArray ds).eval s = v) (hx : (Act.mk T.toArray ds).eval x = .slice A m c) (hown : w.ownsRow base e 1 v n xs) (hr : Rd w B k A m R) (b1 : n + m ≤ maxLen) (b2 : (n + m) * bytes ≤ 140737488355328) (b3 : base ≤ w.heap.size)
    (h : ∀ v' w', Nu.Longer base e w v (n + m) (xs ++ R.map (Value.int k)) v' w' → S w' ∧ (S w' → wpAnyH P md ops Q S fuel (listed.setIfInBounds i true) ⟨(T.set d v').toArray, ds⟩ w')) :
    AllReadyH P md ops Q S fuel listed ⟨T.toArray, ds⟩ w [i] := by
  refine AllReadyH.cons hi (fun K hK => ?_) AllReadyH.nil
  have hw : Region.wanted oi (yielded ops T.toArray) = true := by simp [Region.wanted, hgd]
  rw [if_pos hw]
  refine Nu.wp_append_rd s x t ht hi0 hz h1 h2 hzs hown hr b1 b2 b3 ho hs hx fun v' w' hL => ?_
  rw [hd]
  obtain ⟨h3, h4⟩ := h v' w' hL
  refine hK.out _ _ h3 (fun hS => ?_)
  simpa [Act.put] using h4 hS

set_option maxRecDepth 100000 in
set_option maxHeartbeats 2000000 in
theorem block_in {x y : Nat} {p : Int × Int} (A : Option Addr) (n c : Nat) (l : List EnP) (w : World) (hp : Ga.From x y p) (hl : Es w w.heap.size A n l) (hn : n ≤ 1000000) :
    CallsIn Fence.wide 4 Tryz.prog 151 #[.complex .f64 x y, .slice A n c] w (BlkT w p l) := by
  obtain ⟨i0, hi, hz0, hz1, hz2⟩ := info_parts Ga.info_u8
  have Hl := Lib.hid (⟨hl, hp, hl.len⟩ : _ ∧ _ ∧ _)
  clear hl hp
  refine callsIn_of_wp_marks Tryz.func151 rfl trivial ?_ rfl
  simp only [Tryz.ntmps151, List.size_toArray, List.length_cons, List.length_nil, Nat.reduceAdd, Nat.reduceSub, Array.replicate_succ, Array.replicate_zero, List.push_toArray, List.append_toArray, List.nil_append, List.cons_append]
  obtain ⟨r, hr⟩ : ∃ r, r = w.heap.size := ⟨_, rfl⟩
  obtain ⟨wa, hwa⟩ : ∃ wa, wa = w.alloc (.cells #[.slice none 0 0] 23) := ⟨_, rfl⟩
  obtain ⟨wb, hwb⟩ : ∃ wb, wb = wa.alloc (.cells #[.complex .f64 0 0] 68) := ⟨_, rfl⟩
  obtain ⟨w0, hw0⟩ : ∃ w0, w0 = wb.alloc (.cells #[.int .i64 0] 25) := ⟨_, rfl⟩
  have hsa : wa.heap.size = r + 1 := by rw [hwa, hr]; simp
  have hsb : wb.heap.size = r + 2 := by rw [hwb]; simp [hsa]
  have hs0 : w0.heap.size = r + 3 := by rw [hw0]; simp [hsb]
  have hB0 : Below w.heap.size w w0 := by rw [hw0, hwb, hwa]; exact (((Below.refl _ _).alloc (Nat.le_refl _) _).alloc (by simp) _).alloc (by simp; omega) _
  have br0 : Boxed w0 r 23 (.slice none 0 0) := by
    have h : Boxed wa r 23 (.slice none 0 0) := by rw [hwa, hr]; exact Boxed.new _ _ _
    rw [hw0, hwb]; exact (h.alloc _).alloc _
  have br1 : Boxed w0 (r + 1) 68 (.complex .f64 0 0) := by
    have h : Boxed wb (r + 1) 68 (.complex .f64 0 0) := by rw [hwb, ← hsa]; exact Boxed.new _ _ _
    rw [hw0]; exact h.alloc _
  have br2 : Boxed w0 (r + 2) 25 (.int .i64 0) := by rw [hw0, ← hsb]; exact Boxed.new _ _ _
  have he : w0 = ((w.alloc (.cells #[.slice none 0 0] 23)).alloc (.cells #[.complex .f64 0 0] 68)).alloc (.cells #[.int .i64 0] 25) := by rw [hw0, hwb, hwa]
  have hd : w.heap.size ≤ r ∧ w0.heap.size = r + 3 := by omega
  by_cases hgood : 1 ≤ n ∧ n ≤ 4
  · obtain ⟨wc, hwc⟩ : ∃ wc, wc = w0.alloc (.cells #[.int .u8 (n : Int)] 5) := ⟨_, rfl⟩
    obtain ⟨w1, hw1⟩ : ∃ w1, w1 = wc.alloc (.cells #[.slice (some ⟨r + 3, 0, none⟩) 1 1] 23) := ⟨_, rfl⟩
    have hsc : wc.heap.size = r + 4 := by rw [hwc]; simp [hs0]
    have hs1 : w1.heap.size = r + 5 := by rw [hw1]; simp [hsc]
    have hB1 : Below w.heap.size w w1 := by rw [hw1, hwc]; exact (hB0.alloc (by omega) _).alloc (by simp; omega) _
    have own1 : w1.ownsRow w.heap.size 5 1 (.slice (some ⟨r + 3, 0, none⟩) 1 1) 1 ((soFar l 0).map (Value.int .u8)) := by
      have h := own_litTw w0 (base := w.heap.size) (e := 5) ([(n : Int)].map (Value.int .u8)) (g := r + 3) (by omega) (by omega) (by simp [maxLen])
      rw [hw1, hwc, soFar_zero, Hl.out.2.2]
      exact h.alloc _
    have bb1 : Boxed w1 (r + 4) 23 (.slice (some ⟨r + 3, 0, none⟩) 1 1) := by rw [hw1, ← hsc]; exact Boxed.new _ _ _
    have br0' : Boxed w1 r 23 (.slice none 0 0) := by rw [hw1, hwc]; exact (br0.alloc _).alloc _
    have br1' : Boxed w1 (r + 1) 68 (.complex .f64 0 0) := by rw [hw1, hwc]; exact (br1.alloc _).alloc _
    have br2' : Boxed w1 (r + 2) 25 (.int .i64 0) := by rw [hw1, hwc]; exact (br2.alloc _).alloc _
    have he1 : w1 = ((((w.alloc (.cells #[.slice none 0 0] 23)).alloc (.cells #[.complex .f64 0 0] 68)).alloc (.cells #[.int .i64 0] 25)).alloc (.cells #[.int .u8 (n : Int)] 5)).alloc (.cells #[.slice (some ⟨w.heap.size + 1 + 1 + 1, 0, none⟩) 1 1] 23) := by rw [hw1, hwc, he, ← hr]
    have hcv : IntKind.u8.wrap (n : Int) = (n : Int) := by rw [IntKind.wrap_u8]; omega
    have g1 : ¬ n = 0 := by omega
    have g2 : ¬ (4 : Int) < (n : Int) := by omega
    have g3 : ¬ 4 < n := by omega
    have g4 : ¬ (n : Int) = 0 := by omega
    have Hg := Lib.hid hgood
    have Hd := Lib.hid (show w.heap.size ≤ r ∧ w1.heap.size = r + 5 by omega)
    have HB := Lib.hid (⟨hB1, own1, bb1, br0', br1', br2'⟩ : _ ∧ _ ∧ _ ∧ _ ∧ _ ∧ _)
    have HE := Lib.hid (⟨he1, hr⟩ : _ ∧ _)
    clear hwc hw1 hsc hs1 hB1 own1 bb1 br0' br1' br2' he hw0 hwb hwa hsa hsb hs0 hB0 br0 br1 br2 hgood hd he1 hr
    gi_wp2_with fail
    rw [← HE.out.1, ← HE.out.2]
    refine ⟨trivial, ?_⟩
    refine (callsIn_wide.2 (texts_any A n c w1)).mono ?_
    rintro e w2 ⟨rfl, hl2, hs2, hb2⟩
    obtain ⟨sB, hsB⟩ : ∃ sB, sB = w1.heap.size := ⟨_, rfl⟩
    rw [← hsB] at hl2 ⊢
    have hd := Hd.out
    have h0 : BInv w l r (r + 4) w2.heap.size [] w2 := by
      obtain ⟨hB1, own1, bb1, br0, br1, br2⟩ := HB.out
      exact ⟨⟨_, (hb2.block _ bb1.lt).trans bb1, own_keepTw own1 hb2⟩, by rfl, (hb2.block _ br0.lt).trans br0, (hb2.block _ br1.lt).trans br1, (hb2.block _ br2.lt).trans br2, hB1.trans (hb2.mono (by omega)), Nat.le_refl _⟩
    have Hd3 := Lib.hid (show w.heap.size ≤ r ∧ sB = r + 5 ∧ w2.heap.size = sB + 1 by omega)
    have H0 := Lib.hid (⟨h0, hl2, Hl.out.1.low (w' := w2) (fun k hk => h0.low.block k hk)⟩ : _ ∧ _ ∧ _)
    clear h0 hl2 hs2 hb2 hsB hd hcv g1 g2 g3 g4
    gi_wp2_with fail
    refine range_W 9 rfl (by decide) (gf := 167) (lb := #[.pointer (some ⟨sB, 0, none⟩)]) rfl trivial (enters_of Tryz.func167 (by kernel_rfl) rfl)
      (texts_seq sB w.heap.size hn w2 (by have := Hd3.out; omega) H0.out.2.1 H0.out.2.2) (fun h h' => h.trans h') (KpL.put (by have := Hd3.out; omega)) (Below.refl _ _) (fun _ => rfl)
      (BInv w l r (r + 4) w2.heap.size) (fun c (_ : List HRTw) W => c = Code.ret ∧ BEnd w l r w2.heap.size W) (BInv.own (by have := Hd3.out; omega) (by have := Hd3.out; omega) (by have := Hd3.out; omega))
      (BEnd.own (by have := Hd3.out; omega) (by have := Hd3.out; omega)) H0.out.1
      (fun d a' W => MemRTw d W ∧ a' = { tmps := #[.complex .f64 x y, .slice A n c, undef, undef, .pointer (some ⟨r, 0, none⟩), .pointer (some ⟨r + 1, 0, none⟩), .pointer (some ⟨r + 1 + 1, 0, none⟩), .pointer (some ⟨r + 1 + 1 + 1 + 1, 0, none⟩), .slice d.A d.n d.c, .int .i64 d.er, undef, undef, .slice A n c, .int .i64 n, .bool false, .bool false, .slice A n c, .int .i64 n, .bool false, .bool false, .slice A n c, .int .i64 n, .int .u8 n, .slice (some ⟨r + 1 + 1 + 1, 0, none⟩) 1 1, .slice A n c, .func (.func 167) #[] #[.pointer (some ⟨sB, 0, none⟩)], .slice d.A d.n d.c, .int .i64 d.er, undef, undef, undef, undef, undef, undef, undef, undef, undef, undef, undef, undef, undef, undef, undef, undef], defers := [] })
      (fun _ _ _ _ _ _ h hi ho => ⟨h.1.put hi ho, h.2⟩) ?assign ?body ?done ?stop
    case assign =>
      intro lp pre d W hI hok
      gi_wp2
      exact ⟨KeepsFrom.refl _ _, KpL.refl _ _, hI, hok.2, by first | rfl | trivial⟩
    case body =>
      rintro lp pre d a' W hI ⟨hm, rfl⟩ ⟨_, hok, _⟩
      rcases hm with ⟨hR, h0, hlen, hrd⟩ | ⟨hR, h2⟩
      · rw [h0]
        obtain ⟨v, hv, hrow⟩ := hI.row
        have hc := hv.cell
        obtain ⟨dA, dc, dn, der, de⟩ := d
        dsimp only at hR h0 hlen hrd hok
        subst h0
        dsimp only
        obtain ⟨m, hm⟩ : ∃ m, (soFar l pre.length).length = m := ⟨_, rfl⟩
        have hm15 : m ≤ 15000001 := by
          have h2 := soFar_length (l := l) hI.all
          have h3 := Hl.out.2.2
          omega
        have hdn : 1 ≤ dn ∧ dn ≤ 15 := by
          rw [← hlen]
          exact ⟨shorts_pos hR, by have := Nu.shortsOf_length (right_nums hR); rw [show (nums de).length = 3 from rfl] at this; omega⟩
        rw [hm] at hrow
        obtain ⟨b, off, hA, hbl, hcell⟩ := hrd.at_ (by omega)
        subst hA
        have hcs := hrd.cells
        have HI := Lib.hid (⟨hI, hR, hok, hcs, hm, hlen⟩ : _ ∧ _ ∧ _ ∧ _ ∧ _ ∧ _)
        clear hI hR hok hcell hbl hcs hm hlen hrd
        gi_wp2_with (gi_at_builtin; refine hold ?_)
        refine unhold (wpListIn_append_own _ rfl _ _ 23 rfl w.heap.size 5 i0 (.int .u8 0) 1 1 Tryz.underlying23 hi hz0 hz1 hz2 rfl (by decide) _ _ _ rfl hrow ⟨b, off, none⟩ dn dc ((Nu.shortsOf (nums de)).map (Value.int .u8)) rfl (by rw [List.length_map, HI.out.2.2.2.2.2, Nat.mul_one]) HI.out.2.2.2.1 (fun u hu => by obtain ⟨x, _, rfl⟩ := List.mem_map.1 hu; rfl) (by unfold maxLen; omega) (by omega) HI.out.1.low.size ?_)
        intro v' w3 hown' hgrow _
        obtain ⟨A', c', rfl, _, _⟩ := own_rd (l := soFar l pre.length ++ Nu.shortsOf (nums de)) (by rw [List.map_append]; exact hown')
        obtain ⟨hv1, hv2, hr2, hk2, hb2⟩ := box_appendedTw hv (by decide) hrow HI.out.1.low.size (by have := Hd3.out; omega) hown' hgrow
        have hc1 := hv1.cell
        have hf1 := hv1.frozen
        have c0 : Boxed (w3.setCell ⟨r + 4, 0, none⟩ (.slice A' (m + dn) c')) r 23 (.slice none 0 0) := (HI.out.1.r0.kept hgrow (HI.out.1.r0.not_row (by decide) hrow)).other (by omega) _
        have c1 : Boxed (w3.setCell ⟨r + 4, 0, none⟩ (.slice A' (m + dn) c')) (r + 1) 68 (.complex .f64 0 0) := (HI.out.1.r1.kept hgrow (HI.out.1.r1.not_row (by decide) hrow)).other (by omega) _
        have c2 : Boxed (w3.setCell ⟨r + 4, 0, none⟩ (.slice A' (m + dn) c')) (r + 2) 25 (.int .i64 0) := (HI.out.1.r2.kept hgrow (HI.out.1.r2.not_row (by decide) hrow)).other (by omega) _
        have H3 := Lib.hid (⟨hv2, hr2, hk2, hb2, c0, c1, c2⟩ : _ ∧ _ ∧ _ ∧ _ ∧ _ ∧ _ ∧ _)
        clear hv1 hv2 hr2 hk2 hb2 hgrow hown' hc hv hrow c0 c1 c2
        gi_wp2_with fail
        obtain ⟨hI, hR, hok, _, hm, hlen⟩ := HI.out
        obtain ⟨hv2, hr2, hk2, hb2, c0, c1, c2⟩ := H3.out
        have hd := Hd3.out
        have hlen1 : ∀ z : HRTw, (pre ++ [z]).length = pre.length + 1 := fun z => by simp
        refine ⟨hk2.from _, fun i hi => hb2.block i (by omega), ⟨⟨_, hv2, ?_⟩, ?_, c0, c1, c2, hI.low.trans hb2, Nat.le_trans hI.size hk2.size⟩⟩
        · rw [hlen1, soFar_next hok, List.map_append, List.length_append, hm, hlen]
          exact hr2
        · rw [hlen1]
          exact allR_snoc hok hR hI.all
      · rw [h2]
        have f0 := hI.r0.frozen
        have f1 := hI.r1.frozen
        have f2 := hI.r2.frozen
        have q0 := hI.r0.cell
        have q1 := hI.r1.cell
        have q2 := hI.r2.cell
        have HI := Lib.hid (⟨hI, (show ¬ GoodC l from fun hg => by have h := allR_no hok hR; rw [hg.2.2] at h; cases h)⟩ : _ ∧ _)
        clear hI hR h2 hok
        gi_wp2_with fail
        obtain ⟨hI, hno⟩ := HI.out
        have hd := Hd3.out
        have hbx := put3_box hI.r0 hI.r1 hI.r2 (.slice none 0 0) (.complex .f64 0 0) (.int .i64 2)
        exact ⟨put3_grown W r _ _ _ (by omega), rfl, hno, hbx.1, hbx.2.1, hbx.2.2, put3_below (by omega) _ _ _ hI.low, Nat.le_trans hI.size (put3_size _ _ _ _ _)⟩
    case stop =>
      rintro D cc pre W hD2 ⟨rfl, hI⟩ hK
      have HI := Lib.hid hI
      have HK := Lib.hid (⟨hK, hD2⟩ : _ ∧ _)
      clear hI hK hD2
      gi_wp2_with fail
      have hd := Hd3.out
      refine leaves_marks (B := w.heap.size) [D] _ ⟨by simp, fun d hd => ?_⟩ fun w' hw' => ⟨.tuple #[.slice none 0 0, .complex .f64 0 0, .int .i64 2], ?_, .inr ⟨HI.out.no, rfl⟩, HI.out.low.trans hw'.1⟩
      · obtain rfl : d = D := by simpa using hd
        have := HK.out.2
        exact ⟨by omega, HK.out.1⟩
      · have hc0 := (show Boxed w' r 23 (.slice none 0 0) from hw'.2 _ _ HI.out.r0 rfl).cell
        have hc1 := (show Boxed w' (r + 1) 68 (.complex .f64 0 0) from hw'.2 _ _ HI.out.r1 rfl).cell
        have hc2 := (show Boxed w' (r + 2) 25 (.int .i64 2) from hw'.2 _ _ HI.out.r2 rfl).cell
        clear hd
        simp [results, Tryz.results151, go_sem, *]
    case done =>
      rintro D ys W hD2 hlen hI hK
      obtain ⟨v, hv, hrow⟩ := hI.row
      have hall := hI.all
      rw [List.take_of_length_le (by omega)] at hall
      rw [soFar_all (by omega)] at hrow
      have hgood : GoodC l := ⟨by have := Hg.out; have := Hl.out.2.2; omega, by have := Hg.out; have := Hl.out.2.2; omega, hall⟩
      obtain ⟨m, hm⟩ : ∃ m, (bodyL l).length = m := ⟨_, rfl⟩
      have hm61 : m ≤ 61 := by
        have h2 := shorts_le hall
        rw [← hm, body_length]
        have := hgood.2.1
        omega
      rw [hm] at hrow
      obtain ⟨A1, c1, rfl, hmc, hrd1⟩ := own_rd hrow
      have hc := hv.cell
      have HI := Lib.hid (⟨hI, hgood, hm, hrow, hrd1, hv⟩ : _ ∧ _ ∧ _ ∧ _ ∧ _ ∧ _)
      have HK := Lib.hid (⟨hK, hD2⟩ : _ ∧ _)
      clear hI hgood hm hrow hrd1 hv hK hD2 hall hlen
      gi_wp2_with fail
      refine ⟨trivial, ?_⟩
      refine (callsIn_wide.2 (Ga.chain_one (c := c1) W W.heap.size 23 rfl Hl.out.2.1 HI.out.2.2.2.2.1 (body_byt HI.out.2.1) (by omega))).mono ?_
      rintro e w3 ⟨⟨xe, ye, rfl, hpt⟩, hb3⟩
      obtain ⟨a0, a1, a2, a3, h4⟩ : ∃ a0 a1 a2 a3, Ga.bytesP (endP p l) = [a0, a1, a2, a3] := ⟨_, _, _, _, rfl⟩
      have HP := Lib.hid (⟨hpt, hb3, h4⟩ : _ ∧ _ ∧ _)
      clear hpt hb3 h4
      gi_wp2_with fail
      refine ⟨trivial, ?_⟩
      refine (callsIn_wide.2 (Ga.bytes_out w3 HP.out.1 HP.out.2.2)).mono ?_
      rintro e w4 ⟨rfl, hb4⟩
      obtain ⟨w5, hw5⟩ : ∃ w5, w5 = w4.alloc (.cells #[.int .u8 a0, .int .u8 a1, .int .u8 a2, .int .u8 a3] 99) := ⟨_, rfl⟩
      have hb35 : Below W.heap.size W w5 := by
        have h1 := HP.out.2.1.trans (hb4.mono HP.out.2.1.size)
        rw [hw5]
        exact h1.alloc h1.size _
      have hI := HI.out.1
      have own5 := own_keepTw HI.out.2.2.2.1 hb35
      have d0 : Boxed w5 r 23 (.slice none 0 0) := (hb35.block _ hI.r0.lt).trans hI.r0
      have d1 : Boxed w5 (r + 1) 68 (.complex .f64 0 0) := (hb35.block _ hI.r1.lt).trans hI.r1
      have d2 : Boxed w5 (r + 2) 25 (.int .i64 0) := (hb35.block _ hI.r2.lt).trans hI.r2
      have d4 : Boxed w5 (r + 4) 23 (.slice A1 m c1) := (hb35.block _ HI.out.2.2.2.2.2.lt).trans HI.out.2.2.2.2.2
      have dK : w5.heap[D]? = some (.deferred (some [])) := (hb35.block _ (Array.getElem?_eq_some_iff.1 HK.out.1).1).trans HK.out.1
      have lo5 : Below w.heap.size w w5 := hI.low.trans (hb35.mono hI.low.size)
      have rd4 : Rd w5 w5.heap.size .u8 (some ⟨w4.heap.size, 0, none⟩) 4 [a0, a1, a2, a3] := by rw [hw5]; exact Rd.made w4 .u8 99 [a0, a1, a2, a3] rfl
      have c4 := d4.cell
      have H5 := Lib.hid (⟨own5, d0, d1, d2, dK, lo5, rd4, (show w.heap.size ≤ w5.heap.size from lo5.size), d4⟩ : _ ∧ _ ∧ _ ∧ _ ∧ _ ∧ _ ∧ _ ∧ _ ∧ _)
      clear hb35 hI own5 d0 d1 d2 d4 dK lo5 rd4 hb4 hc
      gi_wp2_with fail
      rw [← hw5]
      clear hw5
      refine wpIn_wide.2 ?_
      refine wp_region_noPanic ?_
      have own5 : w5.drew.ownsRow w.heap.size 5 1 (.slice A1 m c1) m ((bodyL l).map (Value.int .u8)) := H5.out.1
      have rd5 : Rd w5.drew w5.drew.heap.size .u8 (some ⟨w4.heap.size, 0, none⟩) 4 [a0, a1, a2, a3] := H5.out.2.2.2.2.2.2.1
      refine wp_region_held_drew (S := fun W => W.cell? ⟨r + 4, 0, none⟩ = some (.slice A1 m c1)) (by kernel_rfl) c4 (fun hHeld => ?_)
      refine take_at (i := 0) (d := 40) (oi := ?o1) (v := ?v1) ?hi1 ?hd1 (by kernel_rfl) (by kernel_rfl) (by kernel_rfl) ?hw1 ?hy1 ?hq1 (by assumption) ?r1
      case hi1 => (simp only [List.getElem?_toArray, List.getElem?_cons_zero]; rfl)
      case hd1 => rfl
      case hw1 => rfl
      case hy1 => ((intro w hSw; (try dsimp only at hSw); go_simp) <;> (with_reducible rfl))
      case hq1 => exact fun _ _ _ h => h
      simp only [List.set_cons_succ, List.set_cons_zero]
      refine take_at (i := 1) (d := 41) (oi := ?o2) (v := ?v2) ?hi2 ?hd2 (by kernel_rfl) (by kernel_rfl) (by kernel_rfl) ?hw2 ?hy2 ?hq2 (by assumption) ?r2
      case hi2 => (simp only [List.getElem?_toArray, List.getElem?_cons_succ, List.getElem?_cons_zero]; rfl)
      case hd2 => rfl
      case hw2 => rfl
      case hy2 => ((intro w hSw; (try dsimp only at hSw); go_simp) <;> (with_reducible rfl))
      case hq2 => exact fun _ _ _ h => h
      simp only [List.set_cons_succ, List.set_cons_zero]
      refine take_at (i := 3) (d := 43) (oi := ?o3) (v := ?v3) ?hi3 ?hd3 (by kernel_rfl) (by kernel_rfl) (by kernel_rfl) ?hw3 ?hy3 ?hq3 (by assumption) ?r3
      case hi3 => (simp only [List.getElem?_toArray, List.getElem?_cons_succ, List.getElem?_cons_zero]; rfl)
      case hd3 => rfl
      case hw3 => rfl
      case hy3 => ((intro w hSw; (try dsimp only at hSw); go_simp) <;> (with_reducible rfl))
      case hq3 => exact fun _ _ _ h => h
      simp only [List.set_cons_succ, List.set_cons_zero]
      refine wpAnyH_ready (rs := [2]) (by kernel_rfl) (by simp) ?_
      refine br_append (i := 2) (d := 42) (oi := ?o90) (.tmp 40) (.tmp 41) 23 ?hi90 ?hd90 ?hg90 ?ho90 Tryz.underlying23 hi hz0 hz1 hz2 Nu.byte_cells rfl rfl own5 rd5 (by unfold maxLen; omega) (by omega) H5.out.2.2.2.2.2.2.2.1 ?_
      case hi90 => (simp only [List.getElem?_toArray, List.getElem?_cons_succ, List.getElem?_cons_zero]; rfl)
      case hd90 => rfl
      case hg90 => rfl
      case ho90 => rfl
      intro v6 w6 L6
      have g56 : w5.drew.grownBy w6 (Value.slice A1 m c1).ownBlock := L6.2.1
      have own6 : w6.ownsRow w.heap.size 5 1 v6 (m + 4) ((blockL p l).map (Value.int .u8)) := by
        have h := L6.1
        rw [← List.map_append, ← HP.out.2.2] at h
        exact h
      obtain ⟨A6, c6, rfl, hc6, _⟩ := own_rd own6
      have e0 : Boxed w6 r 23 (.slice none 0 0) := (show Boxed w5.drew r 23 (.slice none 0 0) from H5.out.2.1).kept g56 ((show Boxed w5.drew r 23 (.slice none 0 0) from H5.out.2.1).not_row (by decide) own5)
      have e1 : Boxed w6 (r + 1) 68 (.complex .f64 0 0) := (show Boxed w5.drew (r + 1) 68 (.complex .f64 0 0) from H5.out.2.2.1).kept g56 ((show Boxed w5.drew (r + 1) 68 (.complex .f64 0 0) from H5.out.2.2.1).not_row (by decide) own5)
      have e2 : Boxed w6 (r + 2) 25 (.int .i64 0) := (show Boxed w5.drew (r + 2) 25 (.int .i64 0) from H5.out.2.2.2.1).kept g56 ((show Boxed w5.drew (r + 2) 25 (.int .i64 0) from H5.out.2.2.2.1).not_row (by decide) own5)
      have eK : w6.heap[D]? = some (.deferred (some [])) := (g56.block D (Array.getElem?_eq_some_iff.1 H5.out.2.2.2.2.1).1 (fun e => by
        rcases own5.2 with ⟨h, _⟩ | ⟨g, cap, cur, h, _, hg, _⟩
        · rw [h] at e; simp [Value.ownBlock] at e
        · rw [h] at e
          obtain rfl : D = g := by simpa [Value.ownBlock] using e
          have h2 := H5.out.2.2.2.2.1
          rw [show w5.heap[D]? = _ from hg] at h2
          cases h2)).trans H5.out.2.2.2.2.1
      have lo6 : Below w.heap.size w w6 := L6.below H5.out.2.2.2.2.2.1.drew H5.out.2.2.2.2.2.2.2.1 (fun g hg => (own5.lt g hg).1)
      have e4 : w6.cell? ⟨r + 4, 0, none⟩ = some (.slice A1 m c1) := ((show Boxed w5.drew (r + 4) 23 (.slice A1 m c1) from H5.out.2.2.2.2.2.2.2.2).kept g56 ((show Boxed w5.drew (r + 4) 23 (.slice A1 m c1) from H5.out.2.2.2.2.2.2.2.2).not_row (by decide) own5)).cell
      refine ⟨e4, fun hHeld => ?_⟩
      simp only [List.set_cons_succ, List.set_cons_zero]
      have H6 := Lib.hid (⟨own6, e0, e1, e2, eK, lo6, hc6⟩ : _ ∧ _ ∧ _ ∧ _ ∧ _ ∧ _ ∧ _)
      have f0 := e0.frozen
      have q0 := e0.cell
      obtain ⟨x1, hx1⟩ : ∃ x, x = w6.setCell ⟨r, 0, none⟩ (.slice A6 (m + 4) c6) := ⟨_, rfl⟩
      have y1 : Boxed x1 (r + 1) 68 (.complex .f64 0 0) := by rw [hx1]; exact e1.other (by omega) _
      have y2 : Boxed x1 (r + 2) 25 (.int .i64 0) := by rw [hx1]; exact e2.other (by omega) _
      have f1 := y1.frozen
      have q1 := y1.cell
      obtain ⟨x2, hx2⟩ : ∃ x, x = x1.setCell ⟨r + 1, 0, none⟩ (.complex .f64 xe ye) := ⟨_, rfl⟩
      have z2 : Boxed x2 (r + 2) 25 (.int .i64 0) := by rw [hx2]; exact y2.other (by omega) _
      have f2 := z2.frozen
      have q2 := z2.cell
      obtain ⟨x3, hx3⟩ : ∃ x, x = x2.setCell ⟨r + 2, 0, none⟩ (.int .i64 0) := ⟨_, rfl⟩
      have s1 : x1.cell? ⟨r + 4, 0, none⟩ = some (.slice A1 m c1) := by rw [hx1, cell_set_ne (by simp)]; exact e4
      have s2 : x2.cell? ⟨r + 4, 0, none⟩ = some (.slice A1 m c1) := by rw [hx2, cell_set_ne (by simp)]; exact s1
      have s3 : x3.cell? ⟨r + 4, 0, none⟩ = some (.slice A1 m c1) := by rw [hx3, cell_set_ne (by simp)]; exact s2
      have hx : x3 = put3 w6 r (.slice A6 (m + 4) c6) (.complex .f64 xe ye) (.int .i64 0) := by rw [hx3, hx2, hx1]; rfl
      clear L6 g56 own6 e0 e1 e2 eK lo6 own5 rd5 c4 hc6 e4 y1 y2 z2
      refine wpAnyH_ready (rs := [4]) (by kernel_rfl) (by simp) ?_
      refine br_store (i := 4) (oi := ?o4) (w' := x1) ?hi4 ?hd4 ?hw4 ?he4 s1 ?hc4
      case hi4 => (simp only [List.getElem?_toArray, List.getElem?_cons_succ, List.getElem?_cons_zero]; rfl)
      case hd4 => rfl
      case hw4 => rfl
      case he4 => (rw [hx1]; clear hx hx1 hx2 hx3; go_simp)
      intro hHeld
      refine wpAnyH_ready (rs := [5]) (by kernel_rfl) (by simp) ?_
      refine br_store (i := 5) (oi := ?o5) (w' := x2) ?hi5 ?hd5 ?hw5 ?he5 s2 ?hc5
      case hi5 => (simp only [List.getElem?_toArray, List.getElem?_cons_succ, List.getElem?_cons_zero]; rfl)
      case hd5 => rfl
      case hw5 => rfl
      case he5 => (rw [hx2]; clear hx hx1 hx2 hx3; go_simp)
      intro hHeld
      refine wpAnyH_ready (rs := [6]) (by kernel_rfl) (by simp) ?_
      refine br_store (i := 6) (oi := ?o6) (w' := x3) ?hi6 ?hd6 ?hw6 ?he6 s3 ?hc6
      case hi6 => (simp only [List.getElem?_toArray, List.getElem?_cons_succ, List.getElem?_cons_zero]; rfl)
      case hd6 => rfl
      case hw6 => rfl
      case he6 => (rw [hx3]; clear hx hx1 hx2 hx3; go_simp)
      intro hHeld
      refine wpAnyH_done (by kernel_rfl) ?_ _
      rw [hx]
      clear hx hx1 hx2 hx3 f0 f1 f2 q0 q1 q2 s1 s2 s3 hHeld
      refine NoPanic.normal ?_
      gi_wp2_with fail
      have hd := Hd3.out
      have hD : r + 2 < D := by have := HK.out.2; omega
      obtain ⟨own6, e0, e1, e2, eK, lo6, hc6⟩ := H6.out
      have hbx := put3_box e0 e1 e2 (.slice A6 (m + 4) c6) (.complex .f64 xe ye) (.int .i64 0)
      have hown := put3_own e0 e1 e2 (by decide) (by decide) (by decide) (.slice A6 (m + 4) c6) (.complex .f64 xe ye) (.int .i64 0) own6
      have hlow := put3_below (r := r) (show w.heap.size ≤ r by omega) (.slice A6 (m + 4) c6) (.complex .f64 xe ye) (.int .i64 0) lo6
      have hmk := put3_other (.slice A6 (m + 4) c6) (.complex .f64 xe ye) (.int .i64 0) eK hD
      refine leaves_marks (B := w.heap.size) [D] (put3 w6 r (.slice A6 (m + 4) c6) (.complex .f64 xe ye) (.int .i64 0)) ⟨by simp, fun d hd' => ?_⟩ fun w' hw' => ⟨.tuple #[.slice A6 (m + 4) c6, .complex .f64 xe ye, .int .i64 0], ?_, ?_⟩
      · obtain rfl : d = D := by simpa using hd'
        exact ⟨by omega, hmk⟩
      · have hc0 := (show Boxed w' r 23 _ from hw'.2 _ _ hbx.1 rfl).cell
        have hc1 := (show Boxed w' (r + 1) 68 _ from hw'.2 _ _ hbx.2.1 rfl).cell
        have hc2 := (show Boxed w' (r + 2) 25 _ from hw'.2 _ _ hbx.2.2 rfl).cell
        clear hd hbx hown hlow hmk own6 e0 e1 e2 eK lo6 hw'
        simp [results, Tryz.results151, go_sem, hc0, hc1, hc2]
      · refine ⟨.inl ⟨HI.out.2.1, A6, c6, m + 4, xe, ye, rfl, ?_, ?_, HP.out.1, by obtain ⟨_, _, e, hc⟩ := own_slice hown; cases e; exact hc⟩, hlow.trans hw'.1⟩
        · rw [blockL, List.length_append, HI.out.2.2.1, bytesP_len]
        · exact Rd.of_own (own_marksTw hown hw')
  · have hno : ¬ GoodC l := fun hg => hgood ⟨by have := hg.1; have := Hl.out.2.2; omega, by have := hg.2.1; have := Hl.out.2.2; omega⟩
    obtain ⟨w9, hw9⟩ : ∃ w9, w9 = wb.alloc (.cells #[.int .i64 2] 25) := ⟨_, rfl⟩
    have hB9 : Below w.heap.size w w9 := by rw [hw9, hwb, hwa]; exact (((Below.refl _ _).alloc (Nat.le_refl _) _).alloc (by simp) _).alloc (by simp; omega) _
    have b0 : Boxed w9 r 23 (.slice none 0 0) := by
      have h : Boxed wa r 23 (.slice none 0 0) := by rw [hwa, hr]; exact Boxed.new _ _ _
      rw [hw9, hwb]; exact (h.alloc _).alloc _
    have b1 : Boxed w9 (r + 1) 68 (.complex .f64 0 0) := by
      have h : Boxed wb (r + 1) 68 (.complex .f64 0 0) := by rw [hwb, ← hsa]; exact Boxed.new _ _ _
      rw [hw9]; exact h.alloc _
    have b2 : Boxed w9 (r + 2) 25 (.int .i64 2) := by rw [hw9, ← hsb]; exact Boxed.new _ _ _
    have he9 : w9 = ((w.alloc (.cells #[.slice none 0 0] 23)).alloc (.cells #[.complex .f64 0 0] 68)).alloc (.cells #[.int .i64 2] 25) := by rw [hw9, hwb, hwa]
    have HB := Lib.hid (⟨hB9, b0, b1, b2, hno, he9, hr⟩ : _ ∧ _ ∧ _ ∧ _ ∧ _ ∧ _ ∧ _)
    have hcase : n = 0 ∨ (¬ n = 0 ∧ (4 : Int) < (n : Int) ∧ 4 < n) := by omega
    clear hwa hwb hw0 hw9 hsa hsb hs0 hB0 br0 br1 br2 he hd hgood hno hr b0 b1 b2 hB9 he9
    rcases hcase with h0 | ⟨g1, g2, g3⟩
    · subst h0
      gi_wp2_with fail
      rw [← HB.out.2.2.2.2.2.1, ← HB.out.2.2.2.2.2.2]
      obtain ⟨hB9, b0, b1, b2, hno, -, -⟩ := HB.out
      refine leaves_marks (B := w.heap.size) [] w9 ⟨List.nodup_nil, fun d hd => by cases hd⟩ fun w' hw' => ⟨.tuple #[.slice none 0 0, .complex .f64 0 0, .int .i64 2], ?_, .inr ⟨hno, rfl⟩, hB9.trans hw'.1⟩
      have hc0 := (show Boxed w' r 23 _ from hw'.2 _ _ b0 rfl).cell
      have hc1 := (show Boxed w' (r + 1) 68 _ from hw'.2 _ _ b1 rfl).cell
      have hc2 := (show Boxed w' (r + 2) 25 _ from hw'.2 _ _ b2 rfl).cell
      clear hB9 b0 b1 b2 hno hw'
      simp [results, Tryz.results151, go_sem, hc0, hc1, hc2]
    · gi_wp2_with fail
      rw [← HB.out.2.2.2.2.2.1, ← HB.out.2.2.2.2.2.2]
      obtain ⟨hB9, b0, b1, b2, hno, -, -⟩ := HB.out
      refine leaves_marks (B := w.heap.size) [] w9 ⟨List.nodup_nil, fun d hd => by cases hd⟩ fun w' hw' => ⟨.tuple #[.slice none 0 0, .complex .f64 0 0, .int .i64 2], ?_, .inr ⟨hno, rfl⟩, hB9.trans hw'.1⟩
      have hc0 := (show Boxed w' r 23 _ from hw'.2 _ _ b0 rfl).cell
      have hc1 := (show Boxed w' (r + 1) 68 _ from hw'.2 _ _ b1 rfl).cell
      have hc2 := (show Boxed w' (r + 2) 25 _ from hw'.2 _ _ b2 rfl).cell
      clear hB9 b0 b1 b2 hno hw'
      simp [results, Tryz.results151, go_sem, hc0, hc1, hc2]

theorem block_any {x y : Nat} {p : Int × Int} (A : Option Addr) (n c : Nat) (l : List EnP) (w : World) (hp : Ga.From x y p) (hl : Es w w.heap.size A n l) (hn : n ≤ 1000000) :
    Calls Tryz.prog 151 #[.complex .f64 x y, .slice A n c] w (BlkT w p l) := callsIn_wide.1 (block_in A n c l w hp hl hn)

end Go.Proofs.YtcpdjhkpmaamdaaGreat
