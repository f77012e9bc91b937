/-
  one.Put: its contract.
-/
import Derived.Test.YtlblfpfdebmcgaaDoorPutsI
namespace Go.Proofs.YtlblfpfdebmcgaaDoor
open Go.RowKit Go.Shelf
set_option linter.unusedVariables false

attribute [local go_sem] Oper.semAt_some

/-- Between two rounds: the box b holds a row of the call's own of the records so far; the results' boxes hold nothing yet. -/
structure PInv (w : World) (l : List EnP) (r b D : Nat) (pre : List HR) (W : World) : Prop where
  row : ∃ v, Boxed W b 23 v ∧ W.ownsRow w.heap.size 5 1 v (15 * pre.length) ((recsL (l.take pre.length)).map (Value.int .u8))
  all : AllR (l.take pre.length)
  r0 : Boxed W r 23 (.slice none 0 0)
  r1 : Boxed W (r + 1) 25 (.int .i64 0)
  low : Below w.heap.size w W
  size : D ≤ W.heap.size
theorem PInv.own {w : World} {l : List EnP} {r b D : Nat} (hb : b < D) (hr : r + 1 < D) (hw : w.heap.size ≤ D) : OwnT 9 D (PInv w l r b D) := fun _ W W' row h hg hr' => by
  obtain ⟨⟨v, hv, hrow⟩, hall, h0, h1, hlow, hsz⟩ := h
  have hne : ∀ k, k < D → some k ≠ row := fun k hk e => by have := (hr' k e.symm).1; omega
  refine ⟨⟨v, (hg.block b hv.lt (hne b hb)).trans hv, hrow.kept hg (row_ne (by decide) hrow fun r e => (hr' r e).2)⟩, hall, (hg.block r h0.lt (hne r (by omega))).trans h0, (hg.block (r + 1) h1.lt (hne _ hr)).trans h1, ?_, Nat.le_trans hsz hg.size⟩
  exact hlow.grown hg hlow.size (fun k e => by have := (hr' k e).1; omega)
/-- .. and when one may not be. -/
structure PEnd (w : World) (l : List EnP) (r D : Nat) (W : World) : Prop where
  no : ¬ AllR l
  r0 : Boxed W r 23 (.slice none 0 0)
  r1 : Boxed W (r + 1) 25 (.int .i64 2)
  low : Below w.heap.size w W
  size : D ≤ W.heap.size
theorem PEnd.own {w : World} {l : List EnP} {r D : Nat} (hr : r + 1 < D) (hw : w.heap.size ≤ D) (c : Code) : OwnT 9 D (fun (_ : List HR) W => c = Code.ret ∧ PEnd w l r D W) :=
  ownT_low (fun _ _ h => h.2.size) fun _ _ _ h hb => ⟨h.1, h.2.no, (hb.block r (by omega)).trans h.2.r0, (hb.block (r + 1) hr).trans h.2.r1, h.2.low.trans (hb.mono hw), Nat.le_trans h.2.size hb.size⟩
/-- A row of the call's own lies on where marks are taken away. -/
theorem own_marks {w w' : World} {B base : Nat} {e : TypeId} {size : Nat} {v : Value} {n : Nat} {xs : List Value} (h : w.ownsRow base e size v n xs) (hb : CellsKept B w w') : w'.ownsRow base e size v n xs := by
  refine ⟨h.1, ?_⟩
  rcases h.2 with a | ⟨g, cap, cur, e1, hbg, hh, r⟩
  · exact .inl a
  · exact .inr ⟨g, cap, cur, e1, hbg, hb.2 g _ hh rfl, r⟩
/-- 'b = append(b, ..)' at a box of the call's own: what lies behind the store. -/
theorem box_appended {W w1 : World} {n₀ B : Nat} {t e : TypeId} {size : Nat} {v v' : Value} {k m : Nat} {xs ys : List Value}
    (hv : Boxed W B t v) (hte : t ≠ e) (hrow : W.ownsRow n₀ e size v k xs) (hn₀ : n₀ ≤ W.heap.size) (hB : n₀ ≤ B)
    (hown' : w1.ownsRow n₀ e size v' m ys) (hgrow : W.grownBy w1 v.ownBlock) :
    Boxed w1 B t v ∧ Boxed (w1.setCell ⟨B, 0, none⟩ v') B t v' ∧ (w1.setCell ⟨B, 0, none⟩ v').ownsRow n₀ e size v' m ys ∧ KeepsOthers W (w1.setCell ⟨B, 0, none⟩ v') ∧ Below n₀ W (w1.setCell ⟨B, 0, none⟩ v') := by
  have hv1 : Boxed w1 B t v := hv.kept hgrow (hv.not_row hte hrow)
  refine ⟨hv1, hv1.set v', hown'.kept (grownBy_setCell' w1 B v') (.inr (hv1.not_row hte hown').symm), ?_, ?_⟩
  · refine (KeepsOthers.of_grownBy hgrow fun j o ej hj => ?_).trans (KeepsOthers.setCell _ _ _)
    rcases hrow.2 with ⟨rfl, _⟩ | ⟨g, cap, cur, rfl, _, hgb, _⟩
    · simp [Value.ownBlock] at ej
    · obtain rfl : g = j := by simpa [Value.ownBlock] using ej
      rw [hgb] at hj; cases hj; rfl
  · refine ((Below.refl n₀ W).grown hgrow hn₀ fun j ej => ?_).setCell (p := ⟨B, 0, none⟩) hB v'
    rcases hrow.2 with ⟨rfl, _⟩ | ⟨g, cap, cur, rfl, hb, _, _⟩
    · simp [Value.ownBlock] at ej
    · obtain rfl : g = j := by simpa [Value.ownBlock] using ej
      exact hb

set_option maxRecDepth 100000 in
set_option maxHeartbeats 2000000 in
theorem put_in (A : Option Addr) (n c : Nat) (l : List EnP) (w : World) (hT : Cr.Tab w) (hl : Es w w.heap.size A n l) (hn : n ≤ 1000000) :
    CallsIn Fence.wide 4 Tryd.prog 11 #[.slice A n c] w (Tel w (putP l)) := by
  obtain ⟨i0, hi, hz0, hz1, hz2⟩ := info_parts Cr.info_u8
  have Hl := Lib.hid (⟨hl, hT, hl.len⟩ : _ ∧ _ ∧ _)
  clear hl hT
  refine callsIn_of_wp_marks Tryd.func11 rfl trivial ?_ rfl
  simp only [Tryd.ntmps11, List.size_toArray, List.length_cons, List.length_nil, Nat.reduceAdd, Nat.reduceSub, Array.replicate_succ, Array.replicate_zero, List.push_toArray, List.append_toArray, List.nil_append, List.cons_append]
  gi_wp2_with fail
  obtain ⟨r, hr⟩ : ∃ r, r = w.heap.size := ⟨_, rfl⟩
  obtain ⟨wa, hwa⟩ : ∃ wa, wa = w.alloc (.cells #[.slice none 0 0] 23) := ⟨_, rfl⟩
  obtain ⟨wb, hwb⟩ : ∃ wb, wb = wa.alloc (.cells #[.int .i64 0] 25) := ⟨_, rfl⟩
  obtain ⟨w0, hw0⟩ : ∃ w0, w0 = wb.alloc (.cells #[.slice none 0 0] 23) := ⟨_, rfl⟩
  have hsa : wa.heap.size = r + 1 := by rw [hwa, hr]; simp
  have hsb : wb.heap.size = r + 2 := by rw [hwb]; simp [hsa]
  have hs0 : w0.heap.size = r + 3 := by rw [hw0]; simp [hsb]
  have hB0 : Below w.heap.size w w0 := by rw [hw0, hwb, hwa]; exact (((Below.refl _ _).alloc (Nat.le_refl _) _).alloc (by simp) _).alloc (by simp; omega) _
  have br0 : Boxed w0 r 23 (.slice none 0 0) := by
    have h : Boxed wa r 23 (.slice none 0 0) := by rw [hwa, hr]; exact Boxed.new _ _ _
    rw [hw0, hwb]; exact (h.alloc _).alloc _
  have br1 : Boxed w0 (r + 1) 25 (.int .i64 0) := by
    have h : Boxed wb (r + 1) 25 (.int .i64 0) := by rw [hwb, ← hsa]; exact Boxed.new _ _ _
    rw [hw0]; exact h.alloc _
  have bb0 : Boxed w0 (r + 2) 23 (.slice none 0 0) := by rw [hw0, ← hsb]; exact Boxed.new _ _ _
  have he : w0 = ((w.alloc (.cells #[.slice none 0 0] 23)).alloc (.cells #[.int .i64 0] 25)).alloc (.cells #[.slice none 0 0] 23) := by rw [hw0, hwb, hwa]
  rw [← he, ← hr]
  have Hd := Lib.hid (show w.heap.size ≤ r ∧ w0.heap.size = r + 3 by omega)
  clear he hw0 hwb hwa hr hsa hsb hs0
  refine ⟨trivial, ?_⟩
  refine (callsIn_wide.2 (puts_any A n c w0)).mono ?_
  rintro e w1 ⟨rfl, hl1, hs1, hb1⟩
  obtain ⟨sB, hsB⟩ : ∃ sB, sB = w0.heap.size := ⟨_, rfl⟩
  rw [← hsB] at hl1 ⊢
  have hd := Hd.out
  have h0 : PInv w l r (r + 2) w1.heap.size [] w1 := ⟨⟨_, (hb1.block _ bb0.lt).trans bb0, World.ownsRow_nil _ _ _ _⟩, AllR.nil, (hb1.block _ br0.lt).trans br0, (hb1.block _ br1.lt).trans br1, hB0.trans (hb1.mono (by omega)), Nat.le_refl _⟩
  have Hd3 := Lib.hid (show w.heap.size ≤ r ∧ sB = r + 3 ∧ w1.heap.size = sB + 1 by omega)
  have hT1 : 0 < w.heap.size ∧ Cr.Tab w1 := ⟨Hl.out.2.1.1, Hl.out.2.1.on h0.low⟩
  have H0 := Lib.hid (⟨h0, hl1, Hl.out.1.low (w' := w1) (fun k hk => h0.low.block k hk), hT1⟩ : _ ∧ _ ∧ _ ∧ _)
  clear h0 hl1 hs1 hb1 bb0 br0 br1 hB0 hsB hd hT1
  gi_wp2_with fail
  refine range_W 9 rfl (by decide) (gf := 35) (lb := #[.pointer (some ⟨sB, 0, none⟩)]) rfl trivial (enters_of Tryd.func35 (by kernel_rfl) rfl)
    (puts_seq sB w.heap.size hn w1 (by have := Hd3.out; omega) H0.out.2.1 H0.out.2.2.1 H0.out.2.2.2) (fun h h' => h.trans h') (KpL.put (by have := Hd3.out; omega)) (Below.refl _ _) (fun _ => rfl)
    (PInv w l r (r + 2) w1.heap.size) (fun c (_ : List HR) W => c = Code.ret ∧ PEnd w l r w1.heap.size W) (PInv.own (by have := Hd3.out; omega) (by have := Hd3.out; omega) (by have := Hd3.out; omega))
    (PEnd.own (by have := Hd3.out; omega) (by have := Hd3.out; omega)) H0.out.1
    (fun d a' W => MemR d W ∧ a' = { tmps := #[.slice A n c, undef, .pointer (some ⟨r, 0, none⟩), .pointer (some ⟨r + 1, 0, none⟩), .pointer (some ⟨r + 1 + 1, 0, none⟩), .slice d.A d.n d.c, .int .i64 d.er, .slice A n c, .func (.func 35) #[] #[.pointer (some ⟨sB, 0, none⟩)], .slice d.A d.n d.c, .int .i64 d.er, undef, undef, undef, undef, undef, undef, undef], defers := [] })
    (fun _ _ _ _ _ _ h hi ho => ⟨h.1.put hi ho, h.2⟩) ?assign ?body ?done ?stop
  case assign =>
    intro lp pre d W hI hok
    gi_wp2
    exact ⟨KeepsFrom.refl _ _, KpL.refl _ _, hI, hok.2, by first | rfl | trivial⟩
  case body =>
    rintro lp pre d a' W hI ⟨hm, rfl⟩ ⟨_, hok, _⟩
    rcases hm with ⟨hR, h15, h0, hrd⟩ | ⟨hR, h2⟩
    · rw [h15, h0]
      obtain ⟨v, hv, hrow⟩ := hI.row
      have hc := hv.cell
      obtain ⟨b, off, hA, hbl, hcell⟩ := hrd.at_ (by omega)
      rw [hA] at hrd ⊢
      have hcs := hrd.cells
      have HI := Lib.hid (⟨hI, hR, hok, hcs⟩ : _ ∧ _ ∧ _ ∧ _)
      have Hlen := Lib.hid (show 15 * pre.length ≤ 15000000 by
        have h2 := (List.getElem?_eq_some_iff.1 hok).1
        have h3 := Hl.out.2.2
        omega)
      clear hI hR h15 h0 hok hcell hbl hcs hA
      gi_wp2_with (gi_at_builtin; refine hold ?_)
      refine unhold (wpListIn_append_own _ rfl _ _ 23 rfl w.heap.size 5 i0 (.int .u8 0) 1 1 Tryd.underlying23 hi hz0 hz1 hz2 rfl (by decide) _ _ _ rfl hrow ⟨b, off, none⟩ 15 d.c ((recL d.e).map (Value.int .u8)) rfl (by rw [List.length_map, recL_length]) HI.out.2.2.2 (fun u hu => by obtain ⟨x, _, rfl⟩ := List.mem_map.1 hu; rfl) (by have := Hlen.out; unfold maxLen; omega) (by have := Hlen.out; omega) HI.out.1.low.size ?_)
      intro v' w3 hown' hgrow _
      obtain ⟨A', c', rfl, _, _⟩ := own_rd (l := recsL (l.take pre.length) ++ recL d.e) (by rw [List.map_append]; exact hown')
      obtain ⟨hv1, hv2, hr2, hk2, hb2⟩ := box_appended hv (by decide) hrow HI.out.1.low.size (by have := Hd3.out; omega) hown' hgrow
      have hc1 := hv1.cell
      have hf1 := hv1.frozen
      have c0 : Boxed (w3.setCell ⟨r + 2, 0, none⟩ (.slice A' (15 * pre.length + 15) c')) r 23 (.slice none 0 0) := (HI.out.1.r0.kept hgrow (HI.out.1.r0.not_row (by decide) hrow)).other (by omega) _
      have c1 : Boxed (w3.setCell ⟨r + 2, 0, none⟩ (.slice A' (15 * pre.length + 15) c')) (r + 1) 25 (.int .i64 0) := (HI.out.1.r1.kept hgrow (HI.out.1.r1.not_row (by decide) hrow)).other (by omega) _
      have H3 := Lib.hid (⟨hv2, hr2, hk2, hb2, c0, c1⟩ : _ ∧ _ ∧ _ ∧ _ ∧ _ ∧ _)
      clear hv1 hv2 hr2 hk2 hb2 hgrow hown' hc hv hrow c0 c1
      gi_wp2_with fail
      obtain ⟨hI, hR, hok, _⟩ := HI.out
      obtain ⟨hv2, hr2, hk2, hb2, c0, c1⟩ := H3.out
      have hd := Hd3.out
      have hlen : (pre ++ [d]).length = pre.length + 1 := by simp
      refine ⟨hk2.from _, fun i hi => hb2.block i (by omega), ⟨⟨_, hv2, ?_⟩, ?_, c0, c1, hI.low.trans hb2, Nat.le_trans hI.size hk2.size⟩⟩
      · rw [hlen, take_succ hok, recsL_snoc, List.map_append, Nat.mul_succ]
        exact hr2
      · rw [hlen, take_succ hok]
        exact all_snoc_r.2 ⟨hI.all, hR⟩
    · rw [h2]
      have f0 := hI.r0.frozen
      have f1 := hI.r1.frozen
      have q0 := hI.r0.cell
      have q1 := hI.r1.cell
      have HI := Lib.hid (⟨hI, all_no hok hR⟩ : _ ∧ _)
      clear hI hR h2 hok
      gi_wp2_with fail
      obtain ⟨hI, hno⟩ := HI.out
      have hd := Hd3.out
      have g1 := set_grown W r (.slice none 0 0)
      have g2 := set_grown (W.setCell ⟨r, 0, none⟩ (.slice none 0 0)) (r + 1) (.int .i64 2)
      refine ⟨(KeepsFrom.of_grownBy g1 (fun k e => by cases e; omega)).trans (KeepsFrom.of_grownBy g2 (fun k e => by cases e; omega)), rfl, hno, ?_, ?_, (hI.low.setCell (by show w.heap.size ≤ r; omega) _).setCell (by show w.heap.size ≤ r + 1; omega) _, by have := g1.size; have := g2.size; have := hI.size; omega⟩
      · exact (hI.r0.set _).other (by omega) _
      · exact (hI.r1.other (by omega) _).set _
  case done =>
    rintro D ys W hD2 hlen hI hK
    have hfull : l.take ys.length = l := List.take_of_length_le (by omega)
    obtain ⟨v, hv, hrow⟩ := hI.row
    have hall := hI.all
    rw [hfull] at hrow hall
    rw [hlen] at hrow
    have f0 := hI.r0.frozen
    have f1 := hI.r1.frozen
    have q0 := hI.r0.cell
    have q1 := hI.r1.cell
    have hc := hv.cell
    obtain ⟨A', c', rfl, _, _⟩ := own_rd hrow
    have HI := Lib.hid (⟨hI, hall, hrow⟩ : _ ∧ _ ∧ _)
    have HK := Lib.hid (⟨hK, hD2⟩ : _ ∧ _)
    clear hI hK hD2 hall hrow hv hfull hlen
    gi_wp2_with fail
    obtain ⟨hI, hall, hrow⟩ := HI.out
    have hd := Hd3.out
    have g1 := set_grown W r (.slice A' (15 * l.length) c')
    have g2 := set_grown (W.setCell ⟨r, 0, none⟩ (.slice A' (15 * l.length) c')) (r + 1) (.int .i64 0)
    have b0 : Boxed ((W.setCell ⟨r, 0, none⟩ (.slice A' (15 * l.length) c')).setCell ⟨r + 1, 0, none⟩ (.int .i64 0)) r 23 (.slice A' (15 * l.length) c') := (hI.r0.set _).other (by omega) _
    have b1 : Boxed ((W.setCell ⟨r, 0, none⟩ (.slice A' (15 * l.length) c')).setCell ⟨r + 1, 0, none⟩ (.int .i64 0)) (r + 1) 25 (.int .i64 0) := (hI.r1.other (by omega) _).set _
    have hrow2 := (hrow.kept g1 (.inr (hI.r0.not_row (by decide) hrow).symm)).kept g2 (.inr (hI.r1.not_row (by decide) hrow).symm)
    have hlow : Below w.heap.size w ((W.setCell ⟨r, 0, none⟩ (.slice A' (15 * l.length) c')).setCell ⟨r + 1, 0, none⟩ (.int .i64 0)) := (hI.low.setCell (by show w.heap.size ≤ r; omega) _).setCell (by show w.heap.size ≤ r + 1; omega) _
    refine leaves_marks (B := w.heap.size) [D] _ ⟨by simp, fun d hd => ?_⟩ fun w' hw' => ⟨.tuple #[.slice A' (15 * l.length) c', .int .i64 0], ?_, Tel.some_ (putP_yes hall) (recsL_length l) (own_marks hrow2 hw') (hlow.trans hw'.1)⟩
    · obtain rfl : d = D := by simpa using hd
      have := HK.out.2
      have hlt := (Array.getElem?_eq_some_iff.1 HK.out.1).1
      exact ⟨by omega, ((g2.block d (by have := g1.size; omega) (by simp; omega)).trans (g1.block d hlt (by simp; omega))).trans HK.out.1⟩
    · have b0' : Boxed w' r 23 (.slice A' (15 * l.length) c') := hw'.2 _ _ b0 rfl
      have b1' : Boxed w' (r + 1) 25 (.int .i64 0) := hw'.2 _ _ b1 rfl
      have hc0 := b0'.cell
      have hc1 := b1'.cell
      clear hd b0 b1 b0' b1' g1 g2 hrow2 hlow q0 q1 f0 f1 hc hI hall hrow
      simp [results, Tryd.results11, go_sem, *]
  case stop =>
    rintro D cc pre W hD2 ⟨rfl, hI⟩ hK
    have HI := Lib.hid hI
    have HK := Lib.hid (⟨hK, hD2⟩ : _ ∧ _)
    clear hI hK hD2
    gi_wp2_with fail
    have hd := Hd3.out
    refine leaves_marks (B := w.heap.size) [D] _ ⟨by simp, fun d hd => ?_⟩ fun w' hw' => ⟨.tuple #[.slice none 0 0, .int .i64 2], ?_, Tel.none_ (putP_no HI.out.no) (HI.out.low.trans hw'.1)⟩
    · obtain rfl : d = D := by simpa using hd
      have := HK.out.2
      exact ⟨by omega, HK.out.1⟩
    · have b0' : Boxed w' r 23 (.slice none 0 0) := hw'.2 _ _ HI.out.r0 rfl
      have b1' : Boxed w' (r + 1) 25 (.int .i64 2) := hw'.2 _ _ HI.out.r1 rfl
      have hc0 := b0'.cell
      have hc1 := b1'.cell
      clear hd
      simp [results, Tryd.results11, go_sem, *]

theorem put_any (A : Option Addr) (n c : Nat) (l : List EnP) (w : World) (hT : Cr.Tab w) (hl : Es w w.heap.size A n l) (hn : n ≤ 1000000) :
    Calls Tryd.prog 11 #[.slice A n c] w (Tel w (putP l)) := callsIn_wide.1 (put_in A n c l w hT hl hn)

end Go.Proofs.YtlblfpfdebmcgaaDoor
