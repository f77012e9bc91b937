/-
  two.put: its contract.
-/
import Derived.Test.YtcpdjhkpmaamdaaGreatBlk
namespace Go.Proofs.YtcpdjhkpmaamdaaGreat
open Go.RowKit Go.Shelf
set_option linter.unusedVariables false

attribute [local go_sem] Oper.semAt_some Ga.run_store_complex

theorem row_put {α : Type} {m : Nat} {cs : α → List Value} (hm : ∀ x, (cs x).length = m) {W : World} {i : Nat} {o o' : Obj} (hi : W.heap[i]? = some o) (ho : o.isCells = false) {B n : Nat} {A : Option Addr} {l : List α} (h : Row m cs W B A n l) : Row m cs (W.putObj i o') B A n l := by
  refine ⟨h.1, fun hn => ?_⟩
  obtain ⟨b, off, e, hlt, hc⟩ := h.2 hn
  refine ⟨b, off, e, hlt, fun j x hj k hk => ?_⟩
  have h1 := hc j x hj k hk
  rw [List.getElem?_eq_getElem (by rw [hm]; exact hk)] at h1 ⊢
  exact cell_put hi ho h1
theorem blks_le {p : Int × Int} {cs : List (List EnP)} (h : Good cs) : (blksL p cs).length ≤ 65 * cs.length := by
  induction cs generalizing p with
  | nil => simp [blksL]
  | cons c cs ih =>
    have h1 := shorts_le h.cons.1.2.2
    have h2 := h.cons.1.2.1
    have h3 := ih (p := endP p c) h.cons.2
    rw [blksL, List.length_append, block_length, List.length_cons]
    omega
theorem blks_snoc (p : Int × Int) (cs : List (List EnP)) (c : List EnP) : blksL p (cs ++ [c]) = blksL p cs ++ blockL (blksE p cs) c ∧ blksE p (cs ++ [c]) = endP (blksE p cs) c := by
  rw [blksL_append, blksE_append]
  exact ⟨by simp [blksL], rfl⟩

/-- put's answer. -/
def PutT (w : World) (p : Int × Int) (l : List EnP) (e : Ending) (w' : World) : Prop :=
  ((allR l = true ∧ ∃ A c n, e = .returned (.tuple #[.slice A n c, .int .i64 0]) ∧ (blksL p (chunks 4 l)).length = n ∧ Rd w' w'.heap.size .u8 A n (blksL p (chunks 4 l))) ∨
    (allR l = false ∧ e = .returned (.tuple #[.slice none 0 0, .int .i64 2]))) ∧ Below w.heap.size w w'

/-- Between two rounds. -/
structure QInv (w : World) (p : Int × Int) (r D D1 : Nat) (vs vk : Value) (pre : List HC) (W : World) : Prop where
  z : ∃ x y, Boxed W r 68 (.complex .f64 x y) ∧ Ga.From x y (blksE p (pre.map HC.l))
  row : ∃ v, Boxed W (r + 3) 23 v ∧ W.ownsRow w.heap.size 5 1 v (blksL p (pre.map HC.l)).length ((blksL p (pre.map HC.l)).map (Value.int .u8))
  good : Good (pre.map HC.l)
  r1 : Boxed W (r + 1) 23 (.slice none 0 0)
  r2 : Boxed W (r + 2) 25 (.int .i64 0)
  d0 : Boxed W D 22 vs
  d1 : Boxed W (D + 1) 3 vk
  low : Below w.heap.size w W
  size : D1 ≤ W.heap.size
theorem QInv.own {w : World} {p : Int × Int} {r D D1 : Nat} {vs vk : Value} (hr : r + 3 < D1) (hD : D + 1 < D1) (hw : w.heap.size ≤ D1) : OwnT 9 D1 (QInv w p r D D1 vs vk) := fun _ W W' row h hg hr' => by
  obtain ⟨⟨x, y, hz, hfr⟩, ⟨v, hv, hrow⟩, hgood, h1, h2, h3, h4, hlow, hsz⟩ := h
  have hne : ∀ k, k < D1 → some k ≠ row := fun k hk e => by have := (hr' k e.symm).1; omega
  refine ⟨⟨x, y, (hg.block r hz.lt (hne r (by omega))).trans hz, hfr⟩, ⟨v, (hg.block _ hv.lt (hne _ hr)).trans hv, hrow.kept hg (row_ne (by decide) hrow fun r e => (hr' r e).2)⟩, hgood, (hg.block _ h1.lt (hne _ (by omega))).trans h1, (hg.block _ h2.lt (hne _ (by omega))).trans h2, (hg.block _ h3.lt (hne _ (by omega))).trans h3, (hg.block _ h4.lt (hne _ hD)).trans h4, ?_, Nat.le_trans hsz hg.size⟩
  exact hlow.grown hg hlow.size (fun k e => by have := (hr' k e).1; omega)
structure QEnd (w : World) (l : List EnP) (r D1 : Nat) (W : World) : Prop where
  no : allR l = false
  r1 : Boxed W (r + 1) 23 (.slice none 0 0)
  r2 : Boxed W (r + 2) 25 (.int .i64 2)
  low : Below w.heap.size w W
  size : D1 ≤ W.heap.size
theorem QEnd.own {w : World} {l : List EnP} {r D1 : Nat} (hr : r + 2 < D1) (hw : w.heap.size ≤ D1) (c : Code) : OwnT 9 D1 (fun (_ : List HC) W => c = Code.ret ∧ QEnd w l r D1 W) :=
  ownT_low (fun _ _ h => h.2.size) fun _ _ _ h hb => ⟨h.1, h.2.no, (hb.block _ (by omega)).trans h.2.r1, (hb.block (r + 2) hr).trans h.2.r2, h.2.low.trans (hb.mono hw), Nat.le_trans h.2.size hb.size⟩
theorem chunk_right {l : List EnP} {pre : List HC} {x : HC} (h : x.l = (l.drop (4 * pre.length)).take 4) (hne : l.drop (4 * pre.length) ≠ []) : (allR l = true → GoodC x.l) ∧ (¬ GoodC x.l → allR l = false) := by
  have h1 : allR l = true → GoodC x.l := fun ha => by
    have h0 : 0 < (l.drop (4 * pre.length)).length := List.length_pos_iff.2 hne
    refine ⟨by rw [h, List.length_take]; omega, by rw [h]; exact List.length_take_le _ _, by rw [h]; exact allR_take (allR_drop ha _) _⟩
  exact ⟨h1, fun hn => by cases ha : allR l; rfl; exact absurd (h1 ha) hn⟩
theorem allR_flat {cs : List (List EnP)} (h : Good cs) : allR cs.flatten = true := List.all_eq_true.2 fun x hx => by
  obtain ⟨c, hc, hx⟩ := List.mem_flatten.1 hx
  exact List.all_eq_true.1 (h c hc).2.2 x hx

set_option maxRecDepth 100000 in
set_option maxHeartbeats 2000000 in
theorem put_inTw {x y : Nat} {p : Int × Int} (A : Option Addr) (n c : Nat) (l : List EnP) (w : World) (hp : Ga.From x y p) (hl : Es w w.heap.size A n l) (hnc : n ≤ c) (hn : n ≤ 1000000) :
    CallsIn Fence.wide 4 Tryz.prog 145 #[.complex .f64 x y, .slice A n c] w (PutT w p l) := by
  obtain ⟨i0, hi, hz0, hz1, hz2⟩ := info_parts Ga.info_u8
  have Hl := Lib.hid (⟨hl, hp, hl.len⟩ : _ ∧ _ ∧ _)
  clear hl hp
  refine callsIn_of_wp_marks Tryz.func145 rfl trivial ?_ rfl
  simp only [Tryz.ntmps145, List.size_toArray, List.length_cons, List.length_nil, Nat.reduceAdd, Nat.reduceSub, Array.replicate_succ, Array.replicate_zero, List.push_toArray, List.append_toArray, List.nil_append, List.cons_append]
  obtain ⟨r, hr⟩ : ∃ r, r = w.heap.size := ⟨_, rfl⟩
  obtain ⟨wa, hwa⟩ : ∃ wa, wa = w.alloc (.cells #[.complex .f64 x y] 68) := ⟨_, rfl⟩
  obtain ⟨wb, hwb⟩ : ∃ wb, wb = wa.alloc (.cells #[.slice none 0 0] 23) := ⟨_, rfl⟩
  obtain ⟨wc, hwc⟩ : ∃ wc, wc = wb.alloc (.cells #[.int .i64 0] 25) := ⟨_, rfl⟩
  obtain ⟨w0, hw0⟩ : ∃ w0, w0 = wc.alloc (.cells #[.slice none 0 0] 23) := ⟨_, rfl⟩
  have hsa : wa.heap.size = r + 1 := by rw [hwa, hr]; simp
  have hsb : wb.heap.size = r + 2 := by rw [hwb]; simp [hsa]
  have hsc : wc.heap.size = r + 3 := by rw [hwc]; simp [hsb]
  have hs0 : w0.heap.size = r + 4 := by rw [hw0]; simp [hsc]
  have hB0 : Below w.heap.size w w0 := by rw [hw0, hwc, hwb, hwa]; exact ((((Below.refl _ _).alloc (Nat.le_refl _) _).alloc (by simp) _).alloc (by simp; omega) _).alloc (by simp; omega) _
  have bz : Boxed w0 r 68 (.complex .f64 x y) := by
    have h : Boxed wa r 68 (.complex .f64 x y) := by rw [hwa, hr]; exact Boxed.new _ _ _
    rw [hw0, hwc, hwb]; exact ((h.alloc _).alloc _).alloc _
  have br1 : Boxed w0 (r + 1) 23 (.slice none 0 0) := by
    have h : Boxed wb (r + 1) 23 (.slice none 0 0) := by rw [hwb, ← hsa]; exact Boxed.new _ _ _
    rw [hw0, hwc]; exact (h.alloc _).alloc _
  have br2 : Boxed w0 (r + 2) 25 (.int .i64 0) := by
    have h : Boxed wc (r + 2) 25 (.int .i64 0) := by rw [hwc, ← hsb]; exact Boxed.new _ _ _
    rw [hw0]; exact h.alloc _
  have br3 : Boxed w0 (r + 3) 23 (.slice none 0 0) := by rw [hw0, ← hsc]; exact Boxed.new _ _ _
  have he : w0 = (((w.alloc (.cells #[.complex .f64 x y] 68)).alloc (.cells #[.slice none 0 0] 23)).alloc (.cells #[.int .i64 0] 25)).alloc (.cells #[.slice none 0 0] 23) := by rw [hw0, hwc, hwb, hwa]
  have Hd := Lib.hid (show w.heap.size ≤ r ∧ w0.heap.size = r + 4 by omega)
  have HB := Lib.hid (⟨hB0, bz, br1, br2, br3⟩ : _ ∧ _ ∧ _ ∧ _ ∧ _)
  have HE := Lib.hid (⟨he, hr⟩ : _ ∧ _)
  clear hwa hwb hwc hw0 hsa hsb hsc hs0 hB0 bz br1 br2 br3 he hr
  gi_wp2_with fail
  rw [← HE.out.1, ← HE.out.2]
  refine ⟨trivial, ?_⟩
  refine (callsIn_wide.2 (chunkC_any A n c w0)).mono ?_
  rintro e w2 ⟨rfl, hl2, hk2, hs2, hb2⟩
  obtain ⟨D, hD⟩ : ∃ D, D = w0.heap.size := ⟨_, rfl⟩
  rw [← hD] at hl2 hk2 ⊢
  have hd := Hd.out
  have h0 : QInv w p r D w2.heap.size (.slice A n c) (.int .i64 4) [] w2 := by
    obtain ⟨hB1, bz, br1, br2, br3⟩ := HB.out
    exact ⟨⟨x, y, (hb2.block _ bz.lt).trans bz, Hl.out.2.1⟩, ⟨_, (hb2.block _ br3.lt).trans br3, World.ownsRow_nil _ _ _ _⟩, Good.nil, (hb2.block _ br1.lt).trans br1, (hb2.block _ br2.lt).trans br2, hl2, hk2, hB1.trans (hb2.mono (by omega)), Nat.le_refl _⟩
  have Hd3 := Lib.hid (show w.heap.size ≤ r ∧ D = r + 4 ∧ w2.heap.size = D + 2 by omega)
  have H0 := Lib.hid (⟨h0, hl2, hk2, Hl.out.1.low (w' := w2) (fun k hk => h0.low.block k hk)⟩ : _ ∧ _ ∧ _ ∧ _)
  clear h0 hl2 hk2 hs2 hb2 hD hd
  gi_wp2_with fail
  refine range_W 9 rfl (by decide) (gf := 158) (lb := #[.pointer (some ⟨D, 0, none⟩), .pointer (some ⟨D + 1, 0, none⟩)]) rfl trivial (enters_of Tryz.func158 (by kernel_rfl) rfl)
    (chunkC_seq D w.heap.size (by omega) hnc w2 (by have := Hd3.out; omega) H0.out.2.1 H0.out.2.2.1 H0.out.2.2.2) (fun h h' => h.trans h') (KpD.put (by have := Hd3.out; omega) (by have := Hd3.out; omega)) (Below.refl _ _) (fun _ => rfl)
    (QInv w p r D w2.heap.size (.slice A n c) (.int .i64 4)) (fun c (_ : List HC) W => c = Code.ret ∧ QEnd w l r w2.heap.size W) (QInv.own (by have := Hd3.out; omega) (by have := Hd3.out; omega) (by have := Hd3.out; omega))
    (QEnd.own (by have := Hd3.out; omega) (by have := Hd3.out; omega)) H0.out.1
    (fun d a' W => Es W w.heap.size d.A d.n d.l ∧ a' = { tmps := #[.complex .f64 x y, .slice A n c, .pointer (some ⟨r, 0, none⟩), undef, .pointer (some ⟨r + 1, 0, none⟩), .pointer (some ⟨r + 1 + 1, 0, none⟩), .pointer (some ⟨r + 1 + 1 + 1, 0, none⟩), .slice d.A d.n d.n, undef, undef, undef, .slice A n c, .func (.func 158) #[] #[.pointer (some ⟨D, 0, none⟩), .pointer (some ⟨D + 1, 0, none⟩)], .slice d.A d.n d.n, undef, undef, undef, undef, undef, undef, undef, undef, undef, undef, undef, undef, undef, undef, undef], defers := [] })
    (fun _ _ _ _ _ _ h hi ho => ⟨row_put EnP.len hi ho h.1, h.2⟩) ?assign ?body ?done ?stop
  case assign =>
    intro lp pre d W hI hok
    gi_wp2
    exact ⟨KeepsFrom.refl _ _, KpD.refl _ _ _, hI, hok.2.2.2.2, by first | rfl | trivial⟩
  case body =>
    rintro lp pre d a' W hI ⟨hes, rfl⟩ ⟨_, hch, hdl, hne, hdn, _⟩
    obtain ⟨dA, dn, dl⟩ := d
    dsimp only at hes hch hdl hne hdn
    dsimp only
    obtain ⟨zx, zy, hz, hfr⟩ := hI.z
    have cz := hz.cell
    have hlen4 : dl.length ≤ 4 := by rw [hdl]; exact List.length_take_le _ _
    have hpl : 4 * pre.length < n := by
      have h1 : 0 < (l.drop (4 * pre.length)).length := List.length_pos_iff.2 hne
      rw [List.length_drop, Hl.out.2.2] at h1
      omega
    have HI := Lib.hid (⟨hI, hes, hch, hdl, hne, hdn, hfr, hz, hpl⟩ : _ ∧ _ ∧ _ ∧ _ ∧ _ ∧ _ ∧ _ ∧ _ ∧ _)
    have hdn4 : dn ≤ 1000000 := by omega
    clear hI hes hch hdl hne hdn hfr hz hlen4 hpl
    gi_wp2_with fail
    refine ⟨trivial, ?_⟩
    refine (callsIn_wide.2 (block_any dA dn dn dl W HI.out.2.2.2.2.2.2.1 (HI.out.2.1.on (Below.refl _ _) HI.out.1.low.size) hdn4)).mono ?_
    rintro e w3 ⟨hB, hb3⟩
    obtain ⟨hI, hes, hch, hdl, hne, hdn, hfr, hz, hpl⟩ := HI.out
    have hd := Hd3.out
    have hcr := chunk_right (x := ⟨dA, dn, dl⟩) hdl hne
    have lo3 : Below w.heap.size w w3 := hI.low.trans (hb3.mono hI.low.size)
    have bz3 := (hb3.block _ hz.lt).trans hz
    have b13 : Boxed w3 (r + 1) 23 (.slice none 0 0) := (hb3.block _ hI.r1.lt).trans hI.r1
    have b23 : Boxed w3 (r + 2) 25 (.int .i64 0) := (hb3.block _ hI.r2.lt).trans hI.r2
    have d03 : Boxed w3 D 22 (.slice A n c) := (hb3.block _ hI.d0.lt).trans hI.d0
    have d13 : Boxed w3 (D + 1) 3 (.int .i64 4) := (hb3.block _ hI.d1.lt).trans hI.d1
    have k03 : KeepsFrom w2.heap.size W w3 := KeepsFrom.of_grownBy (grown_of hb3) (fun k e => by cases e)
    have kd3 : KpD w.heap.size D W w3 := KpD.below hb3 hI.low.size hI.d1.lt
    rcases hB with ⟨hg, B, cB, m, ex, ey, rfl, hm, hrd, hpt, -⟩ | ⟨hg, rfl⟩
    · obtain ⟨v, hv, hrow⟩ := hI.row
      have hv3 : Boxed w3 (r + 3) 23 v := (hb3.block _ hv.lt).trans hv
      have hrow3 := own_keepTw hrow hb3
      obtain ⟨N, hN⟩ : ∃ N, (blksL p (pre.map HC.l)).length = N := ⟨_, rfl⟩
      have hNle : N ≤ 65000000 := by
        have h1 := blks_le (p := p) hI.good
        rw [hN, List.length_map] at h1
        omega
      have hmle : 6 ≤ m ∧ m ≤ 65 := by
        have h1 := block_length (blksE p (pre.map HC.l)) dl
        have h2 := shorts_le hg.2.2
        have h3 := hg.1
        have h4 := hg.2.1
        rw [hm] at h1
        have h5 : 1 ≤ (Nu.shortsOf (numsL dl)).length := by
          cases dl with
          | nil => simp at h3
          | cons e dl =>
            have h6 := shorts_pos (e := e) (by have := hg.2.2; rw [allR_cons, Bool.and_eq_true] at this; exact this.1)
            rw [show numsL (e :: dl) = nums e ++ numsL dl from rfl]
            unfold Nu.shortsOf at h6 ⊢
            rw [List.flatMap_append, List.length_append]
            omega
        omega
      rw [hN] at hrow3
      have cv := hv3.cell
      obtain ⟨b, off, hBe, hbl, hcell⟩ := hrd.at_ (by omega)
      subst hBe
      have hcs := hrd.cells
      have H3 := Lib.hid (⟨hg, hm, hpt, lo3, bz3, b13, b23, d03, d13, k03, kd3, hcs, hN, hI⟩ : _ ∧ _ ∧ _ ∧ _ ∧ _ ∧ _ ∧ _ ∧ _ ∧ _ ∧ _ ∧ _ ∧ _ ∧ _ ∧ _)
      clear hg hm hpt lo3 bz3 b13 b23 d03 d13 k03 kd3 hcs hN hI hes hch hdl hne hdn hfr hz hpl hcr hb3 hv hrow hcell hbl hrd cz hd
      gi_wp2_with (gi_at_builtin; refine hold ?_)
      refine unhold (wpListIn_append_own _ rfl _ _ 23 rfl w.heap.size 5 i0 (.int .u8 0) 1 1 Tryz.underlying23 hi hz0 hz1 hz2 rfl (by decide) _ _ _ rfl hrow3 ⟨b, off, none⟩ m cB ((blockL (blksE p (pre.map HC.l)) dl).map (Value.int .u8)) rfl (by rw [List.length_map, H3.out.2.1, Nat.mul_one]) H3.out.2.2.2.2.2.2.2.2.2.2.2.1 (fun u hu => by obtain ⟨x, _, rfl⟩ := List.mem_map.1 hu; rfl) (by unfold maxLen; omega) (by omega) H3.out.2.2.2.1.size ?_)
      intro v' w4 hown' hgrow _
      obtain ⟨hg, hm, hpt, lo3, bz3, b13, b23, d03, d13, k03, kd3, hcs, hN, hI⟩ := H3.out
      obtain ⟨A', c', rfl, _, _⟩ := own_rd (l := blksL p (pre.map HC.l) ++ blockL (blksE p (pre.map HC.l)) dl) (by rw [List.map_append]; exact hown')
      obtain ⟨hv1, hv2, hr2, hk2, hb2⟩ := box_appendedTw hv3 (by decide) hrow3 lo3.size (by have := Hd3.out; omega) hown' hgrow
      have hc1 := hv1.cell
      have hf1 := hv1.frozen
      have other : ∀ {k : Nat} {t : TypeId} {u : Value}, Boxed w3 k t u → t ≠ 5 → k ≠ r + 3 → Boxed (w4.setCell ⟨r + 3, 0, none⟩ (.slice A' (N + m) c')) k t u := fun h ht hk => (h.kept hgrow (h.not_row ht hrow3)).other hk _
      have zz := other bz3 (by decide) (by omega)
      have c1 := other b13 (by decide) (by omega)
      have c2 := other b23 (by decide) (by omega)
      have e0 := other d03 (by decide) (by have := Hd3.out; omega)
      have e1 := other d13 (by decide) (by have := Hd3.out; omega)
      have zf := zz.frozen
      have zc := zz.cell
      have H4 := Lib.hid (⟨hv2, hr2, hk2, hb2, zz, c1, c2, e0, e1⟩ : _ ∧ _ ∧ _ ∧ _ ∧ _ ∧ _ ∧ _ ∧ _ ∧ _)
      clear hv1 hv2 hr2 hk2 hb2 hgrow hown' zz c1 c2 e0 e1 other hg hm hpt lo3 bz3 b13 b23 d03 d13 k03 kd3 hcs hN hI cv hv3 hrow3
      gi_wp2_with fail
      obtain ⟨hg, hm, hpt, lo3, bz3, b13, b23, d03, d13, k03, kd3, hcs, hN, hI⟩ := H3.out
      obtain ⟨hv2, hr2, hk2, hb2, zz, c1, c2, e0, e1⟩ := H4.out
      have hd := Hd3.out
      have gz := grownBy_setCell' (w4.setCell ⟨r + 3, 0, none⟩ (.slice A' (N + m) c')) r (.complex .f64 ex ey)
      have hmap : (pre ++ [(⟨dA, dn, dl⟩ : HC)]).map HC.l = pre.map HC.l ++ [dl] := by simp
      obtain ⟨hs1, hs2⟩ := blks_snoc p (pre.map HC.l) dl
      have lo5 : Below w.heap.size w ((w4.setCell ⟨r + 3, 0, none⟩ (.slice A' (N + m) c')).setCell ⟨r, 0, none⟩ (.complex .f64 ex ey)) := (lo3.trans hb2).setCell (p := ⟨r, 0, none⟩) (by show w.heap.size ≤ r; omega) _
      refine ⟨(k03.trans (hk2.from _)).trans (KeepsFrom.of_grownBy gz (fun k e => by cases e; omega)), ⟨fun k hk => (gz.block k (by have := lo3.size; have := hk2.size; omega) (by simp; omega)).trans ((hb2.block k hk).trans (kd3.1 k hk)), (e0.other (by omega) _).trans hI.d0.symm, (e1.other (by omega) _).trans hI.d1.symm, Nat.le_trans kd3.2.2.2 (Nat.le_trans hk2.size gz.size)⟩,
        ⟨⟨ex, ey, zz.set _, ?_⟩, ⟨_, hv2.other (by omega) _, ?_⟩, ?_, c1.other (by omega) _, c2.other (by omega) _, e0.other (by omega) _, e1.other (by omega) _, lo5, Nat.le_trans hI.size (Nat.le_trans kd3.2.2.2 (Nat.le_trans hk2.size gz.size))⟩⟩
      · rw [hmap, hs2]; exact .inl hpt
      · rw [hmap, hs1, List.map_append, List.length_append, hN, hm]
        exact hr2.kept gz (.inr (zz.not_row (by decide) hr2).symm)
      · rw [hmap]
        exact hI.good.append fun c hc => by obtain rfl := List.mem_singleton.1 hc; exact hg
    · have f1 := b13.frozen
      have f2 := b23.frozen
      have q1 := b13.cell
      have q2 := b23.cell
      have H3 := Lib.hid (⟨hcr.2 hg, lo3, b13, b23, k03, kd3, hI⟩ : _ ∧ _ ∧ _ ∧ _ ∧ _ ∧ _ ∧ _)
      clear hg lo3 bz3 b13 b23 d03 d13 k03 kd3 hI hes hch hdl hne hdn hfr hz hpl hcr hb3 cz hd
      gi_wp2_with fail
      obtain ⟨hno, lo3, b13, b23, k03, kd3, hI⟩ := H3.out
      have hd := Hd3.out
      have g1 := grownBy_setCell' w3 (r + 1) (.slice none 0 0)
      have g2 := grownBy_setCell' (w3.setCell ⟨r + 1, 0, none⟩ (.slice none 0 0)) (r + 2) (.int .i64 2)
      refine ⟨(k03.trans (KeepsFrom.of_grownBy g1 (fun k e => by cases e; omega))).trans (KeepsFrom.of_grownBy g2 (fun k e => by cases e; omega)), rfl, hno, (b13.set _).other (by omega) _, (b23.other (by omega) _).set _, (lo3.setCell (p := ⟨r + 1, 0, none⟩) (by show w.heap.size ≤ r + 1; omega) _).setCell (p := ⟨r + 2, 0, none⟩) (by show w.heap.size ≤ r + 2; omega) _, Nat.le_trans hI.size (Nat.le_trans kd3.2.2.2 (Nat.le_trans g1.size g2.size))⟩
  case stop =>
    rintro D' cc pre W hD2 ⟨rfl, hI⟩ hK
    have HI := Lib.hid hI
    have HK := Lib.hid (⟨hK, hD2⟩ : _ ∧ _)
    clear hI hK hD2
    gi_wp2_with fail
    have hd := Hd3.out
    refine leaves_marks (B := w.heap.size) [D'] _ ⟨by simp, fun d hd => ?_⟩ fun w' hw' => ⟨.tuple #[.slice none 0 0, .int .i64 2], ?_, .inr ⟨HI.out.no, rfl⟩, HI.out.low.trans hw'.1⟩
    · obtain rfl : d = D' := by simpa using hd
      have := HK.out.2
      exact ⟨by omega, HK.out.1⟩
    · have hc1 := (show Boxed w' (r + 1) 23 _ from hw'.2 _ _ HI.out.r1 rfl).cell
      have hc2 := (show Boxed w' (r + 2) 25 _ from hw'.2 _ _ HI.out.r2 rfl).cell
      clear hd
      simp [results, Tryz.results145, go_sem, hc1, hc2]
  case done =>
    rintro D' ys W hD2 hys hI hK
    obtain ⟨v, hv, hrow⟩ := hI.row
    have hgood := hI.good
    rw [hys] at hrow hgood
    have hall : allR l = true := by
      have h := allR_flat hgood
      rwa [chunks_flat (by omega)] at h
    obtain ⟨N, hN⟩ : ∃ N, (blksL p (chunks 4 l)).length = N := ⟨_, rfl⟩
    rw [hN] at hrow
    have f1 := hI.r1.frozen
    have f2 := hI.r2.frozen
    have q1 := hI.r1.cell
    have q2 := hI.r2.cell
    have hc := hv.cell
    obtain ⟨A', c', rfl, _, _⟩ := own_rd hrow
    have HI := Lib.hid (⟨hI, hall, hN, hrow⟩ : _ ∧ _ ∧ _ ∧ _)
    have HK := Lib.hid (⟨hK, hD2⟩ : _ ∧ _)
    clear hI hK hD2 hall hrow hv hN hys hgood
    gi_wp2_with fail
    obtain ⟨hI, hall, hN, hrow⟩ := HI.out
    have hd := Hd3.out
    have g1 := set_grown W (r + 1) (.slice A' N c')
    have g2 := set_grown (W.setCell ⟨r + 1, 0, none⟩ (.slice A' N c')) (r + 2) (.int .i64 0)
    have b1 := (hI.r1.set (.slice A' N c')).other (B' := r + 2) (by omega) (.int .i64 0)
    have b2 := (hI.r2.other (B' := r + 1) (by omega) (.slice A' N c')).set (.int .i64 0)
    have hrow2 := (hrow.kept g1 (.inr (hI.r1.not_row (by decide) hrow).symm)).kept g2 (.inr ((hI.r2.other (B' := r + 1) (by omega) (.slice A' N c')).not_row (by decide) (hrow.kept g1 (.inr (hI.r1.not_row (by decide) hrow).symm))).symm)
    have hlow : Below w.heap.size w ((W.setCell ⟨r + 1, 0, none⟩ (.slice A' N c')).setCell ⟨r + 2, 0, none⟩ (.int .i64 0)) := (hI.low.setCell (p := ⟨r + 1, 0, none⟩) (by show w.heap.size ≤ r + 1; omega) _).setCell (p := ⟨r + 2, 0, none⟩) (by show w.heap.size ≤ r + 2; omega) _
    refine leaves_marks (B := w.heap.size) [D'] _ ⟨by simp, fun d hd => ?_⟩ fun w' hw' => ⟨.tuple #[.slice A' N c', .int .i64 0], ?_, .inl ⟨hall, A', c', N, rfl, hN, Rd.of_own (own_marksTw hrow2 hw')⟩, hlow.trans hw'.1⟩
    · obtain rfl : d = D' := by simpa using hd
      have := HK.out.2
      have hlt := (Array.getElem?_eq_some_iff.1 HK.out.1).1
      exact ⟨by omega, ((g2.block d (by have := g1.size; omega) (by simp; omega)).trans (g1.block d hlt (by simp; omega))).trans HK.out.1⟩
    · have hc1 := (show Boxed w' (r + 1) 23 _ from hw'.2 _ _ b1 rfl).cell
      have hc2 := (show Boxed w' (r + 2) 25 _ from hw'.2 _ _ b2 rfl).cell
      clear hd b1 b2 g1 g2 hrow2 hlow q1 q2 f1 f2 hc hI hall hrow hN hw'
      simp [results, Tryz.results145, go_sem, hc1, hc2]

theorem put_anyTw {x y : Nat} {p : Int × Int} (A : Option Addr) (n c : Nat) (l : List EnP) (w : World) (hp : Ga.From x y p) (hl : Es w w.heap.size A n l) (hnc : n ≤ c) (hn : n ≤ 1000000) :
    Calls Tryz.prog 145 #[.complex .f64 x y, .slice A n c] w (PutT w p l) := callsIn_wide.1 (put_inTw A n c l w hp hl hnc hn)

end Go.Proofs.YtcpdjhkpmaamdaaGreat
