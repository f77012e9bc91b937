/-
  snap.Pieces: its contract.
-/
import Derived.Test.YtdggacabjlengaaDoorPcs
import Derived.Test.YtdggacabjlengaaDoorSnapS
namespace Go.Proofs.YtdggacabjlengaaDoor
open Go.RowKit Go.Shelf
set_option linter.unusedVariables false

attribute [local go_sem] Oper.semAt_some Ga.run_store_complex

/-- A row of the call's own lies on where marks are taken away. -/
theorem own_marks {w w' : World} {B base : Nat} {e : TypeId} {size : Nat} {v : Value} {n : Nat} {xs : List Value} (h : w.ownsRow base e size v n xs) (hb : CellsKept B w w') : w'.ownsRow base e size v n xs := by
  refine ⟨h.1, ?_⟩
  rcases h.2 with a | ⟨g, cap, cur, e1, hbg, hh, r⟩
  · exact .inl a
  · exact .inr ⟨g, cap, cur, e1, hbg, hb.2 g _ hh rfl, r⟩
/-- 'b = append(b, ..)' at a box of the call's own: what lies behind the store. -/
theorem box_appended {W w1 : World} {n₀ B : Nat} {t e : TypeId} {size : Nat} {v v' : Value} {k m : Nat} {xs ys : List Value}
    (hv : Boxed W B t v) (hte : t ≠ e) (hrow : W.ownsRow n₀ e size v k xs) (hn₀ : n₀ ≤ W.heap.size) (hB : n₀ ≤ B)
    (hown' : w1.ownsRow n₀ e size v' m ys) (hgrow : W.grownBy w1 v.ownBlock) :
    Boxed w1 B t v ∧ Boxed (w1.setCell ⟨B, 0, none⟩ v') B t v' ∧ (w1.setCell ⟨B, 0, none⟩ v').ownsRow n₀ e size v' m ys ∧ KeepsOthers W (w1.setCell ⟨B, 0, none⟩ v') ∧ Below n₀ W (w1.setCell ⟨B, 0, none⟩ v') := by
  have hv1 : Boxed w1 B t v := hv.kept hgrow (hv.not_row hte hrow)
  refine ⟨hv1, hv1.set v', hown'.kept (grownBy_setCell' w1 B v') (.inr (hv1.not_row hte hown').symm), ?_, ?_⟩
  · refine (KeepsOthers.of_grownBy hgrow fun j o ej hj => ?_).trans (KeepsOthers.setCell _ _ _)
    rcases hrow.2 with ⟨rfl, _⟩ | ⟨g, cap, cur, rfl, _, hgb, _⟩
    · simp [Value.ownBlock] at ej
    · obtain rfl : g = j := by simpa [Value.ownBlock] using ej
      rw [hgb] at hj; cases hj; rfl
  · refine ((Below.refl n₀ W).grown hgrow hn₀ fun j ej => ?_).setCell (p := ⟨B, 0, none⟩) hB v'
    rcases hrow.2 with ⟨rfl, _⟩ | ⟨g, cap, cur, rfl, hb, _, _⟩
    · simp [Value.ownBlock] at ej
    · obtain rfl : g = j := by simpa [Value.ownBlock] using ej
      exact hb


theorem chunk_le {α : Type} {k : Nat} (hk : k ≠ 0) (l : List α) : ∀ c ∈ chunks k l, c.length ≤ k := by
  refine chunks_ind hk (M := fun l => ∀ c ∈ chunks k l, c.length ≤ k) (fun c hc => by rw [chunks_nil] at hc; cases hc) (fun l hl ih c hc => ?_) l
  rw [chunks_cons hl hk] at hc
  rcases List.mem_cons.1 hc with rfl | hc
  · exact List.length_take_le _ _
  · exact ih c hc
theorem pcs_le {p : Int × Int} {cs : List (List Int)} (h : ∀ c ∈ cs, c.length ≤ 4) : (pcsL p cs).length ≤ 8 * cs.length := by
  induction cs generalizing p with
  | nil => simp [pcsL]
  | cons c cs ih =>
    have h1 := h c (List.mem_cons_self ..)
    have h3 := ih (p := Ga.chainP p c) fun d hd => h d (List.mem_cons_of_mem _ hd)
    rw [pcsL, List.length_append, List.length_append, bytesP_len, List.length_cons]
    omega
/-- 'b = append(b, ..)' at the one box, as a round of the pieces keeps it. -/
theorem kpn_app {W w1 : World} {r S k : Nat} {v v' : Value} {xs : List Value} (hv : Boxed W r 24 v) (hrow : W.ownsRow (r + 2) 5 1 v k xs) (hS : r < S) (hsz : r + 2 ≤ W.heap.size) (hgrow : W.grownBy w1 v.ownBlock) :
    KpN (r + 2) r S W (w1.setCell ⟨r, 0, none⟩ v') := by
  have k1 : KpI Keep4 (r + 2) r S W w1 := KpI.grown hrow (Nat.le_refl _) byte_not hsz hgrow
  refine ⟨k1.trans (KpI.set hS _ _), ?_⟩
  refine (KeepsOthers.from ?_ S).trans (KeepsFrom.of_grownBy (grownBy_setCell' w1 r v') (fun k e => by cases e; exact hS))
  exact KeepsOthers.of_grownBy hgrow fun j o ej hj => by
    rcases hrow.2 with ⟨rfl, _⟩ | ⟨g, cap, cur, rfl, _, hgb, _⟩
    · simp [Value.ownBlock] at ej
    · obtain rfl : g = j := by simpa [Value.ownBlock] using ej
      rw [hgb] at hj; cases hj; rfl

/-- Between two rounds. -/
structure PInv (w : World) (r D1 : Nat) (pre : List HP) (W : World) : Prop where
  row : ∃ v, Boxed W r 24 v ∧ W.ownsRow (r + 2) 5 1 v (pcsL (0, 0) (pre.map HP.l)).length ((pcsL (0, 0) (pre.map HP.l)).map (Value.int .u8))
  low : Below w.heap.size w W
  size : D1 ≤ W.heap.size
theorem PInv.own {w : World} {r D1 : Nat} (hr : r < D1) (hw : w.heap.size ≤ D1) : OwnT 54 D1 (PInv w r D1) := fun _ W W' row h hg hr' => by
  obtain ⟨⟨v, hv, hrow⟩, hlow, hsz⟩ := h
  have hne : ∀ k, k < D1 → some k ≠ row := fun k hk e => by have := (hr' k e.symm).1; omega
  exact ⟨⟨v, (hg.block r hv.lt (hne r hr)).trans hv, hrow.kept hg (row_ne (by decide) hrow fun r e => (hr' r e).2)⟩, hlow.grown hg hlow.size (fun k e => by have := (hr' k e).1; omega), Nat.le_trans hsz hg.size⟩

/-- What Pieces answers: a row of the call's own. -/
def PiecesOut (w : World) (l : List Int) (e : Ending) (w' : World) : Prop :=
  ∃ A c n, e = .returned (.slice A n c) ∧ (piecesL l).length = n ∧ w'.ownsRow w.heap.size 5 1 (.slice A n c) n ((piecesL l).map (Value.int .u8)) ∧ Below w.heap.size w w'

set_option maxRecDepth 100000 in
set_option maxHeartbeats 2000000 in
theorem pieces_in (A : Option Addr) (n c : Nat) (l : List Int) (w : World) (hl : Rd w w.heap.size .u8 A n l) (hb : Byt l) (hnc : n ≤ c) (hn : n ≤ 1000000) :
    CallsIn Fence.wide 5 Tryd.prog 14 #[.slice A n c] w (PiecesOut w l) := by
  obtain ⟨i0, hi, hz0, hz1, hz2⟩ := info_parts Nu.info_byte
  have Hl := Lib.hid (⟨hl, hb, hl.1⟩ : _ ∧ _ ∧ _)
  clear hl hb
  refine callsIn_of_wp_marks Tryd.func14 rfl trivial ?_ rfl
  simp only [Tryd.ntmps14, List.size_toArray, List.length_cons, List.length_nil, Nat.reduceAdd, Nat.reduceSub, Array.replicate_succ, Array.replicate_zero, List.push_toArray, List.append_toArray, List.nil_append, List.cons_append]
  obtain ⟨r, hr⟩ : ∃ r, r = w.heap.size := ⟨_, rfl⟩
  obtain ⟨w0, hw0⟩ : ∃ w0, w0 = w.alloc (.cells #[.slice none 0 0] 24) := ⟨_, rfl⟩
  have hs0 : w0.heap.size = r + 1 := by rw [hw0, hr]; simp
  have b0 : Boxed w0 r 24 (.slice none 0 0) := by rw [hw0, hr]; exact Boxed.new _ _ _
  have hB0 : Below w.heap.size w w0 := by rw [hw0]; exact (Below.refl _ _).alloc (Nat.le_refl _) _
  have HE := Lib.hid (⟨hw0, hr, hs0, b0, hB0⟩ : _ ∧ _ ∧ _ ∧ _ ∧ _)
  clear hw0 hr hs0 b0 hB0
  gi_wp2_with fail
  rw [← HE.out.1, ← HE.out.2.1]
  refine ⟨trivial, ?_⟩
  refine (callsIn_wide.2 (pieces_any A n c w0)).mono ?_
  rintro e w2 ⟨rfl, hl2, hs2, hb2⟩
  obtain ⟨hw0, hr, hs0, b0, hB0⟩ := HE.out
  rw [hs0] at hl2 hs2 ⊢
  have h0 : PInv w r w2.heap.size [] w2 := ⟨⟨_, (hb2.block _ b0.lt).trans b0, World.ownsRow_nil _ _ _ _⟩, hB0.trans (hb2.mono (by omega)), Nat.le_refl _⟩
  have Hd := Lib.hid (show w.heap.size = r ∧ w2.heap.size = r + 2 by omega)
  have H0 := Lib.hid (⟨h0, hl2, rd_low Hl.out.1 (w' := w2) (fun k hk => h0.low.block k hk)⟩ : _ ∧ _ ∧ _)
  clear h0 hl2 hs2 hb2 hw0 hr hs0 b0 hB0
  gi_wp2_with fail
  refine range_N 54 rfl (by decide) (gf := 52) (lb := #[.pointer (some ⟨r + 1, 0, none⟩)]) rfl trivial (enters_of Tryd.func52 (by kernel_rfl) rfl)
    (pcs_seq (r + 1) (r + 2) r (by omega) hnc Hl.out.2.1 w2 (by have := Hd.out; omega) H0.out.2.1 (by have := H0.out.2.2; rwa [Hd.out.1] at this) (by omega)) (fun h h' => h.trans h') (fun W' o o' h hc hw => KpN.put (by have := Hd.out; omega) (by omega) W' o o' h hc hw) (Below.refl _ _) (fun _ => rfl)
    (PInv w r w2.heap.size) (fun c (_ : List HP) W => False) (PInv.own (by have := Hd.out; omega) (by have := Hd.out; omega)) (fun _ _ _ _ _ h _ _ => h) H0.out.1
    (fun d a' W => Rd W W.heap.size .u8 d.A d.n d.l ∧ a' = { tmps := #[.slice A n c, undef, .slice none 0 0, .pointer (some ⟨r, 0, none⟩), .slice d.A d.n d.n, .complex .f64 d.u d.v, undef, .slice A n c, .func (.func 52) #[] #[.pointer (some ⟨r + 1, 0, none⟩)], .slice d.A d.n d.n, .complex .f64 d.u d.v, undef, undef, undef, undef, undef, undef, undef, undef, undef], defers := [] })
    (fun _ _ _ _ _ _ h hi ho => ⟨rd_put hi ho h.1, h.2⟩) ?assign ?body ?done ?stop
  case assign =>
    intro lp pre d W' hI hok
    gi_wp2
    exact ⟨KeepsFrom.refl _ _, ⟨KpI.refl _ _ _ _ _, KeepsFrom.refl _ _⟩, hI, hok.2.2.2.2.1, by first | rfl | trivial⟩
  case body =>
    rintro lp pre d a' W hI ⟨hrd, rfl⟩ ⟨_, hch, hdl, hne, hdn, _, hpt⟩
    obtain ⟨dA, dn, dl, u, v⟩ := d
    dsimp only at hrd hch hdl hne hdn hpt
    dsimp only
    have hle : ∀ c ∈ pre.map HP.l, c.length ≤ 4 := fun c hc => chunk_le (by omega) l c (by rw [hch]; exact List.mem_append_left _ hc)
    have hpl : 4 * pre.length < n := by
      have h1 : 0 < (l.drop (4 * pre.length)).length := List.length_pos_iff.2 hne
      rw [List.length_drop, Hl.out.2.2] at h1
      omega
    have hdn4 : 1 ≤ dn ∧ dn ≤ 4 := by
      have h1 : 0 < (l.drop (4 * pre.length)).length := List.length_pos_iff.2 hne
      rw [hdn, hdl, List.length_take]; omega
    obtain ⟨N, hN⟩ : ∃ N, (pcsL (0, 0) (pre.map HP.l)).length = N := ⟨_, rfl⟩
    have hNle : N ≤ 8000000 := by
      have h1 := pcs_le (p := (0, 0)) hle
      rw [hN, List.length_map] at h1
      omega
    obtain ⟨x0, x1, x2, x3, hx⟩ : ∃ a b c e, Ga.bytesP (pcsE (0, 0) (pre.map HP.l ++ [dl])) = [a, b, c, e] := ⟨_, _, _, _, rfl⟩
    have HI := Lib.hid (⟨hI, hrd, hdn, hpt, hN, hx⟩ : _ ∧ _ ∧ _ ∧ _ ∧ _ ∧ _)
    clear hI hrd hch hdl hne hdn hpt hle hpl hN hx
    gi_wp2_with fail
    refine ⟨trivial, ?_⟩
    refine (callsIn_wide.2 (Ga.bytes_out W HI.out.2.2.2.1 HI.out.2.2.2.2.2)).mono ?_
    rintro e w3 ⟨rfl, hb3⟩
    obtain ⟨hI, hrd, hdn, hpt, hN, hx⟩ := HI.out
    have hd := Hd.out
    obtain ⟨v0, hv, hrow⟩ := hI.row
    rw [hN] at hrow
    obtain ⟨g4, hg4⟩ : ∃ g, g = w3.heap.size := ⟨_, rfl⟩
    obtain ⟨w4, hw4⟩ : ∃ W4, W4 = w3.alloc (.cells #[.int .u8 x0, .int .u8 x1, .int .u8 x2, .int .u8 x3] 55) := ⟨_, rfl⟩
    have hb4 : Below W.heap.size W w4 := by rw [hw4]; exact hb3.alloc hb3.size _
    have hv4 : Boxed w4 r 24 v0 := (hb4.block _ hv.lt).trans hv
    have hrow4 := own_keep hrow hb4
    have hrd4 := hrd.on hb4 hb4.size
    have hfour : w4.heap[g4]? = some (.cells #[.int .u8 x0, .int .u8 x1, .int .u8 x2, .int .u8 x3] 55 (0, 0)) := by rw [hw4, hg4]; exact World.alloc_heap_new _ _
    have k4 : KpN (r + 2) r (w2.heap.size + 2) W w4 := ⟨KpI.below hb4 (by have := hI.size; omega), KeepsFrom.of_grownBy (grown_of hb4) (fun k e => by cases e)⟩
    have k4' : KeepsFrom w2.heap.size W w4 := KeepsFrom.of_grownBy (grown_of hb4) (fun k e => by cases e)
    have lo4 : Below w.heap.size w w4 := hI.low.trans (hb4.mono hI.low.size)
    obtain ⟨A0, c0, rfl, _, _⟩ := own_rd hrow4
    have cv := hv4.cell
    obtain ⟨b, off, hdA, _, _⟩ := hrd4.at_ (by omega)
    subst hdA
    have hsz4 : r + 2 ≤ w4.heap.size := by have := hb4.size; have := hI.size; omega
    have hf4 : Rd w4 w4.heap.size .u8 (some ⟨g4, 0, none⟩) 4 [x0, x1, x2, x3] := by rw [hw4]; exact Rd.made w3 .u8 55 [x0, x1, x2, x3] hg4
    have hbr : b ≠ r := by
      obtain ⟨b', o', e', _, hc⟩ := hrd4.2 (by omega)
      injection e' with e'
      injection e' with e1 e2
      subst e1 e2
      rintro rfl
      have h1 := hc 0 (by omega)
      rw [cell_of_row _ _ _ _ _ _ hv4] at h1
      cases off <;> simp at h1
    have H4 := Lib.hid (⟨hw4, hg4, hv4, hrow4, hrd4, hfour, k4, k4', lo4, hf4, hI.size, hb4.size, hsz4, hdn⟩ : _ ∧ _ ∧ _ ∧ _ ∧ _ ∧ _ ∧ _ ∧ _ ∧ _ ∧ _ ∧ _ ∧ _ ∧ _ ∧ _)
    rw [hw4] at cv
    clear hI hrd hpt hx hd hv hrow hb3 hb4 hv4 hrow4 hrd4 hfour k4 k4' lo4 hf4 hsz4 hw4 hg4 hdn
    gi_wp2_with (gi_at_builtin; refine hold ?_)
    rw [← H4.out.1, ← H4.out.2.1]
    refine unhold (wpListIn_append_own _ rfl _ _ 24 rfl (r + 2) 5 i0 (.int .u8 0) 1 1 Tryd.underlying24 hi hz0 hz1 hz2 rfl (by decide) _ _ _ rfl H4.out.2.2.2.1 ⟨b, off, none⟩ dn dn (dl.map (Value.int .u8)) rfl (by rw [List.length_map, Nat.mul_one, H4.out.2.2.2.2.2.2.2.2.2.2.2.2.2]) H4.out.2.2.2.2.1.cells (fun u hu => by obtain ⟨x, _, rfl⟩ := List.mem_map.1 hu; rfl) (by unfold maxLen; omega) (by omega) H4.out.2.2.2.2.2.2.2.2.2.2.2.2.1 ?_)
    intro v5 w5 hown' hgrow _
    obtain ⟨hw4, hg4, hv4, hrow4, hrd4, hfour, k4, k4', lo4, hf4, hIs, hb4s, hsz4, hdn⟩ := H4.out
    obtain ⟨A5, c5, rfl, _, _⟩ := own_rd (l := pcsL (0, 0) (pre.map HP.l) ++ dl) (by rw [List.map_append]; exact hown')
    obtain ⟨hv5, hv6, hr6, hk6, hb6⟩ := box_appended hv4 (by decide) (own_weak hrow4 (b' := r) (by omega)) (by omega) (Nat.le_refl _) (own_weak hown' (b' := r) (by omega)) hgrow
    have k6 : KpN (r + 2) r (w2.heap.size + 2) w4 (w5.setCell ⟨r, 0, none⟩ (.slice A5 (N + dn) c5)) := kpn_app hv4 hrow4 (by have := Hd.out; omega) hsz4 hgrow
    have hown6 : (w5.setCell ⟨r, 0, none⟩ (.slice A5 (N + dn) c5)).ownsRow (r + 2) 5 1 (.slice A5 (N + dn) c5) (N + dn) ((pcsL (0, 0) (pre.map HP.l)).map (Value.int .u8) ++ dl.map (Value.int .u8)) := hown'.kept (grownBy_setCell' w5 r _) (.inr (hv5.not_row (by decide) hown').symm)
    obtain ⟨w6, hw6⟩ : ∃ W6, W6 = w5.setCell ⟨r, 0, none⟩ (.slice A5 (N + dn) c5) := ⟨_, rfl⟩
    rw [← hw6] at hv6 hr6 hk6 hb6 k6 hown6
    have h4row : some g4 ≠ (Value.slice A0 N c0).ownBlock := by
      rcases hrow4.2 with ⟨e0, _⟩ | ⟨g, cap, cur, e0, _, hgb, _⟩
      · rw [e0]; simp [Value.ownBlock]
      · rw [e0]
        intro e1
        obtain rfl : g4 = g := by simpa [Value.ownBlock] using e1
        rw [hfour] at hgb
        injection hgb with hgb
        injection hgb with _ h2 _
        exact absurd h2 (by decide)
    have hlt4 := (Array.getElem?_eq_some_iff.1 hfour).1
    have h5four := (hgrow.block g4 hlt4 h4row).trans hfour
    have hfb : g4 ≠ r := by
      rintro rfl
      rw [show w4.heap[g4]? = _ from hv4] at hfour
      injection hfour with hfour
      injection hfour with _ h2 _
      exact absurd h2 (by decide)
    have h6four : w6.heap[g4]? = some (.cells #[.int .u8 x0, .int .u8 x1, .int .u8 x2, .int .u8 x3] 55 (0, 0)) := by rw [hw6]; exact (Below.heap_setCell _ _ _ g4 (by simpa using hfb)).trans h5four
    have hf6 : Rd w6.drew w6.drew.heap.size .u8 (some ⟨g4, 0, none⟩) 4 [x0, x1, x2, x3] := by
      refine ⟨rfl, fun _ => ⟨g4, 0, rfl, (Array.getElem?_eq_some_iff.1 h6four).1, fun i hi => ?_⟩⟩
      show w6.cell? _ = _
      rw [cell_of_row _ _ _ _ _ _ h6four]
      rcases (by omega : i = 0 ∨ i = 1 ∨ i = 2 ∨ i = 3) with rfl | rfl | rfl | rfl <;> rfl
    have c5b := hv5.cell
    have f5b := hv5.frozen
    have c6b := hv6.cell
    have k06 := k4.trans k6
    have kf6 : KeepsFrom w2.heap.size W w6 := k4'.trans (hk6.from _)
    have lo6 : Below w.heap.size w w6 := lo4.trans (hb6.mono (by have := Hd.out; omega))
    have hsz6 : r + 2 ≤ w6.heap.size := Nat.le_trans hsz4 hk6.size
    have hIs6 : w2.heap.size ≤ w6.heap.size := by have := hk6.size; omega
    have HW6 := Lib.hid (⟨hw6, hv6, hown6, k06, hf6, kf6, lo6, hsz6, hIs6, hdn, HI.out.2.2.2.2.2⟩ : _ ∧ _ ∧ _ ∧ _ ∧ _ ∧ _ ∧ _ ∧ _ ∧ _ ∧ _ ∧ _)
    clear hv5 hv6 hr6 hk6 hb6 k6 hown6 hf6 hw6 hgrow hown' hw4 hg4 hv4 hrow4 hrd4 hfour k4 k4' lo4 hf4 hIs hb4s hsz4 hfb cv hdn h4row hlt4 h5four h6four hbr k06 kf6 lo6 hsz6 hIs6
    gi_wp2_with fail
    rw [← HW6.out.1]
    refine wpIn_region_still_tail 2 (by kernel_rfl) (by kernel_rfl) (by simp) ?_
    simp only [List.take_succ_cons, List.take_zero, List.drop_succ_cons, List.drop_zero]
    repeat still_step
    refine wpStill_nil ?_
    change wpListIn _ _ _ _ _ _ _ w6.drew
    gi_wp2_with (gi_at_builtin; refine hold ?_)
    refine unhold (wpListIn_append_own _ rfl _ _ 24 rfl (r + 2) 5 i0 (.int .u8 0) 1 1 Tryd.underlying24 hi hz0 hz1 hz2 rfl (by decide) _ _ _ rfl (show w6.drew.ownsRow _ _ _ _ _ _ from HW6.out.2.2.1) ⟨g4, 0, none⟩ 4 4 ([x0, x1, x2, x3].map (Value.int .u8)) rfl rfl HW6.out.2.2.2.2.1.cells (fun u hu => by obtain ⟨x, _, rfl⟩ := List.mem_map.1 hu; rfl) (by unfold maxLen; omega) (by omega) HW6.out.2.2.2.2.2.2.2.1 ?_)
    intro v7 w7 hown' hgrow _
    obtain ⟨hw6, hv6, hown6, k06, hf6, kf6, lo6, hsz6, hIs6, hdn, hx⟩ := HW6.out
    obtain ⟨A7, c7, rfl, _, _⟩ := own_rd (l := pcsL (0, 0) (pre.map HP.l) ++ dl ++ [x0, x1, x2, x3]) (by rw [List.map_append, List.map_append]; exact hown')
    have hv6d : Boxed w6.drew r 24 (.slice A5 (N + dn) c5) := hv6
    obtain ⟨hv7, hv8, hr8, hk8, hb8⟩ := box_appended hv6d (by decide) (own_weak (show w6.drew.ownsRow _ _ _ _ _ _ from hown6) (b' := r) (by omega)) (show r ≤ w6.heap.size by omega) (Nat.le_refl _) (own_weak hown' (b' := r) (by omega)) hgrow
    have k8 : KpN (r + 2) r (w2.heap.size + 2) w6.drew (w7.setCell ⟨r, 0, none⟩ (.slice A7 (N + dn + 4) c7)) := kpn_app hv6d (show w6.drew.ownsRow _ _ _ _ _ _ from hown6) (by have := Hd.out; omega) hsz6 hgrow
    have hown8 := hown'.kept (grownBy_setCell' w7 r (.slice A7 (N + dn + 4) c7)) (.inr (hv7.not_row (by decide) hown').symm)
    have c7b := hv7.cell
    have f7b := hv7.frozen
    have HW8 := Lib.hid (⟨hv8, hk8, hb8, k8, hown8⟩ : _ ∧ _ ∧ _ ∧ _ ∧ _)
    clear hv6 hown6 k06 hf6 kf6 lo6 hsz6 hIs6 hdn hx hv6d hv7 hv8 hr8 hk8 hb8 k8 hown8 hgrow hown' hw6 c5b f5b c6b
    gi_wp2_with fail
    obtain ⟨hw6, hv6, hown6, k06, hf6, kf6, lo6, hsz6, hIs6, hdn, hx⟩ := HW6.out
    obtain ⟨hv8, hk8, hb8, k8, hown8⟩ := HW8.out
    have kd : KpN (r + 2) r (w2.heap.size + 2) w6 w6.drew := ⟨KpI.drew _ _ _ _ _, ⟨Nat.le_refl _, fun _ _ _ h _ => h⟩⟩
    have k9 := (k06.trans kd).trans k8
    have kf9 : KeepsFrom w2.heap.size W _ := (kf6.trans (⟨Nat.le_refl _, fun _ _ _ h _ => h⟩ : KeepsFrom w2.heap.size w6 w6.drew)).trans (hk8.from _)
    have hmap : (pre ++ [(⟨some ⟨b, off, none⟩, dn, dl, u, v⟩ : HP)]).map HP.l = pre.map HP.l ++ [dl] := by simp
    refine ⟨⟨kf9.size, kf9.same⟩, ⟨⟨k9.1.low, k9.1.box, k9.1.size⟩, ⟨k9.2.size, k9.2.same⟩⟩, ⟨_, hv8, ?_⟩, (lo6.drew).trans (hb8.mono (by have := Hd.out; omega)), Nat.le_trans hIs6 hk8.size⟩
    rw [hmap, pcsL_snoc, hx, List.map_append, List.map_append, List.length_append, List.length_append, hN, ← hdn]
    exact hown8
  case stop =>
    intro D c' pre W _ h
    exact h.elim
  case done =>
    rintro D' ys W hD2 hys hI hK
    obtain ⟨v, hv, hrow⟩ := hI.row
    rw [hys] at hrow
    obtain ⟨N, hN⟩ : ∃ N, (piecesL l).length = N := ⟨_, rfl⟩
    rw [show pcsL (0, 0) (chunks 4 l) = piecesL l from rfl, hN] at hrow
    have hc := hv.cell
    obtain ⟨A', c', rfl, _, _⟩ := own_rd hrow
    have HI := Lib.hid (⟨hI, hN, hrow⟩ : _ ∧ _ ∧ _)
    have HK := Lib.hid (⟨hK, hD2⟩ : _ ∧ _)
    clear hI hK hD2 hrow hv hN hys
    gi_wp2_with fail
    obtain ⟨hI, hN, hrow⟩ := HI.out
    have hd := Hd.out
    refine leaves_marks (B := w.heap.size) [D'] _ ⟨by simp, fun d hd' => ?_⟩ fun w' hw' => ⟨.slice A' N c', ?_, ⟨A', c', N, rfl, hN, own_marks (own_weak hrow (b' := w.heap.size) (by omega)) hw', hI.low.trans hw'.1⟩⟩
    · obtain rfl : d = D' := by simpa using hd'
      have := HK.out.2
      exact ⟨by omega, HK.out.1⟩
    · clear hd
      simp [results, Tryd.results14, go_sem]

theorem Pieces_any (A : Option Addr) (n c : Nat) (l : List Int) (w : World) (hl : Rd w w.heap.size .u8 A n l) (hb : Byt l) (hnc : n ≤ c) (hn : n ≤ 1000000) :
    Calls Tryd.prog 14 #[.slice A n c] w (PiecesOut w l) := callsIn_wide.1 (pieces_in A n c l w hl hb hnc hn)

end Go.Proofs.YtdggacabjlengaaDoor
