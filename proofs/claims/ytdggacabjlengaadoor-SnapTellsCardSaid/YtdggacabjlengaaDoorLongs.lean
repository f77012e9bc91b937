/-
  snap.longs: its contract.
-/
import Derived.Test.YtdggacabjlengaaDoorNumsP
import Derived.Test.YtdggacabjlengaaDoorPieces
import Derived.Test.YtdggacabjlengaaDoorDraw
namespace Go.Proofs.YtdggacabjlengaaDoor
open Go.RowKit Go.Shelf
set_option linter.unusedVariables false

attribute [local go_sem] Oper.semAt_some

/-- A box is no row that lies behind it. -/
theorem box_low {W : World} {B g base size k : Nat} {t e : TypeId} {u v : Value} {xs : List Value} (h : g < base) (hr : W.ownsRow base e size v k xs) : some g ≠ v.ownBlock := by
  rcases hr.2 with ⟨rfl, _⟩ | ⟨g', cap, cur, rfl, hb, _⟩
  · simp [Value.ownBlock]
  · intro e1
    obtain rfl : g = g' := by simpa [Value.ownBlock] using e1
    omega
/-- 'l = append(l, ..)' at a box that lies below the row. -/
theorem box_app_low {W w1 : World} {base D r size k m : Nat} {t e : TypeId} {v v' : Value} {xs ys : List Value} (hv : Boxed W r t v) (hr : r < base) (hrow : W.ownsRow base e size v k xs) (hown : w1.ownsRow base e size v' m ys) (hgrow : W.grownBy w1 v.ownBlock) (hrs : r ≤ W.heap.size) :
    Boxed w1 r t v ∧ Boxed (w1.setCell ⟨r, 0, none⟩ v') r t v' ∧ (w1.setCell ⟨r, 0, none⟩ v').ownsRow base e size v' m ys ∧ KeepsOthers W (w1.setCell ⟨r, 0, none⟩ v') ∧ (∀ k, k < base → k ≠ r → k < W.heap.size → (w1.setCell ⟨r, 0, none⟩ v').heap[k]? = W.heap[k]?) ∧ Below r W (w1.setCell ⟨r, 0, none⟩ v') := by
  have hv1 : Boxed w1 r t v := hv.kept hgrow (box_low (B := 0) (t := t) (u := v) hr hrow)
  refine ⟨hv1, hv1.set v', hown.kept (grownBy_setCell' w1 r v') (.inr (box_low (B := 0) (t := t) (u := v) hr hown).symm), ?_, fun k hk h1 hlt => ?_, ?_⟩
  · refine (KeepsOthers.of_grownBy hgrow fun j o ej hj => ?_).trans (KeepsOthers.setCell _ _ _)
    rcases hrow.2 with ⟨rfl, _⟩ | ⟨g, cap, cur, rfl, _, hgb, _⟩
    · simp [Value.ownBlock] at ej
    · obtain rfl : g = j := by simpa [Value.ownBlock] using ej
      rw [hgb] at hj; cases hj; rfl
  · exact (Below.heap_setCell _ _ _ k (by simpa using h1)).trans (hgrow.block k hlt (box_low (B := 0) (t := t) (u := v) hk hrow))
  · refine ((Below.refl r W).grown hgrow hrs fun j ej => ?_).setCell (p := ⟨r, 0, none⟩) (Nat.le_refl _) v'
    rcases hrow.2 with ⟨rfl, _⟩ | ⟨g, cap, cur, rfl, hb, _, _⟩
    · simp [Value.ownBlock] at ej
    · obtain rfl : g = j := by simpa [Value.ownBlock] using ej
      omega

/-- The first j numbers. -/
def numsJ (pre : List HJ) : List Int := pre.map fun h => (Nu.longP h.l).1
/-- Between two rounds. -/
structure LI (w : World) (r D1 : Nat) (vs vk : Value) (pre : List HJ) (W : World) : Prop where
  row : ∃ v, Boxed W r 46 v ∧ W.ownsRow (r + 4) 3 1 v pre.length ((numsJ pre).map (Value.int .i64))
  b1 : Boxed W (r + 1) 4 (.bool false)
  d0 : Boxed W (r + 2) 24 vs
  d1 : Boxed W (r + 3) 3 vk
  low : Below w.heap.size w W
  size : D1 ≤ W.heap.size
theorem LI.own {w : World} {r D1 : Nat} {vs vk : Value} (hr : r + 3 < D1) (hw : w.heap.size ≤ D1) : OwnT 9 D1 (LI w r D1 vs vk) := fun _ W W' row h hg hr' => by
  obtain ⟨⟨v, hv, hrow⟩, h1, h2, h3, hlow, hsz⟩ := h
  have hne : ∀ k, k < D1 → some k ≠ row := fun k hk e => by have := (hr' k e.symm).1; omega
  refine ⟨⟨v, (hg.block r hv.lt (hne r (by omega))).trans hv, hrow.kept hg (row_ne (by decide) hrow fun r e => (hr' r e).2)⟩, (hg.block _ h1.lt (hne _ (by omega))).trans h1, (hg.block _ h2.lt (hne _ (by omega))).trans h2, (hg.block _ h3.lt (hne _ (by omega))).trans h3, ?_, Nat.le_trans hsz hg.size⟩
  exact hlow.grown hg hlow.size (fun k e => by have := (hr' k e).1; omega)
structure LE (w : World) (b : List Int) (r D1 : Nat) (W : World) : Prop where
  no : ∀ s, ¬ IsSnap s 1 b
  r0 : Boxed W r 46 (.slice none 0 0)
  r1 : Boxed W (r + 1) 4 (.bool false)
  low : Below w.heap.size w W
  size : D1 ≤ W.heap.size
theorem LE.own {w : World} {b : List Int} {r D1 : Nat} (hr : r + 1 < D1) (hw : w.heap.size ≤ D1) (c : Code) : OwnT 9 D1 (fun (_ : List HJ) W => c = Code.ret ∧ LE w b r D1 W) :=
  ownT_low (fun _ _ h => h.2.size) fun _ _ _ h hb => ⟨h.1, h.2.no, (hb.block r (by omega)).trans h.2.r0, (hb.block (r + 1) hr).trans h.2.r1, h.2.low.trans (hb.mono hw), Nat.le_trans h.2.size hb.size⟩

set_option maxRecDepth 100000 in
set_option maxHeartbeats 4000000 in
theorem longs_in (A : Option Addr) (n c : Nat) (b : List Int) (w : World) (hl : Rd w w.heap.size .u8 A n b) (hb : Byt b) (hnc : n ≤ c) :
    CallsIn Fence.wide 4 Tryd.prog 48 #[.slice A n c] w (NumsOut 1 b w) := by
  obtain ⟨i0, hi, hz0, hz1, hz2⟩ := info_parts Nu.info_byte
  obtain ⟨j0, hj, hy0, hy1, hy2⟩ := info_parts Nu.info_int
  have Hl := Lib.hid (⟨hl, hb, hl.1⟩ : _ ∧ _ ∧ _)
  clear hl hb
  refine callsIn_of_wp_marks Tryd.func48 rfl trivial ?_ rfl
  simp only [Tryd.ntmps48, List.size_toArray, List.length_cons, List.length_nil, Nat.reduceAdd, Nat.reduceSub, Array.replicate_succ, Array.replicate_zero, List.push_toArray, List.append_toArray, List.nil_append, List.cons_append]
  obtain ⟨r, hr⟩ : ∃ r, r = w.heap.size := ⟨_, rfl⟩
  obtain ⟨wa, hwa⟩ : ∃ wa, wa = w.alloc (.cells #[.slice none 0 0] 46) := ⟨_, rfl⟩
  obtain ⟨w0, hw0⟩ : ∃ w0, w0 = wa.alloc (.cells #[.bool false] 4) := ⟨_, rfl⟩
  have hsa : wa.heap.size = r + 1 := by rw [hwa, hr]; simp
  have hs0 : w0.heap.size = r + 2 := by rw [hw0]; simp [hsa]
  have br0 : Boxed w0 r 46 (.slice none 0 0) := by
    have h : Boxed wa r 46 (.slice none 0 0) := by rw [hwa, hr]; exact Boxed.new _ _ _
    rw [hw0]; exact h.alloc _
  have br1 : Boxed w0 (r + 1) 4 (.bool false) := by rw [hw0, ← hsa]; exact Boxed.new _ _ _
  have hB0 : Below w.heap.size w w0 := by rw [hw0, hwa]; exact ((Below.refl _ _).alloc (Nat.le_refl _) _).alloc (by simp) _
  have he : w0 = (w.alloc (.cells #[.slice none 0 0] 46)).alloc (.cells #[.bool false] 4) := by rw [hw0, hwa]
  have HE := Lib.hid (⟨he, hr, br0, br1, hB0, hs0⟩ : _ ∧ _ ∧ _ ∧ _ ∧ _ ∧ _)
  clear hwa hw0 hsa hs0 br0 br1 hB0 he hr
  by_cases hn : n = 22
  · subst hn
    obtain ⟨bl, off, rfl, hbl, hcell⟩ := Hl.out.1.at_ (by omega)
    have c16 := hcell 16 (by omega)
    have c17 := hcell 17 (by omega)
    obtain ⟨v16, h16⟩ : ∃ v, v = b[16]?.getD 0 := ⟨_, rfl⟩
    obtain ⟨v17, h17⟩ : ∃ v, v = b[17]?.getD 0 := ⟨_, rfl⟩
    rw [← h16] at c16
    rw [← h17] at c17
    have Hc := Lib.hid (⟨c16, c17, h16, h17, hbl⟩ : _ ∧ _ ∧ _ ∧ _ ∧ _)
    clear hcell hbl c16 c17 h16 h17
    gi_wp2_with fail
    rw [← HE.out.1, ← HE.out.2.1]
    refine ⟨trivial, ?_⟩
    refine (callsIn_wide.2 (chunkJ_any 5 (by omega) (some ⟨bl, off + 1, none⟩) 15 (c - 1) w0)).mono ?_
    rintro e w2 ⟨rfl, hl2, hk2, hs2, hb2⟩
    obtain ⟨he, hr, br0, br1, hB0, hs0⟩ := HE.out
    rw [hs0] at hl2 hk2 hs2 ⊢
    have hB2 := hB0.trans (hb2.mono hB0.size)
    obtain ⟨L, hL⟩ : ∃ L, L = (b.drop 1).take 15 := ⟨_, rfl⟩
    have hrdL : Rd w2 w.heap.size .u8 (some ⟨bl, off + 1, none⟩) 15 L := by
      rw [hL]
      exact (Nu.Rd.cut_at (rd_low Hl.out.1 (w' := w2) (fun k hk => hB2.block k hk)) (m := 1) (by omega)).first (m := 15) (by omega)
    have hI0 : LI w r w2.heap.size (.slice (some ⟨bl, off + 1, none⟩) 15 (c - 1)) (.int .i64 5) [] w2 := ⟨⟨_, (hb2.block _ br0.lt).trans br0, World.ownsRow_nil _ _ _ _⟩, (hb2.block _ br1.lt).trans br1, hl2, hk2, hB2, Nat.le_refl _⟩
    have Hd := Lib.hid (show w.heap.size = r ∧ w2.heap.size = r + 4 by omega)
    have H0 := Lib.hid (⟨hI0, hl2, hk2, hrdL, hL⟩ : _ ∧ _ ∧ _ ∧ _ ∧ _)
    clear hI0 hl2 hk2 hrdL hL hs2 hb2 hB2 he hr br0 br1 hB0 hs0
    gi_wp2_with fail
    refine range_W 9 rfl (by decide) (gf := 67) (lb := #[.pointer (some ⟨r + 2, 0, none⟩), .pointer (some ⟨r + 2 + 1, 0, none⟩)]) rfl trivial (enters_of Tryd.func67 (by kernel_rfl) rfl)
      (chunkJ_seq (tt := 9) 5 (by omega) (by omega) (r + 2) (KpD w.heap.size (r + 2)) (fun A A' h b t v hbD ht hb => by rcases hbD with rfl | rfl; exact h.2.1.trans hb; exact h.2.2.1.trans hb) (fun _ _ _ h h' => h.trans h') (fun _ => ⟨fun _ _ => rfl, rfl, rfl, Nat.le_refl _⟩) (KpD.refl _ _) (by omega) (by omega) w2 H0.out.2.1 H0.out.2.2.1 (fun W1 W' hW hk => (rd_low H0.out.2.2.2.1 fun k hk' => (hk.1 k hk').trans (hW.block k (by have := Hd.out; omega))).on (Below.refl _ _) (by have := hW.size; have := hk.2.2.2; have := Hd.out; omega)))
      (fun h h' => h.trans h') (KpD.put (by have := Hd.out; omega) (by have := Hd.out; omega)) (Below.refl _ _) (fun _ => rfl)
      (LI w r w2.heap.size (.slice (some ⟨bl, off + 1, none⟩) 15 (c - 1)) (.int .i64 5)) (fun c (_ : List HJ) W => c = Code.ret ∧ LE w b r w2.heap.size W) (LI.own (by have := Hd.out; omega) (by have := Hd.out; omega))
      (LE.own (by have := Hd.out; omega) (by have := Hd.out; omega)) H0.out.1
      (fun d a' W => Rd W W.heap.size .u8 d.A d.n d.l ∧ a' = { tmps := #[.slice (some ⟨bl, off, none⟩) 22 c, undef, .pointer (some ⟨r, 0, none⟩), .pointer (some ⟨r + 1, 0, none⟩), .slice d.A d.n d.n, undef, undef, undef, .slice (some ⟨bl, off, none⟩) 22 c, .int .i64 22, .bool false, .slice (some ⟨bl, off, none⟩) 22 c, .slice (some ⟨bl, off + 1, none⟩) 15 (c - 1), .func (.func 67) #[] #[.pointer (some ⟨r + 2, 0, none⟩), .pointer (some ⟨r + 2 + 1, 0, none⟩)], .slice d.A d.n d.n, undef, undef, undef, undef, undef, undef, undef, undef, undef, undef, undef, undef, undef, undef, undef, undef, undef, undef, undef, undef, undef, undef, undef], defers := [] })
      (fun _ _ _ _ _ _ h hi ho => ⟨rd_put hi ho h.1, h.2⟩) ?assign ?body ?done ?stop
    case assign =>
      intro lp pre d W' hI hok
      gi_wp2
      exact ⟨KeepsFrom.refl _ _, KpD.refl _ _ _, hI, hok.2.2.2.2, by first | rfl | trivial⟩
    case body =>
      rintro lp pre d a' W hI ⟨hrd, rfl⟩ ⟨_, hch, hdl, hne, hdn, _⟩
      obtain ⟨dA, dn, dl⟩ := d
      dsimp only at hrd hch hdl hne hdn
      dsimp only
      have hdn5 : dn ≤ 5 := by rw [hdn, hdl, List.length_take]; omega
      have hdb : Byt dl := by rw [hdl, H0.out.2.2.2.2]; exact (((Hl.out.2.1.drop _).take _).drop _).take _
      have hp3 : pre.length ≤ 2 := by
        have h1 := congrArg List.length hch
        rw [chunks_15 (by rw [H0.out.2.2.2.2, List.length_take, List.length_drop, Hl.out.2.2]; rfl), List.length_append, List.length_cons, List.length_map] at h1
        omega
      have HI := Lib.hid (⟨hI, hrd, hch, hdb⟩ : _ ∧ _ ∧ _ ∧ _)
      clear hI hrd hch hdl hne hdn hdb
      gi_wp2_with fail
      refine ⟨trivial, ?_⟩
      refine (callsIn_wide.2 (Nu.long_any dA dn dn dl W HI.out.2.1 HI.out.2.2.2 (Nat.le_refl _) (by omega))).mono ?_
      rintro e w3 ⟨⟨v3, rfl, -⟩, hb3⟩
      obtain ⟨x, hx⟩ : ∃ x, x = (Nu.longP dl).1 := ⟨_, rfl⟩
      obtain ⟨er, her⟩ : ∃ er, er = (Nu.longP dl).2.2 := ⟨_, rfl⟩
      rw [← hx, ← her]
      obtain ⟨hI, hrd, hch, hdb⟩ := HI.out
      have hd := Hd.out
      have lo3 : Below w.heap.size w w3 := hI.low.trans (hb3.mono hI.low.size)
      obtain ⟨v, hv, hrow⟩ := hI.row
      have hv3 : Boxed w3 r 46 v := (hb3.block _ hv.lt).trans hv
      have hrow3 := own_keep hrow hb3
      have b13 : Boxed w3 (r + 1) 4 (.bool false) := (hb3.block _ hI.b1.lt).trans hI.b1
      have d03 : Boxed w3 (r + 2) 24 _ := (hb3.block _ hI.d0.lt).trans hI.d0
      have d13 : Boxed w3 (r + 3) 3 _ := (hb3.block _ hI.d1.lt).trans hI.d1
      have k03 : KeepsFrom w2.heap.size W w3 := KeepsFrom.of_grownBy (grown_of hb3) (fun k e => by cases e)
      have kd3 : KpD w.heap.size (r + 2) W w3 := KpD.below hb3 hI.low.size (by have := hI.size; omega)
      by_cases h0 : er = 0
      · subst h0
        have hb3s : r + 4 ≤ w3.heap.size := by have := hb3.size; have := hI.size; omega
        obtain ⟨A3, c3, rfl, _⟩ := own_slice hrow3
        have cv := hv3.cell
        obtain ⟨w4, hw4⟩ : ∃ x4, x4 = w3.alloc (.cells #[.int .i64 x] 3) := ⟨_, rfl⟩
        have b34 : Below w3.heap.size w3 w4 := by rw [hw4]; exact (Below.refl _ _).alloc (Nat.le_refl _) _
        have hrow4 := own_keep hrow3 b34
        have hv4 : Boxed w4 r 46 _ := (b34.block _ hv3.lt).trans hv3
        have src : Rd w4 w4.heap.size .i64 (some ⟨w3.heap.size, 0, none⟩) 1 [x] := by rw [hw4]; exact Rd.made w3 .i64 3 [x] rfl
        have hx' : numsJ (pre ++ [(⟨dA, dn, dl⟩ : HJ)]) = numsJ pre ++ [x] := by simp [numsJ, hx]
        have lo4 := lo3.trans (b34.mono lo3.size)
        have H4 := Lib.hid (⟨hw4, hrow4, hv4, src, b34, lo4, b13, d03, d13, k03, kd3, hI.size, hI, hx'⟩ : _ ∧ _ ∧ _ ∧ _ ∧ _ ∧ _ ∧ _ ∧ _ ∧ _ ∧ _ ∧ _ ∧ _ ∧ _ ∧ _)
        clear hw4 hrow4 hv4 src b34 lo4 b13 d03 d13 k03 kd3 hx' hI hb3 hrd hch hdb hv hrow hrow3 hx her lo3 hv3
        gi_wp2_with (gi_at_builtin; refine hold ?_)
        rw [← H4.out.1]
        refine unhold (wpListIn_append_own _ rfl _ _ 46 rfl (r + 4) 3 j0 (.int .i64 0) 1 8 Tryd.underlying46 hj hy0 hy1 hy2 rfl (by decide) _ _ _ rfl H4.out.2.1 ⟨w3.heap.size, 0, none⟩ 1 1 ([x].map (Value.int .i64)) rfl rfl H4.out.2.2.2.1.cells (fun u hu => by obtain ⟨y, _, rfl⟩ := List.mem_map.1 hu; rfl) (by unfold maxLen; omega) (by omega) (by have h1 := H4.out.2.2.2.2.2.1.size; have h2 := H4.out.2.2.2.2.1.size; have h3 := hb3s; omega) ?_)
        intro v5 w5 hown' hgrow _
        obtain ⟨hw4, hrow4, hv4, src, b34, lo4, b13, d03, d13, k03, kd3, hsz, hI, hx'⟩ := H4.out
        obtain ⟨A5, c5, rfl, _⟩ := own_slice hown'
        obtain ⟨hv5, hv6, hr6, hk6, hlow6, hbr6⟩ := box_app_low (D := 0) hv4 (by omega) hrow4 hown' hgrow (by have := hv4.lt; omega)
        have cv5 := hv5.cell
        have fv5 := hv5.frozen
        have H6 := Lib.hid (⟨hv6, hr6, hk6, hlow6, hbr6⟩ : _ ∧ _ ∧ _ ∧ _ ∧ _)
        clear hv5 hv6 hr6 hk6 hlow6 hbr6 hown' hgrow hw4 hrow4 hv4 src b34 lo4 b13 d03 d13 k03 kd3 hI hx' cv
        gi_wp2_with fail
        obtain ⟨hw4, hrow4, hv4, src, b34, lo4, b13, d03, d13, k03, kd3, hsz, hI, hx'⟩ := H4.out
        obtain ⟨hv6, hr6, hk6, hlow6, hbr6⟩ := H6.out
        have l4 := b34.size
        have o6 : ∀ k, k < r + 4 → k ≠ r → (w5.setCell ⟨r, 0, none⟩ (.slice A5 (pre.length + 1) c5)).heap[k]? = w3.heap[k]? := fun k hk h1 => (hlow6 k hk h1 (by omega)).trans (b34.block k (by omega))
        have k36 := ((KeepsFrom.of_grownBy (B := w2.heap.size) (grown_of b34) (fun k e => by cases e)).trans (hk6.from _))
        have k5 := k03.trans k36
        refine ⟨⟨k5.size, k5.same⟩, ⟨fun k hk => (o6 k (by omega) (by omega)).trans (kd3.1 k hk), (o6 _ (by omega) (by omega)).trans kd3.2.1, (o6 _ (by omega) (by omega)).trans kd3.2.2.1, k5.size⟩,
          ⟨⟨_, hv6, ?_⟩, (o6 _ (by omega) (by omega)).trans b13, (o6 _ (by omega) (by omega)).trans d03, (o6 _ (by omega) (by omega)).trans d13, lo4.trans (hbr6.mono (by omega)), Nat.le_trans hsz k5.size⟩⟩
        rw [hx', List.map_append, List.length_append]
        exact hr6
      · have hno : ∀ s, ¬ IsSnap s 1 b := fun s => one_chunk (c := dl) (by rw [← H0.out.2.2.2.2, hch]; exact List.mem_append_right _ (List.mem_cons_self ..)) (by rw [← her]; exact h0)
        have f0 := hv3.frozen
        have f1 := b13.frozen
        have q0 := hv3.cell
        have q1 := b13.cell
        have e0 : (er != 0) = true := by simpa using h0
        have H3 := Lib.hid (⟨hno, lo3, hv3, b13, k03, kd3, hI, hd⟩ : _ ∧ _ ∧ _ ∧ _ ∧ _ ∧ _ ∧ _ ∧ _)
        clear hno lo3 hv3 b13 d03 d13 k03 kd3 hI hb3 hd hrd hch hdb hv hrow hrow3 hx her
        gi_wp2_with fail
        obtain ⟨hno, lo3, hv3, b13, k03, kd3, hI, hd⟩ := H3.out
        have g1 := grownBy_setCell' w3 r (.slice none 0 0)
        have g2 := grownBy_setCell' (w3.setCell ⟨r, 0, none⟩ (.slice none 0 0)) (r + 1) (.bool false)
        have k5 := (k03.trans (KeepsFrom.of_grownBy g1 (fun k e => by cases e; omega))).trans (KeepsFrom.of_grownBy g2 (fun k e => by cases e; omega))
        exact ⟨⟨k5.size, k5.same⟩, rfl, hno, (hv3.set _).other (by omega) _, (b13.other (by omega) _).set _, (lo3.setCell (p := ⟨r, 0, none⟩) (by show w.heap.size ≤ r; omega) _).setCell (p := ⟨r + 1, 0, none⟩) (by show w.heap.size ≤ r + 1; omega) _, Nat.le_trans hI.size k5.size⟩
    case stop =>
      rintro D' cc pre W hD2 ⟨rfl, hI⟩ hK
      have HI := Lib.hid hI
      have HK := Lib.hid (⟨hK, hD2⟩ : _ ∧ _)
      clear hI hK hD2
      gi_wp2_with fail
      have hd := Hd.out
      refine leaves_marks (B := w.heap.size) [D'] _ ⟨by simp, fun d hd' => ?_⟩ fun w' hw' => ⟨.tuple #[.slice none 0 0, .bool false], ?_, .inr ⟨⟨_, _, _, rfl⟩, HI.out.no⟩, HI.out.low.trans hw'.1⟩
      · obtain rfl : d = D' := by simpa using hd'
        have := HK.out.2
        exact ⟨by omega, HK.out.1⟩
      · have hc1 := (show Boxed w' r 46 _ from hw'.2 _ _ HI.out.r0 rfl).cell
        have hc2 := (show Boxed w' (r + 1) 4 _ from hw'.2 _ _ HI.out.r1 rfl).cell
        clear hd
        simp [results, Tryd.results48, go_sem, hc1, hc2]
    case done =>
      rintro D' ys W hD2 hys hI hK
      have hd := Hd.out
      obtain ⟨v, hv, hrow⟩ := hI.row
      have hlen : ys.length = 3 := by
        have h1 := congrArg List.length hys
        rwa [List.length_map, chunks_15 (by rw [H0.out.2.2.2.2, List.length_take, List.length_drop, Hl.out.2.2]; rfl)] at h1
      rw [hlen] at hrow
      obtain ⟨A3, c3, rfl, _⟩ := own_slice hrow
      have cv := hv.cell
      have c16 : W.cell? ⟨bl, off + 16, none⟩ = some (.int .u8 v16) := (hI.low.cell (p := ⟨bl, off + 16, none⟩) Hc.out.2.2.2.2).trans Hc.out.1
      have c17 : W.cell? ⟨bl, off + 17, none⟩ = some (.int .u8 v17) := (hI.low.cell (p := ⟨bl, off + 17, none⟩) Hc.out.2.2.2.2).trans Hc.out.2.1
      have hb16 : 0 ≤ v16 ∧ v16 ≤ 255 := by rw [Hc.out.2.2.1]; exact Hl.out.2.1.at_ 16
      have hb17 : 0 ≤ v17 ∧ v17 ≤ 255 := by rw [Hc.out.2.2.2.1]; exact Hl.out.2.1.at_ 17
      have hw16 : IntKind.i64.wrap v16 = v16 := by rw [IntKind.wrap_i64] <;> omega
      have hw17 : IntKind.i64.wrap v17 = v17 := by rw [IntKind.wrap_i64] <;> omega
      have hfin : ∀ s, IsSnap s 1 b → numsJ ys ++ [v16, v17] = stN s := fun s hs => by
        rw [← one_nums hs, ← H0.out.2.2.2.2, ← hys, Hc.out.2.2.1, Hc.out.2.2.2.1, List.map_map]
        rfl
      have Hw := Lib.hid (⟨hw16, hw17⟩ : _ ∧ _)
      have HI := Lib.hid (⟨hI, hK, hD2, hrow, hv, hfin, hlen⟩ : _ ∧ _ ∧ _ ∧ _ ∧ _ ∧ _ ∧ _)
      clear hw16 hw17 c16 c17 cv hI hK hD2 hrow hv hfin hlen hys hb16 hb17 hd
      gi_wp2_with fail
      refine wpIn_wide.2 ?_
      refine wp_region_noPanic ?_
      refine wp_region_held_drew (S := (fun W' => Below w.heap.size w W')) (by kernel_rfl) HI.out.1.low.drew (fun hHeld => ?_)
      refine take_at (i := 1) (d := 28) (oi := ?o1) (v := ?v1) ?hi1 ?hd1 (by kernel_rfl) (by kernel_rfl) (by kernel_rfl) ?hw1 ?hy1 ?hq1 (by assumption) ?r1
      case hi1 => (simp only [List.getElem?_toArray, List.getElem?_cons_succ, List.getElem?_cons_zero]; rfl)
      case hd1 => rfl
      case hw1 => rfl
      case hy1 => ((intro w hSw; (try dsimp only at hSw); go_simp) <;> (with_reducible rfl))
      case hq1 => exact fun _ _ _ h => h
      simp only [List.set_cons_succ, List.set_cons_zero]
      refine take_at (i := 2) (d := 29) (oi := ?o2) (v := ?v2) ?hi2 ?hd2 (by kernel_rfl) (by kernel_rfl) (by kernel_rfl) ?hw2 ?hy2 ?hq2 (by assumption) ?r2
      case hi2 => (simp only [List.getElem?_toArray, List.getElem?_cons_succ, List.getElem?_cons_zero]; rfl)
      case hd2 => rfl
      case hw2 => rfl
      case hy2 => ((intro w hSw; (try dsimp only at hSw); go_simp) <;> (with_reducible rfl))
      case hq2 => exact fun _ _ _ h => h
      simp only [List.set_cons_succ, List.set_cons_zero]
      refine take_at (i := 3) (d := 30) (oi := ?o3) (v := ?v3) ?hi3 ?hd3 (by kernel_rfl) (by kernel_rfl) (by kernel_rfl) ?hw3 ?hy3 ?hq3 (by assumption) ?r3
      case hi3 => (simp only [List.getElem?_toArray, List.getElem?_cons_succ, List.getElem?_cons_zero]; rfl)
      case hd3 => rfl
      case hw3 => rfl
      case hy3 => ((intro w hSw; (try dsimp only at hSw); have k0 := (Below.cell hSw (p := ⟨bl, off + 16, none⟩) Hc.out.2.2.2.2).trans Hc.out.1; clear hSw; go_simp) <;> (with_reducible rfl))
      case hq3 => exact fun _ _ _ h => h
      simp only [List.set_cons_succ, List.set_cons_zero]
      refine take_at (i := 4) (d := 31) (oi := ?o4) (v := ?v4) ?hi4 ?hd4 (by kernel_rfl) (by kernel_rfl) (by kernel_rfl) ?hw4 ?hy4 ?hq4 (by assumption) ?r4
      case hi4 => (simp only [List.getElem?_toArray, List.getElem?_cons_succ, List.getElem?_cons_zero]; rfl)
      case hd4 => rfl
      case hw4 => rfl
      case hy4 => ((intro w hSw; (try dsimp only at hSw); have q1 := Hw.out.1; have q2 := Hw.out.2; clear hSw; go_simp) <;> (with_reducible rfl))
      case hq4 => exact fun _ _ _ h => h
      simp only [List.set_cons_succ, List.set_cons_zero]
      refine take_at (i := 5) (d := 32) (oi := ?o5) (v := ?v5) ?hi5 ?hd5 (by kernel_rfl) (by kernel_rfl) (by kernel_rfl) ?hw5 ?hy5 ?hq5 (by assumption) ?r5
      case hi5 => (simp only [List.getElem?_toArray, List.getElem?_cons_succ, List.getElem?_cons_zero]; rfl)
      case hd5 => rfl
      case hw5 => rfl
      case hy5 => ((intro w hSw; (try dsimp only at hSw); go_simp) <;> (with_reducible rfl))
      case hq5 => exact fun _ _ _ h => h
      simp only [List.set_cons_succ, List.set_cons_zero]
      refine take_at (i := 6) (d := 33) (oi := ?o6) (v := ?v6) ?hi6 ?hd6 (by kernel_rfl) (by kernel_rfl) (by kernel_rfl) ?hw6 ?hy6 ?hq6 (by assumption) ?r6
      case hi6 => (simp only [List.getElem?_toArray, List.getElem?_cons_succ, List.getElem?_cons_zero]; rfl)
      case hd6 => rfl
      case hw6 => rfl
      case hy6 => ((intro w hSw; (try dsimp only at hSw); go_simp) <;> (with_reducible rfl))
      case hq6 => exact fun _ _ _ h => h
      simp only [List.set_cons_succ, List.set_cons_zero]
      refine take_at (i := 7) (d := 34) (oi := ?o7) (v := ?v7) ?hi7 ?hd7 (by kernel_rfl) (by kernel_rfl) (by kernel_rfl) ?hw7 ?hy7 ?hq7 (by assumption) ?r7
      case hi7 => (simp only [List.getElem?_toArray, List.getElem?_cons_succ, List.getElem?_cons_zero]; rfl)
      case hd7 => rfl
      case hw7 => rfl
      case hy7 => ((intro w hSw; (try dsimp only at hSw); have k0 := (Below.cell hSw (p := ⟨bl, off + 17, none⟩) Hc.out.2.2.2.2).trans Hc.out.2.1; clear hSw; go_simp) <;> (with_reducible rfl))
      case hq7 => exact fun _ _ _ h => h
      simp only [List.set_cons_succ, List.set_cons_zero]
      refine take_at (i := 8) (d := 35) (oi := ?o8) (v := ?v8) ?hi8 ?hd8 (by kernel_rfl) (by kernel_rfl) (by kernel_rfl) ?hw8 ?hy8 ?hq8 (by assumption) ?r8
      case hi8 => (simp only [List.getElem?_toArray, List.getElem?_cons_succ, List.getElem?_cons_zero]; rfl)
      case hd8 => rfl
      case hw8 => rfl
      case hy8 => ((intro w hSw; (try dsimp only at hSw); have q1 := Hw.out.1; have q2 := Hw.out.2; clear hSw; go_simp) <;> (with_reducible rfl))
      case hq8 => exact fun _ _ _ h => h
      simp only [List.set_cons_succ, List.set_cons_zero]
      refine wpAnyH_ready (rs := [0, 9]) (by kernel_rfl) (by simp) ?_
      apply two_ready
      · skip
        have cvd : W.drew.cell? ⟨r, 0, none⟩ = _ := HI.out.2.2.2.2.1.cell
        refine br_val (i := 0) (d := 27) (oi := ?o9) (v := (.slice A3 3 c3)) (w' := W.drew) ?hi9 ?hd9 ?hw9 ?he9 hHeld ?hc9
        case hi9 => (simp only [List.getElem?_toArray, List.getElem?_cons_zero]; rfl)
        case hd9 => rfl
        case hw9 => rfl
        case he9 => (clear hHeld; go_simp; try rfl)
        intro hHeld
        simp only [List.set_cons_succ, List.set_cons_zero]
        clear cvd
        obtain ⟨w4, hw4⟩ : ∃ x4, x4 = W.drew.alloc (.cells #[.int .i64 v16, .int .i64 v17] 3) := ⟨_, rfl⟩
        have b34 : Below W.heap.size W w4 := by rw [hw4]; exact below_al (below_dr (below_d0 W)) _
        have hrow4 := own_keep HI.out.2.2.2.1 b34
        have hv4 : Boxed w4 r 46 _ := (b34.block _ HI.out.2.2.2.2.1.lt).trans HI.out.2.2.2.2.1
        have src : Rd w4 w4.heap.size .i64 (some ⟨W.heap.size, 0, none⟩) 2 [v16, v17] := by rw [hw4]; exact Rd.made W.drew .i64 3 [v16, v17] rfl
        have hsz4 : r + 4 ≤ w4.heap.size := by have := b34.size; have := HI.out.1.size; have := Hd.out; omega
        have hl4 : Below w.heap.size w w4 := HI.out.1.low.trans (b34.mono HI.out.1.low.size)
        refine wpAnyH_ready (rs := [9]) (by kernel_rfl) (by simp) ?_
        refine br_val (i := 9) (d := 36) (oi := ?o10) (v := (.slice (some ⟨W.heap.size, 0, none⟩) 2 2)) (w' := w4) ?hi10 ?hd10 ?hw10 ?he10 hl4 ?hc10
        case hi10 => (simp only [List.getElem?_toArray, List.getElem?_cons_succ, List.getElem?_cons_zero]; rfl)
        case hd10 => rfl
        case hw10 => rfl
        case he10 => (rw [hw4]; clear hw4 hrow4 hv4 src hsz4 b34 hl4; go_simp; try rfl)
        intro hHeld
        simp only [List.set_cons_succ, List.set_cons_zero]
        have hd := Hd.out
        obtain ⟨v5, w5, hrunA, L5⟩ := run_append (P := Tryd.prog) (c := 2) (ty := 46) Tryd.underlying46 hj hy0 hy1 hy2 rfl (by decide) hrow4 (Source.rd src) (by unfold maxLen; decide) (by decide) hsz4
        obtain ⟨A5, c5, rfl, hc5⟩ := own_slice L5.1
        obtain ⟨hv5, hv6, hr6, hk6, hlow6, hbr6⟩ := box_app_low (D := 0) hv4 (by omega) hrow4 L5.1 L5.2.1 (by omega)
        have cv5 := hv5.cell
        have fv5 := hv5.frozen
        have b16 : Boxed (w5.setCell ⟨r, 0, none⟩ (.slice A5 (3 + 2) c5)) (r + 1) 4 (.bool false) := (hlow6 _ (by omega) (by omega) (by omega)).trans ((b34.block _ HI.out.1.b1.lt).trans HI.out.1.b1)
        have g5 := L5.2.1
        have hl5 : Below w.heap.size w w5 := hl4.grown g5 hl4.size (fun g hg => by have := (hrow4.lt g hg).1; omega)
        obtain ⟨w6, hw6⟩ : ∃ x, x = w5.setCell ⟨r, 0, none⟩ (.slice A5 (3 + 2) c5) := ⟨_, rfl⟩
        rw [← hw6] at hv6 hr6 hk6 hlow6 hbr6 b16
        obtain ⟨w7, hw7⟩ : ∃ x, x = w6.setCell ⟨r + 1, 0, none⟩ (.bool true) := ⟨_, rfl⟩
        have g7 : w6.grownBy w7 (some (r + 1)) := by rw [hw7]; exact grownBy_setCell' _ _ _
        have cb6 := b16.cell
        have fb6 := b16.frozen
        have hl6 : Below w.heap.size w w6 := hl4.trans (hbr6.mono (by omega))
        have hl7 : Below w.heap.size w w7 := by rw [hw7]; exact hl6.setCell (p := ⟨r + 1, 0, none⟩) (by show w.heap.size ≤ r + 1; omega) _
        have H7 := Lib.hid (⟨hv6, hr6, b16, hc5, g5, g7, hl7, hrow4, b34⟩ : _ ∧ _ ∧ _ ∧ _ ∧ _ ∧ _ ∧ _ ∧ _ ∧ _)
        have HW7 := Lib.hid (⟨hw6, hw7⟩ : _ ∧ _)
        refine wpAnyH_ready (rs := [10]) (by kernel_rfl) (by simp) ?_
        refine br_val (i := 10) (d := 37) (oi := ?o11) (v := (.slice A5 (3 + 2) c5)) (w' := w5) ?hi11 ?hd11 ?hw11 ?he11 hl5 ?hc11
        case hi11 => (simp only [List.getElem?_toArray, List.getElem?_cons_succ, List.getElem?_cons_zero]; rfl)
        case hd11 => rfl
        case hw11 => rfl
        case he11 => (exact exec_append rfl rfl rfl hrunA)
        intro hHeld
        simp only [List.set_cons_succ, List.set_cons_zero]
        refine wpAnyH_ready (rs := [11]) (by kernel_rfl) (by simp) ?_
        refine br_store (i := 11) (oi := ?o12) (w' := w6) ?hi12 ?hd12 ?hw12 ?he12 hl6 ?hc12
        case hi12 => (simp only [List.getElem?_toArray, List.getElem?_cons_succ, List.getElem?_cons_zero]; rfl)
        case hd12 => rfl
        case hw12 => rfl
        case he12 => (rw [hw6]; clear hw6 hw7; go_simp)
        intro hHeld
        refine wpAnyH_ready (rs := [12]) (by kernel_rfl) (by simp) ?_
        refine br_store (i := 12) (oi := ?o13) (w' := w7) ?hi13 ?hd13 ?hw13 ?he13 hl7 ?hc13
        case hi13 => (simp only [List.getElem?_toArray, List.getElem?_cons_succ, List.getElem?_cons_zero]; rfl)
        case hd13 => rfl
        case hw13 => rfl
        case he13 => (rw [hw7]; clear hw7 hw6; go_simp)
        intro hHeld
        refine wpAnyH_done (by kernel_rfl) ?_ _
        clear hv5 hv6 hr6 hk6 hlow6 hbr6 L5 hrow4 hv4 src b34 hsz4 b16 hd hc5 g5 hl5 g7 hl6 hl7 hrunA cv5 fv5 cb6 fb6 hHeld hl4 hw6 hw7 hw4
        refine NoPanic.normal ?_
        gi_wp2_with fail
        obtain ⟨hv6, hr6, b16, hc5, g5, g7, hl7, hrow4, b14⟩ := H7.out
        obtain ⟨hw6, hw7⟩ := HW7.out
        obtain ⟨hI, hK, hD2, hrow, hv, hfin, hlen⟩ := HI.out
        have hd := Hd.out
        have b0 : Boxed w7 r 46 _ := (g7.block _ hv6.lt (by simp)).trans hv6
        have b1 : Boxed w7 (r + 1) 4 (.bool true) := by rw [hw7]; exact b16.set _
        have hr7 := hr6.kept g7 (.inr (box_low (B := 0) (t := 4) (u := .bool false) (by omega) hr6).symm)
        have hlen5 : (numsJ ys ++ [v16, v17]).length = 5 := by simp [numsJ, hlen]
        have hmap : (numsJ ys).map (Value.int .i64) ++ [v16, v17].map (Value.int .i64) = (numsJ ys ++ [v16, v17]).map (Value.int .i64) := by simp
        refine leaves_marks (B := w.heap.size) [D'] _ ⟨by simp, fun d hd' => ?_⟩ fun w' hw' => ⟨.tuple #[.slice A5 5 c5, .bool true], ?_, .inl ⟨_, A5, c5, hlen5, rfl, hc5, Rd.of_own (own_marks (hmap ▸ hr7) hw'), hfin⟩, hl7.trans hw'.1⟩
        · obtain rfl : d = D' := by simpa using hd'
          have hlt := (Array.getElem?_eq_some_iff.1 hK).1
          have h5 : w5.heap[d]? = some (.deferred (some [])) := by
            refine (g5.block d (by have := b14.size; omega) fun e => ?_).trans ((b14.block d hlt).trans hK)
            rcases hrow4.2 with ⟨h, _⟩ | ⟨g, cap, cur, h, _, hg, _⟩
            · rw [h] at e; simp [Value.ownBlock] at e
            · rw [h] at e
              obtain rfl : d = g := by simpa [Value.ownBlock] using e
              have h2 := (b14.block d hlt).trans hK
              rw [hg] at h2
              cases h2
          refine ⟨by omega, ?_⟩
          rw [hw7, hw6]
          exact (Below.heap_setCell _ _ _ d (by simp; omega)).trans ((Below.heap_setCell _ _ _ d (by simp; omega)).trans h5)
        · have hc1 := (show Boxed w' r 46 _ from hw'.2 _ _ b0 rfl).cell
          have hc2 := (show Boxed w' (r + 1) 4 _ from hw'.2 _ _ b1 rfl).cell
          clear hd
          simp [results, Tryd.results48, go_sem, hc1, hc2]
      · skip
        obtain ⟨w4, hw4⟩ : ∃ x4, x4 = W.drew.alloc (.cells #[.int .i64 v16, .int .i64 v17] 3) := ⟨_, rfl⟩
        have b34 : Below W.heap.size W w4 := by rw [hw4]; exact below_al (below_dr (below_d0 W)) _
        have hrow4 := own_keep HI.out.2.2.2.1 b34
        have hv4 : Boxed w4 r 46 _ := (b34.block _ HI.out.2.2.2.2.1.lt).trans HI.out.2.2.2.2.1
        have src : Rd w4 w4.heap.size .i64 (some ⟨W.heap.size, 0, none⟩) 2 [v16, v17] := by rw [hw4]; exact Rd.made W.drew .i64 3 [v16, v17] rfl
        have hsz4 : r + 4 ≤ w4.heap.size := by have := b34.size; have := HI.out.1.size; have := Hd.out; omega
        have hl4 : Below w.heap.size w w4 := HI.out.1.low.trans (b34.mono HI.out.1.low.size)
        refine br_val (i := 9) (d := 36) (oi := ?o14) (v := (.slice (some ⟨W.heap.size, 0, none⟩) 2 2)) (w' := w4) ?hi14 ?hd14 ?hw14 ?he14 hl4 ?hc14
        case hi14 => (simp only [List.getElem?_toArray, List.getElem?_cons_succ, List.getElem?_cons_zero]; rfl)
        case hd14 => rfl
        case hw14 => rfl
        case he14 => (rw [hw4]; clear hw4 hrow4 hv4 src hsz4 b34 hl4; go_simp; try rfl)
        intro hHeld
        simp only [List.set_cons_succ, List.set_cons_zero]
        have cvd := hv4.cell
        refine wpAnyH_ready (rs := [0]) (by kernel_rfl) (by simp) ?_
        refine br_val (i := 0) (d := 27) (oi := ?o15) (v := (.slice A3 3 c3)) (w' := w4) ?hi15 ?hd15 ?hw15 ?he15 hl4 ?hc15
        case hi15 => (simp only [List.getElem?_toArray, List.getElem?_cons_zero]; rfl)
        case hd15 => rfl
        case hw15 => rfl
        case he15 => (clear hHeld hw4 hrow4 hv4 src hsz4 b34 hl4; go_simp; try rfl)
        intro hHeld
        simp only [List.set_cons_succ, List.set_cons_zero]
        clear cvd
        have hd := Hd.out
        obtain ⟨v5, w5, hrunA, L5⟩ := run_append (P := Tryd.prog) (c := 2) (ty := 46) Tryd.underlying46 hj hy0 hy1 hy2 rfl (by decide) hrow4 (Source.rd src) (by unfold maxLen; decide) (by decide) hsz4
        obtain ⟨A5, c5, rfl, hc5⟩ := own_slice L5.1
        obtain ⟨hv5, hv6, hr6, hk6, hlow6, hbr6⟩ := box_app_low (D := 0) hv4 (by omega) hrow4 L5.1 L5.2.1 (by omega)
        have cv5 := hv5.cell
        have fv5 := hv5.frozen
        have b16 : Boxed (w5.setCell ⟨r, 0, none⟩ (.slice A5 (3 + 2) c5)) (r + 1) 4 (.bool false) := (hlow6 _ (by omega) (by omega) (by omega)).trans ((b34.block _ HI.out.1.b1.lt).trans HI.out.1.b1)
        have g5 := L5.2.1
        have hl5 : Below w.heap.size w w5 := hl4.grown g5 hl4.size (fun g hg => by have := (hrow4.lt g hg).1; omega)
        obtain ⟨w6, hw6⟩ : ∃ x, x = w5.setCell ⟨r, 0, none⟩ (.slice A5 (3 + 2) c5) := ⟨_, rfl⟩
        rw [← hw6] at hv6 hr6 hk6 hlow6 hbr6 b16
        obtain ⟨w7, hw7⟩ : ∃ x, x = w6.setCell ⟨r + 1, 0, none⟩ (.bool true) := ⟨_, rfl⟩
        have g7 : w6.grownBy w7 (some (r + 1)) := by rw [hw7]; exact grownBy_setCell' _ _ _
        have cb6 := b16.cell
        have fb6 := b16.frozen
        have hl6 : Below w.heap.size w w6 := hl4.trans (hbr6.mono (by omega))
        have hl7 : Below w.heap.size w w7 := by rw [hw7]; exact hl6.setCell (p := ⟨r + 1, 0, none⟩) (by show w.heap.size ≤ r + 1; omega) _
        have H7 := Lib.hid (⟨hv6, hr6, b16, hc5, g5, g7, hl7, hrow4, b34⟩ : _ ∧ _ ∧ _ ∧ _ ∧ _ ∧ _ ∧ _ ∧ _ ∧ _)
        have HW7 := Lib.hid (⟨hw6, hw7⟩ : _ ∧ _)
        refine wpAnyH_ready (rs := [10]) (by kernel_rfl) (by simp) ?_
        refine br_val (i := 10) (d := 37) (oi := ?o16) (v := (.slice A5 (3 + 2) c5)) (w' := w5) ?hi16 ?hd16 ?hw16 ?he16 hl5 ?hc16
        case hi16 => (simp only [List.getElem?_toArray, List.getElem?_cons_succ, List.getElem?_cons_zero]; rfl)
        case hd16 => rfl
        case hw16 => rfl
        case he16 => (exact exec_append rfl rfl rfl hrunA)
        intro hHeld
        simp only [List.set_cons_succ, List.set_cons_zero]
        refine wpAnyH_ready (rs := [11]) (by kernel_rfl) (by simp) ?_
        refine br_store (i := 11) (oi := ?o17) (w' := w6) ?hi17 ?hd17 ?hw17 ?he17 hl6 ?hc17
        case hi17 => (simp only [List.getElem?_toArray, List.getElem?_cons_succ, List.getElem?_cons_zero]; rfl)
        case hd17 => rfl
        case hw17 => rfl
        case he17 => (rw [hw6]; clear hw6 hw7; go_simp)
        intro hHeld
        refine wpAnyH_ready (rs := [12]) (by kernel_rfl) (by simp) ?_
        refine br_store (i := 12) (oi := ?o18) (w' := w7) ?hi18 ?hd18 ?hw18 ?he18 hl7 ?hc18
        case hi18 => (simp only [List.getElem?_toArray, List.getElem?_cons_succ, List.getElem?_cons_zero]; rfl)
        case hd18 => rfl
        case hw18 => rfl
        case he18 => (rw [hw7]; clear hw7 hw6; go_simp)
        intro hHeld
        refine wpAnyH_done (by kernel_rfl) ?_ _
        clear hv5 hv6 hr6 hk6 hlow6 hbr6 L5 hrow4 hv4 src b34 hsz4 b16 hd hc5 g5 hl5 g7 hl6 hl7 hrunA cv5 fv5 cb6 fb6 hHeld hl4 hw6 hw7 hw4
        refine NoPanic.normal ?_
        gi_wp2_with fail
        obtain ⟨hv6, hr6, b16, hc5, g5, g7, hl7, hrow4, b14⟩ := H7.out
        obtain ⟨hw6, hw7⟩ := HW7.out
        obtain ⟨hI, hK, hD2, hrow, hv, hfin, hlen⟩ := HI.out
        have hd := Hd.out
        have b0 : Boxed w7 r 46 _ := (g7.block _ hv6.lt (by simp)).trans hv6
        have b1 : Boxed w7 (r + 1) 4 (.bool true) := by rw [hw7]; exact b16.set _
        have hr7 := hr6.kept g7 (.inr (box_low (B := 0) (t := 4) (u := .bool false) (by omega) hr6).symm)
        have hlen5 : (numsJ ys ++ [v16, v17]).length = 5 := by simp [numsJ, hlen]
        have hmap : (numsJ ys).map (Value.int .i64) ++ [v16, v17].map (Value.int .i64) = (numsJ ys ++ [v16, v17]).map (Value.int .i64) := by simp
        refine leaves_marks (B := w.heap.size) [D'] _ ⟨by simp, fun d hd' => ?_⟩ fun w' hw' => ⟨.tuple #[.slice A5 5 c5, .bool true], ?_, .inl ⟨_, A5, c5, hlen5, rfl, hc5, Rd.of_own (own_marks (hmap ▸ hr7) hw'), hfin⟩, hl7.trans hw'.1⟩
        · obtain rfl : d = D' := by simpa using hd'
          have hlt := (Array.getElem?_eq_some_iff.1 hK).1
          have h5 : w5.heap[d]? = some (.deferred (some [])) := by
            refine (g5.block d (by have := b14.size; omega) fun e => ?_).trans ((b14.block d hlt).trans hK)
            rcases hrow4.2 with ⟨h, _⟩ | ⟨g, cap, cur, h, _, hg, _⟩
            · rw [h] at e; simp [Value.ownBlock] at e
            · rw [h] at e
              obtain rfl : d = g := by simpa [Value.ownBlock] using e
              have h2 := (b14.block d hlt).trans hK
              rw [hg] at h2
              cases h2
          refine ⟨by omega, ?_⟩
          rw [hw7, hw6]
          exact (Below.heap_setCell _ _ _ d (by simp; omega)).trans ((Below.heap_setCell _ _ _ d (by simp; omega)).trans h5)
        · have hc1 := (show Boxed w' r 46 _ from hw'.2 _ _ b0 rfl).cell
          have hc2 := (show Boxed w' (r + 1) 4 _ from hw'.2 _ _ b1 rfl).cell
          clear hd
          simp [results, Tryd.results48, go_sem, hc1, hc2]
  · have hn2 : ¬ ((n : Int) = 22) := by omega
    have e1 : ((n : Int) != 22) = true := bne_iff_ne.2 (by omega)
    have f0 := HE.out.2.2.1.frozen
    have f1 := HE.out.2.2.2.1.frozen
    have q0 := HE.out.2.2.1.cell
    have q1 := HE.out.2.2.2.1.cell
    rw [HE.out.1, HE.out.2.1] at f0 f1 q0 q1
    have Hno := Lib.hid (fun s => one_len (s := s) (b := b) (by rw [Hl.out.2.2]; exact hn))
    clear hn
    gi_wp2_with fail
    rw [← HE.out.1]
    refine leaves_marks (B := w.heap.size) [] _ ⟨by simp, fun d hd => by cases hd⟩ fun w' hw' => ⟨.tuple #[.slice none 0 0, .bool false], ?_, .inr ⟨⟨_, _, _, rfl⟩, Hno.out⟩, HE.out.2.2.2.2.1.trans hw'.1⟩
    have hc1 := (show Boxed w' r 46 _ from hw'.2 _ _ HE.out.2.2.1 rfl).cell
    have hc2 := (show Boxed w' (r + 1) 4 _ from hw'.2 _ _ HE.out.2.2.2.1 rfl).cell
    rw [HE.out.2.1] at hc1 hc2
    clear f0 f1 q0 q1
    simp [results, Tryd.results48, go_sem, hc1, hc2]


theorem longs_any (A : Option Addr) (n c : Nat) (b : List Int) (w : World) (hl : Rd w w.heap.size .u8 A n b) (hb : Byt b) (hnc : n ≤ c) : Calls Tryd.prog 48 #[.slice A n c] w (NumsOut 1 b w) := callsIn_wide.1 (longs_in A n c b w hl hb hnc)

end Go.Proofs.YtdggacabjlengaaDoor
