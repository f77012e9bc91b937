/-
  moultref07.record: its contract.
-/
import Derived.Test.YtlblfpfdebmcgaaDoorOneT
namespace Go.Proofs.YtlblfpfdebmcgaaDoor
open Go.RowKit
set_option linter.unusedVariables false

theorem own_keep {w W : World} {base size n : Nat} {e : TypeId} {v : Value} {xs : List Value} (h : w.ownsRow base e size v n xs) (hb : Below w.heap.size w W) : W.ownsRow base e size v n xs :=
  h.kept (row := none) ⟨hb.os, hb.tape, hb.output, hb.size, fun k hk _ => hb.block k hk⟩ (by
    rcases h.2 with ⟨rfl, _⟩ | ⟨g, cap, cur, rfl, _⟩
    · exact .inl rfl
    · exact .inr (by simp [Value.ownBlock]))

/-- A row lies on where another block has turned. -/
theorem rd_over {k : IntKind} {R : List Int} {q c B : Nat} {A : Option Addr} {w w' : World} {row : Option Nat} (h : Rd w B k A q R) (hB : B ≤ w.heap.size) (hg : w.grownBy w' row) (hne : ∀ g, (Value.slice A q c).ownBlock = some g → row ≠ some g) : Rd w' w'.heap.size k A q R := by
  refine ⟨h.1, fun hq => ?_⟩
  obtain ⟨b, off, rfl, hb, hc⟩ := h.2 hq
  have h1 : w'.heap[b]? = w.heap[b]? := hg.block b (by omega) (fun e => hne b rfl e.symm)
  have hsz := hg.size
  exact ⟨b, off, rfl, by omega, fun i hi => (World.cell?_of_block (a := ⟨b, off + i, none⟩) h1).trans (hc i hi)⟩

set_option maxRecDepth 100000 in
set_option maxHeartbeats 2000000 in
theorem record_any (x : EnP) (w : World) (hx : RightP x) : Calls Tryd.prog 26 #[x.v] w fun e w' => (∃ A c, e = .returned (.slice A 15 c) ∧ 15 ≤ c ∧ Rd w' w'.heap.size .u8 A 15 (recL x)) ∧ Below w.heap.size w w' := by
  obtain ⟨i0, hi, hz0, hz1, hz2⟩ := info_parts Cr.info_u8
  obtain ⟨t, k, v⟩ := x
  unfold EnP.v
  have ht : 0 ≤ t ∧ t ≤ 1073741824 := by have := hx.1; dsimp only at this; omega
  have hv : 0 ≤ v ∧ v ≤ 1073741824 := hx.2.2.1
  obtain ⟨wx, hwx⟩ : ∃ wx, wx = w.alloc (.cells #[.int .i64 t, .int .i64 k, .int .i64 v] 40) := ⟨_, rfl⟩
  have bx : BoxE wx w.heap.size ⟨t, k, v⟩ := by rw [hwx]; exact BoxE.new w ⟨t, k, v⟩
  have hBx : Below w.heap.size w wx := by rw [hwx]; exact (Below.refl _ w).alloc (Nat.le_refl _) _
  obtain ⟨k0, k1, k2⟩ := bx.cells
  have hr1 : Rd (wx.alloc (.cells #[.int .i64 t] 3)) (wx.alloc (.cells #[.int .i64 t] 3)).heap.size .i64 (some ⟨w.heap.size + 1, 0, none⟩) 1 [t] := Cr.Rd.made wx .i64 3 [t] (by rw [hwx]; simp)
  have hB1 : Below w.heap.size w (wx.alloc (.cells #[.int .i64 t] 3)) := hBx.alloc hBx.size _
  have bx1 : BoxE (wx.alloc (.cells #[.int .i64 t] 3)) w.heap.size ⟨t, k, v⟩ := bx.below ((Below.refl _ wx).alloc (Nat.le_refl _) _)
  go_enter Tryd.func26, Tryd.ntmps26
  go_wp2_with fail
  rw [← hwx]
  refine (rlong_yes1 _ 1 t _ hr1 ht).mono ?_
  rintro e w2 ⟨⟨A, c, rfl, hc, own2⟩, hb2⟩
  have hB2 := hB1.trans (hb2.mono hB1.size)
  have bx2 := bx1.below hb2
  obtain ⟨q0, q1, q2⟩ := bx2.cells
  have hr2 : Rd (w2.alloc (.cells #[.int .i64 v] 3)) (w2.alloc (.cells #[.int .i64 v] 3)).heap.size .i64 (some ⟨w2.heap.size, 0, none⟩) 1 [v] := Cr.Rd.made w2 .i64 3 [v] rfl
  have bx3 : BoxE (w2.alloc (.cells #[.int .i64 v] 3)) w.heap.size ⟨t, k, v⟩ := bx2.below ((Below.refl _ w2).alloc (Nat.le_refl _) _)
  have hB3 : Below w.heap.size w (w2.alloc (.cells #[.int .i64 v] 3)) := hB2.alloc hB2.size _
  have own3 := own_weak (own2.alloc (.cells #[.int .i64 v] 3)) hB1.size
  have n3 : ∀ g, (Value.slice A 5 c).ownBlock = some g → w.heap.size < g := fun g hg => by have := (own2.lt g hg).1; have := hBx.size; simp [hwx] at *; omega
  clear hr1 hB1 k0 k1 k2 bx1 hb2 bx hBx hwx own2
  go_wp2_with fail
  refine (rlong_yes1 _ 1 v _ hr2 hv).mono ?_
  rintro e w4 ⟨⟨A2, c2, rfl, hc2, own4⟩, hb4⟩
  have hB4 := hB3.trans (hb4.mono hB3.size)
  have bx4 := bx3.below hb4
  have own4' := own_keep own3 hb4
  have hs4 := Rd.of_own own4
  have hlt4 : ∀ g, (Value.slice A 5 c).ownBlock = some g → g ≤ w2.heap.size := fun g hg => by have := (own3.lt g hg).2; simp at this; omega
  have hlo : ∀ g, (Value.slice A2 5 c2).ownBlock = some g → w2.heap.size < g := fun g hg => by have := (own4.lt g hg).1; simp at this; omega
  obtain ⟨q0, q1, q2⟩ := bx4.cells
  have H4 := Lib.hid (⟨hB4, n3, hlt4, hlo⟩ : _ ∧ _ ∧ _ ∧ _)
  clear hr2 hB3 hB2 bx3 bx2 hb4 own3 n3 hlt4 hlo hB4 own4
  go_wp2_with (at_builtin; refine hold ?_)
  refine unhold (Cr.wpList_append_rd (.tmp 21) (.tmp 25) 23 Tryd.underlying23 hi hz0 hz1 hz2 Cr.byte_cells (own4'.alloc _) (Cr.Rd.made w4 .u8 5 [k % 256] rfl) (by unfold maxLen; simp) (by simp) (by have := H4.out.1.size; simp; omega) rfl rfl rfl rfl ?_)
  intro v2 w6 L6
  have n0 : ∀ g, (Value.slice A 5 c).ownBlock = some g → w.heap.size ≤ g := fun g hg => Nat.le_of_lt (H4.out.2.1 g hg)
  have hB6 : Below w.heap.size w w6 := L6.below (H4.out.1.alloc H4.out.1.size _) (by have := H4.out.1.size; simp; omega) n0
  have n6 : ∀ g, v2.ownBlock = some g → w.heap.size ≤ g := L6.new n0 (by have := H4.out.1.size; simp; omega)
  have own6 := L6.1
  obtain ⟨l6, hl6⟩ : ∃ l6 : List Int, l6 = Nu.longOf t ++ [k % 256] := ⟨_, rfl⟩
  have e6 : (Nu.longOf t).map (Value.int .u8) ++ [k % 256].map (Value.int .u8) = l6.map (Value.int .u8) := by rw [hl6, List.map_append]
  rw [e6] at own6
  obtain ⟨A6, c6, rfl, hc6', _⟩ := own_rd own6
  have hs6 : Rd w6 w6.heap.size .u8 A2 5 (Nu.longOf v) := rd_over (c := c2) (hs4.below ((Below.refl _ w4).alloc (Nat.le_refl _) _)) (by simp) L6.2.1 (fun g hg e => by have h1 := H4.out.2.2.1 g e; have h2 := H4.out.2.2.2 g hg; omega)
  have H6 := Lib.hid (⟨hB6, n6, hl6⟩ : _ ∧ _ ∧ _)
  clear L6 hs4 own4' n6 hB6 e6 hl6 n0
  go_wp2_with (at_builtin; refine hold ?_)
  refine unhold (Cr.wpList_append_rd (.tmp 26) (.tmp 27) 23 Tryd.underlying23 hi hz0 hz1 hz2 Cr.byte_cells own6 hs6 (by unfold maxLen; simp) (by simp) H6.out.1.size rfl rfl rfl rfl ?_)
  intro v3 w7 L7
  have hB7 : Below w.heap.size w w7 := L7.below H6.out.1 H6.out.1.size H6.out.2.1
  have own7 := L7.1
  have e7 : l6.map (Value.int .u8) ++ (Nu.longOf v).map (Value.int .u8) = (textL ⟨t, k, v⟩).map (Value.int .u8) := by rw [← List.map_append, H6.out.2.2, List.append_assoc]; rfl
  rw [e7] at own7
  obtain ⟨A7, c7, rfl, hc7', hr7⟩ := own_rd own7
  have H7 := Lib.hid hB7
  clear L7 own7 own6 hs6 e7 hB7
  go_wp2_with fail
  refine (Cr.rput_any A7 11 c7 (textL ⟨t, k, v⟩) w7 hr7 (textL_byt _) (by omega)).mono ?_
  rintro e w8 ⟨⟨x, A8, c8, hx, rfl, hc8, hr8⟩, hb8⟩
  obtain rfl : x = Cr.sumI (textL ⟨t, k, v⟩) := hx.sum
  have H8 := Lib.hid (⟨hr8, hc8, H7.out.trans (hb8.mono H7.out.size)⟩ : _ ∧ _ ∧ _)
  clear hx hr8 hc8 hb8 hr7 hc7'
  go_wp2_with fail
  go_ret
  exact ⟨⟨A8, c8, rfl, H8.out.2.1, H8.out.1⟩, H8.out.2.2⟩

end Go.Proofs.YtlblfpfdebmcgaaDoor
