/-
  The small run: it comes out true.
-/
import Derived.Test.YtmfiopopiikbmaaWakesC
namespace Go.Proofs.Ytmfiopopiikbmaa
open Go.RowKit Go.Maps

theorem below_al {w W : World} (h : Below w.heap.size w W) (o : Obj) : Below w.heap.size w (W.alloc o) := h.alloc h.size o
theorem below_dr {w W : World} (h : Below w.heap.size w W) : Below w.heap.size w W.drew := h.drew
theorem below_st {w W : World} {g i : Nat} (hg : w.heap.size ≤ g) (h : Below w.heap.size w W) (v : Value) : Below w.heap.size w (W.setCell ⟨g, i, none⟩ v) := h.setCell (p := ⟨g, i, none⟩) hg v
theorem below_d0 (w : World) : Below w.heap.size w w := Below.refl _ _
theorem box4_dr {W : World} {g : Nat} {o : OpM} (h : Box4 W g o) : Box4 W.drew g o := h
theorem below_on {w W W' : World} (h : Below w.heap.size w W) (h' : Below W.heap.size W W') : Below w.heap.size w W' := h.trans (h'.mono h.size)
theorem box4_al {W : World} {g : Nat} {o : OpM} (h : Box4 W g o) (x : Obj) : Box4 (W.alloc x) g o := h.below (below_al (Below.refl _ _) x)
theorem box5_al {W : World} {g : Nat} {t : TypeId} {a b c d e : Value} (h : Box5 W g t a b c d e) (x : Obj) : Box5 (W.alloc x) g t a b c d e := h.below (below_al (Below.refl _ _) x)

abbrev BoxT (W : World) (g : Nat) : Prop := Box5 W g 25 (.slice none 0 0) (.slice none 0 0) (.int .i64 0) (.int .i64 0) (.bool false)
theorem BoxT.below {W W' : World} {g : Nat} (h : BoxT W g) (hb : Below W.heap.size W W') : BoxT W' g := Box5.below h hb
theorem BoxT.dr {W : World} {g : Nat} (h : BoxT W g) : BoxT W.drew g := h
theorem BoxT.al {W : World} {g : Nat} (h : BoxT W g) (x : Obj) : BoxT (W.alloc x) g := box5_al h x

theorem hbC1 (W : World) : Box4 (W.alloc (.cells #[.int .u8 1, .string nA, .string n0, .slice none 0 0] 28)) W.heap.size oC := World.alloc_heap_new W _
theorem hbC2 (W : World) : Box4 (W.drew.alloc (.cells #[.int .u8 1, .string nA, .string n0, .slice none 0 0] 28)) W.heap.size oC := World.alloc_heap_new W.drew _
theorem hbC3 (W : World) (x : Obj) : Box4 ((W.alloc x).alloc (.cells #[.int .u8 1, .string nA, .string n0, .slice none 0 0] 28)) (W.heap.size + 1) oC := by
  have h := World.alloc_heap_new (W.alloc x) (.cells #[.int .u8 1, .string nA, .string n0, .slice none 0 0] 28)
  rw [show (W.alloc x).heap.size = W.heap.size + 1 from World.size_alloc _ _] at h
  exact h
theorem hbC4 (W : World) (x : Obj) : Box4 ((W.drew.alloc x).alloc (.cells #[.int .u8 1, .string nA, .string n0, .slice none 0 0] 28)) (W.heap.size + 1) oC := by
  have h := World.alloc_heap_new (W.drew.alloc x) (.cells #[.int .u8 1, .string nA, .string n0, .slice none 0 0] 28)
  rw [show (W.drew.alloc x).heap.size = W.heap.size + 1 from World.size_alloc _ _] at h
  exact h
theorem hbC5 (W : World) (x : Obj) : Box4 ((W.alloc x).drew.alloc (.cells #[.int .u8 1, .string nA, .string n0, .slice none 0 0] 28)) (W.heap.size + 1) oC := by
  have h := World.alloc_heap_new (W.alloc x).drew (.cells #[.int .u8 1, .string nA, .string n0, .slice none 0 0] 28)
  rw [show (W.alloc x).drew.heap.size = W.heap.size + 1 from World.size_alloc _ _] at h
  exact h
theorem hbT1 (W : World) : BoxT (W.alloc (.cells #[.slice none 0 0, .slice none 0 0, .int .i64 0, .int .i64 0, .bool false] 25)) W.heap.size := World.alloc_heap_new W _
theorem hbT2 (W : World) : BoxT (W.drew.alloc (.cells #[.slice none 0 0, .slice none 0 0, .int .i64 0, .int .i64 0, .bool false] 25)) W.heap.size := World.alloc_heap_new W.drew _
theorem hbT3 (W : World) (x : Obj) : BoxT ((W.alloc x).alloc (.cells #[.slice none 0 0, .slice none 0 0, .int .i64 0, .int .i64 0, .bool false] 25)) (W.heap.size + 1) := by
  have h := World.alloc_heap_new (W.alloc x) (.cells #[.slice none 0 0, .slice none 0 0, .int .i64 0, .int .i64 0, .bool false] 25)
  rw [show (W.alloc x).heap.size = W.heap.size + 1 from World.size_alloc _ _] at h
  exact h
theorem hbT4 (W : World) (x : Obj) : BoxT ((W.drew.alloc x).alloc (.cells #[.slice none 0 0, .slice none 0 0, .int .i64 0, .int .i64 0, .bool false] 25)) (W.heap.size + 1) := by
  have h := World.alloc_heap_new (W.drew.alloc x) (.cells #[.slice none 0 0, .slice none 0 0, .int .i64 0, .int .i64 0, .bool false] 25)
  rw [show (W.drew.alloc x).heap.size = W.heap.size + 1 from World.size_alloc _ _] at h
  exact h
theorem hbT5 (W : World) (x : Obj) : BoxT ((W.alloc x).drew.alloc (.cells #[.slice none 0 0, .slice none 0 0, .int .i64 0, .int .i64 0, .bool false] 25)) (W.heap.size + 1) := by
  have h := World.alloc_heap_new (W.alloc x).drew (.cells #[.slice none 0 0, .slice none 0 0, .int .i64 0, .int .i64 0, .bool false] 25)
  rw [show (W.alloc x).drew.heap.size = W.heap.size + 1 from World.size_alloc _ _] at h
  exact h
theorem hbM1 (y : Nat) (W : World) : Box4 (W.alloc (.cells #[.int .u8 2, .string nA, .string n0, .slice (some ⟨y, 0, none⟩) 2 2] 28)) W.heap.size (oM y) := World.alloc_heap_new W _
theorem hbM2 (y : Nat) (W : World) : Box4 (W.drew.alloc (.cells #[.int .u8 2, .string nA, .string n0, .slice (some ⟨y, 0, none⟩) 2 2] 28)) W.heap.size (oM y) := World.alloc_heap_new W.drew _
theorem hbM3 (y : Nat) (W : World) (x : Obj) : Box4 ((W.alloc x).alloc (.cells #[.int .u8 2, .string nA, .string n0, .slice (some ⟨y, 0, none⟩) 2 2] 28)) (W.heap.size + 1) (oM y) := by
  have h := World.alloc_heap_new (W.alloc x) (.cells #[.int .u8 2, .string nA, .string n0, .slice (some ⟨y, 0, none⟩) 2 2] 28)
  rw [show (W.alloc x).heap.size = W.heap.size + 1 from World.size_alloc _ _] at h
  exact h
theorem hbM4 (y : Nat) (W : World) (x : Obj) : Box4 ((W.drew.alloc x).alloc (.cells #[.int .u8 2, .string nA, .string n0, .slice (some ⟨y, 0, none⟩) 2 2] 28)) (W.heap.size + 1) (oM y) := by
  have h := World.alloc_heap_new (W.drew.alloc x) (.cells #[.int .u8 2, .string nA, .string n0, .slice (some ⟨y, 0, none⟩) 2 2] 28)
  rw [show (W.drew.alloc x).heap.size = W.heap.size + 1 from World.size_alloc _ _] at h
  exact h
theorem hbM5 (y : Nat) (W : World) (x : Obj) : Box4 ((W.alloc x).drew.alloc (.cells #[.int .u8 2, .string nA, .string n0, .slice (some ⟨y, 0, none⟩) 2 2] 28)) (W.heap.size + 1) (oM y) := by
  have h := World.alloc_heap_new (W.alloc x).drew (.cells #[.int .u8 2, .string nA, .string n0, .slice (some ⟨y, 0, none⟩) 2 2] 28)
  rw [show (W.alloc x).drew.heap.size = W.heap.size + 1 from World.size_alloc _ _] at h
  exact h
theorem hv {p q : Prop} (h : p) (k : p → q) : q := k h

set_option maxRecDepth 100000 in
set_option maxHeartbeats 8000000 in
theorem wakes_true (w : World) : Calls Try.prog 9 #[] w fun e w' => e = .returned (.bool true) ∧ Below w.heap.size w w' := by
  go_enter Try.func9, Try.ntmps9
  go_wp2_with fail
  obtain ⟨y, hy⟩ : ∃ y, y = w.heap.size := ⟨_, rfl⟩
  obtain ⟨wa, hwa⟩ : ∃ wa, wa = w.alloc (.cells #[.int .u8 1, .int .u8 2] 5) := ⟨_, rfl⟩
  obtain ⟨wb, hwb⟩ : ∃ wb, wb = wa.alloc (.cells #[.int .u8 1, .string nA, .string n0, .slice none 0 0] 28) := ⟨_, rfl⟩
  obtain ⟨w0, hw0⟩ : ∃ w0, w0 = wb.alloc (.cells #[.int .u8 2, .string nA, .string n0, .slice (some ⟨y, 0, none⟩) 2 2] 28) := ⟨_, rfl⟩
  have hsa : wa.heap.size = y + 1 := by rw [hwa, hy]; simp
  have hsb : wb.heap.size = y + 2 := by rw [hwb]; simp [hsa]
  have hs0 : w0.heap.size = y + 3 := by rw [hw0]; simp [hsb]
  have ba : Below w.heap.size w wa := by rw [hwa]; exact (Below.refl _ _).alloc (Nat.le_refl _) _
  have bab : Below wa.heap.size wa wb := by rw [hwb]; exact (Below.refl _ _).alloc (Nat.le_refl _) _
  have bb0 : Below wb.heap.size wb w0 := by rw [hw0]; exact (Below.refl _ _).alloc (Nat.le_refl _) _
  have ba0 : Below wa.heap.size wa w0 := bab.trans (bb0.mono bab.size)
  have hB0 : Below w.heap.size w w0 := ba.trans (ba0.mono ba.size)
  have bC0 : Box4 w0 (y + 1) oC := by
    have h1 : Box4 wb (y + 1) oC := by rw [hwb, ← hsa]; exact World.alloc_heap_new wa _
    exact h1.below bb0
  have bM0 : Box4 w0 (y + 2) (oM y) := by rw [hw0, ← hsb]; exact World.alloc_heap_new wb _
  have rM0 : (oM y).p.Ok w0 w0.heap.size := by
    refine ⟨⟨rfl, fun _ => ⟨y, 0, rfl, by omega, fun i hi => ?_⟩⟩, fun x hx => ?_, Nat.le_refl _⟩
    · have h1 : wa.heap[y]? = some (.cells #[.int .u8 1, .int .u8 2] 5 (0, 0)) := by rw [hwa, hy]; exact World.alloc_heap_new w _
      have h2 : w0.heap[y]? = some (.cells #[.int .u8 1, .int .u8 2] 5 (0, 0)) := (ba0.block y (by omega)).trans h1
      rw [cell_of_row _ _ _ _ _ _ h2]
      have hi2 : i < 2 := hi
      rcases (by omega : i = 0 ∨ i = 1) with rfl | rfl <;> rfl
    · have hx' : x = 1 ∨ x = 2 := by simpa using (show x ∈ [(1 : Int), 2] from hx)
      omega
  have he : w0 = ((w.alloc (.cells #[.int .u8 1, .int .u8 2] 5)).alloc (.cells #[.int .u8 1, .string nA, .string n0, .slice none 0 0] 28)).alloc (.cells #[.int .u8 2, .string nA, .string n0, .slice (some ⟨y, 0, none⟩) 2 2] 28) := by rw [hw0, hwb, hwa]
  rw [← hy, ← he]
  have hyw : w.heap.size ≤ y := by omega
  have H0 := Lib.hid hs0
  clear hwa hwb hw0 he hsa hsb hs0 ba bab bb0 ba0 hy
  have bd : Below w0.heap.size w0 w0.drew := (Below.refl _ _).drew
  obtain ⟨⟨c0, c1, c2, c3⟩, _⟩ := box4 (bC0.below bd)
  have HC := Lib.hid bC0
  clear bC0
  have hbC : ∀ W : World, Box4 (W.alloc (.cells #[.int .u8 1, .string nA, .string n0, .slice none 0 0] 28)) W.heap.size oC := fun W => World.alloc_heap_new W _
  have hbC' : ∀ (W : World) (g : Nat), g = W.heap.size → Box4 (W.alloc (.cells #[.int .u8 1, .string nA, .string n0, .slice none 0 0] 28)) g oC := fun W g h => by subst h; exact hbC W
  have hoC : ∀ W : World, oC.p.Ok W W.heap.size := ok_none
  have hmx : (max (3 : Int) 0) = 3 := rfl
  refine wp_mono (Q := AtEnd fun a' w' => ∃ t3 x18 x19 x20 x21 x22 x23 x24 x25 A n c B m k, (DAt w' ⟨[⟨nA, []⟩], [], 3, 0, false⟩ A n c B m k ∧ Box5 w' t3 25 (.slice A n c) (.slice B m k) (.int .i64 3) (.int .i64 0) (.bool false) ∧ w0.heap.size ≤ t3 ∧ Below w0.heap.size w0 w') ∧
    a' = { tmps := #[.bool false, .pointer (some ⟨y + 1, 0, none⟩), .pointer (some ⟨y + 2, 0, none⟩), .pointer (some ⟨t3, 0, none⟩), .int .i64 0, undef, undef, undef, undef, undef, undef, undef, undef, undef, undef, .agg #[.int .u8 1, .string nA, .string n0, .slice none 0 0], .slice (some ⟨y, 0, none⟩) 2 2, .agg #[.int .u8 2, .string nA, .string n0, .slice (some ⟨y, 0, none⟩) 2 2], x18, x19, x20, x21, x22, x23, x24, x25, undef, undef, undef, undef, undef, undef, undef, undef, undef, undef, undef, undef, undef, undef, undef, undef, undef, undef, undef, undef, undef, undef, undef, undef, undef, undef, undef, undef, undef, undef, undef, undef, undef, undef, undef, undef, undef, undef, undef, undef, undef, undef, undef, undef, undef, undef, undef, undef, undef, undef, undef, undef, undef, undef, undef, undef, undef, undef, undef, undef, undef, undef, undef, undef, undef, undef, undef, undef, undef, undef, undef, undef, undef, undef, undef, undef, undef, undef, undef, undef, undef, undef, undef, undef, undef, undef, undef, undef, undef, undef, undef, undef, undef, undef], defers := [] }) ?reg ?rest
  case reg =>
    have Hcells := Lib.hid (show ∀ W, Below w0.heap.size w0 W → Below w0.heap.size w0 W ∧ W.cell? ⟨y + 1, 0, none⟩ = some (.int .u8 1) ∧ W.cell? ⟨y + 1, 1, none⟩ = some (.string nA) ∧ W.cell? ⟨y + 1, 2, none⟩ = some (.string n0) ∧ W.cell? ⟨y + 1, 3, none⟩ = some (.slice none 0 0) from fun W hW => by
      obtain ⟨⟨a0, a1, a2, a3⟩, _⟩ := box4 (HC.out.below hW)
      exact ⟨hW, a0, a1, a2, a3⟩)
    clear c0 c1 c2 c3
    go_region_held3 (fun W => Below w0.heap.size w0 W ∧ W.cell? ⟨y + 1, 0, none⟩ = some (.int .u8 1) ∧ W.cell? ⟨y + 1, 1, none⟩ = some (.string nA) ∧ W.cell? ⟨y + 1, 2, none⟩ = some (.string n0) ∧ W.cell? ⟨y + 1, 3, none⟩ = some (.slice none 0 0))
      (exact Hcells.out _ (by (repeat (with_reducible first | assumption | exact below_d0 _ | refine below_al ?_ _ | refine below_dr ?_ | (refine below_st ?_ ?_ _; (first | omega | (simp; omega) | simp)))); done))
      (first
      | (go_at_call 28; (with_reducible refine (dev_new 3 _).mono ?_); rintro e w1 ⟨rfl, hb1⟩; rw [hmx]; refine hv (p := Below w0.heap.size w0 w1) (below_on ?_ hb1) (fun kb1 => ?_); (· repeat (with_reducible first | assumption | exact And.left (by assumption) | exact below_d0 _ | refine below_al ?_ _ | refine below_dr ?_)); (have ks1 := kb1.size); (try (refine hv (p := Box4 w1 w0.heap.size oC) (Box4.below ?_ hb1) (fun bg1 => ?_); (· repeat (with_reducible first | assumption | exact hbC1 _ | exact hbC2 _ | exact hbC3 _ _ | exact hbC4 _ _ | exact hbC5 _ _ | refine box4_al ?_ _ | refine box4_dr ?_)))); (try (refine hv (p := Box4 w1 (w0.heap.size + 1) oC) (Box4.below ?_ hb1) (fun bg1 => ?_); (· repeat (with_reducible first | assumption | exact hbC1 _ | exact hbC2 _ | exact hbC3 _ _ | exact hbC4 _ _ | exact hbC5 _ _ | refine box4_al ?_ _ | refine box4_dr ?_)))); (try (refine hv (p := BoxT w1 w0.heap.size) (BoxT.below ?_ hb1) (fun bt1 => ?_); (· repeat (with_reducible first | assumption | exact hbT1 _ | exact hbT2 _ | exact hbT3 _ _ | exact hbT4 _ _ | exact hbT5 _ _ | refine BoxT.al ?_ _ | refine BoxT.dr ?_)))); (try (refine hv (p := BoxT w1 (w0.heap.size + 1)) (BoxT.below ?_ hb1) (fun bt1 => ?_); (· repeat (with_reducible first | assumption | exact hbT1 _ | exact hbT2 _ | exact hbT3 _ _ | exact hbT4 _ _ | exact hbT5 _ _ | refine BoxT.al ?_ _ | refine BoxT.dr ?_)))))
      | (go_at_call 30; (with_reducible refine Calls.mono (ops_cr (dat_nil _ 3 0 false) ?_ (hoC _)) ?_); (· repeat (with_reducible first | assumption | exact hbC1 _ | exact hbC2 _ | exact hbC3 _ _ | exact hbC4 _ _ | exact hbC5 _ _ | refine box4_al ?_ _ | refine box4_dr ?_)); rintro e w2 ⟨⟨A2, n2, c2, B2, m2, k2, rfl, d2⟩, hb2⟩; refine hv (p := Below w0.heap.size w0 w2) (below_on ?_ hb2) (fun kb2 => ?_); (· repeat (with_reducible first | assumption | exact And.left (by assumption) | exact below_d0 _ | refine below_al ?_ _ | refine below_dr ?_)); (have ks2 := kb2.size); (try (refine hv (p := BoxT w2 w0.heap.size) (BoxT.below ?_ hb2) (fun bt2 => ?_); (· repeat (with_reducible first | assumption | exact hbT1 _ | exact hbT2 _ | exact hbT3 _ _ | exact hbT4 _ _ | exact hbT5 _ _ | refine BoxT.al ?_ _ | refine BoxT.dr ?_)))); (try (refine hv (p := BoxT w2 (w0.heap.size + 1)) (BoxT.below ?_ hb2) (fun bt2 => ?_); (· repeat (with_reducible first | assumption | exact hbT1 _ | exact hbT2 _ | exact hbT3 _ _ | exact hbT4 _ _ | exact hbT5 _ _ | refine BoxT.al ?_ _ | refine BoxT.dr ?_)))); (try (refine hv (p := BoxT w2 w1.heap.size) (BoxT.below ?_ hb2) (fun bt2 => ?_); (· repeat (with_reducible first | assumption | exact hbT1 _ | exact hbT2 _ | exact hbT3 _ _ | exact hbT4 _ _ | exact hbT5 _ _ | refine BoxT.al ?_ _ | refine BoxT.dr ?_)))); (try (refine hv (p := BoxT w2 (w1.heap.size + 1)) (BoxT.below ?_ hb2) (fun bt2 => ?_); (· repeat (with_reducible first | assumption | exact hbT1 _ | exact hbT2 _ | exact hbT3 _ _ | exact hbT4 _ _ | exact hbT5 _ _ | refine BoxT.al ?_ _ | refine BoxT.dr ?_)))))
      | (go_at_call 12; (with_reducible refine Calls.mono (sync_cr ?_) ?_); (· first | exact d2 | exact d2.on (below_al (Below.refl _ _) _)); rintro e w3 ⟨⟨A3, n3, c3, B3, m3, k3, rfl, d3⟩, hb3⟩; refine hv (p := Below w0.heap.size w0 w3) (below_on ?_ hb3) (fun kb3 => ?_); (· repeat (with_reducible first | assumption | exact And.left (by assumption) | exact below_d0 _ | refine below_al ?_ _ | refine below_dr ?_)); (have ks3 := kb3.size); (try (refine hv (p := BoxT w3 w0.heap.size) (BoxT.below ?_ hb3) (fun bt3 => ?_); (· repeat (with_reducible first | assumption | exact hbT1 _ | exact hbT2 _ | exact hbT3 _ _ | exact hbT4 _ _ | exact hbT5 _ _ | refine BoxT.al ?_ _ | refine BoxT.dr ?_)))); (try (refine hv (p := BoxT w3 (w0.heap.size + 1)) (BoxT.below ?_ hb3) (fun bt3 => ?_); (· repeat (with_reducible first | assumption | exact hbT1 _ | exact hbT2 _ | exact hbT3 _ _ | exact hbT4 _ _ | exact hbT5 _ _ | refine BoxT.al ?_ _ | refine BoxT.dr ?_)))); (try (refine hv (p := BoxT w3 w1.heap.size) (BoxT.below ?_ hb3) (fun bt3 => ?_); (· repeat (with_reducible first | assumption | exact hbT1 _ | exact hbT2 _ | exact hbT3 _ _ | exact hbT4 _ _ | exact hbT5 _ _ | refine BoxT.al ?_ _ | refine BoxT.dr ?_)))); (try (refine hv (p := BoxT w3 (w1.heap.size + 1)) (BoxT.below ?_ hb3) (fun bt3 => ?_); (· repeat (with_reducible first | assumption | exact hbT1 _ | exact hbT2 _ | exact hbT3 _ _ | exact hbT4 _ _ | exact hbT5 _ _ | refine BoxT.al ?_ _ | refine BoxT.dr ?_)))); (try (refine hv (p := BoxT w3 w2.heap.size) (BoxT.below ?_ hb3) (fun bt3 => ?_); (· repeat (with_reducible first | assumption | exact hbT1 _ | exact hbT2 _ | exact hbT3 _ _ | exact hbT4 _ _ | exact hbT5 _ _ | refine BoxT.al ?_ _ | refine BoxT.dr ?_)))); (try (have hx5 := box5 bt3; obtain ⟨⟨r0, r1, r2, r3, r4⟩, s0, s1, s2, s3, s4⟩ := hx5))))
    all_goals
      first
      | exact ⟨_, _, _, _, _, _, _, _, _, A3, n3, c3, B3, m3, k3, ⟨DAt.put5 bt3 d3, put5_box bt3 _ _ _ _ _, by omega, put5_below kb3 (by omega) _ _ _ _ _⟩, rfl⟩
      | exact ⟨_, _, _, _, _, _, _, _, _, A3, n3, c3, B3, m3, k3, ⟨d3.on (below_al (Below.refl _ _) _), World.alloc_heap_new _ _, ks3, below_al kb3 _⟩, rfl⟩
  case rest =>
    intro e a' wR hend
    obtain ⟨rfl, t3, x18, x19, x20, x21, x22, x23, x24, x25, A1, n1, c1, B1, m1, k1, ⟨d1, b1, ht3, hB1⟩, rfl⟩ := hend.out
    have hB := hB0.trans (hB1.mono hB0.size)
    have bM := bM0.below hB1
    have rM := rM0.on hB1 hB1.size
    have ht2 : y + 2 < w0.heap.size := by have := H0.out; omega
    have hwt : w.heap.size ≤ t3 := Nat.le_trans hB0.size ht3
    have hne : y + 2 ≠ t3 := by omega
    clear hend hB1 hB0 bM0 rM0 bd HC hbC hbC' hoC hmx ht2 ht3 H0
    obtain ⟨⟨k0, k1', k2, k3, k4⟩, g0, g1, g2, g3, g4⟩ := box5 b1
    obtain ⟨⟨o0, o1, o2, o3⟩, _⟩ := box4 bM
    go_wp2_with fail
    have bal : Below wR.heap.size wR (wR.alloc (.cells #[.int .u8 2, .string nA, .string n0, .slice (some ⟨y, 0, none⟩) 2 2] 28)) := below_al (Below.refl _ _) _
    refine (ops_mo (y := y) (d1.on bal) (World.alloc_heap_new _ _) (rM.on bal bal.size)).mono ?_
    rintro e w2 ⟨⟨A2, n2, c2, B2, m2, k2', rfl, d2⟩, hb2⟩
    have b12 := bal.trans (hb2.mono bal.size)
    replace d1 := d1.on b12
    replace b1 := b1.below b12
    replace bM := bM.below b12
    replace rM := rM.on b12 b12.size
    replace hB := hB.trans (b12.mono hB.size)
    clear bal hb2 b12 k0 k1' k2 k3 k4 g0 g1 g2 g3 g4 o0 o1 o2 o3
    go_wp2_with fail
    refine (crash_mo d2).mono ?_
    rintro e w3 ⟨⟨A3, n3, c3, B3, m3, k3', rfl, d3⟩, hb3⟩
    replace d1 := d1.on hb3
    replace b1 := b1.below hb3
    replace bM := bM.below hb3
    replace rM := rM.on hb3 hb3.size
    replace hB := hB.trans (hb3.mono hB.size)
    clear d2 hb3
    go_wp2_with fail
    obtain ⟨t5, ht5⟩ : ∃ t5, t5 = w3.heap.size := ⟨_, rfl⟩
    obtain ⟨w4, hw4⟩ : ∃ w4, w4 = w3.alloc (.cells #[.slice A3 n3 c3, .slice B3 m3 k3', .int .i64 3, .int .i64 0, .bool false] 25) := ⟨_, rfl⟩
    have b34 : Below w3.heap.size w3 w4 := by rw [hw4]; exact below_al (Below.refl _ _) _
    have bc : Box5 w4 t5 25 (.slice A3 n3 c3) (.slice B3 m3 k3') (.int .i64 3) (.int .i64 0) (.bool false) := by rw [hw4, ht5]; exact World.alloc_heap_new w3 _
    have ht35 : t3 ≠ t5 := by have := b1.lt; omega
    have ht25 : y + 2 < t5 := by rw [ht5]; exact (Array.getElem?_eq_some_iff.1 bM).1
    have hwt5 : w.heap.size ≤ t5 := by rw [ht5]; exact hB.size
    replace d1 := d1.on b34
    replace d3 := d3.on b34
    replace b1 := b1.below b34
    replace bM := bM.below b34
    replace rM := rM.on b34 b34.size
    replace hB := hB.trans (b34.mono hB.size)
    rw [← hw4, ← ht5]
    clear hw4 ht5 b34
    have Hcells := Lib.hid (show ∀ W, Below w4.heap.size w4 W → Below w4.heap.size w4 W ∧ W.cell? ⟨t3, 0, none⟩ = some (.slice A1 n1 c1) ∧ W.cell? ⟨t3, 1, none⟩ = some (.slice B1 m1 k1) ∧ W.cell? ⟨t3, 2, none⟩ = some (.int .i64 3) ∧ W.cell? ⟨t3, 3, none⟩ = some (.int .i64 0) ∧ W.cell? ⟨t3, 4, none⟩ = some (.bool false) ∧ W.cell? ⟨y + 2, 0, none⟩ = some (.int .u8 2) ∧ W.cell? ⟨y + 2, 1, none⟩ = some (.string nA) ∧ W.cell? ⟨y + 2, 2, none⟩ = some (.string n0) ∧ W.cell? ⟨y + 2, 3, none⟩ = some (.slice (some ⟨y, 0, none⟩) 2 2) from fun W hW => by
      obtain ⟨⟨a0, a1, a2, a3, a4⟩, _⟩ := box5 (b1.below hW)
      obtain ⟨⟨e0, e1, e2, e3⟩, _⟩ := box4 (bM.below hW)
      exact ⟨hW, a0, a1, a2, a3, a4, e0, e1, e2, e3⟩)
    have Hd := Lib.hid (show ∀ W, Below w4.heap.size w4 W → DAt W ⟨[⟨nA, []⟩], [], 3, 0, false⟩ A1 n1 c1 B1 m1 k1 from fun W hW => d1.on hW)
    have Hr := Lib.hid (show ∀ W, Below w4.heap.size w4 W → (oM y).p.Ok W W.heap.size from fun W hW => rM.on hW hW.size)
    have HM := Lib.hid (⟨d1, d3, b1, bM, rM, hB, bc⟩ : _ ∧ _ ∧ _ ∧ _ ∧ _ ∧ _ ∧ _)
    clear d1 d3 b1 bM rM hB bc
    refine wp_mono (Q := AtEnd fun a' w' => ∃ t6 x18 x19 x20 x21 x22 x23 x24 x25 x26 x27 x28 x29 x30 x31 x32 x33 x34 x35 x36 x37 x38 x39, Below w4.heap.size w4 w' ∧
      a' = { tmps := #[.bool false, .pointer (some ⟨y + 1, 0, none⟩), .pointer (some ⟨y + 2, 0, none⟩), .pointer (some ⟨t3, 0, none⟩), .int .i64 0, .pointer (some ⟨t5, 0, none⟩), .pointer (some ⟨t6, 0, none⟩), .int .i64 41, undef, undef, undef, undef, undef, undef, undef, .agg #[.int .u8 1, .string nA, .string n0, .slice none 0 0], .slice (some ⟨y, 0, none⟩) 2 2, .agg #[.int .u8 2, .string nA, .string n0, .slice (some ⟨y, 0, none⟩) 2 2], x18, x19, x20, x21, x22, x23, x24, x25, x26, x27, x28, x29, x30, x31, x32, x33, x34, x35, x36, x37, x38, x39, undef, undef, undef, undef, undef, undef, undef, undef, undef, undef, undef, undef, undef, undef, undef, undef, undef, undef, undef, undef, undef, undef, undef, undef, undef, undef, undef, undef, undef, undef, undef, undef, undef, undef, undef, undef, undef, undef, undef, undef, undef, undef, undef, undef, undef, undef, undef, undef, undef, undef, undef, undef, undef, undef, undef, undef, undef, undef, undef, undef, undef, undef, undef, undef, undef, undef, undef, undef, undef, undef, undef, undef, undef, undef, undef, undef, undef, undef, undef, undef], defers := [] }) ?reg4 ?rest4
    case reg4 =>
      go_region_held3 (fun W => Below w4.heap.size w4 W ∧ W.cell? ⟨t3, 0, none⟩ = some (.slice A1 n1 c1) ∧ W.cell? ⟨t3, 1, none⟩ = some (.slice B1 m1 k1) ∧ W.cell? ⟨t3, 2, none⟩ = some (.int .i64 3) ∧ W.cell? ⟨t3, 3, none⟩ = some (.int .i64 0) ∧ W.cell? ⟨t3, 4, none⟩ = some (.bool false) ∧ W.cell? ⟨y + 2, 0, none⟩ = some (.int .u8 2) ∧ W.cell? ⟨y + 2, 1, none⟩ = some (.string nA) ∧ W.cell? ⟨y + 2, 2, none⟩ = some (.string n0) ∧ W.cell? ⟨y + 2, 3, none⟩ = some (.slice (some ⟨y, 0, none⟩) 2 2))
        (exact Hcells.out _ (by repeat (with_reducible first | assumption | exact below_d0 _ | refine below_al ?_ _ | refine below_dr ?_ | (refine below_st ?_ ?_ _; (first | omega | (simp; omega) | simp)))))
        (first
        | (go_at_call 30; (with_reducible refine Calls.mono (ops_mo (y := y) ?_ ?_ ?_) ?_); (· refine Hd.out _ ?_; repeat (with_reducible first | assumption | exact And.left (by assumption) | exact below_d0 _ | refine below_al ?_ _ | refine below_dr ?_)); (· repeat (with_reducible first | assumption | exact hbM1 _ _ | exact hbM2 _ _ | exact hbM3 _ _ _ | exact hbM4 _ _ _ | exact hbM5 _ _ _ | refine box4_al ?_ _ | refine box4_dr ?_)); (· refine Hr.out _ ?_; repeat (with_reducible first | assumption | exact And.left (by assumption) | exact below_d0 _ | refine below_al ?_ _ | refine below_dr ?_)); rintro e w5 ⟨⟨A5, n5, c5, B5, m5, k5, rfl, d5⟩, hb5⟩; refine hv (p := Below w4.heap.size w4 w5) (below_on ?_ hb5) (fun kb5 => ?_); (· repeat (with_reducible first | assumption | exact And.left (by assumption) | exact below_d0 _ | refine below_al ?_ _ | refine below_dr ?_)); (have ks5 := kb5.size); (try (refine hv (p := BoxT w5 w4.heap.size) (BoxT.below ?_ hb5) (fun bt5 => ?_); (· repeat (with_reducible first | assumption | exact hbT1 _ | exact hbT2 _ | exact hbT3 _ _ | exact hbT4 _ _ | exact hbT5 _ _ | refine BoxT.al ?_ _ | refine BoxT.dr ?_)))); (try (refine hv (p := BoxT w5 (w4.heap.size + 1)) (BoxT.below ?_ hb5) (fun bt5 => ?_); (· repeat (with_reducible first | assumption | exact hbT1 _ | exact hbT2 _ | exact hbT3 _ _ | exact hbT4 _ _ | exact hbT5 _ _ | refine BoxT.al ?_ _ | refine BoxT.dr ?_)))))
        | (go_at_call 10; (with_reducible refine Calls.mono (do_mo (y := y) ?_ ?_) ?_); (· first | exact d5 | exact d5.on (below_al (Below.refl _ _) _)); (· refine Hr.out _ ?_; repeat (with_reducible first | assumption | exact And.left (by assumption) | exact below_d0 _ | refine below_al ?_ _ | refine below_dr ?_)); rintro e w6 ⟨⟨A6, n6, c6, B6, m6, k6, rfl, d6⟩, hb6⟩; refine hv (p := Below w4.heap.size w4 w6) (below_on ?_ hb6) (fun kb6 => ?_); (· repeat (with_reducible first | assumption | exact And.left (by assumption) | exact below_d0 _ | refine below_al ?_ _ | refine below_dr ?_)); (have ks6 := kb6.size); (try (refine hv (p := BoxT w6 w4.heap.size) (BoxT.below ?_ hb6) (fun bt6 => ?_); (· repeat (with_reducible first | assumption | exact hbT1 _ | exact hbT2 _ | exact hbT3 _ _ | exact hbT4 _ _ | exact hbT5 _ _ | refine BoxT.al ?_ _ | refine BoxT.dr ?_)))); (try (refine hv (p := BoxT w6 (w4.heap.size + 1)) (BoxT.below ?_ hb6) (fun bt6 => ?_); (· repeat (with_reducible first | assumption | exact hbT1 _ | exact hbT2 _ | exact hbT3 _ _ | exact hbT4 _ _ | exact hbT5 _ _ | refine BoxT.al ?_ _ | refine BoxT.dr ?_)))); (try (refine hv (p := BoxT w6 w5.heap.size) (BoxT.below ?_ hb6) (fun bt6 => ?_); (· repeat (with_reducible first | assumption | exact hbT1 _ | exact hbT2 _ | exact hbT3 _ _ | exact hbT4 _ _ | exact hbT5 _ _ | refine BoxT.al ?_ _ | refine BoxT.dr ?_)))); (try (have hx6 := box5 bt6; obtain ⟨⟨r0, r1, r2, r3, r4⟩, s0, s1, s2, s3, s4⟩ := hx6))))
      all_goals
        first
        | exact ⟨_, _, _, _, _, _, _, _, _, _, _, _, _, _, _, _, _, _, _, _, _, _, _, (fun _ => put5_below kb6 (by omega) _ _ _ _ _) bt6, rfl⟩
        | exact ⟨_, _, _, _, _, _, _, _, _, _, _, _, _, _, _, _, _, _, _, _, _, _, _, below_al kb6 _, rfl⟩
    case rest4 =>
      intro e a' w7 hend
      obtain ⟨rfl, t6, x18, x19, x20, x21, x22, x23, x24, x25, x26, x27, x28, x29, x30, x31, x32, x33, x34, x35, x36, x37, x38, x39, hB7, rfl⟩ := hend.out
      obtain ⟨d1, d3, b1, bM, rM, hB, bc⟩ := HM.out
      clear hend HM Hcells Hd Hr
      replace d1 := d1.on hB7
      replace d3 := d3.on hB7
      replace b1 := b1.below hB7
      replace bM := bM.below hB7
      replace rM := rM.on hB7 hB7.size
      replace bc := bc.below hB7
      replace hB := hB.trans (hB7.mono hB.size)
      clear hB7
      obtain ⟨⟨k0, k1', k2, k3, k4⟩, g0, g1, g2, g3, g4⟩ := box5 b1
      go_wp2_with fail
      refine (do_rm d1 (ok_none _)).mono ?_
      rintro e w8 ⟨⟨A8, n8, c8, B8, m8, k8, rfl, d8⟩, hb8⟩
      replace d1 := d1.on hb8
      replace d3 := d3.on hb8
      replace b1 := b1.below hb8
      replace bM := bM.below hb8
      replace rM := rM.on hb8 hb8.size
      replace bc := bc.below hb8
      replace hB := hB.trans (hb8.mono hB.size)
      clear d8 hb8 k0 k1' k2 k3 k4 g0 g1 g2 g3 g4
      obtain ⟨⟨k0, k1', k2, k3, k4⟩, g0, g1, g2, g3, g4⟩ := box5 (box5_al b1 (.cells #[.slice A8 n8 c8, .slice B8 m8 k8, .int .i64 3, .int .i64 0, .bool false] 25))
      obtain ⟨⟨o0, o1, o2, o3⟩, _⟩ := box4 (box4_al bM (.cells #[.slice A8 n8 c8, .slice B8 m8 k8, .int .i64 3, .int .i64 0, .bool false] 25))
      go_wp2_with fail
      have b89 : Below w8.heap.size w8 (w8.alloc (.cells #[.slice A8 n8 c8, .slice B8 m8 k8, .int .i64 3, .int .i64 0, .bool false] 25)) := below_al (Below.refl _ _) _
      have hs10 : ((w8.alloc (.cells #[.slice A8 n8 c8, .slice B8 m8 k8, .int .i64 3, .int .i64 0, .bool false] 25)).setCell ⟨t3, 3, none⟩ (.int .i64 1)).heap.size = w8.heap.size + 1 := by simp
      have b1a := b1.below b89
      have b1' : Box5 ((w8.alloc (.cells #[.slice A8 n8 c8, .slice B8 m8 k8, .int .i64 3, .int .i64 0, .bool false] 25)).setCell ⟨t3, 3, none⟩ (.int .i64 1)) t3 25 (.slice A1 n1 c1) (.slice B1 m1 k1) (.int .i64 3) (.int .i64 1) (.bool false) := b1a.s3 _
      have d1a := (d1.on b89).apart (i := 3) (v := .int .i64 1) b1a.noData
      have d1' : DAt ((w8.alloc (.cells #[.slice A8 n8 c8, .slice B8 m8 k8, .int .i64 3, .int .i64 0, .bool false] 25)).setCell ⟨t3, 3, none⟩ (.int .i64 1)) ⟨[⟨nA, []⟩], [], 3, 1, false⟩ A1 n1 c1 B1 m1 k1 := ⟨d1a.nc, d1a.oc, d1a.files, d1a.queue⟩
      have d3' := (d3.on b89).apart (i := 3) (v := .int .i64 1) b1a.noData
      have rM' : (oM y).p.Ok ((w8.alloc (.cells #[.slice A8 n8 c8, .slice B8 m8 k8, .int .i64 3, .int .i64 0, .bool false] 25)).setCell ⟨t3, 3, none⟩ (.int .i64 1)) ((w8.alloc (.cells #[.slice A8 n8 c8, .slice B8 m8 k8, .int .i64 3, .int .i64 0, .bool false] 25)).setCell ⟨t3, 3, none⟩ (.int .i64 1)).heap.size := by
        have h1 := (rM.on b89 b89.size).apart (i := 3) (v := .int .i64 1) b1a.noData
        rw [hs10]
        rw [World.size_alloc] at h1
        exact h1
      have bc' : Box5 ((w8.alloc (.cells #[.slice A8 n8 c8, .slice B8 m8 k8, .int .i64 3, .int .i64 0, .bool false] 25)).setCell ⟨t3, 3, none⟩ (.int .i64 1)) t5 25 (.slice A3 n3 c3) (.slice B3 m3 k3') (.int .i64 3) (.int .i64 0) (.bool false) := (bc.below b89).other (by omega) _
      have hB' : Below w.heap.size w ((w8.alloc (.cells #[.slice A8 n8 c8, .slice B8 m8 k8, .int .i64 3, .int .i64 0, .bool false] 25)).setCell ⟨t3, 3, none⟩ (.int .i64 1)) := (hB.trans (b89.mono hB.size)).setCell (p := ⟨t3, 3, none⟩) hwt _
      obtain ⟨w10, hw10⟩ : ∃ w10, w10 = (w8.alloc (.cells #[.slice A8 n8 c8, .slice B8 m8 k8, .int .i64 3, .int .i64 0, .bool false] 25)).setCell ⟨t3, 3, none⟩ (.int .i64 1) := ⟨_, rfl⟩
      rw [← hw10] at hs10 b1' d1' d3' rM' bc' hB' ⊢
      rw [← hs10]
      clear hw10 d1a b1a b89 b1 d1 d3 rM bc hB bM k0 k1' k2 k3 k4 g0 g1 g2 g3 g4 o0 o1 o2 o3
      have bal : Below w10.heap.size w10 (w10.alloc (.cells #[.int .u8 2, .string nA, .string n0, .slice (some ⟨y, 0, none⟩) 2 2] 28)) := below_al (Below.refl _ _) _
      refine (ops_fu (y := y) (d1'.on bal) (World.alloc_heap_new _ _) (rM'.on bal bal.size)).mono ?_
      rintro e w11 ⟨⟨A11, n11, c11, B11, m11, k11, rfl, d11⟩, hb11⟩
      have b1011 := bal.trans (hb11.mono bal.size)
      have d3 := d3'.on b1011
      have bc := bc'.below b1011
      have hB := hB'.trans (b1011.mono hB'.size)
      clear bal hb11 b1011 d3' bc' hB' d1' rM' b1' hs10
      go_wp2_with fail
      have bt := World.alloc_heap_new w11 (.cells #[.slice A11 n11 c11, .slice B11 m11 k11, .int .i64 3, .int .i64 0, .bool true] 25)
      have b11 : Below w11.heap.size w11 (w11.alloc (.cells #[.slice A11 n11 c11, .slice B11 m11 k11, .int .i64 3, .int .i64 0, .bool true] 25)) := below_al (Below.refl _ _) _
      refine (sync_x (d11.on b11)).mono ?_
      rintro e w12 ⟨⟨A12, n12, c12, B12, m12, k12, rfl, d12⟩, hb12⟩
      have b1112 := b11.trans (hb12.mono b11.size)
      have bx : Box5 w12 w11.heap.size 25 (.slice A11 n11 c11) (.slice B11 m11 k11) (.int .i64 3) (.int .i64 0) (.bool true) := Box5.below bt hb12
      obtain ⟨t10, ht10⟩ : ∃ t10, t10 = w11.heap.size := ⟨_, rfl⟩
      rw [← ht10] at bx ⊢
      replace d3 := d3.on b1112
      replace bc := bc.below b1112
      have dx := d11.on b1112
      replace hB := hB.trans (b1112.mono hB.size)
      clear d11 d12 bt b11 hb12 b1112 ht10
      obtain ⟨⟨k0, k1', k2, k3, k4⟩, _⟩ := box5 (box5_al bc (.cells #[.slice A12 n12 c12, .slice B12 m12 k12, .int .i64 3, .int .i64 0, .bool true] 25))
      go_wp2_with fail
      have b12 : Below w12.heap.size w12 ((w12.alloc (.cells #[.slice A12 n12 c12, .slice B12 m12 k12, .int .i64 3, .int .i64 0, .bool true] 25)).alloc (.cells #[.int .u8 3, .string nA, .string nZ, .slice none 0 0] 28)) := below_al (below_al (Below.refl _ _) _) _
      have bR : Box4 ((w12.alloc (.cells #[.slice A12 n12 c12, .slice B12 m12 k12, .int .i64 3, .int .i64 0, .bool true] 25)).alloc (.cells #[.int .u8 3, .string nA, .string nZ, .slice none 0 0] 28)) (w12.heap.size + 1) oR := by
        have h := World.alloc_heap_new (w12.alloc (.cells #[.slice A12 n12 c12, .slice B12 m12 k12, .int .i64 3, .int .i64 0, .bool true] 25)) (.cells #[.int .u8 3, .string nA, .string nZ, .slice none 0 0] 28)
        rw [World.size_alloc] at h
        exact h
      refine (ops_rn (d3.on b12) bR (ok_none _)).mono ?_
      rintro e w13 ⟨⟨A13, n13, c13, B13, m13, k13, rfl, d13⟩, hb13⟩
      have b1213 := b12.trans (hb13.mono b12.size)
      replace d3 := d3.on b1213
      replace bc := bc.below b1213
      replace bx := bx.below b1213
      replace dx := dx.on b1213
      replace hB := hB.trans (b1213.mono hB.size)
      clear b12 bR hb13 b1213 k0 k1' k2 k3 k4
      go_wp2_with fail
      refine (read_z d13).mono ?_
      rintro e w14 ⟨⟨A14, n14, c14, rfl, hc14, r14⟩, hb14⟩
      replace d3 := d3.on hb14
      replace bc := bc.below hb14
      replace bx := bx.below hb14
      replace dx := dx.on hb14
      replace hB := hB.trans (hb14.mono hB.size)
      clear d13 hb14
      obtain rfl : n3 = 1 := d3.len.1.symm
      obtain ⟨fs, hf, hfp⟩ := d3.files
      obtain ⟨b, off, f, rfl, hbl, hfk, f0, f1, hok⟩ := hf.at_ (k := 0) (by omega)
      have hfl : f.p.l = [1] := by
        have h1 : (fs.map FileM.pure)[0]? = some f.pure := by rw [List.getElem?_map, hfk]; rfl
        rw [hfp] at h1
        exact (congrArg FileP.bytes (Option.some.inj h1)).symm
      have hrd := hok.rd
      rw [hfl] at hrd
      have cv1 := run_txt (c := f.p.c) 26 9 5 Try.underlying26 Try.underlying5 Try.underlying9 hrd
      have cv2 := run_txt (c := c14) 26 9 5 Try.underlying26 Try.underlying5 Try.underlying9 r14
      rw [show txt [1] = { data := #[1] } from rfl] at cv1 cv2
      obtain ⟨⟨k0, k1', k2, k3, k4⟩, _⟩ := box5 bc
      obtain ⟨⟨x0, x1, x2, x3, x4⟩, _⟩ := box5 bx
      have Hx := Lib.hid (⟨dx, bx, hB⟩ : _ ∧ _ ∧ _)
      clear hfl hrd hfp hfk hok hf d3 r14 hc14 hbl dx bx hB bc
      go_wp2_with fail
      refine (used_x Hx.out.1).mono ?_
      rintro e w15 ⟨rfl, hb15⟩
      obtain ⟨⟨z0, z1, z2, z3, z4⟩, _⟩ := box5 (Hx.out.2.1.below hb15)
      go_wp2_with fail
      refine (right_x (Hx.out.1.on hb15)).mono ?_
      rintro e w16 ⟨rfl, hb16⟩
      go_wp2_with fail
      refine (right_nil w16).mono ?_
      rintro e w17 ⟨rfl, hb17⟩
      have hB17 := ((Hx.out.2.2.trans (hb15.mono Hx.out.2.2.size)).trans (hb16.mono (Nat.le_trans Hx.out.2.2.size hb15.size))).trans (hb17.mono (Nat.le_trans (Nat.le_trans Hx.out.2.2.size hb15.size) hb16.size))
      go_wp2_with fail
      go_ret
      exact ⟨by simp, hB17⟩

end Go.Proofs.Ytmfiopopiikbmaa
