/-
  GaussBytes's walk: it returns true, and turns nothing that lay.
-/
import Derived.Test.YthlngicfcmiedaaWakes
import Derived.Laws.Rows
import Derived.Deep.RegionWith
import Derived.Deep.RegionHeld3
import Derived.StillTailTactics
namespace Go.Proofs.Ythlngicfcmiedaa
open Go.RowKit

/-- What holds all along a region in which calls make memory: the box of four bytes lies as it lay, and so does all that lay when the call began. -/
def SB (w : World) (g : Nat) (a b c d : Int) (W : World) : Prop :=
  Below w.heap.size w W ∧ g < W.heap.size ∧ W.cell? ⟨g, 0, none⟩ = some (.int .u8 a) ∧ W.cell? ⟨g, 1, none⟩ = some (.int .u8 b) ∧ W.cell? ⟨g, 2, none⟩ = some (.int .u8 c) ∧ W.cell? ⟨g, 3, none⟩ = some (.int .u8 d)
theorem SB.on {w W W' : World} {g : Nat} {a b c d : Int} (h : SB w g a b c d W) (hb : Below W.heap.size W W') : SB w g a b c d W' := by
  obtain ⟨hB, hg, h0, h1, h2, h3⟩ := h
  exact ⟨hB.trans (hb.mono hB.size), Nat.lt_of_lt_of_le hg hb.size, (hb.cell (p := ⟨g, 0, none⟩) hg).trans h0, (hb.cell (p := ⟨g, 1, none⟩) hg).trans h1, (hb.cell (p := ⟨g, 2, none⟩) hg).trans h2, (hb.cell (p := ⟨g, 3, none⟩) hg).trans h3⟩
theorem SB.drew {w W : World} {g : Nat} {a b c d : Int} (h : SB w g a b c d W) : SB w g a b c d W.drew := h.on (Below.refl _ W).drew
theorem SB.whole {w W : World} {g : Nat} {a b c d : Int} (h : SB w g a b c d W) : SB w g a b c d W ∧ W.cell? ⟨g, 0, none⟩ = some (.int .u8 a) ∧ W.cell? ⟨g, 1, none⟩ = some (.int .u8 b) ∧ W.cell? ⟨g, 2, none⟩ = some (.int .u8 c) ∧ W.cell? ⟨g, 3, none⟩ = some (.int .u8 d) := ⟨h, h.2.2⟩
theorem sb_bytes {x y : Nat} {p : Int × Int} {w W : World} {g : Nat} {a b c d : Int} (hp : Pt x y p) (hb : bytesP p = [a, b, c, d]) (h : SB w g a b c d W) :
    Calls Try.prog 17 #[.complex .f64 x y] W fun e W' => e = .returned (.agg #[.int .u8 a, .int .u8 b, .int .u8 c, .int .u8 d]) ∧ SB w g a b c d W' :=
  (bytes_out W hp hb).mono fun _ _ ⟨he, hB⟩ => ⟨he, h.on hB⟩
theorem sb_wakes {w W : World} {g : Nat} {a b c d : Int} (h : SB w g a b c d W) : Calls Try.prog 8 #[] W fun e W' => e = .returned (.bool true) ∧ SB w g a b c d W' :=
  (wakes_any W).mono fun _ _ ⟨he, hB⟩ => ⟨he, h.on hB⟩

set_option maxRecDepth 100000 in
set_option maxHeartbeats 1000000 in
theorem bytesLaw_in (a b c d : Int) (w : World) (ha : 0 ≤ a ∧ a ≤ 255) (hb : 0 ≤ b ∧ b ≤ 255) (hc : 0 ≤ c ∧ c ≤ 255) (hd : 0 ≤ d ∧ d ≤ 255) (h : a * 256 + b ≤ 10006 ∧ c * 256 + d ≤ 10006) :
    Calls Try.prog 6 #[.agg #[.int .u8 a, .int .u8 b, .int .u8 c, .int .u8 d]] w fun e w' => e = .returned (.bool true) ∧ Below w.heap.size w w' := by
  have hby : bytesP (a * 256 + b, c * 256 + d) = [a, b, c, d] := by unfold bytesP; simp only [List.cons.injEq, and_true]; omega
  go_enter Try.func6, Try.ntmps6
  go_wp2_with fail
  refine (of_out_yes a b c d _ ha hb hc hd h).mono ?_
  rintro e w1 ⟨⟨x1, y1, rfl, p1⟩, hb1⟩
  obtain ⟨g, hg⟩ : ∃ g, g = w.heap.size := ⟨_, rfl⟩
  obtain ⟨w0, hw0⟩ : ∃ w0, w0 = w.alloc (.cells #[.int .u8 a, .int .u8 b, .int .u8 c, .int .u8 d] 23) := ⟨_, rfl⟩
  obtain ⟨j0, j1, j2, j3⟩ := boxed4 hg hw0
  have hB0 : Below w.heap.size w w0 := by rw [hw0]; exact (Below.refl _ _).alloc (Nat.le_refl _) _
  have hlt : g < w0.heap.size := by rw [hw0, hg]; simp
  rw [← hw0] at hb1
  rw [← hg]
  have hB1 : Below w.heap.size w w1 := hB0.trans (hb1.mono hB0.size)
  have k0 := (hb1.cell (p := ⟨g, 0, none⟩) hlt).trans j0
  have k1 := (hb1.cell (p := ⟨g, 1, none⟩) hlt).trans j1
  have k2 := (hb1.cell (p := ⟨g, 2, none⟩) hlt).trans j2
  have k3 := (hb1.cell (p := ⟨g, 3, none⟩) hlt).trans j3
  have Hg : Hid (g < w1.heap.size) := Lib.hid (Nat.lt_of_lt_of_le hlt hb1.size)
  clear hw0 hg hb1 hB0 hlt j0 j1 j2 j3
  go_wp2_with fail
  go_quiet (fail)
  obtain ⟨o1, o2⟩ := p1.order (Pt.fl p1.ok) rfl
  replace o1 : FloatKind.f64.format.order x1 (floatOfInt .f64 (a * 256 + b)) = some .eq := o1
  replace o2 : FloatKind.f64.format.order y1 (floatOfInt .f64 (c * 256 + d)) = some .eq := o2
  have q4 := fun w => eql_same4 a b c d w
  go_wp2_with fail
  obtain ⟨w2, hw2⟩ : ∃ w2, w2 = w1.drewN nq := ⟨_, rfl⟩
  have k0' : w2.cell? ⟨g, 0, none⟩ = some (.int .u8 a) := by rw [hw2]; exact k0
  have k1' : w2.cell? ⟨g, 1, none⟩ = some (.int .u8 b) := by rw [hw2]; exact k1
  have k2' : w2.cell? ⟨g, 2, none⟩ = some (.int .u8 c) := by rw [hw2]; exact k2
  have k3' : w2.cell? ⟨g, 3, none⟩ = some (.int .u8 d) := by rw [hw2]; exact k3
  have hB2 : Below w.heap.size w w2 := by rw [hw2]; exact below_drewN hB1 _
  have hg2 : g < w2.heap.size := by rw [hw2]; exact Hg.out
  rw [← hw2]
  clear hw2 k0 k1 k2 k3 hB1 Hg
  have hS : SB w g a b c d w2 := ⟨hB2, hg2, k0', k1', k2', k3'⟩
  go_region_held3 (fun W => SB w g a b c d W ∧ W.cell? ⟨g, 0, none⟩ = some (.int .u8 a) ∧ W.cell? ⟨g, 1, none⟩ = some (.int .u8 b) ∧ W.cell? ⟨g, 2, none⟩ = some (.int .u8 c) ∧ W.cell? ⟨g, 3, none⟩ = some (.int .u8 d))
    (first | exact SB.whole ‹_› | exact SB.whole (SB.drew ‹_›) | go_keep)
    (first
      | (go_at_call 11; refine (right_yes p1 _).mono ?_; rintro e w' ⟨rfl, rfl⟩)
      | (go_at_call 8; refine (sb_wakes (w := w) (g := g) (a := a) (b := b) (c := c) (d := d) ?_).mono ?_; (first | assumption | exact And.left ‹SB w g a b c d _ ∧ _›); rintro e w' ⟨rfl, hS'⟩)
      | (go_at_call 17; refine (sb_bytes (w := w) (g := g) p1 hby ?_).mono ?_; (first | assumption | exact And.left ‹SB w g a b c d _ ∧ _›); rintro e w' ⟨rfl, hS'⟩))
  all_goals
    go_wp2_with fail
    go_ret
    exact ⟨rfl, (‹SB w g a b c d _›).1⟩

set_option maxRecDepth 100000 in
set_option maxHeartbeats 1000000 in
theorem bytesLaw_no (a b c d : Int) (w : World) (ha : 0 ≤ a ∧ a ≤ 255) (hb : 0 ≤ b ∧ b ≤ 255) (hc : 0 ≤ c ∧ c ≤ 255) (hd : 0 ≤ d ∧ d ≤ 255) (h : 10006 < a * 256 + b ∨ 10006 < c * 256 + d) :
    Calls Try.prog 6 #[.agg #[.int .u8 a, .int .u8 b, .int .u8 c, .int .u8 d]] w fun e w' => e = .returned (.bool true) ∧ Below w.heap.size w w' := by
  go_enter Try.func6, Try.ntmps6
  go_wp2_with fail
  refine (of_out_no a b c d _ ha hb hc hd h).mono ?_
  rintro e w1 ⟨rfl, hb1⟩
  obtain ⟨g, hg⟩ : ∃ g, g = w.heap.size := ⟨_, rfl⟩
  obtain ⟨w0, hw0⟩ : ∃ w0, w0 = w.alloc (.cells #[.int .u8 a, .int .u8 b, .int .u8 c, .int .u8 d] 23) := ⟨_, rfl⟩
  obtain ⟨j0, j1, j2, j3⟩ := boxed4 hg hw0
  have hB0 : Below w.heap.size w w0 := by rw [hw0]; exact (Below.refl _ _).alloc (Nat.le_refl _) _
  have hlt : g < w0.heap.size := by rw [hw0, hg]; simp
  rw [← hw0] at hb1
  rw [← hg]
  have hB1 : Below w.heap.size w w1 := hB0.trans (hb1.mono hB0.size)
  have k0 := (hb1.cell (p := ⟨g, 0, none⟩) hlt).trans j0
  have k1 := (hb1.cell (p := ⟨g, 1, none⟩) hlt).trans j1
  have k2 := (hb1.cell (p := ⟨g, 2, none⟩) hlt).trans j2
  have k3 := (hb1.cell (p := ⟨g, 3, none⟩) hlt).trans j3
  have Hg : Hid (g < w1.heap.size) := Lib.hid (Nat.lt_of_lt_of_le hlt hb1.size)
  clear hw0 hg hb1 hB0 hlt j0 j1 j2 j3
  go_wp2_with fail
  go_quiet (fail)
  have z0 : FloatKind.f64.format.order 0 0 = some .eq := by decide +kernel
  have hB2 := below_drewN hB1 nq
  clear k0 k1 k2 k3 Hg hB1
  by_cases h1 : 10006 < a * 256 + b
  · go_wp2_with fail
    refine (wakes_any _).mono ?_
    rintro e w' ⟨rfl, hbw⟩
    go_wp2_with fail
    go_ret
    exact ⟨rfl, hB2.trans (hbw.mono hB2.size)⟩
  · have h2 : 10006 < c * 256 + d := by omega
    go_wp2_with fail
    refine (wakes_any _).mono ?_
    rintro e w' ⟨rfl, hbw⟩
    go_wp2_with fail
    go_ret
    exact ⟨rfl, hB2.trans (hbw.mono hB2.size)⟩

theorem bytesLaw_any (a b c d : Int) (w : World) (ha : (Lit.int .u8 a).wf = true) (hb : (Lit.int .u8 b).wf = true) (hc : (Lit.int .u8 c).wf = true) (hd : (Lit.int .u8 d).wf = true) :
    Calls Try.prog 6 #[.agg #[.int .u8 a, .int .u8 b, .int .u8 c, .int .u8 d]] w fun e w' => e = .returned (.bool true) ∧ Below w.heap.size w w' := by
  simp only [Lit.wf, Bool.and_eq_true, decide_eq_true_eq] at ha hb hc hd
  by_cases h : a * 256 + b ≤ 10006 ∧ c * 256 + d ≤ 10006
  · exact bytesLaw_in a b c d w ha hb hc hd h
  · exact bytesLaw_no a b c d w ha hb hc hd (by omega)

end Go.Proofs.Ythlngicfcmiedaa
