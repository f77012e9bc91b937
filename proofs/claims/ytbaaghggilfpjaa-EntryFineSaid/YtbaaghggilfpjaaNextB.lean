/-
  entry.Next: its contract.
-/
import Derived.Test.YtbaaghggilfpjaaNext
namespace Go.Proofs.Ytbaaghggilfpjaa
open Go.RowKit Go.Maps

set_option maxRecDepth 100000 in
set_option maxHeartbeats 2000000 in
theorem next_any (s : StP) (e : EnP) (w : World) : Calls Try.prog 15 #[s.v, e.v] w (Does w (nextP s e)) := by
  obtain ⟨X, hX⟩ : ∃ X, X = nextP s e := ⟨_, rfl⟩
  have hbeh := behind_any s e
  rw [← hX] at hbeh ⊢
  clear hX
  have Hb := Lib.hid hbeh
  clear hbeh
  unfold StP.v EnP.v
  go_enter Try.func15, Try.ntmps15
  go_wp2_with fail
  have h3 := three_new w s e
  generalize (((w.alloc _).alloc _).alloc _) = w0 at h3 ⊢
  obtain ⟨z, hz0⟩ : ∃ z, z = w.heap.size := ⟨_, rfl⟩
  rw [← hz0] at h3 ⊢
  clear hz0
  obtain ⟨bs, be, br, hB, hz, hsz⟩ := h3
  have hzw : w.heap.size ≤ z + 2 ∧ z + 1 ≠ z + 2 ∧ z ≠ z + 2 := by omega
  have HB := Lib.hid (⟨hB, br⟩ : _ ∧ _)
  have HS := Lib.hid (⟨bs, be⟩ : _ ∧ _)
  clear bs be br hB hz hsz
  refine wp_region_held_drew (S := (fun W => BoxS W z s ∧ BoxE W (z + 1) e ∧ Below w.heap.size w W)) (by kernel_rfl) (⟨HS.out.1, HS.out.2, below_dr HB.out.1⟩ : _ ∧ _ ∧ _) (fun hHeld => ?_)
  refine take_at (i := 0) (d := 5) (oi := ?o1) (v := ?v1) ?hi1 ?hd1 (by kernel_rfl) (by kernel_rfl) (by kernel_rfl) ?hw1 ?hy1 ?hq1 (by assumption) ?r1
  case hi1 => (simp only [List.getElem?_toArray, List.getElem?_cons_zero]; rfl)
  case hd1 => rfl
  case hw1 => rfl
  case hy1 => ((intro w hSw; (try dsimp only at hSw); obtain ⟨bs, be, hBw⟩ := hSw; obtain ⟨k0, k1, k2, k3, k4⟩ := bs.cells; obtain ⟨c0, c1, c2⟩ := be.cells; go_simp) <;> (with_reducible rfl))
  case hq1 => exact fun _ _ _ h => h
  simp only [List.set_cons_succ, List.set_cons_zero]
  refine take_at (i := 1) (d := 6) (oi := ?o2) (v := ?v2) ?hi2 ?hd2 (by kernel_rfl) (by kernel_rfl) (by kernel_rfl) ?hw2 ?hy2 ?hq2 (by assumption) ?r2
  case hi2 => (simp only [List.getElem?_toArray, List.getElem?_cons_succ, List.getElem?_cons_zero]; rfl)
  case hd2 => rfl
  case hw2 => rfl
  case hy2 => ((intro w hSw; (try dsimp only at hSw); obtain ⟨bs, be, hBw⟩ := hSw; obtain ⟨k0, k1, k2, k3, k4⟩ := bs.cells; obtain ⟨c0, c1, c2⟩ := be.cells; go_simp) <;> (with_reducible rfl))
  case hq2 => exact fun _ _ _ h => h
  simp only [List.set_cons_succ, List.set_cons_zero]
  refine call_at (i := 2) (d := 7) (oi := ?o3) (f := ?f3) (args := ?a3) ?hi3 ?hd3 (by kernel_rfl) ?hw3 ?he3 ?hc3
  case hi3 => (simp only [List.getElem?_toArray, List.getElem?_cons_succ, List.getElem?_cons_zero]; rfl)
  case hd3 => rfl
  case hw3 => rfl
  case he3 => (go_simp; constructor <;> with_reducible rfl)
  refine Calls.mono (effects_any _) ?_
  rintro r w1 ⟨⟨g, rfl, hE, hg⟩, hb1⟩
  have HE := Lib.hid hE
  have br1 : BoxS w1 (z + 2) ⟨0, 0, 0, 0, false⟩ := BoxS.below (W := w0.drew) HB.out.2 hb1
  clear hE HB
  refine ⟨_, rfl, (⟨hHeld.1.below hb1, hHeld.2.1.below hb1, hHeld.2.2.trans (hb1.mono hHeld.2.2.size)⟩ : _ ∧ _ ∧ _), fun hHeld => ?_⟩
  simp only [List.set_cons_succ, List.set_cons_zero]
  refine call_at (i := 3) (d := 8) (oi := ?o4) (f := ?f4) (args := ?a4) ?hi4 ?hd4 (by kernel_rfl) ?hw4 ?he4 ?hc4
  case hi4 => (simp only [List.getElem?_toArray, List.getElem?_cons_succ, List.getElem?_cons_zero]; rfl)
  case hd4 => rfl
  case hw4 => rfl
  case he4 => (go_simp; constructor <;> with_reducible rfl)
  refine Calls.mono (Hb.out g _ HE.out) ?_
  rintro r w4 ⟨rfl, hb4⟩
  unfold StP.v
  have br4 := br1.below hb4
  refine ⟨_, rfl, (⟨hHeld.1.below hb4, hHeld.2.1.below hb4, hHeld.2.2.trans (hb4.mono hHeld.2.2.size)⟩ : _ ∧ _ ∧ _), fun hHeld => ?_⟩
  simp only [List.set_cons_succ, List.set_cons_zero]
  obtain ⟨r0, r1, r2, r3, r4⟩ := br4.cells
  obtain ⟨g0, g1, g2, g3, g4⟩ := br4.frozen
  have hS5 : BoxS (putS w4 (z + 2) X) z s ∧ BoxE (putS w4 (z + 2) X) (z + 1) e ∧ Below w.heap.size w (putS w4 (z + 2) X) := ⟨putS_other hHeld.1 hzw.2.2 X, putS_otherE hHeld.2.1 hzw.2.1 X, putS_below hHeld.2.2 hzw.1 X⟩
  have HX := Lib.hid hHeld
  clear hHeld
  refine wpAnyH_ready (rs := [4]) (by kernel_rfl) (by simp) ?_
  refine br_store (i := 4) (oi := ?o5) (w' := putS w4 (z + 2) X) ?hi5 ?hd5 ?hw5 ?he5 hS5 ?hc5
  case hi5 => (simp only [List.getElem?_toArray, List.getElem?_cons_succ, List.getElem?_cons_zero]; rfl)
  case hd5 => rfl
  case hw5 => rfl
  case he5 => (go_simp; rfl)
  intro hHeld
  refine wpAnyH_done (by kernel_rfl) ?_ _
  have br5 := putS_box br4 X
  clear HX r0 r1 r2 r3 r4 g0 g1 g2 g3 g4 br4
  generalize hw5 : putS w4 (z + 2) X = w5 at *
  obtain ⟨r0, r1, r2, r3, r4⟩ := br5.cells
  go_wp2_with fail
  refine bodyPost_ret (v := X.v) (by simp [results, Try.results15, go_sem, *]; try rfl) rfl ⟨rfl, hHeld.2.2⟩
end Go.Proofs.Ytbaaghggilfpjaa
