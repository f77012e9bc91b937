/-
  moultref06.All: its contract; rows of entries.
-/
import Derived.Test.YtbaaghggilfpjaaRNext
import Derived.Test.YtbaaghggilfpjaaRow
namespace Go.Proofs.Ytbaaghggilfpjaa
open Go.RowKit Go.Maps

theorem EnP.len (e : EnP) : e.cs.length = 3 := rfl
theorem EnP.one (e : EnP) : ∀ u ∈ e.cs, u.oneCell' = true := fun u hu => by
  simp [EnP.cs] at hu
  rcases hu with rfl | rfl | rfl <;> rfl
/-- Entries at A: a row of them. -/
def Es (w : World) (B : Nat) (A : Option Addr) (n : Nat) (l : List EnP) : Prop := Row 3 EnP.cs w B A n l
section
variable {w w' : World} {B B' n : Nat} {A : Option Addr} {l : List EnP}
theorem Es.on (h : Es w B A n l) (hb : Below B w w') (hB : B ≤ B') : Es w' B' A n l := Row.on h hb hB
theorem Es.len (h : Es w B A n l) : l.length = n := h.1
theorem Es.low (h : Es w B A n l) (hb : ∀ k, k < B → w'.heap[k]? = w.heap[k]?) : Es w' B A n l :=
  ⟨h.1, fun hn => by
    obtain ⟨b, off, e, hlt, hc⟩ := h.2 hn
    exact ⟨b, off, e, hlt, fun i x hi j hj => (World.cell?_of_block (a := ⟨b, off + (i * 3 + j), none⟩) (hb b hlt)).trans (hc i x hi j hj)⟩⟩
theorem Es.at_ (h : Es w B A n l) {k : Nat} (hk : k < n) :
    ∃ b off e, A = some ⟨b, off, none⟩ ∧ b < B ∧ l[k]? = some e ∧ w.cell? ⟨b, off + k * 3, none⟩ = some (.int .i64 e.tm) ∧ w.cell? ⟨b, off + k * 3 + 1, none⟩ = some (.int .i64 e.kd) ∧ w.cell? ⟨b, off + k * 3 + 2, none⟩ = some (.int .i64 e.vl) := by
  obtain ⟨b, off, e, rfl, hb, he, hc⟩ := Row.at_ h hk
  have h1 := hc 1 (by omega)
  have h2 := hc 2 (by omega)
  rw [← Nat.add_assoc] at h1 h2
  exact ⟨b, off, e, rfl, hb, he, hc 0 (by omega), h1, h2⟩
end
theorem take_succ {α : Type} {l : List α} {k : Nat} {e : α} (h : l[k]? = some e) : l.take (k + 1) = l.take k ++ [e] := by rw [List.take_add_one, h]; rfl

set_option maxRecDepth 100000 in
set_option maxHeartbeats 2000000 in
theorem rall_any (s : StP) (A : Option Addr) (n c : Nat) (l : List EnP) (w : World) (hl : Es w w.heap.size A n l) (hn : n ≤ 140737488355328) :
    Calls Try.prog 18 #[s.v, .slice A n c] w (Does w (allP s l)) := by
  have h0 : allP s (l.take 0) = s := rfl
  have hln := hl.len
  have Hall := Lib.hid (show allP s (l.take n) = allP s l by rw [List.take_of_length_le (by omega)])
  have Hl := Lib.hid hl
  clear hl
  unfold StP.v
  go_enter Try.func18, Try.ntmps18
  go_wp2_with fail
  obtain ⟨z, hz⟩ : ∃ z, z = w.heap.size := ⟨_, rfl⟩
  obtain ⟨wa, hwa⟩ : ∃ wa, wa = w.alloc (.cells #[.int .i64 s.ix, .int .i64 s.tm, .int .i64 s.sm, .int .i64 s.lv, .bool s.fn] 23) := ⟨_, rfl⟩
  obtain ⟨w0, hw0⟩ : ∃ w0, w0 = wa.alloc (.cells #[.int .i64 0, .int .i64 0, .int .i64 0, .int .i64 0, .bool false] 23) := ⟨_, rfl⟩
  have hsa : wa.heap.size = z + 1 := by rw [hwa, hz]; simp
  have hBa : Below w.heap.size w wa := by rw [hwa]; exact (Below.refl _ _).alloc (Nat.le_refl _) _
  have hB0 : Below w.heap.size w w0 := by rw [hw0]; exact hBa.alloc hBa.size _
  have ba : BoxS wa z s := by rw [hwa, hz]; exact BoxS.new w s
  have bs0 : BoxS w0 z s := ba.below (by rw [hw0]; exact (Below.refl _ _).alloc (Nat.le_refl _) _)
  have br0 : BoxS w0 (z + 1) ⟨0, 0, 0, 0, false⟩ := by rw [hw0, ← hsa]; exact BoxS.new wa ⟨0, 0, 0, 0, false⟩
  have he : w0 = (w.alloc (.cells #[.int .i64 s.ix, .int .i64 s.tm, .int .i64 s.sm, .int .i64 s.lv, .bool s.fn] 23)).alloc (.cells #[.int .i64 0, .int .i64 0, .int .i64 0, .int .i64 0, .bool false] 23) := by rw [hw0, hwa]
  rw [← he, ← hz]
  have hzw : w.heap.size ≤ z ∧ w.heap.size ≤ z + 1 ∧ z + 1 ≠ z := by omega
  clear he hw0 hwa hz hsa hBa ba
  rw [← h0] at bs0
  go_loopw [5] (fun i wr => ∃ j : Nat, j ≤ n ∧ i = .int .i64 j ∧ BoxS wr z (allP s (l.take j)) ∧ BoxS wr (z + 1) ⟨0, 0, 0, 0, false⟩ ∧ Below w.heap.size w wr) (fun i _ => n - (intOf i).toNat)
  case atStart => exact ⟨0, Nat.zero_le _, rfl, bs0, br0, hB0⟩
  case round =>
    obtain ⟨j, hj, rfl, bs, br, hB⟩ := hrel
    clear bs0 br0 hB0
    obtain ⟨k0, k1, k2, k3, k4⟩ := bs.cells
    by_cases hlt : j < n
    · have hj2 : (0 : Int) ≤ (j : Int) := by omega
      have hj3 : (j : Int) < (n : Int) := by omega
      have hw1 : IntKind.i64.wrap ((j : Int) + 1) = ((j + 1 : Nat) : Int) := by rw [IntKind.wrap_i64]; omega
      obtain ⟨b, off, e, rfl, hb, he, c0, c1, c2⟩ := (Hl.out.on hB hB.size).at_ hlt
      have hnx : nextP (allP s (l.take j)) e = allP s (l.take (j + 1)) := by rw [take_succ he, all_snoc]
      obtain ⟨t, ht⟩ : ∃ t, t = allP s (l.take j) := ⟨_, rfl⟩
      obtain ⟨X, hX⟩ : ∃ X, X = allP s (l.take (j + 1)) := ⟨_, rfl⟩
      rw [← ht] at bs k0 k1 k2 k3 k4 hnx
      rw [← hX] at hnx
      have HX := Lib.hid hX
      have Hnx := Lib.hid hnx
      have HB := Lib.hid (⟨bs, br, hB⟩ : _ ∧ _ ∧ _)
      clear ht hX hnx bs br hB he hb
      go_upto_region 4 with fail
      go_still_tail 5, (by kernel_rfl)
      change wpList _ _ _ _ _ wr.drew
      go_wp2_with fail
      refine (rnext_any t e _).mono ?_
      rw [Hnx.out]
      rintro r w4 ⟨rfl, hb4⟩
      unfold StP.v
      obtain ⟨bs, br, hB⟩ := HB.out
      have hb5 : Below wr.heap.size wr w4 := (below_dr (below_d0 wr)).trans hb4
      have bs4 := bs.below hb5
      have br4 := br.below hb5
      have hB4 : Below w.heap.size w w4 := hB.trans (hb5.mono hB.size)
      obtain ⟨f0, f1, f2, f3, f4⟩ := bs4.frozen
      obtain ⟨d0, d1, d2, d3, d4⟩ := bs4.cells
      have H4 := Lib.hid (⟨bs4, br4, hB4⟩ : _ ∧ _ ∧ _)
      clear bs br hB HB hb4 hb5 bs4 br4 hB4 k0 k1 k2 k3 k4 c0 c1 c2
      go_wp2_with fail
      go_roundw
      case rel =>
        obtain ⟨bs4, br4, hB4⟩ := H4.out
        rw [HX.out] at *
        exact ⟨j + 1, by omega, by go_num, putS_box bs4 _, putS_other br4 (by omega) _, putS_below hB4 (by omega) _⟩
      case measure => simp [intOf]; omega
    · obtain rfl : j = n := by omega
      rw [Hall.out] at bs k0 k1 k2 k3 k4
      obtain ⟨X, hX⟩ : ∃ X, X = allP s l := ⟨_, rfl⟩
      rw [← hX] at bs k0 k1 k2 k3 k4 ⊢
      obtain ⟨r0, r1, r2, r3, r4⟩ := br.cells
      obtain ⟨g0, g1, g2, g3, g4⟩ := br.frozen
      have Hb := Lib.hid (does_res (s' := X) hB hzw.2.1)
      have Hx := Lib.hid hX
      clear Hall hX bs br hB
      go_wp2_with fail
      refine bodyPost_ret (v := X.v) (by simp [results, Try.results18, go_sem, *]; try rfl) rfl (by rw [← Hx.out]; exact Hb.out)

end Go.Proofs.Ytbaaghggilfpjaa
