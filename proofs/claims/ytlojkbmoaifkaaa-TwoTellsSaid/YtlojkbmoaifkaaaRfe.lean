/-
  moultref08.Scan, End, More: their contracts.
-/
import Derived.Test.YtlojkbmoaifkaaaRfd
namespace Go.Proofs.Ytlojkbmoaifkaaa
open Go.RowKit
set_option linter.unusedVariables false
set_option linter.unusedSimpArgs false

set_option maxRecDepth 100000 in
set_option maxHeartbeats 1000000 in
theorem rScan_any (A : Option Addr) (n c : Nat) (b : List Int) (w : World) (hr : Rd w w.heap.size .u8 A n b) (hb : Byt b) (hnc : n ≤ c) (hn : n ≤ 1000000) :
    Calls Try.prog 19 #[.slice A n c] w (ScnT w b) := by
  have Hl := Lib.hid (⟨hr, hb⟩ : _ ∧ _)
  clear hr hb
  go_enter Try.func19, Try.ntmps19
  go_wp2_with fail
  obtain ⟨r, hr⟩ : ∃ r, r = w.heap.size := ⟨_, rfl⟩
  obtain ⟨w0, hw0⟩ : ∃ w0, w0 = w.alloc (.cells #[.int .i64 0, .slice none 0 0, .int .i64 0] 36) := ⟨_, rfl⟩
  have hB0 : Below w.heap.size w w0 := by rw [hw0]; exact below_al (below_d0 w) _
  have b0 : BoxC w0 r 0 (.slice none 0 0) 0 := by rw [hw0, hr]; exact BoxC.new _ _ _ _
  rw [← hw0, ← hr]
  have Hr := Lib.hid (show w.heap.size ≤ r by omega)
  clear hw0 hr
  refine (rscan_any A n c b w0 (Hl.out.1.on hB0 hB0.size) Hl.out.2 hnc hn).mono ?_
  intro e w1 hT
  obtain ⟨f, A1, n1, c1, u, x, y, er, rfl, hA, hb1⟩ := hT.out
  have b1 := b0.below hb1
  have hB1 := hB0.trans (hb1.mono hB0.size)
  obtain ⟨z, hz⟩ : ∃ z, z = w1.heap.size := ⟨_, rfl⟩
  obtain ⟨w2, hw2⟩ : ∃ w2, w2 = w1.alloc (.cells #[.int .i64 f, .slice A1 n1 c1, .int .i64 (u : Int)] 36) := ⟨_, rfl⟩
  have hb2 : Below w1.heap.size w1 w2 := by rw [hw2]; exact below_al (below_d0 w1) _
  have b2 := b1.below hb2
  have bz : BoxC w2 z f (.slice A1 n1 c1) (u : Int) := by rw [hw2, hz]; exact BoxC.new _ _ _ _
  have hA2 := hA.below hb2
  have hB2 := hB1.trans (hb2.mono hB1.size)
  obtain ⟨d0, d1, d2⟩ := bz.cells
  have f0 := b2.frozen 0
  have f1 := b2.frozen 1
  have f2 := b2.frozen 2
  obtain ⟨g0, g1, g2⟩ := b2.cells
  rw [hw2] at f0 f1 f2 g0 g1 g2 d0 d1 d2
  rw [hz] at d0 d1 d2
  have HS := Lib.hid (⟨hA2, hB2, b2⟩ : _ ∧ _ ∧ _)
  have HW := Lib.hid (⟨hw2, hz⟩ : _ ∧ _)
  clear hT hA hb1 b0 hB0 b1 hB1 hb2 b2 bz hA2 hB2 hw2 hz
  go_wp2_with fail
  rw [← HW.out.1]
  have bf := ((HS.out.2.2.s0 f).s1 (.slice A1 n1 c1)).s2 (u : Int)
  obtain ⟨k0, k1, k2⟩ := bf.cells
  have hz := Hr.out
  refine bodyPost_ret (v := .tuple #[.agg #[.int .i64 f, .slice A1 n1 c1, .int .i64 (u : Int)], .int .i64 er]) (by simp [results, Try.results19, go_sem, k0, k1, k2]) rfl ?_
  have hB3 := ((HS.out.2.1.setCell (p := ⟨r, 0, none⟩) hz (.int .i64 f)).setCell (p := ⟨r, 1, none⟩) hz (.slice A1 n1 c1)).setCell (p := ⟨r, 2, none⟩) hz (.int .i64 (u : Int))
  refine ⟨f, A1, n1, c1, u, x, y, er, rfl, ?_, hB3⟩
  rcases HS.out.1 with ⟨h0, cs, rr, h1, h2, h3, h4, h5, h6⟩ | h
  · exact .inl ⟨h0, cs, rr, h1, h2, h3, h4, by
      have h7 := es_apart h5 HS.out.2.2 (set3_other w2 r (.int .i64 f) (.slice A1 n1 c1) (.int .i64 (u : Int)))
      exact h7.on (Below.refl _ _) (by simp), h6⟩
  · exact .inr h

set_option maxRecDepth 100000 in
set_option maxHeartbeats 1000000 in
theorem rend_any (A : Option Addr) (n c : Nat) (b : List Int) (w : World) (hr : Rd w w.heap.size .u8 A n b) (hb : Byt b) (hnc : n ≤ c) (hn : n ≤ 1000000) :
    Calls Try.prog 21 #[.slice A n c] w (EndT w b) := by
  have Hl := Lib.hid hr.1
  go_enter Try.func21, Try.ntmps21
  go_wp2_with fail
  refine (rscan_any A n c b w hr hb hnc hn).mono ?_
  intro e w1 hT
  obtain ⟨f, A1, n1, c1, u, x, y, er, rfl, hA, hb1⟩ := hT.out
  have hu := hA.used
  rw [Hl.out] at hu
  have her := hA.er
  have hE := hA.end_
  rw [Hl.out] at hE
  have hb2 : Below w.heap.size w (w1.alloc (.cells #[.int .i64 f, .slice A1 n1 c1, .int .i64 (u : Int)] 36)) := hb1.alloc hb1.size _
  have H := Lib.hid (⟨hE, hb2⟩ : _ ∧ _)
  clear hr hb hT hA hE hb1 hb2
  rcases her with rfl | rfl
  · by_cases hun : u = n
    · subst hun
      go_wp2_with fail
      go_ret2
      rcases H.out.1 with ⟨_, _, z, hz, hp⟩ | ⟨h, _⟩
      · exact ⟨.inl ⟨z, x, y, hz, rfl, hp⟩, H.out.2⟩
      · exact (h (by simp)).elim
    · have t1 : ¬ ((u : Int) = (n : Int)) := by omega
      go_wp2_with fail
      go_ret2
      rcases H.out.1 with ⟨_, h, _⟩ | ⟨_, h⟩
      · exact absurd h hun
      · exact ⟨.inr ⟨h, rfl⟩, H.out.2⟩
  · go_wp2_with fail
    go_ret2
    rcases H.out.1 with ⟨h, _⟩ | ⟨_, h⟩
    · exact absurd h (by omega)
    · exact ⟨.inr ⟨h, rfl⟩, H.out.2⟩


set_option maxRecDepth 100000 in
set_option maxHeartbeats 1000000 in
theorem rmore_any (A : Option Addr) (n c : Nat) (b : List Int) (A2 : Option Addr) (n2 c2 : Nat) (l : List EnP) (w : World) (hr : Rd w w.heap.size .u8 A n b) (hb : Byt b) (hnc : n ≤ c) (hn : n ≤ 1000000)
    (hl : Es w w.heap.size A2 n2 l) (hnc2 : n2 ≤ c2) (hn2 : n2 ≤ 1000000) :
    Calls Try.prog 17 #[.slice A n c, .slice A2 n2 c2] w fun e w' => ∃ L er, MoreIs b l L er ∧ TelR w L er e w' := by
  have Hl := Lib.hid hl
  clear hl
  go_enter Try.func17, Try.ntmps17
  go_wp2_with fail
  refine (rend_any A n c b w hr hb hnc hn).mono ?_
  rintro e w1 ⟨hE, hb1⟩
  have hl1 := Hl.out.on hb1 hb1.size
  clear hr hb
  rcases hE with ⟨z, x, y, hz, rfl, hp⟩ | ⟨hz, rfl⟩
  · have H := Lib.hid (⟨hz, hb1, hp⟩ : _ ∧ _ ∧ _)
    clear hz hb1 hp
    go_wp2_with fail
    refine (fine_any A2 n2 c2 l w1 hl1 hn2).mono ?_
    rintro e w2 ⟨rfl, hb2⟩
    have B2 := H.out.2.1.trans (hb2.mono H.out.2.1.size)
    have hl2 := hl1.on hb2 hb2.size
    cases ha : allR l
    · have H2 := Lib.hid (⟨ha, B2⟩ : _ ∧ _)
      clear ha B2 hb2 hl2 hl1
      go_wp2_with fail
      go_ret2
      exact ⟨[], 2, .inl ⟨z, H.out.1, .inr ⟨H2.out.1, rfl, rfl⟩⟩, TelR.nil H2.out.2⟩
    · have H2 := Lib.hid (⟨ha, B2⟩ : _ ∧ _)
      clear ha B2 hb2 hl1
      go_wp2_with fail
      refine (rblocks_any A2 n2 c2 l w2 (.inl H.out.2.2) hl2 hnc2 hn2 H2.out.1).mono ?_
      rintro e w3 ⟨⟨A3, c3, q3, rfl, hq3, r3⟩, hb3⟩
      have H3 := Lib.hid (⟨hq3, r3, H2.out.2.trans (hb3.mono H2.out.2.size)⟩ : _ ∧ _ ∧ _)
      clear hq3 r3 hb3 hl2
      go_wp2_with fail
      go_ret2
      exact ⟨_, 0, .inl ⟨z, H.out.1, .inl ⟨H2.out.1, rfl, rfl⟩⟩, ⟨A3, c3, q3, rfl, H3.out.1, H3.out.2.1⟩, H3.out.2.2⟩
  · have H := Lib.hid (⟨hz, hb1⟩ : _ ∧ _)
    clear hz hb1 hl1
    go_wp2_with fail
    go_ret2
    exact ⟨[], 11, .inr ⟨H.out.1, rfl, rfl⟩, TelR.nil H.out.2⟩

end Go.Proofs.Ytlojkbmoaifkaaa
