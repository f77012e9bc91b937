/-
  The developers' Sync: its contract.
-/
import Derived.Test.YtmfiopopiikbmaaDevP
namespace Go.Proofs.Ytmfiopopiikbmaa
open Go.RowKit Go.Maps

set_option maxRecDepth 100000 in
set_option maxHeartbeats 2000000 in
theorem dev_sync {w : World} {fl : List FileP} {qu : List OpP} {q u : Int} {dd : Bool} {A : Option Addr} {n c : Nat} {B : Option Addr} {m k : Nat} (h : DAt w ⟨fl, qu, q, u, dd⟩ A n c B m k) (hs : Small ⟨fl, qu, q, u, dd⟩) (hn : Nms ⟨fl, qu, q, u, dd⟩) (hu : u ≤ 9223372036854775807) :
    Calls Try.prog 12 #[.agg #[.slice A n c, .slice B m k, .int .i64 q, .int .i64 u, .bool dd]] w fun e w' => DOut (syncP ⟨fl, qu, q, u, dd⟩).1 (syncP ⟨fl, qu, q, u, dd⟩).2 e w' ∧ Below w.heap.size w w' := by
  have Hs := Lib.hid hs
  have Hn := Lib.hid hn
  clear hs hn
  go_enter Try.func12, Try.ntmps12
  go_wp2_with fail
  obtain ⟨z, hz⟩ : ∃ z, z = w.heap.size := ⟨_, rfl⟩
  obtain ⟨w0, hw0⟩ : ∃ w0, w0 = (w.alloc (.cells #[.slice A n c, .slice B m k, .int .i64 q, .int .i64 u, .bool dd] 25)).alloc (.cells #[.slice none 0 0, .slice none 0 0, .int .i64 0, .int .i64 0, .bool false] 25) := ⟨_, rfl⟩
  have hB0 : Below w.heap.size w w0 := by rw [hw0]; exact ((Below.refl _ _).alloc (Nat.le_refl _) _).alloc (by simp) _
  have bz0 : Box5 w0 z 25 (.slice A n c) (.slice B m k) (.int .i64 q) (.int .i64 u) (.bool dd) := by
    rw [hw0, hz]
    exact (Below.heap_alloc _ _ _ (by simp)).trans (World.alloc_heap_new w _)
  have br0 : Box5 w0 (z + 1) 25 (.slice none 0 0) (.slice none 0 0) (.int .i64 0) (.int .i64 0) (.bool false) := by
    rw [hw0, hz]
    have := World.alloc_heap_new (w.alloc (.cells #[.slice A n c, .slice B m k, .int .i64 q, .int .i64 u, .bool dd] 25)) (.cells #[.slice none 0 0, .slice none 0 0, .int .i64 0, .int .i64 0, .bool false] 25)
    rwa [World.size_alloc] at this
  rw [← hw0, ← hz]
  have hzw : w.heap.size ≤ z := by omega
  have hzw1 : w.heap.size ≤ z + 1 := by omega
  have hzz : z ≠ z + 1 := by omega
  clear hw0 hz
  refine (dev_rightNow (h.on hB0) Hs.out Hn.out).mono ?_
  rintro e w1 ⟨hR, hb1⟩
  have hB1 : Below w.heap.size w w1 := hB0.trans (hb1.mono hB0.size)
  have bz1 := bz0.below hb1
  have br1 := br0.below hb1
  have h1 := h.on hB1
  clear h hB0 bz0 br0 hb1
  obtain ⟨⟨k0, k1', k2, k3, k4⟩, g0, g1, g2, g3, g4⟩ := box5 bz1
  rcases hR with ⟨hr, rfl⟩ | ⟨hr, b, fs1, rfl, hF, hp⟩
  · have He := Lib.hid (sync_wrong hr)
    clear hr
    go_wp2_with fail
    refine (dev_own h1 Hs.out).mono ?_
    rintro e w2 ⟨⟨A2, c2, B2, k2', fs, os, rfl, d2⟩, hb2⟩
    have hB2 : Below w.heap.size w w2 := hB1.trans (hb2.mono hB1.size)
    have br2 := br1.below hb2
    clear hB1 bz1 br1 h1 hb2 k0 k1' k2 k3 k4 g0 g1 g2 g3 g4
    obtain ⟨⟨r0, r1, r2, r3, r4⟩, t0, t1, t2, t3, t4⟩ := box5 br2
    go_wp2_with fail
    rw [He.out]
    refine bodyPost_ret (v := .tuple #[.agg #[.slice A2 n c2, .slice B2 m k2', .int .i64 q, .int .i64 u, .bool dd], .int .i64 2]) (by simp [results, Try.results12, go_sem, *]) rfl ⟨⟨A2, n, c2, B2, m, k2', rfl, DAt.put5 br2 d2.at_⟩, put5_below hB2 hzw1 _ _ _ _ _⟩
  have HF := Lib.hid hF
  have Hp := Lib.hid hp
  have Hr := Lib.hid hr
  clear hF hp hr
  cases dd
  · go_wp2_with fail
    refine (dev_list HF.out (fm_names Hp.out Hn.out) (fm_length Hp.out Hs.out)).mono ?_
    rintro e w4 ⟨⟨A4, c4, rfl, hc4, hf4⟩, hb4⟩
    have hB4 : Below w.heap.size w w4 := hB1.trans (hb4.mono hB1.size)
    have bz4 := bz1.below hb4
    have br4 := br1.below hb4
    obtain ⟨n4, hn4⟩ : ∃ n4, n4 = fs1.length := ⟨_, rfl⟩
    rw [← hn4] at hc4 hf4 ⊢
    clear hB1 bz1 br1 hb4 h1 hn4 k0 k1' k2 k3 k4 g0 g1 g2 g3 g4
    obtain ⟨⟨k0, k1', k2, k3, k4⟩, g0, g1, g2, g3, g4⟩ := box5 bz4
    go_wp2_with fail
    obtain ⟨w5, hw5⟩ : ∃ w5, w5 = (w4.setCell ⟨z, 0, none⟩ (.slice A4 n4 c4)).setCell ⟨z, 1, none⟩ (.slice none 0 0) := ⟨_, rfl⟩
    have hB5 : Below w.heap.size w w5 := by rw [hw5]; exact (hB4.setCell (p := ⟨z, 0, none⟩) hzw _).setCell (p := ⟨z, 1, none⟩) hzw _
    have br5 : Box5 w5 (z + 1) 25 (.slice none 0 0) (.slice none 0 0) (.int .i64 0) (.int .i64 0) (.bool false) := by rw [hw5]; exact (br4.other (Ne.symm hzz) _).other (Ne.symm hzz) _
    have d5 : DAt w5 ⟨nowP ⟨fl, qu, q, u, false⟩, [], q, u, false⟩ A4 n4 c4 none 0 0 := by
      rw [hw5]
      refine ⟨hc4, Nat.le_refl _, ⟨fs1, ?_, Hp.out⟩, ⟨[], Os.nil, rfl⟩⟩
      have h1 := (hf4.apart (z := z) (i := 0) (v := .slice A4 n4 c4) bz4.noData).apart (z := z) (i := 1) (v := .slice none 0 0) (bz4.s0 _).noData
      have h2 : ((w4.setCell ⟨z, 0, none⟩ (.slice A4 n4 c4)).setCell ⟨z, 1, none⟩ (.slice none 0 0)).heap.size = w4.heap.size := by simp
      rw [h2]
      exact h1
    rw [← hw5]
    clear hw5 hB4 bz4 br4 hf4 k0 k1' k2 k3 k4 g0 g1 g2 g3 g4
    refine (dev_burn ⟨nowP ⟨fl, qu, q, u, false⟩, [], q, u, false⟩ A4 n4 c4 none 0 0 w5 hu).mono ?_
    rintro e w6 ⟨rfl, hb6⟩
    have hB6 : Below w.heap.size w w6 := hB5.trans (hb6.mono hB5.size)
    have br6 := br5.below hb6
    have d6 := d5.on hb6
    clear hB5 br5 d5 hb6
    obtain ⟨⟨r0, r1, r2, r3, r4⟩, t0, t1, t2, t3, t4⟩ := box5 br6
    have Hquo := Lib.hid (burnt_quota ⟨nowP ⟨fl, qu, q, u, false⟩, [], q, u, false⟩)
    have He := Lib.hid (sync_done Hr.out rfl)
    go_wp2_with fail
    rw [He.out]
    refine bodyPost_ret (v := .tuple #[.agg #[.slice A4 n4 c4, .slice none 0 0, .int .i64 q, .int .i64 (burntP ⟨nowP ⟨fl, qu, q, u, false⟩, [], q, u, false⟩).fuse, .bool (burntP ⟨nowP ⟨fl, qu, q, u, false⟩, [], q, u, false⟩).dead], .int .i64 0]) (by simp [results, Try.results12, go_sem, *]) rfl
      ⟨⟨A4, n4, c4, none, 0, 0, by rw [Hquo.out], DAt.put5 br6 (burnt_at d6)⟩, put5_below hB6 hzw1 _ _ _ _ _⟩
  · have He := Lib.hid (sync_dead Hr.out rfl)
    go_wp2_with fail
    refine (dev_own h1 Hs.out).mono ?_
    rintro e w2 ⟨⟨A2, c2, B2, k2', fs, os, rfl, d2⟩, hb2⟩
    have hB2 : Below w.heap.size w w2 := hB1.trans (hb2.mono hB1.size)
    have br2 := br1.below hb2
    clear hB1 bz1 br1 h1 hb2 k0 k1' k2 k3 k4 g0 g1 g2 g3 g4
    obtain ⟨⟨r0, r1, r2, r3, r4⟩, t0, t1, t2, t3, t4⟩ := box5 br2
    go_wp2_with fail
    rw [He.out]
    refine bodyPost_ret (v := .tuple #[.agg #[.slice A2 n c2, .slice B2 m k2', .int .i64 q, .int .i64 u, .bool true], .int .i64 40]) (by simp [results, Try.results12, go_sem, *]) rfl ⟨⟨A2, n, c2, B2, m, k2', rfl, DAt.put5 br2 d2.at_⟩, put5_below hB2 hzw1 _ _ _ _ _⟩

end Go.Proofs.Ytmfiopopiikbmaa
