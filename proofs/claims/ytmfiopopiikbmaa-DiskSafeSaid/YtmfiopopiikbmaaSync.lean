/-
  moultref04.Sync: its contract.
-/
import Derived.Test.YtmfiopopiikbmaaBox
namespace Go.Proofs.Ytmfiopopiikbmaa
open Go.RowKit

/-- A disk and an error, told. -/
def DOut (D : DiskP) (er : Int) (e : Ending) (w' : World) : Prop :=
  ∃ A n c B m k, e = .returned (.tuple #[.agg #[.slice A n c, .slice B m k, .int .i64 D.quota, .int .i64 D.fuse, .bool D.dead], .int .i64 er]) ∧ DAt w' D A n c B m k
theorem sync_wrong {d : DiskP} (h : rightP d = false) : syncP d = (d, 2) := by unfold syncP; rw [if_pos h]
theorem sync_dead {d : DiskP} (h : rightP d = true) (hd : d.dead = true) : syncP d = (d, 40) := by unfold syncP; rw [if_neg (by rw [h]; decide), if_pos hd]
theorem sync_done {d : DiskP} (h : rightP d = true) (hd : d.dead = false) : syncP d = (burntP { d with files := nowP d, queue := [] }, 0) := by unfold syncP; rw [if_neg (by rw [h]; decide), if_neg (by rw [hd]; decide)]

set_option maxRecDepth 100000 in
set_option maxHeartbeats 2000000 in
theorem sync_any {w : World} {fl : List FileP} {qu : List OpP} {q u : Int} {dd : Bool} {A : Option Addr} {n c : Nat} {B : Option Addr} {m k : Nat} (h : DAt w ⟨fl, qu, q, u, dd⟩ A n c B m k) (hs : Small ⟨fl, qu, q, u, dd⟩) (hu : u ≤ 9223372036854775807) :
    Calls Try.prog 13 #[.agg #[.slice A n c, .slice B m k, .int .i64 q, .int .i64 u, .bool dd]] w fun e w' => DOut (syncP ⟨fl, qu, q, u, dd⟩).1 (syncP ⟨fl, qu, q, u, dd⟩).2 e w' ∧ Below w.heap.size w w' := by
  have Hs := Lib.hid hs
  clear hs
  go_enter Try.func13, Try.ntmps13
  go_wp2_with fail
  obtain ⟨z, hz⟩ : ∃ z, z = w.heap.size := ⟨_, rfl⟩
  obtain ⟨w0, hw0⟩ : ∃ w0, w0 = (w.alloc (.cells #[.slice A n c, .slice B m k, .int .i64 q, .int .i64 u, .bool dd] 25)).alloc (.cells #[.slice none 0 0, .slice none 0 0, .int .i64 0, .int .i64 0, .bool false] 25) := ⟨_, rfl⟩
  have hB0 : Below w.heap.size w w0 := by rw [hw0]; exact ((Below.refl _ _).alloc (Nat.le_refl _) _).alloc (by simp) _
  have bz0 : Box5 w0 z 25 (.slice A n c) (.slice B m k) (.int .i64 q) (.int .i64 u) (.bool dd) := by
    rw [hw0, hz]
    exact (Below.heap_alloc _ _ _ (by simp)).trans (World.alloc_heap_new w _)
  have br0 : Box5 w0 (z + 1) 25 (.slice none 0 0) (.slice none 0 0) (.int .i64 0) (.int .i64 0) (.bool false) := by
    rw [hw0, hz]
    have := World.alloc_heap_new (w.alloc (.cells #[.slice A n c, .slice B m k, .int .i64 q, .int .i64 u, .bool dd] 25)) (.cells #[.slice none 0 0, .slice none 0 0, .int .i64 0, .int .i64 0, .bool false] 25)
    rwa [World.size_alloc] at this
  rw [← hw0, ← hz]
  have hzw : w.heap.size ≤ z := by omega
  have hzw1 : w.heap.size ≤ z + 1 := by omega
  have hzz : z ≠ z + 1 := by omega
  clear hw0 hz
  refine (own_c (d := ⟨fl, qu, q, u, dd⟩) (h.on hB0) Hs.out).mono ?_
  rintro e w1 ⟨⟨A1, c1, B1, k1, rfl, h1⟩, hb1⟩
  have hB1 : Below w.heap.size w w1 := hB0.trans (hb1.mono hB0.size)
  have bz1 := bz0.below hb1
  have br1 := br0.below hb1
  have d1 := h1.now
  have h0 := h
  clear h hB0 bz0 br0 hb1 h1
  obtain ⟨⟨k0, k1', k2, k3, k4⟩, g0, g1, g2, g3, g4⟩ := box5 bz1
  go_wp2_with fail
  obtain ⟨w2, hw2⟩ : ∃ w2, w2 = put5 w1 z (.slice A1 n c1) (.slice B1 m k1) (.int .i64 q) (.int .i64 u) (.bool dd) := ⟨_, rfl⟩
  have hw2' : w2 = ((((w1.setCell ⟨z, 0, none⟩ (.slice A1 n c1)).setCell ⟨z, 1, none⟩ (.slice B1 m k1)).setCell ⟨z, 2, none⟩ (.int .i64 q)).setCell ⟨z, 3, none⟩ (.int .i64 u)).setCell ⟨z, 4, none⟩ (.bool dd) := hw2
  have hB2 : Below w.heap.size w w2 := by rw [hw2]; exact put5_below hB1 hzw _ _ _ _ _
  have bz2 : Box5 w2 z 25 (.slice A1 n c1) (.slice B1 m k1) (.int .i64 q) (.int .i64 u) (.bool dd) := by rw [hw2]; exact put5_box bz1 _ _ _ _ _
  have br2 : Box5 w2 (z + 1) 25 (.slice none 0 0) (.slice none 0 0) (.int .i64 0) (.int .i64 0) (.bool false) := by rw [hw2]; exact put5_other br1 (Ne.symm hzz) _ _ _ _ _
  have d2 : DAt w2 ⟨fl, qu, q, u, dd⟩ A1 n c1 B1 m k1 := by rw [hw2]; exact DAt.put5 bz1 d1
  rw [← hw2']
  clear hw2 hw2' bz1 br1 d1 hB1 k0 k1' k2 k3 k4 g0 g1 g2 g3 g4
  refine (right_any (d := ⟨fl, qu, q, u, dd⟩) d2 Hs.out).mono ?_
  rintro e w3 ⟨rfl, hb3⟩
  have hB3 : Below w.heap.size w w3 := hB2.trans (hb3.mono hB2.size)
  have bz3 := bz2.below hb3
  have br3 := br2.below hb3
  have d3 := d2.on hb3
  clear hB2 bz2 br2 d2 hb3
  obtain ⟨⟨k0, k1', k2, k3, k4⟩, g0, g1, g2, g3, g4⟩ := box5 bz3
  obtain ⟨⟨r0, r1, r2, r3, r4⟩, t0, t1, t2, t3, t4⟩ := box5 br3
  obtain ⟨bv, hbv⟩ : ∃ bv, rightP ⟨fl, qu, q, u, dd⟩ = bv := ⟨_, rfl⟩
  rw [hbv]
  have Hbv := Lib.hid hbv
  clear hbv
  cases bv
  · go_wp2_with fail
    rw [sync_wrong Hbv.out]
    refine bodyPost_ret (v := .tuple #[.agg #[.slice A1 n c1, .slice B1 m k1, .int .i64 q, .int .i64 u, .bool dd], .int .i64 2]) (by simp [results, Try.results13, go_sem, *]) rfl ⟨⟨A1, n, c1, B1, m, k1, rfl, DAt.put5 br3 d3⟩, put5_below hB3 hzw1 _ _ _ _ _⟩
  · cases dd
    · go_wp2_with fail
      refine (now_any (d := ⟨fl, qu, q, u, false⟩) d3 Hs.out).mono ?_
      rintro e w4 ⟨⟨A4, n4, c4, fs4, rfl, hc4, hf4, hp4⟩, hb4⟩
      have hB4 : Below w.heap.size w w4 := hB3.trans (hb4.mono hB3.size)
      have bz4 := bz3.below hb4
      have br4 := br3.below hb4
      clear hB3 bz3 br3 hb4 d3 k0 k1' k2 k3 k4 g0 g1 g2 g3 g4 r0 r1 r2 r3 r4 t0 t1 t2 t3 t4
      obtain ⟨⟨k0, k1', k2, k3, k4⟩, g0, g1, g2, g3, g4⟩ := box5 bz4
      go_wp2_with fail
      obtain ⟨w5, hw5⟩ : ∃ w5, w5 = (w4.setCell ⟨z, 0, none⟩ (.slice A4 n4 c4)).setCell ⟨z, 1, none⟩ (.slice none 0 0) := ⟨_, rfl⟩
      have hB5 : Below w.heap.size w w5 := by rw [hw5]; exact (hB4.setCell (p := ⟨z, 0, none⟩) hzw _).setCell (p := ⟨z, 1, none⟩) hzw _
      have br5 : Box5 w5 (z + 1) 25 (.slice none 0 0) (.slice none 0 0) (.int .i64 0) (.int .i64 0) (.bool false) := by rw [hw5]; exact (br4.other (Ne.symm hzz) _).other (Ne.symm hzz) _
      have d5 : DAt w5 ⟨nowP ⟨fl, qu, q, u, false⟩, [], q, u, false⟩ A4 n4 c4 none 0 0 := by
        rw [hw5]
        refine ⟨hc4, Nat.le_refl _, ⟨fs4, ?_, hp4⟩, ⟨[], Os.nil, rfl⟩⟩
        have h1 := (hf4.apart (z := z) (i := 0) (v := .slice A4 n4 c4) bz4.noData).apart (z := z) (i := 1) (v := .slice none 0 0) (bz4.s0 _).noData
        have h2 : ((w4.setCell ⟨z, 0, none⟩ (.slice A4 n4 c4)).setCell ⟨z, 1, none⟩ (.slice none 0 0)).heap.size = w4.heap.size := by simp
        rw [h2]
        exact h1
      rw [← hw5]
      clear hw5 hB4 bz4 br4 hf4 hp4 k0 k1' k2 k3 k4 g0 g1 g2 g3 g4
      refine (burnt_any ⟨nowP ⟨fl, qu, q, u, false⟩, [], q, u, false⟩ A4 n4 c4 none 0 0 w5 hu).mono ?_
      rintro e w6 ⟨rfl, hb6⟩
      have hB6 : Below w.heap.size w w6 := hB5.trans (hb6.mono hB5.size)
      have br6 := br5.below hb6
      have d6 := d5.on hb6
      clear hB5 br5 d5 hb6
      obtain ⟨⟨r0, r1, r2, r3, r4⟩, t0, t1, t2, t3, t4⟩ := box5 br6
      have hfin := fun W (hd : DAt W ⟨nowP ⟨fl, qu, q, u, false⟩, [], q, u, false⟩ A4 n4 c4 none 0 0) => (show DAt W (burntP ⟨nowP ⟨fl, qu, q, u, false⟩, [], q, u, false⟩) A4 n4 c4 none 0 0 from by
        unfold burntP
        split <;> exact ⟨hd.nc, hd.oc, hd.files, hd.queue⟩)
      have hquo : (burntP ⟨nowP ⟨fl, qu, q, u, false⟩, [], q, u, false⟩).quota = q := by unfold burntP; split <;> rfl
      have Hfin := Lib.hid hfin
      have Hquo := Lib.hid hquo
      clear hfin hquo
      go_wp2_with fail
      rw [sync_done Hbv.out rfl]
      refine bodyPost_ret (v := .tuple #[.agg #[.slice A4 n4 c4, .slice none 0 0, .int .i64 q, .int .i64 (burntP ⟨nowP ⟨fl, qu, q, u, false⟩, [], q, u, false⟩).fuse, .bool (burntP ⟨nowP ⟨fl, qu, q, u, false⟩, [], q, u, false⟩).dead], .int .i64 0]) (by simp [results, Try.results13, go_sem, *]) rfl
        ⟨⟨A4, n4, c4, none, 0, 0, by rw [Hquo.out], Hfin.out _ (DAt.put5 br6 d6)⟩, put5_below hB6 hzw1 _ _ _ _ _⟩
    · go_wp2_with fail
      rw [sync_dead Hbv.out rfl]
      refine bodyPost_ret (v := .tuple #[.agg #[.slice A1 n c1, .slice B1 m k1, .int .i64 q, .int .i64 u, .bool true], .int .i64 40]) (by simp [results, Try.results13, go_sem, *]) rfl ⟨⟨A1, n, c1, B1, m, k1, rfl, DAt.put5 br3 d3⟩, put5_below hB3 hzw1 _ _ _ _ _⟩

end Go.Proofs.Ytmfiopopiikbmaa
