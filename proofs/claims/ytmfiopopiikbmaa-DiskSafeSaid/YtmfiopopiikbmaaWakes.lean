/-
  ops; the small run: it comes out true.
-/
import Derived.Test.YtmfiopopiikbmaaWakesP
import Derived.Test.YtmfiopopiikbmaaDevR
import Derived.Test.YtmfiopopiikbmaaDevN
namespace Go.Proofs.Ytmfiopopiikbmaa
open Go.RowKit Go.Maps

set_option maxRecDepth 100000 in
set_option maxHeartbeats 2000000 in
/-- ops of one operation. -/
theorem ops_one {w : World} {fl : List FileP} {qu : List OpP} {q u : Int} {dd : Bool} {A : Option Addr} {n c : Nat} {B : Option Addr} {m k : Nat} {o : OpM} {g : Nat} (h : DAt w ⟨fl, qu, q, u, dd⟩ A n c B m k) (hs : Small ⟨fl, qu, q, u, dd⟩) (hn : Nms ⟨fl, qu, q, u, dd⟩) (hu : u ≤ 9223372036854775807)
    (hg : Box4 w g o) (ho : o.p.Ok w w.heap.size) (hok : 0 ≤ o.kind ∧ o.kind ≤ 255) (hon : o.p.n ≤ 1048576) (hos : o.name.size ≤ maxLen) :
    Calls Try.prog 30 #[.agg #[.slice A n c, .slice B m k, .int .i64 q, .int .i64 u, .bool dd], .slice (some ⟨g, 0, none⟩) 1 1] w fun e w' => DOne (doP ⟨fl, qu, q, u, dd⟩ o.pure).1 e w' ∧ Below w.heap.size w w' := by
  have Hs := Lib.hid hs
  have Hn := Lib.hid hn
  clear hs hn
  go_enter Try.func30, Try.ntmps30
  go_wp2_with fail
  obtain ⟨z, hz⟩ : ∃ z, z = w.heap.size := ⟨_, rfl⟩
  obtain ⟨w0, hw0⟩ : ∃ w0, w0 = (w.alloc (.cells #[.slice A n c, .slice B m k, .int .i64 q, .int .i64 u, .bool dd] 25)).alloc (.cells #[.slice none 0 0, .slice none 0 0, .int .i64 0, .int .i64 0, .bool false] 25) := ⟨_, rfl⟩
  have hB0 : Below w.heap.size w w0 := by rw [hw0]; exact ((Below.refl _ _).alloc (Nat.le_refl _) _).alloc (by simp) _
  have bz0 : Box5 w0 z 25 (.slice A n c) (.slice B m k) (.int .i64 q) (.int .i64 u) (.bool dd) := by
    rw [hw0, hz]
    exact (Below.heap_alloc _ _ _ (by simp)).trans (World.alloc_heap_new w _)
  have br0 : Box5 w0 (z + 1) 25 (.slice none 0 0) (.slice none 0 0) (.int .i64 0) (.int .i64 0) (.bool false) := by
    rw [hw0, hz]
    have := World.alloc_heap_new (w.alloc (.cells #[.slice A n c, .slice B m k, .int .i64 q, .int .i64 u, .bool dd] 25)) (.cells #[.slice none 0 0, .slice none 0 0, .int .i64 0, .int .i64 0, .bool false] 25)
    rwa [World.size_alloc] at this
  have hgz : g < z := by rw [hz]; exact (Array.getElem?_eq_some_iff.1 hg).1
  rw [← hw0, ← hz]
  have hzw : w.heap.size ≤ z := by omega
  have hzw1 : w.heap.size ≤ z + 1 := by omega
  have hzz : z ≠ z + 1 := by omega
  clear hw0 hz
  have h0 := h.on hB0
  clear h
  go_wp2_with fail
  go_loopw [5] (fun i wr => ∃ (j : Nat) (D : DiskP) (A : Option Addr) (n c : Nat) (B : Option Addr) (m k : Nat), j ≤ 1 ∧ i = .int .i64 j ∧ D = (if j = 0 then ⟨fl, qu, q, u, dd⟩ else (doP ⟨fl, qu, q, u, dd⟩ o.pure).1) ∧
    Box5 wr z 25 (.slice A n c) (.slice B m k) (.int .i64 D.quota) (.int .i64 D.fuse) (.bool D.dead) ∧ DAt wr D A n c B m k ∧ Box5 wr (z + 1) 25 (.slice none 0 0) (.slice none 0 0) (.int .i64 0) (.int .i64 0) (.bool false) ∧ Below w.heap.size w wr) (fun i _ => 1 - (intOf i).toNat)
  case atStart => exact ⟨0, _, A, n, c, B, m, k, by omega, rfl, rfl, bz0, h0, br0, hB0⟩
  case round =>
    obtain ⟨j, D, A, n, c, B, m, k, hj, rfl, hD, bz, hd, br, hB⟩ := hrel
    clear bz0 h0 br0 hB0
    rcases (by omega : j = 0 ∨ j = 1) with rfl | rfl
    · obtain rfl : D = ⟨fl, qu, q, u, dd⟩ := hD
      obtain ⟨⟨k0, k1, k2, k3, k4⟩, g0, g1, g2, g3, g4⟩ := box5 bz
      have bg := hg.below hB
      obtain ⟨⟨o0, o1, o2, o3⟩, _⟩ := box4 bg
      have bd : Below wr.heap.size wr wr.drew := (Below.refl _ _).drew
      obtain ⟨⟨d0, d1, d2, d3, d4⟩, _⟩ := box5 (bz.below bd)
      obtain ⟨⟨p0, p1, p2, p3⟩, _⟩ := box4 (bg.below bd)
      have Hd := Lib.hid (hd.on bd)
      have Ho := Lib.hid (ho.on (hB.trans (bd.mono hB.size)) (Nat.le_trans hB.size bd.size))
      have Hbz := Lib.hid bz
      have Hbr := Lib.hid br
      have HB := Lib.hid hB
      clear bz hd br hB bg
      go_wp2_with fail
      go_region_with (first
        | (go_at_call 10; (with_reducible refine (dev_doD o Hd.out Hs.out Hn.out hu Ho.out hok hon hos).mono ?_); rintro e w4 ⟨⟨A4, n4, c4, B4, m4, k4', rfl, d4'⟩, hb4⟩; (have hB4 : Below wr.heap.size wr w4 := bd.trans (hb4.mono bd.size)); obtain ⟨⟨e0, e1, e2, e3, e4⟩, t0, t1, t2, t3, t4⟩ := box5 (Hbz.out.below hB4)))
      all_goals
        have Hx := Lib.hid (show Box5 (put5 w4 z (.slice A4 n4 c4) (.slice B4 m4 k4') (.int .i64 (doP ⟨fl, qu, q, u, dd⟩ o.pure).1.quota) (.int .i64 (doP ⟨fl, qu, q, u, dd⟩ o.pure).1.fuse) (.bool (doP ⟨fl, qu, q, u, dd⟩ o.pure).1.dead)) z 25 (.slice A4 n4 c4) (.slice B4 m4 k4') (.int .i64 (doP ⟨fl, qu, q, u, dd⟩ o.pure).1.quota) (.int .i64 (doP ⟨fl, qu, q, u, dd⟩ o.pure).1.fuse) (.bool (doP ⟨fl, qu, q, u, dd⟩ o.pure).1.dead) from put5_box (Hbz.out.below hB4) _ _ _ _ _)
        have Hy := Lib.hid (DAt.put5 (A' := A4) (B' := B4) (n' := n4) (c' := c4) (m' := m4) (k' := k4') (q' := (doP ⟨fl, qu, q, u, dd⟩ o.pure).1.quota) (u' := (doP ⟨fl, qu, q, u, dd⟩ o.pure).1.fuse) (dd' := (doP ⟨fl, qu, q, u, dd⟩ o.pure).1.dead) (Hbz.out.below hB4) d4')
        have Hz := Lib.hid (put5_other (Hbr.out.below hB4) (Ne.symm hzz) (.slice A4 n4 c4) (.slice B4 m4 k4') (.int .i64 (doP ⟨fl, qu, q, u, dd⟩ o.pure).1.quota) (.int .i64 (doP ⟨fl, qu, q, u, dd⟩ o.pure).1.fuse) (.bool (doP ⟨fl, qu, q, u, dd⟩ o.pure).1.dead))
        have Hw := Lib.hid (put5_below (HB.out.trans (hB4.mono HB.out.size)) hzw (.slice A4 n4 c4) (.slice B4 m4 k4') (.int .i64 (doP ⟨fl, qu, q, u, dd⟩ o.pure).1.quota) (.int .i64 (doP ⟨fl, qu, q, u, dd⟩ o.pure).1.fuse) (.bool (doP ⟨fl, qu, q, u, dd⟩ o.pure).1.dead))
        clear hB4 hb4 d4' Hbz Hbr HB bd e0 e1 e2 e3 e4 t0 t1 t2 t3 t4
        go_wp2_with fail
        go_roundw
        case rel => exact ⟨1, _, A4, n4, c4, B4, m4, k4', by omega, rfl, rfl, Hx.out, Hy.out, Hz.out, Hw.out⟩
        case measure => simp [intOf]
    · obtain rfl : D = (doP ⟨fl, qu, q, u, dd⟩ o.pure).1 := hD
      obtain ⟨⟨k0, k1, k2, k3, k4⟩, g0, g1, g2, g3, g4⟩ := box5 bz
      obtain ⟨⟨r0, r1, r2, r3, r4⟩, t0, t1, t2, t3, t4⟩ := box5 br
      go_wp2_with fail
      refine bodyPost_ret (v := .agg #[.slice A n c, .slice B m k, .int .i64 (doP ⟨fl, qu, q, u, dd⟩ o.pure).1.quota, .int .i64 (doP ⟨fl, qu, q, u, dd⟩ o.pure).1.fuse, .bool (doP ⟨fl, qu, q, u, dd⟩ o.pure).1.dead]) (by simp [results, Try.results30, go_sem, *]) rfl ⟨⟨A, n, c, B, m, k, rfl, DAt.put5 br hd⟩, put5_below hB hzw1 _ _ _ _ _⟩

end Go.Proofs.Ytmfiopopiikbmaa
