/-
  moultref04.Same: its contract.
-/
import Derived.Test.YtmfiopopiikbmaaCrash
import Derived.BigRegion
namespace Go.Proofs.Ytmfiopopiikbmaa
open Go.RowKit

theorem op_same (o p : OpM) (ho : Byt o.p.l) (hp : Byt p.p.l) : o.kind = p.kind ∧ (o.name.toList == p.name.toList) = true ∧ (o.to.toList == p.to.toList) = true ∧ ((txt o.p.l).toList == (txt p.p.l).toList) = true ↔ o.pure = p.pure := by
  rw [beq_name, beq_name, txt_beq ho hp, decide_eq_true_eq, decide_eq_true_eq, eqB_iff]
  constructor
  · rintro ⟨h1, h2, h3, h4⟩
    unfold OpM.pure
    rw [h1, h2, h3, h4]
  · intro h
    injection h with h1 h2 h3 h4
    exact ⟨h1, h2, h3, h4⟩

/-- Two boxes of four, one behind the other. -/
theorem two_boxes (w : World) (t : TypeId) (x0 x1 x2 x3 y0 y1 y2 y3 : Value) : ∃ W, W = ((w.alloc (.cells #[x0, x1, x2, x3] t)).alloc (.cells #[y0, y1, y2, y3] t)).drew ∧ Below w.heap.size w W ∧
    (W.cell? ⟨w.heap.size, 0, none⟩ = some x0 ∧ W.cell? ⟨w.heap.size, 1, none⟩ = some x1 ∧ W.cell? ⟨w.heap.size, 2, none⟩ = some x2 ∧ W.cell? ⟨w.heap.size, 3, none⟩ = some x3) ∧
    W.cell? ⟨w.heap.size + 1, 0, none⟩ = some y0 ∧ W.cell? ⟨w.heap.size + 1, 1, none⟩ = some y1 ∧ W.cell? ⟨w.heap.size + 1, 2, none⟩ = some y2 ∧ W.cell? ⟨w.heap.size + 1, 3, none⟩ = some y3 := by
  have h0 : ∀ i, ((w.alloc (.cells #[x0, x1, x2, x3] t)).alloc (.cells #[y0, y1, y2, y3] t)).drew.cell? ⟨w.heap.size, i, none⟩ = #[x0, x1, x2, x3][i]? := fun i =>
    (World.cell?_alloc_past _ _ _ (by rw [World.size_alloc]; omega)).trans (World.cell?_alloc_at _ _ _ _ rfl)
  have h1 : ∀ i, ((w.alloc (.cells #[x0, x1, x2, x3] t)).alloc (.cells #[y0, y1, y2, y3] t)).drew.cell? ⟨w.heap.size + 1, i, none⟩ = #[y0, y1, y2, y3][i]? := fun i =>
    World.cell?_alloc_at _ _ _ _ (by rw [World.size_alloc])
  exact ⟨_, rfl, (((Below.refl _ _).alloc (Nat.le_refl _) _).alloc (by simp) _).drew, ⟨h0 0, h0 1, h0 2, h0 3⟩, h1 0, h1 1, h1 2, h1 3⟩
/-- A yes or a no: whether it is so. -/
def Says (p : Prop) (e : Ending) : Prop := ∃ b, e = .returned (.bool b) ∧ (b = true ↔ p)
theorem says_no {p : Prop} (h : ¬ p) : Says p (.returned (.bool false)) := ⟨_, rfl, by simp [h]⟩
theorem says_yes {p : Prop} (h : p) : Says p (.returned (.bool true)) := ⟨_, rfl, by simp [h]⟩

set_option maxRecDepth 100000 in
set_option maxHeartbeats 4000000 in
theorem same_disk {w : World} {fl : List FileP} {qu : List OpP} {q u : Int} {dd : Bool} {A : Option Addr} {n c : Nat} {B : Option Addr} {m k : Nat} {fl' : List FileP} {qu' : List OpP} {q' u' : Int} {dd' : Bool} {A' : Option Addr} {n' c' : Nat} {B' : Option Addr} {m' k' : Nat}
    (h : DAt w ⟨fl, qu, q, u, dd⟩ A n c B m k) (h' : DAt w ⟨fl', qu', q', u', dd'⟩ A' n' c' B' m' k') (hn : n ≤ 100000) (hn' : n' ≤ 100000) (hm : m ≤ 100000) (hm' : m' ≤ 100000) :
    Calls Try.prog 16 #[.agg #[.slice A n c, .slice B m k, .int .i64 q, .int .i64 u, .bool dd], .agg #[.slice A' n' c', .slice B' m' k', .int .i64 q', .int .i64 u', .bool dd']] w fun e w' =>
      Says ((⟨fl, qu, q, u, dd⟩ : DiskP) = ⟨fl', qu', q', u', dd'⟩) e ∧ Below w.heap.size w w' := by
  have Hl := Lib.hid h.len
  have Hl' := Lib.hid h'.len
  obtain ⟨⟨fs, hf, e1⟩, ⟨os, ho, e2⟩⟩ := (⟨h.files, h.queue⟩ : _ ∧ _)
  obtain ⟨⟨fs', hf', e1'⟩, ⟨os', ho', e2'⟩⟩ := (⟨h'.files, h'.queue⟩ : _ ∧ _)
  have E := Lib.hid (⟨e1, e2, e1', e2'⟩ : _ ∧ _ ∧ _ ∧ _)
  clear e1 e2 e1' e2' h h'
  obtain ⟨z, hz⟩ : ∃ z, z = w.heap.size := ⟨_, rfl⟩
  have hB0 : ∀ q u d q' u' d' m m', Below w.heap.size w ((w.alloc (.cells #[.slice A n c, .slice B m k, .int .i64 q, .int .i64 u, .bool d] 25)).alloc (.cells #[.slice A' n' c', .slice B' m' k', .int .i64 q', .int .i64 u', .bool d'] 25)) :=
    fun _ _ _ _ _ _ _ _ => ((Below.refl _ _).alloc (Nat.le_refl _) _).alloc (by simp) _
  by_cases i1 : q = q'
  · subst i1
    have v1 : (q == q) = true := by simp
    by_cases i2 : u = u'
    · subst i2
      have v2 : (u == u) = true := by simp
      by_cases i3 : dd = dd'
      · subst i3
        have v3 : (dd == dd) = true := by simp
        by_cases i4 : m = m'
        · subst i4
          have v4 : ((m : Int) == (m : Int)) = true := by simp
          go_enter Try.func16, Try.ntmps16
          go_wp2_with fail
          obtain ⟨w0, hw0⟩ : ∃ w0, w0 = (w.alloc (.cells #[.slice A n c, .slice B m k, .int .i64 q, .int .i64 u, .bool dd] 25)).alloc (.cells #[.slice A' n' c', .slice B' m k', .int .i64 q, .int .i64 u, .bool dd] 25) := ⟨_, rfl⟩
          have hb0 : Below w.heap.size w w0 := by rw [hw0]; exact hB0 _ _ _ _ _ _ _ _
          have bz0 : Box5 w0 z 25 (.slice A n c) (.slice B m k) (.int .i64 q) (.int .i64 u) (.bool dd) := by
            rw [hw0, hz]
            exact (Below.heap_alloc _ _ _ (by simp)).trans (World.alloc_heap_new w _)
          have br0 : Box5 w0 (z + 1) 25 (.slice A' n' c') (.slice B' m k') (.int .i64 q) (.int .i64 u) (.bool dd) := by
            rw [hw0, hz]
            have := World.alloc_heap_new (w.alloc (.cells #[.slice A n c, .slice B m k, .int .i64 q, .int .i64 u, .bool dd] 25)) (.cells #[.slice A' n' c', .slice B' m k', .int .i64 q, .int .i64 u, .bool dd] 25)
            rwa [World.size_alloc] at this
          rw [← hw0, ← hz]
          have hzw : w.heap.size ≤ z := by omega
          clear hw0 hz hB0
          refine (files_any A n c fs A' n' c' fs' _ (hf.on hb0 hb0.size) (hf'.on hb0 hb0.size) hn hn').mono ?_
          rintro e w1 ⟨⟨b, rfl, hb⟩, hb1⟩
          have hB1 : Below w.heap.size w w1 := hb0.trans (hb1.mono hb0.size)
          have bz1 := bz0.below hb1
          have br1 := br0.below hb1
          have Hb := Lib.hid hb
          clear hb hb0 bz0 br0 hb1 hf hf'
          cases b
          · have He := Lib.hid (show (⟨fl, qu, q, u, dd⟩ : DiskP) ≠ ⟨fl', qu', q, u, dd⟩ from fun h => by
              have h1 : fl = fl' := congrArg DiskP.files h
              rw [← E.out.1, ← E.out.2.2.1] at h1
              exact absurd (Hb.out.2 h1) (by decide))
            go_wp2_with fail
            go_ret
            exact ⟨says_no He.out, hB1⟩
          · go_wp2_with fail
            go_loopw [5] (fun i wr => ∃ j : Nat, j ≤ m ∧ i = .int .i64 j ∧ Below w.heap.size w wr ∧ Box5 wr z 25 (.slice A n c) (.slice B m k) (.int .i64 q) (.int .i64 u) (.bool dd) ∧ Box5 wr (z + 1) 25 (.slice A' n' c') (.slice B' m k') (.int .i64 q) (.int .i64 u) (.bool dd) ∧ (os.map OpM.pure).take j = (os'.map OpM.pure).take j) (fun i _ => m - (intOf i).toNat)
            case atStart => exact ⟨0, Nat.zero_le _, rfl, hB1, bz1, br1, by simp⟩
            case round =>
              obtain ⟨j, hj, rfl, hB, bz, br, ht⟩ := hrel
              have Ht := Lib.hid ht
              obtain ⟨⟨k0, k1', k2, k3, k4⟩, g0, g1, g2, g3, g4⟩ := box5 bz
              obtain ⟨⟨r0, r1, r2, r3, r4⟩, t0, t1, t2, t3, t4⟩ := box5 br
              clear ht
              by_cases hlt : j < m
              · obtain ⟨b, off, o, rfl, hbl, hoj, o0, o1, o2, o3, hok, _, _⟩ := (ho.on hB hB.size).at_ hlt
                obtain ⟨b', off', p, rfl, hbl', hpj, p0, p1, p2, p3, hok', _, _⟩ := (ho'.on hB hB.size).at_ hlt
                have hz1 : z + 1 < wr.heap.size := (Array.getElem?_eq_some_iff.1 br).1
                have hz0 : z < wr.heap.size := by omega
                have hz0' : z < wr.heap.size + 1 := by omega
                have hszz := hB.size
                have hbs : b < wr.heap.size := by omega
                have hbs' : b' < wr.heap.size := by omega
                have hbs2 : b < wr.heap.size + 1 := by omega
                have hbs2' : b' < wr.heap.size + 1 := by omega
                have hl1 : (os.map OpM.pure)[j]? = some o.pure := by rw [List.getElem?_map, hoj]; rfl
                have hl2 : (os'.map OpM.pure)[j]? = some p.pure := by rw [List.getElem?_map, hpj]; rfl
                have hsm := op_same o p hok.byt hok'.byt
                have hne : o.pure ≠ p.pure → (⟨fl, qu, q, u, dd⟩ : DiskP) ≠ ⟨fl', qu', q, u, dd⟩ := fun h1 h => by
                  have h2 : qu = qu' := congrArg DiskP.queue h
                  rw [← E.out.2.1, ← E.out.2.2.2] at h2
                  exact take_ne hl1 hl2 h1 h2
                clear hszz hoj hpj
                have hj2 : (0 : Int) ≤ (j : Int) := by omega
                have hj3 : (j : Int) < (m : Int) := by omega
                go_wp2_with fail
                go_region
                · obtain ⟨WX, hWX, hbX, ⟨cx0, cx1, cx2, cx3⟩, cy0, cy1, cy2, cy3⟩ := two_boxes wr 28 (.int .u8 o.kind) (.string o.name) (.string o.to) (.slice o.p.A o.p.n o.p.c) (.int .u8 p.kind) (.string p.name) (.string p.to) (.slice p.p.A p.p.n p.p.c)
                  rw [← hWX]
                  have s1 : ∀ q, (convert 26 9 (.slice o.p.A o.p.n o.p.c)).run Try.prog (WX.drewN q) = .ok (.string (txt o.p.l)) (WX.drewN q) := fun q =>
                    run_txt 26 9 5 Try.underlying26 Try.underlying5 Try.underlying9 (hok.rd.below (below_drewN hbX q))
                  have s1' : (convert 26 9 (.slice o.p.A o.p.n o.p.c)).run Try.prog WX = .ok (.string (txt o.p.l)) WX :=
                    run_txt 26 9 5 Try.underlying26 Try.underlying5 Try.underlying9 (hok.rd.below hbX)
                  have s2 : ∀ q, (convert 26 9 (.slice p.p.A p.p.n p.p.c)).run Try.prog (WX.drewN q) = .ok (.string (txt p.p.l)) (WX.drewN q) := fun q =>
                    run_txt 26 9 5 Try.underlying26 Try.underlying5 Try.underlying9 (hok'.rd.below (below_drewN hbX q))
                  have s2' : (convert 26 9 (.slice p.p.A p.p.n p.p.c)).run Try.prog WX = .ok (.string (txt p.p.l)) WX :=
                    run_txt 26 9 5 Try.underlying26 Try.underlying5 Try.underlying9 (hok'.rd.below hbX)
                  have hBX := hB.trans (hbX.mono hB.size)
                  have bzX := bz.below hbX
                  have brX := br.below hbX
                  clear hWX hbX
                  by_cases n0 : o.kind = p.kind
                  · by_cases n1 : (o.name.toList == p.name.toList) = true
                    · by_cases n2 : (o.to.toList == p.to.toList) = true
                      · by_cases n3 : ((txt o.p.l).toList == (txt p.p.l).toList) = true
                        · have He := Lib.hid (take_eq hl1 hl2 (hsm.1 ⟨n0, n1, n2, n3⟩) Ht.out)
                          clear hsm hne hl1 hl2
                          go_wp2_with fail
                          go_roundw
                          case rel => exact ⟨j + 1, by omega, by go_num, hBX, bzX, brX, He.out⟩
                          case measure => simp [intOf]; omega
                        · have He := Lib.hid (hne (fun e => n3 (hsm.2 e).2.2.2))
                          have n4 : ((txt o.p.l).toList == (txt p.p.l).toList) = false := by simpa using n3
                          clear hsm hne hl1 hl2 n3
                          go_wp2_with fail
                          go_ret
                          exact ⟨says_no (fun h => He.out (by simpa using h)), hBX⟩
                      · have He := Lib.hid (hne (fun e => n2 (hsm.2 e).2.2.1))
                        have n4 : (o.to.toList == p.to.toList) = false := by simpa using n2
                        clear hsm hne hl1 hl2 n2
                        go_wp2_with fail
                        go_ret
                        exact ⟨says_no (fun h => He.out (by simpa using h)), hBX⟩
                    · have He := Lib.hid (hne (fun e => n1 (hsm.2 e).2.1))
                      have n4 : (o.name.toList == p.name.toList) = false := by simpa using n1
                      clear hsm hne hl1 hl2 n1
                      go_wp2_with fail
                      go_ret
                      exact ⟨says_no (fun h => He.out (by simpa using h)), hBX⟩
                  · have He := Lib.hid (hne (fun e => n0 (hsm.2 e).1))
                    clear hsm hne hl1 hl2
                    go_wp2_with fail
                    go_ret
                    exact ⟨says_no (fun h => He.out (by simpa using h)), hBX⟩
                · obtain ⟨WX, hWX, hbX, ⟨cy0, cy1, cy2, cy3⟩, cx0, cx1, cx2, cx3⟩ := two_boxes wr 28 (.int .u8 p.kind) (.string p.name) (.string p.to) (.slice p.p.A p.p.n p.p.c) (.int .u8 o.kind) (.string o.name) (.string o.to) (.slice o.p.A o.p.n o.p.c)
                  rw [← hWX]
                  have s1 : ∀ q, (convert 26 9 (.slice o.p.A o.p.n o.p.c)).run Try.prog (WX.drewN q) = .ok (.string (txt o.p.l)) (WX.drewN q) := fun q =>
                    run_txt 26 9 5 Try.underlying26 Try.underlying5 Try.underlying9 (hok.rd.below (below_drewN hbX q))
                  have s1' : (convert 26 9 (.slice o.p.A o.p.n o.p.c)).run Try.prog WX = .ok (.string (txt o.p.l)) WX :=
                    run_txt 26 9 5 Try.underlying26 Try.underlying5 Try.underlying9 (hok.rd.below hbX)
                  have s2 : ∀ q, (convert 26 9 (.slice p.p.A p.p.n p.p.c)).run Try.prog (WX.drewN q) = .ok (.string (txt p.p.l)) (WX.drewN q) := fun q =>
                    run_txt 26 9 5 Try.underlying26 Try.underlying5 Try.underlying9 (hok'.rd.below (below_drewN hbX q))
                  have s2' : (convert 26 9 (.slice p.p.A p.p.n p.p.c)).run Try.prog WX = .ok (.string (txt p.p.l)) WX :=
                    run_txt 26 9 5 Try.underlying26 Try.underlying5 Try.underlying9 (hok'.rd.below hbX)
                  have hBX := hB.trans (hbX.mono hB.size)
                  have bzX := bz.below hbX
                  have brX := br.below hbX
                  clear hWX hbX
                  by_cases n0 : o.kind = p.kind
                  · by_cases n1 : (o.name.toList == p.name.toList) = true
                    · by_cases n2 : (o.to.toList == p.to.toList) = true
                      · by_cases n3 : ((txt o.p.l).toList == (txt p.p.l).toList) = true
                        · have He := Lib.hid (take_eq hl1 hl2 (hsm.1 ⟨n0, n1, n2, n3⟩) Ht.out)
                          clear hsm hne hl1 hl2
                          go_wp2_with fail
                          go_roundw
                          case rel => exact ⟨j + 1, by omega, by go_num, hBX, bzX, brX, He.out⟩
                          case measure => simp [intOf]; omega
                        · have He := Lib.hid (hne (fun e => n3 (hsm.2 e).2.2.2))
                          have n4 : ((txt o.p.l).toList == (txt p.p.l).toList) = false := by simpa using n3
                          clear hsm hne hl1 hl2 n3
                          go_wp2_with fail
                          go_ret
                          exact ⟨says_no (fun h => He.out (by simpa using h)), hBX⟩
                      · have He := Lib.hid (hne (fun e => n2 (hsm.2 e).2.2.1))
                        have n4 : (o.to.toList == p.to.toList) = false := by simpa using n2
                        clear hsm hne hl1 hl2 n2
                        go_wp2_with fail
                        go_ret
                        exact ⟨says_no (fun h => He.out (by simpa using h)), hBX⟩
                    · have He := Lib.hid (hne (fun e => n1 (hsm.2 e).2.1))
                      have n4 : (o.name.toList == p.name.toList) = false := by simpa using n1
                      clear hsm hne hl1 hl2 n1
                      go_wp2_with fail
                      go_ret
                      exact ⟨says_no (fun h => He.out (by simpa using h)), hBX⟩
                  · have He := Lib.hid (hne (fun e => n0 (hsm.2 e).1))
                    clear hsm hne hl1 hl2
                    go_wp2_with fail
                    go_ret
                    exact ⟨says_no (fun h => He.out (by simpa using h)), hBX⟩
              · obtain rfl : j = m := by omega
                have He : Hid ((⟨fl, qu, q, u, dd⟩ : DiskP) = ⟨fl', qu', q, u, dd⟩) := by
                  have h1 := Ht.out
                  rw [List.take_of_length_le (by rw [List.length_map, ho.len]; exact Nat.le_refl _), List.take_of_length_le (by rw [List.length_map, ho'.len]; exact Nat.le_refl _)] at h1
                  have h2 := Hb.out.1 (by simp)
                  rw [E.out.1, E.out.2.2.1] at h2
                  rw [E.out.2.1, E.out.2.2.2] at h1
                  rw [h1, h2]
                  exact Lib.hid rfl
                go_wp2_with fail
                go_ret
                exact ⟨says_yes He.out, hB⟩
        · have He := Lib.hid (show (⟨fl, qu, q, u, dd⟩ : DiskP) ≠ ⟨fl', qu', q, u, dd⟩ from fun h => i4 (by
            have h1 := congrArg List.length (show qu = qu' from congrArg DiskP.queue h)
            rwa [show qu.length = m from Hl.out.2, show qu'.length = m' from Hl'.out.2] at h1))
          have v4 : ¬ ((m : Int) = (m' : Int)) := by omega
          go_enter Try.func16, Try.ntmps16
          go_wp2_with fail
          go_ret
          exact ⟨says_no (fun h => He.out (by simpa using h)), hB0 _ _ _ _ _ _ _ _⟩
      · have He := Lib.hid (show (⟨fl, qu, q, u, dd⟩ : DiskP) ≠ ⟨fl', qu', q, u, dd'⟩ from fun h => i3 (congrArg DiskP.dead h))
        go_enter Try.func16, Try.ntmps16
        go_wp2_with fail
        go_ret
        exact ⟨says_no (fun h => by simp at h), hB0 _ _ _ _ _ _ _ _⟩
    · have He := Lib.hid (show (⟨fl, qu, q, u, dd⟩ : DiskP) ≠ ⟨fl', qu', q, u', dd'⟩ from fun h => i2 (congrArg DiskP.fuse h))
      go_enter Try.func16, Try.ntmps16
      go_wp2_with fail
      go_ret
      exact ⟨says_no (fun h => by simp at h), hB0 _ _ _ _ _ _ _ _⟩
  · have He := Lib.hid (show (⟨fl, qu, q, u, dd⟩ : DiskP) ≠ ⟨fl', qu', q', u', dd'⟩ from fun h => i1 (congrArg DiskP.quota h))
    go_enter Try.func16, Try.ntmps16
    go_wp2_with fail
    go_ret
    exact ⟨says_no (fun h => by simp at h), hB0 _ _ _ _ _ _ _ _⟩

end Go.Proofs.Ytmfiopopiikbmaa
