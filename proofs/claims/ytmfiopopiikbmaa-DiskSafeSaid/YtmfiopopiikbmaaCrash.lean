/-
  moultref04.Crash: its contract.
-/
import Derived.Test.YtmfiopopiikbmaaDo
import Derived.Test.YtmfiopopiikbmaaCut
namespace Go.Proofs.Ytmfiopopiikbmaa
open Go.RowKit

/-- A disk, told. -/
def DOne (D : DiskP) (e : Ending) (w' : World) : Prop :=
  ∃ A n c B m k, e = .returned (.agg #[.slice A n c, .slice B m k, .int .i64 D.quota, .int .i64 D.fuse, .bool D.dead]) ∧ DAt w' D A n c B m k
theorem crash_wrong {d : DiskP} {keep torn : Int} (h : rightP d = false) : crashP d keep torn = d := by unfold crashP; rw [if_pos h]
/-- The files that a crash leaves. -/
def leftP (d : DiskP) (K : Nat) (torn : Int) : List FileP :=
  match d.queue[K]? with
  | some o => if o.kind = 2 then doneP (allP d.files (d.queue.take K)) { o with bytes := o.bytes.take (cutP torn o.bytes.length) } else allP d.files (d.queue.take K)
  | none => allP d.files (d.queue.take K)
theorem crash_right {d : DiskP} {keep torn : Int} (h : rightP d = true) : crashP d keep torn = { files := leftP d (cutP keep d.queue.length) torn, queue := [], quota := d.quota, fuse := 0, dead := false } := by
  unfold crashP
  rw [if_neg (by rw [h]; decide)]
  rfl
theorem left_app {d : DiskP} {K : Nat} {torn : Int} {o : OpP} (ho : d.queue[K]? = some o) (hk : o.kind = 2) : leftP d K torn = doneP (allP d.files (d.queue.take K)) { o with bytes := o.bytes.take (cutP torn o.bytes.length) } := by
  unfold leftP
  rw [ho]
  simp only
  rw [if_pos hk]
theorem left_other {d : DiskP} {K : Nat} {torn : Int} (h : ∀ o, d.queue[K]? = some o → o.kind ≠ 2) : leftP d K torn = allP d.files (d.queue.take K) := by
  unfold leftP
  cases ho : d.queue[K]? with
  | none => rfl
  | some o =>
    simp only
    rw [if_neg (h o ho)]
theorem cut_val (k : Int) (n : Nat) : ((cutP k n : Nat) : Int) = min (max k 0) n ∧ cutP k n ≤ n := by
  unfold cutP
  omega
/-- max and min, one behind the other. -/
theorem cut_run {P : Program} (k : Int) (n : Nat) : ∃ x : Int, (∀ ts t w, (Builtin.max_ ts t #[.int .i64 k, .int .i64 0]).run P w = .ok (.int .i64 x) w) ∧ (∀ ts t w, (Builtin.min_ ts t #[.int .i64 x, .int .i64 (n : Int)]).run P w = .ok (.int .i64 ((cutP k n : Nat) : Int)) w) := by
  obtain ⟨x, h1, a1, a2, a3⟩ := max2_run (P := P) k 0
  obtain ⟨y, h2, b1, b2, b3⟩ := min2_run (P := P) x (n : Int)
  have h3 := (cut_val k n).1
  refine ⟨x, h1, ?_⟩
  rw [h3, show min (max k 0) (n : Int) = y by omega]
  exact h2
theorem all_held {w W : World} {A : Option Addr} {n c : Nat} {fs : List FileM} {A' : Option Addr} {n' c' : Nat} {os : List OpM} (hS : Below w.heap.size w W) (hr : Fs w w.heap.size A n fs) (hr' : Os w w.heap.size A' n' os) (hn : n ≤ 1000) (hn' : n' ≤ 1000)
    (hs : ∀ f ∈ fs, f.p.n ≤ 1048576) (hs' : ∀ o ∈ os, o.p.n ≤ 1048576) :
    Calls Try.prog 49 #[.slice A n c, .slice A' n' c'] W fun e w' => ToldP (allP (fs.map FileM.pure) (os.map OpM.pure)) e w' ∧ Below w.heap.size w w' :=
  (all_any A n c fs A' n' c' os W (hr.on hS hS.size) (hr'.on hS hS.size) hn hn' hs hs').mono fun _ _ ⟨he, hB⟩ => ⟨he, hS.trans (hB.mono hS.size)⟩

set_option maxRecDepth 100000 in
set_option maxHeartbeats 4000000 in
theorem crash_any {w : World} {fl : List FileP} {qu : List OpP} {q u : Int} {dd : Bool} {A : Option Addr} {n c : Nat} {B : Option Addr} {m k : Nat} (keep torn : Int) (h : DAt w ⟨fl, qu, q, u, dd⟩ A n c B m k) (hs : Small ⟨fl, qu, q, u, dd⟩) :
    Calls Try.prog 21 #[.agg #[.slice A n c, .slice B m k, .int .i64 q, .int .i64 u, .bool dd], .int .i64 keep, .int .i64 torn] w fun e w' => DOne (crashP ⟨fl, qu, q, u, dd⟩ keep torn) e w' ∧ Below w.heap.size w w' := by
  have Hs := Lib.hid hs
  have hl := h.len
  have hn : n ≤ 1000 := by rw [← hl.1]; exact hs.files
  have hm : m ≤ 1000 := by rw [← hl.2]; exact hs.queue
  have Hl := Lib.hid hl
  obtain ⟨i3, hi3, hx0, hx1, hx2⟩ := info_partsV info_op
  obtain ⟨i1, hi1, hz0, hz1, hz2⟩ := info_partsV info_u8
  obtain ⟨x1, m1, m2⟩ := cut_run (P := Try.prog) keep m
  clear hs hl
  go_enter Try.func21, Try.ntmps21
  go_wp2_with fail
  obtain ⟨z, hz⟩ : ∃ z, z = w.heap.size := ⟨_, rfl⟩
  obtain ⟨w0, hw0⟩ : ∃ w0, w0 = (w.alloc (.cells #[.slice A n c, .slice B m k, .int .i64 q, .int .i64 u, .bool dd] 25)).alloc (.cells #[.slice none 0 0, .slice none 0 0, .int .i64 0, .int .i64 0, .bool false] 25) := ⟨_, rfl⟩
  have hB0 : Below w.heap.size w w0 := by rw [hw0]; exact ((Below.refl _ _).alloc (Nat.le_refl _) _).alloc (by simp) _
  have bz0 : Box5 w0 z 25 (.slice A n c) (.slice B m k) (.int .i64 q) (.int .i64 u) (.bool dd) := by
    rw [hw0, hz]
    exact (Below.heap_alloc _ _ _ (by simp)).trans (World.alloc_heap_new w _)
  have br0 : Box5 w0 (z + 1) 25 (.slice none 0 0) (.slice none 0 0) (.int .i64 0) (.int .i64 0) (.bool false) := by
    rw [hw0, hz]
    have := World.alloc_heap_new (w.alloc (.cells #[.slice A n c, .slice B m k, .int .i64 q, .int .i64 u, .bool dd] 25)) (.cells #[.slice none 0 0, .slice none 0 0, .int .i64 0, .int .i64 0, .bool false] 25)
    rwa [World.size_alloc] at this
  rw [← hw0, ← hz]
  have hzw : w.heap.size ≤ z := by omega
  have hzw1 : w.heap.size ≤ z + 1 := by omega
  have hzz : z ≠ z + 1 := by omega
  clear hw0 hz
  refine (own_c (d := ⟨fl, qu, q, u, dd⟩) (h.on hB0) Hs.out).mono ?_
  rintro e w1 ⟨⟨A1, c1, B1, k1, rfl, h1⟩, hb1⟩
  have hB1 : Below w.heap.size w w1 := hB0.trans (hb1.mono hB0.size)
  have bz1 := bz0.below hb1
  have br1 := br0.below hb1
  have d1 := h1.now
  have h0 := h
  clear h hB0 bz0 br0 hb1 h1
  obtain ⟨⟨k0, k1', k2, k3, k4⟩, g0, g1, g2, g3, g4⟩ := box5 bz1
  go_wp2_with fail
  obtain ⟨w2, hw2⟩ : ∃ w2, w2 = put5 w1 z (.slice A1 n c1) (.slice B1 m k1) (.int .i64 q) (.int .i64 u) (.bool dd) := ⟨_, rfl⟩
  have hw2' : w2 = ((((w1.setCell ⟨z, 0, none⟩ (.slice A1 n c1)).setCell ⟨z, 1, none⟩ (.slice B1 m k1)).setCell ⟨z, 2, none⟩ (.int .i64 q)).setCell ⟨z, 3, none⟩ (.int .i64 u)).setCell ⟨z, 4, none⟩ (.bool dd) := hw2
  have hB2 : Below w.heap.size w w2 := by rw [hw2]; exact put5_below hB1 hzw _ _ _ _ _
  have bz2 : Box5 w2 z 25 (.slice A1 n c1) (.slice B1 m k1) (.int .i64 q) (.int .i64 u) (.bool dd) := by rw [hw2]; exact put5_box bz1 _ _ _ _ _
  have br2 : Box5 w2 (z + 1) 25 (.slice none 0 0) (.slice none 0 0) (.int .i64 0) (.int .i64 0) (.bool false) := by rw [hw2]; exact put5_other br1 (Ne.symm hzz) _ _ _ _ _
  have d2 : DAt w2 ⟨fl, qu, q, u, dd⟩ A1 n c1 B1 m k1 := by rw [hw2]; exact DAt.put5 bz1 d1
  rw [← hw2']
  clear hw2 hw2' bz1 br1 d1 hB1 k0 k1' k2 k3 k4 g0 g1 g2 g3 g4
  refine (right_any (d := ⟨fl, qu, q, u, dd⟩) d2 Hs.out).mono ?_
  rintro e w3 ⟨rfl, hb3⟩
  have hB3 : Below w.heap.size w w3 := hB2.trans (hb3.mono hB2.size)
  have bz3 := bz2.below hb3
  have br3 := br2.below hb3
  have d3 := d2.on hb3
  clear hB2 bz2 br2 d2 hb3
  obtain ⟨⟨k0, k1', k2, k3, k4⟩, g0, g1, g2, g3, g4⟩ := box5 bz3
  obtain ⟨⟨r0, r1, r2, r3, r4⟩, t0, t1, t2, t3, t4⟩ := box5 br3
  obtain ⟨bv, hbv⟩ : ∃ bv, rightP ⟨fl, qu, q, u, dd⟩ = bv := ⟨_, rfl⟩
  rw [hbv]
  have Hbv := Lib.hid hbv
  clear hbv
  cases bv
  · go_wp2_with fail
    rw [crash_wrong Hbv.out]
    refine bodyPost_ret (v := .agg #[.slice A1 n c1, .slice B1 m k1, .int .i64 q, .int .i64 u, .bool dd]) (by simp [results, Try.results21, go_sem, *]) rfl ⟨⟨A1, n, c1, B1, m, k1, rfl, DAt.put5 br3 d3⟩, put5_below hB3 hzw1 _ _ _ _ _⟩
  · obtain ⟨⟨fs, hf, e1⟩, ⟨os, ho, e2⟩⟩ := (⟨d3.files, d3.queue⟩ : _ ∧ _)
    obtain ⟨K, hK⟩ : ∃ K, cutP keep m = K := ⟨_, rfl⟩
    rw [hK] at m2
    have hKm : K ≤ m := by rw [← hK]; exact (cut_val keep m).2
    have HK := Lib.hid hK
    have s1 := fun W => cut_to (P := Try.prog) Try.underlying23 hi3 hx1 B1 m k1 K (Nat.le_trans hKm d3.oc) W
    have Hcells := Lib.hid (show ∀ W, Below w3.heap.size w3 W → Below w3.heap.size w3 W ∧ W.cell? ⟨z, 0, none⟩ = some (.slice A1 n c1) ∧ W.cell? ⟨z, 1, none⟩ = some (.slice B1 m k1) from fun W hW => by
      obtain ⟨⟨a0, a1, _⟩, _⟩ := box5 (bz3.below hW)
      exact ⟨hW, a0, a1⟩)
    have H1 := Lib.hid (⟨hf, ho.first hKm⟩ : _ ∧ _)
    have H2 := Lib.hid (⟨fbytes_m hf e1 Hs.out.fbytes, fun o hm => obytes_m ho e2 Hs.out.obytes o (List.mem_of_mem_take hm)⟩ : (∀ f ∈ fs, f.p.n ≤ 1048576) ∧ ∀ o ∈ os.take K, o.p.n ≤ 1048576)
    have hK1 : K ≤ 1000 := by omega
    clear hK
    go_wp2_with fail
    go_region_held3 (fun W => Below w3.heap.size w3 W ∧ W.cell? ⟨z, 0, none⟩ = some (.slice A1 n c1) ∧ W.cell? ⟨z, 1, none⟩ = some (.slice B1 m k1))
      (exact Hcells.out _ (by first | exact Below.refl _ _ | exact (Below.refl _ _).drew | assumption | exact And.left (by assumption)))
      (first
        | (go_at_call 49; (with_reducible refine (all_held (w := w3) (Below.refl _ _).drew H1.out.1 H1.out.2 hn hK1 H2.out.1 H2.out.2).mono ?_); rintro e w4 ⟨⟨A4, n4, c4, fs4, rfl, hc4, hf4, hp4⟩, hS4⟩))
    have hB4 : Below w.heap.size w w4 := hB3.trans (hS4.mono hB3.size)
    have bz4 := bz3.below hS4
    have br4 := br3.below hS4
    have ho4 := ho.on hS4 hS4.size
    have hlq : qu.length = m := Hl.out.2
    have Hp4 := Lib.hid (show fs4.map FileM.pure = allP fl (qu.take K) by rw [hp4, e1, List.map_take, e2])
    have hcK : cutP keep qu.length = K := by rw [hlq]; exact HK.out
    have HcK := Lib.hid hcK
    have hbn4 : ∀ f ∈ fs4, f.p.n ≤ 1099511627776 := by
      refine bnd_mem hf4 ?_
      rw [Hp4.out]
      have h1 := all_bnd (files := fl) (q := qu.take K) Hs.out.fbytes (fun o ho => Hs.out.obytes o (List.mem_of_mem_take ho))
      refine h1.mono ?_
      have h2 : (qu.take K).length ≤ 1000 := by rw [List.length_take]; omega
      have h3 : (qu.take K).length * 1048576 ≤ 1000 * 1048576 := Nat.mul_le_mul_right _ h2
      omega
    have hn4 : n4 ≤ 90000 := by
      have h1 := all_length fl (qu.take K)
      rw [← Hp4.out, List.length_map, hf4.len, List.length_take] at h1
      have h2 : fl.length = n := Hl.out.1
      omega
    have Hbn4 := Lib.hid hbn4
    have Heq2 := Lib.hid e2
    clear hB3 bz3 br3 d3 hS4 hf ho e1 e2 hp4 hbn4 hlq hcK k0 k1' k2 k3 k4 g0 g1 g2 g3 g4 r0 r1 r2 r3 r4 t0 t1 t2 t3 t4
    obtain ⟨⟨k0, k1', k2, k3, k4⟩, g0, g1, g2, g3, g4⟩ := box5 bz4
    by_cases hlt : K < m
    · have v1 : decide ((K : Int) < (m : Int)) = true := by simp; omega
      have v1' : decide (K < m) = true := by simpa using hlt
      have hj2 : (0 : Int) ≤ (K : Int) := by omega
      have hj3 : (K : Int) < (m : Int) := by omega
      obtain ⟨b, off, o, rfl, hbl, hoK, o0, o1, o2, o3, hok, hk0, hk1⟩ := ho4.at_ hlt
      have hqK : qu[K]? = some o.pure := by rw [← Heq2.out, List.getElem?_map, hoK]; rfl
      by_cases e4 : o.kind = 2
      · have v2 : (o.kind == 2) = true := by simpa using e4
        obtain ⟨x2, m3, m4⟩ := cut_run (P := Try.prog) torn o.p.n
        obtain ⟨T, hT⟩ : ∃ T, cutP torn o.p.n = T := ⟨_, rfl⟩
        rw [hT] at m4
        have hTn : T ≤ o.p.n := by rw [← hT]; exact (cut_val torn o.p.n).2
        have s3 := fun W => cut_first (P := Try.prog) Try.underlying26 hi1 hz1 o.p.A o.p.n o.p.c T (Nat.le_trans hTn hok.room) W
        have Hleft := Lib.hid (left_app (d := ⟨fl, qu, q, u, dd⟩) (K := K) (torn := torn) hqK e4)
        have HT := Lib.hid (show cutP torn o.pure.bytes.length = T by rw [show o.pure.bytes.length = o.p.n from hok.rd.1]; exact hT)
        have hon : o.p.n ≤ 1048576 := by
          have h1 := Hs.out.obytes o.pure (List.mem_of_getElem? hqK)
          rwa [show o.pure.bytes.length = o.p.n from hok.rd.1] at h1
        clear hT hqK hoK e4
        go_wp2_with fail
        have hal : Below w4.heap.size w4 (w4.alloc (.cells #[.int .u8 o.kind, .string o.name, .string o.to, .slice o.p.A T o.p.c] 28)) := (Below.refl _ _).alloc (Nat.le_refl _) _
        refine (done_any A4 n4 c4 fs4 ⟨o.kind, o.name, o.to, ⟨o.p.A, T, o.p.c, o.p.l.take T⟩⟩ _ (hf4.on hal hal.size) hc4 hn4 ⟨(hok.rd.first hTn).on hal hal.size, hok.byt.take T, Nat.le_trans hTn hok.room⟩ Hbn4.out (by simp only; omega)).mono ?_
        rintro e w7 ⟨⟨A7, n7, c7, fs7, rfl, hc7, hf7, hp7⟩, hb7⟩
        have b7 : Below w4.heap.size w4 w7 := hal.trans (hb7.mono hal.size)
        have hB7 : Below w.heap.size w w7 := hB4.trans (b7.mono hB4.size)
        have bz7 := bz4.below b7
        have br7 := br4.below b7
        have Hp7 := Lib.hid (show fs7.map FileM.pure = leftP ⟨fl, qu, q, u, dd⟩ K torn by
          rw [hp7, Hleft.out, Hp4.out, HT.out]
          rfl)
        clear hal hb7 b7 hp7 hB4 bz4 br4 hf4 k0 k1' k2 k3 k4 g0 g1 g2 g3 g4 hok o0 o1 o2 o3
        obtain ⟨⟨k0, k1', k2, k3, k4⟩, g0, g1, g2, g3, g4⟩ := box5 bz7
        have dX : DAt w7 ⟨leftP ⟨fl, qu, q, u, dd⟩ (cutP keep qu.length) torn, [], q, 0, false⟩ A7 n7 c7 none 0 0 := ⟨hc7, Nat.le_refl _, ⟨fs7, hf7, by rw [HcK.out, Hp7.out]⟩, ⟨[], Os.nil, rfl⟩⟩
        obtain ⟨⟨r0, r1, r2, r3, r4⟩, t0, t1, t2, t3, t4⟩ := box5 br7
        go_wp2_with fail
        rw [crash_right Hbv.out]
        refine bodyPost_ret (v := .agg #[.slice A7 n7 c7, .slice none 0 0, .int .i64 q, .int .i64 0, .bool false]) (by simp [results, Try.results21, go_sem, *]) rfl ⟨⟨A7, n7, c7, none, 0, 0, rfl, DAt.put5 br7 dX⟩, put5_below hB7 hzw1 _ _ _ _ _⟩
      · have v2 : (o.kind == 2) = false := by simpa using e4
        have Hleft := Lib.hid (left_other (d := ⟨fl, qu, q, u, dd⟩) (K := K) (torn := torn) (fun o' h => by rw [hqK] at h; cases h; exact e4))
        clear hqK hoK e4
        have dX : DAt w4 ⟨leftP ⟨fl, qu, q, u, dd⟩ (cutP keep qu.length) torn, [], q, 0, false⟩ A4 n4 c4 none 0 0 := ⟨hc4, Nat.le_refl _, ⟨fs4, hf4, by rw [HcK.out, Hleft.out, Hp4.out]⟩, ⟨[], Os.nil, rfl⟩⟩
        obtain ⟨⟨r0, r1, r2, r3, r4⟩, t0, t1, t2, t3, t4⟩ := box5 br4
        go_wp2_with fail
        rw [crash_right Hbv.out]
        refine bodyPost_ret (v := .agg #[.slice A4 n4 c4, .slice none 0 0, .int .i64 q, .int .i64 0, .bool false]) (by simp [results, Try.results21, go_sem, *]) rfl ⟨⟨A4, n4, c4, none, 0, 0, rfl, DAt.put5 br4 dX⟩, put5_below hB4 hzw1 _ _ _ _ _⟩
    · have v1 : decide ((K : Int) < (m : Int)) = false := by simp; omega
      have v1' : decide (K < m) = false := by simpa using hlt
      have Hleft := Lib.hid (left_other (d := ⟨fl, qu, q, u, dd⟩) (K := K) (torn := torn) (fun o' h => by have h1 := (List.getElem?_eq_some_iff.1 h).1; have h2 : qu.length = m := Hl.out.2; have h3 : K < qu.length := h1; omega))
      have dX : DAt w4 ⟨leftP ⟨fl, qu, q, u, dd⟩ (cutP keep qu.length) torn, [], q, 0, false⟩ A4 n4 c4 none 0 0 := ⟨hc4, Nat.le_refl _, ⟨fs4, hf4, by rw [HcK.out, Hleft.out, Hp4.out]⟩, ⟨[], Os.nil, rfl⟩⟩
      obtain ⟨⟨r0, r1, r2, r3, r4⟩, t0, t1, t2, t3, t4⟩ := box5 br4
      go_wp2_with fail
      rw [crash_right Hbv.out]
      refine bodyPost_ret (v := .agg #[.slice A4 n4 c4, .slice none 0 0, .int .i64 q, .int .i64 0, .bool false]) (by simp [results, Try.results21, go_sem, *]) rfl ⟨⟨A4, n4, c4, none, 0, 0, rfl, DAt.put5 br4 dX⟩, put5_below hB4 hzw1 _ _ _ _ _⟩

end Go.Proofs.Ytmfiopopiikbmaa
