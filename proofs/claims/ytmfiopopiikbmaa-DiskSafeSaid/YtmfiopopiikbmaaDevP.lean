/-
  The developers' Do: its contract.
-/
import Derived.Test.YtmfiopopiikbmaaDevO
import Derived.Deep.AppendLies
import Derived.Deep.RegionLaw
namespace Go.Proofs.Ytmfiopopiikbmaa
open Go.RowKit Go.Maps

theorem own_grown {w w' : World} {base base2 : Nat} {e e2 : TypeId} {size n size2 n2 : Nat} {v v2 : Value} {xs xs2 : List Value} (h : w.ownsRow base e size v n xs) (h2 : w.ownsRow base2 e2 size2 v2 n2 xs2) (hne : e ≠ e2) (hg : w.grownBy w' v2.ownBlock) : w'.ownsRow base e size v n xs := by
  refine h.kept hg ?_
  rcases h.2 with ⟨rfl, _⟩ | ⟨g1, cap, cur1, rfl, _, hg1, _⟩
  · exact .inl rfl
  · refine .inr fun e1 => hne ?_
    rcases h2.2 with ⟨rfl, _⟩ | ⟨g2, cap2, cur2, rfl, _, hg2, _⟩
    · cases e1
    · cases e1
      rw [hg1] at hg2
      cases hg2
      rfl
theorem DOwn.push {w w' : World} {lo : Nat} {d : DiskP} {A : Option Addr} {n c : Nat} {B : Option Addr} {m k : Nat} {fs : List FileM} {os : List OpM} (h : DOwn w lo d A n c B m k fs os) {o : OpM} (ho : OwnB w o.p) (hk : 0 ≤ o.kind ∧ o.kind ≤ 255) {v' : Value}
    (hL : Longer lo 28 4 w (.slice B m k) (m + 1) (os.flatMap OpM.cs ++ OpM.cs o) v' w') :
    ∃ B' k', v' = .slice B' (m + 1) k' ∧ DOwn w' lo { d with queue := d.queue ++ [o.pure] } A n c B' (m + 1) k' fs (os ++ [o]) := by
  obtain ⟨B', k', rfl, hk'⟩ := own_slice hL.1
  have hb : ∀ p : Byts, OwnB w p → OwnB w' p := fun p hp => ⟨own_grown hp.1 h.qrow (by decide) hL.2.1, hp.2⟩
  refine ⟨B', k', rfl, h.nc, hk', own_grown h.frow h.qrow (by decide) hL.2.1, fun f hf => hb _ (h.fown f hf), h.fe, ?_, fun x hx => ?_, ?_⟩
  · have h1 := hL.1
    rw [show os.flatMap OpM.cs ++ OpM.cs o = (os ++ [o]).flatMap OpM.cs by simp] at h1
    exact h1
  · rcases List.mem_append.1 hx with hx | hx
    · exact ⟨hb _ (h.qown x hx).1, (h.qown x hx).2⟩
    · obtain rfl := List.mem_singleton.1 hx
      exact ⟨hb _ ho, hk⟩
  · rw [List.map_append, h.qe]
    rfl
theorem DOwn.put5 {w : World} {lo : Nat} {d : DiskP} {A : Option Addr} {n c : Nat} {B : Option Addr} {m k : Nat} {fs : List FileM} {os : List OpM} (h : DOwn w lo d A n c B m k fs os) {z : Nat} {a b c' d' e : Value} (hz : Box5 w z 25 a b c' d' e) (a1 b1 c1 d1 e1 : Value) : DOwn (put5 w z a1 b1 c1 d1 e1) lo d A n c B m k fs os :=
  ⟨h.nc, h.oc, put5_row h.frow hz (by decide), fun f hf => ⟨put5_row (h.fown f hf).1 hz (by decide), (h.fown f hf).2⟩, h.fe, put5_row h.qrow hz (by decide), fun o ho => ⟨⟨put5_row (h.qown o ho).1.1 hz (by decide), (h.qown o ho).1.2⟩, (h.qown o ho).2⟩, h.qe⟩
theorem DOwn.set {w : World} {lo : Nat} {d : DiskP} {A : Option Addr} {n c : Nat} {B : Option Addr} {m k : Nat} {fs : List FileM} {os : List OpM} (h : DOwn w lo d A n c B m k fs os) {z i : Nat} {a b c' d' e : Value} (hz : Box5 w z 25 a b c' d' e) (u : Value) : DOwn (w.setCell ⟨z, i, none⟩ u) lo d A n c B m k fs os :=
  ⟨h.nc, h.oc, own_other h.frow hz (by decide), fun f hf => ⟨own_other (h.fown f hf).1 hz (by decide), (h.fown f hf).2⟩, h.fe, own_other h.qrow hz (by decide), fun o ho => ⟨⟨own_other (h.qown o ho).1.1 hz (by decide), (h.qown o ho).1.2⟩, (h.qown o ho).2⟩, h.qe⟩
theorem do_err {d : DiskP} {o : OpP} (h : (doP d o).2 ≠ 0) : (doP d o).1 = d := by
  unfold doP at h ⊢
  repeat' split
  all_goals first | rfl | skip
  exact absurd (by simp_all) h
theorem do_zero {d : DiskP} {o : OpP} (h : (doP d o).2 = 0) : (doP d o).1 = burntP { d with queue := d.queue ++ [o] } := by
  unfold doP at h ⊢
  repeat' split
  all_goals first | rfl | skip
  all_goals (exfalso; revert h; repeat' split)
  all_goals simp_all

theorem box5_longer {w w' : World} {z lo : Nat} {a b c d e : Value} {v v' : Value} {n n' : Nat} {xs xs' : List Value} (hz : Box5 w z 25 a b c d e) (hq : w.ownsRow lo 28 4 v n xs) (hL : Longer lo 28 4 w v n' xs' v' w') (hlt : z < lo) : Box5 w' z 25 a b c d e :=
  (hL.2.1.block z hz.lt (fun e => by have := (hq.lt z e.symm).1; omega)).trans hz

set_option maxRecDepth 100000 in
set_option maxHeartbeats 4000000 in
theorem dev_doD {w : World} {fl : List FileP} {qu : List OpP} {q u : Int} {dd : Bool} {A : Option Addr} {n c : Nat} {B : Option Addr} {m k : Nat} (o : OpM) (h : DAt w ⟨fl, qu, q, u, dd⟩ A n c B m k) (hs : Small ⟨fl, qu, q, u, dd⟩) (hn : Nms ⟨fl, qu, q, u, dd⟩) (hu : u ≤ 9223372036854775807)
    (ho : o.p.Ok w w.heap.size) (hok : 0 ≤ o.kind ∧ o.kind ≤ 255) (hon : o.p.n ≤ 1048576) (hos : o.name.size ≤ maxLen) :
    Calls Try.prog 10 #[.agg #[.slice A n c, .slice B m k, .int .i64 q, .int .i64 u, .bool dd], .agg #[.int .u8 o.kind, .string o.name, .string o.to, .slice o.p.A o.p.n o.p.c]] w fun e w' => DOut (doP ⟨fl, qu, q, u, dd⟩ o.pure).1 (doP ⟨fl, qu, q, u, dd⟩ o.pure).2 e w' ∧ Below w.heap.size w w' := by
  obtain ⟨i3, hk, hx0, hx1, hx2⟩ := info_partsV info_op
  have Hs := Lib.hid hs
  have Hn := Lib.hid hn
  have hm : m ≤ 1000 := by rw [← h.len.2]; exact hs.queue
  clear hs hn
  go_enter Try.func10, Try.ntmps10
  go_wp2_with fail
  obtain ⟨z, hz⟩ : ∃ z, z = w.heap.size := ⟨_, rfl⟩
  obtain ⟨wa, hwa⟩ : ∃ wa, wa = w.alloc (.cells #[.slice A n c, .slice B m k, .int .i64 q, .int .i64 u, .bool dd] 25) := ⟨_, rfl⟩
  obtain ⟨wb, hwb⟩ : ∃ wb, wb = wa.alloc (.cells #[.int .u8 o.kind, .string o.name, .string o.to, .slice o.p.A o.p.n o.p.c] 28) := ⟨_, rfl⟩
  obtain ⟨w0, hw0⟩ : ∃ w0, w0 = wb.alloc (.cells #[.slice none 0 0, .slice none 0 0, .int .i64 0, .int .i64 0, .bool false] 25) := ⟨_, rfl⟩
  have hsa : wa.heap.size = z + 1 := by rw [hwa, hz]; simp
  have hsb : wb.heap.size = z + 2 := by rw [hwb]; simp [hsa]
  have hs0 : w0.heap.size = z + 3 := by rw [hw0]; simp [hsb]
  have hBa : Below w.heap.size w wa := by rw [hwa]; exact (Below.refl _ _).alloc (Nat.le_refl _) _
  have hBb : Below w.heap.size w wb := by rw [hwb]; exact hBa.alloc hBa.size _
  have hB0 : Below w.heap.size w w0 := by rw [hw0]; exact hBb.alloc hBb.size _
  have bz0 : Box5 w0 z 25 (.slice A n c) (.slice B m k) (.int .i64 q) (.int .i64 u) (.bool dd) := by
    have h1 : Box5 wa z 25 (.slice A n c) (.slice B m k) (.int .i64 q) (.int .i64 u) (.bool dd) := by rw [hwa, hz]; exact World.alloc_heap_new w _
    have h2 := h1.below (W' := wb) (by rw [hwb]; exact (Below.refl _ _).alloc (Nat.le_refl _) _)
    exact h2.below (by rw [hw0]; exact (Below.refl _ _).alloc (Nat.le_refl _) _)
  have by0 : Box4 w0 (z + 1) o := by
    have h1 : Box4 wb (z + 1) o := by rw [hwb, ← hsa]; exact World.alloc_heap_new wa _
    exact h1.below (by rw [hw0]; exact (Below.refl _ _).alloc (Nat.le_refl _) _)
  have br0 : Box5 w0 (z + 2) 25 (.slice none 0 0) (.slice none 0 0) (.int .i64 0) (.int .i64 0) (.bool false) := by rw [hw0, ← hsb]; exact World.alloc_heap_new wb _
  have he : w0 = ((w.alloc (.cells #[.slice A n c, .slice B m k, .int .i64 q, .int .i64 u, .bool dd] 25)).alloc (.cells #[.int .u8 o.kind, .string o.name, .string o.to, .slice o.p.A o.p.n o.p.c] 28)).alloc (.cells #[.slice none 0 0, .slice none 0 0, .int .i64 0, .int .i64 0, .bool false] 25) := by rw [hw0, hwb, hwa]
  rw [← he, ← hz]
  have hzw : w.heap.size ≤ z := by omega
  have hzw2 : w.heap.size ≤ z + 2 := by omega
  have ho0 := ho.on hB0 hB0.size
  have H0 := Lib.hid hs0
  clear hwa hwb hw0 he hz hsa hsb hs0 hBa hBb ho
  refine (dev_refusal o (h.on hB0) Hs.out Hn.out ho0 hok hon hos).mono ?_
  rintro e w1 ⟨rfl, hb1⟩
  have hB1 : Below w.heap.size w w1 := hB0.trans (hb1.mono hB0.size)
  have h1 := h.on hB1
  have bz1 := bz0.below hb1
  have by1 := by0.below hb1
  have br1 := br0.below hb1
  have ho1 := ho0.on hb1 hb1.size
  have H1 := Lib.hid (show z + 3 ≤ w1.heap.size by have := hb1.size; have := H0.out; omega)
  clear h hB0 bz0 by0 br0 hb1 ho0
  obtain ⟨⟨k0, k1, k2, k3, k4⟩, g0, g1, g2, g3, g4⟩ := box5 bz1
  obtain ⟨er, her⟩ : ∃ er, (doP ⟨fl, qu, q, u, dd⟩ o.pure).2 = er := ⟨_, rfl⟩
  rw [her]
  have Her := Lib.hid her
  clear her
  go_wp2_with fail
  refine (dev_own h1 Hs.out).mono ?_
  rintro e w2 ⟨⟨A2, c2, B2, k2', fs, os, rfl, d2⟩, hb2⟩
  have hB2 : Below w.heap.size w w2 := hB1.trans (hb2.mono hB1.size)
  have bz2 := bz1.below hb2
  have by2 := by1.below hb2
  have br2 := br1.below hb2
  have ho2 := ho1.on hb2 hb2.size
  have H2 := Lib.hid hb2.size
  clear hB1 bz1 by1 br1 h1 hb2 ho1 k0 k1 k2 k3 k4 g0 g1 g2 g3 g4
  obtain ⟨⟨k0, k1, k2, k3, k4⟩, g0, g1, g2, g3, g4⟩ := box5 bz2
  have hw3 : ∀ w3, w3 = put5 w2 z (.slice A2 n c2) (.slice B2 m k2') (.int .i64 q) (.int .i64 u) (.bool dd) → (Below w.heap.size w w3 ∧ Box5 w3 z 25 (.slice A2 n c2) (.slice B2 m k2') (.int .i64 q) (.int .i64 u) (.bool dd) ∧ Box4 w3 (z + 1) o ∧
      Box5 w3 (z + 2) 25 (.slice none 0 0) (.slice none 0 0) (.int .i64 0) (.int .i64 0) (.bool false) ∧ DOwn w3 w1.heap.size ⟨fl, qu, q, u, dd⟩ A2 n c2 B2 m k2' fs os ∧ o.p.Ok w3 w3.heap.size ∧ (z + 3 ≤ w3.heap.size ∧ w1.heap.size ≤ w3.heap.size)) := fun w3 hw3 => by
    refine ⟨?_, ?_, ?_, ?_, ?_, ?_, ?_⟩
    · rw [hw3]; exact put5_below hB2 hzw _ _ _ _ _
    · rw [hw3]; exact put5_box bz2 _ _ _ _ _
    · rw [hw3]; exact put5_box4 by2 (by omega) _ _ _ _ _
    · rw [hw3]; exact put5_other br2 (by omega) _ _ _ _ _
    · rw [hw3]; exact d2.put5 bz2 _ _ _ _ _
    · rw [hw3, put5_size]
      exact ((((ho2.apart bz2.noData).apart (bz2.s0 _).noData).apart ((bz2.s0 _).s1 _).noData).apart (((bz2.s0 _).s1 _).s2 _).noData).apart ((((bz2.s0 _).s1 _).s2 _).s3 _).noData
    · rw [hw3, put5_size]; exact ⟨Nat.le_trans H1.out H2.out, H2.out⟩
  have H3 := Lib.hid hw3
  clear hw3 hB2 ho2 by2 d2 bz2
  by_cases h0 : er = 0
  · subst h0
    have He := Lib.hid (do_zero Her.out)
    go_wp2_with fail
    obtain ⟨w3, hw3⟩ : ∃ w3, w3 = put5 w2 z (.slice A2 n c2) (.slice B2 m k2') (.int .i64 q) (.int .i64 u) (.bool dd) := ⟨_, rfl⟩
    obtain ⟨hB3, bz3, by3, br3, d3, ho3, hs3⟩ := H3.out w3 hw3
    have hw3' : w3 = ((((w2.setCell ⟨z, 0, none⟩ (.slice A2 n c2)).setCell ⟨z, 1, none⟩ (.slice B2 m k2')).setCell ⟨z, 2, none⟩ (.int .i64 q)).setCell ⟨z, 3, none⟩ (.int .i64 u)).setCell ⟨z, 4, none⟩ (.bool dd) := hw3
    rw [← hw3']
    clear hw3 hw3' H3 br2 k0 k1 k2 k3 k4 g0 g1 g2 g3 g4
    have Hlo := Lib.hid hs3
    have Hbz := Lib.hid bz3
    have Hbr := Lib.hid br3
    have Hd3 := Lib.hid d3
    have HB3 := Lib.hid hB3
    have Hby := Lib.hid by3
    have bd : Below w3.heap.size w3 w3.drew := (Below.refl _ _).drew
    have Ho3 := Lib.hid (ho3.on bd bd.size)
    obtain ⟨⟨k0, k1, k2, k3, k4⟩, g0, g1, g2, g3, g4⟩ := box5 (bz3.below bd)
    obtain ⟨⟨y0, y1, y2, y3⟩, _⟩ := box4 (by3.below bd)
    clear bz3 br3 d3 hB3 hs3 ho3 by3
    go_region_law (first
      | (go_simp; go_at_call 32; (with_reducible refine (dev_ownOp o w3.drew Ho3.out (by omega)).mono ?_); rintro e w4 ⟨⟨p, rfl, hpl, hp, hpg⟩, hb4⟩; (have hB4 : Below w3.heap.size w3 w4 := bd.trans (hb4.mono bd.size)); obtain ⟨⟨l0, l1, l2, l3, l4⟩, _⟩ := box5 (Hbz.out.below hB4); (have b4a : Below w4.heap.size w4 (w4.alloc (.cells #[.int .u8 o.kind, .string o.name, .string o.to, .slice p.A p.n p.c] 28)) := (Below.refl _ _).alloc (Nat.le_refl _) _); (have hB5 := hB4.trans (b4a.mono hB4.size)); (have Hd5 := Lib.hid (Hd3.out.below hB5)); (have Hsrc := Lib.hid (show Source (w4.alloc (.cells #[.int .u8 o.kind, .string o.name, .string o.to, .slice p.A p.n p.c] 28)) 4 (some ⟨w4.heap.size, 0, none⟩) 1 (OpM.cs ⟨o.kind, o.name, o.to, p⟩) from Source.one (cs := OpM.cs ⟨o.kind, o.name, o.to, p⟩) rfl (OpM.one _) rfl)); (have Hb3 := Lib.hid (show w1.heap.size ≤ (w4.alloc (.cells #[.int .u8 o.kind, .string o.name, .string o.to, .slice p.A p.n p.c] 28)).heap.size from Nat.le_trans Hlo.out.2 hB5.size)); (have Hp5 := Lib.hid (hp.below b4a)); obtain ⟨⟨k0, k1, k2, k3, k4⟩, g0, g1, g2, g3, g4⟩ := box5 (Hbz.out.below hB5))
      | (refine step_append (base := w1.heap.size) (w := _) (n := m) (m := 1) (.tmp 17) (.tmp 20) 23 rfl rfl Try.underlying23 hk hx0 hx1 hx2 op_cells (by decide) rfl rfl Hd5.out.qrow Hsrc.out (by unfold maxLen; omega) (by omega) Hb3.out ?_; intro v2 w6 L6; obtain ⟨B6, k6, rfl, d6⟩ := Hd5.out.push (o := ⟨o.kind, o.name, o.to, p⟩) Hp5.out hok L6; (have bz6 := box5_longer (Hbz.out.below hB5) Hd5.out.qrow L6 (by have := Hlo.out; have := H1.out; omega)); obtain ⟨⟨k0, k1, k2, k3, k4⟩, g0, g1, g2, g3, g4⟩ := box5 bz6))
    all_goals
      have hB6 : Below w.heap.size w w6 := L6.below (HB3.out.trans (hB5.mono HB3.out.size)) (Nat.le_trans HB3.out.size hB5.size) (fun g hg => by have := (Hd5.out.qrow.lt g hg).1; have := H1.out; omega)
      have br6 := box5_longer (Hbr.out.below hB5) Hd5.out.qrow L6 (by have := H1.out; omega)
      obtain ⟨w7, hw7⟩ : ∃ w7, w7 = w6.setCell ⟨z, 1, none⟩ (.slice B6 (m + 1) k6) := ⟨_, rfl⟩
      have bz7 : Box5 w7 z 25 (.slice A2 n c2) (.slice B6 (m + 1) k6) (.int .i64 q) (.int .i64 u) (.bool dd) := by rw [hw7]; exact bz6.s1 _
      have br7 : Box5 w7 (z + 2) 25 (.slice none 0 0) (.slice none 0 0) (.int .i64 0) (.int .i64 0) (.bool false) := by rw [hw7]; exact br6.other (by omega) _
      have d7 : DOwn w7 w1.heap.size ⟨fl, qu ++ [o.pure], q, u, dd⟩ A2 n c2 B6 (m + 1) k6 fs (os ++ [⟨o.kind, o.name, o.to, p⟩]) := by
        rw [hw7]
        have h1 := d6.set (i := 1) bz6 (.slice B6 (m + 1) k6)
        rw [show (OpM.pure ⟨o.kind, o.name, o.to, p⟩) = o.pure by unfold OpM.pure; rw [hpl]] at h1
        exact h1
      have hB7 : Below w.heap.size w w7 := by rw [hw7]; exact hB6.setCell (p := ⟨z, 1, none⟩) hzw _
      rw [← hw7]
      clear hw7 bz6 br6 hB6 d6 L6 l0 l1 l2 l3 l4 k0 k1 k2 k3 k4 g0 g1 g2 g3 g4 y0 y1 y2 y3 Hbz Hbr Hd3 HB3 Hby Hd5 Hsrc Hp5 hB5 b4a hB4 hp hpl hpg hb4 bd Ho3
      obtain ⟨⟨k0, k1, k2, k3, k4⟩, g0, g1, g2, g3, g4⟩ := box5 bz7
      go_wp2_with fail
      refine (dev_burn ⟨fl, qu ++ [o.pure], q, u, dd⟩ A2 n c2 B6 (m + 1) k6 w7 hu).mono ?_
      rintro e w8 ⟨rfl, hb8⟩
      have hB8 : Below w.heap.size w w8 := hB7.trans (hb8.mono hB7.size)
      have br8 := br7.below hb8
      have d8 := burnt_at ((d7.below hb8).at_)
      have Hquo := Lib.hid (burnt_quota ⟨fl, qu ++ [o.pure], q, u, dd⟩)
      clear bz7 br7 d7 hB7 hb8 k0 k1 k2 k3 k4 g0 g1 g2 g3 g4
      obtain ⟨⟨r0, r1, r2, r3, r4⟩, t0, t1, t2, t3, t4⟩ := box5 br8
      go_wp2_with fail
      rw [He.out]
      refine bodyPost_ret (v := .tuple #[.agg #[.slice A2 n c2, .slice B6 (m + 1) k6, .int .i64 q, .int .i64 (burntP ⟨fl, qu ++ [o.pure], q, u, dd⟩).fuse, .bool (burntP ⟨fl, qu ++ [o.pure], q, u, dd⟩).dead], .int .i64 0]) (by simp [results, Try.results10, go_sem, *]) rfl
        ⟨⟨A2, n, c2, B6, m + 1, k6, by rw [Her.out, Hquo.out], DAt.put5 br8 d8⟩, put5_below hB8 hzw2 _ _ _ _ _⟩
  · have e0 : (er != 0) = true := by simpa using h0
    have He := Lib.hid (do_err (by rw [Her.out]; exact h0))
    clear h0
    obtain ⟨⟨r0, r1, r2, r3, r4⟩, t0, t1, t2, t3, t4⟩ := box5 br2
    go_wp2_with fail
    rw [He.out]
    obtain ⟨hB3, bz3, by3, br3, d3, ho3, hs3⟩ := H3.out _ rfl
    refine bodyPost_ret (v := .tuple #[.agg #[.slice A2 n c2, .slice B2 m k2', .int .i64 q, .int .i64 u, .bool dd], .int .i64 er]) (by simp [results, Try.results10, go_sem, *]) rfl ⟨⟨A2, n, c2, B2, m, k2', by rw [Her.out], DAt.put5 br3 d3.at_⟩, put5_below hB3 hzw2 _ _ _ _ _⟩

end Go.Proofs.Ytmfiopopiikbmaa
