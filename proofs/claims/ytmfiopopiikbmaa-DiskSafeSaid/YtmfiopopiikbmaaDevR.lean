/-
  The developers' Crash: its contract.
-/
import Derived.Test.YtmfiopopiikbmaaDevQ
import Derived.Test.YtmfiopopiikbmaaCrash
namespace Go.Proofs.Ytmfiopopiikbmaa
open Go.RowKit Go.Maps

theorem left_names {d : DiskP} {keep torn : Int} {fs : List FileM} (hn : Nms d) (hr : rightP d = true) (hp : fs.map FileM.pure = leftP d (cutP keep d.queue.length) torn) : ∀ f ∈ fs, f.name.size ≤ maxLen := fun f hf => by
  have h1 := (hn.crash keep torn).files
  rw [crash_right hr] at h1
  exact h1 f.pure (by show f.pure ∈ leftP d (cutP keep d.queue.length) torn; rw [← hp]; exact List.mem_map_of_mem hf)
theorem os_box {W : World} {o : OpM} {g : Nat} (hb : Box4 W g o) (hp : o.p.Ok W W.heap.size) (hk : 0 ≤ o.kind ∧ o.kind ≤ 255) : Os W W.heap.size (some ⟨g, 0, none⟩) 1 [o] := by
  refine ⟨⟨rfl, fun _ => ⟨g, 0, rfl, (Array.getElem?_eq_some_iff.1 hb).1, fun i x hx j hj => ?_⟩⟩, fun x hx => ?_⟩
  · have hi : i = 0 := by
      have := (List.getElem?_eq_some_iff.1 hx).1
      simp at this
      omega
    subst hi
    simp at hx
    subst hx
    rw [cell_of_row _ _ _ _ _ _ hb]
    rcases (by omega : j = 0 ∨ j = 1 ∨ j = 2 ∨ j = 3) with rfl | rfl | rfl | rfl <;> rfl
  · obtain rfl := List.mem_singleton.1 hx
    exact ⟨hp, hk⟩

set_option maxRecDepth 100000 in
set_option maxHeartbeats 4000000 in
theorem dev_crash {w : World} {fl : List FileP} {qu : List OpP} {q u : Int} {dd : Bool} {A : Option Addr} {n c : Nat} {B : Option Addr} {m k : Nat} (keep torn : Int) (h : DAt w ⟨fl, qu, q, u, dd⟩ A n c B m k) (hs : Small ⟨fl, qu, q, u, dd⟩) (hn : Nms ⟨fl, qu, q, u, dd⟩) :
    Calls Try.prog 20 #[.agg #[.slice A n c, .slice B m k, .int .i64 q, .int .i64 u, .bool dd], .int .i64 keep, .int .i64 torn] w fun e w' => DOne (crashP ⟨fl, qu, q, u, dd⟩ keep torn) e w' ∧ Below w.heap.size w w' := by
  have Hs := Lib.hid hs
  have Hn := Lib.hid hn
  have hl := h.len
  have hn : n ≤ 1000 := by rw [← hl.1]; exact hs.files
  have hm : m ≤ 1000 := by rw [← hl.2]; exact hs.queue
  have Hl := Lib.hid hl
  obtain ⟨i3, hi3, hx0, hx1, hx2⟩ := info_partsV info_op
  obtain ⟨i1, hi1, hz0, hz1, hz2⟩ := info_partsV info_u8
  clear hs hl
  go_enter Try.func20, Try.ntmps20
  go_wp2_with fail
  obtain ⟨z, hz⟩ : ∃ z, z = w.heap.size := ⟨_, rfl⟩
  obtain ⟨w0, hw0⟩ : ∃ w0, w0 = (w.alloc (.cells #[.slice A n c, .slice B m k, .int .i64 q, .int .i64 u, .bool dd] 25)).alloc (.cells #[.slice none 0 0, .slice none 0 0, .int .i64 0, .int .i64 0, .bool false] 25) := ⟨_, rfl⟩
  have hs0 : w0.heap.size = z + 2 := by rw [hw0, hz]; simp
  have hB0 : Below w.heap.size w w0 := by rw [hw0]; exact ((Below.refl _ _).alloc (Nat.le_refl _) _).alloc (by simp) _
  have bz0 : Box5 w0 z 25 (.slice A n c) (.slice B m k) (.int .i64 q) (.int .i64 u) (.bool dd) := by
    rw [hw0, hz]
    exact (Below.heap_alloc _ _ _ (by simp)).trans (World.alloc_heap_new w _)
  have br0 : Box5 w0 (z + 1) 25 (.slice none 0 0) (.slice none 0 0) (.int .i64 0) (.int .i64 0) (.bool false) := by
    rw [hw0, hz]
    have := World.alloc_heap_new (w.alloc (.cells #[.slice A n c, .slice B m k, .int .i64 q, .int .i64 u, .bool dd] 25)) (.cells #[.slice none 0 0, .slice none 0 0, .int .i64 0, .int .i64 0, .bool false] 25)
    rwa [World.size_alloc] at this
  rw [← hw0, ← hz]
  have hzw : w.heap.size ≤ z := by omega
  have hzw1 : w.heap.size ≤ z + 1 := by omega
  have hzz : z ≠ z + 1 := by omega
  clear hw0 hz
  refine (dev_right (d := ⟨fl, qu, q, u, dd⟩) (h.on hB0) Hs.out Hn.out).mono ?_
  rintro e w1 ⟨rfl, hb1⟩
  have hB1 : Below w.heap.size w w1 := hB0.trans (hb1.mono hB0.size)
  have bz1 := bz0.below hb1
  have br1 := br0.below hb1
  have h1 := h.on hB1
  have hs1 : z + 2 ≤ w1.heap.size := by have := hb1.size; omega
  clear h hB0 bz0 br0 hb1 hs0
  obtain ⟨⟨k0, k1', k2, k3, k4⟩, g0, g1, g2, g3, g4⟩ := box5 bz1
  obtain ⟨bv, hbv⟩ : ∃ bv, rightP ⟨fl, qu, q, u, dd⟩ = bv := ⟨_, rfl⟩
  rw [hbv]
  have Hbv := Lib.hid hbv
  clear hbv
  cases bv
  · have He := Lib.hid (crash_wrong (keep := keep) (torn := torn) Hbv.out)
    go_wp2_with fail
    refine (dev_own h1 Hs.out).mono ?_
    rintro e w2 ⟨⟨A2, c2, B2, k2', fs, os, rfl, d2⟩, hb2⟩
    have hB2 : Below w.heap.size w w2 := hB1.trans (hb2.mono hB1.size)
    have br2 := br1.below hb2
    clear hB1 bz1 br1 h1 hb2 k0 k1' k2 k3 k4 g0 g1 g2 g3 g4
    obtain ⟨⟨r0, r1, r2, r3, r4⟩, t0, t1, t2, t3, t4⟩ := box5 br2
    go_wp2_with fail
    rw [He.out]
    refine bodyPost_ret (v := .agg #[.slice A2 n c2, .slice B2 m k2', .int .i64 q, .int .i64 u, .bool dd]) (by simp [results, Try.results20, go_sem, *]) rfl ⟨⟨A2, n, c2, B2, m, k2', rfl, DAt.put5 br2 d2.at_⟩, put5_below hB2 hzw1 _ _ _ _ _⟩
  obtain ⟨⟨fs, hf, e1⟩, ⟨os, ho, e2⟩⟩ := (⟨h1.files, h1.queue⟩ : _ ∧ _)
  have Hkc := Lib.hid h1.oc
  have HB1 := Lib.hid hB1
  have Hbz := Lib.hid bz1
  have Hbr := Lib.hid br1
  clear h1
  go_wp2_with fail
  refine (dev_within keep m _).mono ?_
  rintro e w' ⟨rfl, hww⟩
  obtain rfl : w1 = w' := hww.symm
  obtain ⟨K, hK⟩ : ∃ K, cutP keep m = K := ⟨_, rfl⟩
  rw [hK]
  have hKm : K ≤ m := by rw [← hK]; exact (cut_val keep m).2
  have HK := Lib.hid hK
  have s1 := fun W => cut_to (P := Try.prog) Try.underlying23 hi3 hx1 B m k K (Nat.le_trans hKm Hkc.out) W
  have hK1 : K ≤ 1000 := by omega
  clear hK
  go_wp2_with fail
  refine (dev_safe B m k q u dd hf hn (fbytes_m hf e1 Hs.out.fbytes) (by rw [e1]; exact Hn.out.files)).mono ?_
  rintro e w2 ⟨⟨b, fs2, rfl, hF2, hp2⟩, hb2⟩
  have hB2 : Below w.heap.size w w2 := hB1.trans (hb2.mono hB1.size)
  have bz2 := bz1.below hb2
  have br2 := br1.below hb2
  have hs2 := hb2.size
  have k12 := old_keep hb2
  have ho2 := ho.on hb2 hb2.size
  clear hB1 bz1 br1 hf k0 k1' k2 k3 k4 g0 g1 g2 g3 g4
  obtain ⟨⟨k0, k1', k2, k3, k4⟩, g0, g1, g2, g3, g4⟩ := box5 bz2
  go_wp2_with fail
  have hO : ∀ W, KeepC (Old w1.heap.size) w2 W → Os W W.heap.size B K (os.take K) := fun W hW => by
    have h1 : Below w1.heap.size w1 W := hb2.trans hW.old
    exact (ho.first hKm).on h1 h1.size
  have hbn := fun o ho' => obytes_m ho e2 Hs.out.obytes o (List.mem_of_mem_take (i := K) ho')
  have hnmo : NmO ((os.take K).map OpM.pure) := by rw [List.map_take, e2]; exact Hn.out.queue.take K
  refine (dev_do hF2 (fun k hk => Nat.lt_of_lt_of_le hk hs2) hO (by omega) hK1 hnmo hbn (by rw [hp2, e1]; exact now_bnd Hs.out)).mono ?_
  rintro e w3 ⟨rfl, ⟨fs3, hF3, hp3⟩, hb3⟩
  have b13 : Below w1.heap.size w1 w3 := hb2.trans hb3.old
  have hB3 : Below w.heap.size w w3 := HB1.out.trans (b13.mono HB1.out.size)
  have bz3 := Hbz.out.below b13
  have br3 := Hbr.out.below b13
  have ho3 := ho.on b13 b13.size
  have HF3 := Lib.hid hF3
  have Hp3 := Lib.hid (show fs3.map FileM.pure = allP fl (qu.take K) by rw [hp3, hp2, e1, List.map_take, e2]; rfl)
  have HO := Lib.hid e2
  have HcK := Lib.hid (show cutP keep qu.length = K by rw [show qu.length = m from Hl.out.2]; exact HK.out)
  have Hb13 := Lib.hid b13
  clear hF2 hp2 hb2 hB2 bz2 br2 hs2 k12 ho2 hO hbn hnmo hb3 hp3 hF3 b13 e1 e2 k0 k1' k2 k3 k4 g0 g1 g2 g3 g4
  obtain ⟨⟨k0, k1', k2, k3, k4⟩, g0, g1, g2, g3, g4⟩ := box5 bz3
  by_cases hlt : K < m
  · have v1 : decide ((K : Int) < (m : Int)) = true := by simp; omega
    have v1' : decide (K < m) = true := by simpa using hlt
    have hj2 : (0 : Int) ≤ (K : Int) := by omega
    have hj3 : (K : Int) < (m : Int) := by omega
    obtain ⟨bq, off, o, rfl, hbl, hoK, o0, o1, o2, o3, hok, hk0, hk1⟩ := ho3.at_ hlt
    have hqK : qu[K]? = some o.pure := by rw [← HO.out, List.getElem?_map, hoK]; rfl
    by_cases e4 : o.kind = 2
    · have v2 : (o.kind == 2) = true := by simpa using e4
      have Hleft := Lib.hid (left_app (d := ⟨fl, qu, q, u, dd⟩) (K := K) (torn := torn) hqK e4)
      have hon : o.p.n ≤ 1048576 := by
        have h1 := Hs.out.obytes o.pure (List.mem_of_getElem? hqK)
        rwa [show o.pure.bytes.length = o.p.n from hok.rd.1] at h1
      have Hon := Lib.hid (Hn.out.queue o.pure (List.mem_of_getElem? hqK))
      have Hok := Lib.hid ((ho.ok o (List.mem_of_getElem? hoK)).1)
      clear hqK hoK e4 hok
      go_wp2_with fail
      obtain ⟨y, hy⟩ : ∃ y, y = w3.heap.size := ⟨_, rfl⟩
      obtain ⟨w4, hw4⟩ : ∃ w4, w4 = w3.alloc (.cells #[.int .u8 o.kind, .string o.name, .string o.to, .slice o.p.A o.p.n o.p.c] 28) := ⟨_, rfl⟩
      have b34 : Below w3.heap.size w3 w4 := by rw [hw4]; exact (Below.refl _ _).alloc (Nat.le_refl _) _
      have by4 : Box4 w4 y o := by rw [hw4, hy]; exact World.alloc_heap_new w3 _
      rw [← hw4, ← hy]
      obtain ⟨⟨y0, y1, y2, y3⟩, yf⟩ := box4 (by4.below (Below.refl _ _).drew)
      obtain ⟨T, hT⟩ : ∃ T, cutP torn o.p.n = T := ⟨_, rfl⟩
      have hTn : T ≤ o.p.n := by rw [← hT]; exact (cut_val torn o.p.n).2
      have s3 := fun W => cut_first (P := Try.prog) Try.underlying26 hi1 hz1 o.p.A o.p.n o.p.c T (Nat.le_trans hTn Hok.out.room) W
      have HT := Lib.hid hT
      have Hy := Lib.hid hy
      clear hw4 hy hT o0 o1 o2 o3 k0 k1' k2 k3 k4 g0 g1 g2 g3 g4
      go_region_with (first
        | (go_at_call 46; (with_reducible refine (dev_within torn o.p.n _).mono ?_); rintro e w' ⟨rfl, rfl⟩; rw [HT.out]))
      all_goals
        have b34' : Below w3.heap.size w3 (w4.setCell ⟨y, 3, none⟩ (.slice o.p.A T o.p.c)).drew := (b34.setCell (p := ⟨y, 3, none⟩) (Nat.le_of_eq Hy.out.symm) _).drew
        have by5 : Box4 (w4.setCell ⟨y, 3, none⟩ (.slice o.p.A T o.p.c)).drew y ⟨o.kind, o.name, o.to, ⟨o.p.A, T, o.p.c, o.p.l.take T⟩⟩ := heap_set by4 _
        obtain ⟨w5, hw5⟩ : ∃ w5, w5 = (w4.setCell ⟨y, 3, none⟩ (.slice o.p.A T o.p.c)).drew := ⟨_, rfl⟩
        rw [← hw5] at b34' by5 ⊢
        have b15 : Below w1.heap.size w1 w5 := Hb13.out.trans (b34'.mono Hb13.out.size)
        have HFx := Lib.hid (HF3.out.below b34')
        clear hw5 by4 b34 y0 y1 y2 y3 yf
        obtain ⟨⟨y0, y1, y2, y3⟩, _⟩ := box4 by5
        go_wp2_with fail
        obtain ⟨g, hg⟩ : ∃ g, g = w5.heap.size := ⟨_, rfl⟩
        obtain ⟨w6, hw6⟩ : ∃ w6, w6 = w5.alloc (.cells #[.int .u8 o.kind, .string o.name, .string o.to, .slice o.p.A T o.p.c] 28) := ⟨_, rfl⟩
        have b56 : Below w5.heap.size w5 w6 := by rw [hw6]; exact (Below.refl _ _).alloc (Nat.le_refl _) _
        have bg6 : Box4 w6 g ⟨o.kind, o.name, o.to, ⟨o.p.A, T, o.p.c, o.p.l.take T⟩⟩ := by rw [hw6, hg]; exact World.alloc_heap_new w5 _
        have hs6 : w6.heap.size = g + 1 := by rw [hw6, hg]; simp
        have hF6 : FM w6 (CBox (Old w1.heap.size) g) b (n + K) fs3 := (HFx.out.box (Nat.le_of_eq hg.symm)).below b56
        have b16 : Below w1.heap.size w1 w6 := b15.trans (b56.mono b15.size)
        have hs15 := b15.size
        rw [← hw6, ← hg]
        have hO : ∀ W, KeepC (CBox (Old w1.heap.size) g) w6 W → Os W W.heap.size (some ⟨g, 0, none⟩) 1 [⟨o.kind, o.name, o.to, ⟨o.p.A, T, o.p.c, o.p.l.take T⟩⟩] := fun W hW => by
          have h1 : Below w1.heap.size w1 W := b16.trans hW.unbox.old
          exact os_box (bg6.keep hW (.inr rfl)) (Byts.Ok.on ⟨Hok.out.rd.first hTn, Hok.out.byt.take T, Nat.le_trans hTn Hok.out.room⟩ h1 h1.size) ⟨hk0, hk1⟩
        have hbX : Bnd 2199023255552 (fs3.map FileM.pure) := by
          rw [Hp3.out]
          have h1 := all_bnd (files := fl) (q := qu.take K) Hs.out.fbytes (fun o ho => Hs.out.obytes o (List.mem_of_mem_take ho))
          refine h1.mono ?_
          have h2 : (qu.take K).length ≤ 1000 := by rw [List.length_take]; omega
          have h3 : (qu.take K).length * 1048576 ≤ 1000 * 1048576 := Nat.mul_le_mul_right _ h2
          omega
        refine (dev_do hF6 (fun k hk => by rcases hk with hk | hk; exact Nat.lt_of_lt_of_le hk b16.size; omega) hO (by omega) (by omega) (fun x hx => by obtain rfl := List.mem_singleton.1 hx; exact Hon.out) (fun x hx => by obtain rfl := List.mem_singleton.1 hx; exact Nat.le_trans hTn hon) hbX).mono ?_
        rintro e w7 ⟨rfl, ⟨fs7, hF7, hp7⟩, hb7⟩
        have b17 : Below w1.heap.size w1 w7 := b16.trans hb7.unbox.old
        have hB7 : Below w.heap.size w w7 := HB1.out.trans (b17.mono HB1.out.size)
        have bz7 := Hbz.out.below b17
        have br7 := Hbr.out.below b17
        have HF7 := Lib.hid hF7.unbox
        have HpF := Lib.hid (show fs7.map FileM.pure = leftP ⟨fl, qu, q, u, dd⟩ (cutP keep qu.length) torn by
          rw [hp7, Hp3.out, HcK.out, Hleft.out, show o.pure.bytes.length = o.p.n from Hok.out.rd.1, HT.out]
          rfl)
        clear hF6 hb7 hF7 hp7 hO hbX b16 b56 bg6 hs6 hs15 hw6 hg b17 b15 b34' by5 y0 y1 y2 y3 HFx s3
        go_wp2_with fail
        have bd : Below w7.heap.size w7 w7.drew := (Below.refl _ _).drew
        have hC5 : ∀ k, OldBut w7.heap.size (z + 1) k → k < w7.heap.size := fun k hk => hk.1
        have Hgg := Lib.hid (show ¬ OldBut w7.heap.size (z + 1) (z + 1) from fun h => h.2 rfl)
        have HBE := Lib.hid hB7
        have HbzE := Lib.hid bz7
        have HbrE := Lib.hid br7
        have Hcells := Lib.hid (show ∀ W, KeepC (OldBut w7.heap.size (z + 1)) w7 W → KeepC (OldBut w7.heap.size (z + 1)) w7 W ∧ W.cell? ⟨z, 2, none⟩ = some (.int .i64 q) from fun W hW => ⟨hW, (hW.cell (p := ⟨z, 2, none⟩) ⟨HbzE.out.lt, hzz⟩).trans (box5 HbzE.out).1.2.2.1⟩)
        have HnE := Lib.hid (show ∀ f ∈ fs7, f.name.size ≤ maxLen from left_names Hn.out Hbv.out HpF.out)
        have HlE := Lib.hid (show fs7.length ≤ 100000 by have := HF7.out.len; omega)
        obtain ⟨N, hN⟩ : ∃ N, N = fs7.length := ⟨_, rfl⟩
        have HN := Lib.hid hN
        clear hN hB7 bz7 br7 
        go_region_held3 (fun W => KeepC (OldBut w7.heap.size (z + 1)) w7 W ∧ W.cell? ⟨z, 2, none⟩ = some (.int .i64 q))
          (exact Hcells.out _ (by first | exact KeepC.refl _ _ | exact (KeepC.refl _ _).drew | assumption | exact And.left (by assumption) | exact (((((show KeepC _ w7 _ from by assumption).set Hgg.out _).set Hgg.out _).set Hgg.out _).set Hgg.out _).set Hgg.out _))
          (first
            | (go_at_call 40; (with_reducible refine (dev_list (HF7.out.below bd) HnE.out HlE.out).mono ?_); rintro e w8 ⟨⟨A8, c8, rfl, hc8, hf8⟩, hb8⟩; (have hB8 : Below w7.heap.size w7 w8 := bd.trans (hb8.mono bd.size)); (have k8 : KeepC (OldBut w7.heap.size (z + 1)) w7 w8 := keepC_of hB8 hC5); rw [← HN.out] at hc8 hf8 ⊢; obtain ⟨⟨r0, r1, r2, r3, r4⟩, t0, t1, t2, t3, t4⟩ := box5 (HbrE.out.below hB8)))
        have br8 := HbrE.out.below hB8
        have hBF : Below w.heap.size w w8 := HBE.out.trans (hB8.mono HBE.out.size)
        have dX : DAt w8 ⟨leftP ⟨fl, qu, q, u, dd⟩ (cutP keep qu.length) torn, [], q, 0, false⟩ A8 N c8 none 0 0 := ⟨hc8, Nat.le_refl _, ⟨fs7, hf8, HpF.out⟩, ⟨[], Os.nil, rfl⟩⟩
        clear hB8 k8 hb8 hc8 hf8 bd hC5
        go_wp2_with fail
        rw [crash_right Hbv.out]
        refine bodyPost_ret (v := .agg #[.slice A8 N c8, .slice none 0 0, .int .i64 q, .int .i64 0, .bool false]) (by simp [results, Try.results20, go_sem, *]) rfl ⟨⟨A8, N, c8, none, 0, 0, rfl, DAt.put5 br8 dX⟩, put5_below hBF hzw1 _ _ _ _ _⟩
    · have v2 : (o.kind == 2) = false := by simpa using e4
      have Hleft := Lib.hid (left_other (d := ⟨fl, qu, q, u, dd⟩) (K := K) (torn := torn) (fun o' h => by rw [hqK] at h; cases h; exact e4))
      have HpE := Lib.hid (show fs3.map FileM.pure = leftP ⟨fl, qu, q, u, dd⟩ (cutP keep qu.length) torn by rw [HcK.out, Hleft.out, Hp3.out])
      clear hqK hoK e4
      go_wp2_with fail
      have bd : Below w3.heap.size w3 w3.drew := (Below.refl _ _).drew
      have hC5 : ∀ k, OldBut w3.heap.size (z + 1) k → k < w3.heap.size := fun k hk => hk.1
      have Hgg := Lib.hid (show ¬ OldBut w3.heap.size (z + 1) (z + 1) from fun h => h.2 rfl)
      have HBE := Lib.hid hB3
      have HbzE := Lib.hid bz3
      have HbrE := Lib.hid br3
      have Hcells := Lib.hid (show ∀ W, KeepC (OldBut w3.heap.size (z + 1)) w3 W → KeepC (OldBut w3.heap.size (z + 1)) w3 W ∧ W.cell? ⟨z, 2, none⟩ = some (.int .i64 q) from fun W hW => ⟨hW, (hW.cell (p := ⟨z, 2, none⟩) ⟨HbzE.out.lt, hzz⟩).trans (box5 HbzE.out).1.2.2.1⟩)
      have HnE := Lib.hid (show ∀ f ∈ fs3, f.name.size ≤ maxLen from left_names Hn.out Hbv.out HpE.out)
      have HlE := Lib.hid (show fs3.length ≤ 100000 by have := HF3.out.len; omega)
      obtain ⟨N, hN⟩ : ∃ N, N = fs3.length := ⟨_, rfl⟩
      have HN := Lib.hid hN
      clear hN hB3 bz3 br3 k0 k1' k2 k3 k4 g0 g1 g2 g3 g4
      go_region_held3 (fun W => KeepC (OldBut w3.heap.size (z + 1)) w3 W ∧ W.cell? ⟨z, 2, none⟩ = some (.int .i64 q))
        (exact Hcells.out _ (by first | exact KeepC.refl _ _ | exact (KeepC.refl _ _).drew | assumption | exact And.left (by assumption) | exact (((((show KeepC _ w3 _ from by assumption).set Hgg.out _).set Hgg.out _).set Hgg.out _).set Hgg.out _).set Hgg.out _))
        (first
          | (go_at_call 40; (with_reducible refine (dev_list (HF3.out.below bd) HnE.out HlE.out).mono ?_); rintro e w8 ⟨⟨A8, c8, rfl, hc8, hf8⟩, hb8⟩; (have hB8 : Below w3.heap.size w3 w8 := bd.trans (hb8.mono bd.size)); (have k8 : KeepC (OldBut w3.heap.size (z + 1)) w3 w8 := keepC_of hB8 hC5); rw [← HN.out] at hc8 hf8 ⊢; obtain ⟨⟨r0, r1, r2, r3, r4⟩, t0, t1, t2, t3, t4⟩ := box5 (HbrE.out.below hB8)))
      have br8 := HbrE.out.below hB8
      have hBF : Below w.heap.size w w8 := HBE.out.trans (hB8.mono HBE.out.size)
      have dX : DAt w8 ⟨leftP ⟨fl, qu, q, u, dd⟩ (cutP keep qu.length) torn, [], q, 0, false⟩ A8 N c8 none 0 0 := ⟨hc8, Nat.le_refl _, ⟨fs3, hf8, HpE.out⟩, ⟨[], Os.nil, rfl⟩⟩
      clear hB8 k8 hb8 hc8 hf8 bd hC5
      go_wp2_with fail
      rw [crash_right Hbv.out]
      refine bodyPost_ret (v := .agg #[.slice A8 N c8, .slice none 0 0, .int .i64 q, .int .i64 0, .bool false]) (by simp [results, Try.results20, go_sem, *]) rfl ⟨⟨A8, N, c8, none, 0, 0, rfl, DAt.put5 br8 dX⟩, put5_below hBF hzw1 _ _ _ _ _⟩
  · have v1 : decide ((K : Int) < (m : Int)) = false := by simp; omega
    have v1' : decide (K < m) = false := by simpa using hlt
    have Hleft := Lib.hid (left_other (d := ⟨fl, qu, q, u, dd⟩) (K := K) (torn := torn) (fun o' h => by have h1 := (List.getElem?_eq_some_iff.1 h).1; have h2 : qu.length = m := Hl.out.2; have h3 : K < qu.length := h1; omega))
    have HpE := Lib.hid (show fs3.map FileM.pure = leftP ⟨fl, qu, q, u, dd⟩ (cutP keep qu.length) torn by rw [HcK.out, Hleft.out, Hp3.out])
    go_wp2_with fail
    have bd : Below w3.heap.size w3 w3.drew := (Below.refl _ _).drew
    have hC5 : ∀ k, OldBut w3.heap.size (z + 1) k → k < w3.heap.size := fun k hk => hk.1
    have Hgg := Lib.hid (show ¬ OldBut w3.heap.size (z + 1) (z + 1) from fun h => h.2 rfl)
    have HBE := Lib.hid hB3
    have HbzE := Lib.hid bz3
    have HbrE := Lib.hid br3
    have Hcells := Lib.hid (show ∀ W, KeepC (OldBut w3.heap.size (z + 1)) w3 W → KeepC (OldBut w3.heap.size (z + 1)) w3 W ∧ W.cell? ⟨z, 2, none⟩ = some (.int .i64 q) from fun W hW => ⟨hW, (hW.cell (p := ⟨z, 2, none⟩) ⟨HbzE.out.lt, hzz⟩).trans (box5 HbzE.out).1.2.2.1⟩)
    have HnE := Lib.hid (show ∀ f ∈ fs3, f.name.size ≤ maxLen from left_names Hn.out Hbv.out HpE.out)
    have HlE := Lib.hid (show fs3.length ≤ 100000 by have := HF3.out.len; omega)
    obtain ⟨N, hN⟩ : ∃ N, N = fs3.length := ⟨_, rfl⟩
    have HN := Lib.hid hN
    clear hN hB3 bz3 br3 k0 k1' k2 k3 k4 g0 g1 g2 g3 g4
    go_region_held3 (fun W => KeepC (OldBut w3.heap.size (z + 1)) w3 W ∧ W.cell? ⟨z, 2, none⟩ = some (.int .i64 q))
      (exact Hcells.out _ (by first | exact KeepC.refl _ _ | exact (KeepC.refl _ _).drew | assumption | exact And.left (by assumption) | exact (((((show KeepC _ w3 _ from by assumption).set Hgg.out _).set Hgg.out _).set Hgg.out _).set Hgg.out _).set Hgg.out _))
      (first
        | (go_at_call 40; (with_reducible refine (dev_list (HF3.out.below bd) HnE.out HlE.out).mono ?_); rintro e w8 ⟨⟨A8, c8, rfl, hc8, hf8⟩, hb8⟩; (have hB8 : Below w3.heap.size w3 w8 := bd.trans (hb8.mono bd.size)); (have k8 : KeepC (OldBut w3.heap.size (z + 1)) w3 w8 := keepC_of hB8 hC5); rw [← HN.out] at hc8 hf8 ⊢; obtain ⟨⟨r0, r1, r2, r3, r4⟩, t0, t1, t2, t3, t4⟩ := box5 (HbrE.out.below hB8)))
    have br8 := HbrE.out.below hB8
    have hBF : Below w.heap.size w w8 := HBE.out.trans (hB8.mono HBE.out.size)
    have dX : DAt w8 ⟨leftP ⟨fl, qu, q, u, dd⟩ (cutP keep qu.length) torn, [], q, 0, false⟩ A8 N c8 none 0 0 := ⟨hc8, Nat.le_refl _, ⟨fs3, hf8, HpE.out⟩, ⟨[], Os.nil, rfl⟩⟩
    clear hB8 k8 hb8 hc8 hf8 bd hC5
    go_wp2_with fail
    rw [crash_right Hbv.out]
    refine bodyPost_ret (v := .agg #[.slice A8 N c8, .slice none 0 0, .int .i64 q, .int .i64 0, .bool false]) (by simp [results, Try.results20, go_sem, *]) rfl ⟨⟨A8, N, c8, none, 0, 0, rfl, DAt.put5 br8 dX⟩, put5_below hBF hzw1 _ _ _ _ _⟩

end Go.Proofs.Ytmfiopopiikbmaa
