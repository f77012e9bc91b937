/-
  DiskQuota: it returns true.
-/
import Derived.Test.YtmfiopopiikbmaaQuotaP
import Derived.Test.YtmfiopopiikbmaaDevN
import Derived.Test.YtmfiopopiikbmaaWakesR
import Derived.Test.YtmfiopopiikbmaaGreat
import Derived.Deep.DeepCutAuto
import Derived.Test.YtmfiopopiikbmaaDraw
namespace Go.Proofs.Ytmfiopopiikbmaa
open Go.RowKit Go.Maps

/-- The box x holds the disk D. -/
def HoldsD (w : World) (x : Nat) (D : DiskP) : Prop := ∃ A n c B m k, Box5 w x 25 (.slice A n c) (.slice B m k) (.int .i64 D.quota) (.int .i64 D.fuse) (.bool D.dead) ∧ DAt w D A n c B m k

def WakesT : Prop := ∀ w : World, Calls Try.prog 9 #[] w fun e w' => e = .returned (.bool true) ∧ Below w.heap.size w w'

set_option maxRecDepth 100000 in
set_option maxHeartbeats 4000000 in
theorem quota_law (hW : WakesT) {w : World} {fl : List FileP} {qu : List OpP} {q u : Int} {dd : Bool} {A : Option Addr} {n c : Nat} {B : Option Addr} {m k : Nat} {E : Option Addr} {L cl : Nat} {os : List OpM}
    (h : DAt w ⟨fl, qu, q, u, dd⟩ A n c B m k) (hn : Nms ⟨fl, qu, q, u, dd⟩) (hu : u ≤ 9223372036854775807) (ho : Os w w.heap.size E L os) (hon : NmO (os.map OpM.pure)) :
    Calls Try.prog 6 #[.agg #[.slice A n c, .slice B m k, .int .i64 q, .int .i64 u, .bool dd], .slice E L cl] w fun e w' => e = .returned (.bool true) ∧ Below w.heap.size w w' := by
  have HW := Lib.hid hW
  have Hn := Lib.hid hn
  have Hon := Lib.hid hon
  clear hn hon hW
  go_enter Try.func6, Try.ntmps6
  go_wp2_with fail
  obtain ⟨z, hz⟩ : ∃ z, z = w.heap.size := ⟨_, rfl⟩
  obtain ⟨w0, hw0⟩ : ∃ w0, w0 = w.alloc (.cells #[.slice A n c, .slice B m k, .int .i64 q, .int .i64 u, .bool dd] 25) := ⟨_, rfl⟩
  have hB0 : Below w.heap.size w w0 := by rw [hw0]; exact (Below.refl _ _).alloc (Nat.le_refl _) _
  have bz0 : Box5 w0 z 25 (.slice A n c) (.slice B m k) (.int .i64 q) (.int .i64 u) (.bool dd) := by rw [hw0, hz]; exact World.alloc_heap_new w _
  rw [← hw0, ← hz]
  have hzw : w.heap.size ≤ z := by omega
  clear hw0 hz
  refine (great_any (h.on hB0)).mono ?_
  rintro e w1 ⟨⟨bg, rfl, hbg⟩, hb1⟩
  have hB1 : Below w.heap.size w w1 := hB0.trans (hb1.mono hB0.size)
  have bz1 := bz0.below hb1
  have h1 := h.on hB1
  clear h hB0 bz0 hb1
  obtain ⟨⟨k0, k1', k2, k3, k4⟩, _⟩ := box5 bz1
  have Hbg := Lib.hid hbg
  clear hbg
  by_cases hbt : bg = true
  · subst hbt
    go_wp2_with fail
    refine (HW.out w1).mono ?_
    rintro e w2 ⟨rfl, hb2⟩
    go_wp2_with fail
    go_ret
    exact ⟨rfl, hB1.trans (hb2.mono hB1.size)⟩
  obtain rfl : bg = false := by simpa using hbt
  clear hbt
  have hgr : greatP ⟨fl, qu, q, u, dd⟩ = false := by
    have := Hbg.out
    cases hg : greatP ⟨fl, qu, q, u, dd⟩ with
    | false => rfl
    | true => exact absurd (this.2 hg) (by decide)
  have HR := Lib.hid (Run.of hgr Hn.out hu)
  clear hgr
  go_wp2_with fail
  refine (right_any (d := ⟨fl, qu, q, u, dd⟩) h1 (HR.out.small (by omega))).mono ?_
  rintro e w2 ⟨rfl, hb2⟩
  have hB2 : Below w.heap.size w w2 := hB1.trans (hb2.mono hB1.size)
  have bz2 := bz1.below hb2
  have h2 := h1.on hb2
  clear hB1 bz1 h1 hb2 k0 k1' k2 k3 k4
  obtain ⟨bv, hbv⟩ : ∃ bv, rightP ⟨fl, qu, q, u, dd⟩ = bv := ⟨_, rfl⟩
  rw [hbv]
  have Hbv := Lib.hid hbv
  clear hbv
  cases bv
  · go_wp2_with fail
    refine (HW.out w2).mono ?_
    rintro e w3 ⟨rfl, hb3⟩
    go_wp2_with fail
    go_ret
    exact ⟨rfl, hB2.trans (hb3.mono hB2.size)⟩
  by_cases hL : (40 : Int) < (L : Int)
  · have tL : decide ((40 : Int) < (L : Int)) = true := by simpa using hL
    go_wp2_with fail
    refine (HW.out w2).mono ?_
    rintro e w3 ⟨rfl, hb3⟩
    go_wp2_with fail
    go_ret
    exact ⟨rfl, hB2.trans (hb3.mono hB2.size)⟩
  have tL : decide ((40 : Int) < (L : Int)) = false := by simpa using hL
  have hL40 : L ≤ 40 := by omega
  go_wp2_with fail
  go_loopw [5] (fun i wr => ∃ (j : Nat) (D : DiskP) (A : Option Addr) (n c : Nat) (B : Option Addr) (m k : Nat), j ≤ L ∧ i = .int .i64 j ∧ (rightP D = true ∧ D.quota = q ∧ Run (60 + j) D) ∧
    Box5 wr z 25 (.slice A n c) (.slice B m k) (.int .i64 D.quota) (.int .i64 D.fuse) (.bool D.dead) ∧ DAt wr D A n c B m k ∧ Below w.heap.size w wr) (fun i _ => L - (intOf i).toNat)
  case atStart => exact ⟨0, _, A, n, c, B, m, k, by omega, rfl, ⟨Hbv.out, rfl, HR.out⟩, bz2, h2, hB2⟩
  case round =>
    obtain ⟨j, ⟨fl', qu', q', u', dd'⟩, A, n, c, B, m, k, hj, rfl, ⟨hr, hq, hrun⟩, bz, hd, hB⟩ := hrel
    obtain rfl : q' = q := hq
    clear bz2 h2 hB2
    have Hr := Lib.hid hr
    have Hrun := Lib.hid hrun
    have ho' := ho.on hB hB.size
    clear hr hrun
    obtain ⟨⟨k0, k1, k2, k3, k4⟩, g0, g1, g2, g3, g4⟩ := box5 bz
    by_cases hlt : j < L
    · have hj2 : (0 : Int) ≤ (j : Int) := by omega
      have hj3 : (j : Int) < (L : Int) := by omega
      have hw1 : IntKind.i64.wrap ((j : Int) + 1) = ((j + 1 : Nat) : Int) := by rw [IntKind.wrap_i64]; omega
      obtain ⟨b, off, o, rfl, hbl, hoK, o0, o1, o2, o3, hok, hk0, hk1⟩ := ho'.at_ hlt
      have Hnm := Lib.hid (Hon.out o.pure (List.mem_map_of_mem (List.mem_of_getElem? hoK)))
      by_cases hln : (1000 : Int) < (o.p.n : Int)
      · have tln : decide ((1000 : Int) < (o.p.n : Int)) = true := by simpa using hln
        go_wp2_with fail
        refine (HW.out wr).mono ?_
        rintro e w3 ⟨rfl, hb3⟩
        go_wp2_with fail
        go_ret
        exact ⟨rfl, hB.trans (hb3.mono hB.size)⟩
      have tln : decide ((1000 : Int) < (o.p.n : Int)) = false := by simpa using hln
      go_upto_region 8 with fail
      have Hcells := Lib.hid (show ∀ W, Below wr.heap.size wr W → Below wr.heap.size wr W ∧ W.cell? ⟨z, 0, none⟩ = some (.slice A n c) ∧ W.cell? ⟨z, 1, none⟩ = some (.slice B m k) ∧ W.cell? ⟨z, 2, none⟩ = some (.int .i64 q') ∧ W.cell? ⟨z, 3, none⟩ = some (.int .i64 u') ∧ W.cell? ⟨z, 4, none⟩ = some (.bool dd') ∧ W.cell? ⟨b, off + j * 4, none⟩ = some (.int .u8 o.kind) ∧ W.cell? ⟨b, off + j * 4 + 1, none⟩ = some (.string o.name) ∧ W.cell? ⟨b, off + j * 4 + 2, none⟩ = some (.string o.to) ∧ W.cell? ⟨b, off + j * 4 + 3, none⟩ = some (.slice o.p.A o.p.n o.p.c) from fun W hW => by
        obtain ⟨⟨a0, a1, a2, a3, a4⟩, _⟩ := box5 (bz.below hW)
        exact ⟨hW, a0, a1, a2, a3, a4, (cells_below hW hbl).1.trans o0, (cells_below hW hbl).1.trans o1, (cells_below hW hbl).1.trans o2, (cells_below hW hbl).1.trans o3⟩)
      have Hd := Lib.hid (show ∀ W, Below wr.heap.size wr W → DAt W ⟨fl', qu', q', u', dd'⟩ A n c B m k from fun W hW => hd.on hW)
      have Hok := Lib.hid (show ∀ W, Below wr.heap.size wr W → o.p.Ok W W.heap.size from fun W hW => hok.on hW hW.size)
      have hos : o.name.size ≤ maxLen := Hnm.out.1
      have hpn : o.p.n ≤ 1000 := by omega
      have hpn2 : o.p.n ≤ 1048576 := by omega
      have Hpl := Lib.hid (show o.pure.bytes.length = o.p.n from hok.rd.1)
      have Hbz := Lib.hid bz
      have HB := Lib.hid hB
      clear hd hok bz hB ho' k0 k1 k2 k3 k4 g0 g1 g2 g3 g4 o0 o1 o2 o3 hoK hbl
      go_cut [6, 7] (fun s6 s7 wx => ∃ x, s6 = .pointer (some ⟨x, 0, none⟩) ∧ s7 = .int .i64 (doP ⟨fl', qu', q', u', dd'⟩ o.pure).2 ∧ wr.heap.size ≤ x ∧ HoldsD wx x (doP ⟨fl', qu', q', u', dd'⟩ o.pure).1 ∧ Below wr.heap.size wr wx)
      case first =>
        go_region_held3 (fun W => Below wr.heap.size wr W ∧ W.cell? ⟨z, 0, none⟩ = some (.slice A n c) ∧ W.cell? ⟨z, 1, none⟩ = some (.slice B m k) ∧ W.cell? ⟨z, 2, none⟩ = some (.int .i64 q') ∧ W.cell? ⟨z, 3, none⟩ = some (.int .i64 u') ∧ W.cell? ⟨z, 4, none⟩ = some (.bool dd') ∧ W.cell? ⟨b, off + j * 4, none⟩ = some (.int .u8 o.kind) ∧ W.cell? ⟨b, off + j * 4 + 1, none⟩ = some (.string o.name) ∧ W.cell? ⟨b, off + j * 4 + 2, none⟩ = some (.string o.to) ∧ W.cell? ⟨b, off + j * 4 + 3, none⟩ = some (.slice o.p.A o.p.n o.p.c))
          (exact Hcells.out _ (by repeat (with_reducible first | assumption | exact below_d0 _ | refine below_al ?_ _ | refine below_dr ?_ | (refine below_st ?_ ?_ _; (first | omega | (simp; omega) | simp)))))
          (first
          | (go_at_call 10; (with_reducible refine Calls.mono (dev_doD o (Hd.out _ ?_) (Hrun.out.small (by omega)) Hrun.out.nms Hrun.out.fuse (Hok.out _ ?_) ⟨hk0, hk1⟩ hpn2 hos) ?_); (· repeat (with_reducible first | assumption | exact And.left (by assumption) | exact below_d0 _ | refine below_al ?_ _ | refine below_dr ?_)); (· repeat (with_reducible first | assumption | exact And.left (by assumption) | exact below_d0 _ | refine below_al ?_ _ | refine below_dr ?_)); rintro e w4 ⟨⟨A4, n4, c4, B4, m4, k4, rfl, d4⟩, hb4⟩; refine hv (p := Below wr.heap.size wr w4) (below_on ?_ hb4) (fun kb4 => ?_); (· repeat (with_reducible first | assumption | exact And.left (by assumption) | exact below_d0 _ | refine below_al ?_ _ | refine below_dr ?_)); (have ks4 := kb4.size); (try (refine hv (p := BoxT w4 wr.heap.size) (BoxT.below ?_ hb4) (fun bt4 => ?_); (· repeat (with_reducible first | assumption | exact hbT1 _ | exact hbT2 _ | exact hbT3 _ _ | exact hbT4 _ _ | exact hbT5 _ _ | refine BoxT.al ?_ _ | refine BoxT.dr ?_)))); (try (have hx4 := box5 bt4; obtain ⟨⟨r0, r1, r2, r3, r4⟩, s0, s1, s2, s3, s4⟩ := hx4))))
        all_goals
          go_wp2_with fail
          go_meet
          first
          | exact ⟨wr.heap.size, rfl, rfl, Nat.le_refl _, ⟨_, _, _, _, _, _, put5_box bt4 _ _ _ _ _, DAt.put5 bt4 d4⟩, put5_below kb4 (Nat.le_refl _) _ _ _ _ _⟩
          | exact ⟨w4.heap.size, rfl, rfl, kb4.size, ⟨_, _, _, _, _, _, World.alloc_heap_new w4 _, d4.on (below_al (Below.refl _ _) _)⟩, below_al kb4 _⟩
      case rest =>
        obtain ⟨x, rfl, rfl, hx, ⟨A4, n4, c4, B4, m4, k4, bx5, dx5⟩, b5⟩ := hcut
        obtain ⟨w5, rfl⟩ : ∃ w5, w5 = wc := ⟨_, rfl⟩
        have hxz : z ≠ x := by have := Hbz.out.lt; omega
        have hqx := do_quota (⟨fl', qu', q', u', dd'⟩ : DiskP) o.pure
        have hrx := do_right (o := o.pure) Hr.out
        have hrunx := Hrun.out.do_ (by rw [Hpl.out]; exact hpn) Hnm.out
        have hsame := fun h => do_same (d := (⟨fl', qu', q', u', dd'⟩ : DiskP)) (o := o.pure) h
        obtain ⟨er, her⟩ : ∃ er, (doP (⟨fl', qu', q', u', dd'⟩ : DiskP) o.pure).2 = er := ⟨_, rfl⟩
        obtain ⟨D2, hD2⟩ : ∃ D2, (doP ⟨fl', qu', q', u', dd'⟩ o.pure).1 = D2 := ⟨_, rfl⟩
        rw [her] at hsame ⊢
        rw [hD2] at bx5 dx5 hqx hrx hrunx hsame
        clear her hD2
        obtain ⟨fl2, qu2, q2, ux, dd2⟩ := D2
        obtain rfl : q' = q2 := hqx.symm
        simp only at bx5
        have Hdx := Lib.hid (show ∀ W, Below w5.heap.size w5 W → DAt W ⟨fl2, qu2, q', ux, dd2⟩ A4 n4 c4 B4 m4 k4 from fun W hW => dx5.on hW)
        have dz5 := Hd.out w5 b5
        have Hdz := Lib.hid (show ∀ W, Below w5.heap.size w5 W → DAt W ⟨fl', qu', q', u', dd'⟩ A n c B m k from fun W hW => dz5.on hW)
        have bz5 := Hbz.out.below b5
        have Hcells2 := Lib.hid (show ∀ W, Below w5.heap.size w5 W → Below w5.heap.size w5 W ∧ W.cell? ⟨x, 0, none⟩ = some (.slice A4 n4 c4) ∧ W.cell? ⟨x, 1, none⟩ = some (.slice B4 m4 k4) ∧ W.cell? ⟨x, 2, none⟩ = some (.int .i64 q') ∧ W.cell? ⟨x, 3, none⟩ = some (.int .i64 ux) ∧ W.cell? ⟨x, 4, none⟩ = some (.bool dd2) ∧ W.cell? ⟨z, 0, none⟩ = some (.slice A n c) ∧ W.cell? ⟨z, 1, none⟩ = some (.slice B m k) ∧ W.cell? ⟨z, 2, none⟩ = some (.int .i64 q') ∧ W.cell? ⟨z, 3, none⟩ = some (.int .i64 u') ∧ W.cell? ⟨z, 4, none⟩ = some (.bool dd') from fun W hW => by
          obtain ⟨⟨a0, a1, a2, a3, a4⟩, _⟩ := box5 (bx5.below hW)
          obtain ⟨⟨e0, e1, e2, e3, e4⟩, _⟩ := box5 (bz5.below hW)
          exact ⟨hW, a0, a1, a2, a3, a4, e0, e1, e2, e3, e4⟩)
        have Hrx := Lib.hid hrx
        have Hrunx := Lib.hid hrunx
        have Hsx := Lib.hid (hrunx.small (by omega))
        have Hnx := Lib.hid hrunx.nms
        have hn1 : n4 ≤ 100000 := by have := dx5.len.1; have := hrunx.files; simp only at *; omega
        have hm1 : m4 ≤ 100000 := by have := dx5.len.2; have := hrunx.queue; simp only at *; omega
        have hn2 : n ≤ 100000 := by have := dz5.len.1; have := Hrun.out.files; simp only at *; omega
        have hm2 : m ≤ 100000 := by have := dz5.len.2; have := Hrun.out.queue; simp only at *; omega
        obtain ⟨U, hU⟩ : ∃ U, usedP ⟨fl2, qu2, q', ux, dd2⟩ = U := ⟨_, rfl⟩
        have tU : decide (q' < (U : Int)) = false := by have h1 := right_used hrx; rw [hU] at h1; simp only at h1; simp; omega
        have HU := Lib.hid hU
        have Hbx := Lib.hid bx5
        have Hbz5 := Lib.hid bz5
        have HB5 := Lib.hid (HB.out.trans (b5.mono HB.out.size))
        have Hsame := Lib.hid hsame
        clear hsame hrx hrunx dx5 dz5 bx5 bz5 b5 hU hx Hcells Hd Hok Hbz HB
        go_upto_region 9 with fail
        go_cut [70] (fun s wx => s = .bool false ∧ Below w5.heap.size w5 wx)
        case first =>
          by_cases h0 : er = 0
          · subst h0
            refine wp_region_held_drew (S := (fun W => Below w5.heap.size w5 W ∧ W.cell? ⟨x, 0, none⟩ = some (.slice A4 n4 c4) ∧ W.cell? ⟨x, 1, none⟩ = some (.slice B4 m4 k4) ∧ W.cell? ⟨x, 2, none⟩ = some (.int .i64 q') ∧ W.cell? ⟨x, 3, none⟩ = some (.int .i64 ux) ∧ W.cell? ⟨x, 4, none⟩ = some (.bool dd2) ∧ W.cell? ⟨z, 0, none⟩ = some (.slice A n c) ∧ W.cell? ⟨z, 1, none⟩ = some (.slice B m k) ∧ W.cell? ⟨z, 2, none⟩ = some (.int .i64 q') ∧ W.cell? ⟨z, 3, none⟩ = some (.int .i64 u') ∧ W.cell? ⟨z, 4, none⟩ = some (.bool dd'))) (by kernel_rfl) (Hcells2.out _ (below_dr (below_d0 _))) (fun hHeld => ?_)
            refine take_at (i := 0) (d := 44) (oi := ?o1) (v := ?v1) ?hi1 ?hd1 (by kernel_rfl) (by kernel_rfl) (by kernel_rfl) ?hw1 ?hy1 ?hq1 (by assumption) ?r1
            case hi1 => (simp only [List.getElem?_toArray, List.getElem?_cons_zero]; rfl)
            case hd1 => rfl
            case hw1 => rfl
            case hy1 => ((intro w hSw; (try dsimp only at hSw); go_simp) <;> (with_reducible rfl))
            case hq1 => exact fun _ _ _ h => h
            simp only [List.set_cons_succ, List.set_cons_zero]
            refine call_at (i := 1) (d := 45) (oi := ?o2) (f := ?f2) (args := ?a2) ?hi2 ?hd2 (by kernel_rfl) ?hw2 ?he2 ?hc2
            case hi2 => (simp only [List.getElem?_toArray, List.getElem?_cons_succ, List.getElem?_cons_zero]; rfl)
            case hd2 => rfl
            case hw2 => rfl
            case he2 => (go_simp; constructor <;> with_reducible rfl)
            refine Calls.mono (right_any (d := ⟨fl2, qu2, q', ux, dd2⟩) (Hdx.out _ (And.left hHeld)) Hsx.out) ?_
            rintro e w6 ⟨rfl, hb6⟩
            have kb6 := below_on (And.left hHeld) hb6
            clear hHeld hb6
            rw [Hrx.out]
            refine ⟨_, rfl, Hcells2.out _ kb6, fun hHeld => ?_⟩
            simp only [List.set_cons_succ, List.set_cons_zero]
            refine take_at (i := 2) (d := 46) (oi := ?o3) (v := ?v3) ?hi3 ?hd3 (by kernel_rfl) (by kernel_rfl) (by kernel_rfl) ?hw3 ?hy3 ?hq3 (by assumption) ?r3
            case hi3 => (simp only [List.getElem?_toArray, List.getElem?_cons_succ, List.getElem?_cons_zero]; rfl)
            case hd3 => rfl
            case hw3 => rfl
            case hy3 => ((intro w hSw; (try dsimp only at hSw); go_simp) <;> (with_reducible rfl))
            case hq3 => exact fun _ _ _ h => h
            simp only [List.set_cons_succ, List.set_cons_zero]
            refine take_at (i := 3) (d := 47) (oi := ?o4) (v := ?v4) ?hi4 ?hd4 (by kernel_rfl) (by kernel_rfl) (by kernel_rfl) ?hw4 ?hy4 ?hq4 (by assumption) ?r4
            case hi4 => (simp only [List.getElem?_toArray, List.getElem?_cons_succ, List.getElem?_cons_zero]; rfl)
            case hd4 => rfl
            case hw4 => rfl
            case hy4 => ((intro w hSw; (try dsimp only at hSw); go_simp) <;> (with_reducible rfl))
            case hq4 => exact fun _ _ _ h => h
            simp only [List.set_cons_succ, List.set_cons_zero]
            refine take_at (i := 4) (d := 48) (oi := ?o5) (v := ?v5) ?hi5 ?hd5 (by kernel_rfl) (by kernel_rfl) (by kernel_rfl) ?hw5 ?hy5 ?hq5 (by assumption) ?r5
            case hi5 => (simp only [List.getElem?_toArray, List.getElem?_cons_succ, List.getElem?_cons_zero]; rfl)
            case hd5 => rfl
            case hw5 => rfl
            case hy5 => ((intro w hSw; (try dsimp only at hSw); go_simp) <;> (with_reducible rfl))
            case hq5 => exact fun _ _ _ h => h
            simp only [List.set_cons_succ, List.set_cons_zero]
            refine take_at (i := 6) (d := 50) (oi := ?o6) (v := ?v6) ?hi6 ?hd6 (by kernel_rfl) (by kernel_rfl) (by kernel_rfl) ?hw6 ?hy6 ?hq6 (by assumption) ?r6
            case hi6 => (simp only [List.getElem?_toArray, List.getElem?_cons_succ, List.getElem?_cons_zero]; rfl)
            case hd6 => rfl
            case hw6 => rfl
            case hy6 => ((intro w hSw; (try dsimp only at hSw); go_simp) <;> (with_reducible rfl))
            case hq6 => exact fun _ _ _ h => h
            simp only [List.set_cons_succ, List.set_cons_zero]
            refine take_at (i := 7) (d := 51) (oi := ?o7) (v := ?v7) ?hi7 ?hd7 (by kernel_rfl) (by kernel_rfl) (by kernel_rfl) ?hw7 ?hy7 ?hq7 (by assumption) ?r7
            case hi7 => (simp only [List.getElem?_toArray, List.getElem?_cons_succ, List.getElem?_cons_zero]; rfl)
            case hd7 => rfl
            case hw7 => rfl
            case hy7 => ((intro w hSw; (try dsimp only at hSw); go_simp) <;> (with_reducible rfl))
            case hq7 => exact fun _ _ _ h => h
            simp only [List.set_cons_succ, List.set_cons_zero]
            refine call_at (i := 5) (d := 49) (oi := ?o8) (f := ?f8) (args := ?a8) ?hi8 ?hd8 (by kernel_rfl) ?hw8 ?he8 ?hc8
            case hi8 => (simp only [List.getElem?_toArray, List.getElem?_cons_succ, List.getElem?_cons_zero]; rfl)
            case hd8 => rfl
            case hw8 => rfl
            case he8 => (go_simp; constructor <;> with_reducible rfl)
            refine Calls.mono (dev_usedD (d := ⟨fl2, qu2, q', ux, dd2⟩) (Hdx.out _ kb6) Hsx.out Hnx.out) ?_
            rintro e w7 ⟨rfl, hb7⟩
            have kb7 := below_on kb6 hb7
            clear hHeld hb7
            rw [HU.out]
            refine ⟨_, rfl, Hcells2.out _ kb7, fun hHeld => ?_⟩
            simp only [List.set_cons_succ, List.set_cons_zero]
            refine take_at (i := 8) (d := 52) (oi := ?o9) (v := ?v9) ?hi9 ?hd9 (by kernel_rfl) (by kernel_rfl) (by kernel_rfl) ?hw9 ?hy9 ?hq9 (by assumption) ?r9
            case hi9 => (simp only [List.getElem?_toArray, List.getElem?_cons_succ, List.getElem?_cons_zero]; rfl)
            case hd9 => rfl
            case hw9 => rfl
            case hy9 => ((intro w hSw; (try dsimp only at hSw); go_simp) <;> (with_reducible rfl))
            case hq9 => exact fun _ _ _ h => h
            simp only [List.set_cons_succ, List.set_cons_zero]
            refine take_at (i := 9) (d := 53) (oi := ?o10) (v := ?v10) ?hi10 ?hd10 (by kernel_rfl) (by kernel_rfl) (by kernel_rfl) ?hw10 ?hy10 ?hq10 (by assumption) ?r10
            case hi10 => (simp only [List.getElem?_toArray, List.getElem?_cons_succ, List.getElem?_cons_zero]; rfl)
            case hd10 => rfl
            case hw10 => rfl
            case hy10 => ((intro w hSw; (try dsimp only at hSw); go_simp) <;> (with_reducible rfl))
            case hq10 => exact fun _ _ _ h => h
            simp only [List.set_cons_succ, List.set_cons_zero]
            refine take_at (i := 10) (d := 54) (oi := ?o11) (v := ?v11) ?hi11 ?hd11 (by kernel_rfl) (by kernel_rfl) (by kernel_rfl) ?hw11 ?hy11 ?hq11 (by assumption) ?r11
            case hi11 => (simp only [List.getElem?_toArray, List.getElem?_cons_succ, List.getElem?_cons_zero]; rfl)
            case hd11 => rfl
            case hw11 => rfl
            case hy11 => ((intro w hSw; (try dsimp only at hSw); go_simp) <;> (with_reducible rfl))
            case hq11 => exact fun _ _ _ h => h
            simp only [List.set_cons_succ, List.set_cons_zero]
            refine take_at (i := 11) (d := 55) (oi := ?o12) (v := ?v12) ?hi12 ?hd12 (by kernel_rfl) (by kernel_rfl) (by kernel_rfl) ?hw12 ?hy12 ?hq12 (by assumption) ?r12
            case hi12 => (simp only [List.getElem?_toArray, List.getElem?_cons_succ, List.getElem?_cons_zero]; rfl)
            case hd12 => rfl
            case hw12 => rfl
            case hy12 => ((intro w hSw; (try dsimp only at hSw); go_simp) <;> (with_reducible rfl))
            case hq12 => exact fun _ _ _ h => h
            simp only [List.set_cons_succ, List.set_cons_zero]
            refine take_at (i := 12) (d := 56) (oi := ?o13) (v := ?v13) ?hi13 ?hd13 (by kernel_rfl) (by kernel_rfl) (by kernel_rfl) ?hw13 ?hy13 ?hq13 (by assumption) ?r13
            case hi13 => (simp only [List.getElem?_toArray, List.getElem?_cons_succ, List.getElem?_cons_zero]; rfl)
            case hd13 => rfl
            case hw13 => rfl
            case hy13 => ((intro w hSw; (try dsimp only at hSw); go_simp) <;> (with_reducible rfl))
            case hq13 => exact fun _ _ _ h => h
            simp only [List.set_cons_succ, List.set_cons_zero]
            refine take_at (i := 13) (d := 57) (oi := ?o14) (v := ?v14) ?hi14 ?hd14 (by kernel_rfl) (by kernel_rfl) (by kernel_rfl) ?hw14 ?hy14 ?hq14 (by assumption) ?r14
            case hi14 => (simp only [List.getElem?_toArray, List.getElem?_cons_succ, List.getElem?_cons_zero]; rfl)
            case hd14 => rfl
            case hw14 => rfl
            case hy14 => ((intro w hSw; (try dsimp only at hSw); go_simp) <;> (with_reducible rfl))
            case hq14 => exact fun _ _ _ h => h
            simp only [List.set_cons_succ, List.set_cons_zero]
            refine take_at (i := 14) (d := 58) (oi := ?o15) (v := ?v15) ?hi15 ?hd15 (by kernel_rfl) (by kernel_rfl) (by kernel_rfl) ?hw15 ?hy15 ?hq15 (by assumption) ?r15
            case hi15 => (simp only [List.getElem?_toArray, List.getElem?_cons_succ, List.getElem?_cons_zero]; rfl)
            case hd15 => rfl
            case hw15 => rfl
            case hy15 => ((intro w hSw; (try dsimp only at hSw); go_simp) <;> (with_reducible rfl))
            case hq15 => exact fun _ _ _ h => h
            simp only [List.set_cons_succ, List.set_cons_zero]
            refine take_at (i := 15) (d := 59) (oi := ?o16) (v := ?v16) ?hi16 ?hd16 (by kernel_rfl) (by kernel_rfl) (by kernel_rfl) ?hw16 ?hy16 ?hq16 (by assumption) ?r16
            case hi16 => (simp only [List.getElem?_toArray, List.getElem?_cons_succ, List.getElem?_cons_zero]; rfl)
            case hd16 => rfl
            case hw16 => rfl
            case hy16 => ((intro w hSw; (try dsimp only at hSw); go_simp) <;> (with_reducible rfl))
            case hq16 => exact fun _ _ _ h => h
            simp only [List.set_cons_succ, List.set_cons_zero]
            refine take_at (i := 16) (d := 60) (oi := ?o17) (v := ?v17) ?hi17 ?hd17 (by kernel_rfl) (by kernel_rfl) (by kernel_rfl) ?hw17 ?hy17 ?hq17 (by assumption) ?r17
            case hi17 => (simp only [List.getElem?_toArray, List.getElem?_cons_succ, List.getElem?_cons_zero]; rfl)
            case hd17 => rfl
            case hw17 => rfl
            case hy17 => ((intro w hSw; (try dsimp only at hSw); go_simp) <;> (with_reducible rfl))
            case hq17 => exact fun _ _ _ h => h
            simp only [List.set_cons_succ, List.set_cons_zero]
            refine take_at (i := 17) (d := 61) (oi := ?o18) (v := ?v18) ?hi18 ?hd18 (by kernel_rfl) (by kernel_rfl) (by kernel_rfl) ?hw18 ?hy18 ?hq18 (by assumption) ?r18
            case hi18 => (simp only [List.getElem?_toArray, List.getElem?_cons_succ, List.getElem?_cons_zero]; rfl)
            case hd18 => rfl
            case hw18 => rfl
            case hy18 => ((intro w hSw; (try dsimp only at hSw); go_simp) <;> (with_reducible rfl))
            case hq18 => exact fun _ _ _ h => h
            simp only [List.set_cons_succ, List.set_cons_zero]
            refine take_at (i := 18) (d := 62) (oi := ?o19) (v := ?v19) ?hi19 ?hd19 (by kernel_rfl) (by kernel_rfl) (by kernel_rfl) ?hw19 ?hy19 ?hq19 (by assumption) ?r19
            case hi19 => (simp only [List.getElem?_toArray, List.getElem?_cons_succ, List.getElem?_cons_zero]; rfl)
            case hd19 => rfl
            case hw19 => rfl
            case hy19 => ((intro w hSw; (try dsimp only at hSw); go_simp) <;> (with_reducible rfl))
            case hq19 => exact fun _ _ _ h => h
            simp only [List.set_cons_succ, List.set_cons_zero]
            refine take_at (i := 19) (d := 63) (oi := ?o20) (v := ?v20) ?hi20 ?hd20 (by kernel_rfl) (by kernel_rfl) (by kernel_rfl) ?hw20 ?hy20 ?hq20 (by assumption) ?r20
            case hi20 => (simp only [List.getElem?_toArray, List.getElem?_cons_succ, List.getElem?_cons_zero]; rfl)
            case hd20 => rfl
            case hw20 => rfl
            case hy20 => ((intro w hSw; (try dsimp only at hSw); go_simp) <;> (with_reducible rfl))
            case hq20 => exact fun _ _ _ h => h
            simp only [List.set_cons_succ, List.set_cons_zero]
            refine take_at (i := 20) (d := 64) (oi := ?o21) (v := ?v21) ?hi21 ?hd21 (by kernel_rfl) (by kernel_rfl) (by kernel_rfl) ?hw21 ?hy21 ?hq21 (by assumption) ?r21
            case hi21 => (simp only [List.getElem?_toArray, List.getElem?_cons_succ, List.getElem?_cons_zero]; rfl)
            case hd21 => rfl
            case hw21 => rfl
            case hy21 => ((intro w hSw; (try dsimp only at hSw); go_simp) <;> (with_reducible rfl))
            case hq21 => exact fun _ _ _ h => h
            simp only [List.set_cons_succ, List.set_cons_zero]
            refine skip_at (i := 21) (d := 65) (oi := ?o22) ?hi22 ?hd22 (by kernel_rfl) (by kernel_rfl) (by kernel_rfl) ?hw22 ?hq22 (by assumption) ?r22
            case hi22 => (simp only [List.getElem?_toArray, List.getElem?_cons_succ, List.getElem?_cons_zero]; rfl)
            case hd22 => rfl
            case hw22 => rfl
            case hq22 => exact fun _ _ _ h => h
            simp only [List.set_cons_succ, List.set_cons_zero]
            refine skip_at (i := 22) (d := 66) (oi := ?o23) ?hi23 ?hd23 (by kernel_rfl) (by kernel_rfl) (by kernel_rfl) ?hw23 ?hq23 (by assumption) ?r23
            case hi23 => (simp only [List.getElem?_toArray, List.getElem?_cons_succ, List.getElem?_cons_zero]; rfl)
            case hd23 => rfl
            case hw23 => rfl
            case hq23 => exact fun _ _ _ h => h
            simp only [List.set_cons_succ, List.set_cons_zero]
            refine skip_at (i := 23) (d := 67) (oi := ?o24) ?hi24 ?hd24 (by kernel_rfl) (by kernel_rfl) (by kernel_rfl) ?hw24 ?hq24 (by assumption) ?r24
            case hi24 => (simp only [List.getElem?_toArray, List.getElem?_cons_succ, List.getElem?_cons_zero]; rfl)
            case hd24 => rfl
            case hw24 => rfl
            case hq24 => exact fun _ _ _ h => h
            simp only [List.set_cons_succ, List.set_cons_zero]
            refine skip_at (i := 24) (d := 68) (oi := ?o25) ?hi25 ?hd25 (by kernel_rfl) (by kernel_rfl) (by kernel_rfl) ?hw25 ?hq25 (by assumption) ?r25
            case hi25 => (simp only [List.getElem?_toArray, List.getElem?_cons_succ, List.getElem?_cons_zero]; rfl)
            case hd25 => rfl
            case hw25 => rfl
            case hq25 => exact fun _ _ _ h => h
            simp only [List.set_cons_succ, List.set_cons_zero]
            refine take_at (i := 25) (d := 69) (oi := ?o26) (v := ?v26) ?hi26 ?hd26 (by kernel_rfl) (by kernel_rfl) (by kernel_rfl) ?hw26 ?hy26 ?hq26 (by assumption) ?r26
            case hi26 => (simp only [List.getElem?_toArray, List.getElem?_cons_succ, List.getElem?_cons_zero]; rfl)
            case hd26 => rfl
            case hw26 => rfl
            case hy26 => ((intro w hSw; (try dsimp only at hSw); go_simp) <;> (with_reducible rfl))
            case hq26 => exact fun _ _ _ h => h
            simp only [List.set_cons_succ, List.set_cons_zero]
            refine take_at (i := 26) (d := 70) (oi := ?o27) (v := ?v27) ?hi27 ?hd27 (by kernel_rfl) (by kernel_rfl) (by kernel_rfl) ?hw27 ?hy27 ?hq27 (by assumption) ?r27
            case hi27 => (simp only [List.getElem?_toArray, List.getElem?_cons_succ, List.getElem?_cons_zero]; rfl)
            case hd27 => rfl
            case hw27 => rfl
            case hy27 => ((intro w hSw; (try dsimp only at hSw); go_simp) <;> (with_reducible rfl))
            case hq27 => exact fun _ _ _ h => h
            simp only [List.set_cons_succ, List.set_cons_zero]
            refine wpAnyH_done (by kernel_rfl) ?_ _
            go_wp2_with fail
            go_meet
            exact ⟨rfl, kb7⟩
          · have t0 : (er != 0) = true := by simpa using h0
            have Hsm := Lib.hid (Hsame.out h0)
            clear h0
            refine wp_region_held_drew (S := (fun W => Below w5.heap.size w5 W ∧ W.cell? ⟨x, 0, none⟩ = some (.slice A4 n4 c4) ∧ W.cell? ⟨x, 1, none⟩ = some (.slice B4 m4 k4) ∧ W.cell? ⟨x, 2, none⟩ = some (.int .i64 q') ∧ W.cell? ⟨x, 3, none⟩ = some (.int .i64 ux) ∧ W.cell? ⟨x, 4, none⟩ = some (.bool dd2) ∧ W.cell? ⟨z, 0, none⟩ = some (.slice A n c) ∧ W.cell? ⟨z, 1, none⟩ = some (.slice B m k) ∧ W.cell? ⟨z, 2, none⟩ = some (.int .i64 q') ∧ W.cell? ⟨z, 3, none⟩ = some (.int .i64 u') ∧ W.cell? ⟨z, 4, none⟩ = some (.bool dd'))) (by kernel_rfl) (Hcells2.out _ (below_dr (below_d0 _))) (fun hHeld => ?_)
            refine take_at (i := 0) (d := 44) (oi := ?o28) (v := ?v28) ?hi28 ?hd28 (by kernel_rfl) (by kernel_rfl) (by kernel_rfl) ?hw28 ?hy28 ?hq28 (by assumption) ?r28
            case hi28 => (simp only [List.getElem?_toArray, List.getElem?_cons_zero]; rfl)
            case hd28 => rfl
            case hw28 => rfl
            case hy28 => ((intro w hSw; (try dsimp only at hSw); go_simp) <;> (with_reducible rfl))
            case hq28 => exact fun _ _ _ h => h
            simp only [List.set_cons_succ, List.set_cons_zero]
            refine call_at (i := 1) (d := 45) (oi := ?o29) (f := ?f29) (args := ?a29) ?hi29 ?hd29 (by kernel_rfl) ?hw29 ?he29 ?hc29
            case hi29 => (simp only [List.getElem?_toArray, List.getElem?_cons_succ, List.getElem?_cons_zero]; rfl)
            case hd29 => rfl
            case hw29 => rfl
            case he29 => (go_simp; constructor <;> with_reducible rfl)
            refine Calls.mono (right_any (d := ⟨fl2, qu2, q', ux, dd2⟩) (Hdx.out _ (And.left hHeld)) Hsx.out) ?_
            rintro e w6 ⟨rfl, hb6⟩
            have kb6 := below_on (And.left hHeld) hb6
            clear hHeld hb6
            rw [Hrx.out]
            refine ⟨_, rfl, Hcells2.out _ kb6, fun hHeld => ?_⟩
            simp only [List.set_cons_succ, List.set_cons_zero]
            refine take_at (i := 2) (d := 46) (oi := ?o30) (v := ?v30) ?hi30 ?hd30 (by kernel_rfl) (by kernel_rfl) (by kernel_rfl) ?hw30 ?hy30 ?hq30 (by assumption) ?r30
            case hi30 => (simp only [List.getElem?_toArray, List.getElem?_cons_succ, List.getElem?_cons_zero]; rfl)
            case hd30 => rfl
            case hw30 => rfl
            case hy30 => ((intro w hSw; (try dsimp only at hSw); go_simp) <;> (with_reducible rfl))
            case hq30 => exact fun _ _ _ h => h
            simp only [List.set_cons_succ, List.set_cons_zero]
            refine take_at (i := 3) (d := 47) (oi := ?o31) (v := ?v31) ?hi31 ?hd31 (by kernel_rfl) (by kernel_rfl) (by kernel_rfl) ?hw31 ?hy31 ?hq31 (by assumption) ?r31
            case hi31 => (simp only [List.getElem?_toArray, List.getElem?_cons_succ, List.getElem?_cons_zero]; rfl)
            case hd31 => rfl
            case hw31 => rfl
            case hy31 => ((intro w hSw; (try dsimp only at hSw); go_simp) <;> (with_reducible rfl))
            case hq31 => exact fun _ _ _ h => h
            simp only [List.set_cons_succ, List.set_cons_zero]
            refine take_at (i := 4) (d := 48) (oi := ?o32) (v := ?v32) ?hi32 ?hd32 (by kernel_rfl) (by kernel_rfl) (by kernel_rfl) ?hw32 ?hy32 ?hq32 (by assumption) ?r32
            case hi32 => (simp only [List.getElem?_toArray, List.getElem?_cons_succ, List.getElem?_cons_zero]; rfl)
            case hd32 => rfl
            case hw32 => rfl
            case hy32 => ((intro w hSw; (try dsimp only at hSw); go_simp) <;> (with_reducible rfl))
            case hq32 => exact fun _ _ _ h => h
            simp only [List.set_cons_succ, List.set_cons_zero]
            refine take_at (i := 6) (d := 50) (oi := ?o33) (v := ?v33) ?hi33 ?hd33 (by kernel_rfl) (by kernel_rfl) (by kernel_rfl) ?hw33 ?hy33 ?hq33 (by assumption) ?r33
            case hi33 => (simp only [List.getElem?_toArray, List.getElem?_cons_succ, List.getElem?_cons_zero]; rfl)
            case hd33 => rfl
            case hw33 => rfl
            case hy33 => ((intro w hSw; (try dsimp only at hSw); go_simp) <;> (with_reducible rfl))
            case hq33 => exact fun _ _ _ h => h
            simp only [List.set_cons_succ, List.set_cons_zero]
            refine take_at (i := 7) (d := 51) (oi := ?o34) (v := ?v34) ?hi34 ?hd34 (by kernel_rfl) (by kernel_rfl) (by kernel_rfl) ?hw34 ?hy34 ?hq34 (by assumption) ?r34
            case hi34 => (simp only [List.getElem?_toArray, List.getElem?_cons_succ, List.getElem?_cons_zero]; rfl)
            case hd34 => rfl
            case hw34 => rfl
            case hy34 => ((intro w hSw; (try dsimp only at hSw); go_simp) <;> (with_reducible rfl))
            case hq34 => exact fun _ _ _ h => h
            simp only [List.set_cons_succ, List.set_cons_zero]
            refine call_at (i := 5) (d := 49) (oi := ?o35) (f := ?f35) (args := ?a35) ?hi35 ?hd35 (by kernel_rfl) ?hw35 ?he35 ?hc35
            case hi35 => (simp only [List.getElem?_toArray, List.getElem?_cons_succ, List.getElem?_cons_zero]; rfl)
            case hd35 => rfl
            case hw35 => rfl
            case he35 => (go_simp; constructor <;> with_reducible rfl)
            refine Calls.mono (dev_usedD (d := ⟨fl2, qu2, q', ux, dd2⟩) (Hdx.out _ kb6) Hsx.out Hnx.out) ?_
            rintro e w7 ⟨rfl, hb7⟩
            have kb7 := below_on kb6 hb7
            clear hHeld hb7
            rw [HU.out]
            refine ⟨_, rfl, Hcells2.out _ kb7, fun hHeld => ?_⟩
            simp only [List.set_cons_succ, List.set_cons_zero]
            refine take_at (i := 8) (d := 52) (oi := ?o36) (v := ?v36) ?hi36 ?hd36 (by kernel_rfl) (by kernel_rfl) (by kernel_rfl) ?hw36 ?hy36 ?hq36 (by assumption) ?r36
            case hi36 => (simp only [List.getElem?_toArray, List.getElem?_cons_succ, List.getElem?_cons_zero]; rfl)
            case hd36 => rfl
            case hw36 => rfl
            case hy36 => ((intro w hSw; (try dsimp only at hSw); go_simp) <;> (with_reducible rfl))
            case hq36 => exact fun _ _ _ h => h
            simp only [List.set_cons_succ, List.set_cons_zero]
            refine take_at (i := 9) (d := 53) (oi := ?o37) (v := ?v37) ?hi37 ?hd37 (by kernel_rfl) (by kernel_rfl) (by kernel_rfl) ?hw37 ?hy37 ?hq37 (by assumption) ?r37
            case hi37 => (simp only [List.getElem?_toArray, List.getElem?_cons_succ, List.getElem?_cons_zero]; rfl)
            case hd37 => rfl
            case hw37 => rfl
            case hy37 => ((intro w hSw; (try dsimp only at hSw); go_simp) <;> (with_reducible rfl))
            case hq37 => exact fun _ _ _ h => h
            simp only [List.set_cons_succ, List.set_cons_zero]
            refine take_at (i := 10) (d := 54) (oi := ?o38) (v := ?v38) ?hi38 ?hd38 (by kernel_rfl) (by kernel_rfl) (by kernel_rfl) ?hw38 ?hy38 ?hq38 (by assumption) ?r38
            case hi38 => (simp only [List.getElem?_toArray, List.getElem?_cons_succ, List.getElem?_cons_zero]; rfl)
            case hd38 => rfl
            case hw38 => rfl
            case hy38 => ((intro w hSw; (try dsimp only at hSw); go_simp) <;> (with_reducible rfl))
            case hq38 => exact fun _ _ _ h => h
            simp only [List.set_cons_succ, List.set_cons_zero]
            refine take_at (i := 11) (d := 55) (oi := ?o39) (v := ?v39) ?hi39 ?hd39 (by kernel_rfl) (by kernel_rfl) (by kernel_rfl) ?hw39 ?hy39 ?hq39 (by assumption) ?r39
            case hi39 => (simp only [List.getElem?_toArray, List.getElem?_cons_succ, List.getElem?_cons_zero]; rfl)
            case hd39 => rfl
            case hw39 => rfl
            case hy39 => ((intro w hSw; (try dsimp only at hSw); go_simp) <;> (with_reducible rfl))
            case hq39 => exact fun _ _ _ h => h
            simp only [List.set_cons_succ, List.set_cons_zero]
            refine take_at (i := 12) (d := 56) (oi := ?o40) (v := ?v40) ?hi40 ?hd40 (by kernel_rfl) (by kernel_rfl) (by kernel_rfl) ?hw40 ?hy40 ?hq40 (by assumption) ?r40
            case hi40 => (simp only [List.getElem?_toArray, List.getElem?_cons_succ, List.getElem?_cons_zero]; rfl)
            case hd40 => rfl
            case hw40 => rfl
            case hy40 => ((intro w hSw; (try dsimp only at hSw); go_simp) <;> (with_reducible rfl))
            case hq40 => exact fun _ _ _ h => h
            simp only [List.set_cons_succ, List.set_cons_zero]
            refine take_at (i := 13) (d := 57) (oi := ?o41) (v := ?v41) ?hi41 ?hd41 (by kernel_rfl) (by kernel_rfl) (by kernel_rfl) ?hw41 ?hy41 ?hq41 (by assumption) ?r41
            case hi41 => (simp only [List.getElem?_toArray, List.getElem?_cons_succ, List.getElem?_cons_zero]; rfl)
            case hd41 => rfl
            case hw41 => rfl
            case hy41 => ((intro w hSw; (try dsimp only at hSw); go_simp) <;> (with_reducible rfl))
            case hq41 => exact fun _ _ _ h => h
            simp only [List.set_cons_succ, List.set_cons_zero]
            refine take_at (i := 14) (d := 58) (oi := ?o42) (v := ?v42) ?hi42 ?hd42 (by kernel_rfl) (by kernel_rfl) (by kernel_rfl) ?hw42 ?hy42 ?hq42 (by assumption) ?r42
            case hi42 => (simp only [List.getElem?_toArray, List.getElem?_cons_succ, List.getElem?_cons_zero]; rfl)
            case hd42 => rfl
            case hw42 => rfl
            case hy42 => ((intro w hSw; (try dsimp only at hSw); go_simp) <;> (with_reducible rfl))
            case hq42 => exact fun _ _ _ h => h
            simp only [List.set_cons_succ, List.set_cons_zero]
            refine take_at (i := 15) (d := 59) (oi := ?o43) (v := ?v43) ?hi43 ?hd43 (by kernel_rfl) (by kernel_rfl) (by kernel_rfl) ?hw43 ?hy43 ?hq43 (by assumption) ?r43
            case hi43 => (simp only [List.getElem?_toArray, List.getElem?_cons_succ, List.getElem?_cons_zero]; rfl)
            case hd43 => rfl
            case hw43 => rfl
            case hy43 => ((intro w hSw; (try dsimp only at hSw); go_simp) <;> (with_reducible rfl))
            case hq43 => exact fun _ _ _ h => h
            simp only [List.set_cons_succ, List.set_cons_zero]
            refine take_at (i := 16) (d := 60) (oi := ?o44) (v := ?v44) ?hi44 ?hd44 (by kernel_rfl) (by kernel_rfl) (by kernel_rfl) ?hw44 ?hy44 ?hq44 (by assumption) ?r44
            case hi44 => (simp only [List.getElem?_toArray, List.getElem?_cons_succ, List.getElem?_cons_zero]; rfl)
            case hd44 => rfl
            case hw44 => rfl
            case hy44 => ((intro w hSw; (try dsimp only at hSw); go_simp) <;> (with_reducible rfl))
            case hq44 => exact fun _ _ _ h => h
            simp only [List.set_cons_succ, List.set_cons_zero]
            refine take_at (i := 17) (d := 61) (oi := ?o45) (v := ?v45) ?hi45 ?hd45 (by kernel_rfl) (by kernel_rfl) (by kernel_rfl) ?hw45 ?hy45 ?hq45 (by assumption) ?r45
            case hi45 => (simp only [List.getElem?_toArray, List.getElem?_cons_succ, List.getElem?_cons_zero]; rfl)
            case hd45 => rfl
            case hw45 => rfl
            case hy45 => ((intro w hSw; (try dsimp only at hSw); go_simp) <;> (with_reducible rfl))
            case hq45 => exact fun _ _ _ h => h
            simp only [List.set_cons_succ, List.set_cons_zero]
            refine take_at (i := 18) (d := 62) (oi := ?o46) (v := ?v46) ?hi46 ?hd46 (by kernel_rfl) (by kernel_rfl) (by kernel_rfl) ?hw46 ?hy46 ?hq46 (by assumption) ?r46
            case hi46 => (simp only [List.getElem?_toArray, List.getElem?_cons_succ, List.getElem?_cons_zero]; rfl)
            case hd46 => rfl
            case hw46 => rfl
            case hy46 => ((intro w hSw; (try dsimp only at hSw); go_simp) <;> (with_reducible rfl))
            case hq46 => exact fun _ _ _ h => h
            simp only [List.set_cons_succ, List.set_cons_zero]
            refine take_at (i := 19) (d := 63) (oi := ?o47) (v := ?v47) ?hi47 ?hd47 (by kernel_rfl) (by kernel_rfl) (by kernel_rfl) ?hw47 ?hy47 ?hq47 (by assumption) ?r47
            case hi47 => (simp only [List.getElem?_toArray, List.getElem?_cons_succ, List.getElem?_cons_zero]; rfl)
            case hd47 => rfl
            case hw47 => rfl
            case hy47 => ((intro w hSw; (try dsimp only at hSw); go_simp) <;> (with_reducible rfl))
            case hq47 => exact fun _ _ _ h => h
            simp only [List.set_cons_succ, List.set_cons_zero]
            refine take_at (i := 20) (d := 64) (oi := ?o48) (v := ?v48) ?hi48 ?hd48 (by kernel_rfl) (by kernel_rfl) (by kernel_rfl) ?hw48 ?hy48 ?hq48 (by assumption) ?r48
            case hi48 => (simp only [List.getElem?_toArray, List.getElem?_cons_succ, List.getElem?_cons_zero]; rfl)
            case hd48 => rfl
            case hw48 => rfl
            case hy48 => ((intro w hSw; (try dsimp only at hSw); go_simp) <;> (with_reducible rfl))
            case hq48 => exact fun _ _ _ h => h
            simp only [List.set_cons_succ, List.set_cons_zero]
            refine take_at (i := 21) (d := 65) (oi := ?o49) (v := ?v49) ?hi49 ?hd49 (by kernel_rfl) (by kernel_rfl) (by kernel_rfl) ?hw49 ?hy49 ?hq49 (by assumption) ?r49
            case hi49 => (simp only [List.getElem?_toArray, List.getElem?_cons_succ, List.getElem?_cons_zero]; rfl)
            case hd49 => rfl
            case hw49 => rfl
            case hy49 => ((intro w hSw; (try dsimp only at hSw); go_simp) <;> (with_reducible rfl))
            case hq49 => exact fun _ _ _ h => h
            simp only [List.set_cons_succ, List.set_cons_zero]
            refine take_at (i := 22) (d := 66) (oi := ?o50) (v := ?v50) ?hi50 ?hd50 (by kernel_rfl) (by kernel_rfl) (by kernel_rfl) ?hw50 ?hy50 ?hq50 (by assumption) ?r50
            case hi50 => (simp only [List.getElem?_toArray, List.getElem?_cons_succ, List.getElem?_cons_zero]; rfl)
            case hd50 => rfl
            case hw50 => rfl
            case hy50 => ((intro w hSw; (try dsimp only at hSw); go_simp) <;> (with_reducible rfl))
            case hq50 => exact fun _ _ _ h => h
            simp only [List.set_cons_succ, List.set_cons_zero]
            refine call_at (i := 23) (d := 67) (oi := ?o51) (f := ?f51) (args := ?a51) ?hi51 ?hd51 (by kernel_rfl) ?hw51 ?he51 ?hc51
            case hi51 => (simp only [List.getElem?_toArray, List.getElem?_cons_succ, List.getElem?_cons_zero]; rfl)
            case hd51 => rfl
            case hw51 => rfl
            case he51 => (go_simp; constructor <;> with_reducible rfl)
            refine Calls.mono (same_disk (Hdx.out _ kb7) (Hdz.out _ kb7) hn1 hn2 hm1 hm2) ?_
            rintro e w8 ⟨⟨bs, rfl, hbs⟩, hb8⟩
            obtain rfl : bs = true := hbs.2 Hsm.out
            have kb8 := below_on kb7 hb8
            clear hHeld hb8
            refine ⟨_, rfl, Hcells2.out _ kb8, fun hHeld => ?_⟩
            simp only [List.set_cons_succ, List.set_cons_zero]
            refine take_at (i := 24) (d := 68) (oi := ?o52) (v := ?v52) ?hi52 ?hd52 (by kernel_rfl) (by kernel_rfl) (by kernel_rfl) ?hw52 ?hy52 ?hq52 (by assumption) ?r52
            case hi52 => (simp only [List.getElem?_toArray, List.getElem?_cons_succ, List.getElem?_cons_zero]; rfl)
            case hd52 => rfl
            case hw52 => rfl
            case hy52 => ((intro w hSw; (try dsimp only at hSw); go_simp) <;> (with_reducible rfl))
            case hq52 => exact fun _ _ _ h => h
            simp only [List.set_cons_succ, List.set_cons_zero]
            refine take_at (i := 25) (d := 69) (oi := ?o53) (v := ?v53) ?hi53 ?hd53 (by kernel_rfl) (by kernel_rfl) (by kernel_rfl) ?hw53 ?hy53 ?hq53 (by assumption) ?r53
            case hi53 => (simp only [List.getElem?_toArray, List.getElem?_cons_succ, List.getElem?_cons_zero]; rfl)
            case hd53 => rfl
            case hw53 => rfl
            case hy53 => ((intro w hSw; (try dsimp only at hSw); go_simp) <;> (with_reducible rfl))
            case hq53 => exact fun _ _ _ h => h
            simp only [List.set_cons_succ, List.set_cons_zero]
            refine take_at (i := 26) (d := 70) (oi := ?o54) (v := ?v54) ?hi54 ?hd54 (by kernel_rfl) (by kernel_rfl) (by kernel_rfl) ?hw54 ?hy54 ?hq54 (by assumption) ?r54
            case hi54 => (simp only [List.getElem?_toArray, List.getElem?_cons_succ, List.getElem?_cons_zero]; rfl)
            case hd54 => rfl
            case hw54 => rfl
            case hy54 => ((intro w hSw; (try dsimp only at hSw); go_simp) <;> (with_reducible rfl))
            case hq54 => exact fun _ _ _ h => h
            simp only [List.set_cons_succ, List.set_cons_zero]
            refine wpAnyH_done (by kernel_rfl) ?_ _
            go_wp2_with fail
            go_meet
            exact ⟨rfl, kb8⟩
        case rest =>
          obtain ⟨rfl, kb7⟩ := hcut
          have bxE := Hbx.out.below kb7
          have bzE := Hbz5.out.below kb7
          obtain ⟨⟨e0, e1, e2, e3, e4⟩, _⟩ := box5 bxE
          obtain ⟨⟨f0, f1, f2, f3, f4⟩, g0, g1, g2, g3, g4⟩ := box5 bzE
          have He := Lib.hid (show Box5 (put5 wc z (.slice A4 n4 c4) (.slice B4 m4 k4) (.int .i64 q') (.int .i64 ux) (.bool dd2)) z 25 (.slice A4 n4 c4) (.slice B4 m4 k4) (.int .i64 q') (.int .i64 ux) (.bool dd2) ∧ DAt (put5 wc z (.slice A4 n4 c4) (.slice B4 m4 k4) (.int .i64 q') (.int .i64 ux) (.bool dd2)) ⟨fl2, qu2, q', ux, dd2⟩ A4 n4 c4 B4 m4 k4 ∧
              Below w.heap.size w (put5 wc z (.slice A4 n4 c4) (.slice B4 m4 k4) (.int .i64 q') (.int .i64 ux) (.bool dd2)) from
            ⟨put5_box bzE _ _ _ _ _, DAt.put5 bzE (Hdx.out _ kb7), put5_below (HB5.out.trans (kb7.mono HB5.out.size)) hzw _ _ _ _ _⟩)
          clear bxE bzE
          go_wp2_with fail
          go_roundw
          case rel => exact ⟨j + 1, _, A4, n4, c4, B4, m4, k4, by omega, by go_num, ⟨Hrx.out, rfl, Hrunx.out⟩, He.out.1, He.out.2.1, He.out.2.2⟩
          case measure => simp [intOf]; omega
    · have hjL : j = L := by omega
      have hj3 : ¬ (j : Int) < (L : Int) := by omega
      clear hjL
      go_wp2_with fail
      refine (HW.out wr).mono ?_
      rintro e w3 ⟨rfl, hb3⟩
      go_wp2_with fail
      go_ret
      exact ⟨rfl, hB.trans (hb3.mono hB.size)⟩

end Go.Proofs.Ytmfiopopiikbmaa
