/-
  DiskSafe: it returns true.
-/
import Derived.Test.YtmfiopopiikbmaaSafeP
import Derived.Test.YtmfiopopiikbmaaOpenD
namespace Go.Proofs.Ytmfiopopiikbmaa
open Go.RowKit Go.Maps

theorem great_none {d : DiskP} (h : false = true ↔ greatP d = true) : greatP d = false := by
  cases hg : greatP d with
  | false => rfl
  | true => exact absurd (h.2 hg) (by decide)

set_option maxRecDepth 100000 in
set_option maxHeartbeats 40000000 in
theorem safe_law (hW : ∀ w : World, Calls Try.prog 9 #[] w fun e w' => e = .returned (.bool true) ∧ Below w.heap.size w w') {w : World} {fl : List FileP} {qu : List OpP} {q u : Int} {dd : Bool} {A : Option Addr} {n c : Nat} {B : Option Addr} {m k : Nat} {E : Option Addr} {L cl : Nat} {os : List OpM} {keep torn : Int}
    (h : DAt w ⟨fl, qu, q, u, dd⟩ A n c B m k) (hn : Nms ⟨fl, qu, q, u, dd⟩) (hu : u ≤ 9223372036854775807) (ho : Os w w.heap.size E L os) (hon : NmO (os.map OpM.pure)) :
    Calls Try.prog 4 #[.agg #[.slice A n c, .slice B m k, .int .i64 q, .int .i64 u, .bool dd], .slice E L cl, .int .i64 keep, .int .i64 torn] w fun e w' => e = .returned (.bool true) ∧ Below w.heap.size w w' := by
  have HW := Lib.hid hW
  have Hn := Lib.hid hn
  have Hu := Lib.hid hu
  have Hon := Lib.hid hon
  clear hn hu hon hW
  obtain ⟨i2, hi2, hy0, hy1, hy2⟩ := info_partsV info_files
  obtain ⟨iu8, hiu8, hz0, hz1, hz2⟩ := info_partsV info_u8
  go_enter Try.func4, Try.ntmps4
  go_upto_region 1 with fail
  obtain ⟨z, hz⟩ : ∃ z, z = w.heap.size := ⟨_, rfl⟩
  obtain ⟨w0, hw0⟩ : ∃ w0, w0 = w.alloc (.cells #[.slice A n c, .slice B m k, .int .i64 q, .int .i64 u, .bool dd] 25) := ⟨_, rfl⟩
  have hB0 : Below w.heap.size w w0 := by rw [hw0]; exact (Below.refl _ _).alloc (Nat.le_refl _) _
  have bz0 : Box5 w0 z 25 (.slice A n c) (.slice B m k) (.int .i64 q) (.int .i64 u) (.bool dd) := by rw [hw0, hz]; exact World.alloc_heap_new w _
  rw [← hw0, ← hz]
  have hzw : w.heap.size ≤ z := by omega
  clear hw0 hz
  have Hd := Lib.hid (show ∀ W, Below w.heap.size w W → DAt W ⟨fl, qu, q, u, dd⟩ A n c B m k from fun W hW => h.on hW)
  have Ho := Lib.hid (show ∀ W, Below w.heap.size w W → Os W W.heap.size E L os from fun W hW => ho.on hW hW.size)
  have Hlen := Lib.hid h.len.2
  obtain ⟨⟨k0, k1, k2, k3, k4⟩, _⟩ := box5 bz0
  have Hbz := Lib.hid bz0
  have Hh := Lib.hid h
  clear h ho bz0
  go_wp2_with fail
  refine (great_any (Hd.out _ hB0)).mono ?_
  rintro e w1 ⟨⟨bg, rfl, hbg⟩, hb1⟩
  have hB1 := hB0.trans (hb1.mono hB0.size)
  have bz1 := Hbz.out.below hb1
  have Hbg := Lib.hid (fun h : bg = false => great_none (h ▸ hbg))
  clear hb1 k0 k1 k2 k3 k4 hbg hB0 Hbz
  cases bg
  case true =>
    go_wp2_with fail
    refine (HW.out w1).mono ?_
    rintro e wz ⟨rfl, hbz⟩
    go_wp2_with fail
    go_ret
    exact ⟨rfl, hB1.trans (hbz.mono hB1.size)⟩
  case false =>
    have HG := Lib.hid (Hbg.out rfl)
    clear Hbg
    have HR0 := Lib.hid (Run.of HG.out Hn.out Hu.out)
    obtain ⟨⟨k0, k1, k2, k3, k4⟩, _⟩ := box5 bz1
    go_wp2_with fail
    refine (right_any (d := ⟨fl, qu, q, u, dd⟩) (Hd.out _ hB1) (HR0.out.small (by omega))).mono ?_
    rintro e w2 ⟨rfl, hb2⟩
    have hB2 := hB1.trans (hb2.mono hB1.size)
    have bz2 := bz1.below hb2
    clear hb2 k0 k1 k2 k3 k4 hB1 bz1
    obtain ⟨bv, hbv⟩ : ∃ bv, rightP ⟨fl, qu, q, u, dd⟩ = bv := ⟨_, rfl⟩
    rw [hbv]
    have Hbv := Lib.hid hbv
    clear hbv
    obtain ⟨⟨k0, k1, k2, k3, k4⟩, s0, s1, s2, s3, s4⟩ := box5 bz2
    cases bv
    · skip
      go_wp2_with fail
      refine (HW.out w2).mono ?_
      rintro e wz ⟨rfl, hbz⟩
      go_wp2_with fail
      go_ret
      exact ⟨rfl, hB2.trans (hbz.mono hB2.size)⟩
    by_cases hq : (0 : Int) < (m : Int)
    · have tq : decide ((0 : Int) < (m : Int)) = true := by simpa using hq
      go_wp2_with fail
      refine (HW.out w2).mono ?_
      rintro e wz ⟨rfl, hbz⟩
      go_wp2_with fail
      go_ret
      exact ⟨rfl, hB2.trans (hbz.mono hB2.size)⟩
    have tq : decide ((0 : Int) < (m : Int)) = false := by simpa using hq
    cases dd
    case true =>
      go_wp2_with fail
      refine (HW.out w2).mono ?_
      rintro e wz ⟨rfl, hbz⟩
      go_wp2_with fail
      go_ret
      exact ⟨rfl, hB2.trans (hbz.mono hB2.size)⟩
    case false =>
    by_cases ha : (30 : Int) < (L : Int)
    · have ta : decide ((30 : Int) < (L : Int)) = true := by simpa using ha
      go_wp2_with fail
      refine (HW.out w2).mono ?_
      rintro e wz ⟨rfl, hbz⟩
      go_wp2_with fail
      go_ret
      exact ⟨rfl, hB2.trans (hbz.mono hB2.size)⟩
    have ta : decide ((30 : Int) < (L : Int)) = false := by simpa using ha
    have hL : L ≤ 30 := by omega
    have hqu : qu = [] := by
      have h1 : qu.length = m := Hlen.out
      exact List.eq_nil_of_length_eq_zero (by omega)
    subst hqu
    obtain rfl : m = 0 := by omega
    have hdz : DBox w2 z ⟨fl, [], q, u, false⟩ A n c B 0 k := ⟨bz2, Hd.out _ hB2⟩
    have hD0 := safe_start Hbv.out HR0.out
    have HD := Lib.hid hD0
    have Hst := Lib.hid (show DAt w ⟨fl, [], q, 0, false⟩ A n c B 0 k from ⟨Hh.out.nc, Hh.out.oc, Hh.out.files, Hh.out.queue⟩)
    clear Hd Hbv HR0 HG Hh hD0
    go_upto_region 5 with fail
    obtain ⟨w3, hw3⟩ : ∃ x, x = w2.setCell ⟨z, 3, none⟩ (.int .i64 0) := ⟨_, rfl⟩
    have xz : DBox w3 z ⟨fl, [], q, 0, false⟩ A n c B 0 k := by rw [hw3]; exact hdz.fused 0
    have hB3 : Below w.heap.size w w3 := by rw [hw3]; exact hB2.setCell (p := ⟨z, 3, none⟩) hzw _
    rw [← hw3]
    clear hw3 hdz bz2 hB2 k0 k1 k2 k3 k4 s0 s1 s2 s3 s4 tq ta ha hq
    obtain ⟨k0, k1, k2, k3, k4⟩ := xz.cells
    go_wp2_with (first | (at_builtin; refine hold ?_) | fail)
    refine (now_own xz.dat HD.out.run (by omega)).mono ?_
    rintro e w4 ⟨⟨A1, n1, c1, f1, rfl, ft, hp1⟩, hb⟩
    have hB4 := hB3.trans (hb.mono hB3.size)
    replace xz := xz.below hb
    clear hb k0 k1 k2 k3 k4 hB3
    go_wp2_with (at_builtin; refine hold ?_)
    obtain ⟨w5, hw5⟩ : ∃ x, x = w4.alloc (.cells #[.slice A1 n1 c1] 22) := ⟨_, rfl⟩
    have hb5 : Below w4.heap.size w4 w5 := by rw [hw5]; exact below_al (below_d0 w4) _
    have hsrc : Source w5 1 (some ⟨w4.heap.size, 0, none⟩) 1 [SlM.v ⟨A1, n1, c1, f1⟩] := by rw [hw5]; exact Source.one rfl (fun u hu => by obtain rfl := List.mem_singleton.1 hu; rfl) rfl
    have hB5 := hB4.trans (hb5.mono hB4.size)
    rw [← hw5]
    have hwas := Was.nil w.heap.size w5
    refine unhold (wpList_append (.tmp 49) (.tmp 52) 45 Try.underlying45 hi2 hy0 hy1 hy2 files_cells (by omega) (base := w.heap.size) (n := 0) (xs := []) (v := .slice none 0 0) hwas.own hsrc (by unfold maxLen; omega) (by omega) hB5.size rfl rfl rfl rfl ?_)
    intro v6 w6 L6
    have hwas6 := hwas.push (m := ⟨A1, n1, c1, f1⟩) (ft.below hb5) L6
    have hst6 := (Stays.push (w := w) (.inl ⟨hB5, Hst.out⟩) hwas L6 hB5.size)
    have bz6 := hwas.push_box (xz.below hb5).1 L6
    have hB6 : Below w.heap.size w w6 := L6.below hB5 hB5.size (fun g hg => by cases hg)
    have hR6 : RowsP ⟨fl, [], q, 0, false⟩ [⟨A1, n1, c1, f1⟩] := rows_first rfl hp1
    obtain ⟨k0, k1, k2, k3, k4⟩ := cells5v bz6
    clear hsrc hwas L6 hB5 hb5 hw5 hB4 xz
    go_upto_region 7 with fail
    obtain ⟨zx, hzx⟩ : ∃ z, z = w6.heap.size := ⟨_, rfl⟩
    obtain ⟨w7, hw7⟩ : ∃ x, x = w6.alloc (.cells #[.slice A n c, .slice B 0 k, .int .i64 q, .int .i64 0, .bool false] 25) := ⟨_, rfl⟩
    have hb7 : Below w6.heap.size w6 w7 := by rw [hw7]; exact below_al (below_d0 w6) _
    have bx7 : Box5 w7 zx 25 (.slice A n c) (.slice B 0 k) (.int .i64 q) (.int .i64 0) (.bool false) := by rw [hw7, hzx]; exact World.alloc_heap_new w6 _
    have hxw : w.heap.size ≤ zx := by rw [hzx]; exact hB6.size
    rw [← hw7, ← hzx]
    have HWas := Lib.hid (hwas6.below hb7)
    have HSt := Lib.hid (hst6.below hb7)
    have HBx := Lib.hid bx7
    have HRows := Lib.hid hR6
    have HB := Lib.hid (hB6.trans (hb7.mono hB6.size))
    clear hw7 hzx hb7 bx7 hwas6 hst6 hR6 bz6 hB6 k0 k1 k2 k3 k4 ft hp1 Hst Hu Hlen
    go_wp2_with fail
    go_loopw [9, 11] (fun s9 s11 wr => ∃ (j : Nat) (D : DiskP) (ms : List SlM) (A : Option Addr) (n c : Nat) (B : Option Addr) (m k : Nat), j ≤ L ∧ s11 = .int .i64 j ∧ Hid (Was w.heap.size wr s9 ms) ∧ Hid (LiveF fl (60 + j) D) ∧ Hid (RowsP D ms) ∧ Hid (D.queue.length ≤ j) ∧
      Hid (Box5 wr zx 25 (.slice A n c) (.slice B m k) (.int .i64 D.quota) (.int .i64 D.fuse) (.bool D.dead)) ∧ Hid (Stays w wr D A n c B m k) ∧ Hid (Below w.heap.size w wr)) (fun _ i _ => L - (intOf i).toNat)
    case atStart => exact ⟨0, _, _, A, n, c, B, 0, k, by omega, rfl, HWas, HD, HRows, Lib.hid (Nat.le_refl _), HBx, HSt, HB⟩
    case round =>
      clear HWas HSt HBx HRows HB HD
      obtain ⟨j, D, ms, A, n, c, B, m, k, hj, rfl, HWas, HD, HRows, HQ, HBx, HSt, HB⟩ := hrel
      by_cases hlt : j < L
      · have hj2 : (0 : Int) ≤ (j : Int) := by omega
        have hj3 : (j : Int) < (L : Int) := by omega
        have hw1 : IntKind.i64.wrap ((j : Int) + 1) = ((j + 1 : Nat) : Int) := by rw [IntKind.wrap_i64]; omega
        have ho' := Ho.out _ HB.out
        obtain ⟨b, off, o, rfl, hbl, hoK, o0, o1, o2, o3, hok, hk0, hk1⟩ := ho'.at_ hlt
        have Hnm := Lib.hid (Hon.out o.pure (List.mem_map_of_mem (List.mem_of_getElem? hoK)))
        by_cases hln : (100 : Int) < (o.p.n : Int)
        · have tln : decide ((100 : Int) < (o.p.n : Int)) = true := by simpa using hln
          go_wp2_with fail
          refine (HW.out wr).mono ?_
          rintro e w5 ⟨rfl, hb⟩
          go_wp2_with fail
          go_ret
          exact ⟨rfl, HB.out.trans (hb.mono HB.out.size)⟩
        have tln : decide ((100 : Int) < (o.p.n : Int)) = false := by simpa using hln
        have hos : o.name.size ≤ maxLen := Hnm.out.1
        have hpn : o.p.n ≤ 1000 := by omega
        have hpn2 : o.p.n ≤ 1048576 := by omega
        have Hpl := Lib.hid (show o.pure.bytes.length = o.p.n from hok.rd.1)
        have Hcells := Lib.hid (show ∀ W, Below wr.heap.size wr W → Below wr.heap.size wr W ∧ (W.cell? ⟨zx, 0, none⟩ = some (.slice A n c) ∧ W.cell? ⟨zx, 1, none⟩ = some (.slice B m k) ∧ W.cell? ⟨zx, 2, none⟩ = some (.int .i64 D.quota) ∧ W.cell? ⟨zx, 3, none⟩ = some (.int .i64 D.fuse) ∧ W.cell? ⟨zx, 4, none⟩ = some (.bool D.dead)) ∧ W.cell? ⟨b, off + j * 4, none⟩ = some (.int .u8 o.kind) ∧ W.cell? ⟨b, off + j * 4 + 1, none⟩ = some (.string o.name) ∧ W.cell? ⟨b, off + j * 4 + 2, none⟩ = some (.string o.to) ∧ W.cell? ⟨b, off + j * 4 + 3, none⟩ = some (.slice o.p.A o.p.n o.p.c) from fun W hW =>
          ⟨hW, cells5v (HBx.out.below hW), (cells_below hW hbl).1.trans o0, (cells_below hW hbl).1.trans o1, (cells_below hW hbl).1.trans o2, (cells_below hW hbl).1.trans o3⟩)
        have Hok := Lib.hid (show ∀ W, Below wr.heap.size wr W → o.p.Ok W W.heap.size from fun W hW => hok.on hW hW.size)
        have hww : w.heap.size ≤ wr.heap.size := HB.out.size
        have hxlt : zx < wr.heap.size := HBx.out.lt
        have HR := Lib.hid HD.out.run
        obtain ⟨D1, er, hE, hor⟩ := safe_round D o.pure HD.out.fuse HD.out.dead
        have HE := Lib.hid hE
        clear hE
        go_upto_region 12 with fail
        clear ho' hok o0 o1 o2 o3 hoK
        go_cut [12, 13] (fun s12 s13 wx => ∃ y, s12 = .pointer (some ⟨y, 0, none⟩) ∧ s13 = .int .i64 er ∧ wr.heap.size ≤ y ∧ (∃ A n c B m k, Box5 wx y 25 (.slice A n c) (.slice B m k) (.int .i64 D1.quota) (.int .i64 D1.fuse) (.bool D1.dead) ∧ Stays w wx D1 A n c B m k) ∧ Below wr.heap.size wr wx)
        case first =>
          as_aux_lemma =>
            refine wp_region_held_drew (S := (fun W => Below wr.heap.size wr W ∧ (W.cell? ⟨zx, 0, none⟩ = some (.slice A n c) ∧ W.cell? ⟨zx, 1, none⟩ = some (.slice B m k) ∧ W.cell? ⟨zx, 2, none⟩ = some (.int .i64 D.quota) ∧ W.cell? ⟨zx, 3, none⟩ = some (.int .i64 D.fuse) ∧ W.cell? ⟨zx, 4, none⟩ = some (.bool D.dead)) ∧ W.cell? ⟨b, off + j * 4, none⟩ = some (.int .u8 o.kind) ∧ W.cell? ⟨b, off + j * 4 + 1, none⟩ = some (.string o.name) ∧ W.cell? ⟨b, off + j * 4 + 2, none⟩ = some (.string o.to) ∧ W.cell? ⟨b, off + j * 4 + 3, none⟩ = some (.slice o.p.A o.p.n o.p.c))) (by kernel_rfl) (Hcells.out _ (below_dr (below_d0 _))) (fun hHeld => ?_)
            have kb : Below wr.heap.size wr wr.drew := below_dr (below_d0 _)
            obtain ⟨wp1, hW⟩ : ∃ x, x = wr.drew := ⟨_, rfl⟩
            rw [← hW] at kb hHeld ⊢
            clear hW
            refine take_at (i := 0) (d := 70) (oi := ?o1) (v := ?v1) ?hi1 ?hd1 (by kernel_rfl) (by kernel_rfl) (by kernel_rfl) ?hw1 ?hy1 ?hq1 (by assumption) ?r1
            case hi1 => (simp only [List.getElem?_toArray, List.getElem?_cons_zero]; rfl)
            case hd1 => rfl
            case hw1 => rfl
            case hy1 => ((intro w hSw; (try dsimp only at hSw); go_simp) <;> (with_reducible rfl))
            case hq1 => exact fun _ _ _ h => h
            simp only [List.set_cons_succ, List.set_cons_zero]
            refine take_at (i := 1) (d := 71) (oi := ?o2) (v := ?v2) ?hi2 ?hd2 (by kernel_rfl) (by kernel_rfl) (by kernel_rfl) ?hw2 ?hy2 ?hq2 (by assumption) ?r2
            case hi2 => (simp only [List.getElem?_toArray, List.getElem?_cons_succ, List.getElem?_cons_zero]; rfl)
            case hd2 => rfl
            case hw2 => rfl
            case hy2 => ((intro w hSw; (try dsimp only at hSw); go_simp) <;> (with_reducible rfl))
            case hq2 => exact fun _ _ _ h => h
            simp only [List.set_cons_succ, List.set_cons_zero]
            refine take_at (i := 2) (d := 72) (oi := ?o3) (v := ?v3) ?hi3 ?hd3 (by kernel_rfl) (by kernel_rfl) (by kernel_rfl) ?hw3 ?hy3 ?hq3 (by assumption) ?r3
            case hi3 => (simp only [List.getElem?_toArray, List.getElem?_cons_succ, List.getElem?_cons_zero]; rfl)
            case hd3 => rfl
            case hw3 => rfl
            case hy3 => ((intro w hSw; (try dsimp only at hSw); go_simp) <;> (with_reducible rfl))
            case hq3 => exact fun _ _ _ h => h
            simp only [List.set_cons_succ, List.set_cons_zero]
            refine take_at (i := 3) (d := 73) (oi := ?o4) (v := ?v4) ?hi4 ?hd4 (by kernel_rfl) (by kernel_rfl) (by kernel_rfl) ?hw4 ?hy4 ?hq4 (by assumption) ?r4
            case hi4 => (simp only [List.getElem?_toArray, List.getElem?_cons_succ, List.getElem?_cons_zero]; rfl)
            case hd4 => rfl
            case hw4 => rfl
            case hy4 => ((intro w hSw; (try dsimp only at hSw); go_simp) <;> (with_reducible rfl))
            case hq4 => exact fun _ _ _ h => h
            simp only [List.set_cons_succ, List.set_cons_zero]
            refine take_at (i := 4) (d := 74) (oi := ?o5) (v := ?v5) ?hi5 ?hd5 (by kernel_rfl) (by kernel_rfl) (by kernel_rfl) ?hw5 ?hy5 ?hq5 (by assumption) ?r5
            case hi5 => (simp only [List.getElem?_toArray, List.getElem?_cons_succ, List.getElem?_cons_zero]; rfl)
            case hd5 => rfl
            case hw5 => rfl
            case hy5 => ((intro w hSw; (try dsimp only at hSw); go_simp) <;> (with_reducible rfl))
            case hq5 => exact fun _ _ _ h => h
            simp only [List.set_cons_succ, List.set_cons_zero]
            refine wpAnyH_ready (rs := [5, 9]) (by kernel_rfl) (by simp) ?_
            apply two_ready
            · skip
              refine br_call (i := 5) (d := 75) (oi := ?o6) (f := ?f6) (args := ?a6) ?hi6 ?hd6 ?hw6 ?he6 ?hc6
              case hi6 => (simp only [List.getElem?_toArray, List.getElem?_cons_succ, List.getElem?_cons_zero]; rfl)
              case hd6 => rfl
              case hw6 => rfl
              case he6 => (go_simp; constructor <;> with_reducible rfl)
              with_reducible refine Calls.mono (do_stays (w := w) (D' := D1) (er := er) o (Stays.at_ (Stays.below HSt.out kb)) HR.out (by omega) (Hok.out _ kb) ⟨hk0, hk1⟩ hpn2 hos HE.out) ?_
              rintro e wp2 ⟨⟨A4, n4, c4, B4, m4, q4, rfl, g4⟩, hb⟩
              replace kb := below_on kb hb
              clear hHeld hb
              refine ⟨_, rfl, (Hcells.out _ kb), fun hHeld => ?_⟩
              simp only [List.set_cons_succ, List.set_cons_zero]
              refine take_at (i := 6) (d := 69) (oi := ?o7) (v := ?v7) ?hi7 ?hd7 (by kernel_rfl) (by kernel_rfl) (by kernel_rfl) ?hw7 ?hy7 ?hq7 (by assumption) ?r7
              case hi7 => (simp only [List.getElem?_toArray, List.getElem?_cons_succ, List.getElem?_cons_zero]; rfl)
              case hd7 => rfl
              case hw7 => rfl
              case hy7 => ((intro w hSw; (try dsimp only at hSw); go_simp) <;> (with_reducible rfl))
              case hq7 => exact fun _ _ _ h => h
              simp only [List.set_cons_succ, List.set_cons_zero]
              refine take_at (i := 7) (d := 76) (oi := ?o8) (v := ?v8) ?hi8 ?hd8 (by kernel_rfl) (by kernel_rfl) (by kernel_rfl) ?hw8 ?hy8 ?hq8 (by assumption) ?r8
              case hi8 => (simp only [List.getElem?_toArray, List.getElem?_cons_succ, List.getElem?_cons_zero]; rfl)
              case hd8 => rfl
              case hw8 => rfl
              case hy8 => ((intro w hSw; (try dsimp only at hSw); go_simp) <;> (with_reducible rfl))
              case hq8 => exact fun _ _ _ h => h
              simp only [List.set_cons_succ, List.set_cons_zero]
              refine take_at (i := 8) (d := 77) (oi := ?o9) (v := ?v9) ?hi9 ?hd9 (by kernel_rfl) (by kernel_rfl) (by kernel_rfl) ?hw9 ?hy9 ?hq9 (by assumption) ?r9
              case hi9 => (simp only [List.getElem?_toArray, List.getElem?_cons_succ, List.getElem?_cons_zero]; rfl)
              case hd9 => rfl
              case hw9 => rfl
              case hy9 => ((intro w hSw; (try dsimp only at hSw); go_simp) <;> (with_reducible rfl))
              case hq9 => exact fun _ _ _ h => h
              simp only [List.set_cons_succ, List.set_cons_zero]
              refine wpAnyH_ready (rs := [9]) (by kernel_rfl) (by simp) ?_
              obtain ⟨zy, hzy⟩ : ∃ z, z = wp2.heap.size := ⟨_, rfl⟩
              obtain ⟨wp3, hWn⟩ : ∃ x, x = wp2.alloc (.cells #[.slice none 0 0, .slice none 0 0, .int .i64 0, .int .i64 0, .bool false] 25) := ⟨_, rfl⟩
              have hb : Below wp2.heap.size wp2 wp3 := by rw [hWn]; exact below_al (below_d0 _) _
              have loy : wr.heap.size ≤ zy := by rw [hzy]; exact kb.size
              have bxy : Box5 wp3 zy 25 (.slice none 0 0) (.slice none 0 0) (.int .i64 0) (.int .i64 0) (.bool false) := by rw [hWn, hzy]; exact World.alloc_heap_new wp2 _
              refine br_val (i := 9) (d := 12) (oi := ?o10) (v := .pointer (some ⟨zy, 0, none⟩)) (w' := wp3) ?hi10 ?hd10 ?hw10 ?he10 (Hcells.out _ (below_on kb hb)) ?hc10
              case hi10 => (simp only [List.getElem?_toArray, List.getElem?_cons_succ, List.getElem?_cons_zero]; rfl)
              case hd10 => rfl
              case hw10 => rfl
              case he10 => (rw [hzy, hWn]; go_simp)
              replace kb := below_on kb hb
              clear hHeld
              replace g4 : Stays w wp3 D1 A4 n4 c4 B4 m4 q4 := Stays.below g4 hb
              clear hb hWn hzy
              intro hHeld
              simp only [List.set_cons_succ, List.set_cons_zero]
              refine wpAnyH_ready (rs := [10]) (by kernel_rfl) (by simp) ?_
              obtain ⟨wp4, hWn⟩ : ∃ x, x = put5 wp3 zy (.slice A4 n4 c4) (.slice B4 m4 q4) (.int .i64 D1.quota) (.int .i64 D1.fuse) (.bool D1.dead) := ⟨_, rfl⟩
              have kb2 : Below wr.heap.size wr wp4 := by rw [hWn]; exact put5_below kb loy _ _ _ _ _
              have g4' : Stays w wp4 D1 A4 n4 c4 B4 m4 q4 := by rw [hWn]; exact Stays.put5 g4 bxy (by omega)
              have bxy' : Box5 wp4 zy 25 (.slice A4 n4 c4) (.slice B4 m4 q4) (.int .i64 D1.quota) (.int .i64 D1.fuse) (.bool D1.dead) := by rw [hWn]; exact put5_box bxy _ _ _ _ _
              obtain ⟨⟨p0, p1, p2, p3, p4⟩, r0, r1, r2, r3, r4⟩ := box5 bxy
              refine br_store (i := 10) (oi := ?o11) (w' := wp4) ?hi11 ?hd11 ?hw11 ?he11 (Hcells.out _ kb2) ?hc11
              case hi11 => (simp only [List.getElem?_toArray, List.getElem?_cons_succ, List.getElem?_cons_zero]; rfl)
              case hd11 => rfl
              case hw11 => rfl
              case he11 => (rw [hWn]; go_simp; rfl)
              clear hHeld kb hWn p0 p1 p2 p3 p4 r0 r1 r2 r3 r4 bxy g4
              have kb := kb2
              have g4 := g4'
              have bxy := bxy'
              clear kb2 g4' bxy'
              intro hHeld
              refine take_at (i := 11) (d := 13) (oi := ?o12) (v := ?v12) ?hi12 ?hd12 (by kernel_rfl) (by kernel_rfl) (by kernel_rfl) ?hw12 ?hy12 ?hq12 (by assumption) ?r12
              case hi12 => (simp only [List.getElem?_toArray, List.getElem?_cons_succ, List.getElem?_cons_zero]; rfl)
              case hd12 => rfl
              case hw12 => rfl
              case hy12 => ((intro w hSw; (try dsimp only at hSw); go_simp) <;> (with_reducible rfl))
              case hq12 => exact fun _ _ _ h => h
              simp only [List.set_cons_succ, List.set_cons_zero]
              refine wpAnyH_done (by kernel_rfl) ?_ _
              go_wp2_with fail
              go_meet
              exact ⟨zy, rfl, rfl, loy, ⟨_, _, _, _, _, _, bxy, g4⟩, kb⟩
            obtain ⟨zy, hzy⟩ : ∃ z, z = wp1.heap.size := ⟨_, rfl⟩
            obtain ⟨wp5, hWn⟩ : ∃ x, x = wp1.alloc (.cells #[.slice none 0 0, .slice none 0 0, .int .i64 0, .int .i64 0, .bool false] 25) := ⟨_, rfl⟩
            have hb : Below wp1.heap.size wp1 wp5 := by rw [hWn]; exact below_al (below_d0 _) _
            have loy : wr.heap.size ≤ zy := by rw [hzy]; exact kb.size
            have bxy : Box5 wp5 zy 25 (.slice none 0 0) (.slice none 0 0) (.int .i64 0) (.int .i64 0) (.bool false) := by rw [hWn, hzy]; exact World.alloc_heap_new wp1 _
            refine br_val (i := 9) (d := 12) (oi := ?o13) (v := .pointer (some ⟨zy, 0, none⟩)) (w' := wp5) ?hi13 ?hd13 ?hw13 ?he13 (Hcells.out _ (below_on kb hb)) ?hc13
            case hi13 => (simp only [List.getElem?_toArray, List.getElem?_cons_succ, List.getElem?_cons_zero]; rfl)
            case hd13 => rfl
            case hw13 => rfl
            case he13 => (rw [hzy, hWn]; go_simp)
            replace kb := below_on kb hb
            clear hHeld
            clear hb hWn hzy
            intro hHeld
            simp only [List.set_cons_succ, List.set_cons_zero]
            refine wpAnyH_ready (rs := [5]) (by kernel_rfl) (by simp) ?_
            refine br_call (i := 5) (d := 75) (oi := ?o14) (f := ?f14) (args := ?a14) ?hi14 ?hd14 ?hw14 ?he14 ?hc14
            case hi14 => (simp only [List.getElem?_toArray, List.getElem?_cons_succ, List.getElem?_cons_zero]; rfl)
            case hd14 => rfl
            case hw14 => rfl
            case he14 => (go_simp; constructor <;> with_reducible rfl)
            with_reducible refine Calls.mono (do_stays (w := w) (D' := D1) (er := er) o (Stays.at_ (Stays.below HSt.out kb)) HR.out (by omega) (Hok.out _ kb) ⟨hk0, hk1⟩ hpn2 hos HE.out) ?_
            rintro e wp6 ⟨⟨A4, n4, c4, B4, m4, q4, rfl, g4⟩, hb⟩
            replace bxy : Box5 wp6 zy 25 (.slice none 0 0) (.slice none 0 0) (.int .i64 0) (.int .i64 0) (.bool false) := bxy.below hb
            replace kb := below_on kb hb
            clear hHeld hb
            refine ⟨_, rfl, (Hcells.out _ kb), fun hHeld => ?_⟩
            simp only [List.set_cons_succ, List.set_cons_zero]
            refine take_at (i := 6) (d := 69) (oi := ?o15) (v := ?v15) ?hi15 ?hd15 (by kernel_rfl) (by kernel_rfl) (by kernel_rfl) ?hw15 ?hy15 ?hq15 (by assumption) ?r15
            case hi15 => (simp only [List.getElem?_toArray, List.getElem?_cons_succ, List.getElem?_cons_zero]; rfl)
            case hd15 => rfl
            case hw15 => rfl
            case hy15 => ((intro w hSw; (try dsimp only at hSw); go_simp) <;> (with_reducible rfl))
            case hq15 => exact fun _ _ _ h => h
            simp only [List.set_cons_succ, List.set_cons_zero]
            refine take_at (i := 7) (d := 76) (oi := ?o16) (v := ?v16) ?hi16 ?hd16 (by kernel_rfl) (by kernel_rfl) (by kernel_rfl) ?hw16 ?hy16 ?hq16 (by assumption) ?r16
            case hi16 => (simp only [List.getElem?_toArray, List.getElem?_cons_succ, List.getElem?_cons_zero]; rfl)
            case hd16 => rfl
            case hw16 => rfl
            case hy16 => ((intro w hSw; (try dsimp only at hSw); go_simp) <;> (with_reducible rfl))
            case hq16 => exact fun _ _ _ h => h
            simp only [List.set_cons_succ, List.set_cons_zero]
            refine take_at (i := 8) (d := 77) (oi := ?o17) (v := ?v17) ?hi17 ?hd17 (by kernel_rfl) (by kernel_rfl) (by kernel_rfl) ?hw17 ?hy17 ?hq17 (by assumption) ?r17
            case hi17 => (simp only [List.getElem?_toArray, List.getElem?_cons_succ, List.getElem?_cons_zero]; rfl)
            case hd17 => rfl
            case hw17 => rfl
            case hy17 => ((intro w hSw; (try dsimp only at hSw); go_simp) <;> (with_reducible rfl))
            case hq17 => exact fun _ _ _ h => h
            simp only [List.set_cons_succ, List.set_cons_zero]
            refine wpAnyH_ready (rs := [10]) (by kernel_rfl) (by simp) ?_
            obtain ⟨wp7, hWn⟩ : ∃ x, x = put5 wp6 zy (.slice A4 n4 c4) (.slice B4 m4 q4) (.int .i64 D1.quota) (.int .i64 D1.fuse) (.bool D1.dead) := ⟨_, rfl⟩
            have kb2 : Below wr.heap.size wr wp7 := by rw [hWn]; exact put5_below kb loy _ _ _ _ _
            have g4' : Stays w wp7 D1 A4 n4 c4 B4 m4 q4 := by rw [hWn]; exact Stays.put5 g4 bxy (by omega)
            have bxy' : Box5 wp7 zy 25 (.slice A4 n4 c4) (.slice B4 m4 q4) (.int .i64 D1.quota) (.int .i64 D1.fuse) (.bool D1.dead) := by rw [hWn]; exact put5_box bxy _ _ _ _ _
            obtain ⟨⟨p0, p1, p2, p3, p4⟩, r0, r1, r2, r3, r4⟩ := box5 bxy
            refine br_store (i := 10) (oi := ?o18) (w' := wp7) ?hi18 ?hd18 ?hw18 ?he18 (Hcells.out _ kb2) ?hc18
            case hi18 => (simp only [List.getElem?_toArray, List.getElem?_cons_succ, List.getElem?_cons_zero]; rfl)
            case hd18 => rfl
            case hw18 => rfl
            case he18 => (rw [hWn]; go_simp; rfl)
            clear hHeld kb hWn p0 p1 p2 p3 p4 r0 r1 r2 r3 r4 bxy g4
            have kb := kb2
            have g4 := g4'
            have bxy := bxy'
            clear kb2 g4' bxy'
            intro hHeld
            refine take_at (i := 11) (d := 13) (oi := ?o19) (v := ?v19) ?hi19 ?hd19 (by kernel_rfl) (by kernel_rfl) (by kernel_rfl) ?hw19 ?hy19 ?hq19 (by assumption) ?r19
            case hi19 => (simp only [List.getElem?_toArray, List.getElem?_cons_succ, List.getElem?_cons_zero]; rfl)
            case hd19 => rfl
            case hw19 => rfl
            case hy19 => ((intro w hSw; (try dsimp only at hSw); go_simp) <;> (with_reducible rfl))
            case hq19 => exact fun _ _ _ h => h
            simp only [List.set_cons_succ, List.set_cons_zero]
            refine wpAnyH_done (by kernel_rfl) ?_ _
            go_wp2_with fail
            go_meet
            exact ⟨zy, rfl, rfl, loy, ⟨_, _, _, _, _, _, bxy, g4⟩, kb⟩
        case rest =>
          obtain ⟨zy, rfl, rfl, hy, ⟨A4, n4, c4, B4, m4, k4', by4, g4⟩, kb4⟩ := hcut
          obtain ⟨w4, rfl⟩ : ∃ w4, w4 = wc := ⟨_, rfl⟩
          have hB4 := HB.out.trans (kb4.mono HB.out.size)
          have bx4 := HBx.out.below kb4
          have st4 := HSt.out.below kb4
          have was4 := HWas.out.below kb4
          have hm : L - (j + 1) < L - j := by omega
          rcases hor with ⟨h1, h2⟩ | ⟨h1, h2⟩
          · subst h1
            have H2 := Lib.hid h2
            clear h2
            obtain ⟨⟨k0, k1, k2, k3, k4⟩, s0, s1, s2, s3, s4⟩ := box5 bx4
            obtain ⟨l0, l1, l2, l3, l4⟩ := cells5v by4
            have hne : zx ≠ zy := by omega
            have HD1 : LiveF fl (60 + (j + 1)) D1 := safe_next HD.out HE.out H2.out (by rw [Hpl.out]; exact hpn) Hnm.out
            have hq1 : D1.queue.length ≤ j + 1 := by rw [H2.out]; have := HQ.out; simp; omega
            have hml : ms.length ≤ 31 := by have h3 := rows_len HRows.out; have h4 := HQ.out; omega
            go_upto_region 17 with fail
            obtain ⟨w5, hw5⟩ : ∃ x, x = put5 w4 zx (.slice A4 n4 c4) (.slice B4 m4 k4') (.int .i64 D1.quota) (.int .i64 D1.fuse) (.bool D1.dead) := ⟨_, rfl⟩
            have bx5 : Box5 w5 zx 25 (.slice A4 n4 c4) (.slice B4 m4 k4') (.int .i64 D1.quota) (.int .i64 D1.fuse) (.bool D1.dead) := by rw [hw5]; exact put5_box bx4 _ _ _ _ _
            have was5 := was4.put5 bx4 (a' := .slice A4 n4 c4) (b' := .slice B4 m4 k4') (d' := .int .i64 D1.quota) (e' := .int .i64 D1.fuse) (f' := .bool D1.dead)
            have st5 := Stays.put5 (a' := .slice A4 n4 c4) (b' := .slice B4 m4 k4') (d' := .int .i64 D1.quota) (e' := .int .i64 D1.fuse) (f' := .bool D1.dead) g4 bx4 hxw
            have hB5 : Below w.heap.size w w5 := by rw [hw5]; exact put5_below hB4 hxw _ _ _ _ _
            rw [← hw5] at was5 st5
            have hw5' : w5 = ((((w4.setCell ⟨zx, 0, none⟩ (.slice A4 n4 c4)).setCell ⟨zx, 1, none⟩ (.slice B4 m4 k4')).setCell ⟨zx, 2, none⟩ (.int .i64 D1.quota)).setCell ⟨zx, 3, none⟩ (.int .i64 D1.fuse)).setCell ⟨zx, 4, none⟩ (.bool D1.dead) := hw5
            rw [← hw5']
            clear hw5 hw5' k0 k1 k2 k3 k4 s0 s1 s2 s3 s4 l0 l1 l2 l3 l4 bx4 by4 g4 st4 was4 hB4
            obtain ⟨k0, k1, k2, k3, k4⟩ := cells5v bx5
            go_wp2_with (first | (at_builtin; refine hold ?_) | fail)
            refine (now_own st5.at_ HD1.run (by omega)).mono ?_
            rintro e w6 ⟨⟨A1, n1, c1, f1, rfl, ft, hp1⟩, hb⟩
            have hB6 := hB5.trans (hb.mono hB5.size)
            replace bx5 := bx5.below hb
            replace was5 := was5.below hb
            replace st5 := st5.below hb
            clear hb k0 k1 k2 k3 k4 hB5
            go_wp2_with (at_builtin; refine hold ?_)
            obtain ⟨w7, hw7⟩ : ∃ x, x = w6.alloc (.cells #[.slice A1 n1 c1] 22) := ⟨_, rfl⟩
            have hb7 : Below w6.heap.size w6 w7 := by rw [hw7]; exact below_al (below_d0 w6) _
            have hsrc : Source w7 1 (some ⟨w6.heap.size, 0, none⟩) 1 [SlM.v ⟨A1, n1, c1, f1⟩] := by rw [hw7]; exact Source.one rfl (fun u hu => by obtain rfl := List.mem_singleton.1 hu; rfl) rfl
            have hB7 := hB6.trans (hb7.mono hB6.size)
            rw [← hw7]
            have was7 := was5.below hb7
            have st7 := st5.below hb7
            have bx7 := bx5.below hb7
            refine unhold (wpList_append (.tmp 85) (.tmp 88) 45 Try.underlying45 hi2 hy0 hy1 hy2 files_cells (by omega) (base := w.heap.size) (n := ms.length) (xs := ms.map SlM.v) was7.own hsrc (by unfold maxLen; omega) (by omega) hB7.size rfl rfl rfl rfl ?_)
            intro v8 w8 L8
            have was8 := Lib.hid (was7.push (m := ⟨A1, n1, c1, f1⟩) (ft.below hb7) L8)
            have st8 := Lib.hid (Stays.push st7 was7 L8 hB7.size)
            have bx8 := Lib.hid (was7.push_box bx7 L8)
            have hB8 := Lib.hid (show Below w.heap.size w w8 from L8.below hB7 hB7.size (fun g hg => (was7.own.lt g hg).1))
            have HR8 := Lib.hid (show RowsP D1 (ms ++ [⟨A1, n1, c1, f1⟩]) from by rw [H2.out]; exact rows_step HRows.out (by rw [← H2.out]; exact hp1))
            have HD8 := Lib.hid HD1
            have HQ8 := Lib.hid hq1
            clear was7 st7 bx7 L8 hsrc hB7 hb7 hw7 was5 st5 bx5 hB6 ft hp1 HD1 hq1
            go_wp2_with fail
            exact ⟨⟨j + 1, D1, _, _, _, _, _, _, _, by omega, rfl, was8, HD8, HR8, HQ8, bx8, st8, hB8⟩, by simp only [intOf]; omega⟩
          · subst h2
            obtain ⟨k0, k1, k2, k3, k4⟩ := cells5v bx4
            obtain ⟨l0, l1, l2, l3, l4⟩ := cells5v by4
            go_wp2_with fail
            refine (same_yes st4.at_ g4.at_ HR.out (by omega)).mono ?_
            rintro e w5 ⟨rfl, hb⟩
            have was8 := Lib.hid (was4.below hb)
            have st8 := Lib.hid (st4.below hb)
            have bx8 := Lib.hid (bx4.below hb)
            have hB8 := Lib.hid (show Below w.heap.size w w5 from hB4.trans (hb.mono hB4.size))
            have HD8 : Hid (LiveF fl (60 + (j + 1)) D1) := Lib.hid (safe_stay HD.out)
            have HQ8 : Hid (D1.queue.length ≤ j + 1) := Lib.hid (Nat.le_succ_of_le HQ.out)
            clear k0 k1 k2 k3 k4 l0 l1 l2 l3 l4 bx4 by4 g4 st4 was4 hB4 hb
            go_wp2_with fail
            exact ⟨⟨j + 1, D1, ms, _, _, _, _, _, _, by omega, rfl, was8, HD8, HRows, HQ8, bx8, st8, hB8⟩, by simp only [intOf]; omega⟩
      · have hje : j = L := by omega
        subst hje
        obtain ⟨Aw, cw, rfl, hcw⟩ := own_slice HWas.out.own
        have hNm : ms.length = m + 1 := by
          have h1 := rows_len HRows.out
          have h2 := HSt.out.at_.len.2
          omega
        have hmj : m ≤ 30 := by
          have h2 := HSt.out.at_.len.2
          have h3 := HQ.out
          omega
        obtain ⟨N, hN⟩ : ∃ N, N = ms.length := ⟨_, rfl⟩
        rw [← hN] at hNm hcw
        have HN := Lib.hid hN
        obtain ⟨Q, hQ, q0, q1⟩ := tmod_low keep (show 0 < N by omega)
        obtain ⟨K, hK, hKn⟩ := place_of Q (show 0 < N by omega)
        have hKm : K ≤ m := by omega
        have hn0 : ¬ (N : Int) = 0 := by omega
        obtain ⟨gW, cW, mK, eW, hcW, hgW, hmK, _, _⟩ := HWas.out.at_ (k := K) (by omega)
        cases eW
        have HmK := Lib.hid hmK
        have HD' := Lib.hid HD.out.run
        rw [← hN]
        have HNm := Lib.hid hNm
        have hNb : N ≤ 31 := by omega
        have hK2 : (Q + (N : Int)).tmod N = (K : Int) := by rw [Int.tmod_eq_emod_of_nonneg (by omega)]; exact hK
        clear hN hmK hcW hNm
        obtain ⟨k0, k1, k2, k3, k4⟩ := cells5v HBx.out
        go_wp2_with fail
        have hHB := HB.out
        refine (crash_step (K : Int) 0 HSt.out.at_ HD.out.run (by omega)).mono ?_
        rintro e w1 ⟨⟨Aq, nq, cq, Bq, mq, kq, rfl, g⟩, hb⟩
        have kb : Below wr.heap.size wr w1 := hb
        obtain ⟨hwf, hwq, hwd⟩ := whole_crash HD.out (K := K) (by have := HSt.out.at_.len.2; omega)
        obtain rfl : mq = 0 := by have h1 := g.len.2; rw [hwq] at h1; simpa using h1.symm
        have Hwf := Lib.hid hwf
        rw [hwd]
        obtain ⟨D2, hD2⟩ : ∃ D2, D2 = crashP D (K : Int) 0 := ⟨_, rfl⟩
        rw [← hD2] at g Hwf hwd ⊢
        clear hb hwf hwq hD2 k0 k1 k2 k3 k4
        go_upto_region 20 with fail
        obtain ⟨zq, hz⟩ : ∃ z, z = w1.heap.size := ⟨_, rfl⟩
        obtain ⟨w2, hw⟩ : ∃ x, x = w1.alloc (.cells #[.slice Aq nq cq, .slice Bq 0 kq, .int .i64 D2.quota, .int .i64 D2.fuse, .bool false] 25) := ⟨_, rfl⟩
        have hb : Below w1.heap.size w1 w2 := by rw [hw]; exact below_al (below_d0 w1) _
        have xq : Box5 w2 zq 25 (.slice Aq nq cq) (.slice Bq 0 kq) (.int .i64 D2.quota) (.int .i64 D2.fuse) (.bool false) := by rw [hw, hz]; exact World.alloc_heap_new w1 _
        rw [← hw, ← hz]
        replace g := g.on hb
        replace kb := below_on kb hb
        clear hb hw hz hwd
        obtain ⟨k0, k1, k2, k3, k4⟩ := cells5v (HBx.out.below kb)
        go_wp2_with fail
        refine (crash_step (K : Int) torn (HSt.out.below kb).at_ HD.out.run (by omega)).mono ?_
        rintro e w3 ⟨⟨Ap, np, cp, Bp, mp, kp, rfl, gp⟩, hb⟩
        replace xq := xq.below hb
        replace g := g.on hb
        replace kb := below_on kb hb
        obtain ⟨hpf, _, _⟩ := part_crash HD.out (K := K) (by have := HSt.out.at_.len.2; omega) torn
        have Hpf := Lib.hid hpf
        obtain ⟨D3, hD3⟩ : ∃ D3, D3 = crashP D (K : Int) torn := ⟨_, rfl⟩
        rw [← hD3] at gp Hpf ⊢
        clear hb hpf hD3 k0 k1 k2 k3 k4
        go_upto_region 21 with fail
        obtain ⟨zp, hz⟩ : ∃ z, z = w3.heap.size := ⟨_, rfl⟩
        obtain ⟨w4, hw⟩ : ∃ x, x = w3.alloc (.cells #[.slice Ap np cp, .slice Bp mp kp, .int .i64 D3.quota, .int .i64 D3.fuse, .bool D3.dead] 25) := ⟨_, rfl⟩
        have hb : Below w3.heap.size w3 w4 := by rw [hw]; exact below_al (below_d0 w3) _
        have xp : Box5 w4 zp 25 (.slice Ap np cp) (.slice Bp mp kp) (.int .i64 D3.quota) (.int .i64 D3.fuse) (.bool D3.dead) := by rw [hw, hz]; exact World.alloc_heap_new w3 _
        rw [← hw, ← hz]
        have kb4 := below_on kb hb
        have Xq := Lib.hid (show ∀ W, Below w4.heap.size w4 W → Box5 W zq 25 (.slice Aq nq cq) (.slice Bq 0 kq) (.int .i64 D2.quota) (.int .i64 D2.fuse) (.bool false) from fun W hW => (xq.below hb).below hW)
        have Gq := Lib.hid (show ∀ W, Below w4.heap.size w4 W → DAt W D2 Aq nq cq Bq 0 kq from fun W hW => (g.on hb).on hW)
        have Xp := Lib.hid (show ∀ W, Below w4.heap.size w4 W → Box5 W zp 25 (.slice Ap np cp) (.slice Bp mp kp) (.int .i64 D3.quota) (.int .i64 D3.fuse) (.bool D3.dead) from fun W hW => xp.below hW)
        have Gp := Lib.hid (show ∀ W, Below w4.heap.size w4 W → DAt W D3 Ap np cp Bp mp kp from fun W hW => (gp.on hb).on hW)
        have Xx := Lib.hid (show ∀ W, Below w4.heap.size w4 W → Box5 W zx 25 (.slice A n c) (.slice B m k) (.int .i64 D.quota) (.int .i64 D.fuse) (.bool D.dead) from fun W hW => (HBx.out.below kb4).below hW)
        have Gx := Lib.hid (show ∀ W, Below w4.heap.size w4 W → DAt W D A n c B m k from fun W hW => ((HSt.out.below kb4).at_).on hW)
        have Xw := Lib.hid (show ∀ W, Below w4.heap.size w4 W → Was w.heap.size W (.slice (some ⟨gW, 0, none⟩) N cw) ms from fun W hW => by rw [HN.out]; exact (HWas.out.below kb4).below hW)
        have HB4 := Lib.hid (HB.out.trans (kb4.mono HB.out.size))
        have hsub : IntKind.i64.wrap ((N : Int) - 1) = (m : Int) := by have := HNm.out; rw [IntKind.wrap_i64]; omega
        have hK0 : (0 : Int) ≤ (K : Int) := by omega
        have hK1 : (K : Int) < (N : Int) := by omega
        have hNw : N ≤ cw := hcw
        have HmKp := Lib.hid (rows_at HRows.out HmK.out)
        have HFq := Lib.hid (show ∀ W, Below w4.heap.size w4 W → ∃ fs, Fs W W.heap.size Aq nq fs ∧ fs.map FileM.pure = mK.pure from fun W hW => by
          obtain ⟨fs, h1, h2⟩ := (Gq.out W hW).files
          exact ⟨fs, h1, by rw [h2, Hwf.out, HmKp.out]⟩)
        have Hat := Lib.hid (show ∀ W k m', Below w4.heap.size w4 W → ms[k]? = some m' → W.cell? ⟨gW, k, none⟩ = some (.slice m'.A m'.n m'.c) ∧ FT W m'.A m'.n m'.c m'.fs from fun W k m' hW hk => was_at (Xw.out W hW) hk)
        clear xq g xp gp kb hb hw hz HBx HSt HWas kb4 HB q0 q1 hQ hK hK2
        go_cut [133] (fun s wx => s = .bool false ∧ Below w4.heap.size w4 wx)
        case first =>
          as_aux_lemma =>
            refine wp_region_held_drew (S := (fun W => Below w4.heap.size w4 W)) (by kernel_rfl) (below_dr (below_d0 _)) (fun hHeld => ?_)
            refine take_at (i := 0) (d := 107) (oi := ?o20) (v := ?v20) ?hi20 ?hd20 (by kernel_rfl) (by kernel_rfl) (by kernel_rfl) ?hw20 ?hy20 ?hq20 (by assumption) ?r20
            case hi20 => (simp only [List.getElem?_toArray, List.getElem?_cons_zero]; rfl)
            case hd20 => rfl
            case hw20 => rfl
            case hy20 => ((intro w hSw; (try dsimp only at hSw); go_simp) <;> (with_reducible rfl))
            case hq20 => exact fun _ _ _ h => h
            simp only [List.set_cons_succ, List.set_cons_zero]
            refine take_at (i := 1) (d := 108) (oi := ?o21) (v := ?v21) ?hi21 ?hd21 (by kernel_rfl) (by kernel_rfl) (by kernel_rfl) ?hw21 ?hy21 ?hq21 (by assumption) ?r21
            case hi21 => (simp only [List.getElem?_toArray, List.getElem?_cons_succ, List.getElem?_cons_zero]; rfl)
            case hd21 => rfl
            case hw21 => rfl
            case hy21 => ((intro w hSw; (try dsimp only at hSw); have hcs := cells5v (Xx.out _ hSw); obtain ⟨k0, k1, k2, k3, k4⟩ := hcs; go_simp) <;> (with_reducible rfl))
            case hq21 => exact fun _ _ _ h => h
            simp only [List.set_cons_succ, List.set_cons_zero]
            refine take_at (i := 2) (d := 109) (oi := ?o22) (v := ?v22) ?hi22 ?hd22 (by kernel_rfl) (by kernel_rfl) (by kernel_rfl) ?hw22 ?hy22 ?hq22 (by assumption) ?r22
            case hi22 => (simp only [List.getElem?_toArray, List.getElem?_cons_succ, List.getElem?_cons_zero]; rfl)
            case hd22 => rfl
            case hw22 => rfl
            case hy22 => ((intro w hSw; (try dsimp only at hSw); go_simp) <;> (with_reducible rfl))
            case hq22 => exact fun _ _ _ h => h
            simp only [List.set_cons_succ, List.set_cons_zero]
            refine take_at (i := 3) (d := 110) (oi := ?o23) (v := ?v23) ?hi23 ?hd23 (by kernel_rfl) (by kernel_rfl) (by kernel_rfl) ?hw23 ?hy23 ?hq23 (by assumption) ?r23
            case hi23 => (simp only [List.getElem?_toArray, List.getElem?_cons_succ, List.getElem?_cons_zero]; rfl)
            case hd23 => rfl
            case hw23 => rfl
            case hy23 => ((intro w hSw; (try dsimp only at hSw); go_simp) <;> (with_reducible rfl))
            case hq23 => exact fun _ _ _ h => h
            simp only [List.set_cons_succ, List.set_cons_zero]
            refine take_at (i := 4) (d := 111) (oi := ?o24) (v := ?v24) ?hi24 ?hd24 (by kernel_rfl) (by kernel_rfl) (by kernel_rfl) ?hw24 ?hy24 ?hq24 (by assumption) ?r24
            case hi24 => (simp only [List.getElem?_toArray, List.getElem?_cons_succ, List.getElem?_cons_zero]; rfl)
            case hd24 => rfl
            case hw24 => rfl
            case hy24 => ((intro w hSw; (try dsimp only at hSw); go_simp) <;> (with_reducible rfl))
            case hq24 => exact fun _ _ _ h => h
            simp only [List.set_cons_succ, List.set_cons_zero]
            refine take_at (i := 5) (d := 112) (oi := ?o25) (v := ?v25) ?hi25 ?hd25 (by kernel_rfl) (by kernel_rfl) (by kernel_rfl) ?hw25 ?hy25 ?hq25 (by assumption) ?r25
            case hi25 => (simp only [List.getElem?_toArray, List.getElem?_cons_succ, List.getElem?_cons_zero]; rfl)
            case hd25 => rfl
            case hw25 => rfl
            case hy25 => ((intro w hSw; (try dsimp only at hSw); go_simp) <;> (with_reducible rfl))
            case hq25 => exact fun _ _ _ h => h
            simp only [List.set_cons_succ, List.set_cons_zero]
            refine take_at (i := 6) (d := 113) (oi := ?o26) (v := ?v26) ?hi26 ?hd26 (by kernel_rfl) (by kernel_rfl) (by kernel_rfl) ?hw26 ?hy26 ?hq26 (by assumption) ?r26
            case hi26 => (simp only [List.getElem?_toArray, List.getElem?_cons_succ, List.getElem?_cons_zero]; rfl)
            case hd26 => rfl
            case hw26 => rfl
            case hy26 => ((intro w hSw; (try dsimp only at hSw); go_simp) <;> (with_reducible rfl))
            case hq26 => exact fun _ _ _ h => h
            simp only [List.set_cons_succ, List.set_cons_zero]
            refine take_at (i := 7) (d := 114) (oi := ?o27) (v := ?v27) ?hi27 ?hd27 (by kernel_rfl) (by kernel_rfl) (by kernel_rfl) ?hw27 ?hy27 ?hq27 (by assumption) ?r27
            case hi27 => (simp only [List.getElem?_toArray, List.getElem?_cons_succ, List.getElem?_cons_zero]; rfl)
            case hd27 => rfl
            case hw27 => rfl
            case hy27 => ((intro w hSw; (try dsimp only at hSw); go_simp) <;> (with_reducible rfl))
            case hq27 => exact fun _ _ _ h => h
            simp only [List.set_cons_succ, List.set_cons_zero]
            refine take_at (i := 8) (d := 115) (oi := ?o28) (v := ?v28) ?hi28 ?hd28 (by kernel_rfl) (by kernel_rfl) (by kernel_rfl) ?hw28 ?hy28 ?hq28 (by assumption) ?r28
            case hi28 => (simp only [List.getElem?_toArray, List.getElem?_cons_succ, List.getElem?_cons_zero]; rfl)
            case hd28 => rfl
            case hw28 => rfl
            case hy28 => ((intro w hSw; (try dsimp only at hSw); go_simp) <;> (with_reducible rfl))
            case hq28 => exact fun _ _ _ h => h
            simp only [List.set_cons_succ, List.set_cons_zero]
            refine take_at (i := 9) (d := 116) (oi := ?o29) (v := ?v29) ?hi29 ?hd29 (by kernel_rfl) (by kernel_rfl) (by kernel_rfl) ?hw29 ?hy29 ?hq29 (by assumption) ?r29
            case hi29 => (simp only [List.getElem?_toArray, List.getElem?_cons_succ, List.getElem?_cons_zero]; rfl)
            case hd29 => rfl
            case hw29 => rfl
            case hy29 => ((intro w hSw; (try dsimp only at hSw); have hcs := cells5v (Xq.out _ hSw); obtain ⟨k0, k1, k2, k3, k4⟩ := hcs; go_simp) <;> (with_reducible rfl))
            case hq29 => exact fun _ _ _ h => h
            simp only [List.set_cons_succ, List.set_cons_zero]
            refine take_at (i := 10) (d := 117) (oi := ?o30) (v := ?v30) ?hi30 ?hd30 (by kernel_rfl) (by kernel_rfl) (by kernel_rfl) ?hw30 ?hy30 ?hq30 (by assumption) ?r30
            case hi30 => (simp only [List.getElem?_toArray, List.getElem?_cons_succ, List.getElem?_cons_zero]; rfl)
            case hd30 => rfl
            case hw30 => rfl
            case hy30 => ((intro w hSw; (try dsimp only at hSw); go_simp) <;> (with_reducible rfl))
            case hq30 => exact fun _ _ _ h => h
            simp only [List.set_cons_succ, List.set_cons_zero]
            refine take_at (i := 11) (d := 118) (oi := ?o31) (v := ?v31) ?hi31 ?hd31 (by kernel_rfl) (by kernel_rfl) (by kernel_rfl) ?hw31 ?hy31 ?hq31 (by assumption) ?r31
            case hi31 => (simp only [List.getElem?_toArray, List.getElem?_cons_succ, List.getElem?_cons_zero]; rfl)
            case hd31 => rfl
            case hw31 => rfl
            case hy31 => ((intro w hSw; (try dsimp only at hSw); go_simp) <;> (with_reducible rfl))
            case hq31 => exact fun _ _ _ h => h
            simp only [List.set_cons_succ, List.set_cons_zero]
            refine take_at (i := 12) (d := 119) (oi := ?o32) (v := ?v32) ?hi32 ?hd32 (by kernel_rfl) (by kernel_rfl) (by kernel_rfl) ?hw32 ?hy32 ?hq32 (by assumption) ?r32
            case hi32 => (simp only [List.getElem?_toArray, List.getElem?_cons_succ, List.getElem?_cons_zero]; rfl)
            case hd32 => rfl
            case hw32 => rfl
            case hy32 => ((intro w hSw; (try dsimp only at hSw); go_simp) <;> (with_reducible rfl))
            case hq32 => exact fun _ _ _ h => h
            simp only [List.set_cons_succ, List.set_cons_zero]
            refine take_at (i := 13) (d := 120) (oi := ?o33) (v := ?v33) ?hi33 ?hd33 (by kernel_rfl) (by kernel_rfl) (by kernel_rfl) ?hw33 ?hy33 ?hq33 (by assumption) ?r33
            case hi33 => (simp only [List.getElem?_toArray, List.getElem?_cons_succ, List.getElem?_cons_zero]; rfl)
            case hd33 => rfl
            case hw33 => rfl
            case hy33 => ((intro w hSw; (try dsimp only at hSw); go_simp) <;> (with_reducible rfl))
            case hq33 => exact fun _ _ _ h => h
            simp only [List.set_cons_succ, List.set_cons_zero]
            refine take_at (i := 14) (d := 121) (oi := ?o34) (v := ?v34) ?hi34 ?hd34 (by kernel_rfl) (by kernel_rfl) (by kernel_rfl) ?hw34 ?hy34 ?hq34 (by assumption) ?r34
            case hi34 => (simp only [List.getElem?_toArray, List.getElem?_cons_succ, List.getElem?_cons_zero]; rfl)
            case hd34 => rfl
            case hw34 => rfl
            case hy34 => ((intro w hSw; (try dsimp only at hSw); go_simp) <;> (with_reducible rfl))
            case hq34 => exact fun _ _ _ h => h
            simp only [List.set_cons_succ, List.set_cons_zero]
            refine take_at (i := 15) (d := 122) (oi := ?o35) (v := ?v35) ?hi35 ?hd35 (by kernel_rfl) (by kernel_rfl) (by kernel_rfl) ?hw35 ?hy35 ?hq35 (by assumption) ?r35
            case hi35 => (simp only [List.getElem?_toArray, List.getElem?_cons_succ, List.getElem?_cons_zero]; rfl)
            case hd35 => rfl
            case hw35 => rfl
            case hy35 => ((intro w hSw; (try dsimp only at hSw); have hcs := cells5v (Xq.out _ hSw); obtain ⟨k0, k1, k2, k3, k4⟩ := hcs; go_simp) <;> (with_reducible rfl))
            case hq35 => exact fun _ _ _ h => h
            simp only [List.set_cons_succ, List.set_cons_zero]
            refine take_at (i := 16) (d := 123) (oi := ?o36) (v := ?v36) ?hi36 ?hd36 (by kernel_rfl) (by kernel_rfl) (by kernel_rfl) ?hw36 ?hy36 ?hq36 (by assumption) ?r36
            case hi36 => (simp only [List.getElem?_toArray, List.getElem?_cons_succ, List.getElem?_cons_zero]; rfl)
            case hd36 => rfl
            case hw36 => rfl
            case hy36 => ((intro w hSw; (try dsimp only at hSw); go_simp) <;> (with_reducible rfl))
            case hq36 => exact fun _ _ _ h => h
            simp only [List.set_cons_succ, List.set_cons_zero]
            refine take_at (i := 17) (d := 124) (oi := ?o37) (v := ?v37) ?hi37 ?hd37 (by kernel_rfl) (by kernel_rfl) (by kernel_rfl) ?hw37 ?hy37 ?hq37 (by assumption) ?r37
            case hi37 => (simp only [List.getElem?_toArray, List.getElem?_cons_succ, List.getElem?_cons_zero]; rfl)
            case hd37 => rfl
            case hw37 => rfl
            case hy37 => ((intro w hSw; (try dsimp only at hSw); go_simp) <;> (with_reducible rfl))
            case hq37 => exact fun _ _ _ h => h
            simp only [List.set_cons_succ, List.set_cons_zero]
            refine take_at (i := 18) (d := 125) (oi := ?o38) (v := ?v38) ?hi38 ?hd38 (by kernel_rfl) (by kernel_rfl) (by kernel_rfl) ?hw38 ?hy38 ?hq38 (by assumption) ?r38
            case hi38 => (simp only [List.getElem?_toArray, List.getElem?_cons_succ, List.getElem?_cons_zero]; rfl)
            case hd38 => rfl
            case hw38 => rfl
            case hy38 => ((intro w hSw; (try dsimp only at hSw); go_simp) <;> (with_reducible rfl))
            case hq38 => exact fun _ _ _ h => h
            simp only [List.set_cons_succ, List.set_cons_zero]
            refine take_at (i := 19) (d := 126) (oi := ?o39) (v := ?v39) ?hi39 ?hd39 (by kernel_rfl) (by kernel_rfl) (by kernel_rfl) ?hw39 ?hy39 ?hq39 (by assumption) ?r39
            case hi39 => (simp only [List.getElem?_toArray, List.getElem?_cons_succ, List.getElem?_cons_zero]; rfl)
            case hd39 => rfl
            case hw39 => rfl
            case hy39 => ((intro w hSw; (try dsimp only at hSw); have hcs := cells5v (Xq.out _ hSw); obtain ⟨k0, k1, k2, k3, k4⟩ := hcs; go_simp) <;> (with_reducible rfl))
            case hq39 => exact fun _ _ _ h => h
            simp only [List.set_cons_succ, List.set_cons_zero]
            refine take_at (i := 20) (d := 127) (oi := ?o40) (v := ?v40) ?hi40 ?hd40 (by kernel_rfl) (by kernel_rfl) (by kernel_rfl) ?hw40 ?hy40 ?hq40 (by assumption) ?r40
            case hi40 => (simp only [List.getElem?_toArray, List.getElem?_cons_succ, List.getElem?_cons_zero]; rfl)
            case hd40 => rfl
            case hw40 => rfl
            case hy40 => ((intro w hSw; (try dsimp only at hSw); go_simp) <;> (with_reducible rfl))
            case hq40 => exact fun _ _ _ h => h
            simp only [List.set_cons_succ, List.set_cons_zero]
            refine take_at (i := 21) (d := 128) (oi := ?o41) (v := ?v41) ?hi41 ?hd41 (by kernel_rfl) (by kernel_rfl) (by kernel_rfl) ?hw41 ?hy41 ?hq41 (by assumption) ?r41
            case hi41 => (simp only [List.getElem?_toArray, List.getElem?_cons_succ, List.getElem?_cons_zero]; rfl)
            case hd41 => rfl
            case hw41 => rfl
            case hy41 => ((intro w hSw; (try dsimp only at hSw); go_simp) <;> (with_reducible rfl))
            case hq41 => exact fun _ _ _ h => h
            simp only [List.set_cons_succ, List.set_cons_zero]
            refine take_at (i := 22) (d := 129) (oi := ?o42) (v := ?v42) ?hi42 ?hd42 (by kernel_rfl) (by kernel_rfl) (by kernel_rfl) ?hw42 ?hy42 ?hq42 (by assumption) ?r42
            case hi42 => (simp only [List.getElem?_toArray, List.getElem?_cons_succ, List.getElem?_cons_zero]; rfl)
            case hd42 => rfl
            case hw42 => rfl
            case hy42 => ((intro w hSw; (try dsimp only at hSw); go_simp) <;> (with_reducible rfl))
            case hq42 => exact fun _ _ _ h => h
            simp only [List.set_cons_succ, List.set_cons_zero]
            refine take_at (i := 23) (d := 130) (oi := ?o43) (v := ?v43) ?hi43 ?hd43 (by kernel_rfl) (by kernel_rfl) (by kernel_rfl) ?hw43 ?hy43 ?hq43 (by assumption) ?r43
            case hi43 => (simp only [List.getElem?_toArray, List.getElem?_cons_succ, List.getElem?_cons_zero]; rfl)
            case hd43 => rfl
            case hw43 => rfl
            case hy43 => ((intro w hSw; (try dsimp only at hSw); have hcs := (Hat.out _ K mK hSw HmK.out).1; go_simp) <;> (with_reducible rfl))
            case hq43 => exact fun _ _ _ h => h
            simp only [List.set_cons_succ, List.set_cons_zero]
            refine call_at (i := 24) (d := 131) (oi := ?o44) (f := ?f44) (args := ?a44) ?hi44 ?hd44 (by kernel_rfl) ?hw44 ?he44 ?hc44
            case hi44 => (simp only [List.getElem?_toArray, List.getElem?_cons_succ, List.getElem?_cons_zero]; rfl)
            case hd44 => rfl
            case hw44 => rfl
            case he44 => (go_simp; constructor <;> with_reducible rfl)
            obtain ⟨fq, hfq, hpq⟩ := HFq.out _ hHeld
            have hft := (Hat.out _ K mK hHeld HmK.out).2
            refine Calls.mono (files_yes hfq hft.fs (by rw [← hfq.len, ← List.length_map (f := FileM.pure), hpq, HmKp.out]; have h1 := all_length D.files (D.queue.take K); have h2 := HD'.out.files; have h3 := HD'.out.queue; have h4 : (D.queue.take K).length ≤ D.queue.length := by { rw [List.length_take]; exact Nat.min_le_right _ _ }; omega) hpq) ?_
            rintro e wq ⟨rfl, hb1⟩
            clear hft hfq hpq fq
            have kb := below_on hHeld hb1
            clear hHeld hb1
            refine ⟨_, rfl, kb, fun hHeld => ?_⟩
            simp only [List.set_cons_succ, List.set_cons_zero]
            refine take_at (i := 25) (d := 132) (oi := ?o45) (v := ?v45) ?hi45 ?hd45 (by kernel_rfl) (by kernel_rfl) (by kernel_rfl) ?hw45 ?hy45 ?hq45 (by assumption) ?r45
            case hi45 => (simp only [List.getElem?_toArray, List.getElem?_cons_succ, List.getElem?_cons_zero]; rfl)
            case hd45 => rfl
            case hw45 => rfl
            case hy45 => ((intro w hSw; (try dsimp only at hSw); go_simp) <;> (with_reducible rfl))
            case hq45 => exact fun _ _ _ h => h
            simp only [List.set_cons_succ, List.set_cons_zero]
            refine take_at (i := 26) (d := 133) (oi := ?o46) (v := ?v46) ?hi46 ?hd46 (by kernel_rfl) (by kernel_rfl) (by kernel_rfl) ?hw46 ?hy46 ?hq46 (by assumption) ?r46
            case hi46 => (simp only [List.getElem?_toArray, List.getElem?_cons_succ, List.getElem?_cons_zero]; rfl)
            case hd46 => rfl
            case hw46 => rfl
            case hy46 => ((intro w hSw; (try dsimp only at hSw); go_simp) <;> (with_reducible rfl))
            case hq46 => exact fun _ _ _ h => h
            simp only [List.set_cons_succ, List.set_cons_zero]
            refine wpAnyH_done (by kernel_rfl) ?_ _
            go_wp2_with fail
            go_meet
            exact ⟨rfl, hHeld⟩
        case rest =>
          obtain ⟨rfl, kb⟩ := hcut
          obtain ⟨w5, rfl⟩ : ∃ w5, w5 = wc := ⟨_, rfl⟩
          obtain ⟨K2, hK2, hK3, hK4, hK5⟩ : ∃ K2 : Nat, (∀ ts t w, (Builtin.min_ ts t #[.int .i64 ((K : Int) + 1), .int .i64 (m : Int)]).run Try.prog w = .ok (.int .i64 (K2 : Int)) w) ∧ K2 < N ∧ K2 ≤ K + 1 ∧ (K2 = K + 1 ∨ K2 = m) := by
            obtain ⟨y, h2, b1, b2, b3⟩ := min2_run (P := Try.prog) ((K : Int) + 1) (m : Int)
            have h9 := HNm.out
            refine ⟨y.toNat, ?_, by omega, by omega, by omega⟩
            rw [show ((y.toNat : Nat) : Int) = y by omega]
            exact h2
          have hadd : IntKind.i64.wrap ((K : Int) + 1) = (K : Int) + 1 := by rw [IntKind.wrap_i64]; omega
          obtain ⟨mn, hmn⟩ : ∃ mn, ms[K2]? = some mn := ⟨_, List.getElem?_eq_getElem (by rw [← HN.out]; exact hK3)⟩
          have Hmn := Lib.hid hmn
          obtain ⟨hcn, _⟩ := Hat.out w5 K2 mn kb hmn
          have hK20 : (0 : Int) ≤ (K2 : Int) := by omega
          have hK21 : (K2 : Int) < (N : Int) := by omega
          clear hmn
          go_upto_region 24 with fail
          obtain ⟨An, hAn⟩ : ∃ a, mn.A = a := ⟨_, rfl⟩
          obtain ⟨AK, hAK⟩ : ∃ a, mK.A = a := ⟨_, rfl⟩
          rw [hAn]
          have Hmp := Lib.hid (next_row HRows.out (by have h1 := (Gx.out _ kb).len.2; omega) hK4 (by have h1 := (Gx.out _ kb).len.2; rw [h1]; exact hK5) Hmn.out)
          obtain ⟨fp, hfp, hpp⟩ := (Gp.out _ kb).files
          have Hfp := Lib.hid (show ∀ W, Below w5.heap.size w5 W → Fs W W.heap.size Ap np fp from fun W hW => hfp.on hW hW.size)
          have Hpp := Lib.hid (hpp.trans Hpf.out)
          have Xp5 := Lib.hid (show ∀ W, Below w5.heap.size w5 W → Box5 W zp 25 (.slice Ap np cp) (.slice Bp mp kp) (.int .i64 D3.quota) (.int .i64 D3.fuse) (.bool D3.dead) from fun W hW => Xp.out W (below_on kb hW))
          have Hn5 := Lib.hid (show ∀ W, Below w5.heap.size w5 W → FT W An mn.n mn.c mn.fs from fun W hW => by rw [← hAn]; exact (Hat.out W K2 mn (below_on kb hW) Hmn.out).2)
          have HK5 := Lib.hid (show ∀ W, Below w5.heap.size w5 W → W.cell? ⟨gW, K, none⟩ = some (.slice AK mK.n mK.c) ∧ FT W AK mK.n mK.c mK.fs from fun W hW => by rw [← hAK]; exact Hat.out W K mK (below_on kb hW) HmK.out)
          have HB5 := Lib.hid (HB4.out.trans (kb.mono HB4.out.size))
          have Hkb := Lib.hid kb
          have Hin := Lib.hid (⟨hK2, hK3, hK4, hK5⟩ : _ ∧ _ ∧ _ ∧ _)
          have Hfine := Lib.hid (show ∀ f ∈ fp, (∃ g ∈ mn.fs, Mt g f) ∨ ∃ g ∈ mK.fs, Mq g f from fun f hf =>
            torn_fine Hpp.out Hmp.out HmKp.out (fun x hx => (hfp.ok x hx).rd.1) (fun x hx => ((Hn5.out _ (below_d0 _)).own x hx).len) hf)
          have hpl := hfp.len
          have hnl : mn.fs.length = mn.n := (Hn5.out _ (below_d0 _)).fs.len
          have hKl : mK.fs.length = mK.n := (HK5.out _ (below_d0 _)).2.fs.len
          have Hl := Lib.hid (⟨hpl, hnl, hKl⟩ : _ ∧ _ ∧ _)
          have hnp : np ≤ 100000 := by
            have h1 := congrArg List.length hpp
            rw [List.length_map, hpl, Hpf.out] at h1
            have h2 := left_len HD'.out (by omega) (K := K) (torn := torn)
            omega
          have hnn : mn.n ≤ 100000 := row_len HD'.out (by omega) hnl Hmp.out
          have hKn' : mK.n ≤ 100000 := row_len HD'.out (by omega) hKl HmKp.out
          clear hAn hAK hfp hpp hpl hnl hKl hcn hadd hK2 hK3 hK4 hK5 hK20 hK21 kb
          go_wp2_with fail
          go_loopw [17] (fun s17 wr => ∃ i : Nat, i ≤ np ∧ s17 = .int .i64 i ∧ Hid (Below w5.heap.size w5 wr)) (fun s _ => np - (intOf s).toNat)
          case atStart => exact ⟨0, by omega, rfl, Lib.hid (below_d0 w5)⟩
          case round =>
            obtain ⟨i, hi, rfl, HW5⟩ := hrel
            obtain ⟨k0, k1, k2, k3, k4⟩ := cells5v (Xp5.out _ HW5.out)
            by_cases hilt : i < np
            · have hi0 : (0 : Int) ≤ (i : Int) := by omega
              have hi1 : (i : Int) < (np : Int) := by omega
              have hiw : IntKind.i64.wrap ((i : Int) + 1) = ((i + 1 : Nat) : Int) := by rw [IntKind.wrap_i64]; omega
              obtain ⟨bf, of, f, rfl, hbf, hfi, c0, c1, hfok⟩ := (Hfp.out _ HW5.out).at_ hilt
              have hmem : f ∈ fp := List.mem_of_getElem? hfi
              go_upto_region 28 with fail
              obtain ⟨zf, hz⟩ : ∃ z, z = wr.heap.size := ⟨_, rfl⟩
              obtain ⟨w6, hw⟩ : ∃ x, x = wr.alloc (.cells #[.string f.name, .slice f.p.A f.p.n f.p.c] 47) := ⟨_, rfl⟩
              have hb6 : Below wr.heap.size wr w6 := by rw [hw]; exact below_al (below_d0 wr) _
              have xf : BoxF w6 zf f := by rw [hw, hz]; exact World.alloc_heap_new wr _
              rw [← hw, ← hz]
              have kb6 := below_on HW5.out hb6
              have Xf := Lib.hid (show ∀ W, Below w6.heap.size w6 W → BoxF W zf f from fun W hW => xf.below hW)
              have Hfo := Lib.hid (show ∀ W, Below w6.heap.size w6 W → f.p.Ok W W.heap.size from fun W hW => (hfok.on hb6 hb6.size).on hW hW.size)
              have Hfm := Lib.hid hmem
              have Hn6 := Lib.hid (show ∀ W, Below w6.heap.size w6 W → FT W An mn.n mn.c mn.fs from fun W hW => Hn5.out W (below_on kb6 hW))
              have HK6 := Lib.hid (show ∀ W, Below w6.heap.size w6 W → W.cell? ⟨gW, K, none⟩ = some (.slice AK mK.n mK.c) ∧ FT W AK mK.n mK.c mK.fs from fun W hW => HK5.out W (below_on kb6 hW))
              have Hkb6 := Lib.hid kb6
              clear hz hw hb6 xf kb6 hfok hmem hfi c0 c1 hbf k0 k1 k2 k3 k4
              go_wp2_with fail
              go_loopw [19, 20] (fun s19 s20 W => ∃ (t : Nat) (bv : Bool), t ≤ mn.n ∧ s19 = .bool bv ∧ s20 = .int .i64 t ∧ Hid (bv = true ↔ ∃ g ∈ mn.fs.take t, Mt g f) ∧ Hid (Below w6.heap.size w6 W)) (fun _ s _ => mn.n - (intOf s).toNat)
              case atStart => exact ⟨0, false, by omega, rfl, rfl, Lib.hid (by simp), Lib.hid (below_d0 w6)⟩
              case round =>
                obtain ⟨t, bv, ht, rfl, rfl, Hbv, HW6⟩ := hrel
                by_cases htlt : t < mn.n
                · have ht0 : (0 : Int) ≤ (t : Int) := by omega
                  have ht1 : (t : Int) < (mn.n : Int) := by omega
                  have htw : IntKind.i64.wrap ((t : Int) + 1) = ((t + 1 : Nat) : Int) := by rw [IntKind.wrap_i64]; omega
                  obtain ⟨bg, og, gg, rfl, hbg, hgi, d0, d1, hgok⟩ := (Hn6.out _ HW6.out).fs.at_ htlt
                  have Hg := Lib.hid (show ∀ W, Below wr.heap.size wr W → W.cell? ⟨bg, og + t * 2, none⟩ = some (.string gg.name) ∧ W.cell? ⟨bg, og + t * 2 + 1, none⟩ = some (.slice gg.p.A gg.p.n gg.p.c) ∧ gg.p.Ok W W.heap.size from fun W hW =>
                    ⟨(cells_below hW hbg).1.trans d0, (cells_below hW hbg).1.trans d1, hgok.on hW hW.size⟩)
                  have Xf7 := Lib.hid (show ∀ W, Below wr.heap.size wr W → BoxF W zf f from fun W hW => Xf.out W (below_on HW6.out hW))
                  have Hf7 := Lib.hid (show ∀ W, Below wr.heap.size wr W → f.p.Ok W W.heap.size from fun W hW => Hfo.out W (below_on HW6.out hW))
                  obtain ⟨M, hM, hMe⟩ : ∃ M : Nat, (∀ ts t w, (Builtin.min_ ts t #[.int .i64 (gg.p.n : Int), .int .i64 (f.p.n : Int)]).run Try.prog w = .ok (.int .i64 (M : Int)) w) ∧ M = min gg.p.n f.p.n := by
                    obtain ⟨y, h2, b1, b2, b3⟩ := min2_run (P := Try.prog) (gg.p.n : Int) (f.p.n : Int)
                    refine ⟨y.toNat, ?_, by omega⟩
                    rw [show ((y.toNat : Nat) : Int) = y by omega]
                    exact h2
                  have hMg : M ≤ gg.p.n := by omega
                  have hcut := fun W => cut_first (P := Try.prog) (t := 26) Try.underlying26 hiu8 hz1 gg.p.A gg.p.n gg.p.c M (Nat.le_trans hMg hgok.room) W
                  have HMt : Mt gg f ↔ gg.name = f.name ∧ gg.p.l.take M = f.p.l := by unfold Mt; rw [hMe]
                  have hby1 := byt_take hgok.byt M
                  have hby2 := (Hf7.out _ (below_d0 _)).byt
                  have HMt := Lib.hid HMt
                  have Hby := Lib.hid (⟨hby1, hby2⟩ : _ ∧ _)
                  have Hgi := Lib.hid hgi
                  have HMe := Lib.hid hMe
                  clear d0 d1 hgok hbg hgi hby1 hby2 hMe
                  go_upto_region 32 with fail
                  go_cut [21] (fun s wx => s = .int .i64 (M : Int) ∧ Below wr.heap.size wr wx)
                  case first =>
                    as_aux_lemma =>
                      refine wp_region_held_drew (S := (fun W => Below wr.heap.size wr W)) (by kernel_rfl) (below_dr (below_d0 _)) (fun hHeld => ?_)
                      refine take_at (i := 0) (d := 161) (oi := ?o47) (v := ?v47) ?hi47 ?hd47 (by kernel_rfl) (by kernel_rfl) (by kernel_rfl) ?hw47 ?hy47 ?hq47 (by assumption) ?r47
                      case hi47 => (simp only [List.getElem?_toArray, List.getElem?_cons_zero]; rfl)
                      case hd47 => rfl
                      case hw47 => rfl
                      case hy47 => ((intro w hSw; (try dsimp only at hSw); go_simp) <;> (with_reducible rfl))
                      case hq47 => exact fun _ _ _ h => h
                      simp only [List.set_cons_succ, List.set_cons_zero]
                      refine take_at (i := 1) (d := 162) (oi := ?o48) (v := ?v48) ?hi48 ?hd48 (by kernel_rfl) (by kernel_rfl) (by kernel_rfl) ?hw48 ?hy48 ?hq48 (by assumption) ?r48
                      case hi48 => (simp only [List.getElem?_toArray, List.getElem?_cons_succ, List.getElem?_cons_zero]; rfl)
                      case hd48 => rfl
                      case hw48 => rfl
                      case hy48 => ((intro w hSw; (try dsimp only at hSw); go_simp) <;> (with_reducible rfl))
                      case hq48 => exact fun _ _ _ h => h
                      simp only [List.set_cons_succ, List.set_cons_zero]
                      refine take_at (i := 2) (d := 163) (oi := ?o49) (v := ?v49) ?hi49 ?hd49 (by kernel_rfl) (by kernel_rfl) (by kernel_rfl) ?hw49 ?hy49 ?hq49 (by assumption) ?r49
                      case hi49 => (simp only [List.getElem?_toArray, List.getElem?_cons_succ, List.getElem?_cons_zero]; rfl)
                      case hd49 => rfl
                      case hw49 => rfl
                      case hy49 => ((intro w hSw; (try dsimp only at hSw); go_simp) <;> (with_reducible rfl))
                      case hq49 => exact fun _ _ _ h => h
                      simp only [List.set_cons_succ, List.set_cons_zero]
                      refine take_at (i := 3) (d := 164) (oi := ?o50) (v := ?v50) ?hi50 ?hd50 (by kernel_rfl) (by kernel_rfl) (by kernel_rfl) ?hw50 ?hy50 ?hq50 (by assumption) ?r50
                      case hi50 => (simp only [List.getElem?_toArray, List.getElem?_cons_succ, List.getElem?_cons_zero]; rfl)
                      case hd50 => rfl
                      case hw50 => rfl
                      case hy50 => ((intro w hSw; (try dsimp only at hSw); go_simp) <;> (with_reducible rfl))
                      case hq50 => exact fun _ _ _ h => h
                      simp only [List.set_cons_succ, List.set_cons_zero]
                      refine take_at (i := 4) (d := 165) (oi := ?o51) (v := ?v51) ?hi51 ?hd51 (by kernel_rfl) (by kernel_rfl) (by kernel_rfl) ?hw51 ?hy51 ?hq51 (by assumption) ?r51
                      case hi51 => (simp only [List.getElem?_toArray, List.getElem?_cons_succ, List.getElem?_cons_zero]; rfl)
                      case hd51 => rfl
                      case hw51 => rfl
                      case hy51 => ((intro w hSw; (try dsimp only at hSw); obtain ⟨e0, e1, _⟩ := Hg.out _ hSw; go_simp) <;> (with_reducible rfl))
                      case hq51 => exact fun _ _ _ h => h
                      simp only [List.set_cons_succ, List.set_cons_zero]
                      refine take_at (i := 5) (d := 166) (oi := ?o52) (v := ?v52) ?hi52 ?hd52 (by kernel_rfl) (by kernel_rfl) (by kernel_rfl) ?hw52 ?hy52 ?hq52 (by assumption) ?r52
                      case hi52 => (simp only [List.getElem?_toArray, List.getElem?_cons_succ, List.getElem?_cons_zero]; rfl)
                      case hd52 => rfl
                      case hw52 => rfl
                      case hy52 => ((intro w hSw; (try dsimp only at hSw); go_simp) <;> (with_reducible rfl))
                      case hq52 => exact fun _ _ _ h => h
                      simp only [List.set_cons_succ, List.set_cons_zero]
                      refine take_at (i := 6) (d := 167) (oi := ?o53) (v := ?v53) ?hi53 ?hd53 (by kernel_rfl) (by kernel_rfl) (by kernel_rfl) ?hw53 ?hy53 ?hq53 (by assumption) ?r53
                      case hi53 => (simp only [List.getElem?_toArray, List.getElem?_cons_succ, List.getElem?_cons_zero]; rfl)
                      case hd53 => rfl
                      case hw53 => rfl
                      case hy53 => ((intro w hSw; (try dsimp only at hSw); go_simp) <;> (with_reducible rfl))
                      case hq53 => exact fun _ _ _ h => h
                      simp only [List.set_cons_succ, List.set_cons_zero]
                      refine take_at (i := 7) (d := 168) (oi := ?o54) (v := ?v54) ?hi54 ?hd54 (by kernel_rfl) (by kernel_rfl) (by kernel_rfl) ?hw54 ?hy54 ?hq54 (by assumption) ?r54
                      case hi54 => (simp only [List.getElem?_toArray, List.getElem?_cons_succ, List.getElem?_cons_zero]; rfl)
                      case hd54 => rfl
                      case hw54 => rfl
                      case hy54 => ((intro w hSw; (try dsimp only at hSw); obtain ⟨e0, e1⟩ := (Xf7.out _ hSw).cells; go_simp) <;> (with_reducible rfl))
                      case hq54 => exact fun _ _ _ h => h
                      simp only [List.set_cons_succ, List.set_cons_zero]
                      refine take_at (i := 8) (d := 169) (oi := ?o55) (v := ?v55) ?hi55 ?hd55 (by kernel_rfl) (by kernel_rfl) (by kernel_rfl) ?hw55 ?hy55 ?hq55 (by assumption) ?r55
                      case hi55 => (simp only [List.getElem?_toArray, List.getElem?_cons_succ, List.getElem?_cons_zero]; rfl)
                      case hd55 => rfl
                      case hw55 => rfl
                      case hy55 => ((intro w hSw; (try dsimp only at hSw); go_simp) <;> (with_reducible rfl))
                      case hq55 => exact fun _ _ _ h => h
                      simp only [List.set_cons_succ, List.set_cons_zero]
                      refine take_at (i := 9) (d := 170) (oi := ?o56) (v := ?v56) ?hi56 ?hd56 (by kernel_rfl) (by kernel_rfl) (by kernel_rfl) ?hw56 ?hy56 ?hq56 (by assumption) ?r56
                      case hi56 => (simp only [List.getElem?_toArray, List.getElem?_cons_succ, List.getElem?_cons_zero]; rfl)
                      case hd56 => rfl
                      case hw56 => rfl
                      case hy56 => ((intro w hSw; (try dsimp only at hSw); go_simp) <;> (with_reducible rfl))
                      case hq56 => exact fun _ _ _ h => h
                      simp only [List.set_cons_succ, List.set_cons_zero]
                      refine take_at (i := 10) (d := 21) (oi := ?o57) (v := ?v57) ?hi57 ?hd57 (by kernel_rfl) (by kernel_rfl) (by kernel_rfl) ?hw57 ?hy57 ?hq57 (by assumption) ?r57
                      case hi57 => (simp only [List.getElem?_toArray, List.getElem?_cons_succ, List.getElem?_cons_zero]; rfl)
                      case hd57 => rfl
                      case hw57 => rfl
                      case hy57 => ((intro w hSw; (try dsimp only at hSw); go_simp) <;> (with_reducible rfl))
                      case hq57 => exact fun _ _ _ h => h
                      simp only [List.set_cons_succ, List.set_cons_zero]
                      refine wpAnyH_done (by kernel_rfl) ?_ _
                      go_wp2_with fail
                      go_meet
                      exact ⟨rfl, hHeld⟩
                  case rest =>
                    obtain ⟨rfl, kb7⟩ := hcut
                    obtain ⟨w7, rfl⟩ : ∃ w7, w7 = wc := ⟨_, rfl⟩
                    clear hM
                    go_upto_region 33 with fail
                    cases bv
                    case true =>
                      as_aux_lemma =>
                        refine wp_region_held_drew (S := (fun W => Below wr.heap.size wr W)) (by kernel_rfl) (below_dr kb7) (fun hHeld => ?_)
                        refine take_at (i := 0) (d := 171) (oi := ?o58) (v := ?v58) ?hi58 ?hd58 (by kernel_rfl) (by kernel_rfl) (by kernel_rfl) ?hw58 ?hy58 ?hq58 (by assumption) ?r58
                        case hi58 => (simp only [List.getElem?_toArray, List.getElem?_cons_zero]; rfl)
                        case hd58 => rfl
                        case hw58 => rfl
                        case hy58 => ((intro w hSw; (try dsimp only at hSw); go_simp) <;> (with_reducible rfl))
                        case hq58 => exact fun _ _ _ h => h
                        simp only [List.set_cons_succ, List.set_cons_zero]
                        refine take_at (i := 1) (d := 172) (oi := ?o59) (v := ?v59) ?hi59 ?hd59 (by kernel_rfl) (by kernel_rfl) (by kernel_rfl) ?hw59 ?hy59 ?hq59 (by assumption) ?r59
                        case hi59 => (simp only [List.getElem?_toArray, List.getElem?_cons_succ, List.getElem?_cons_zero]; rfl)
                        case hd59 => rfl
                        case hw59 => rfl
                        case hy59 => ((intro w hSw; (try dsimp only at hSw); go_simp) <;> (with_reducible rfl))
                        case hq59 => exact fun _ _ _ h => h
                        simp only [List.set_cons_succ, List.set_cons_zero]
                        refine skip_at (i := 2) (d := 173) (oi := ?o60) ?hi60 ?hd60 (by kernel_rfl) (by kernel_rfl) (by kernel_rfl) ?hw60 ?hq60 (by assumption) ?r60
                        case hi60 => (simp only [List.getElem?_toArray, List.getElem?_cons_succ, List.getElem?_cons_zero]; rfl)
                        case hd60 => rfl
                        case hw60 => rfl
                        case hq60 => exact fun _ _ _ h => h
                        simp only [List.set_cons_succ, List.set_cons_zero]
                        refine skip_at (i := 3) (d := 174) (oi := ?o61) ?hi61 ?hd61 (by kernel_rfl) (by kernel_rfl) (by kernel_rfl) ?hw61 ?hq61 (by assumption) ?r61
                        case hi61 => (simp only [List.getElem?_toArray, List.getElem?_cons_succ, List.getElem?_cons_zero]; rfl)
                        case hd61 => rfl
                        case hw61 => rfl
                        case hq61 => exact fun _ _ _ h => h
                        simp only [List.set_cons_succ, List.set_cons_zero]
                        refine skip_at (i := 4) (d := 175) (oi := ?o62) ?hi62 ?hd62 (by kernel_rfl) (by kernel_rfl) (by kernel_rfl) ?hw62 ?hq62 (by assumption) ?r62
                        case hi62 => (simp only [List.getElem?_toArray, List.getElem?_cons_succ, List.getElem?_cons_zero]; rfl)
                        case hd62 => rfl
                        case hw62 => rfl
                        case hq62 => exact fun _ _ _ h => h
                        simp only [List.set_cons_succ, List.set_cons_zero]
                        refine skip_at (i := 5) (d := 176) (oi := ?o63) ?hi63 ?hd63 (by kernel_rfl) (by kernel_rfl) (by kernel_rfl) ?hw63 ?hq63 (by assumption) ?r63
                        case hi63 => (simp only [List.getElem?_toArray, List.getElem?_cons_succ, List.getElem?_cons_zero]; rfl)
                        case hd63 => rfl
                        case hw63 => rfl
                        case hq63 => exact fun _ _ _ h => h
                        simp only [List.set_cons_succ, List.set_cons_zero]
                        refine skip_at (i := 6) (d := 177) (oi := ?o64) ?hi64 ?hd64 (by kernel_rfl) (by kernel_rfl) (by kernel_rfl) ?hw64 ?hq64 (by assumption) ?r64
                        case hi64 => (simp only [List.getElem?_toArray, List.getElem?_cons_succ, List.getElem?_cons_zero]; rfl)
                        case hd64 => rfl
                        case hw64 => rfl
                        case hq64 => exact fun _ _ _ h => h
                        simp only [List.set_cons_succ, List.set_cons_zero]
                        refine skip_at (i := 7) (d := 178) (oi := ?o65) ?hi65 ?hd65 (by kernel_rfl) (by kernel_rfl) (by kernel_rfl) ?hw65 ?hq65 (by assumption) ?r65
                        case hi65 => (simp only [List.getElem?_toArray, List.getElem?_cons_succ, List.getElem?_cons_zero]; rfl)
                        case hd65 => rfl
                        case hw65 => rfl
                        case hq65 => exact fun _ _ _ h => h
                        simp only [List.set_cons_succ, List.set_cons_zero]
                        refine skip_at (i := 8) (d := 179) (oi := ?o66) ?hi66 ?hd66 (by kernel_rfl) (by kernel_rfl) (by kernel_rfl) ?hw66 ?hq66 (by assumption) ?r66
                        case hi66 => (simp only [List.getElem?_toArray, List.getElem?_cons_succ, List.getElem?_cons_zero]; rfl)
                        case hd66 => rfl
                        case hw66 => rfl
                        case hq66 => exact fun _ _ _ h => h
                        simp only [List.set_cons_succ, List.set_cons_zero]
                        refine skip_at (i := 9) (d := 180) (oi := ?o67) ?hi67 ?hd67 (by kernel_rfl) (by kernel_rfl) (by kernel_rfl) ?hw67 ?hq67 (by assumption) ?r67
                        case hi67 => (simp only [List.getElem?_toArray, List.getElem?_cons_succ, List.getElem?_cons_zero]; rfl)
                        case hd67 => rfl
                        case hw67 => rfl
                        case hq67 => exact fun _ _ _ h => h
                        simp only [List.set_cons_succ, List.set_cons_zero]
                        refine skip_at (i := 10) (d := 181) (oi := ?o68) ?hi68 ?hd68 (by kernel_rfl) (by kernel_rfl) (by kernel_rfl) ?hw68 ?hq68 (by assumption) ?r68
                        case hi68 => (simp only [List.getElem?_toArray, List.getElem?_cons_succ, List.getElem?_cons_zero]; rfl)
                        case hd68 => rfl
                        case hw68 => rfl
                        case hq68 => exact fun _ _ _ h => h
                        simp only [List.set_cons_succ, List.set_cons_zero]
                        refine skip_at (i := 11) (d := 182) (oi := ?o69) ?hi69 ?hd69 (by kernel_rfl) (by kernel_rfl) (by kernel_rfl) ?hw69 ?hq69 (by assumption) ?r69
                        case hi69 => (simp only [List.getElem?_toArray, List.getElem?_cons_succ, List.getElem?_cons_zero]; rfl)
                        case hd69 => rfl
                        case hw69 => rfl
                        case hq69 => exact fun _ _ _ h => h
                        simp only [List.set_cons_succ, List.set_cons_zero]
                        refine skip_at (i := 12) (d := 183) (oi := ?o70) ?hi70 ?hd70 (by kernel_rfl) (by kernel_rfl) (by kernel_rfl) ?hw70 ?hq70 (by assumption) ?r70
                        case hi70 => (simp only [List.getElem?_toArray, List.getElem?_cons_succ, List.getElem?_cons_zero]; rfl)
                        case hd70 => rfl
                        case hw70 => rfl
                        case hq70 => exact fun _ _ _ h => h
                        simp only [List.set_cons_succ, List.set_cons_zero]
                        refine skip_at (i := 13) (d := 184) (oi := ?o71) ?hi71 ?hd71 (by kernel_rfl) (by kernel_rfl) (by kernel_rfl) ?hw71 ?hq71 (by assumption) ?r71
                        case hi71 => (simp only [List.getElem?_toArray, List.getElem?_cons_succ, List.getElem?_cons_zero]; rfl)
                        case hd71 => rfl
                        case hw71 => rfl
                        case hq71 => exact fun _ _ _ h => h
                        simp only [List.set_cons_succ, List.set_cons_zero]
                        refine skip_at (i := 14) (d := 185) (oi := ?o72) ?hi72 ?hd72 (by kernel_rfl) (by kernel_rfl) (by kernel_rfl) ?hw72 ?hq72 (by assumption) ?r72
                        case hi72 => (simp only [List.getElem?_toArray, List.getElem?_cons_succ, List.getElem?_cons_zero]; rfl)
                        case hd72 => rfl
                        case hw72 => rfl
                        case hq72 => exact fun _ _ _ h => h
                        simp only [List.set_cons_succ, List.set_cons_zero]
                        refine skip_at (i := 15) (d := 186) (oi := ?o73) ?hi73 ?hd73 (by kernel_rfl) (by kernel_rfl) (by kernel_rfl) ?hw73 ?hq73 (by assumption) ?r73
                        case hi73 => (simp only [List.getElem?_toArray, List.getElem?_cons_succ, List.getElem?_cons_zero]; rfl)
                        case hd73 => rfl
                        case hw73 => rfl
                        case hq73 => exact fun _ _ _ h => h
                        simp only [List.set_cons_succ, List.set_cons_zero]
                        refine skip_at (i := 16) (d := 187) (oi := ?o74) ?hi74 ?hd74 (by kernel_rfl) (by kernel_rfl) (by kernel_rfl) ?hw74 ?hq74 (by assumption) ?r74
                        case hi74 => (simp only [List.getElem?_toArray, List.getElem?_cons_succ, List.getElem?_cons_zero]; rfl)
                        case hd74 => rfl
                        case hw74 => rfl
                        case hq74 => exact fun _ _ _ h => h
                        simp only [List.set_cons_succ, List.set_cons_zero]
                        refine skip_at (i := 17) (d := 188) (oi := ?o75) ?hi75 ?hd75 (by kernel_rfl) (by kernel_rfl) (by kernel_rfl) ?hw75 ?hq75 (by assumption) ?r75
                        case hi75 => (simp only [List.getElem?_toArray, List.getElem?_cons_succ, List.getElem?_cons_zero]; rfl)
                        case hd75 => rfl
                        case hw75 => rfl
                        case hq75 => exact fun _ _ _ h => h
                        simp only [List.set_cons_succ, List.set_cons_zero]
                        refine skip_at (i := 18) (d := 189) (oi := ?o76) ?hi76 ?hd76 (by kernel_rfl) (by kernel_rfl) (by kernel_rfl) ?hw76 ?hq76 (by assumption) ?r76
                        case hi76 => (simp only [List.getElem?_toArray, List.getElem?_cons_succ, List.getElem?_cons_zero]; rfl)
                        case hd76 => rfl
                        case hw76 => rfl
                        case hq76 => exact fun _ _ _ h => h
                        simp only [List.set_cons_succ, List.set_cons_zero]
                        refine skip_at (i := 19) (d := 190) (oi := ?o77) ?hi77 ?hd77 (by kernel_rfl) (by kernel_rfl) (by kernel_rfl) ?hw77 ?hq77 (by assumption) ?r77
                        case hi77 => (simp only [List.getElem?_toArray, List.getElem?_cons_succ, List.getElem?_cons_zero]; rfl)
                        case hd77 => rfl
                        case hw77 => rfl
                        case hq77 => exact fun _ _ _ h => h
                        simp only [List.set_cons_succ, List.set_cons_zero]
                        refine skip_at (i := 20) (d := 191) (oi := ?o78) ?hi78 ?hd78 (by kernel_rfl) (by kernel_rfl) (by kernel_rfl) ?hw78 ?hq78 (by assumption) ?r78
                        case hi78 => (simp only [List.getElem?_toArray, List.getElem?_cons_succ, List.getElem?_cons_zero]; rfl)
                        case hd78 => rfl
                        case hw78 => rfl
                        case hq78 => exact fun _ _ _ h => h
                        simp only [List.set_cons_succ, List.set_cons_zero]
                        refine skip_at (i := 21) (d := 192) (oi := ?o79) ?hi79 ?hd79 (by kernel_rfl) (by kernel_rfl) (by kernel_rfl) ?hw79 ?hq79 (by assumption) ?r79
                        case hi79 => (simp only [List.getElem?_toArray, List.getElem?_cons_succ, List.getElem?_cons_zero]; rfl)
                        case hd79 => rfl
                        case hw79 => rfl
                        case hq79 => exact fun _ _ _ h => h
                        simp only [List.set_cons_succ, List.set_cons_zero]
                        refine skip_at (i := 22) (d := 193) (oi := ?o80) ?hi80 ?hd80 (by kernel_rfl) (by kernel_rfl) (by kernel_rfl) ?hw80 ?hq80 (by assumption) ?r80
                        case hi80 => (simp only [List.getElem?_toArray, List.getElem?_cons_succ, List.getElem?_cons_zero]; rfl)
                        case hd80 => rfl
                        case hw80 => rfl
                        case hq80 => exact fun _ _ _ h => h
                        simp only [List.set_cons_succ, List.set_cons_zero]
                        refine skip_at (i := 23) (d := 194) (oi := ?o81) ?hi81 ?hd81 (by kernel_rfl) (by kernel_rfl) (by kernel_rfl) ?hw81 ?hq81 (by assumption) ?r81
                        case hi81 => (simp only [List.getElem?_toArray, List.getElem?_cons_succ, List.getElem?_cons_zero]; rfl)
                        case hd81 => rfl
                        case hw81 => rfl
                        case hq81 => exact fun _ _ _ h => h
                        simp only [List.set_cons_succ, List.set_cons_zero]
                        refine take_at (i := 24) (d := 195) (oi := ?o82) (v := ?v82) ?hi82 ?hd82 (by kernel_rfl) (by kernel_rfl) (by kernel_rfl) ?hw82 ?hy82 ?hq82 (by assumption) ?r82
                        case hi82 => (simp only [List.getElem?_toArray, List.getElem?_cons_succ, List.getElem?_cons_zero]; rfl)
                        case hd82 => rfl
                        case hw82 => rfl
                        case hy82 => ((intro w hSw; (try dsimp only at hSw); go_simp) <;> (with_reducible rfl))
                        case hq82 => exact fun _ _ _ h => h
                        simp only [List.set_cons_succ, List.set_cons_zero]
                        refine take_at (i := 25) (d := 19) (oi := ?o83) (v := ?v83) ?hi83 ?hd83 (by kernel_rfl) (by kernel_rfl) (by kernel_rfl) ?hw83 ?hy83 ?hq83 (by assumption) ?r83
                        case hi83 => (simp only [List.getElem?_toArray, List.getElem?_cons_succ, List.getElem?_cons_zero]; rfl)
                        case hd83 => rfl
                        case hw83 => rfl
                        case hy83 => ((intro w hSw; (try dsimp only at hSw); go_simp) <;> (with_reducible rfl))
                        case hq83 => exact fun _ _ _ h => h
                        simp only [List.set_cons_succ, List.set_cons_zero]
                        refine wpAnyH_done (by kernel_rfl) ?_ _
                        have Hb2 : Hid (true = true ↔ ∃ g ∈ mn.fs.take (t + 1), Mt g f) := Lib.hid (by rw [any_step Hgi.out (fun g => Mt g f), ← Hbv.out]; exact ⟨fun _ => .inl rfl, fun _ => rfl⟩)
                        have HW8 := Lib.hid (below_on HW6.out hHeld)
                        clear hHeld
                        go_wp2_with fail
                        exact ⟨⟨t + 1, true, by omega, rfl, rfl, Hb2, HW8⟩, by simp only [intOf]; omega⟩
                    case false =>
                      by_cases hnm : gg.name = f.name
                      · have tnm : (gg.name.toList == f.name.toList) = true := by rw [beq_name, decide_eq_true hnm]
                        by_cases hpp : gg.p.l.take M = f.p.l
                        · have tpp : ((txt (gg.p.l.take M)).toList == (txt f.p.l).toList) = true := by rw [beq_txt Hby.out.1 Hby.out.2, decide_eq_true hpp]
                          have HM2 := Lib.hid (HMt.out.2 ⟨hnm, hpp⟩)
                          clear hnm hpp
                          as_aux_lemma =>
                            refine wp_region_held_drew (S := (fun W => Below wr.heap.size wr W)) (by kernel_rfl) (below_dr kb7) (fun hHeld => ?_)
                            refine take_at (i := 0) (d := 171) (oi := ?o84) (v := ?v84) ?hi84 ?hd84 (by kernel_rfl) (by kernel_rfl) (by kernel_rfl) ?hw84 ?hy84 ?hq84 (by assumption) ?r84
                            case hi84 => (simp only [List.getElem?_toArray, List.getElem?_cons_zero]; rfl)
                            case hd84 => rfl
                            case hw84 => rfl
                            case hy84 => ((intro w hSw; (try dsimp only at hSw); go_simp) <;> (with_reducible rfl))
                            case hq84 => exact fun _ _ _ h => h
                            simp only [List.set_cons_succ, List.set_cons_zero]
                            refine take_at (i := 1) (d := 172) (oi := ?o85) (v := ?v85) ?hi85 ?hd85 (by kernel_rfl) (by kernel_rfl) (by kernel_rfl) ?hw85 ?hy85 ?hq85 (by assumption) ?r85
                            case hi85 => (simp only [List.getElem?_toArray, List.getElem?_cons_succ, List.getElem?_cons_zero]; rfl)
                            case hd85 => rfl
                            case hw85 => rfl
                            case hy85 => ((intro w hSw; (try dsimp only at hSw); go_simp) <;> (with_reducible rfl))
                            case hq85 => exact fun _ _ _ h => h
                            simp only [List.set_cons_succ, List.set_cons_zero]
                            refine take_at (i := 2) (d := 173) (oi := ?o86) (v := ?v86) ?hi86 ?hd86 (by kernel_rfl) (by kernel_rfl) (by kernel_rfl) ?hw86 ?hy86 ?hq86 (by assumption) ?r86
                            case hi86 => (simp only [List.getElem?_toArray, List.getElem?_cons_succ, List.getElem?_cons_zero]; rfl)
                            case hd86 => rfl
                            case hw86 => rfl
                            case hy86 => ((intro w hSw; (try dsimp only at hSw); go_simp) <;> (with_reducible rfl))
                            case hq86 => exact fun _ _ _ h => h
                            simp only [List.set_cons_succ, List.set_cons_zero]
                            refine take_at (i := 3) (d := 174) (oi := ?o87) (v := ?v87) ?hi87 ?hd87 (by kernel_rfl) (by kernel_rfl) (by kernel_rfl) ?hw87 ?hy87 ?hq87 (by assumption) ?r87
                            case hi87 => (simp only [List.getElem?_toArray, List.getElem?_cons_succ, List.getElem?_cons_zero]; rfl)
                            case hd87 => rfl
                            case hw87 => rfl
                            case hy87 => ((intro w hSw; (try dsimp only at hSw); go_simp) <;> (with_reducible rfl))
                            case hq87 => exact fun _ _ _ h => h
                            simp only [List.set_cons_succ, List.set_cons_zero]
                            refine take_at (i := 4) (d := 175) (oi := ?o88) (v := ?v88) ?hi88 ?hd88 (by kernel_rfl) (by kernel_rfl) (by kernel_rfl) ?hw88 ?hy88 ?hq88 (by assumption) ?r88
                            case hi88 => (simp only [List.getElem?_toArray, List.getElem?_cons_succ, List.getElem?_cons_zero]; rfl)
                            case hd88 => rfl
                            case hw88 => rfl
                            case hy88 => ((intro w hSw; (try dsimp only at hSw); go_simp) <;> (with_reducible rfl))
                            case hq88 => exact fun _ _ _ h => h
                            simp only [List.set_cons_succ, List.set_cons_zero]
                            refine take_at (i := 5) (d := 176) (oi := ?o89) (v := ?v89) ?hi89 ?hd89 (by kernel_rfl) (by kernel_rfl) (by kernel_rfl) ?hw89 ?hy89 ?hq89 (by assumption) ?r89
                            case hi89 => (simp only [List.getElem?_toArray, List.getElem?_cons_succ, List.getElem?_cons_zero]; rfl)
                            case hd89 => rfl
                            case hw89 => rfl
                            case hy89 => ((intro w hSw; (try dsimp only at hSw); go_simp) <;> (with_reducible rfl))
                            case hq89 => exact fun _ _ _ h => h
                            simp only [List.set_cons_succ, List.set_cons_zero]
                            refine take_at (i := 6) (d := 177) (oi := ?o90) (v := ?v90) ?hi90 ?hd90 (by kernel_rfl) (by kernel_rfl) (by kernel_rfl) ?hw90 ?hy90 ?hq90 (by assumption) ?r90
                            case hi90 => (simp only [List.getElem?_toArray, List.getElem?_cons_succ, List.getElem?_cons_zero]; rfl)
                            case hd90 => rfl
                            case hw90 => rfl
                            case hy90 => ((intro w hSw; (try dsimp only at hSw); obtain ⟨e0, e1, _⟩ := Hg.out _ hSw; go_simp) <;> (with_reducible rfl))
                            case hq90 => exact fun _ _ _ h => h
                            simp only [List.set_cons_succ, List.set_cons_zero]
                            refine take_at (i := 7) (d := 178) (oi := ?o91) (v := ?v91) ?hi91 ?hd91 (by kernel_rfl) (by kernel_rfl) (by kernel_rfl) ?hw91 ?hy91 ?hq91 (by assumption) ?r91
                            case hi91 => (simp only [List.getElem?_toArray, List.getElem?_cons_succ, List.getElem?_cons_zero]; rfl)
                            case hd91 => rfl
                            case hw91 => rfl
                            case hy91 => ((intro w hSw; (try dsimp only at hSw); go_simp) <;> (with_reducible rfl))
                            case hq91 => exact fun _ _ _ h => h
                            simp only [List.set_cons_succ, List.set_cons_zero]
                            refine take_at (i := 8) (d := 179) (oi := ?o92) (v := ?v92) ?hi92 ?hd92 (by kernel_rfl) (by kernel_rfl) (by kernel_rfl) ?hw92 ?hy92 ?hq92 (by assumption) ?r92
                            case hi92 => (simp only [List.getElem?_toArray, List.getElem?_cons_succ, List.getElem?_cons_zero]; rfl)
                            case hd92 => rfl
                            case hw92 => rfl
                            case hy92 => ((intro w hSw; (try dsimp only at hSw); obtain ⟨e0, e1⟩ := (Xf7.out _ hSw).cells; go_simp) <;> (with_reducible rfl))
                            case hq92 => exact fun _ _ _ h => h
                            simp only [List.set_cons_succ, List.set_cons_zero]
                            refine take_at (i := 9) (d := 180) (oi := ?o93) (v := ?v93) ?hi93 ?hd93 (by kernel_rfl) (by kernel_rfl) (by kernel_rfl) ?hw93 ?hy93 ?hq93 (by assumption) ?r93
                            case hi93 => (simp only [List.getElem?_toArray, List.getElem?_cons_succ, List.getElem?_cons_zero]; rfl)
                            case hd93 => rfl
                            case hw93 => rfl
                            case hy93 => ((intro w hSw; (try dsimp only at hSw); go_simp) <;> (with_reducible rfl))
                            case hq93 => exact fun _ _ _ h => h
                            simp only [List.set_cons_succ, List.set_cons_zero]
                            refine take_at (i := 10) (d := 181) (oi := ?o94) (v := ?v94) ?hi94 ?hd94 (by kernel_rfl) (by kernel_rfl) (by kernel_rfl) ?hw94 ?hy94 ?hq94 (by assumption) ?r94
                            case hi94 => (simp only [List.getElem?_toArray, List.getElem?_cons_succ, List.getElem?_cons_zero]; rfl)
                            case hd94 => rfl
                            case hw94 => rfl
                            case hy94 => ((intro w hSw; (try dsimp only at hSw); go_simp) <;> (with_reducible rfl))
                            case hq94 => exact fun _ _ _ h => h
                            simp only [List.set_cons_succ, List.set_cons_zero]
                            refine take_at (i := 11) (d := 182) (oi := ?o95) (v := ?v95) ?hi95 ?hd95 (by kernel_rfl) (by kernel_rfl) (by kernel_rfl) ?hw95 ?hy95 ?hq95 (by assumption) ?r95
                            case hi95 => (simp only [List.getElem?_toArray, List.getElem?_cons_succ, List.getElem?_cons_zero]; rfl)
                            case hd95 => rfl
                            case hw95 => rfl
                            case hy95 => ((intro w hSw; (try dsimp only at hSw); go_simp) <;> (with_reducible rfl))
                            case hq95 => exact fun _ _ _ h => h
                            simp only [List.set_cons_succ, List.set_cons_zero]
                            refine take_at (i := 12) (d := 183) (oi := ?o96) (v := ?v96) ?hi96 ?hd96 (by kernel_rfl) (by kernel_rfl) (by kernel_rfl) ?hw96 ?hy96 ?hq96 (by assumption) ?r96
                            case hi96 => (simp only [List.getElem?_toArray, List.getElem?_cons_succ, List.getElem?_cons_zero]; rfl)
                            case hd96 => rfl
                            case hw96 => rfl
                            case hy96 => ((intro w hSw; (try dsimp only at hSw); go_simp) <;> (with_reducible rfl))
                            case hq96 => exact fun _ _ _ h => h
                            simp only [List.set_cons_succ, List.set_cons_zero]
                            refine take_at (i := 13) (d := 184) (oi := ?o97) (v := ?v97) ?hi97 ?hd97 (by kernel_rfl) (by kernel_rfl) (by kernel_rfl) ?hw97 ?hy97 ?hq97 (by assumption) ?r97
                            case hi97 => (simp only [List.getElem?_toArray, List.getElem?_cons_succ, List.getElem?_cons_zero]; rfl)
                            case hd97 => rfl
                            case hw97 => rfl
                            case hy97 => ((intro w hSw; (try dsimp only at hSw); go_simp) <;> (with_reducible rfl))
                            case hq97 => exact fun _ _ _ h => h
                            simp only [List.set_cons_succ, List.set_cons_zero]
                            refine take_at (i := 14) (d := 185) (oi := ?o98) (v := ?v98) ?hi98 ?hd98 (by kernel_rfl) (by kernel_rfl) (by kernel_rfl) ?hw98 ?hy98 ?hq98 (by assumption) ?r98
                            case hi98 => (simp only [List.getElem?_toArray, List.getElem?_cons_succ, List.getElem?_cons_zero]; rfl)
                            case hd98 => rfl
                            case hw98 => rfl
                            case hy98 => ((intro w hSw; (try dsimp only at hSw); go_simp) <;> (with_reducible rfl))
                            case hq98 => exact fun _ _ _ h => h
                            simp only [List.set_cons_succ, List.set_cons_zero]
                            refine take_at (i := 15) (d := 186) (oi := ?o99) (v := ?v99) ?hi99 ?hd99 (by kernel_rfl) (by kernel_rfl) (by kernel_rfl) ?hw99 ?hy99 ?hq99 (by assumption) ?r99
                            case hi99 => (simp only [List.getElem?_toArray, List.getElem?_cons_succ, List.getElem?_cons_zero]; rfl)
                            case hd99 => rfl
                            case hw99 => rfl
                            case hy99 => ((intro w hSw; (try dsimp only at hSw); obtain ⟨e0, e1, _⟩ := Hg.out _ hSw; go_simp) <;> (with_reducible rfl))
                            case hq99 => exact fun _ _ _ h => h
                            simp only [List.set_cons_succ, List.set_cons_zero]
                            refine take_at (i := 16) (d := 187) (oi := ?o100) (v := ?v100) ?hi100 ?hd100 (by kernel_rfl) (by kernel_rfl) (by kernel_rfl) ?hw100 ?hy100 ?hq100 (by assumption) ?r100
                            case hi100 => (simp only [List.getElem?_toArray, List.getElem?_cons_succ, List.getElem?_cons_zero]; rfl)
                            case hd100 => rfl
                            case hw100 => rfl
                            case hy100 => ((intro w hSw; (try dsimp only at hSw); go_simp) <;> (with_reducible rfl))
                            case hq100 => exact fun _ _ _ h => h
                            simp only [List.set_cons_succ, List.set_cons_zero]
                            refine take_at (i := 17) (d := 188) (oi := ?o101) (v := ?v101) ?hi101 ?hd101 (by kernel_rfl) (by kernel_rfl) (by kernel_rfl) ?hw101 ?hy101 ?hq101 (by assumption) ?r101
                            case hi101 => (simp only [List.getElem?_toArray, List.getElem?_cons_succ, List.getElem?_cons_zero]; rfl)
                            case hd101 => rfl
                            case hw101 => rfl
                            case hy101 => ((intro w hSw; (try dsimp only at hSw); have hc1 := hcut w; go_simp) <;> (with_reducible rfl))
                            case hq101 => exact fun _ _ _ h => h
                            simp only [List.set_cons_succ, List.set_cons_zero]
                            refine take_at (i := 18) (d := 189) (oi := ?o102) (v := ?v102) ?hi102 ?hd102 (by kernel_rfl) (by kernel_rfl) (by kernel_rfl) ?hw102 ?hy102 ?hq102 (by assumption) ?r102
                            case hi102 => (simp only [List.getElem?_toArray, List.getElem?_cons_succ, List.getElem?_cons_zero]; rfl)
                            case hd102 => rfl
                            case hw102 => rfl
                            case hy102 => ((intro w hSw; (try dsimp only at hSw); have cv := run_txt (c := gg.p.c) 26 9 5 Try.underlying26 Try.underlying5 Try.underlying9 ((Hg.out _ hSw).2.2.rd.first hMg); go_simp) <;> (with_reducible rfl))
                            case hq102 => exact fun _ _ _ h => h
                            simp only [List.set_cons_succ, List.set_cons_zero]
                            refine take_at (i := 19) (d := 190) (oi := ?o103) (v := ?v103) ?hi103 ?hd103 (by kernel_rfl) (by kernel_rfl) (by kernel_rfl) ?hw103 ?hy103 ?hq103 (by assumption) ?r103
                            case hi103 => (simp only [List.getElem?_toArray, List.getElem?_cons_succ, List.getElem?_cons_zero]; rfl)
                            case hd103 => rfl
                            case hw103 => rfl
                            case hy103 => ((intro w hSw; (try dsimp only at hSw); go_simp) <;> (with_reducible rfl))
                            case hq103 => exact fun _ _ _ h => h
                            simp only [List.set_cons_succ, List.set_cons_zero]
                            refine take_at (i := 20) (d := 191) (oi := ?o104) (v := ?v104) ?hi104 ?hd104 (by kernel_rfl) (by kernel_rfl) (by kernel_rfl) ?hw104 ?hy104 ?hq104 (by assumption) ?r104
                            case hi104 => (simp only [List.getElem?_toArray, List.getElem?_cons_succ, List.getElem?_cons_zero]; rfl)
                            case hd104 => rfl
                            case hw104 => rfl
                            case hy104 => ((intro w hSw; (try dsimp only at hSw); obtain ⟨e0, e1⟩ := (Xf7.out _ hSw).cells; go_simp) <;> (with_reducible rfl))
                            case hq104 => exact fun _ _ _ h => h
                            simp only [List.set_cons_succ, List.set_cons_zero]
                            refine take_at (i := 21) (d := 192) (oi := ?o105) (v := ?v105) ?hi105 ?hd105 (by kernel_rfl) (by kernel_rfl) (by kernel_rfl) ?hw105 ?hy105 ?hq105 (by assumption) ?r105
                            case hi105 => (simp only [List.getElem?_toArray, List.getElem?_cons_succ, List.getElem?_cons_zero]; rfl)
                            case hd105 => rfl
                            case hw105 => rfl
                            case hy105 => ((intro w hSw; (try dsimp only at hSw); have cv := run_txt (c := f.p.c) 26 9 5 Try.underlying26 Try.underlying5 Try.underlying9 (Hf7.out _ hSw).rd; go_simp) <;> (with_reducible rfl))
                            case hq105 => exact fun _ _ _ h => h
                            simp only [List.set_cons_succ, List.set_cons_zero]
                            refine take_at (i := 22) (d := 193) (oi := ?o106) (v := ?v106) ?hi106 ?hd106 (by kernel_rfl) (by kernel_rfl) (by kernel_rfl) ?hw106 ?hy106 ?hq106 (by assumption) ?r106
                            case hi106 => (simp only [List.getElem?_toArray, List.getElem?_cons_succ, List.getElem?_cons_zero]; rfl)
                            case hd106 => rfl
                            case hw106 => rfl
                            case hy106 => ((intro w hSw; (try dsimp only at hSw); go_simp) <;> (with_reducible rfl))
                            case hq106 => exact fun _ _ _ h => h
                            simp only [List.set_cons_succ, List.set_cons_zero]
                            refine take_at (i := 23) (d := 194) (oi := ?o107) (v := ?v107) ?hi107 ?hd107 (by kernel_rfl) (by kernel_rfl) (by kernel_rfl) ?hw107 ?hy107 ?hq107 (by assumption) ?r107
                            case hi107 => (simp only [List.getElem?_toArray, List.getElem?_cons_succ, List.getElem?_cons_zero]; rfl)
                            case hd107 => rfl
                            case hw107 => rfl
                            case hy107 => ((intro w hSw; (try dsimp only at hSw); go_simp) <;> (with_reducible rfl))
                            case hq107 => exact fun _ _ _ h => h
                            simp only [List.set_cons_succ, List.set_cons_zero]
                            refine take_at (i := 24) (d := 195) (oi := ?o108) (v := ?v108) ?hi108 ?hd108 (by kernel_rfl) (by kernel_rfl) (by kernel_rfl) ?hw108 ?hy108 ?hq108 (by assumption) ?r108
                            case hi108 => (simp only [List.getElem?_toArray, List.getElem?_cons_succ, List.getElem?_cons_zero]; rfl)
                            case hd108 => rfl
                            case hw108 => rfl
                            case hy108 => ((intro w hSw; (try dsimp only at hSw); go_simp) <;> (with_reducible rfl))
                            case hq108 => exact fun _ _ _ h => h
                            simp only [List.set_cons_succ, List.set_cons_zero]
                            refine take_at (i := 25) (d := 19) (oi := ?o109) (v := ?v109) ?hi109 ?hd109 (by kernel_rfl) (by kernel_rfl) (by kernel_rfl) ?hw109 ?hy109 ?hq109 (by assumption) ?r109
                            case hi109 => (simp only [List.getElem?_toArray, List.getElem?_cons_succ, List.getElem?_cons_zero]; rfl)
                            case hd109 => rfl
                            case hw109 => rfl
                            case hy109 => ((intro w hSw; (try dsimp only at hSw); go_simp) <;> (with_reducible rfl))
                            case hq109 => exact fun _ _ _ h => h
                            simp only [List.set_cons_succ, List.set_cons_zero]
                            refine wpAnyH_done (by kernel_rfl) ?_ _
                            have Hb2 : Hid (true = true ↔ ∃ g ∈ mn.fs.take (t + 1), Mt g f) := Lib.hid (by rw [any_step Hgi.out (fun g => Mt g f), ← Hbv.out]; exact ⟨fun _ => .inr HM2.out, fun _ => rfl⟩)
                            have HW8 := Lib.hid (below_on HW6.out hHeld)
                            clear hHeld
                            go_wp2_with fail
                            exact ⟨⟨t + 1, true, by omega, rfl, rfl, Hb2, HW8⟩, by simp only [intOf]; omega⟩
                        · have tpp : ((txt (gg.p.l.take M)).toList == (txt f.p.l).toList) = false := by rw [beq_txt Hby.out.1 Hby.out.2, decide_eq_false hpp]
                          have HM2 := Lib.hid (show ¬ Mt gg f from fun h => hpp (HMt.out.1 h).2)
                          clear hnm hpp
                          as_aux_lemma =>
                            refine wp_region_held_drew (S := (fun W => Below wr.heap.size wr W)) (by kernel_rfl) (below_dr kb7) (fun hHeld => ?_)
                            refine take_at (i := 0) (d := 171) (oi := ?o110) (v := ?v110) ?hi110 ?hd110 (by kernel_rfl) (by kernel_rfl) (by kernel_rfl) ?hw110 ?hy110 ?hq110 (by assumption) ?r110
                            case hi110 => (simp only [List.getElem?_toArray, List.getElem?_cons_zero]; rfl)
                            case hd110 => rfl
                            case hw110 => rfl
                            case hy110 => ((intro w hSw; (try dsimp only at hSw); go_simp) <;> (with_reducible rfl))
                            case hq110 => exact fun _ _ _ h => h
                            simp only [List.set_cons_succ, List.set_cons_zero]
                            refine take_at (i := 1) (d := 172) (oi := ?o111) (v := ?v111) ?hi111 ?hd111 (by kernel_rfl) (by kernel_rfl) (by kernel_rfl) ?hw111 ?hy111 ?hq111 (by assumption) ?r111
                            case hi111 => (simp only [List.getElem?_toArray, List.getElem?_cons_succ, List.getElem?_cons_zero]; rfl)
                            case hd111 => rfl
                            case hw111 => rfl
                            case hy111 => ((intro w hSw; (try dsimp only at hSw); go_simp) <;> (with_reducible rfl))
                            case hq111 => exact fun _ _ _ h => h
                            simp only [List.set_cons_succ, List.set_cons_zero]
                            refine take_at (i := 2) (d := 173) (oi := ?o112) (v := ?v112) ?hi112 ?hd112 (by kernel_rfl) (by kernel_rfl) (by kernel_rfl) ?hw112 ?hy112 ?hq112 (by assumption) ?r112
                            case hi112 => (simp only [List.getElem?_toArray, List.getElem?_cons_succ, List.getElem?_cons_zero]; rfl)
                            case hd112 => rfl
                            case hw112 => rfl
                            case hy112 => ((intro w hSw; (try dsimp only at hSw); go_simp) <;> (with_reducible rfl))
                            case hq112 => exact fun _ _ _ h => h
                            simp only [List.set_cons_succ, List.set_cons_zero]
                            refine take_at (i := 3) (d := 174) (oi := ?o113) (v := ?v113) ?hi113 ?hd113 (by kernel_rfl) (by kernel_rfl) (by kernel_rfl) ?hw113 ?hy113 ?hq113 (by assumption) ?r113
                            case hi113 => (simp only [List.getElem?_toArray, List.getElem?_cons_succ, List.getElem?_cons_zero]; rfl)
                            case hd113 => rfl
                            case hw113 => rfl
                            case hy113 => ((intro w hSw; (try dsimp only at hSw); go_simp) <;> (with_reducible rfl))
                            case hq113 => exact fun _ _ _ h => h
                            simp only [List.set_cons_succ, List.set_cons_zero]
                            refine take_at (i := 4) (d := 175) (oi := ?o114) (v := ?v114) ?hi114 ?hd114 (by kernel_rfl) (by kernel_rfl) (by kernel_rfl) ?hw114 ?hy114 ?hq114 (by assumption) ?r114
                            case hi114 => (simp only [List.getElem?_toArray, List.getElem?_cons_succ, List.getElem?_cons_zero]; rfl)
                            case hd114 => rfl
                            case hw114 => rfl
                            case hy114 => ((intro w hSw; (try dsimp only at hSw); go_simp) <;> (with_reducible rfl))
                            case hq114 => exact fun _ _ _ h => h
                            simp only [List.set_cons_succ, List.set_cons_zero]
                            refine take_at (i := 5) (d := 176) (oi := ?o115) (v := ?v115) ?hi115 ?hd115 (by kernel_rfl) (by kernel_rfl) (by kernel_rfl) ?hw115 ?hy115 ?hq115 (by assumption) ?r115
                            case hi115 => (simp only [List.getElem?_toArray, List.getElem?_cons_succ, List.getElem?_cons_zero]; rfl)
                            case hd115 => rfl
                            case hw115 => rfl
                            case hy115 => ((intro w hSw; (try dsimp only at hSw); go_simp) <;> (with_reducible rfl))
                            case hq115 => exact fun _ _ _ h => h
                            simp only [List.set_cons_succ, List.set_cons_zero]
                            refine take_at (i := 6) (d := 177) (oi := ?o116) (v := ?v116) ?hi116 ?hd116 (by kernel_rfl) (by kernel_rfl) (by kernel_rfl) ?hw116 ?hy116 ?hq116 (by assumption) ?r116
                            case hi116 => (simp only [List.getElem?_toArray, List.getElem?_cons_succ, List.getElem?_cons_zero]; rfl)
                            case hd116 => rfl
                            case hw116 => rfl
                            case hy116 => ((intro w hSw; (try dsimp only at hSw); obtain ⟨e0, e1, _⟩ := Hg.out _ hSw; go_simp) <;> (with_reducible rfl))
                            case hq116 => exact fun _ _ _ h => h
                            simp only [List.set_cons_succ, List.set_cons_zero]
                            refine take_at (i := 7) (d := 178) (oi := ?o117) (v := ?v117) ?hi117 ?hd117 (by kernel_rfl) (by kernel_rfl) (by kernel_rfl) ?hw117 ?hy117 ?hq117 (by assumption) ?r117
                            case hi117 => (simp only [List.getElem?_toArray, List.getElem?_cons_succ, List.getElem?_cons_zero]; rfl)
                            case hd117 => rfl
                            case hw117 => rfl
                            case hy117 => ((intro w hSw; (try dsimp only at hSw); go_simp) <;> (with_reducible rfl))
                            case hq117 => exact fun _ _ _ h => h
                            simp only [List.set_cons_succ, List.set_cons_zero]
                            refine take_at (i := 8) (d := 179) (oi := ?o118) (v := ?v118) ?hi118 ?hd118 (by kernel_rfl) (by kernel_rfl) (by kernel_rfl) ?hw118 ?hy118 ?hq118 (by assumption) ?r118
                            case hi118 => (simp only [List.getElem?_toArray, List.getElem?_cons_succ, List.getElem?_cons_zero]; rfl)
                            case hd118 => rfl
                            case hw118 => rfl
                            case hy118 => ((intro w hSw; (try dsimp only at hSw); obtain ⟨e0, e1⟩ := (Xf7.out _ hSw).cells; go_simp) <;> (with_reducible rfl))
                            case hq118 => exact fun _ _ _ h => h
                            simp only [List.set_cons_succ, List.set_cons_zero]
                            refine take_at (i := 9) (d := 180) (oi := ?o119) (v := ?v119) ?hi119 ?hd119 (by kernel_rfl) (by kernel_rfl) (by kernel_rfl) ?hw119 ?hy119 ?hq119 (by assumption) ?r119
                            case hi119 => (simp only [List.getElem?_toArray, List.getElem?_cons_succ, List.getElem?_cons_zero]; rfl)
                            case hd119 => rfl
                            case hw119 => rfl
                            case hy119 => ((intro w hSw; (try dsimp only at hSw); go_simp) <;> (with_reducible rfl))
                            case hq119 => exact fun _ _ _ h => h
                            simp only [List.set_cons_succ, List.set_cons_zero]
                            refine take_at (i := 10) (d := 181) (oi := ?o120) (v := ?v120) ?hi120 ?hd120 (by kernel_rfl) (by kernel_rfl) (by kernel_rfl) ?hw120 ?hy120 ?hq120 (by assumption) ?r120
                            case hi120 => (simp only [List.getElem?_toArray, List.getElem?_cons_succ, List.getElem?_cons_zero]; rfl)
                            case hd120 => rfl
                            case hw120 => rfl
                            case hy120 => ((intro w hSw; (try dsimp only at hSw); go_simp) <;> (with_reducible rfl))
                            case hq120 => exact fun _ _ _ h => h
                            simp only [List.set_cons_succ, List.set_cons_zero]
                            refine take_at (i := 11) (d := 182) (oi := ?o121) (v := ?v121) ?hi121 ?hd121 (by kernel_rfl) (by kernel_rfl) (by kernel_rfl) ?hw121 ?hy121 ?hq121 (by assumption) ?r121
                            case hi121 => (simp only [List.getElem?_toArray, List.getElem?_cons_succ, List.getElem?_cons_zero]; rfl)
                            case hd121 => rfl
                            case hw121 => rfl
                            case hy121 => ((intro w hSw; (try dsimp only at hSw); go_simp) <;> (with_reducible rfl))
                            case hq121 => exact fun _ _ _ h => h
                            simp only [List.set_cons_succ, List.set_cons_zero]
                            refine take_at (i := 12) (d := 183) (oi := ?o122) (v := ?v122) ?hi122 ?hd122 (by kernel_rfl) (by kernel_rfl) (by kernel_rfl) ?hw122 ?hy122 ?hq122 (by assumption) ?r122
                            case hi122 => (simp only [List.getElem?_toArray, List.getElem?_cons_succ, List.getElem?_cons_zero]; rfl)
                            case hd122 => rfl
                            case hw122 => rfl
                            case hy122 => ((intro w hSw; (try dsimp only at hSw); go_simp) <;> (with_reducible rfl))
                            case hq122 => exact fun _ _ _ h => h
                            simp only [List.set_cons_succ, List.set_cons_zero]
                            refine take_at (i := 13) (d := 184) (oi := ?o123) (v := ?v123) ?hi123 ?hd123 (by kernel_rfl) (by kernel_rfl) (by kernel_rfl) ?hw123 ?hy123 ?hq123 (by assumption) ?r123
                            case hi123 => (simp only [List.getElem?_toArray, List.getElem?_cons_succ, List.getElem?_cons_zero]; rfl)
                            case hd123 => rfl
                            case hw123 => rfl
                            case hy123 => ((intro w hSw; (try dsimp only at hSw); go_simp) <;> (with_reducible rfl))
                            case hq123 => exact fun _ _ _ h => h
                            simp only [List.set_cons_succ, List.set_cons_zero]
                            refine take_at (i := 14) (d := 185) (oi := ?o124) (v := ?v124) ?hi124 ?hd124 (by kernel_rfl) (by kernel_rfl) (by kernel_rfl) ?hw124 ?hy124 ?hq124 (by assumption) ?r124
                            case hi124 => (simp only [List.getElem?_toArray, List.getElem?_cons_succ, List.getElem?_cons_zero]; rfl)
                            case hd124 => rfl
                            case hw124 => rfl
                            case hy124 => ((intro w hSw; (try dsimp only at hSw); go_simp) <;> (with_reducible rfl))
                            case hq124 => exact fun _ _ _ h => h
                            simp only [List.set_cons_succ, List.set_cons_zero]
                            refine take_at (i := 15) (d := 186) (oi := ?o125) (v := ?v125) ?hi125 ?hd125 (by kernel_rfl) (by kernel_rfl) (by kernel_rfl) ?hw125 ?hy125 ?hq125 (by assumption) ?r125
                            case hi125 => (simp only [List.getElem?_toArray, List.getElem?_cons_succ, List.getElem?_cons_zero]; rfl)
                            case hd125 => rfl
                            case hw125 => rfl
                            case hy125 => ((intro w hSw; (try dsimp only at hSw); obtain ⟨e0, e1, _⟩ := Hg.out _ hSw; go_simp) <;> (with_reducible rfl))
                            case hq125 => exact fun _ _ _ h => h
                            simp only [List.set_cons_succ, List.set_cons_zero]
                            refine take_at (i := 16) (d := 187) (oi := ?o126) (v := ?v126) ?hi126 ?hd126 (by kernel_rfl) (by kernel_rfl) (by kernel_rfl) ?hw126 ?hy126 ?hq126 (by assumption) ?r126
                            case hi126 => (simp only [List.getElem?_toArray, List.getElem?_cons_succ, List.getElem?_cons_zero]; rfl)
                            case hd126 => rfl
                            case hw126 => rfl
                            case hy126 => ((intro w hSw; (try dsimp only at hSw); go_simp) <;> (with_reducible rfl))
                            case hq126 => exact fun _ _ _ h => h
                            simp only [List.set_cons_succ, List.set_cons_zero]
                            refine take_at (i := 17) (d := 188) (oi := ?o127) (v := ?v127) ?hi127 ?hd127 (by kernel_rfl) (by kernel_rfl) (by kernel_rfl) ?hw127 ?hy127 ?hq127 (by assumption) ?r127
                            case hi127 => (simp only [List.getElem?_toArray, List.getElem?_cons_succ, List.getElem?_cons_zero]; rfl)
                            case hd127 => rfl
                            case hw127 => rfl
                            case hy127 => ((intro w hSw; (try dsimp only at hSw); have hc1 := hcut w; go_simp) <;> (with_reducible rfl))
                            case hq127 => exact fun _ _ _ h => h
                            simp only [List.set_cons_succ, List.set_cons_zero]
                            refine take_at (i := 18) (d := 189) (oi := ?o128) (v := ?v128) ?hi128 ?hd128 (by kernel_rfl) (by kernel_rfl) (by kernel_rfl) ?hw128 ?hy128 ?hq128 (by assumption) ?r128
                            case hi128 => (simp only [List.getElem?_toArray, List.getElem?_cons_succ, List.getElem?_cons_zero]; rfl)
                            case hd128 => rfl
                            case hw128 => rfl
                            case hy128 => ((intro w hSw; (try dsimp only at hSw); have cv := run_txt (c := gg.p.c) 26 9 5 Try.underlying26 Try.underlying5 Try.underlying9 ((Hg.out _ hSw).2.2.rd.first hMg); go_simp) <;> (with_reducible rfl))
                            case hq128 => exact fun _ _ _ h => h
                            simp only [List.set_cons_succ, List.set_cons_zero]
                            refine take_at (i := 19) (d := 190) (oi := ?o129) (v := ?v129) ?hi129 ?hd129 (by kernel_rfl) (by kernel_rfl) (by kernel_rfl) ?hw129 ?hy129 ?hq129 (by assumption) ?r129
                            case hi129 => (simp only [List.getElem?_toArray, List.getElem?_cons_succ, List.getElem?_cons_zero]; rfl)
                            case hd129 => rfl
                            case hw129 => rfl
                            case hy129 => ((intro w hSw; (try dsimp only at hSw); go_simp) <;> (with_reducible rfl))
                            case hq129 => exact fun _ _ _ h => h
                            simp only [List.set_cons_succ, List.set_cons_zero]
                            refine take_at (i := 20) (d := 191) (oi := ?o130) (v := ?v130) ?hi130 ?hd130 (by kernel_rfl) (by kernel_rfl) (by kernel_rfl) ?hw130 ?hy130 ?hq130 (by assumption) ?r130
                            case hi130 => (simp only [List.getElem?_toArray, List.getElem?_cons_succ, List.getElem?_cons_zero]; rfl)
                            case hd130 => rfl
                            case hw130 => rfl
                            case hy130 => ((intro w hSw; (try dsimp only at hSw); obtain ⟨e0, e1⟩ := (Xf7.out _ hSw).cells; go_simp) <;> (with_reducible rfl))
                            case hq130 => exact fun _ _ _ h => h
                            simp only [List.set_cons_succ, List.set_cons_zero]
                            refine take_at (i := 21) (d := 192) (oi := ?o131) (v := ?v131) ?hi131 ?hd131 (by kernel_rfl) (by kernel_rfl) (by kernel_rfl) ?hw131 ?hy131 ?hq131 (by assumption) ?r131
                            case hi131 => (simp only [List.getElem?_toArray, List.getElem?_cons_succ, List.getElem?_cons_zero]; rfl)
                            case hd131 => rfl
                            case hw131 => rfl
                            case hy131 => ((intro w hSw; (try dsimp only at hSw); have cv := run_txt (c := f.p.c) 26 9 5 Try.underlying26 Try.underlying5 Try.underlying9 (Hf7.out _ hSw).rd; go_simp) <;> (with_reducible rfl))
                            case hq131 => exact fun _ _ _ h => h
                            simp only [List.set_cons_succ, List.set_cons_zero]
                            refine take_at (i := 22) (d := 193) (oi := ?o132) (v := ?v132) ?hi132 ?hd132 (by kernel_rfl) (by kernel_rfl) (by kernel_rfl) ?hw132 ?hy132 ?hq132 (by assumption) ?r132
                            case hi132 => (simp only [List.getElem?_toArray, List.getElem?_cons_succ, List.getElem?_cons_zero]; rfl)
                            case hd132 => rfl
                            case hw132 => rfl
                            case hy132 => ((intro w hSw; (try dsimp only at hSw); go_simp) <;> (with_reducible rfl))
                            case hq132 => exact fun _ _ _ h => h
                            simp only [List.set_cons_succ, List.set_cons_zero]
                            refine take_at (i := 23) (d := 194) (oi := ?o133) (v := ?v133) ?hi133 ?hd133 (by kernel_rfl) (by kernel_rfl) (by kernel_rfl) ?hw133 ?hy133 ?hq133 (by assumption) ?r133
                            case hi133 => (simp only [List.getElem?_toArray, List.getElem?_cons_succ, List.getElem?_cons_zero]; rfl)
                            case hd133 => rfl
                            case hw133 => rfl
                            case hy133 => ((intro w hSw; (try dsimp only at hSw); go_simp) <;> (with_reducible rfl))
                            case hq133 => exact fun _ _ _ h => h
                            simp only [List.set_cons_succ, List.set_cons_zero]
                            refine take_at (i := 24) (d := 195) (oi := ?o134) (v := ?v134) ?hi134 ?hd134 (by kernel_rfl) (by kernel_rfl) (by kernel_rfl) ?hw134 ?hy134 ?hq134 (by assumption) ?r134
                            case hi134 => (simp only [List.getElem?_toArray, List.getElem?_cons_succ, List.getElem?_cons_zero]; rfl)
                            case hd134 => rfl
                            case hw134 => rfl
                            case hy134 => ((intro w hSw; (try dsimp only at hSw); go_simp) <;> (with_reducible rfl))
                            case hq134 => exact fun _ _ _ h => h
                            simp only [List.set_cons_succ, List.set_cons_zero]
                            refine take_at (i := 25) (d := 19) (oi := ?o135) (v := ?v135) ?hi135 ?hd135 (by kernel_rfl) (by kernel_rfl) (by kernel_rfl) ?hw135 ?hy135 ?hq135 (by assumption) ?r135
                            case hi135 => (simp only [List.getElem?_toArray, List.getElem?_cons_succ, List.getElem?_cons_zero]; rfl)
                            case hd135 => rfl
                            case hw135 => rfl
                            case hy135 => ((intro w hSw; (try dsimp only at hSw); go_simp) <;> (with_reducible rfl))
                            case hq135 => exact fun _ _ _ h => h
                            simp only [List.set_cons_succ, List.set_cons_zero]
                            refine wpAnyH_done (by kernel_rfl) ?_ _
                            have Hb2 : Hid (false = true ↔ ∃ g ∈ mn.fs.take (t + 1), Mt g f) := Lib.hid (by rw [any_step Hgi.out (fun g => Mt g f), ← Hbv.out]; exact ⟨fun h => (by cases h), fun h => (by rcases h with h | h; (· cases h); (· exact absurd h HM2.out))⟩)
                            have HW8 := Lib.hid (below_on HW6.out hHeld)
                            clear hHeld
                            go_wp2_with fail
                            exact ⟨⟨t + 1, false, by omega, rfl, rfl, Hb2, HW8⟩, by simp only [intOf]; omega⟩
                      · have tnm : (gg.name.toList == f.name.toList) = false := by rw [beq_name, decide_eq_false hnm]
                        have HM2 := Lib.hid (show ¬ Mt gg f from fun h => hnm (HMt.out.1 h).1)
                        clear hnm
                        as_aux_lemma =>
                          refine wp_region_held_drew (S := (fun W => Below wr.heap.size wr W)) (by kernel_rfl) (below_dr kb7) (fun hHeld => ?_)
                          refine take_at (i := 0) (d := 171) (oi := ?o136) (v := ?v136) ?hi136 ?hd136 (by kernel_rfl) (by kernel_rfl) (by kernel_rfl) ?hw136 ?hy136 ?hq136 (by assumption) ?r136
                          case hi136 => (simp only [List.getElem?_toArray, List.getElem?_cons_zero]; rfl)
                          case hd136 => rfl
                          case hw136 => rfl
                          case hy136 => ((intro w hSw; (try dsimp only at hSw); go_simp) <;> (with_reducible rfl))
                          case hq136 => exact fun _ _ _ h => h
                          simp only [List.set_cons_succ, List.set_cons_zero]
                          refine take_at (i := 1) (d := 172) (oi := ?o137) (v := ?v137) ?hi137 ?hd137 (by kernel_rfl) (by kernel_rfl) (by kernel_rfl) ?hw137 ?hy137 ?hq137 (by assumption) ?r137
                          case hi137 => (simp only [List.getElem?_toArray, List.getElem?_cons_succ, List.getElem?_cons_zero]; rfl)
                          case hd137 => rfl
                          case hw137 => rfl
                          case hy137 => ((intro w hSw; (try dsimp only at hSw); go_simp) <;> (with_reducible rfl))
                          case hq137 => exact fun _ _ _ h => h
                          simp only [List.set_cons_succ, List.set_cons_zero]
                          refine take_at (i := 2) (d := 173) (oi := ?o138) (v := ?v138) ?hi138 ?hd138 (by kernel_rfl) (by kernel_rfl) (by kernel_rfl) ?hw138 ?hy138 ?hq138 (by assumption) ?r138
                          case hi138 => (simp only [List.getElem?_toArray, List.getElem?_cons_succ, List.getElem?_cons_zero]; rfl)
                          case hd138 => rfl
                          case hw138 => rfl
                          case hy138 => ((intro w hSw; (try dsimp only at hSw); go_simp) <;> (with_reducible rfl))
                          case hq138 => exact fun _ _ _ h => h
                          simp only [List.set_cons_succ, List.set_cons_zero]
                          refine take_at (i := 3) (d := 174) (oi := ?o139) (v := ?v139) ?hi139 ?hd139 (by kernel_rfl) (by kernel_rfl) (by kernel_rfl) ?hw139 ?hy139 ?hq139 (by assumption) ?r139
                          case hi139 => (simp only [List.getElem?_toArray, List.getElem?_cons_succ, List.getElem?_cons_zero]; rfl)
                          case hd139 => rfl
                          case hw139 => rfl
                          case hy139 => ((intro w hSw; (try dsimp only at hSw); go_simp) <;> (with_reducible rfl))
                          case hq139 => exact fun _ _ _ h => h
                          simp only [List.set_cons_succ, List.set_cons_zero]
                          refine take_at (i := 4) (d := 175) (oi := ?o140) (v := ?v140) ?hi140 ?hd140 (by kernel_rfl) (by kernel_rfl) (by kernel_rfl) ?hw140 ?hy140 ?hq140 (by assumption) ?r140
                          case hi140 => (simp only [List.getElem?_toArray, List.getElem?_cons_succ, List.getElem?_cons_zero]; rfl)
                          case hd140 => rfl
                          case hw140 => rfl
                          case hy140 => ((intro w hSw; (try dsimp only at hSw); go_simp) <;> (with_reducible rfl))
                          case hq140 => exact fun _ _ _ h => h
                          simp only [List.set_cons_succ, List.set_cons_zero]
                          refine take_at (i := 5) (d := 176) (oi := ?o141) (v := ?v141) ?hi141 ?hd141 (by kernel_rfl) (by kernel_rfl) (by kernel_rfl) ?hw141 ?hy141 ?hq141 (by assumption) ?r141
                          case hi141 => (simp only [List.getElem?_toArray, List.getElem?_cons_succ, List.getElem?_cons_zero]; rfl)
                          case hd141 => rfl
                          case hw141 => rfl
                          case hy141 => ((intro w hSw; (try dsimp only at hSw); go_simp) <;> (with_reducible rfl))
                          case hq141 => exact fun _ _ _ h => h
                          simp only [List.set_cons_succ, List.set_cons_zero]
                          refine take_at (i := 6) (d := 177) (oi := ?o142) (v := ?v142) ?hi142 ?hd142 (by kernel_rfl) (by kernel_rfl) (by kernel_rfl) ?hw142 ?hy142 ?hq142 (by assumption) ?r142
                          case hi142 => (simp only [List.getElem?_toArray, List.getElem?_cons_succ, List.getElem?_cons_zero]; rfl)
                          case hd142 => rfl
                          case hw142 => rfl
                          case hy142 => ((intro w hSw; (try dsimp only at hSw); obtain ⟨e0, e1, _⟩ := Hg.out _ hSw; go_simp) <;> (with_reducible rfl))
                          case hq142 => exact fun _ _ _ h => h
                          simp only [List.set_cons_succ, List.set_cons_zero]
                          refine take_at (i := 7) (d := 178) (oi := ?o143) (v := ?v143) ?hi143 ?hd143 (by kernel_rfl) (by kernel_rfl) (by kernel_rfl) ?hw143 ?hy143 ?hq143 (by assumption) ?r143
                          case hi143 => (simp only [List.getElem?_toArray, List.getElem?_cons_succ, List.getElem?_cons_zero]; rfl)
                          case hd143 => rfl
                          case hw143 => rfl
                          case hy143 => ((intro w hSw; (try dsimp only at hSw); go_simp) <;> (with_reducible rfl))
                          case hq143 => exact fun _ _ _ h => h
                          simp only [List.set_cons_succ, List.set_cons_zero]
                          refine take_at (i := 8) (d := 179) (oi := ?o144) (v := ?v144) ?hi144 ?hd144 (by kernel_rfl) (by kernel_rfl) (by kernel_rfl) ?hw144 ?hy144 ?hq144 (by assumption) ?r144
                          case hi144 => (simp only [List.getElem?_toArray, List.getElem?_cons_succ, List.getElem?_cons_zero]; rfl)
                          case hd144 => rfl
                          case hw144 => rfl
                          case hy144 => ((intro w hSw; (try dsimp only at hSw); obtain ⟨e0, e1⟩ := (Xf7.out _ hSw).cells; go_simp) <;> (with_reducible rfl))
                          case hq144 => exact fun _ _ _ h => h
                          simp only [List.set_cons_succ, List.set_cons_zero]
                          refine take_at (i := 9) (d := 180) (oi := ?o145) (v := ?v145) ?hi145 ?hd145 (by kernel_rfl) (by kernel_rfl) (by kernel_rfl) ?hw145 ?hy145 ?hq145 (by assumption) ?r145
                          case hi145 => (simp only [List.getElem?_toArray, List.getElem?_cons_succ, List.getElem?_cons_zero]; rfl)
                          case hd145 => rfl
                          case hw145 => rfl
                          case hy145 => ((intro w hSw; (try dsimp only at hSw); go_simp) <;> (with_reducible rfl))
                          case hq145 => exact fun _ _ _ h => h
                          simp only [List.set_cons_succ, List.set_cons_zero]
                          refine take_at (i := 10) (d := 181) (oi := ?o146) (v := ?v146) ?hi146 ?hd146 (by kernel_rfl) (by kernel_rfl) (by kernel_rfl) ?hw146 ?hy146 ?hq146 (by assumption) ?r146
                          case hi146 => (simp only [List.getElem?_toArray, List.getElem?_cons_succ, List.getElem?_cons_zero]; rfl)
                          case hd146 => rfl
                          case hw146 => rfl
                          case hy146 => ((intro w hSw; (try dsimp only at hSw); go_simp) <;> (with_reducible rfl))
                          case hq146 => exact fun _ _ _ h => h
                          simp only [List.set_cons_succ, List.set_cons_zero]
                          refine skip_at (i := 11) (d := 182) (oi := ?o147) ?hi147 ?hd147 (by kernel_rfl) (by kernel_rfl) (by kernel_rfl) ?hw147 ?hq147 (by assumption) ?r147
                          case hi147 => (simp only [List.getElem?_toArray, List.getElem?_cons_succ, List.getElem?_cons_zero]; rfl)
                          case hd147 => rfl
                          case hw147 => rfl
                          case hq147 => exact fun _ _ _ h => h
                          simp only [List.set_cons_succ, List.set_cons_zero]
                          refine skip_at (i := 12) (d := 183) (oi := ?o148) ?hi148 ?hd148 (by kernel_rfl) (by kernel_rfl) (by kernel_rfl) ?hw148 ?hq148 (by assumption) ?r148
                          case hi148 => (simp only [List.getElem?_toArray, List.getElem?_cons_succ, List.getElem?_cons_zero]; rfl)
                          case hd148 => rfl
                          case hw148 => rfl
                          case hq148 => exact fun _ _ _ h => h
                          simp only [List.set_cons_succ, List.set_cons_zero]
                          refine skip_at (i := 13) (d := 184) (oi := ?o149) ?hi149 ?hd149 (by kernel_rfl) (by kernel_rfl) (by kernel_rfl) ?hw149 ?hq149 (by assumption) ?r149
                          case hi149 => (simp only [List.getElem?_toArray, List.getElem?_cons_succ, List.getElem?_cons_zero]; rfl)
                          case hd149 => rfl
                          case hw149 => rfl
                          case hq149 => exact fun _ _ _ h => h
                          simp only [List.set_cons_succ, List.set_cons_zero]
                          refine skip_at (i := 14) (d := 185) (oi := ?o150) ?hi150 ?hd150 (by kernel_rfl) (by kernel_rfl) (by kernel_rfl) ?hw150 ?hq150 (by assumption) ?r150
                          case hi150 => (simp only [List.getElem?_toArray, List.getElem?_cons_succ, List.getElem?_cons_zero]; rfl)
                          case hd150 => rfl
                          case hw150 => rfl
                          case hq150 => exact fun _ _ _ h => h
                          simp only [List.set_cons_succ, List.set_cons_zero]
                          refine skip_at (i := 15) (d := 186) (oi := ?o151) ?hi151 ?hd151 (by kernel_rfl) (by kernel_rfl) (by kernel_rfl) ?hw151 ?hq151 (by assumption) ?r151
                          case hi151 => (simp only [List.getElem?_toArray, List.getElem?_cons_succ, List.getElem?_cons_zero]; rfl)
                          case hd151 => rfl
                          case hw151 => rfl
                          case hq151 => exact fun _ _ _ h => h
                          simp only [List.set_cons_succ, List.set_cons_zero]
                          refine skip_at (i := 16) (d := 187) (oi := ?o152) ?hi152 ?hd152 (by kernel_rfl) (by kernel_rfl) (by kernel_rfl) ?hw152 ?hq152 (by assumption) ?r152
                          case hi152 => (simp only [List.getElem?_toArray, List.getElem?_cons_succ, List.getElem?_cons_zero]; rfl)
                          case hd152 => rfl
                          case hw152 => rfl
                          case hq152 => exact fun _ _ _ h => h
                          simp only [List.set_cons_succ, List.set_cons_zero]
                          refine skip_at (i := 17) (d := 188) (oi := ?o153) ?hi153 ?hd153 (by kernel_rfl) (by kernel_rfl) (by kernel_rfl) ?hw153 ?hq153 (by assumption) ?r153
                          case hi153 => (simp only [List.getElem?_toArray, List.getElem?_cons_succ, List.getElem?_cons_zero]; rfl)
                          case hd153 => rfl
                          case hw153 => rfl
                          case hq153 => exact fun _ _ _ h => h
                          simp only [List.set_cons_succ, List.set_cons_zero]
                          refine skip_at (i := 18) (d := 189) (oi := ?o154) ?hi154 ?hd154 (by kernel_rfl) (by kernel_rfl) (by kernel_rfl) ?hw154 ?hq154 (by assumption) ?r154
                          case hi154 => (simp only [List.getElem?_toArray, List.getElem?_cons_succ, List.getElem?_cons_zero]; rfl)
                          case hd154 => rfl
                          case hw154 => rfl
                          case hq154 => exact fun _ _ _ h => h
                          simp only [List.set_cons_succ, List.set_cons_zero]
                          refine skip_at (i := 19) (d := 190) (oi := ?o155) ?hi155 ?hd155 (by kernel_rfl) (by kernel_rfl) (by kernel_rfl) ?hw155 ?hq155 (by assumption) ?r155
                          case hi155 => (simp only [List.getElem?_toArray, List.getElem?_cons_succ, List.getElem?_cons_zero]; rfl)
                          case hd155 => rfl
                          case hw155 => rfl
                          case hq155 => exact fun _ _ _ h => h
                          simp only [List.set_cons_succ, List.set_cons_zero]
                          refine skip_at (i := 20) (d := 191) (oi := ?o156) ?hi156 ?hd156 (by kernel_rfl) (by kernel_rfl) (by kernel_rfl) ?hw156 ?hq156 (by assumption) ?r156
                          case hi156 => (simp only [List.getElem?_toArray, List.getElem?_cons_succ, List.getElem?_cons_zero]; rfl)
                          case hd156 => rfl
                          case hw156 => rfl
                          case hq156 => exact fun _ _ _ h => h
                          simp only [List.set_cons_succ, List.set_cons_zero]
                          refine skip_at (i := 21) (d := 192) (oi := ?o157) ?hi157 ?hd157 (by kernel_rfl) (by kernel_rfl) (by kernel_rfl) ?hw157 ?hq157 (by assumption) ?r157
                          case hi157 => (simp only [List.getElem?_toArray, List.getElem?_cons_succ, List.getElem?_cons_zero]; rfl)
                          case hd157 => rfl
                          case hw157 => rfl
                          case hq157 => exact fun _ _ _ h => h
                          simp only [List.set_cons_succ, List.set_cons_zero]
                          refine skip_at (i := 22) (d := 193) (oi := ?o158) ?hi158 ?hd158 (by kernel_rfl) (by kernel_rfl) (by kernel_rfl) ?hw158 ?hq158 (by assumption) ?r158
                          case hi158 => (simp only [List.getElem?_toArray, List.getElem?_cons_succ, List.getElem?_cons_zero]; rfl)
                          case hd158 => rfl
                          case hw158 => rfl
                          case hq158 => exact fun _ _ _ h => h
                          simp only [List.set_cons_succ, List.set_cons_zero]
                          refine take_at (i := 23) (d := 194) (oi := ?o159) (v := ?v159) ?hi159 ?hd159 (by kernel_rfl) (by kernel_rfl) (by kernel_rfl) ?hw159 ?hy159 ?hq159 (by assumption) ?r159
                          case hi159 => (simp only [List.getElem?_toArray, List.getElem?_cons_succ, List.getElem?_cons_zero]; rfl)
                          case hd159 => rfl
                          case hw159 => rfl
                          case hy159 => ((intro w hSw; (try dsimp only at hSw); go_simp) <;> (with_reducible rfl))
                          case hq159 => exact fun _ _ _ h => h
                          simp only [List.set_cons_succ, List.set_cons_zero]
                          refine take_at (i := 24) (d := 195) (oi := ?o160) (v := ?v160) ?hi160 ?hd160 (by kernel_rfl) (by kernel_rfl) (by kernel_rfl) ?hw160 ?hy160 ?hq160 (by assumption) ?r160
                          case hi160 => (simp only [List.getElem?_toArray, List.getElem?_cons_succ, List.getElem?_cons_zero]; rfl)
                          case hd160 => rfl
                          case hw160 => rfl
                          case hy160 => ((intro w hSw; (try dsimp only at hSw); go_simp) <;> (with_reducible rfl))
                          case hq160 => exact fun _ _ _ h => h
                          simp only [List.set_cons_succ, List.set_cons_zero]
                          refine take_at (i := 25) (d := 19) (oi := ?o161) (v := ?v161) ?hi161 ?hd161 (by kernel_rfl) (by kernel_rfl) (by kernel_rfl) ?hw161 ?hy161 ?hq161 (by assumption) ?r161
                          case hi161 => (simp only [List.getElem?_toArray, List.getElem?_cons_succ, List.getElem?_cons_zero]; rfl)
                          case hd161 => rfl
                          case hw161 => rfl
                          case hy161 => ((intro w hSw; (try dsimp only at hSw); go_simp) <;> (with_reducible rfl))
                          case hq161 => exact fun _ _ _ h => h
                          simp only [List.set_cons_succ, List.set_cons_zero]
                          refine wpAnyH_done (by kernel_rfl) ?_ _
                          have Hb2 : Hid (false = true ↔ ∃ g ∈ mn.fs.take (t + 1), Mt g f) := Lib.hid (by rw [any_step Hgi.out (fun g => Mt g f), ← Hbv.out]; exact ⟨fun h => (by cases h), fun h => (by rcases h with h | h; (· cases h); (· exact absurd h HM2.out))⟩)
                          have HW8 := Lib.hid (below_on HW6.out hHeld)
                          clear hHeld
                          go_wp2_with fail
                          exact ⟨⟨t + 1, false, by omega, rfl, rfl, Hb2, HW8⟩, by simp only [intOf]; omega⟩
                · have hte : t = mn.n := by omega
                  have Hb0 : Hid (bv = true ↔ ∃ g ∈ mn.fs, Mt g f) := Lib.hid (by
                    have h1 := Hbv.out
                    rw [hte, List.take_of_length_le (by rw [Hl.out.2.1]; exact Nat.le_refl _)] at h1
                    exact h1)
                  clear Hbv
                  go_wp2_with fail
                  go_loopw [19, 22] (fun s19 s22 W => ∃ (t2 : Nat) (b2 : Bool), t2 ≤ mK.n ∧ s19 = .bool b2 ∧ s22 = .int .i64 t2 ∧ Hid (b2 = true ↔ bv = true ∨ ∃ g ∈ mK.fs.take t2, Mq g f) ∧ Hid (Below w6.heap.size w6 W)) (fun _ s _ => mK.n - (intOf s).toNat)
                  case atStart => exact ⟨0, bv, by omega, rfl, rfl, Lib.hid (by simp), HW6⟩
                  case round =>
                    clear HW6
                    obtain ⟨t2, b2, ht2, rfl, rfl, Hbq, HW6⟩ := hrel
                    obtain ⟨e0, hft⟩ := HK6.out _ HW6.out
                    by_cases htl2 : t2 < mK.n
                    · have ht0 : (0 : Int) ≤ (t2 : Int) := by omega
                      have ht1 : (t2 : Int) < (mK.n : Int) := by omega
                      have htw : IntKind.i64.wrap ((t2 : Int) + 1) = ((t2 + 1 : Nat) : Int) := by rw [IntKind.wrap_i64]; omega
                      obtain ⟨bg, og, gg, rfl, hbg, hgi, d0, d1, hgok⟩ := hft.fs.at_ htl2
                      have Hg := Lib.hid (show ∀ W, Below wr.heap.size wr W → W.cell? ⟨bg, og + t2 * 2, none⟩ = some (.string gg.name) ∧ W.cell? ⟨bg, og + t2 * 2 + 1, none⟩ = some (.slice gg.p.A gg.p.n gg.p.c) ∧ gg.p.Ok W W.heap.size from fun W hW =>
                        ⟨(cells_below hW hbg).1.trans d0, (cells_below hW hbg).1.trans d1, hgok.on hW hW.size⟩)
                      have Hc := Lib.hid (show ∀ W, Below wr.heap.size wr W → W.cell? ⟨gW, K, none⟩ = some (.slice (some ⟨bg, og, none⟩) mK.n mK.c) from fun W hW => (HK6.out W (below_on HW6.out hW)).1)
                      have Xf7 := Lib.hid (show ∀ W, Below wr.heap.size wr W → BoxF W zf f from fun W hW => Xf.out W (below_on HW6.out hW))
                      have Hf7 := Lib.hid (show ∀ W, Below wr.heap.size wr W → f.p.Ok W W.heap.size from fun W hW => Hfo.out W (below_on HW6.out hW))
                      have hby1 := hgok.byt
                      have hby2 := (Hf7.out _ (below_d0 _)).byt
                      have Hby := Lib.hid (⟨hby1, hby2⟩ : _ ∧ _)
                      have Hgi := Lib.hid hgi
                      clear d0 d1 hgok hbg hgi hby1 hby2 hft
                      go_upto_region 37 with fail
                      clear e0
                      cases b2
                      case true =>
                        as_aux_lemma =>
                          refine wp_region_held_drew (S := (fun W => Below wr.heap.size wr W)) (by kernel_rfl) (below_dr (below_d0 _)) (fun hHeld => ?_)
                          refine take_at (i := 0) (d := 205) (oi := ?o162) (v := ?v162) ?hi162 ?hd162 (by kernel_rfl) (by kernel_rfl) (by kernel_rfl) ?hw162 ?hy162 ?hq162 (by assumption) ?r162
                          case hi162 => (simp only [List.getElem?_toArray, List.getElem?_cons_zero]; rfl)
                          case hd162 => rfl
                          case hw162 => rfl
                          case hy162 => ((intro w hSw; (try dsimp only at hSw); go_simp) <;> (with_reducible rfl))
                          case hq162 => exact fun _ _ _ h => h
                          simp only [List.set_cons_succ, List.set_cons_zero]
                          refine take_at (i := 1) (d := 206) (oi := ?o163) (v := ?v163) ?hi163 ?hd163 (by kernel_rfl) (by kernel_rfl) (by kernel_rfl) ?hw163 ?hy163 ?hq163 (by assumption) ?r163
                          case hi163 => (simp only [List.getElem?_toArray, List.getElem?_cons_succ, List.getElem?_cons_zero]; rfl)
                          case hd163 => rfl
                          case hw163 => rfl
                          case hy163 => ((intro w hSw; (try dsimp only at hSw); go_simp) <;> (with_reducible rfl))
                          case hq163 => exact fun _ _ _ h => h
                          simp only [List.set_cons_succ, List.set_cons_zero]
                          refine skip_at (i := 2) (d := 207) (oi := ?o164) ?hi164 ?hd164 (by kernel_rfl) (by kernel_rfl) (by kernel_rfl) ?hw164 ?hq164 (by assumption) ?r164
                          case hi164 => (simp only [List.getElem?_toArray, List.getElem?_cons_succ, List.getElem?_cons_zero]; rfl)
                          case hd164 => rfl
                          case hw164 => rfl
                          case hq164 => exact fun _ _ _ h => h
                          simp only [List.set_cons_succ, List.set_cons_zero]
                          refine skip_at (i := 3) (d := 208) (oi := ?o165) ?hi165 ?hd165 (by kernel_rfl) (by kernel_rfl) (by kernel_rfl) ?hw165 ?hq165 (by assumption) ?r165
                          case hi165 => (simp only [List.getElem?_toArray, List.getElem?_cons_succ, List.getElem?_cons_zero]; rfl)
                          case hd165 => rfl
                          case hw165 => rfl
                          case hq165 => exact fun _ _ _ h => h
                          simp only [List.set_cons_succ, List.set_cons_zero]
                          refine skip_at (i := 4) (d := 209) (oi := ?o166) ?hi166 ?hd166 (by kernel_rfl) (by kernel_rfl) (by kernel_rfl) ?hw166 ?hq166 (by assumption) ?r166
                          case hi166 => (simp only [List.getElem?_toArray, List.getElem?_cons_succ, List.getElem?_cons_zero]; rfl)
                          case hd166 => rfl
                          case hw166 => rfl
                          case hq166 => exact fun _ _ _ h => h
                          simp only [List.set_cons_succ, List.set_cons_zero]
                          refine skip_at (i := 5) (d := 210) (oi := ?o167) ?hi167 ?hd167 (by kernel_rfl) (by kernel_rfl) (by kernel_rfl) ?hw167 ?hq167 (by assumption) ?r167
                          case hi167 => (simp only [List.getElem?_toArray, List.getElem?_cons_succ, List.getElem?_cons_zero]; rfl)
                          case hd167 => rfl
                          case hw167 => rfl
                          case hq167 => exact fun _ _ _ h => h
                          simp only [List.set_cons_succ, List.set_cons_zero]
                          refine skip_at (i := 6) (d := 211) (oi := ?o168) ?hi168 ?hd168 (by kernel_rfl) (by kernel_rfl) (by kernel_rfl) ?hw168 ?hq168 (by assumption) ?r168
                          case hi168 => (simp only [List.getElem?_toArray, List.getElem?_cons_succ, List.getElem?_cons_zero]; rfl)
                          case hd168 => rfl
                          case hw168 => rfl
                          case hq168 => exact fun _ _ _ h => h
                          simp only [List.set_cons_succ, List.set_cons_zero]
                          refine skip_at (i := 7) (d := 212) (oi := ?o169) ?hi169 ?hd169 (by kernel_rfl) (by kernel_rfl) (by kernel_rfl) ?hw169 ?hq169 (by assumption) ?r169
                          case hi169 => (simp only [List.getElem?_toArray, List.getElem?_cons_succ, List.getElem?_cons_zero]; rfl)
                          case hd169 => rfl
                          case hw169 => rfl
                          case hq169 => exact fun _ _ _ h => h
                          simp only [List.set_cons_succ, List.set_cons_zero]
                          refine skip_at (i := 8) (d := 213) (oi := ?o170) ?hi170 ?hd170 (by kernel_rfl) (by kernel_rfl) (by kernel_rfl) ?hw170 ?hq170 (by assumption) ?r170
                          case hi170 => (simp only [List.getElem?_toArray, List.getElem?_cons_succ, List.getElem?_cons_zero]; rfl)
                          case hd170 => rfl
                          case hw170 => rfl
                          case hq170 => exact fun _ _ _ h => h
                          simp only [List.set_cons_succ, List.set_cons_zero]
                          refine skip_at (i := 9) (d := 214) (oi := ?o171) ?hi171 ?hd171 (by kernel_rfl) (by kernel_rfl) (by kernel_rfl) ?hw171 ?hq171 (by assumption) ?r171
                          case hi171 => (simp only [List.getElem?_toArray, List.getElem?_cons_succ, List.getElem?_cons_zero]; rfl)
                          case hd171 => rfl
                          case hw171 => rfl
                          case hq171 => exact fun _ _ _ h => h
                          simp only [List.set_cons_succ, List.set_cons_zero]
                          refine skip_at (i := 10) (d := 215) (oi := ?o172) ?hi172 ?hd172 (by kernel_rfl) (by kernel_rfl) (by kernel_rfl) ?hw172 ?hq172 (by assumption) ?r172
                          case hi172 => (simp only [List.getElem?_toArray, List.getElem?_cons_succ, List.getElem?_cons_zero]; rfl)
                          case hd172 => rfl
                          case hw172 => rfl
                          case hq172 => exact fun _ _ _ h => h
                          simp only [List.set_cons_succ, List.set_cons_zero]
                          refine skip_at (i := 11) (d := 216) (oi := ?o173) ?hi173 ?hd173 (by kernel_rfl) (by kernel_rfl) (by kernel_rfl) ?hw173 ?hq173 (by assumption) ?r173
                          case hi173 => (simp only [List.getElem?_toArray, List.getElem?_cons_succ, List.getElem?_cons_zero]; rfl)
                          case hd173 => rfl
                          case hw173 => rfl
                          case hq173 => exact fun _ _ _ h => h
                          simp only [List.set_cons_succ, List.set_cons_zero]
                          refine skip_at (i := 12) (d := 217) (oi := ?o174) ?hi174 ?hd174 (by kernel_rfl) (by kernel_rfl) (by kernel_rfl) ?hw174 ?hq174 (by assumption) ?r174
                          case hi174 => (simp only [List.getElem?_toArray, List.getElem?_cons_succ, List.getElem?_cons_zero]; rfl)
                          case hd174 => rfl
                          case hw174 => rfl
                          case hq174 => exact fun _ _ _ h => h
                          simp only [List.set_cons_succ, List.set_cons_zero]
                          refine skip_at (i := 13) (d := 218) (oi := ?o175) ?hi175 ?hd175 (by kernel_rfl) (by kernel_rfl) (by kernel_rfl) ?hw175 ?hq175 (by assumption) ?r175
                          case hi175 => (simp only [List.getElem?_toArray, List.getElem?_cons_succ, List.getElem?_cons_zero]; rfl)
                          case hd175 => rfl
                          case hw175 => rfl
                          case hq175 => exact fun _ _ _ h => h
                          simp only [List.set_cons_succ, List.set_cons_zero]
                          refine skip_at (i := 14) (d := 219) (oi := ?o176) ?hi176 ?hd176 (by kernel_rfl) (by kernel_rfl) (by kernel_rfl) ?hw176 ?hq176 (by assumption) ?r176
                          case hi176 => (simp only [List.getElem?_toArray, List.getElem?_cons_succ, List.getElem?_cons_zero]; rfl)
                          case hd176 => rfl
                          case hw176 => rfl
                          case hq176 => exact fun _ _ _ h => h
                          simp only [List.set_cons_succ, List.set_cons_zero]
                          refine skip_at (i := 15) (d := 220) (oi := ?o177) ?hi177 ?hd177 (by kernel_rfl) (by kernel_rfl) (by kernel_rfl) ?hw177 ?hq177 (by assumption) ?r177
                          case hi177 => (simp only [List.getElem?_toArray, List.getElem?_cons_succ, List.getElem?_cons_zero]; rfl)
                          case hd177 => rfl
                          case hw177 => rfl
                          case hq177 => exact fun _ _ _ h => h
                          simp only [List.set_cons_succ, List.set_cons_zero]
                          refine skip_at (i := 16) (d := 221) (oi := ?o178) ?hi178 ?hd178 (by kernel_rfl) (by kernel_rfl) (by kernel_rfl) ?hw178 ?hq178 (by assumption) ?r178
                          case hi178 => (simp only [List.getElem?_toArray, List.getElem?_cons_succ, List.getElem?_cons_zero]; rfl)
                          case hd178 => rfl
                          case hw178 => rfl
                          case hq178 => exact fun _ _ _ h => h
                          simp only [List.set_cons_succ, List.set_cons_zero]
                          refine skip_at (i := 17) (d := 222) (oi := ?o179) ?hi179 ?hd179 (by kernel_rfl) (by kernel_rfl) (by kernel_rfl) ?hw179 ?hq179 (by assumption) ?r179
                          case hi179 => (simp only [List.getElem?_toArray, List.getElem?_cons_succ, List.getElem?_cons_zero]; rfl)
                          case hd179 => rfl
                          case hw179 => rfl
                          case hq179 => exact fun _ _ _ h => h
                          simp only [List.set_cons_succ, List.set_cons_zero]
                          refine skip_at (i := 18) (d := 223) (oi := ?o180) ?hi180 ?hd180 (by kernel_rfl) (by kernel_rfl) (by kernel_rfl) ?hw180 ?hq180 (by assumption) ?r180
                          case hi180 => (simp only [List.getElem?_toArray, List.getElem?_cons_succ, List.getElem?_cons_zero]; rfl)
                          case hd180 => rfl
                          case hw180 => rfl
                          case hq180 => exact fun _ _ _ h => h
                          simp only [List.set_cons_succ, List.set_cons_zero]
                          refine skip_at (i := 19) (d := 224) (oi := ?o181) ?hi181 ?hd181 (by kernel_rfl) (by kernel_rfl) (by kernel_rfl) ?hw181 ?hq181 (by assumption) ?r181
                          case hi181 => (simp only [List.getElem?_toArray, List.getElem?_cons_succ, List.getElem?_cons_zero]; rfl)
                          case hd181 => rfl
                          case hw181 => rfl
                          case hq181 => exact fun _ _ _ h => h
                          simp only [List.set_cons_succ, List.set_cons_zero]
                          refine skip_at (i := 20) (d := 225) (oi := ?o182) ?hi182 ?hd182 (by kernel_rfl) (by kernel_rfl) (by kernel_rfl) ?hw182 ?hq182 (by assumption) ?r182
                          case hi182 => (simp only [List.getElem?_toArray, List.getElem?_cons_succ, List.getElem?_cons_zero]; rfl)
                          case hd182 => rfl
                          case hw182 => rfl
                          case hq182 => exact fun _ _ _ h => h
                          simp only [List.set_cons_succ, List.set_cons_zero]
                          refine skip_at (i := 21) (d := 226) (oi := ?o183) ?hi183 ?hd183 (by kernel_rfl) (by kernel_rfl) (by kernel_rfl) ?hw183 ?hq183 (by assumption) ?r183
                          case hi183 => (simp only [List.getElem?_toArray, List.getElem?_cons_succ, List.getElem?_cons_zero]; rfl)
                          case hd183 => rfl
                          case hw183 => rfl
                          case hq183 => exact fun _ _ _ h => h
                          simp only [List.set_cons_succ, List.set_cons_zero]
                          refine skip_at (i := 22) (d := 227) (oi := ?o184) ?hi184 ?hd184 (by kernel_rfl) (by kernel_rfl) (by kernel_rfl) ?hw184 ?hq184 (by assumption) ?r184
                          case hi184 => (simp only [List.getElem?_toArray, List.getElem?_cons_succ, List.getElem?_cons_zero]; rfl)
                          case hd184 => rfl
                          case hw184 => rfl
                          case hq184 => exact fun _ _ _ h => h
                          simp only [List.set_cons_succ, List.set_cons_zero]
                          refine skip_at (i := 23) (d := 228) (oi := ?o185) ?hi185 ?hd185 (by kernel_rfl) (by kernel_rfl) (by kernel_rfl) ?hw185 ?hq185 (by assumption) ?r185
                          case hi185 => (simp only [List.getElem?_toArray, List.getElem?_cons_succ, List.getElem?_cons_zero]; rfl)
                          case hd185 => rfl
                          case hw185 => rfl
                          case hq185 => exact fun _ _ _ h => h
                          simp only [List.set_cons_succ, List.set_cons_zero]
                          refine skip_at (i := 24) (d := 229) (oi := ?o186) ?hi186 ?hd186 (by kernel_rfl) (by kernel_rfl) (by kernel_rfl) ?hw186 ?hq186 (by assumption) ?r186
                          case hi186 => (simp only [List.getElem?_toArray, List.getElem?_cons_succ, List.getElem?_cons_zero]; rfl)
                          case hd186 => rfl
                          case hw186 => rfl
                          case hq186 => exact fun _ _ _ h => h
                          simp only [List.set_cons_succ, List.set_cons_zero]
                          refine skip_at (i := 25) (d := 230) (oi := ?o187) ?hi187 ?hd187 (by kernel_rfl) (by kernel_rfl) (by kernel_rfl) ?hw187 ?hq187 (by assumption) ?r187
                          case hi187 => (simp only [List.getElem?_toArray, List.getElem?_cons_succ, List.getElem?_cons_zero]; rfl)
                          case hd187 => rfl
                          case hw187 => rfl
                          case hq187 => exact fun _ _ _ h => h
                          simp only [List.set_cons_succ, List.set_cons_zero]
                          refine skip_at (i := 26) (d := 231) (oi := ?o188) ?hi188 ?hd188 (by kernel_rfl) (by kernel_rfl) (by kernel_rfl) ?hw188 ?hq188 (by assumption) ?r188
                          case hi188 => (simp only [List.getElem?_toArray, List.getElem?_cons_succ, List.getElem?_cons_zero]; rfl)
                          case hd188 => rfl
                          case hw188 => rfl
                          case hq188 => exact fun _ _ _ h => h
                          simp only [List.set_cons_succ, List.set_cons_zero]
                          refine skip_at (i := 27) (d := 232) (oi := ?o189) ?hi189 ?hd189 (by kernel_rfl) (by kernel_rfl) (by kernel_rfl) ?hw189 ?hq189 (by assumption) ?r189
                          case hi189 => (simp only [List.getElem?_toArray, List.getElem?_cons_succ, List.getElem?_cons_zero]; rfl)
                          case hd189 => rfl
                          case hw189 => rfl
                          case hq189 => exact fun _ _ _ h => h
                          simp only [List.set_cons_succ, List.set_cons_zero]
                          refine take_at (i := 28) (d := 233) (oi := ?o190) (v := ?v190) ?hi190 ?hd190 (by kernel_rfl) (by kernel_rfl) (by kernel_rfl) ?hw190 ?hy190 ?hq190 (by assumption) ?r190
                          case hi190 => (simp only [List.getElem?_toArray, List.getElem?_cons_succ, List.getElem?_cons_zero]; rfl)
                          case hd190 => rfl
                          case hw190 => rfl
                          case hy190 => ((intro w hSw; (try dsimp only at hSw); go_simp) <;> (with_reducible rfl))
                          case hq190 => exact fun _ _ _ h => h
                          simp only [List.set_cons_succ, List.set_cons_zero]
                          refine take_at (i := 29) (d := 19) (oi := ?o191) (v := ?v191) ?hi191 ?hd191 (by kernel_rfl) (by kernel_rfl) (by kernel_rfl) ?hw191 ?hy191 ?hq191 (by assumption) ?r191
                          case hi191 => (simp only [List.getElem?_toArray, List.getElem?_cons_succ, List.getElem?_cons_zero]; rfl)
                          case hd191 => rfl
                          case hw191 => rfl
                          case hy191 => ((intro w hSw; (try dsimp only at hSw); go_simp) <;> (with_reducible rfl))
                          case hq191 => exact fun _ _ _ h => h
                          simp only [List.set_cons_succ, List.set_cons_zero]
                          refine wpAnyH_done (by kernel_rfl) ?_ _
                          have Hb2 : Hid (true = true ↔ bv = true ∨ ∃ g ∈ mK.fs.take (t2 + 1), Mq g f) := Lib.hid (by rw [any_step Hgi.out (fun g => Mq g f), ← or_assoc, ← Hbq.out]; exact ⟨fun _ => .inl rfl, fun _ => rfl⟩)
                          have HW8 := Lib.hid (below_on HW6.out hHeld)
                          clear hHeld
                          go_wp2_with fail
                          exact ⟨⟨t2 + 1, true, by omega, rfl, rfl, Hb2, HW8⟩, by simp only [intOf]; omega⟩
                      case false =>
                        by_cases hnm : gg.name = f.name
                        · have tnm : (gg.name.toList == f.name.toList) = true := by rw [beq_name, decide_eq_true hnm]
                          by_cases hpp : gg.p.l = f.p.l
                          · have tpp : ((txt gg.p.l).toList == (txt f.p.l).toList) = true := by rw [beq_txt Hby.out.1 Hby.out.2, decide_eq_true hpp]
                            have HM2 := Lib.hid (show Mq gg f from ⟨hnm, hpp⟩)
                            clear hnm hpp
                            as_aux_lemma =>
                              refine wp_region_held_drew (S := (fun W => Below wr.heap.size wr W)) (by kernel_rfl) (below_dr (below_d0 _)) (fun hHeld => ?_)
                              refine take_at (i := 0) (d := 205) (oi := ?o192) (v := ?v192) ?hi192 ?hd192 (by kernel_rfl) (by kernel_rfl) (by kernel_rfl) ?hw192 ?hy192 ?hq192 (by assumption) ?r192
                              case hi192 => (simp only [List.getElem?_toArray, List.getElem?_cons_zero]; rfl)
                              case hd192 => rfl
                              case hw192 => rfl
                              case hy192 => ((intro w hSw; (try dsimp only at hSw); go_simp) <;> (with_reducible rfl))
                              case hq192 => exact fun _ _ _ h => h
                              simp only [List.set_cons_succ, List.set_cons_zero]
                              refine take_at (i := 1) (d := 206) (oi := ?o193) (v := ?v193) ?hi193 ?hd193 (by kernel_rfl) (by kernel_rfl) (by kernel_rfl) ?hw193 ?hy193 ?hq193 (by assumption) ?r193
                              case hi193 => (simp only [List.getElem?_toArray, List.getElem?_cons_succ, List.getElem?_cons_zero]; rfl)
                              case hd193 => rfl
                              case hw193 => rfl
                              case hy193 => ((intro w hSw; (try dsimp only at hSw); go_simp) <;> (with_reducible rfl))
                              case hq193 => exact fun _ _ _ h => h
                              simp only [List.set_cons_succ, List.set_cons_zero]
                              refine take_at (i := 2) (d := 207) (oi := ?o194) (v := ?v194) ?hi194 ?hd194 (by kernel_rfl) (by kernel_rfl) (by kernel_rfl) ?hw194 ?hy194 ?hq194 (by assumption) ?r194
                              case hi194 => (simp only [List.getElem?_toArray, List.getElem?_cons_succ, List.getElem?_cons_zero]; rfl)
                              case hd194 => rfl
                              case hw194 => rfl
                              case hy194 => ((intro w hSw; (try dsimp only at hSw); go_simp) <;> (with_reducible rfl))
                              case hq194 => exact fun _ _ _ h => h
                              simp only [List.set_cons_succ, List.set_cons_zero]
                              refine take_at (i := 3) (d := 208) (oi := ?o195) (v := ?v195) ?hi195 ?hd195 (by kernel_rfl) (by kernel_rfl) (by kernel_rfl) ?hw195 ?hy195 ?hq195 (by assumption) ?r195
                              case hi195 => (simp only [List.getElem?_toArray, List.getElem?_cons_succ, List.getElem?_cons_zero]; rfl)
                              case hd195 => rfl
                              case hw195 => rfl
                              case hy195 => ((intro w hSw; (try dsimp only at hSw); go_simp) <;> (with_reducible rfl))
                              case hq195 => exact fun _ _ _ h => h
                              simp only [List.set_cons_succ, List.set_cons_zero]
                              refine take_at (i := 4) (d := 209) (oi := ?o196) (v := ?v196) ?hi196 ?hd196 (by kernel_rfl) (by kernel_rfl) (by kernel_rfl) ?hw196 ?hy196 ?hq196 (by assumption) ?r196
                              case hi196 => (simp only [List.getElem?_toArray, List.getElem?_cons_succ, List.getElem?_cons_zero]; rfl)
                              case hd196 => rfl
                              case hw196 => rfl
                              case hy196 => ((intro w hSw; (try dsimp only at hSw); go_simp) <;> (with_reducible rfl))
                              case hq196 => exact fun _ _ _ h => h
                              simp only [List.set_cons_succ, List.set_cons_zero]
                              refine take_at (i := 5) (d := 210) (oi := ?o197) (v := ?v197) ?hi197 ?hd197 (by kernel_rfl) (by kernel_rfl) (by kernel_rfl) ?hw197 ?hy197 ?hq197 (by assumption) ?r197
                              case hi197 => (simp only [List.getElem?_toArray, List.getElem?_cons_succ, List.getElem?_cons_zero]; rfl)
                              case hd197 => rfl
                              case hw197 => rfl
                              case hy197 => ((intro w hSw; (try dsimp only at hSw); have e9 := Hc.out _ hSw; go_simp) <;> (with_reducible rfl))
                              case hq197 => exact fun _ _ _ h => h
                              simp only [List.set_cons_succ, List.set_cons_zero]
                              refine take_at (i := 6) (d := 211) (oi := ?o198) (v := ?v198) ?hi198 ?hd198 (by kernel_rfl) (by kernel_rfl) (by kernel_rfl) ?hw198 ?hy198 ?hq198 (by assumption) ?r198
                              case hi198 => (simp only [List.getElem?_toArray, List.getElem?_cons_succ, List.getElem?_cons_zero]; rfl)
                              case hd198 => rfl
                              case hw198 => rfl
                              case hy198 => ((intro w hSw; (try dsimp only at hSw); go_simp) <;> (with_reducible rfl))
                              case hq198 => exact fun _ _ _ h => h
                              simp only [List.set_cons_succ, List.set_cons_zero]
                              refine take_at (i := 7) (d := 212) (oi := ?o199) (v := ?v199) ?hi199 ?hd199 (by kernel_rfl) (by kernel_rfl) (by kernel_rfl) ?hw199 ?hy199 ?hq199 (by assumption) ?r199
                              case hi199 => (simp only [List.getElem?_toArray, List.getElem?_cons_succ, List.getElem?_cons_zero]; rfl)
                              case hd199 => rfl
                              case hw199 => rfl
                              case hy199 => ((intro w hSw; (try dsimp only at hSw); go_simp) <;> (with_reducible rfl))
                              case hq199 => exact fun _ _ _ h => h
                              simp only [List.set_cons_succ, List.set_cons_zero]
                              refine take_at (i := 8) (d := 213) (oi := ?o200) (v := ?v200) ?hi200 ?hd200 (by kernel_rfl) (by kernel_rfl) (by kernel_rfl) ?hw200 ?hy200 ?hq200 (by assumption) ?r200
                              case hi200 => (simp only [List.getElem?_toArray, List.getElem?_cons_succ, List.getElem?_cons_zero]; rfl)
                              case hd200 => rfl
                              case hw200 => rfl
                              case hy200 => ((intro w hSw; (try dsimp only at hSw); go_simp) <;> (with_reducible rfl))
                              case hq200 => exact fun _ _ _ h => h
                              simp only [List.set_cons_succ, List.set_cons_zero]
                              refine take_at (i := 9) (d := 214) (oi := ?o201) (v := ?v201) ?hi201 ?hd201 (by kernel_rfl) (by kernel_rfl) (by kernel_rfl) ?hw201 ?hy201 ?hq201 (by assumption) ?r201
                              case hi201 => (simp only [List.getElem?_toArray, List.getElem?_cons_succ, List.getElem?_cons_zero]; rfl)
                              case hd201 => rfl
                              case hw201 => rfl
                              case hy201 => ((intro w hSw; (try dsimp only at hSw); obtain ⟨e0, e1, _⟩ := Hg.out _ hSw; go_simp) <;> (with_reducible rfl))
                              case hq201 => exact fun _ _ _ h => h
                              simp only [List.set_cons_succ, List.set_cons_zero]
                              refine take_at (i := 10) (d := 215) (oi := ?o202) (v := ?v202) ?hi202 ?hd202 (by kernel_rfl) (by kernel_rfl) (by kernel_rfl) ?hw202 ?hy202 ?hq202 (by assumption) ?r202
                              case hi202 => (simp only [List.getElem?_toArray, List.getElem?_cons_succ, List.getElem?_cons_zero]; rfl)
                              case hd202 => rfl
                              case hw202 => rfl
                              case hy202 => ((intro w hSw; (try dsimp only at hSw); go_simp) <;> (with_reducible rfl))
                              case hq202 => exact fun _ _ _ h => h
                              simp only [List.set_cons_succ, List.set_cons_zero]
                              refine take_at (i := 11) (d := 216) (oi := ?o203) (v := ?v203) ?hi203 ?hd203 (by kernel_rfl) (by kernel_rfl) (by kernel_rfl) ?hw203 ?hy203 ?hq203 (by assumption) ?r203
                              case hi203 => (simp only [List.getElem?_toArray, List.getElem?_cons_succ, List.getElem?_cons_zero]; rfl)
                              case hd203 => rfl
                              case hw203 => rfl
                              case hy203 => ((intro w hSw; (try dsimp only at hSw); obtain ⟨e0, e1⟩ := (Xf7.out _ hSw).cells; go_simp) <;> (with_reducible rfl))
                              case hq203 => exact fun _ _ _ h => h
                              simp only [List.set_cons_succ, List.set_cons_zero]
                              refine take_at (i := 12) (d := 217) (oi := ?o204) (v := ?v204) ?hi204 ?hd204 (by kernel_rfl) (by kernel_rfl) (by kernel_rfl) ?hw204 ?hy204 ?hq204 (by assumption) ?r204
                              case hi204 => (simp only [List.getElem?_toArray, List.getElem?_cons_succ, List.getElem?_cons_zero]; rfl)
                              case hd204 => rfl
                              case hw204 => rfl
                              case hy204 => ((intro w hSw; (try dsimp only at hSw); go_simp) <;> (with_reducible rfl))
                              case hq204 => exact fun _ _ _ h => h
                              simp only [List.set_cons_succ, List.set_cons_zero]
                              refine take_at (i := 13) (d := 218) (oi := ?o205) (v := ?v205) ?hi205 ?hd205 (by kernel_rfl) (by kernel_rfl) (by kernel_rfl) ?hw205 ?hy205 ?hq205 (by assumption) ?r205
                              case hi205 => (simp only [List.getElem?_toArray, List.getElem?_cons_succ, List.getElem?_cons_zero]; rfl)
                              case hd205 => rfl
                              case hw205 => rfl
                              case hy205 => ((intro w hSw; (try dsimp only at hSw); go_simp) <;> (with_reducible rfl))
                              case hq205 => exact fun _ _ _ h => h
                              simp only [List.set_cons_succ, List.set_cons_zero]
                              refine take_at (i := 14) (d := 219) (oi := ?o206) (v := ?v206) ?hi206 ?hd206 (by kernel_rfl) (by kernel_rfl) (by kernel_rfl) ?hw206 ?hy206 ?hq206 (by assumption) ?r206
                              case hi206 => (simp only [List.getElem?_toArray, List.getElem?_cons_succ, List.getElem?_cons_zero]; rfl)
                              case hd206 => rfl
                              case hw206 => rfl
                              case hy206 => ((intro w hSw; (try dsimp only at hSw); go_simp) <;> (with_reducible rfl))
                              case hq206 => exact fun _ _ _ h => h
                              simp only [List.set_cons_succ, List.set_cons_zero]
                              refine take_at (i := 15) (d := 220) (oi := ?o207) (v := ?v207) ?hi207 ?hd207 (by kernel_rfl) (by kernel_rfl) (by kernel_rfl) ?hw207 ?hy207 ?hq207 (by assumption) ?r207
                              case hi207 => (simp only [List.getElem?_toArray, List.getElem?_cons_succ, List.getElem?_cons_zero]; rfl)
                              case hd207 => rfl
                              case hw207 => rfl
                              case hy207 => ((intro w hSw; (try dsimp only at hSw); go_simp) <;> (with_reducible rfl))
                              case hq207 => exact fun _ _ _ h => h
                              simp only [List.set_cons_succ, List.set_cons_zero]
                              refine take_at (i := 16) (d := 221) (oi := ?o208) (v := ?v208) ?hi208 ?hd208 (by kernel_rfl) (by kernel_rfl) (by kernel_rfl) ?hw208 ?hy208 ?hq208 (by assumption) ?r208
                              case hi208 => (simp only [List.getElem?_toArray, List.getElem?_cons_succ, List.getElem?_cons_zero]; rfl)
                              case hd208 => rfl
                              case hw208 => rfl
                              case hy208 => ((intro w hSw; (try dsimp only at hSw); go_simp) <;> (with_reducible rfl))
                              case hq208 => exact fun _ _ _ h => h
                              simp only [List.set_cons_succ, List.set_cons_zero]
                              refine take_at (i := 17) (d := 222) (oi := ?o209) (v := ?v209) ?hi209 ?hd209 (by kernel_rfl) (by kernel_rfl) (by kernel_rfl) ?hw209 ?hy209 ?hq209 (by assumption) ?r209
                              case hi209 => (simp only [List.getElem?_toArray, List.getElem?_cons_succ, List.getElem?_cons_zero]; rfl)
                              case hd209 => rfl
                              case hw209 => rfl
                              case hy209 => ((intro w hSw; (try dsimp only at hSw); have e9 := Hc.out _ hSw; go_simp) <;> (with_reducible rfl))
                              case hq209 => exact fun _ _ _ h => h
                              simp only [List.set_cons_succ, List.set_cons_zero]
                              refine take_at (i := 18) (d := 223) (oi := ?o210) (v := ?v210) ?hi210 ?hd210 (by kernel_rfl) (by kernel_rfl) (by kernel_rfl) ?hw210 ?hy210 ?hq210 (by assumption) ?r210
                              case hi210 => (simp only [List.getElem?_toArray, List.getElem?_cons_succ, List.getElem?_cons_zero]; rfl)
                              case hd210 => rfl
                              case hw210 => rfl
                              case hy210 => ((intro w hSw; (try dsimp only at hSw); go_simp) <;> (with_reducible rfl))
                              case hq210 => exact fun _ _ _ h => h
                              simp only [List.set_cons_succ, List.set_cons_zero]
                              refine take_at (i := 19) (d := 224) (oi := ?o211) (v := ?v211) ?hi211 ?hd211 (by kernel_rfl) (by kernel_rfl) (by kernel_rfl) ?hw211 ?hy211 ?hq211 (by assumption) ?r211
                              case hi211 => (simp only [List.getElem?_toArray, List.getElem?_cons_succ, List.getElem?_cons_zero]; rfl)
                              case hd211 => rfl
                              case hw211 => rfl
                              case hy211 => ((intro w hSw; (try dsimp only at hSw); go_simp) <;> (with_reducible rfl))
                              case hq211 => exact fun _ _ _ h => h
                              simp only [List.set_cons_succ, List.set_cons_zero]
                              refine take_at (i := 20) (d := 225) (oi := ?o212) (v := ?v212) ?hi212 ?hd212 (by kernel_rfl) (by kernel_rfl) (by kernel_rfl) ?hw212 ?hy212 ?hq212 (by assumption) ?r212
                              case hi212 => (simp only [List.getElem?_toArray, List.getElem?_cons_succ, List.getElem?_cons_zero]; rfl)
                              case hd212 => rfl
                              case hw212 => rfl
                              case hy212 => ((intro w hSw; (try dsimp only at hSw); go_simp) <;> (with_reducible rfl))
                              case hq212 => exact fun _ _ _ h => h
                              simp only [List.set_cons_succ, List.set_cons_zero]
                              refine take_at (i := 21) (d := 226) (oi := ?o213) (v := ?v213) ?hi213 ?hd213 (by kernel_rfl) (by kernel_rfl) (by kernel_rfl) ?hw213 ?hy213 ?hq213 (by assumption) ?r213
                              case hi213 => (simp only [List.getElem?_toArray, List.getElem?_cons_succ, List.getElem?_cons_zero]; rfl)
                              case hd213 => rfl
                              case hw213 => rfl
                              case hy213 => ((intro w hSw; (try dsimp only at hSw); obtain ⟨e0, e1, _⟩ := Hg.out _ hSw; go_simp) <;> (with_reducible rfl))
                              case hq213 => exact fun _ _ _ h => h
                              simp only [List.set_cons_succ, List.set_cons_zero]
                              refine take_at (i := 22) (d := 227) (oi := ?o214) (v := ?v214) ?hi214 ?hd214 (by kernel_rfl) (by kernel_rfl) (by kernel_rfl) ?hw214 ?hy214 ?hq214 (by assumption) ?r214
                              case hi214 => (simp only [List.getElem?_toArray, List.getElem?_cons_succ, List.getElem?_cons_zero]; rfl)
                              case hd214 => rfl
                              case hw214 => rfl
                              case hy214 => ((intro w hSw; (try dsimp only at hSw); have cv := run_txt (c := gg.p.c) 26 9 5 Try.underlying26 Try.underlying5 Try.underlying9 (Hg.out _ hSw).2.2.rd; go_simp) <;> (with_reducible rfl))
                              case hq214 => exact fun _ _ _ h => h
                              simp only [List.set_cons_succ, List.set_cons_zero]
                              refine take_at (i := 23) (d := 228) (oi := ?o215) (v := ?v215) ?hi215 ?hd215 (by kernel_rfl) (by kernel_rfl) (by kernel_rfl) ?hw215 ?hy215 ?hq215 (by assumption) ?r215
                              case hi215 => (simp only [List.getElem?_toArray, List.getElem?_cons_succ, List.getElem?_cons_zero]; rfl)
                              case hd215 => rfl
                              case hw215 => rfl
                              case hy215 => ((intro w hSw; (try dsimp only at hSw); go_simp) <;> (with_reducible rfl))
                              case hq215 => exact fun _ _ _ h => h
                              simp only [List.set_cons_succ, List.set_cons_zero]
                              refine take_at (i := 24) (d := 229) (oi := ?o216) (v := ?v216) ?hi216 ?hd216 (by kernel_rfl) (by kernel_rfl) (by kernel_rfl) ?hw216 ?hy216 ?hq216 (by assumption) ?r216
                              case hi216 => (simp only [List.getElem?_toArray, List.getElem?_cons_succ, List.getElem?_cons_zero]; rfl)
                              case hd216 => rfl
                              case hw216 => rfl
                              case hy216 => ((intro w hSw; (try dsimp only at hSw); obtain ⟨e0, e1⟩ := (Xf7.out _ hSw).cells; go_simp) <;> (with_reducible rfl))
                              case hq216 => exact fun _ _ _ h => h
                              simp only [List.set_cons_succ, List.set_cons_zero]
                              refine take_at (i := 25) (d := 230) (oi := ?o217) (v := ?v217) ?hi217 ?hd217 (by kernel_rfl) (by kernel_rfl) (by kernel_rfl) ?hw217 ?hy217 ?hq217 (by assumption) ?r217
                              case hi217 => (simp only [List.getElem?_toArray, List.getElem?_cons_succ, List.getElem?_cons_zero]; rfl)
                              case hd217 => rfl
                              case hw217 => rfl
                              case hy217 => ((intro w hSw; (try dsimp only at hSw); have cv := run_txt (c := f.p.c) 26 9 5 Try.underlying26 Try.underlying5 Try.underlying9 (Hf7.out _ hSw).rd; go_simp) <;> (with_reducible rfl))
                              case hq217 => exact fun _ _ _ h => h
                              simp only [List.set_cons_succ, List.set_cons_zero]
                              refine take_at (i := 26) (d := 231) (oi := ?o218) (v := ?v218) ?hi218 ?hd218 (by kernel_rfl) (by kernel_rfl) (by kernel_rfl) ?hw218 ?hy218 ?hq218 (by assumption) ?r218
                              case hi218 => (simp only [List.getElem?_toArray, List.getElem?_cons_succ, List.getElem?_cons_zero]; rfl)
                              case hd218 => rfl
                              case hw218 => rfl
                              case hy218 => ((intro w hSw; (try dsimp only at hSw); go_simp) <;> (with_reducible rfl))
                              case hq218 => exact fun _ _ _ h => h
                              simp only [List.set_cons_succ, List.set_cons_zero]
                              refine take_at (i := 27) (d := 232) (oi := ?o219) (v := ?v219) ?hi219 ?hd219 (by kernel_rfl) (by kernel_rfl) (by kernel_rfl) ?hw219 ?hy219 ?hq219 (by assumption) ?r219
                              case hi219 => (simp only [List.getElem?_toArray, List.getElem?_cons_succ, List.getElem?_cons_zero]; rfl)
                              case hd219 => rfl
                              case hw219 => rfl
                              case hy219 => ((intro w hSw; (try dsimp only at hSw); go_simp) <;> (with_reducible rfl))
                              case hq219 => exact fun _ _ _ h => h
                              simp only [List.set_cons_succ, List.set_cons_zero]
                              refine take_at (i := 28) (d := 233) (oi := ?o220) (v := ?v220) ?hi220 ?hd220 (by kernel_rfl) (by kernel_rfl) (by kernel_rfl) ?hw220 ?hy220 ?hq220 (by assumption) ?r220
                              case hi220 => (simp only [List.getElem?_toArray, List.getElem?_cons_succ, List.getElem?_cons_zero]; rfl)
                              case hd220 => rfl
                              case hw220 => rfl
                              case hy220 => ((intro w hSw; (try dsimp only at hSw); go_simp) <;> (with_reducible rfl))
                              case hq220 => exact fun _ _ _ h => h
                              simp only [List.set_cons_succ, List.set_cons_zero]
                              refine take_at (i := 29) (d := 19) (oi := ?o221) (v := ?v221) ?hi221 ?hd221 (by kernel_rfl) (by kernel_rfl) (by kernel_rfl) ?hw221 ?hy221 ?hq221 (by assumption) ?r221
                              case hi221 => (simp only [List.getElem?_toArray, List.getElem?_cons_succ, List.getElem?_cons_zero]; rfl)
                              case hd221 => rfl
                              case hw221 => rfl
                              case hy221 => ((intro w hSw; (try dsimp only at hSw); go_simp) <;> (with_reducible rfl))
                              case hq221 => exact fun _ _ _ h => h
                              simp only [List.set_cons_succ, List.set_cons_zero]
                              refine wpAnyH_done (by kernel_rfl) ?_ _
                              have Hb2 : Hid (true = true ↔ bv = true ∨ ∃ g ∈ mK.fs.take (t2 + 1), Mq g f) := Lib.hid (by rw [any_step Hgi.out (fun g => Mq g f), ← or_assoc, ← Hbq.out]; exact ⟨fun _ => .inr HM2.out, fun _ => rfl⟩)
                              have HW8 := Lib.hid (below_on HW6.out hHeld)
                              clear hHeld
                              go_wp2_with fail
                              exact ⟨⟨t2 + 1, true, by omega, rfl, rfl, Hb2, HW8⟩, by simp only [intOf]; omega⟩
                          · have tpp : ((txt gg.p.l).toList == (txt f.p.l).toList) = false := by rw [beq_txt Hby.out.1 Hby.out.2, decide_eq_false hpp]
                            have HM2 := Lib.hid (show ¬ Mq gg f from fun h => hpp h.2)
                            clear hnm hpp
                            as_aux_lemma =>
                              refine wp_region_held_drew (S := (fun W => Below wr.heap.size wr W)) (by kernel_rfl) (below_dr (below_d0 _)) (fun hHeld => ?_)
                              refine take_at (i := 0) (d := 205) (oi := ?o222) (v := ?v222) ?hi222 ?hd222 (by kernel_rfl) (by kernel_rfl) (by kernel_rfl) ?hw222 ?hy222 ?hq222 (by assumption) ?r222
                              case hi222 => (simp only [List.getElem?_toArray, List.getElem?_cons_zero]; rfl)
                              case hd222 => rfl
                              case hw222 => rfl
                              case hy222 => ((intro w hSw; (try dsimp only at hSw); go_simp) <;> (with_reducible rfl))
                              case hq222 => exact fun _ _ _ h => h
                              simp only [List.set_cons_succ, List.set_cons_zero]
                              refine take_at (i := 1) (d := 206) (oi := ?o223) (v := ?v223) ?hi223 ?hd223 (by kernel_rfl) (by kernel_rfl) (by kernel_rfl) ?hw223 ?hy223 ?hq223 (by assumption) ?r223
                              case hi223 => (simp only [List.getElem?_toArray, List.getElem?_cons_succ, List.getElem?_cons_zero]; rfl)
                              case hd223 => rfl
                              case hw223 => rfl
                              case hy223 => ((intro w hSw; (try dsimp only at hSw); go_simp) <;> (with_reducible rfl))
                              case hq223 => exact fun _ _ _ h => h
                              simp only [List.set_cons_succ, List.set_cons_zero]
                              refine take_at (i := 2) (d := 207) (oi := ?o224) (v := ?v224) ?hi224 ?hd224 (by kernel_rfl) (by kernel_rfl) (by kernel_rfl) ?hw224 ?hy224 ?hq224 (by assumption) ?r224
                              case hi224 => (simp only [List.getElem?_toArray, List.getElem?_cons_succ, List.getElem?_cons_zero]; rfl)
                              case hd224 => rfl
                              case hw224 => rfl
                              case hy224 => ((intro w hSw; (try dsimp only at hSw); go_simp) <;> (with_reducible rfl))
                              case hq224 => exact fun _ _ _ h => h
                              simp only [List.set_cons_succ, List.set_cons_zero]
                              refine take_at (i := 3) (d := 208) (oi := ?o225) (v := ?v225) ?hi225 ?hd225 (by kernel_rfl) (by kernel_rfl) (by kernel_rfl) ?hw225 ?hy225 ?hq225 (by assumption) ?r225
                              case hi225 => (simp only [List.getElem?_toArray, List.getElem?_cons_succ, List.getElem?_cons_zero]; rfl)
                              case hd225 => rfl
                              case hw225 => rfl
                              case hy225 => ((intro w hSw; (try dsimp only at hSw); go_simp) <;> (with_reducible rfl))
                              case hq225 => exact fun _ _ _ h => h
                              simp only [List.set_cons_succ, List.set_cons_zero]
                              refine take_at (i := 4) (d := 209) (oi := ?o226) (v := ?v226) ?hi226 ?hd226 (by kernel_rfl) (by kernel_rfl) (by kernel_rfl) ?hw226 ?hy226 ?hq226 (by assumption) ?r226
                              case hi226 => (simp only [List.getElem?_toArray, List.getElem?_cons_succ, List.getElem?_cons_zero]; rfl)
                              case hd226 => rfl
                              case hw226 => rfl
                              case hy226 => ((intro w hSw; (try dsimp only at hSw); go_simp) <;> (with_reducible rfl))
                              case hq226 => exact fun _ _ _ h => h
                              simp only [List.set_cons_succ, List.set_cons_zero]
                              refine take_at (i := 5) (d := 210) (oi := ?o227) (v := ?v227) ?hi227 ?hd227 (by kernel_rfl) (by kernel_rfl) (by kernel_rfl) ?hw227 ?hy227 ?hq227 (by assumption) ?r227
                              case hi227 => (simp only [List.getElem?_toArray, List.getElem?_cons_succ, List.getElem?_cons_zero]; rfl)
                              case hd227 => rfl
                              case hw227 => rfl
                              case hy227 => ((intro w hSw; (try dsimp only at hSw); have e9 := Hc.out _ hSw; go_simp) <;> (with_reducible rfl))
                              case hq227 => exact fun _ _ _ h => h
                              simp only [List.set_cons_succ, List.set_cons_zero]
                              refine take_at (i := 6) (d := 211) (oi := ?o228) (v := ?v228) ?hi228 ?hd228 (by kernel_rfl) (by kernel_rfl) (by kernel_rfl) ?hw228 ?hy228 ?hq228 (by assumption) ?r228
                              case hi228 => (simp only [List.getElem?_toArray, List.getElem?_cons_succ, List.getElem?_cons_zero]; rfl)
                              case hd228 => rfl
                              case hw228 => rfl
                              case hy228 => ((intro w hSw; (try dsimp only at hSw); go_simp) <;> (with_reducible rfl))
                              case hq228 => exact fun _ _ _ h => h
                              simp only [List.set_cons_succ, List.set_cons_zero]
                              refine take_at (i := 7) (d := 212) (oi := ?o229) (v := ?v229) ?hi229 ?hd229 (by kernel_rfl) (by kernel_rfl) (by kernel_rfl) ?hw229 ?hy229 ?hq229 (by assumption) ?r229
                              case hi229 => (simp only [List.getElem?_toArray, List.getElem?_cons_succ, List.getElem?_cons_zero]; rfl)
                              case hd229 => rfl
                              case hw229 => rfl
                              case hy229 => ((intro w hSw; (try dsimp only at hSw); go_simp) <;> (with_reducible rfl))
                              case hq229 => exact fun _ _ _ h => h
                              simp only [List.set_cons_succ, List.set_cons_zero]
                              refine take_at (i := 8) (d := 213) (oi := ?o230) (v := ?v230) ?hi230 ?hd230 (by kernel_rfl) (by kernel_rfl) (by kernel_rfl) ?hw230 ?hy230 ?hq230 (by assumption) ?r230
                              case hi230 => (simp only [List.getElem?_toArray, List.getElem?_cons_succ, List.getElem?_cons_zero]; rfl)
                              case hd230 => rfl
                              case hw230 => rfl
                              case hy230 => ((intro w hSw; (try dsimp only at hSw); go_simp) <;> (with_reducible rfl))
                              case hq230 => exact fun _ _ _ h => h
                              simp only [List.set_cons_succ, List.set_cons_zero]
                              refine take_at (i := 9) (d := 214) (oi := ?o231) (v := ?v231) ?hi231 ?hd231 (by kernel_rfl) (by kernel_rfl) (by kernel_rfl) ?hw231 ?hy231 ?hq231 (by assumption) ?r231
                              case hi231 => (simp only [List.getElem?_toArray, List.getElem?_cons_succ, List.getElem?_cons_zero]; rfl)
                              case hd231 => rfl
                              case hw231 => rfl
                              case hy231 => ((intro w hSw; (try dsimp only at hSw); obtain ⟨e0, e1, _⟩ := Hg.out _ hSw; go_simp) <;> (with_reducible rfl))
                              case hq231 => exact fun _ _ _ h => h
                              simp only [List.set_cons_succ, List.set_cons_zero]
                              refine take_at (i := 10) (d := 215) (oi := ?o232) (v := ?v232) ?hi232 ?hd232 (by kernel_rfl) (by kernel_rfl) (by kernel_rfl) ?hw232 ?hy232 ?hq232 (by assumption) ?r232
                              case hi232 => (simp only [List.getElem?_toArray, List.getElem?_cons_succ, List.getElem?_cons_zero]; rfl)
                              case hd232 => rfl
                              case hw232 => rfl
                              case hy232 => ((intro w hSw; (try dsimp only at hSw); go_simp) <;> (with_reducible rfl))
                              case hq232 => exact fun _ _ _ h => h
                              simp only [List.set_cons_succ, List.set_cons_zero]
                              refine take_at (i := 11) (d := 216) (oi := ?o233) (v := ?v233) ?hi233 ?hd233 (by kernel_rfl) (by kernel_rfl) (by kernel_rfl) ?hw233 ?hy233 ?hq233 (by assumption) ?r233
                              case hi233 => (simp only [List.getElem?_toArray, List.getElem?_cons_succ, List.getElem?_cons_zero]; rfl)
                              case hd233 => rfl
                              case hw233 => rfl
                              case hy233 => ((intro w hSw; (try dsimp only at hSw); obtain ⟨e0, e1⟩ := (Xf7.out _ hSw).cells; go_simp) <;> (with_reducible rfl))
                              case hq233 => exact fun _ _ _ h => h
                              simp only [List.set_cons_succ, List.set_cons_zero]
                              refine take_at (i := 12) (d := 217) (oi := ?o234) (v := ?v234) ?hi234 ?hd234 (by kernel_rfl) (by kernel_rfl) (by kernel_rfl) ?hw234 ?hy234 ?hq234 (by assumption) ?r234
                              case hi234 => (simp only [List.getElem?_toArray, List.getElem?_cons_succ, List.getElem?_cons_zero]; rfl)
                              case hd234 => rfl
                              case hw234 => rfl
                              case hy234 => ((intro w hSw; (try dsimp only at hSw); go_simp) <;> (with_reducible rfl))
                              case hq234 => exact fun _ _ _ h => h
                              simp only [List.set_cons_succ, List.set_cons_zero]
                              refine take_at (i := 13) (d := 218) (oi := ?o235) (v := ?v235) ?hi235 ?hd235 (by kernel_rfl) (by kernel_rfl) (by kernel_rfl) ?hw235 ?hy235 ?hq235 (by assumption) ?r235
                              case hi235 => (simp only [List.getElem?_toArray, List.getElem?_cons_succ, List.getElem?_cons_zero]; rfl)
                              case hd235 => rfl
                              case hw235 => rfl
                              case hy235 => ((intro w hSw; (try dsimp only at hSw); go_simp) <;> (with_reducible rfl))
                              case hq235 => exact fun _ _ _ h => h
                              simp only [List.set_cons_succ, List.set_cons_zero]
                              refine take_at (i := 14) (d := 219) (oi := ?o236) (v := ?v236) ?hi236 ?hd236 (by kernel_rfl) (by kernel_rfl) (by kernel_rfl) ?hw236 ?hy236 ?hq236 (by assumption) ?r236
                              case hi236 => (simp only [List.getElem?_toArray, List.getElem?_cons_succ, List.getElem?_cons_zero]; rfl)
                              case hd236 => rfl
                              case hw236 => rfl
                              case hy236 => ((intro w hSw; (try dsimp only at hSw); go_simp) <;> (with_reducible rfl))
                              case hq236 => exact fun _ _ _ h => h
                              simp only [List.set_cons_succ, List.set_cons_zero]
                              refine take_at (i := 15) (d := 220) (oi := ?o237) (v := ?v237) ?hi237 ?hd237 (by kernel_rfl) (by kernel_rfl) (by kernel_rfl) ?hw237 ?hy237 ?hq237 (by assumption) ?r237
                              case hi237 => (simp only [List.getElem?_toArray, List.getElem?_cons_succ, List.getElem?_cons_zero]; rfl)
                              case hd237 => rfl
                              case hw237 => rfl
                              case hy237 => ((intro w hSw; (try dsimp only at hSw); go_simp) <;> (with_reducible rfl))
                              case hq237 => exact fun _ _ _ h => h
                              simp only [List.set_cons_succ, List.set_cons_zero]
                              refine take_at (i := 16) (d := 221) (oi := ?o238) (v := ?v238) ?hi238 ?hd238 (by kernel_rfl) (by kernel_rfl) (by kernel_rfl) ?hw238 ?hy238 ?hq238 (by assumption) ?r238
                              case hi238 => (simp only [List.getElem?_toArray, List.getElem?_cons_succ, List.getElem?_cons_zero]; rfl)
                              case hd238 => rfl
                              case hw238 => rfl
                              case hy238 => ((intro w hSw; (try dsimp only at hSw); go_simp) <;> (with_reducible rfl))
                              case hq238 => exact fun _ _ _ h => h
                              simp only [List.set_cons_succ, List.set_cons_zero]
                              refine take_at (i := 17) (d := 222) (oi := ?o239) (v := ?v239) ?hi239 ?hd239 (by kernel_rfl) (by kernel_rfl) (by kernel_rfl) ?hw239 ?hy239 ?hq239 (by assumption) ?r239
                              case hi239 => (simp only [List.getElem?_toArray, List.getElem?_cons_succ, List.getElem?_cons_zero]; rfl)
                              case hd239 => rfl
                              case hw239 => rfl
                              case hy239 => ((intro w hSw; (try dsimp only at hSw); have e9 := Hc.out _ hSw; go_simp) <;> (with_reducible rfl))
                              case hq239 => exact fun _ _ _ h => h
                              simp only [List.set_cons_succ, List.set_cons_zero]
                              refine take_at (i := 18) (d := 223) (oi := ?o240) (v := ?v240) ?hi240 ?hd240 (by kernel_rfl) (by kernel_rfl) (by kernel_rfl) ?hw240 ?hy240 ?hq240 (by assumption) ?r240
                              case hi240 => (simp only [List.getElem?_toArray, List.getElem?_cons_succ, List.getElem?_cons_zero]; rfl)
                              case hd240 => rfl
                              case hw240 => rfl
                              case hy240 => ((intro w hSw; (try dsimp only at hSw); go_simp) <;> (with_reducible rfl))
                              case hq240 => exact fun _ _ _ h => h
                              simp only [List.set_cons_succ, List.set_cons_zero]
                              refine take_at (i := 19) (d := 224) (oi := ?o241) (v := ?v241) ?hi241 ?hd241 (by kernel_rfl) (by kernel_rfl) (by kernel_rfl) ?hw241 ?hy241 ?hq241 (by assumption) ?r241
                              case hi241 => (simp only [List.getElem?_toArray, List.getElem?_cons_succ, List.getElem?_cons_zero]; rfl)
                              case hd241 => rfl
                              case hw241 => rfl
                              case hy241 => ((intro w hSw; (try dsimp only at hSw); go_simp) <;> (with_reducible rfl))
                              case hq241 => exact fun _ _ _ h => h
                              simp only [List.set_cons_succ, List.set_cons_zero]
                              refine take_at (i := 20) (d := 225) (oi := ?o242) (v := ?v242) ?hi242 ?hd242 (by kernel_rfl) (by kernel_rfl) (by kernel_rfl) ?hw242 ?hy242 ?hq242 (by assumption) ?r242
                              case hi242 => (simp only [List.getElem?_toArray, List.getElem?_cons_succ, List.getElem?_cons_zero]; rfl)
                              case hd242 => rfl
                              case hw242 => rfl
                              case hy242 => ((intro w hSw; (try dsimp only at hSw); go_simp) <;> (with_reducible rfl))
                              case hq242 => exact fun _ _ _ h => h
                              simp only [List.set_cons_succ, List.set_cons_zero]
                              refine take_at (i := 21) (d := 226) (oi := ?o243) (v := ?v243) ?hi243 ?hd243 (by kernel_rfl) (by kernel_rfl) (by kernel_rfl) ?hw243 ?hy243 ?hq243 (by assumption) ?r243
                              case hi243 => (simp only [List.getElem?_toArray, List.getElem?_cons_succ, List.getElem?_cons_zero]; rfl)
                              case hd243 => rfl
                              case hw243 => rfl
                              case hy243 => ((intro w hSw; (try dsimp only at hSw); obtain ⟨e0, e1, _⟩ := Hg.out _ hSw; go_simp) <;> (with_reducible rfl))
                              case hq243 => exact fun _ _ _ h => h
                              simp only [List.set_cons_succ, List.set_cons_zero]
                              refine take_at (i := 22) (d := 227) (oi := ?o244) (v := ?v244) ?hi244 ?hd244 (by kernel_rfl) (by kernel_rfl) (by kernel_rfl) ?hw244 ?hy244 ?hq244 (by assumption) ?r244
                              case hi244 => (simp only [List.getElem?_toArray, List.getElem?_cons_succ, List.getElem?_cons_zero]; rfl)
                              case hd244 => rfl
                              case hw244 => rfl
                              case hy244 => ((intro w hSw; (try dsimp only at hSw); have cv := run_txt (c := gg.p.c) 26 9 5 Try.underlying26 Try.underlying5 Try.underlying9 (Hg.out _ hSw).2.2.rd; go_simp) <;> (with_reducible rfl))
                              case hq244 => exact fun _ _ _ h => h
                              simp only [List.set_cons_succ, List.set_cons_zero]
                              refine take_at (i := 23) (d := 228) (oi := ?o245) (v := ?v245) ?hi245 ?hd245 (by kernel_rfl) (by kernel_rfl) (by kernel_rfl) ?hw245 ?hy245 ?hq245 (by assumption) ?r245
                              case hi245 => (simp only [List.getElem?_toArray, List.getElem?_cons_succ, List.getElem?_cons_zero]; rfl)
                              case hd245 => rfl
                              case hw245 => rfl
                              case hy245 => ((intro w hSw; (try dsimp only at hSw); go_simp) <;> (with_reducible rfl))
                              case hq245 => exact fun _ _ _ h => h
                              simp only [List.set_cons_succ, List.set_cons_zero]
                              refine take_at (i := 24) (d := 229) (oi := ?o246) (v := ?v246) ?hi246 ?hd246 (by kernel_rfl) (by kernel_rfl) (by kernel_rfl) ?hw246 ?hy246 ?hq246 (by assumption) ?r246
                              case hi246 => (simp only [List.getElem?_toArray, List.getElem?_cons_succ, List.getElem?_cons_zero]; rfl)
                              case hd246 => rfl
                              case hw246 => rfl
                              case hy246 => ((intro w hSw; (try dsimp only at hSw); obtain ⟨e0, e1⟩ := (Xf7.out _ hSw).cells; go_simp) <;> (with_reducible rfl))
                              case hq246 => exact fun _ _ _ h => h
                              simp only [List.set_cons_succ, List.set_cons_zero]
                              refine take_at (i := 25) (d := 230) (oi := ?o247) (v := ?v247) ?hi247 ?hd247 (by kernel_rfl) (by kernel_rfl) (by kernel_rfl) ?hw247 ?hy247 ?hq247 (by assumption) ?r247
                              case hi247 => (simp only [List.getElem?_toArray, List.getElem?_cons_succ, List.getElem?_cons_zero]; rfl)
                              case hd247 => rfl
                              case hw247 => rfl
                              case hy247 => ((intro w hSw; (try dsimp only at hSw); have cv := run_txt (c := f.p.c) 26 9 5 Try.underlying26 Try.underlying5 Try.underlying9 (Hf7.out _ hSw).rd; go_simp) <;> (with_reducible rfl))
                              case hq247 => exact fun _ _ _ h => h
                              simp only [List.set_cons_succ, List.set_cons_zero]
                              refine take_at (i := 26) (d := 231) (oi := ?o248) (v := ?v248) ?hi248 ?hd248 (by kernel_rfl) (by kernel_rfl) (by kernel_rfl) ?hw248 ?hy248 ?hq248 (by assumption) ?r248
                              case hi248 => (simp only [List.getElem?_toArray, List.getElem?_cons_succ, List.getElem?_cons_zero]; rfl)
                              case hd248 => rfl
                              case hw248 => rfl
                              case hy248 => ((intro w hSw; (try dsimp only at hSw); go_simp) <;> (with_reducible rfl))
                              case hq248 => exact fun _ _ _ h => h
                              simp only [List.set_cons_succ, List.set_cons_zero]
                              refine take_at (i := 27) (d := 232) (oi := ?o249) (v := ?v249) ?hi249 ?hd249 (by kernel_rfl) (by kernel_rfl) (by kernel_rfl) ?hw249 ?hy249 ?hq249 (by assumption) ?r249
                              case hi249 => (simp only [List.getElem?_toArray, List.getElem?_cons_succ, List.getElem?_cons_zero]; rfl)
                              case hd249 => rfl
                              case hw249 => rfl
                              case hy249 => ((intro w hSw; (try dsimp only at hSw); go_simp) <;> (with_reducible rfl))
                              case hq249 => exact fun _ _ _ h => h
                              simp only [List.set_cons_succ, List.set_cons_zero]
                              refine take_at (i := 28) (d := 233) (oi := ?o250) (v := ?v250) ?hi250 ?hd250 (by kernel_rfl) (by kernel_rfl) (by kernel_rfl) ?hw250 ?hy250 ?hq250 (by assumption) ?r250
                              case hi250 => (simp only [List.getElem?_toArray, List.getElem?_cons_succ, List.getElem?_cons_zero]; rfl)
                              case hd250 => rfl
                              case hw250 => rfl
                              case hy250 => ((intro w hSw; (try dsimp only at hSw); go_simp) <;> (with_reducible rfl))
                              case hq250 => exact fun _ _ _ h => h
                              simp only [List.set_cons_succ, List.set_cons_zero]
                              refine take_at (i := 29) (d := 19) (oi := ?o251) (v := ?v251) ?hi251 ?hd251 (by kernel_rfl) (by kernel_rfl) (by kernel_rfl) ?hw251 ?hy251 ?hq251 (by assumption) ?r251
                              case hi251 => (simp only [List.getElem?_toArray, List.getElem?_cons_succ, List.getElem?_cons_zero]; rfl)
                              case hd251 => rfl
                              case hw251 => rfl
                              case hy251 => ((intro w hSw; (try dsimp only at hSw); go_simp) <;> (with_reducible rfl))
                              case hq251 => exact fun _ _ _ h => h
                              simp only [List.set_cons_succ, List.set_cons_zero]
                              refine wpAnyH_done (by kernel_rfl) ?_ _
                              have Hb2 : Hid (false = true ↔ bv = true ∨ ∃ g ∈ mK.fs.take (t2 + 1), Mq g f) := Lib.hid (by rw [any_step Hgi.out (fun g => Mq g f), ← or_assoc, ← Hbq.out]; exact ⟨fun h => (by cases h), fun h => (by rcases h with h | h; (· cases h); (· exact absurd h HM2.out))⟩)
                              have HW8 := Lib.hid (below_on HW6.out hHeld)
                              clear hHeld
                              go_wp2_with fail
                              exact ⟨⟨t2 + 1, false, by omega, rfl, rfl, Hb2, HW8⟩, by simp only [intOf]; omega⟩
                        · have tnm : (gg.name.toList == f.name.toList) = false := by rw [beq_name, decide_eq_false hnm]
                          have HM2 := Lib.hid (show ¬ Mq gg f from fun h => hnm h.1)
                          clear hnm
                          as_aux_lemma =>
                            refine wp_region_held_drew (S := (fun W => Below wr.heap.size wr W)) (by kernel_rfl) (below_dr (below_d0 _)) (fun hHeld => ?_)
                            refine take_at (i := 0) (d := 205) (oi := ?o252) (v := ?v252) ?hi252 ?hd252 (by kernel_rfl) (by kernel_rfl) (by kernel_rfl) ?hw252 ?hy252 ?hq252 (by assumption) ?r252
                            case hi252 => (simp only [List.getElem?_toArray, List.getElem?_cons_zero]; rfl)
                            case hd252 => rfl
                            case hw252 => rfl
                            case hy252 => ((intro w hSw; (try dsimp only at hSw); go_simp) <;> (with_reducible rfl))
                            case hq252 => exact fun _ _ _ h => h
                            simp only [List.set_cons_succ, List.set_cons_zero]
                            refine take_at (i := 1) (d := 206) (oi := ?o253) (v := ?v253) ?hi253 ?hd253 (by kernel_rfl) (by kernel_rfl) (by kernel_rfl) ?hw253 ?hy253 ?hq253 (by assumption) ?r253
                            case hi253 => (simp only [List.getElem?_toArray, List.getElem?_cons_succ, List.getElem?_cons_zero]; rfl)
                            case hd253 => rfl
                            case hw253 => rfl
                            case hy253 => ((intro w hSw; (try dsimp only at hSw); go_simp) <;> (with_reducible rfl))
                            case hq253 => exact fun _ _ _ h => h
                            simp only [List.set_cons_succ, List.set_cons_zero]
                            refine take_at (i := 2) (d := 207) (oi := ?o254) (v := ?v254) ?hi254 ?hd254 (by kernel_rfl) (by kernel_rfl) (by kernel_rfl) ?hw254 ?hy254 ?hq254 (by assumption) ?r254
                            case hi254 => (simp only [List.getElem?_toArray, List.getElem?_cons_succ, List.getElem?_cons_zero]; rfl)
                            case hd254 => rfl
                            case hw254 => rfl
                            case hy254 => ((intro w hSw; (try dsimp only at hSw); go_simp) <;> (with_reducible rfl))
                            case hq254 => exact fun _ _ _ h => h
                            simp only [List.set_cons_succ, List.set_cons_zero]
                            refine take_at (i := 3) (d := 208) (oi := ?o255) (v := ?v255) ?hi255 ?hd255 (by kernel_rfl) (by kernel_rfl) (by kernel_rfl) ?hw255 ?hy255 ?hq255 (by assumption) ?r255
                            case hi255 => (simp only [List.getElem?_toArray, List.getElem?_cons_succ, List.getElem?_cons_zero]; rfl)
                            case hd255 => rfl
                            case hw255 => rfl
                            case hy255 => ((intro w hSw; (try dsimp only at hSw); go_simp) <;> (with_reducible rfl))
                            case hq255 => exact fun _ _ _ h => h
                            simp only [List.set_cons_succ, List.set_cons_zero]
                            refine take_at (i := 4) (d := 209) (oi := ?o256) (v := ?v256) ?hi256 ?hd256 (by kernel_rfl) (by kernel_rfl) (by kernel_rfl) ?hw256 ?hy256 ?hq256 (by assumption) ?r256
                            case hi256 => (simp only [List.getElem?_toArray, List.getElem?_cons_succ, List.getElem?_cons_zero]; rfl)
                            case hd256 => rfl
                            case hw256 => rfl
                            case hy256 => ((intro w hSw; (try dsimp only at hSw); go_simp) <;> (with_reducible rfl))
                            case hq256 => exact fun _ _ _ h => h
                            simp only [List.set_cons_succ, List.set_cons_zero]
                            refine take_at (i := 5) (d := 210) (oi := ?o257) (v := ?v257) ?hi257 ?hd257 (by kernel_rfl) (by kernel_rfl) (by kernel_rfl) ?hw257 ?hy257 ?hq257 (by assumption) ?r257
                            case hi257 => (simp only [List.getElem?_toArray, List.getElem?_cons_succ, List.getElem?_cons_zero]; rfl)
                            case hd257 => rfl
                            case hw257 => rfl
                            case hy257 => ((intro w hSw; (try dsimp only at hSw); have e9 := Hc.out _ hSw; go_simp) <;> (with_reducible rfl))
                            case hq257 => exact fun _ _ _ h => h
                            simp only [List.set_cons_succ, List.set_cons_zero]
                            refine take_at (i := 6) (d := 211) (oi := ?o258) (v := ?v258) ?hi258 ?hd258 (by kernel_rfl) (by kernel_rfl) (by kernel_rfl) ?hw258 ?hy258 ?hq258 (by assumption) ?r258
                            case hi258 => (simp only [List.getElem?_toArray, List.getElem?_cons_succ, List.getElem?_cons_zero]; rfl)
                            case hd258 => rfl
                            case hw258 => rfl
                            case hy258 => ((intro w hSw; (try dsimp only at hSw); go_simp) <;> (with_reducible rfl))
                            case hq258 => exact fun _ _ _ h => h
                            simp only [List.set_cons_succ, List.set_cons_zero]
                            refine take_at (i := 7) (d := 212) (oi := ?o259) (v := ?v259) ?hi259 ?hd259 (by kernel_rfl) (by kernel_rfl) (by kernel_rfl) ?hw259 ?hy259 ?hq259 (by assumption) ?r259
                            case hi259 => (simp only [List.getElem?_toArray, List.getElem?_cons_succ, List.getElem?_cons_zero]; rfl)
                            case hd259 => rfl
                            case hw259 => rfl
                            case hy259 => ((intro w hSw; (try dsimp only at hSw); go_simp) <;> (with_reducible rfl))
                            case hq259 => exact fun _ _ _ h => h
                            simp only [List.set_cons_succ, List.set_cons_zero]
                            refine take_at (i := 8) (d := 213) (oi := ?o260) (v := ?v260) ?hi260 ?hd260 (by kernel_rfl) (by kernel_rfl) (by kernel_rfl) ?hw260 ?hy260 ?hq260 (by assumption) ?r260
                            case hi260 => (simp only [List.getElem?_toArray, List.getElem?_cons_succ, List.getElem?_cons_zero]; rfl)
                            case hd260 => rfl
                            case hw260 => rfl
                            case hy260 => ((intro w hSw; (try dsimp only at hSw); go_simp) <;> (with_reducible rfl))
                            case hq260 => exact fun _ _ _ h => h
                            simp only [List.set_cons_succ, List.set_cons_zero]
                            refine take_at (i := 9) (d := 214) (oi := ?o261) (v := ?v261) ?hi261 ?hd261 (by kernel_rfl) (by kernel_rfl) (by kernel_rfl) ?hw261 ?hy261 ?hq261 (by assumption) ?r261
                            case hi261 => (simp only [List.getElem?_toArray, List.getElem?_cons_succ, List.getElem?_cons_zero]; rfl)
                            case hd261 => rfl
                            case hw261 => rfl
                            case hy261 => ((intro w hSw; (try dsimp only at hSw); obtain ⟨e0, e1, _⟩ := Hg.out _ hSw; go_simp) <;> (with_reducible rfl))
                            case hq261 => exact fun _ _ _ h => h
                            simp only [List.set_cons_succ, List.set_cons_zero]
                            refine take_at (i := 10) (d := 215) (oi := ?o262) (v := ?v262) ?hi262 ?hd262 (by kernel_rfl) (by kernel_rfl) (by kernel_rfl) ?hw262 ?hy262 ?hq262 (by assumption) ?r262
                            case hi262 => (simp only [List.getElem?_toArray, List.getElem?_cons_succ, List.getElem?_cons_zero]; rfl)
                            case hd262 => rfl
                            case hw262 => rfl
                            case hy262 => ((intro w hSw; (try dsimp only at hSw); go_simp) <;> (with_reducible rfl))
                            case hq262 => exact fun _ _ _ h => h
                            simp only [List.set_cons_succ, List.set_cons_zero]
                            refine take_at (i := 11) (d := 216) (oi := ?o263) (v := ?v263) ?hi263 ?hd263 (by kernel_rfl) (by kernel_rfl) (by kernel_rfl) ?hw263 ?hy263 ?hq263 (by assumption) ?r263
                            case hi263 => (simp only [List.getElem?_toArray, List.getElem?_cons_succ, List.getElem?_cons_zero]; rfl)
                            case hd263 => rfl
                            case hw263 => rfl
                            case hy263 => ((intro w hSw; (try dsimp only at hSw); obtain ⟨e0, e1⟩ := (Xf7.out _ hSw).cells; go_simp) <;> (with_reducible rfl))
                            case hq263 => exact fun _ _ _ h => h
                            simp only [List.set_cons_succ, List.set_cons_zero]
                            refine take_at (i := 12) (d := 217) (oi := ?o264) (v := ?v264) ?hi264 ?hd264 (by kernel_rfl) (by kernel_rfl) (by kernel_rfl) ?hw264 ?hy264 ?hq264 (by assumption) ?r264
                            case hi264 => (simp only [List.getElem?_toArray, List.getElem?_cons_succ, List.getElem?_cons_zero]; rfl)
                            case hd264 => rfl
                            case hw264 => rfl
                            case hy264 => ((intro w hSw; (try dsimp only at hSw); go_simp) <;> (with_reducible rfl))
                            case hq264 => exact fun _ _ _ h => h
                            simp only [List.set_cons_succ, List.set_cons_zero]
                            refine take_at (i := 13) (d := 218) (oi := ?o265) (v := ?v265) ?hi265 ?hd265 (by kernel_rfl) (by kernel_rfl) (by kernel_rfl) ?hw265 ?hy265 ?hq265 (by assumption) ?r265
                            case hi265 => (simp only [List.getElem?_toArray, List.getElem?_cons_succ, List.getElem?_cons_zero]; rfl)
                            case hd265 => rfl
                            case hw265 => rfl
                            case hy265 => ((intro w hSw; (try dsimp only at hSw); go_simp) <;> (with_reducible rfl))
                            case hq265 => exact fun _ _ _ h => h
                            simp only [List.set_cons_succ, List.set_cons_zero]
                            refine skip_at (i := 14) (d := 219) (oi := ?o266) ?hi266 ?hd266 (by kernel_rfl) (by kernel_rfl) (by kernel_rfl) ?hw266 ?hq266 (by assumption) ?r266
                            case hi266 => (simp only [List.getElem?_toArray, List.getElem?_cons_succ, List.getElem?_cons_zero]; rfl)
                            case hd266 => rfl
                            case hw266 => rfl
                            case hq266 => exact fun _ _ _ h => h
                            simp only [List.set_cons_succ, List.set_cons_zero]
                            refine skip_at (i := 15) (d := 220) (oi := ?o267) ?hi267 ?hd267 (by kernel_rfl) (by kernel_rfl) (by kernel_rfl) ?hw267 ?hq267 (by assumption) ?r267
                            case hi267 => (simp only [List.getElem?_toArray, List.getElem?_cons_succ, List.getElem?_cons_zero]; rfl)
                            case hd267 => rfl
                            case hw267 => rfl
                            case hq267 => exact fun _ _ _ h => h
                            simp only [List.set_cons_succ, List.set_cons_zero]
                            refine skip_at (i := 16) (d := 221) (oi := ?o268) ?hi268 ?hd268 (by kernel_rfl) (by kernel_rfl) (by kernel_rfl) ?hw268 ?hq268 (by assumption) ?r268
                            case hi268 => (simp only [List.getElem?_toArray, List.getElem?_cons_succ, List.getElem?_cons_zero]; rfl)
                            case hd268 => rfl
                            case hw268 => rfl
                            case hq268 => exact fun _ _ _ h => h
                            simp only [List.set_cons_succ, List.set_cons_zero]
                            refine skip_at (i := 17) (d := 222) (oi := ?o269) ?hi269 ?hd269 (by kernel_rfl) (by kernel_rfl) (by kernel_rfl) ?hw269 ?hq269 (by assumption) ?r269
                            case hi269 => (simp only [List.getElem?_toArray, List.getElem?_cons_succ, List.getElem?_cons_zero]; rfl)
                            case hd269 => rfl
                            case hw269 => rfl
                            case hq269 => exact fun _ _ _ h => h
                            simp only [List.set_cons_succ, List.set_cons_zero]
                            refine skip_at (i := 18) (d := 223) (oi := ?o270) ?hi270 ?hd270 (by kernel_rfl) (by kernel_rfl) (by kernel_rfl) ?hw270 ?hq270 (by assumption) ?r270
                            case hi270 => (simp only [List.getElem?_toArray, List.getElem?_cons_succ, List.getElem?_cons_zero]; rfl)
                            case hd270 => rfl
                            case hw270 => rfl
                            case hq270 => exact fun _ _ _ h => h
                            simp only [List.set_cons_succ, List.set_cons_zero]
                            refine skip_at (i := 19) (d := 224) (oi := ?o271) ?hi271 ?hd271 (by kernel_rfl) (by kernel_rfl) (by kernel_rfl) ?hw271 ?hq271 (by assumption) ?r271
                            case hi271 => (simp only [List.getElem?_toArray, List.getElem?_cons_succ, List.getElem?_cons_zero]; rfl)
                            case hd271 => rfl
                            case hw271 => rfl
                            case hq271 => exact fun _ _ _ h => h
                            simp only [List.set_cons_succ, List.set_cons_zero]
                            refine skip_at (i := 20) (d := 225) (oi := ?o272) ?hi272 ?hd272 (by kernel_rfl) (by kernel_rfl) (by kernel_rfl) ?hw272 ?hq272 (by assumption) ?r272
                            case hi272 => (simp only [List.getElem?_toArray, List.getElem?_cons_succ, List.getElem?_cons_zero]; rfl)
                            case hd272 => rfl
                            case hw272 => rfl
                            case hq272 => exact fun _ _ _ h => h
                            simp only [List.set_cons_succ, List.set_cons_zero]
                            refine skip_at (i := 21) (d := 226) (oi := ?o273) ?hi273 ?hd273 (by kernel_rfl) (by kernel_rfl) (by kernel_rfl) ?hw273 ?hq273 (by assumption) ?r273
                            case hi273 => (simp only [List.getElem?_toArray, List.getElem?_cons_succ, List.getElem?_cons_zero]; rfl)
                            case hd273 => rfl
                            case hw273 => rfl
                            case hq273 => exact fun _ _ _ h => h
                            simp only [List.set_cons_succ, List.set_cons_zero]
                            refine skip_at (i := 22) (d := 227) (oi := ?o274) ?hi274 ?hd274 (by kernel_rfl) (by kernel_rfl) (by kernel_rfl) ?hw274 ?hq274 (by assumption) ?r274
                            case hi274 => (simp only [List.getElem?_toArray, List.getElem?_cons_succ, List.getElem?_cons_zero]; rfl)
                            case hd274 => rfl
                            case hw274 => rfl
                            case hq274 => exact fun _ _ _ h => h
                            simp only [List.set_cons_succ, List.set_cons_zero]
                            refine skip_at (i := 23) (d := 228) (oi := ?o275) ?hi275 ?hd275 (by kernel_rfl) (by kernel_rfl) (by kernel_rfl) ?hw275 ?hq275 (by assumption) ?r275
                            case hi275 => (simp only [List.getElem?_toArray, List.getElem?_cons_succ, List.getElem?_cons_zero]; rfl)
                            case hd275 => rfl
                            case hw275 => rfl
                            case hq275 => exact fun _ _ _ h => h
                            simp only [List.set_cons_succ, List.set_cons_zero]
                            refine skip_at (i := 24) (d := 229) (oi := ?o276) ?hi276 ?hd276 (by kernel_rfl) (by kernel_rfl) (by kernel_rfl) ?hw276 ?hq276 (by assumption) ?r276
                            case hi276 => (simp only [List.getElem?_toArray, List.getElem?_cons_succ, List.getElem?_cons_zero]; rfl)
                            case hd276 => rfl
                            case hw276 => rfl
                            case hq276 => exact fun _ _ _ h => h
                            simp only [List.set_cons_succ, List.set_cons_zero]
                            refine skip_at (i := 25) (d := 230) (oi := ?o277) ?hi277 ?hd277 (by kernel_rfl) (by kernel_rfl) (by kernel_rfl) ?hw277 ?hq277 (by assumption) ?r277
                            case hi277 => (simp only [List.getElem?_toArray, List.getElem?_cons_succ, List.getElem?_cons_zero]; rfl)
                            case hd277 => rfl
                            case hw277 => rfl
                            case hq277 => exact fun _ _ _ h => h
                            simp only [List.set_cons_succ, List.set_cons_zero]
                            refine skip_at (i := 26) (d := 231) (oi := ?o278) ?hi278 ?hd278 (by kernel_rfl) (by kernel_rfl) (by kernel_rfl) ?hw278 ?hq278 (by assumption) ?r278
                            case hi278 => (simp only [List.getElem?_toArray, List.getElem?_cons_succ, List.getElem?_cons_zero]; rfl)
                            case hd278 => rfl
                            case hw278 => rfl
                            case hq278 => exact fun _ _ _ h => h
                            simp only [List.set_cons_succ, List.set_cons_zero]
                            refine take_at (i := 27) (d := 232) (oi := ?o279) (v := ?v279) ?hi279 ?hd279 (by kernel_rfl) (by kernel_rfl) (by kernel_rfl) ?hw279 ?hy279 ?hq279 (by assumption) ?r279
                            case hi279 => (simp only [List.getElem?_toArray, List.getElem?_cons_succ, List.getElem?_cons_zero]; rfl)
                            case hd279 => rfl
                            case hw279 => rfl
                            case hy279 => ((intro w hSw; (try dsimp only at hSw); go_simp) <;> (with_reducible rfl))
                            case hq279 => exact fun _ _ _ h => h
                            simp only [List.set_cons_succ, List.set_cons_zero]
                            refine take_at (i := 28) (d := 233) (oi := ?o280) (v := ?v280) ?hi280 ?hd280 (by kernel_rfl) (by kernel_rfl) (by kernel_rfl) ?hw280 ?hy280 ?hq280 (by assumption) ?r280
                            case hi280 => (simp only [List.getElem?_toArray, List.getElem?_cons_succ, List.getElem?_cons_zero]; rfl)
                            case hd280 => rfl
                            case hw280 => rfl
                            case hy280 => ((intro w hSw; (try dsimp only at hSw); go_simp) <;> (with_reducible rfl))
                            case hq280 => exact fun _ _ _ h => h
                            simp only [List.set_cons_succ, List.set_cons_zero]
                            refine take_at (i := 29) (d := 19) (oi := ?o281) (v := ?v281) ?hi281 ?hd281 (by kernel_rfl) (by kernel_rfl) (by kernel_rfl) ?hw281 ?hy281 ?hq281 (by assumption) ?r281
                            case hi281 => (simp only [List.getElem?_toArray, List.getElem?_cons_succ, List.getElem?_cons_zero]; rfl)
                            case hd281 => rfl
                            case hw281 => rfl
                            case hy281 => ((intro w hSw; (try dsimp only at hSw); go_simp) <;> (with_reducible rfl))
                            case hq281 => exact fun _ _ _ h => h
                            simp only [List.set_cons_succ, List.set_cons_zero]
                            refine wpAnyH_done (by kernel_rfl) ?_ _
                            have Hb2 : Hid (false = true ↔ bv = true ∨ ∃ g ∈ mK.fs.take (t2 + 1), Mq g f) := Lib.hid (by rw [any_step Hgi.out (fun g => Mq g f), ← or_assoc, ← Hbq.out]; exact ⟨fun h => (by cases h), fun h => (by rcases h with h | h; (· cases h); (· exact absurd h HM2.out))⟩)
                            have HW8 := Lib.hid (below_on HW6.out hHeld)
                            clear hHeld
                            go_wp2_with fail
                            exact ⟨⟨t2 + 1, false, by omega, rfl, rfl, Hb2, HW8⟩, by simp only [intOf]; omega⟩
                    · have hte2 : t2 = mK.n := by omega
                      obtain rfl : b2 = true := by
                        have h1 := Hbq.out
                        rw [hte2, List.take_of_length_le (by rw [Hl.out.2.2]; exact Nat.le_refl _)] at h1
                        rw [h1, Hb0.out]
                        exact Hfine.out f Hfm.out
                      have HW7 := Lib.hid (below_on Hkb6.out HW6.out)
                      clear Hbq hft
                      go_wp2_with fail
                      exact ⟨⟨i + 1, by omega, rfl, HW7⟩, by simp only [intOf]; omega⟩
            · have hie : i = np := by omega
              have kb6 := Lib.hid (below_on Hkb.out HW5.out)
              have HB6 := Lib.hid (HB4.out.trans (kb6.out.mono HB4.out.size))
              obtain ⟨D4, hy, hsm, hnm, hyf, hyc⟩ := synced HD.out (by omega)
              obtain ⟨k5, k6, k7, k8, k9⟩ := cells5v (Xx.out _ kb6.out)
              have HY := Lib.hid (⟨hsm, hnm, hyf, hyc⟩ : _ ∧ _ ∧ _ ∧ _)
              have Hy := Lib.hid hy
              clear hsm hnm hyf hyc hy
              go_wp2_with fail
              refine (sync_step (D' := D4) (er := 0) (Gx.out _ kb6.out) HD'.out (by omega) Hy.out).mono ?_
              rintro e w7 ⟨⟨As, ns, cs, Bs, ms', ks, rfl, gs⟩, hb⟩
              have kb7 := below_on kb6.out hb
              have HB7 := HB6.out.trans (hb.mono HB6.out.size)
              clear hb k0 k1 k2 k3 k4 k5 k6 k7 k8 k9
              go_upto_region 41 with fail
              obtain ⟨zs, hz⟩ : ∃ z, z = w7.heap.size := ⟨_, rfl⟩
              obtain ⟨w8, hw⟩ : ∃ x, x = w7.alloc (.cells #[.slice As ns cs, .slice Bs ms' ks, .int .i64 D4.quota, .int .i64 D4.fuse, .bool D4.dead] 25) := ⟨_, rfl⟩
              have hb : Below w7.heap.size w7 w8 := by rw [hw]; exact below_al (below_d0 w7) _
              have xs : DBox w8 zs D4 As ns cs Bs ms' ks := by rw [hw, hz]; exact ⟨World.alloc_heap_new w7 _, gs.on (below_al (below_d0 w7) _)⟩
              rw [← hw, ← hz]
              have kb8 := below_on kb7 hb
              have HB8 := Lib.hid (HB7.trans (hb.mono HB7.size))
              have Xs := Lib.hid (show ∀ W, Below w8.heap.size w8 W → DBox W zs D4 As ns cs Bs ms' ks from fun W hW => xs.below hW)
              have Xx8 := Lib.hid (show ∀ W, Below w8.heap.size w8 W → DBox W zx D A n c B m k from fun W hW => ⟨Xx.out W (below_on kb8 hW), Gx.out W (below_on kb8 hW)⟩)
              obtain ⟨mm, hmm⟩ : ∃ mm, ms[m]? = some mm := ⟨_, List.getElem?_eq_getElem (by rw [← HN.out, HNm.out]; omega)⟩
              have Hmm := Lib.hid (show mm.pure = nowP D from by
                rw [rows_at HRows.out hmm]
                unfold nowP
                rw [List.take_of_length_le (by rw [(Gx.out _ kb8).len.2]; exact Nat.le_refl _)])
              have Hrow := Lib.hid (show ∀ W, Below w8.heap.size w8 W → W.cell? ⟨gW, m, none⟩ = some (.slice mm.A mm.n mm.c) ∧ FT W mm.A mm.n mm.c mm.fs from fun W hW => Hat.out W m mm (below_on kb8 hW) hmm)
              have hm0 : (0 : Int) ≤ (m : Int) := by omega
              have hm1 : (m : Int) < (N : Int) := by have := HNm.out; omega
              clear hz hw hb xs kb7 kb8 gs HB7 hmm
              as_aux_lemma =>
                refine wp_region_held_drew (S := (fun W => Below w8.heap.size w8 W)) (by kernel_rfl) (below_dr (below_d0 _)) (fun hHeld => ?_)
                refine take_at (i := 0) (d := 241) (oi := ?o282) (v := ?v282) ?hi282 ?hd282 (by kernel_rfl) (by kernel_rfl) (by kernel_rfl) ?hw282 ?hy282 ?hq282 (by assumption) ?r282
                case hi282 => (simp only [List.getElem?_toArray, List.getElem?_cons_zero]; rfl)
                case hd282 => rfl
                case hw282 => rfl
                case hy282 => ((intro w hSw; (try dsimp only at hSw); go_simp) <;> (with_reducible rfl))
                case hq282 => exact fun _ _ _ h => h
                simp only [List.set_cons_succ, List.set_cons_zero]
                refine take_at (i := 1) (d := 242) (oi := ?o283) (v := ?v283) ?hi283 ?hd283 (by kernel_rfl) (by kernel_rfl) (by kernel_rfl) ?hw283 ?hy283 ?hq283 (by assumption) ?r283
                case hi283 => (simp only [List.getElem?_toArray, List.getElem?_cons_succ, List.getElem?_cons_zero]; rfl)
                case hd283 => rfl
                case hw283 => rfl
                case hy283 => ((intro w hSw; (try dsimp only at hSw); go_simp) <;> (with_reducible rfl))
                case hq283 => exact fun _ _ _ h => h
                simp only [List.set_cons_succ, List.set_cons_zero]
                refine take_at (i := 2) (d := 243) (oi := ?o284) (v := ?v284) ?hi284 ?hd284 (by kernel_rfl) (by kernel_rfl) (by kernel_rfl) ?hw284 ?hy284 ?hq284 (by assumption) ?r284
                case hi284 => (simp only [List.getElem?_toArray, List.getElem?_cons_succ, List.getElem?_cons_zero]; rfl)
                case hd284 => rfl
                case hw284 => rfl
                case hy284 => ((intro w hSw; (try dsimp only at hSw); go_simp) <;> (with_reducible rfl))
                case hq284 => exact fun _ _ _ h => h
                simp only [List.set_cons_succ, List.set_cons_zero]
                refine take_at (i := 3) (d := 244) (oi := ?o285) (v := ?v285) ?hi285 ?hd285 (by kernel_rfl) (by kernel_rfl) (by kernel_rfl) ?hw285 ?hy285 ?hq285 (by assumption) ?r285
                case hi285 => (simp only [List.getElem?_toArray, List.getElem?_cons_succ, List.getElem?_cons_zero]; rfl)
                case hd285 => rfl
                case hw285 => rfl
                case hy285 => ((intro w hSw; (try dsimp only at hSw); obtain ⟨k0, k1, k2, k3, k4⟩ := DBox.cells (Xs.out _ hSw); go_simp) <;> (with_reducible rfl))
                case hq285 => exact fun _ _ _ h => h
                simp only [List.set_cons_succ, List.set_cons_zero]
                refine take_at (i := 6) (d := 247) (oi := ?o286) (v := ?v286) ?hi286 ?hd286 (by kernel_rfl) (by kernel_rfl) (by kernel_rfl) ?hw286 ?hy286 ?hq286 (by assumption) ?r286
                case hi286 => (simp only [List.getElem?_toArray, List.getElem?_cons_succ, List.getElem?_cons_zero]; rfl)
                case hd286 => rfl
                case hw286 => rfl
                case hy286 => ((intro w hSw; (try dsimp only at hSw); go_simp) <;> (with_reducible rfl))
                case hq286 => exact fun _ _ _ h => h
                simp only [List.set_cons_succ, List.set_cons_zero]
                refine take_at (i := 7) (d := 248) (oi := ?o287) (v := ?v287) ?hi287 ?hd287 (by kernel_rfl) (by kernel_rfl) (by kernel_rfl) ?hw287 ?hy287 ?hq287 (by assumption) ?r287
                case hi287 => (simp only [List.getElem?_toArray, List.getElem?_cons_succ, List.getElem?_cons_zero]; rfl)
                case hd287 => rfl
                case hw287 => rfl
                case hy287 => ((intro w hSw; (try dsimp only at hSw); go_simp) <;> (with_reducible rfl))
                case hq287 => exact fun _ _ _ h => h
                simp only [List.set_cons_succ, List.set_cons_zero]
                refine take_at (i := 8) (d := 249) (oi := ?o288) (v := ?v288) ?hi288 ?hd288 (by kernel_rfl) (by kernel_rfl) (by kernel_rfl) ?hw288 ?hy288 ?hq288 (by assumption) ?r288
                case hi288 => (simp only [List.getElem?_toArray, List.getElem?_cons_succ, List.getElem?_cons_zero]; rfl)
                case hd288 => rfl
                case hw288 => rfl
                case hy288 => ((intro w hSw; (try dsimp only at hSw); go_simp) <;> (with_reducible rfl))
                case hq288 => exact fun _ _ _ h => h
                simp only [List.set_cons_succ, List.set_cons_zero]
                refine take_at (i := 9) (d := 250) (oi := ?o289) (v := ?v289) ?hi289 ?hd289 (by kernel_rfl) (by kernel_rfl) (by kernel_rfl) ?hw289 ?hy289 ?hq289 (by assumption) ?r289
                case hi289 => (simp only [List.getElem?_toArray, List.getElem?_cons_succ, List.getElem?_cons_zero]; rfl)
                case hd289 => rfl
                case hw289 => rfl
                case hy289 => ((intro w hSw; (try dsimp only at hSw); go_simp) <;> (with_reducible rfl))
                case hq289 => exact fun _ _ _ h => h
                simp only [List.set_cons_succ, List.set_cons_zero]
                refine take_at (i := 10) (d := 251) (oi := ?o290) (v := ?v290) ?hi290 ?hd290 (by kernel_rfl) (by kernel_rfl) (by kernel_rfl) ?hw290 ?hy290 ?hq290 (by assumption) ?r290
                case hi290 => (simp only [List.getElem?_toArray, List.getElem?_cons_succ, List.getElem?_cons_zero]; rfl)
                case hd290 => rfl
                case hw290 => rfl
                case hy290 => ((intro w hSw; (try dsimp only at hSw); go_simp) <;> (with_reducible rfl))
                case hq290 => exact fun _ _ _ h => h
                simp only [List.set_cons_succ, List.set_cons_zero]
                refine take_at (i := 11) (d := 252) (oi := ?o291) (v := ?v291) ?hi291 ?hd291 (by kernel_rfl) (by kernel_rfl) (by kernel_rfl) ?hw291 ?hy291 ?hq291 (by assumption) ?r291
                case hi291 => (simp only [List.getElem?_toArray, List.getElem?_cons_succ, List.getElem?_cons_zero]; rfl)
                case hd291 => rfl
                case hw291 => rfl
                case hy291 => ((intro w hSw; (try dsimp only at hSw); have e9 := (Hrow.out _ hSw).1; go_simp) <;> (with_reducible rfl))
                case hq291 => exact fun _ _ _ h => h
                simp only [List.set_cons_succ, List.set_cons_zero]
                refine call_at (i := 4) (d := 245) (oi := ?o292) (f := ?f292) (args := ?a292) ?hi292 ?hd292 (by kernel_rfl) ?hw292 ?he292 ?hc292
                case hi292 => (simp only [List.getElem?_toArray, List.getElem?_cons_succ, List.getElem?_cons_zero]; rfl)
                case hd292 => rfl
                case hw292 => rfl
                case he292 => (go_simp; constructor <;> with_reducible rfl)
                obtain ⟨D4f, D4q, D4t, D4u, D4d⟩ := D4
                refine Calls.mono (dev_crash 0 0 (Xs.out _ hHeld).dat HY.out.1 HY.out.2.1) ?_
                rintro e v1 ⟨⟨A3, n3, c3, B3, m3, k3, rfl, g3⟩, hb1⟩
                have kb := below_on hHeld hb1
                clear hHeld hb1
                refine ⟨_, rfl, kb, fun hHeld => ?_⟩
                simp only [List.set_cons_succ, List.set_cons_zero]
                refine take_at (i := 5) (d := 246) (oi := ?o293) (v := ?v293) ?hi293 ?hd293 (by kernel_rfl) (by kernel_rfl) (by kernel_rfl) ?hw293 ?hy293 ?hq293 (by assumption) ?r293
                case hi293 => (simp only [List.getElem?_toArray, List.getElem?_cons_succ, List.getElem?_cons_zero]; rfl)
                case hd293 => rfl
                case hw293 => rfl
                case hy293 => ((intro w hSw; (try dsimp only at hSw); have hfd := field_files; go_simp) <;> (with_reducible rfl))
                case hq293 => exact fun _ _ _ h => h
                simp only [List.set_cons_succ, List.set_cons_zero]
                refine call_at (i := 12) (d := 253) (oi := ?o294) (f := ?f294) (args := ?a294) ?hi294 ?hd294 (by kernel_rfl) ?hw294 ?he294 ?hc294
                case hi294 => (simp only [List.getElem?_toArray, List.getElem?_cons_succ, List.getElem?_cons_zero]; rfl)
                case hd294 => rfl
                case hw294 => rfl
                case he294 => (go_simp; constructor <;> with_reducible rfl)
                obtain ⟨fq, hfq, hpq⟩ := g3.files
                have hft := (Hrow.out _ hHeld).2
                have hpe := (hpq.trans HY.out.2.2.2).trans Hmm.out.symm
                refine Calls.mono (files_yes hfq hft.fs (by rw [← hfq.len, ← List.length_map (f := FileM.pure), hpq, HY.out.2.2.2]; have h1 := HD'.out.now_len2; omega) hpe) ?_
                rintro e v2 ⟨rfl, hb1⟩
                clear hft hfq hpq hpe fq g3
                have kb := below_on hHeld hb1
                clear hHeld hb1
                refine ⟨_, rfl, kb, fun hHeld => ?_⟩
                simp only [List.set_cons_succ, List.set_cons_zero]
                refine take_at (i := 13) (d := 254) (oi := ?o295) (v := ?v295) ?hi295 ?hd295 (by kernel_rfl) (by kernel_rfl) (by kernel_rfl) ?hw295 ?hy295 ?hq295 (by assumption) ?r295
                case hi295 => (simp only [List.getElem?_toArray, List.getElem?_cons_succ, List.getElem?_cons_zero]; rfl)
                case hd295 => rfl
                case hw295 => rfl
                case hy295 => ((intro w hSw; (try dsimp only at hSw); go_simp) <;> (with_reducible rfl))
                case hq295 => exact fun _ _ _ h => h
                simp only [List.set_cons_succ, List.set_cons_zero]
                refine take_at (i := 14) (d := 255) (oi := ?o296) (v := ?v296) ?hi296 ?hd296 (by kernel_rfl) (by kernel_rfl) (by kernel_rfl) ?hw296 ?hy296 ?hq296 (by assumption) ?r296
                case hi296 => (simp only [List.getElem?_toArray, List.getElem?_cons_succ, List.getElem?_cons_zero]; rfl)
                case hd296 => rfl
                case hw296 => rfl
                case hy296 => ((intro w hSw; (try dsimp only at hSw); go_simp) <;> (with_reducible rfl))
                case hq296 => exact fun _ _ _ h => h
                simp only [List.set_cons_succ, List.set_cons_zero]
                refine take_at (i := 15) (d := 256) (oi := ?o297) (v := ?v297) ?hi297 ?hd297 (by kernel_rfl) (by kernel_rfl) (by kernel_rfl) ?hw297 ?hy297 ?hq297 (by assumption) ?r297
                case hi297 => (simp only [List.getElem?_toArray, List.getElem?_cons_succ, List.getElem?_cons_zero]; rfl)
                case hd297 => rfl
                case hw297 => rfl
                case hy297 => ((intro w hSw; (try dsimp only at hSw); go_simp) <;> (with_reducible rfl))
                case hq297 => exact fun _ _ _ h => h
                simp only [List.set_cons_succ, List.set_cons_zero]
                refine take_at (i := 16) (d := 257) (oi := ?o298) (v := ?v298) ?hi298 ?hd298 (by kernel_rfl) (by kernel_rfl) (by kernel_rfl) ?hw298 ?hy298 ?hq298 (by assumption) ?r298
                case hi298 => (simp only [List.getElem?_toArray, List.getElem?_cons_succ, List.getElem?_cons_zero]; rfl)
                case hd298 => rfl
                case hw298 => rfl
                case hy298 => ((intro w hSw; (try dsimp only at hSw); obtain ⟨k0, k1, k2, k3, k4⟩ := DBox.cells (Xs.out _ hSw); go_simp) <;> (with_reducible rfl))
                case hq298 => exact fun _ _ _ h => h
                simp only [List.set_cons_succ, List.set_cons_zero]
                refine take_at (i := 17) (d := 258) (oi := ?o299) (v := ?v299) ?hi299 ?hd299 (by kernel_rfl) (by kernel_rfl) (by kernel_rfl) ?hw299 ?hy299 ?hq299 (by assumption) ?r299
                case hi299 => (simp only [List.getElem?_toArray, List.getElem?_cons_succ, List.getElem?_cons_zero]; rfl)
                case hd299 => rfl
                case hw299 => rfl
                case hy299 => ((intro w hSw; (try dsimp only at hSw); obtain ⟨k0, k1, k2, k3, k4⟩ := DBox.cells (Xx8.out _ hSw); go_simp) <;> (with_reducible rfl))
                case hq299 => exact fun _ _ _ h => h
                simp only [List.set_cons_succ, List.set_cons_zero]
                refine call_at (i := 18) (d := 259) (oi := ?o300) (f := ?f300) (args := ?a300) ?hi300 ?hd300 (by kernel_rfl) ?hw300 ?he300 ?hc300
                case hi300 => (simp only [List.getElem?_toArray, List.getElem?_cons_succ, List.getElem?_cons_zero]; rfl)
                case hd300 => rfl
                case hw300 => rfl
                case he300 => (go_simp; constructor <;> with_reducible rfl)
                refine Calls.mono (now_step (Xx8.out _ hHeld).dat HD'.out (by omega)) ?_
                rintro e v3 ⟨⟨A6, n6, c6, f6, rfl, hc6, r6, p6⟩, hb1⟩
                have kb := below_on hHeld hb1
                clear hHeld hb1
                refine ⟨_, rfl, kb, fun hHeld => ?_⟩
                simp only [List.set_cons_succ, List.set_cons_zero]
                refine call_at (i := 19) (d := 260) (oi := ?o301) (f := ?f301) (args := ?a301) ?hi301 ?hd301 (by kernel_rfl) ?hw301 ?he301 ?hc301
                case hi301 => (simp only [List.getElem?_toArray, List.getElem?_cons_succ, List.getElem?_cons_zero]; rfl)
                case hd301 => rfl
                case hw301 => rfl
                case he301 => (go_simp; constructor <;> with_reducible rfl)
                obtain ⟨fs4, hfs4, hps4⟩ := (Xs.out _ hHeld).dat.files
                refine Calls.mono (files_yes hfs4 r6 (by rw [← hfs4.len, ← List.length_map (f := FileM.pure), hps4, HY.out.2.2.1]; have h1 := HD'.out.now_len2; omega) ((hps4.trans HY.out.2.2.1).trans p6.symm)) ?_
                rintro e v4 ⟨rfl, hb1⟩
                clear hfs4 hps4 fs4 r6 p6 hc6
                have kb := below_on hHeld hb1
                clear hHeld hb1
                refine ⟨_, rfl, kb, fun hHeld => ?_⟩
                simp only [List.set_cons_succ, List.set_cons_zero]
                refine take_at (i := 20) (d := 261) (oi := ?o302) (v := ?v302) ?hi302 ?hd302 (by kernel_rfl) (by kernel_rfl) (by kernel_rfl) ?hw302 ?hy302 ?hq302 (by assumption) ?r302
                case hi302 => (simp only [List.getElem?_toArray, List.getElem?_cons_succ, List.getElem?_cons_zero]; rfl)
                case hd302 => rfl
                case hw302 => rfl
                case hy302 => ((intro w hSw; (try dsimp only at hSw); go_simp) <;> (with_reducible rfl))
                case hq302 => exact fun _ _ _ h => h
                simp only [List.set_cons_succ, List.set_cons_zero]
                refine take_at (i := 21) (d := 262) (oi := ?o303) (v := ?v303) ?hi303 ?hd303 (by kernel_rfl) (by kernel_rfl) (by kernel_rfl) ?hw303 ?hy303 ?hq303 (by assumption) ?r303
                case hi303 => (simp only [List.getElem?_toArray, List.getElem?_cons_succ, List.getElem?_cons_zero]; rfl)
                case hd303 => rfl
                case hw303 => rfl
                case hy303 => ((intro w hSw; (try dsimp only at hSw); go_simp) <;> (with_reducible rfl))
                case hq303 => exact fun _ _ _ h => h
                simp only [List.set_cons_succ, List.set_cons_zero]
                refine call_at (i := 22) (d := 263) (oi := ?o304) (f := ?f304) (args := ?a304) ?hi304 ?hd304 (by kernel_rfl) ?hw304 ?he304 ?hc304
                case hi304 => (simp only [List.getElem?_toArray, List.getElem?_cons_succ, List.getElem?_cons_zero]; rfl)
                case hd304 => rfl
                case hw304 => rfl
                case he304 => (go_simp; constructor <;> with_reducible rfl)
                refine Calls.mono (HW.out _) ?_
                rintro e v5 ⟨rfl, hb1⟩
                have kb := below_on hHeld hb1
                clear hHeld hb1
                refine ⟨_, rfl, kb, fun hHeld => ?_⟩
                simp only [List.set_cons_succ, List.set_cons_zero]
                refine take_at (i := 23) (d := 264) (oi := ?o305) (v := ?v305) ?hi305 ?hd305 (by kernel_rfl) (by kernel_rfl) (by kernel_rfl) ?hw305 ?hy305 ?hq305 (by assumption) ?r305
                case hi305 => (simp only [List.getElem?_toArray, List.getElem?_cons_succ, List.getElem?_cons_zero]; rfl)
                case hd305 => rfl
                case hw305 => rfl
                case hy305 => ((intro w hSw; (try dsimp only at hSw); go_simp) <;> (with_reducible rfl))
                case hq305 => exact fun _ _ _ h => h
                simp only [List.set_cons_succ, List.set_cons_zero]
                refine take_at (i := 24) (d := 8) (oi := ?o306) (v := ?v306) ?hi306 ?hd306 (by kernel_rfl) (by kernel_rfl) (by kernel_rfl) ?hw306 ?hy306 ?hq306 (by assumption) ?r306
                case hi306 => (simp only [List.getElem?_toArray, List.getElem?_cons_succ, List.getElem?_cons_zero]; rfl)
                case hd306 => rfl
                case hw306 => rfl
                case hy306 => ((intro w hSw; (try dsimp only at hSw); go_simp) <;> (with_reducible rfl))
                case hq306 => exact fun _ _ _ h => h
                simp only [List.set_cons_succ, List.set_cons_zero]
                refine wpAnyH_done (by kernel_rfl) ?_ _
                go_wp2_with fail
                go_ret
                exact ⟨rfl, HB8.out.trans (hHeld.mono HB8.out.size)⟩
end Go.Proofs.Ytmfiopopiikbmaa
