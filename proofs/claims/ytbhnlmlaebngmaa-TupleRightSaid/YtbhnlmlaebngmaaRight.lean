/-
  TupleRight: it returns true, whatever package tuple's contracts are proved by.
-/
import Derived.Test.YtbhnlmlaebngmaaDoes
namespace Go.Proofs.Ytbhnlmlaebngmaa
open Go.RowKit
set_option linter.unusedVariables false
set_option linter.unusedSimpArgs false

/-- A row of deeds. -/
structure Ds (w : World) (B : Nat) (A : Option Addr) (n : Nat) (l : List DeedP) : Prop where
  row : Row 10 DeedP.cs w B A n l
  ok : ∀ d ∈ l, DeedP.Ok w B d
theorem Ds.on {w w' : World} {B B' n : Nat} {A : Option Addr} {l : List DeedP} (h : Ds w B A n l) (hb : Below B w w') (hB : B ≤ B') : Ds w' B' A n l := ⟨Row.on h.row hb hB, fun d hd => (h.ok d hd).on hb hB⟩
theorem Ds.at_ {w : World} {B n : Nat} {A : Option Addr} {l : List DeedP} (h : Ds w B A n l) {k : Nat} (hk : k < n) :
    ∃ b off d, A = some ⟨b, off, none⟩ ∧ b < B ∧ l[k]? = some d ∧ DeedP.Ok w B d ∧ w.cell? ⟨b, off + k * 10, none⟩ = some (.int .u8 d.what) ∧ w.cell? ⟨b, off + k * 10 + 1, none⟩ = some (.slice d.A d.n d.c) ∧ w.cell? ⟨b, off + k * 10 + 2, none⟩ = some (.int .i64 d.at_) ∧ w.cell? ⟨b, off + k * 10 + 3, none⟩ = some (.int .i64 d.s.ix) ∧ w.cell? ⟨b, off + k * 10 + 4, none⟩ = some (.int .i64 d.s.tm) ∧ w.cell? ⟨b, off + k * 10 + 5, none⟩ = some (.int .i64 d.s.sm) ∧ w.cell? ⟨b, off + k * 10 + 6, none⟩ = some (.int .i64 d.s.lv) ∧ w.cell? ⟨b, off + k * 10 + 7, none⟩ = some (.bool d.s.fn) ∧ w.cell? ⟨b, off + k * 10 + 8, none⟩ = some (.int .i64 d.tm) ∧ w.cell? ⟨b, off + k * 10 + 9, none⟩ = some (.int .i64 d.vt) := by
  obtain ⟨b, off, d, rfl, hb, hd, hc⟩ := Row.at_ h.row hk
  have h0 := hc 0 (by omega)
  have h1 := hc 1 (by omega)
  have h2 := hc 2 (by omega)
  have h3 := hc 3 (by omega)
  have h4 := hc 4 (by omega)
  have h5 := hc 5 (by omega)
  have h6 := hc 6 (by omega)
  have h7 := hc 7 (by omega)
  have h8 := hc 8 (by omega)
  have h9 := hc 9 (by omega)
  rw [← Nat.add_assoc] at h1 h2 h3 h4 h5 h6 h7 h8 h9
  exact ⟨b, off, d, rfl, hb, hd, h.ok d (List.mem_of_getElem? hd), h0, h1, h2, h3, h4, h5, h6, h7, h8, h9⟩
set_option maxRecDepth 100000 in
set_option maxHeartbeats 32000000 in
theorem right_no (D : Dev12) (t : TupP) (ds : List DeedP) (A Ad : Option Addr) (n c nd cd : Nat) (w : World) (hS : Es w w.heap.size A n t.lg) (hnc : n ≤ c) (hD : Ds w w.heap.size Ad nd ds) (hM : ¬ MayT t) :
    Calls Try.prog 4 #[tupV t (.slice A n c), .slice Ad nd cd] w fun e w' => e = .returned (.bool true) ∧ Below w.heap.size w w' := by
  have HM := Lib.hid hM
  clear hM
  obtain ⟨z1, hz1⟩ : ∃ z, z = w.heap.size := ⟨_, rfl⟩
  obtain ⟨w1, hw1⟩ : ∃ x, x = w.alloc (.cells #[.int .i64 t.sn.ix, .int .i64 t.sn.tm, .int .i64 t.sn.sm, .int .i64 t.sn.lv, .bool t.sn.fn, .slice A n c, .int .i64 t.tm, .int .i64 t.vt] 26) := ⟨_, rfl⟩
  have bb : Below w.heap.size w w1 := by rw [hw1]; exact below_al (below_d0 _) _
  have bz : BoxU w1 z1 t (.slice A n c) := by rw [hw1, hz1]; exact BoxU.new w t _
  replace hS := hS.on bb bb.size
  replace hD := hD.on bb bb.size
  have B1 := bb
  clear bb
  have HE := Lib.hid (⟨hw1, hz1⟩ : _ ∧ _)
  have HZ1 := Lib.hid (show w.heap.size ≤ z1 by omega)
  clear hw1 hz1
  unfold tupV
  go_enter Try.func4, Try.ntmps4
  go_wp2_with fail
  rw [← HE.out.1, ← HE.out.2]
  clear HE
  refine Calls.mono (show Calls Try.prog 28 #[.agg #[.int .i64 t.sn.ix, .int .i64 t.sn.tm, .int .i64 t.sn.sm, .int .i64 t.sn.lv, .bool t.sn.fn, .slice A n c, .int .i64 t.tm, .int .i64 t.vt]] w1 (fun e w' => (∃ b, MayIs t b ∧ e = .returned (.bool b)) ∧ Below w1.heap.size w1 w') from rrightT_any t A n c w1 hS) ?_
  intro e w2 hh
  obtain ⟨⟨b, hb, rfl⟩, bb⟩ := hh
  (try clear hh)
  replace bz := bz.below bb
  replace hS := hS.on bb bb.size
  replace hD := hD.on bb bb.size
  have B2 := B1.trans (bb.mono B1.size)
  clear bb B1
  obtain rfl := hb.same (mayNo HM.out)
  clear hb
  obtain ⟨k0, k1, k2, k3, k4, k5, k6, k7⟩ := bz.cells
  go_wp2_with fail
  clear k0 k1 k2 k3 k4 k5 k6 k7
  refine Calls.mono (wakes12 D w2) ?_
  rintro e w3 ⟨rfl, bb⟩
  replace bz := bz.below bb
  replace hS := hS.on bb bb.size
  replace hD := hD.on bb bb.size
  have B3 := B2.trans (bb.mono B2.size)
  clear bb B2
  go_wp2_with fail
  go_ret
  exact ⟨rfl, B3⟩
set_option maxRecDepth 100000 in
set_option maxHeartbeats 32000000 in
theorem right_many (D : Dev12) (t : TupP) (ds : List DeedP) (A Ad : Option Addr) (n c nd cd : Nat) (w : World) (hS : Es w w.heap.size A n t.lg) (hnc : n ≤ c) (hD : Ds w w.heap.size Ad nd ds) (hM : MayT t) (hg : 30 < nd) :
    Calls Try.prog 4 #[tupV t (.slice A n c), .slice Ad nd cd] w fun e w' => e = .returned (.bool true) ∧ Below w.heap.size w w' := by
  have q0 : decide ((30 : Int) < (nd : Int)) = true := decide_eq_true (by omega)
  have q0b : decide (30 < nd) = true := decide_eq_true hg
  have HM := Lib.hid hM
  clear hM
  obtain ⟨z1, hz1⟩ : ∃ z, z = w.heap.size := ⟨_, rfl⟩
  obtain ⟨w1, hw1⟩ : ∃ x, x = w.alloc (.cells #[.int .i64 t.sn.ix, .int .i64 t.sn.tm, .int .i64 t.sn.sm, .int .i64 t.sn.lv, .bool t.sn.fn, .slice A n c, .int .i64 t.tm, .int .i64 t.vt] 26) := ⟨_, rfl⟩
  have bb : Below w.heap.size w w1 := by rw [hw1]; exact below_al (below_d0 _) _
  have bz : BoxU w1 z1 t (.slice A n c) := by rw [hw1, hz1]; exact BoxU.new w t _
  replace hS := hS.on bb bb.size
  replace hD := hD.on bb bb.size
  have B1 := bb
  clear bb
  have HE := Lib.hid (⟨hw1, hz1⟩ : _ ∧ _)
  have HZ1 := Lib.hid (show w.heap.size ≤ z1 by omega)
  clear hw1 hz1
  unfold tupV
  go_enter Try.func4, Try.ntmps4
  go_wp2_with fail
  rw [← HE.out.1, ← HE.out.2]
  clear HE
  refine Calls.mono (show Calls Try.prog 28 #[.agg #[.int .i64 t.sn.ix, .int .i64 t.sn.tm, .int .i64 t.sn.sm, .int .i64 t.sn.lv, .bool t.sn.fn, .slice A n c, .int .i64 t.tm, .int .i64 t.vt]] w1 (fun e w' => (∃ b, MayIs t b ∧ e = .returned (.bool b)) ∧ Below w1.heap.size w1 w') from rrightT_any t A n c w1 hS) ?_
  intro e w2 hh
  obtain ⟨⟨b, hb, rfl⟩, bb⟩ := hh
  (try clear hh)
  replace bz := bz.below bb
  replace hS := hS.on bb bb.size
  replace hD := hD.on bb bb.size
  have B2 := B1.trans (bb.mono B1.size)
  clear bb B1
  obtain rfl := hb.same (mayYes HM.out)
  clear hb
  obtain ⟨k0, k1, k2, k3, k4, k5, k6, k7⟩ := bz.cells
  go_wp2_with fail
  clear k0 k1 k2 k3 k4 k5 k6 k7
  refine Calls.mono (wakes12 D w2) ?_
  rintro e w3 ⟨rfl, bb⟩
  replace bz := bz.below bb
  replace hS := hS.on bb bb.size
  replace hD := hD.on bb bb.size
  have B3 := B2.trans (bb.mono B2.size)
  clear bb B2
  go_wp2_with fail
  go_ret
  exact ⟨rfl, B3⟩
set_option maxRecDepth 100000 in
set_option maxHeartbeats 32000000 in
theorem right_loop12 (D : Dev12) (t : TupP) (ds : List DeedP) (A Ad : Option Addr) (n c nd cd : Nat) (w : World) (hS : Es w w.heap.size A n t.lg) (hnc : n ≤ c) (hD : Ds w w.heap.size Ad nd ds) (hM : MayT t) (hg : ¬ 30 < nd) :
    Calls Try.prog 4 #[tupV t (.slice A n c), .slice Ad nd cd] w fun e w' => e = .returned (.bool true) ∧ Below w.heap.size w w' := by
  have q0 : decide ((30 : Int) < (nd : Int)) = false := decide_eq_false (by omega)
  have q0b : decide (30 < nd) = false := decide_eq_false hg
  have HS0 := Lib.hid (⟨hS, hD⟩ : _ ∧ _)
  have HM := Lib.hid hM
  clear hM
  obtain ⟨z1, hz1⟩ : ∃ z, z = w.heap.size := ⟨_, rfl⟩
  obtain ⟨w1, hw1⟩ : ∃ x, x = w.alloc (.cells #[.int .i64 t.sn.ix, .int .i64 t.sn.tm, .int .i64 t.sn.sm, .int .i64 t.sn.lv, .bool t.sn.fn, .slice A n c, .int .i64 t.tm, .int .i64 t.vt] 26) := ⟨_, rfl⟩
  have bb : Below w.heap.size w w1 := by rw [hw1]; exact below_al (below_d0 _) _
  have bz : BoxU w1 z1 t (.slice A n c) := by rw [hw1, hz1]; exact BoxU.new w t _
  replace hS := hS.on bb bb.size
  replace hD := hD.on bb bb.size
  have B1 := bb
  clear bb
  have HE := Lib.hid (⟨hw1, hz1⟩ : _ ∧ _)
  have HZ1 := Lib.hid (show w.heap.size ≤ z1 by omega)
  clear hw1 hz1
  unfold tupV
  go_enter Try.func4, Try.ntmps4
  go_wp2_with fail
  rw [← HE.out.1, ← HE.out.2]
  clear HE
  refine Calls.mono (show Calls Try.prog 28 #[.agg #[.int .i64 t.sn.ix, .int .i64 t.sn.tm, .int .i64 t.sn.sm, .int .i64 t.sn.lv, .bool t.sn.fn, .slice A n c, .int .i64 t.tm, .int .i64 t.vt]] w1 (fun e w' => (∃ b, MayIs t b ∧ e = .returned (.bool b)) ∧ Below w1.heap.size w1 w') from rrightT_any t A n c w1 hS) ?_
  intro e w2 hh
  obtain ⟨⟨b, hb, rfl⟩, bb⟩ := hh
  (try clear hh)
  replace bz := bz.below bb
  replace hS := hS.on bb bb.size
  replace hD := hD.on bb bb.size
  have B2 := B1.trans (bb.mono B1.size)
  clear bb B1
  obtain rfl := hb.same (mayYes HM.out)
  clear hb
  obtain ⟨k0, k1, k2, k3, k4, k5, k6, k7⟩ := bz.cells
  go_wp2_with fail
  clear k0 k1 k2 k3 k4 k5 k6 k7
  clear q0 q0b
  have HZ0 := Lib.hid (⟨bz, B2⟩ : _ ∧ _)
  clear bz hS hD B2
  go_loopw [5] (fun v wr => ∃ (k : Nat) (T : TupP) (A1 : Option Addr) (n1 c1 : Nat), k ≤ nd ∧ v = .int .i64 k ∧ BoxU wr z1 T (.slice A1 n1 c1) ∧ MayT T ∧ n1 ≤ c1 ∧ RowT w wr A1 n1 c1 T.lg ∧ Below w.heap.size w wr) (fun v _ => nd - (intOf v).toNat)
  case atStart => exact ⟨0, t, A, n, c, Nat.zero_le _, rfl, HZ0.out.1, HM.out, hnc, .inl HS0.out.1, HZ0.out.2⟩
  obtain ⟨k, T, A1, n1, c1, hk, rfl, bz, hMT, hnc1, hRT, hB⟩ := hrel
  have HR := Lib.hid (⟨hMT, hRT, hB⟩ : _ ∧ _ ∧ _)
  have hS := hRT.es hB
  have hD := HS0.out.2.on hB hB.size
  clear hMT hRT hB
  by_cases hlt : k < nd
  · obtain ⟨b, off, d, hA, hb, hd, hok, d0, d1, d2, d3, d4, d5, d6, d7, d8, d9⟩ := hD.at_ hlt
    subst hA
    have hki : (0 : Int) ≤ (k : Int) ∧ (k : Int) < (nd : Int) := by omega
    by_cases h20 : 20 < d.n
    · have q1 : decide ((20 : Int) < (d.n : Int)) = true := decide_eq_true (by omega)
      have q1b : decide (20 < d.n) = true := decide_eq_true h20
      obtain ⟨k0, k1, k2, k3, k4, k5, k6, k7⟩ := bz.cells
      go_wp2_with fail
      clear k0 k1 k2 k3 k4 k5 k6 k7
      refine Calls.mono (wakes12 D wr) ?_
      rintro e w1 ⟨rfl, bb⟩
      have B1 := HR.out.2.2.trans (bb.mono HR.out.2.2.size)
      go_wp2_with fail
      go_ret
      exact ⟨rfl, B1⟩
    have q1 : decide ((20 : Int) < (d.n : Int)) = false := decide_eq_false (by omega)
    have q1b : decide (20 < d.n) = false := decide_eq_false h20
    obtain ⟨k0, k1, k2, k3, k4, k5, k6, k7⟩ := bz.cells
    go_upto_region 8 with fail
    clear k0 k1 k2 k3 k4 k5 k6 k7
    clear q1 q1b
    have hn1 : n1 ≤ 200 := by have h1 := hS.len; have h2 := HR.out.1.few; omega
    have HDC := Lib.hid (fun (Y : World) (hY : Below wr.heap.size wr Y) => (⟨(bz.below hY).cells, (hY.cell (p := ⟨b, off + k * 10, none⟩) hb).trans d0, (hY.cell (p := ⟨b, off + k * 10 + 1, none⟩) hb).trans d1, (hY.cell (p := ⟨b, off + k * 10 + 2, none⟩) hb).trans d2, (hY.cell (p := ⟨b, off + k * 10 + 3, none⟩) hb).trans d3, (hY.cell (p := ⟨b, off + k * 10 + 4, none⟩) hb).trans d4, (hY.cell (p := ⟨b, off + k * 10 + 5, none⟩) hb).trans d5, (hY.cell (p := ⟨b, off + k * 10 + 6, none⟩) hb).trans d6, (hY.cell (p := ⟨b, off + k * 10 + 7, none⟩) hb).trans d7, (hY.cell (p := ⟨b, off + k * 10 + 8, none⟩) hb).trans d8, (hY.cell (p := ⟨b, off + k * 10 + 9, none⟩) hb).trans d9⟩ : _ ∧ _ ∧ _ ∧ _ ∧ _ ∧ _ ∧ _ ∧ _ ∧ _ ∧ _ ∧ _))
    have HOK := Lib.hid hok
    have hbl := bz.lt
    clear d0 d1 d2 d3 d4 d5 d6 d7 d8 d9 hb hd hok
    refine wp_region_held_drew (S := (fun X => Below wr.heap.size wr X)) (by kernel_rfl) ((Below.refl _ _).drew) (fun hHeld => ?_)
    refine take_at (i := 0) (d := 32) (oi := ?o1) (v := ?v1) ?hi1 ?hd1 (by kernel_rfl) (by kernel_rfl) (by kernel_rfl) ?hw1 ?hy1 ?hq1 (by assumption) ?r1
    case hi1 => (simp only [List.getElem?_toArray, List.getElem?_cons_zero]; rfl)
    case hd1 => rfl
    case hw1 => rfl
    case hy1 => ((intro w hSw; (try dsimp only at hSw); obtain ⟨⟨s0, s1, s2, s3, s4, s5, s6, s7⟩, d0, d1, d2, d3, d4, d5, d6, d7, d8, d9⟩ := HDC.out w hSw; go_simp) <;> (with_reducible rfl))
    case hq1 => exact fun _ _ _ h => h
    simp only [List.set_cons_succ, List.set_cons_zero]
    refine take_at (i := 1) (d := 33) (oi := ?o2) (v := ?v2) ?hi2 ?hd2 (by kernel_rfl) (by kernel_rfl) (by kernel_rfl) ?hw2 ?hy2 ?hq2 (by assumption) ?r2
    case hi2 => (simp only [List.getElem?_toArray, List.getElem?_cons_succ, List.getElem?_cons_zero]; rfl)
    case hd2 => rfl
    case hw2 => rfl
    case hy2 => ((intro w hSw; (try dsimp only at hSw); obtain ⟨⟨s0, s1, s2, s3, s4, s5, s6, s7⟩, d0, d1, d2, d3, d4, d5, d6, d7, d8, d9⟩ := HDC.out w hSw; go_simp) <;> (with_reducible rfl))
    case hq2 => exact fun _ _ _ h => h
    simp only [List.set_cons_succ, List.set_cons_zero]
    refine take_at (i := 2) (d := 34) (oi := ?o3) (v := ?v3) ?hi3 ?hd3 (by kernel_rfl) (by kernel_rfl) (by kernel_rfl) ?hw3 ?hy3 ?hq3 (by assumption) ?r3
    case hi3 => (simp only [List.getElem?_toArray, List.getElem?_cons_succ, List.getElem?_cons_zero]; rfl)
    case hd3 => rfl
    case hw3 => rfl
    case hy3 => ((intro w hSw; (try dsimp only at hSw); obtain ⟨⟨s0, s1, s2, s3, s4, s5, s6, s7⟩, d0, d1, d2, d3, d4, d5, d6, d7, d8, d9⟩ := HDC.out w hSw; go_simp) <;> (with_reducible rfl))
    case hq3 => exact fun _ _ _ h => h
    simp only [List.set_cons_succ, List.set_cons_zero]
    refine take_at (i := 3) (d := 35) (oi := ?o4) (v := ?v4) ?hi4 ?hd4 (by kernel_rfl) (by kernel_rfl) (by kernel_rfl) ?hw4 ?hy4 ?hq4 (by assumption) ?r4
    case hi4 => (simp only [List.getElem?_toArray, List.getElem?_cons_succ, List.getElem?_cons_zero]; rfl)
    case hd4 => rfl
    case hw4 => rfl
    case hy4 => ((intro w hSw; (try dsimp only at hSw); obtain ⟨⟨s0, s1, s2, s3, s4, s5, s6, s7⟩, d0, d1, d2, d3, d4, d5, d6, d7, d8, d9⟩ := HDC.out w hSw; go_simp) <;> (with_reducible rfl))
    case hq4 => exact fun _ _ _ h => h
    simp only [List.set_cons_succ, List.set_cons_zero]
    refine take_at (i := 4) (d := 36) (oi := ?o5) (v := ?v5) ?hi5 ?hd5 (by kernel_rfl) (by kernel_rfl) (by kernel_rfl) ?hw5 ?hy5 ?hq5 (by assumption) ?r5
    case hi5 => (simp only [List.getElem?_toArray, List.getElem?_cons_succ, List.getElem?_cons_zero]; rfl)
    case hd5 => rfl
    case hw5 => rfl
    case hy5 => ((intro w hSw; (try dsimp only at hSw); obtain ⟨⟨s0, s1, s2, s3, s4, s5, s6, s7⟩, d0, d1, d2, d3, d4, d5, d6, d7, d8, d9⟩ := HDC.out w hSw; go_simp) <;> (with_reducible rfl))
    case hq5 => exact fun _ _ _ h => h
    simp only [List.set_cons_succ, List.set_cons_zero]
    refine name_lst12 (l' := #[true, true, true, true, true, false, false, false, false, false, false, false]) (by kernel_rfl) ?_
    refine join5 (d1 := 37) (d2 := 6) (d3 := 31) (d4 := 38) (d5 := 39) (L := [5, 6, 7, 8, 9]) (fuel' := 2) (fun v1 v2 v3 v4 v5 W' => ∃ (o : TupP) (er : Int) (A9 : Option Addr) (n9 c9 zq : Nat), v1 = .tuple #[.agg #[.int .i64 o.sn.ix, .int .i64 o.sn.tm, .int .i64 o.sn.sm, .int .i64 o.sn.lv, .bool o.sn.fn, .slice A9 n9 c9, .int .i64 o.tm, .int .i64 o.vt], .int .i64 er] ∧ v2 = .pointer (some ⟨zq, 0, none⟩) ∧ v3 = .tuple #[.agg #[.int .i64 o.sn.ix, .int .i64 o.sn.tm, .int .i64 o.sn.sm, .int .i64 o.sn.lv, .bool o.sn.fn, .slice A9 n9 c9, .int .i64 o.tm, .int .i64 o.vt], .int .i64 er] ∧ v4 = .agg #[.int .i64 o.sn.ix, .int .i64 o.sn.tm, .int .i64 o.sn.sm, .int .i64 o.sn.lv, .bool o.sn.fn, .slice A9 n9 c9, .int .i64 o.tm, .int .i64 o.vt] ∧ v5 = .int .i64 er ∧ DoesIs T d o er ∧ n9 ≤ c9 ∧ RowD W' wr.heap.size A9 n9 c9 o.lg A1 n1 c1 T.lg ∧ BoxU W' zq noneT (.slice none 0 0) ∧ wr.heap.size ≤ zq ∧ Below wr.heap.size wr W') ?rest ?first
    case first =>
      intro H
      have kbn : Below wr.heap.size wr wr.drew := (Below.refl _ _).drew
      refine wpAnyH_ready (rs := [5, 9]) (by kernel_rfl) (by simp) ?_
      refine two_ready ?_ ?_
      · refine br_call (i := 5) (d := 37) (oi := ?o6) (f := ?f6) (args := ?a6) ?hi6 ?hd6 ?hw6 ?he6 ?hc6
        case hi6 => (simp only [List.getElem?_toArray, List.getElem?_cons_succ, List.getElem?_cons_zero]; rfl)
        case hd6 => rfl
        case hw6 => rfl
        case he6 => (go_simp; constructor <;> with_reducible rfl)
        refine Calls.mono (show Calls Try.prog 35 #[.agg #[.int .i64 T.sn.ix, .int .i64 T.sn.tm, .int .i64 T.sn.sm, .int .i64 T.sn.lv, .bool T.sn.fn, .slice A1 n1 c1, .int .i64 T.tm, .int .i64 T.vt], .agg #[.int .u8 d.what, .slice d.A d.n d.c, .int .i64 d.at_, .int .i64 d.s.ix, .int .i64 d.s.tm, .int .i64 d.s.sm, .int .i64 d.s.lv, .bool d.s.fn, .int .i64 d.tm, .int .i64 d.vt]] wr.drew (OutD T d A1 n1 c1 wr.drew) from does_any D T d A1 n1 c1 wr.drew (hS.on kbn kbn.size) hnc1 HR.out.1 (HOK.out.on kbn kbn.size) (by omega)) ?_
        rintro e y1 ⟨⟨o, er, A9, n9, c9, rfl, hDI, hnc9, hRD⟩, hb⟩
        unfold tupV
        replace hRD := hRD.low kbn.size
        replace kbn := below_on kbn hb
        refine ⟨_, rfl, kbn, fun hHeld => ?_⟩
        simp only [List.set_cons_succ, List.set_cons_zero]
        clear hb
        refine take_at (i := 6) (d := 31) (oi := ?o7) (v := ?v7) ?hi7 ?hd7 (by kernel_rfl) (by kernel_rfl) (by kernel_rfl) ?hw7 ?hy7 ?hq7 (by assumption) ?r7
        case hi7 => (simp only [List.getElem?_toArray, List.getElem?_cons_succ, List.getElem?_cons_zero]; rfl)
        case hd7 => rfl
        case hw7 => rfl
        case hy7 => ((intro w hSw; (try dsimp only at hSw); obtain ⟨⟨s0, s1, s2, s3, s4, s5, s6, s7⟩, d0, d1, d2, d3, d4, d5, d6, d7, d8, d9⟩ := HDC.out w hSw; go_simp) <;> (with_reducible rfl))
        case hq7 => exact fun _ _ _ h => h
        simp only [List.set_cons_succ, List.set_cons_zero]
        refine take_at (i := 7) (d := 38) (oi := ?o8) (v := ?v8) ?hi8 ?hd8 (by kernel_rfl) (by kernel_rfl) (by kernel_rfl) ?hw8 ?hy8 ?hq8 (by assumption) ?r8
        case hi8 => (simp only [List.getElem?_toArray, List.getElem?_cons_succ, List.getElem?_cons_zero]; rfl)
        case hd8 => rfl
        case hw8 => rfl
        case hy8 => ((intro w hSw; (try dsimp only at hSw); obtain ⟨⟨s0, s1, s2, s3, s4, s5, s6, s7⟩, d0, d1, d2, d3, d4, d5, d6, d7, d8, d9⟩ := HDC.out w hSw; go_simp) <;> (with_reducible rfl))
        case hq8 => exact fun _ _ _ h => h
        simp only [List.set_cons_succ, List.set_cons_zero]
        refine take_at (i := 8) (d := 39) (oi := ?o9) (v := ?v9) ?hi9 ?hd9 (by kernel_rfl) (by kernel_rfl) (by kernel_rfl) ?hw9 ?hy9 ?hq9 (by assumption) ?r9
        case hi9 => (simp only [List.getElem?_toArray, List.getElem?_cons_succ, List.getElem?_cons_zero]; rfl)
        case hd9 => rfl
        case hw9 => rfl
        case hy9 => ((intro w hSw; (try dsimp only at hSw); obtain ⟨⟨s0, s1, s2, s3, s4, s5, s6, s7⟩, d0, d1, d2, d3, d4, d5, d6, d7, d8, d9⟩ := HDC.out w hSw; go_simp) <;> (with_reducible rfl))
        case hq9 => exact fun _ _ _ h => h
        simp only [List.set_cons_succ, List.set_cons_zero]
        refine wpAnyH_ready (rs := [9]) (by kernel_rfl) (by simp) ?_
        obtain ⟨g7, hg7⟩ : ∃ z, z = y1.heap.size := ⟨_, rfl⟩
        obtain ⟨y2, hWn⟩ : ∃ x, x = y1.alloc (.cells #[.int .i64 0, .int .i64 0, .int .i64 0, .int .i64 0, .bool false, .slice none 0 0, .int .i64 0, .int .i64 0] 26) := ⟨_, rfl⟩
        have hb : Below y1.heap.size y1 y2 := by rw [hWn]; exact below_al (below_d0 _) _
        have bz : BoxU y2 g7 noneT (.slice none 0 0) := by rw [hWn, hg7]; exact BoxU.new y1 noneT _
        have lz : wr.heap.size ≤ g7 := by rw [hg7]; exact kbn.size
        replace kbn := below_on kbn hb
        replace hRD := hRD.keep hb
        refine br_val (i := 9) (d := 6) (oi := ?o10) (v := .pointer (some ⟨g7, 0, none⟩)) (w' := y2) ?hi10 ?hd10 ?hw10 ?he10 kbn ?hc10
        case hi10 => (simp only [List.getElem?_toArray, List.getElem?_cons_succ, List.getElem?_cons_zero]; rfl)
        case hd10 => rfl
        case hw10 => rfl
        case he10 => (rw [hWn, hg7]; go_simp <;> with_reducible rfl)
        intro hHeld
        simp only [List.set_cons_succ, List.set_cons_zero]
        clear hWn hg7 hb
        have HH := H _ _ _ _ _ _ ⟨_, _, _, _, _, _, rfl, rfl, rfl, rfl, rfl, hDI, hnc9, hRD, bz, lz, kbn⟩ hHeld
        simp only [List.set_cons_succ, List.set_cons_zero] at HH
        exact name_lst12 (l' := [5, 6, 7, 8, 9].foldl (fun l i => l.setIfInBounds i true) #[true, true, true, true, true, false, false, false, false, false, false, false]) (by kernel_rfl) HH
      obtain ⟨g7, hg7⟩ : ∃ z, z = wr.drew.heap.size := ⟨_, rfl⟩
      obtain ⟨y3, hWn⟩ : ∃ x, x = wr.drew.alloc (.cells #[.int .i64 0, .int .i64 0, .int .i64 0, .int .i64 0, .bool false, .slice none 0 0, .int .i64 0, .int .i64 0] 26) := ⟨_, rfl⟩
      have hb : Below wr.drew.heap.size wr.drew y3 := by rw [hWn]; exact below_al (below_d0 _) _
      have bz : BoxU y3 g7 noneT (.slice none 0 0) := by rw [hWn, hg7]; exact BoxU.new wr.drew noneT _
      have lz : wr.heap.size ≤ g7 := by rw [hg7]; exact kbn.size
      replace kbn := below_on kbn hb
      refine br_val (i := 9) (d := 6) (oi := ?o11) (v := .pointer (some ⟨g7, 0, none⟩)) (w' := y3) ?hi11 ?hd11 ?hw11 ?he11 kbn ?hc11
      case hi11 => (simp only [List.getElem?_toArray, List.getElem?_cons_succ, List.getElem?_cons_zero]; rfl)
      case hd11 => rfl
      case hw11 => rfl
      case he11 => (rw [hWn, hg7]; go_simp <;> with_reducible rfl)
      intro hHeld
      simp only [List.set_cons_succ, List.set_cons_zero]
      clear hWn hg7 hb
      refine wpAnyH_ready (rs := [5]) (by kernel_rfl) (by simp) ?_
      refine br_call (i := 5) (d := 37) (oi := ?o12) (f := ?f12) (args := ?a12) ?hi12 ?hd12 ?hw12 ?he12 ?hc12
      case hi12 => (simp only [List.getElem?_toArray, List.getElem?_cons_succ, List.getElem?_cons_zero]; rfl)
      case hd12 => rfl
      case hw12 => rfl
      case he12 => (go_simp; constructor <;> with_reducible rfl)
      refine Calls.mono (show Calls Try.prog 35 #[.agg #[.int .i64 T.sn.ix, .int .i64 T.sn.tm, .int .i64 T.sn.sm, .int .i64 T.sn.lv, .bool T.sn.fn, .slice A1 n1 c1, .int .i64 T.tm, .int .i64 T.vt], .agg #[.int .u8 d.what, .slice d.A d.n d.c, .int .i64 d.at_, .int .i64 d.s.ix, .int .i64 d.s.tm, .int .i64 d.s.sm, .int .i64 d.s.lv, .bool d.s.fn, .int .i64 d.tm, .int .i64 d.vt]] y3 (OutD T d A1 n1 c1 y3) from does_any D T d A1 n1 c1 y3 (hS.on kbn kbn.size) hnc1 HR.out.1 (HOK.out.on kbn kbn.size) (by omega)) ?_
      rintro e y4 ⟨⟨o, er, A9, n9, c9, rfl, hDI, hnc9, hRD⟩, hb⟩
      unfold tupV
      replace hRD := hRD.low kbn.size
      replace kbn := below_on kbn hb
      replace bz := bz.below hb
      refine ⟨_, rfl, kbn, fun hHeld => ?_⟩
      simp only [List.set_cons_succ, List.set_cons_zero]
      clear hb
      refine take_at (i := 6) (d := 31) (oi := ?o13) (v := ?v13) ?hi13 ?hd13 (by kernel_rfl) (by kernel_rfl) (by kernel_rfl) ?hw13 ?hy13 ?hq13 (by assumption) ?r13
      case hi13 => (simp only [List.getElem?_toArray, List.getElem?_cons_succ, List.getElem?_cons_zero]; rfl)
      case hd13 => rfl
      case hw13 => rfl
      case hy13 => ((intro w hSw; (try dsimp only at hSw); obtain ⟨⟨s0, s1, s2, s3, s4, s5, s6, s7⟩, d0, d1, d2, d3, d4, d5, d6, d7, d8, d9⟩ := HDC.out w hSw; go_simp) <;> (with_reducible rfl))
      case hq13 => exact fun _ _ _ h => h
      simp only [List.set_cons_succ, List.set_cons_zero]
      refine take_at (i := 7) (d := 38) (oi := ?o14) (v := ?v14) ?hi14 ?hd14 (by kernel_rfl) (by kernel_rfl) (by kernel_rfl) ?hw14 ?hy14 ?hq14 (by assumption) ?r14
      case hi14 => (simp only [List.getElem?_toArray, List.getElem?_cons_succ, List.getElem?_cons_zero]; rfl)
      case hd14 => rfl
      case hw14 => rfl
      case hy14 => ((intro w hSw; (try dsimp only at hSw); obtain ⟨⟨s0, s1, s2, s3, s4, s5, s6, s7⟩, d0, d1, d2, d3, d4, d5, d6, d7, d8, d9⟩ := HDC.out w hSw; go_simp) <;> (with_reducible rfl))
      case hq14 => exact fun _ _ _ h => h
      simp only [List.set_cons_succ, List.set_cons_zero]
      refine take_at (i := 8) (d := 39) (oi := ?o15) (v := ?v15) ?hi15 ?hd15 (by kernel_rfl) (by kernel_rfl) (by kernel_rfl) ?hw15 ?hy15 ?hq15 (by assumption) ?r15
      case hi15 => (simp only [List.getElem?_toArray, List.getElem?_cons_succ, List.getElem?_cons_zero]; rfl)
      case hd15 => rfl
      case hw15 => rfl
      case hy15 => ((intro w hSw; (try dsimp only at hSw); obtain ⟨⟨s0, s1, s2, s3, s4, s5, s6, s7⟩, d0, d1, d2, d3, d4, d5, d6, d7, d8, d9⟩ := HDC.out w hSw; go_simp) <;> (with_reducible rfl))
      case hq15 => exact fun _ _ _ h => h
      simp only [List.set_cons_succ, List.set_cons_zero]
      have HH := H _ _ _ _ _ _ ⟨_, _, _, _, _, _, rfl, rfl, rfl, rfl, rfl, hDI, hnc9, hRD, bz, lz, kbn⟩ hHeld
      simp only [List.set_cons_succ, List.set_cons_zero] at HH
      exact name_lst12 (l' := [5, 6, 7, 8, 9].foldl (fun l i => l.setIfInBounds i true) #[true, true, true, true, true, false, false, false, false, false, false, false]) (by kernel_rfl) HH
    case rest =>
      rintro v1 v2 v3 v4 v5 W' ⟨o, er, A9, n9, c9, zq, rfl, rfl, rfl, rfl, rfl, hDI, hnc9, hRD, bq, lz, kb⟩ hHeld
      simp only [List.set_cons_succ, List.set_cons_zero]
      have hG := does_good HR.out.1 hDI
      have hRT1 := HR.out.2.1.keep kb
      have hB1 := HR.out.2.2.trans (kb.mono HR.out.2.2.size)
      have hRO := hRD.row HR.out.2.2.size hRT1
      replace bz := bz.below kb
      obtain ⟨w5, hw5⟩ : ∃ x, x = putU W' zq o (.slice A9 n9 c9) := ⟨_, rfl⟩
      have ne : z1 ≠ zq := by omega
      have bz9 : BoxU w5 z1 T (.slice A1 n1 c1) := by rw [hw5]; exact putU_boxes bz ne
      have bo : BoxU w5 zq o (.slice A9 n9 c9) := by rw [hw5]; exact putU_box bq o _
      have hRO9 : RowT w w5 A9 n9 c9 o.lg := by rw [hw5]; exact hRO.put bq
      have hRT9 : RowT w w5 A1 n1 c1 T.lg := by rw [hw5]; exact hRT1.put bq
      have kb9 : Below wr.heap.size wr w5 := by rw [hw5]; exact putU_below lz o _ kb
      have B5 := HR.out.2.2.trans (kb9.mono HR.out.2.2.size)
      have e9 : w5 = ((((((((W'.setCell ⟨zq, 0, none⟩ (.int .i64 o.sn.ix)).setCell ⟨zq, 1, none⟩ (.int .i64 o.sn.tm)).setCell ⟨zq, 2, none⟩ (.int .i64 o.sn.sm)).setCell ⟨zq, 3, none⟩ (.int .i64 o.sn.lv)).setCell ⟨zq, 4, none⟩ (.bool o.sn.fn)).setCell ⟨zq, 5, none⟩ (.slice A9 n9 c9)).setCell ⟨zq, 6, none⟩ (.int .i64 o.tm)).setCell ⟨zq, 7, none⟩ (.int .i64 o.vt)) := hw5
      obtain ⟨g0, g1, g2, g3, g4, g5, g6, g7⟩ := bq.cells
      have f0 := bq.frozen 0
      have f1 := bq.frozen 1
      have f2 := bq.frozen 2
      have f3 := bq.frozen 3
      have f4 := bq.frozen 4
      have f5 := bq.frozen 5
      have f6 := bq.frozen 6
      have f7 := bq.frozen 7
      refine wpAnyH_ready (rs := [10]) (by kernel_rfl) (by simp) ?_
      refine br_store (i := 10) (oi := ?o16) (w' := w5) ?hi16 ?hd16 ?hw16 ?he16 kb9 ?hc16
      case hi16 => (simp only [List.getElem?_toArray, List.getElem?_cons_succ, List.getElem?_cons_zero]; rfl)
      case hd16 => rfl
      case hw16 => rfl
      case he16 => (rw [e9]; go_simp <;> with_reducible rfl)
      intro hHeld
      clear e9 g0 g1 g2 g3 g4 g5 g6 g7 f0 f1 f2 f3 f4 f5 f6 f7
      refine take_at (i := 11) (d := 7) (oi := ?o17) (v := ?v17) ?hi17 ?hd17 (by kernel_rfl) (by kernel_rfl) (by kernel_rfl) ?hw17 ?hy17 ?hq17 (by assumption) ?r17
      case hi17 => (simp only [List.getElem?_toArray, List.getElem?_cons_succ, List.getElem?_cons_zero]; rfl)
      case hd17 => rfl
      case hw17 => rfl
      case hy17 => ((intro w hSw; (try dsimp only at hSw); obtain ⟨⟨s0, s1, s2, s3, s4, s5, s6, s7⟩, d0, d1, d2, d3, d4, d5, d6, d7, d8, d9⟩ := HDC.out w hSw; go_simp) <;> (with_reducible rfl))
      case hq17 => exact fun _ _ _ h => h
      simp only [List.set_cons_succ, List.set_cons_zero]
      refine wpAnyH_done (by kernel_rfl) ?_ _
      clear hHeld hw5 bq bz hDI hRD kb lz HDC hRT1 hB1 hRO hS hD hbl kb9
      have bz := bz9
      have hST := hRT9.es B5
      have hSO := hRO9.es B5
      have hno : n9 ≤ 200 := by have h1 := hSO.len; have h2 := hG.may.few; omega
      have HG := Lib.hid hG
      have HRO := Lib.hid hRO9
      clear bz9 hRT9 hRO9 hG
      obtain ⟨j0, j1, j2, j3, j4, j5, j6, j7⟩ := bo.cells
      go_wp2_with fail
      clear j0 j1 j2 j3 j4 j5 j6 j7
      refine Calls.mono (show Calls Try.prog 28 #[.agg #[.int .i64 o.sn.ix, .int .i64 o.sn.tm, .int .i64 o.sn.sm, .int .i64 o.sn.lv, .bool o.sn.fn, .slice A9 n9 c9, .int .i64 o.tm, .int .i64 o.vt]] w5 (fun e w' => (∃ b, MayIs o b ∧ e = .returned (.bool b)) ∧ Below w5.heap.size w5 w') from rrightT_any o A9 n9 c9 w5 hSO) ?_
      intro e w6 hh
      obtain ⟨⟨b, hb, rfl⟩, bb⟩ := hh
      (try clear hh)
      replace bz := bz.below bb
      replace bo := bo.below bb
      replace hST := hST.on bb bb.size
      replace hSO := hSO.on bb bb.size
      have B6 := B5.trans (bb.mono B5.size)
      have KB6 : Below w5.heap.size w5 w6 := bb
      clear bb
      clear B5
      obtain rfl := hb.same (mayYes HG.out.may)
      clear hb
      have g1 : decide (o.tm < T.tm) = false := decide_eq_false (by have := HG.out.tm; omega)
      have g2 : decide (o.sn.ix < T.sn.ix) = false := decide_eq_false (by have := HG.out.ix; omega)
      have hcase : ((o.tm == T.tm) = false) ∨ ((o.tm == T.tm) = true ∧ decide ((0 : Int) < T.vt) = false) ∨ ((o.tm == T.tm) = true ∧ decide ((0 : Int) < T.vt) = true ∧ (o.vt != T.vt) = false) := by
        by_cases e1 : o.tm = T.tm
        · by_cases e2 : 0 < T.vt
          · exact .inr (.inr ⟨by simpa using e1, decide_eq_true e2, by simpa using HG.out.vt e1 e2⟩)
          · exact .inr (.inl ⟨by simpa using e1, decide_eq_false e2⟩)
        · exact .inl (by simpa using e1)
      rcases HG.out.or with rfl | ⟨rfl, hoT⟩
      · skip
        rcases hcase with h1 | ⟨h1, h2⟩ | ⟨h1, h2, h3⟩
        · have hbk : Below w5.heap.size w5 w6 := KB6
          obtain ⟨g0, g1, g2, g3, g4, g5, g6, g7⟩ := bz.cells
          have f0 := bz.frozen 0
          have f1 := bz.frozen 1
          have f2 := bz.frozen 2
          have f3 := bz.frozen 3
          have f4 := bz.frozen 4
          have f5 := bz.frozen 5
          have f6 := bz.frozen 6
          have f7 := bz.frozen 7
          obtain ⟨j0, j1, j2, j3, j4, j5, j6, j7⟩ := bo.cells
          go_wp2_with fail
          clear j0 j1 j2 j3 j4 j5 j6 j7
          obtain ⟨w7, hw7⟩ : ∃ x, x = putU w6 z1 o (.slice A9 n9 c9) := ⟨_, rfl⟩
          have e9 : w7 = ((((((((w6.setCell ⟨z1, 0, none⟩ (.int .i64 o.sn.ix)).setCell ⟨z1, 1, none⟩ (.int .i64 o.sn.tm)).setCell ⟨z1, 2, none⟩ (.int .i64 o.sn.sm)).setCell ⟨z1, 3, none⟩ (.int .i64 o.sn.lv)).setCell ⟨z1, 4, none⟩ (.bool o.sn.fn)).setCell ⟨z1, 5, none⟩ (.slice A9 n9 c9)).setCell ⟨z1, 6, none⟩ (.int .i64 o.tm)).setCell ⟨z1, 7, none⟩ (.int .i64 o.vt)) := hw7
          rw [← e9]
          clear e9 g0 g1 g2 g3 g4 g5 g6 g7 f0 f1 f2 f3 f4 f5 f6 f7
          have bz9 : BoxU w7 z1 o (.slice A9 n9 c9) := by rw [hw7]; exact putU_box bz o _
          have hR9 : RowT w w7 A9 n9 c9 o.lg := by rw [hw7]; exact (HRO.out.keep hbk).put bz
          have B7 : Below w.heap.size w w7 := by rw [hw7]; exact putU_below HZ1.out o _ B6
          go_roundw
          case rel => exact ⟨k + 1, o, A9, n9, c9, by omega, by go_num, bz9, HG.out.may, hnc9, hR9, B7⟩
          case measure => simp [intOf]; omega
        · have hbk : Below w5.heap.size w5 w6 := KB6
          obtain ⟨g0, g1, g2, g3, g4, g5, g6, g7⟩ := bz.cells
          have f0 := bz.frozen 0
          have f1 := bz.frozen 1
          have f2 := bz.frozen 2
          have f3 := bz.frozen 3
          have f4 := bz.frozen 4
          have f5 := bz.frozen 5
          have f6 := bz.frozen 6
          have f7 := bz.frozen 7
          obtain ⟨j0, j1, j2, j3, j4, j5, j6, j7⟩ := bo.cells
          go_wp2_with fail
          clear j0 j1 j2 j3 j4 j5 j6 j7
          obtain ⟨w7, hw7⟩ : ∃ x, x = putU w6 z1 o (.slice A9 n9 c9) := ⟨_, rfl⟩
          have e9 : w7 = ((((((((w6.setCell ⟨z1, 0, none⟩ (.int .i64 o.sn.ix)).setCell ⟨z1, 1, none⟩ (.int .i64 o.sn.tm)).setCell ⟨z1, 2, none⟩ (.int .i64 o.sn.sm)).setCell ⟨z1, 3, none⟩ (.int .i64 o.sn.lv)).setCell ⟨z1, 4, none⟩ (.bool o.sn.fn)).setCell ⟨z1, 5, none⟩ (.slice A9 n9 c9)).setCell ⟨z1, 6, none⟩ (.int .i64 o.tm)).setCell ⟨z1, 7, none⟩ (.int .i64 o.vt)) := hw7
          rw [← e9]
          clear e9 g0 g1 g2 g3 g4 g5 g6 g7 f0 f1 f2 f3 f4 f5 f6 f7
          have bz9 : BoxU w7 z1 o (.slice A9 n9 c9) := by rw [hw7]; exact putU_box bz o _
          have hR9 : RowT w w7 A9 n9 c9 o.lg := by rw [hw7]; exact (HRO.out.keep hbk).put bz
          have B7 : Below w.heap.size w w7 := by rw [hw7]; exact putU_below HZ1.out o _ B6
          go_roundw
          case rel => exact ⟨k + 1, o, A9, n9, c9, by omega, by go_num, bz9, HG.out.may, hnc9, hR9, B7⟩
          case measure => simp [intOf]; omega
        · have hbk : Below w5.heap.size w5 w6 := KB6
          obtain ⟨g0, g1, g2, g3, g4, g5, g6, g7⟩ := bz.cells
          have f0 := bz.frozen 0
          have f1 := bz.frozen 1
          have f2 := bz.frozen 2
          have f3 := bz.frozen 3
          have f4 := bz.frozen 4
          have f5 := bz.frozen 5
          have f6 := bz.frozen 6
          have f7 := bz.frozen 7
          obtain ⟨j0, j1, j2, j3, j4, j5, j6, j7⟩ := bo.cells
          go_wp2_with fail
          clear j0 j1 j2 j3 j4 j5 j6 j7
          obtain ⟨w7, hw7⟩ : ∃ x, x = putU w6 z1 o (.slice A9 n9 c9) := ⟨_, rfl⟩
          have e9 : w7 = ((((((((w6.setCell ⟨z1, 0, none⟩ (.int .i64 o.sn.ix)).setCell ⟨z1, 1, none⟩ (.int .i64 o.sn.tm)).setCell ⟨z1, 2, none⟩ (.int .i64 o.sn.sm)).setCell ⟨z1, 3, none⟩ (.int .i64 o.sn.lv)).setCell ⟨z1, 4, none⟩ (.bool o.sn.fn)).setCell ⟨z1, 5, none⟩ (.slice A9 n9 c9)).setCell ⟨z1, 6, none⟩ (.int .i64 o.tm)).setCell ⟨z1, 7, none⟩ (.int .i64 o.vt)) := hw7
          rw [← e9]
          clear e9 g0 g1 g2 g3 g4 g5 g6 g7 f0 f1 f2 f3 f4 f5 f6 f7
          have bz9 : BoxU w7 z1 o (.slice A9 n9 c9) := by rw [hw7]; exact putU_box bz o _
          have hR9 : RowT w w7 A9 n9 c9 o.lg := by rw [hw7]; exact (HRO.out.keep hbk).put bz
          have B7 : Below w.heap.size w w7 := by rw [hw7]; exact putU_below HZ1.out o _ B6
          go_roundw
          case rel => exact ⟨k + 1, o, A9, n9, c9, by omega, by go_num, bz9, HG.out.may, hnc9, hR9, B7⟩
          case measure => simp [intOf]; omega
      · skip
        have HoT := Lib.hid hoT
        clear hoT
        obtain ⟨j0, j1, j2, j3, j4, j5, j6, j7⟩ := bo.cells
        obtain ⟨k0, k1, k2, k3, k4, k5, k6, k7⟩ := bz.cells
        go_wp2_with fail
        clear k0 k1 k2 k3 k4 k5 k6 k7
        clear j0 j1 j2 j3 j4 j5 j6 j7
        refine Calls.mono (show Calls Try.prog 14 #[.agg #[.int .i64 o.sn.ix, .int .i64 o.sn.tm, .int .i64 o.sn.sm, .int .i64 o.sn.lv, .bool o.sn.fn, .slice A9 n9 c9, .int .i64 o.tm, .int .i64 o.vt], .agg #[.int .i64 T.sn.ix, .int .i64 T.sn.tm, .int .i64 T.sn.sm, .int .i64 T.sn.lv, .bool T.sn.fn, .slice A1 n1 c1, .int .i64 T.tm, .int .i64 T.vt]] w6 (fun e w' => (∃ r, SameT o T r ∧ e = .returned (.bool r)) ∧ Below w6.heap.size w6 w') from rsameT_any o T A9 A1 n9 n1 c9 c1 w6 hSO hST (by omega) (by omega)) ?_
        intro e w7 hh
        obtain ⟨⟨r, hr, rfl⟩, bb⟩ := hh
        (try clear hh)
        replace bz := bz.below bb
        replace bo := bo.below bb
        replace hST := hST.on bb bb.size
        replace hSO := hSO.on bb bb.size
        have B7 := B6.trans (bb.mono B6.size)
        have KB7 : Below w5.heap.size w5 w7 := KB6.trans (bb.mono KB6.size)
        clear B6
        obtain rfl := hr.same (sameT_yes HoT.out)
        clear hr
        rcases hcase with h1 | ⟨h1, h2⟩ | ⟨h1, h2, h3⟩
        · have hbk : Below w5.heap.size w5 w7 := KB7
          obtain ⟨g0, g1, g2, g3, g4, g5, g6, g7⟩ := bz.cells
          have f0 := bz.frozen 0
          have f1 := bz.frozen 1
          have f2 := bz.frozen 2
          have f3 := bz.frozen 3
          have f4 := bz.frozen 4
          have f5 := bz.frozen 5
          have f6 := bz.frozen 6
          have f7 := bz.frozen 7
          obtain ⟨j0, j1, j2, j3, j4, j5, j6, j7⟩ := bo.cells
          go_wp2_with fail
          clear j0 j1 j2 j3 j4 j5 j6 j7
          obtain ⟨w8, hw8⟩ : ∃ x, x = putU w7 z1 o (.slice A9 n9 c9) := ⟨_, rfl⟩
          have e9 : w8 = ((((((((w7.setCell ⟨z1, 0, none⟩ (.int .i64 o.sn.ix)).setCell ⟨z1, 1, none⟩ (.int .i64 o.sn.tm)).setCell ⟨z1, 2, none⟩ (.int .i64 o.sn.sm)).setCell ⟨z1, 3, none⟩ (.int .i64 o.sn.lv)).setCell ⟨z1, 4, none⟩ (.bool o.sn.fn)).setCell ⟨z1, 5, none⟩ (.slice A9 n9 c9)).setCell ⟨z1, 6, none⟩ (.int .i64 o.tm)).setCell ⟨z1, 7, none⟩ (.int .i64 o.vt)) := hw8
          rw [← e9]
          clear e9 g0 g1 g2 g3 g4 g5 g6 g7 f0 f1 f2 f3 f4 f5 f6 f7
          have bz9 : BoxU w8 z1 o (.slice A9 n9 c9) := by rw [hw8]; exact putU_box bz o _
          have hR9 : RowT w w8 A9 n9 c9 o.lg := by rw [hw8]; exact (HRO.out.keep hbk).put bz
          have B8 : Below w.heap.size w w8 := by rw [hw8]; exact putU_below HZ1.out o _ B7
          go_roundw
          case rel => exact ⟨k + 1, o, A9, n9, c9, by omega, by go_num, bz9, HG.out.may, hnc9, hR9, B8⟩
          case measure => simp [intOf]; omega
        · have hbk : Below w5.heap.size w5 w7 := KB7
          obtain ⟨g0, g1, g2, g3, g4, g5, g6, g7⟩ := bz.cells
          have f0 := bz.frozen 0
          have f1 := bz.frozen 1
          have f2 := bz.frozen 2
          have f3 := bz.frozen 3
          have f4 := bz.frozen 4
          have f5 := bz.frozen 5
          have f6 := bz.frozen 6
          have f7 := bz.frozen 7
          obtain ⟨j0, j1, j2, j3, j4, j5, j6, j7⟩ := bo.cells
          go_wp2_with fail
          clear j0 j1 j2 j3 j4 j5 j6 j7
          obtain ⟨w8, hw8⟩ : ∃ x, x = putU w7 z1 o (.slice A9 n9 c9) := ⟨_, rfl⟩
          have e9 : w8 = ((((((((w7.setCell ⟨z1, 0, none⟩ (.int .i64 o.sn.ix)).setCell ⟨z1, 1, none⟩ (.int .i64 o.sn.tm)).setCell ⟨z1, 2, none⟩ (.int .i64 o.sn.sm)).setCell ⟨z1, 3, none⟩ (.int .i64 o.sn.lv)).setCell ⟨z1, 4, none⟩ (.bool o.sn.fn)).setCell ⟨z1, 5, none⟩ (.slice A9 n9 c9)).setCell ⟨z1, 6, none⟩ (.int .i64 o.tm)).setCell ⟨z1, 7, none⟩ (.int .i64 o.vt)) := hw8
          rw [← e9]
          clear e9 g0 g1 g2 g3 g4 g5 g6 g7 f0 f1 f2 f3 f4 f5 f6 f7
          have bz9 : BoxU w8 z1 o (.slice A9 n9 c9) := by rw [hw8]; exact putU_box bz o _
          have hR9 : RowT w w8 A9 n9 c9 o.lg := by rw [hw8]; exact (HRO.out.keep hbk).put bz
          have B8 : Below w.heap.size w w8 := by rw [hw8]; exact putU_below HZ1.out o _ B7
          go_roundw
          case rel => exact ⟨k + 1, o, A9, n9, c9, by omega, by go_num, bz9, HG.out.may, hnc9, hR9, B8⟩
          case measure => simp [intOf]; omega
        · have hbk : Below w5.heap.size w5 w7 := KB7
          obtain ⟨g0, g1, g2, g3, g4, g5, g6, g7⟩ := bz.cells
          have f0 := bz.frozen 0
          have f1 := bz.frozen 1
          have f2 := bz.frozen 2
          have f3 := bz.frozen 3
          have f4 := bz.frozen 4
          have f5 := bz.frozen 5
          have f6 := bz.frozen 6
          have f7 := bz.frozen 7
          obtain ⟨j0, j1, j2, j3, j4, j5, j6, j7⟩ := bo.cells
          go_wp2_with fail
          clear j0 j1 j2 j3 j4 j5 j6 j7
          obtain ⟨w8, hw8⟩ : ∃ x, x = putU w7 z1 o (.slice A9 n9 c9) := ⟨_, rfl⟩
          have e9 : w8 = ((((((((w7.setCell ⟨z1, 0, none⟩ (.int .i64 o.sn.ix)).setCell ⟨z1, 1, none⟩ (.int .i64 o.sn.tm)).setCell ⟨z1, 2, none⟩ (.int .i64 o.sn.sm)).setCell ⟨z1, 3, none⟩ (.int .i64 o.sn.lv)).setCell ⟨z1, 4, none⟩ (.bool o.sn.fn)).setCell ⟨z1, 5, none⟩ (.slice A9 n9 c9)).setCell ⟨z1, 6, none⟩ (.int .i64 o.tm)).setCell ⟨z1, 7, none⟩ (.int .i64 o.vt)) := hw8
          rw [← e9]
          clear e9 g0 g1 g2 g3 g4 g5 g6 g7 f0 f1 f2 f3 f4 f5 f6 f7
          have bz9 : BoxU w8 z1 o (.slice A9 n9 c9) := by rw [hw8]; exact putU_box bz o _
          have hR9 : RowT w w8 A9 n9 c9 o.lg := by rw [hw8]; exact (HRO.out.keep hbk).put bz
          have B8 : Below w.heap.size w w8 := by rw [hw8]; exact putU_below HZ1.out o _ B7
          go_roundw
          case rel => exact ⟨k + 1, o, A9, n9, c9, by omega, by go_num, bz9, HG.out.may, hnc9, hR9, B8⟩
          case measure => simp [intOf]; omega
  · obtain rfl : k = nd := by omega
    go_wp2_with fail
    refine Calls.mono (wakes12 D wr) ?_
    rintro e w1 ⟨rfl, bb⟩
    have B1 := HR.out.2.2.trans (bb.mono HR.out.2.2.size)
    go_wp2_with fail
    go_ret
    exact ⟨rfl, B1⟩
theorem right_all (D : Dev12) (t : TupP) (ds : List DeedP) (A Ad : Option Addr) (n c nd cd : Nat) (w : World) (hS : Es w w.heap.size A n t.lg) (hnc : n ≤ c) (hD : Ds w w.heap.size Ad nd ds) :
    Calls Try.prog 4 #[tupV t (.slice A n c), .slice Ad nd cd] w fun e w' => e = .returned (.bool true) ∧ Below w.heap.size w w' := by
  by_cases hM : MayT t
  case neg => exact right_no D t ds A Ad n c nd cd w hS hnc hD hM
  by_cases hg : 30 < nd
  · exact right_many D t ds A Ad n c nd cd w hS hnc hD hM hg
  · exact right_loop12 D t ds A Ad n c nd cd w hS hnc hD hM hg
end Go.Proofs.Ytbhnlmlaebngmaa
