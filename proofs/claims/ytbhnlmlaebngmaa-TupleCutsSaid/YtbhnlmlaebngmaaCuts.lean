/-
  TupleCuts: it returns true, whatever package tuple's contracts are proved by.
-/
import Derived.Test.YtbhnlmlaebngmaaTupL
import Derived.Deep.DeepCutAuto
namespace Go.Proofs.Ytbhnlmlaebngmaa
open Go.RowKit
set_option linter.unusedVariables false
set_option linter.unusedSimpArgs false

theorem cut_may {t : TupP} (h : MayT t) {k : Nat} (hk : k ≤ t.lg.length) : MayT { t with lg := t.lg.take k } := by
  have hr := h.rise
  rw [← List.take_append_drop k t.lg, rise_append] at hr
  have h1 := rise_last hr.2
  rw [← lastTm_append, List.take_append_drop] at h1
  exact ⟨h.fine, h.ix, by simp only [List.length_take]; have := h.few; omega, h.vt, fun e he => h.ents e (List.mem_of_mem_take he), hr.1, ⟨by simp only; have := h.tm.1; omega, h.tm.2⟩⟩
theorem cut_is {t : TupP} (h : MayT t) {k : Nat} (hk : k ≤ t.lg.length) : CutIs t (t.sn.ix + 1 + (k : Int)) { t with lg := t.lg.take k } 0 := by
  have hc : cutT t (t.sn.ix + 1 + (k : Int)) = { t with lg := t.lg.take k } := by
    unfold cutT
    rw [show (t.sn.ix + 1 + (k : Int) - t.sn.ix - 1).toNat = k by omega]
  refine .inl ⟨⟨by omega, by unfold lastT; omega⟩, h, ?_, hc.symm, rfl⟩
  rw [hc]
  exact cut_may h hk
theorem cut_not {t : TupP} {i : Int} (h : i ≤ t.sn.ix ∨ lastT t + 1 < i) : CutIs t i t 2 := .inr ⟨fun k => by have := k.1; omega, rfl, rfl⟩
theorem cut_back {t : TupP} (h : MayT t) {k : Nat} (hk : k ≤ t.lg.length) : AppendIs { t with lg := t.lg.take k } (t.lg.drop k) t 0 := by
  have hb : appendT { t with lg := t.lg.take k } (t.lg.drop k) = t := by
    unfold appendT
    simp only
    rw [List.take_append_drop]
  exact .inl ⟨trivial, cut_may h hk, by rw [hb]; exact h, hb.symm, rfl⟩
set_option maxRecDepth 100000 in
set_option maxHeartbeats 16000000 in
theorem cuts_no (D : Dev12) (t : TupP) (A : Option Addr) (n c : Nat) (at_ : Int) (w : World) (hS : Es w w.heap.size A n t.lg) (hnc : n ≤ c) (hM : ¬ MayT t) :
    Calls Try.prog 6 #[tupV t (.slice A n c), .int .i64 at_] w fun e w' => e = .returned (.bool true) ∧ Below w.heap.size w w' := by
  have HM := Lib.hid hM
  clear hM
  obtain ⟨z1, hz1⟩ : ∃ z, z = w.heap.size := ⟨_, rfl⟩
  obtain ⟨w1, hw1⟩ : ∃ x, x = w.alloc (.cells #[.int .i64 t.sn.ix, .int .i64 t.sn.tm, .int .i64 t.sn.sm, .int .i64 t.sn.lv, .bool t.sn.fn, .slice A n c, .int .i64 t.tm, .int .i64 t.vt] 26) := ⟨_, rfl⟩
  have bb : Below w.heap.size w w1 := by rw [hw1]; exact below_al (below_d0 _) _
  have bz : BoxU w1 z1 t (.slice A n c) := by rw [hw1, hz1]; exact BoxU.new w t _
  replace hS := hS.on bb bb.size
  have B1 := bb
  clear bb
  have HE := Lib.hid (⟨hw1, hz1⟩ : _ ∧ _)
  clear hw1 hz1
  unfold tupV
  go_enter Try.func6, Try.ntmps6
  go_wp2_with fail
  rw [← HE.out.1, ← HE.out.2]
  clear HE
  refine Calls.mono (show Calls Try.prog 28 #[.agg #[.int .i64 t.sn.ix, .int .i64 t.sn.tm, .int .i64 t.sn.sm, .int .i64 t.sn.lv, .bool t.sn.fn, .slice A n c, .int .i64 t.tm, .int .i64 t.vt]] w1 (fun e w' => (∃ b, MayIs t b ∧ e = .returned (.bool b)) ∧ Below w1.heap.size w1 w') from rrightT_any t A n c w1 hS) ?_
  intro e w2 hh
  obtain ⟨⟨b, hb, rfl⟩, bb⟩ := hh
  (try clear hh)
  replace bz := bz.below bb
  replace hS := hS.on bb bb.size
  have B2 := B1.trans (bb.mono B1.size)
  clear bb B1
  obtain rfl := hb.same (mayNo HM.out)
  clear hb
  obtain ⟨k0, k1, k2, k3, k4, k5, k6, k7⟩ := bz.cells
  go_wp2_with fail
  clear k0 k1 k2 k3 k4 k5 k6 k7
  refine Calls.mono (wakes12 D w2) ?_
  rintro e w3 ⟨rfl, bb⟩
  replace bz := bz.below bb
  replace hS := hS.on bb bb.size
  have B3 := B2.trans (bb.mono B2.size)
  clear bb B2
  go_wp2_with fail
  go_ret
  exact ⟨rfl, B3⟩
set_option maxRecDepth 100000 in
set_option maxHeartbeats 16000000 in
theorem cuts_may (D : Dev12) (t : TupP) (A : Option Addr) (n c : Nat) (at_ : Int) (w : World) (hS : Es w w.heap.size A n t.lg) (hnc : n ≤ c) (hM : MayT t) :
    Calls Try.prog 6 #[tupV t (.slice A n c), .int .i64 at_] w fun e w' => e = .returned (.bool true) ∧ Below w.heap.size w w' := by
  have hl := hS.len
  have hfew := hM.few
  have hn2 : n ≤ 200 := by omega
  have hix : 0 ≤ t.sn.ix ∧ t.sn.ix ≤ 1073740824 := ⟨hM.fine.1.1, hM.ix⟩
  obtain ⟨N, hN⟩ : ∃ N : Nat, N = n + 1 := ⟨_, rfl⟩
  have rN : IntKind.i64.wrap ((n : Int) + 1) = (N : Int) := by rw [IntKind.wrap_i64]; omega
  have rN2 : wrap64 ((n : Int) + 1) = (N : Int) := by unfold wrap64; omega
  obtain ⟨t1, p, pl0, pl1, pl2, pl3, hpn⟩ := place_twoT (n := N) (by omega) (by omega) at_
  have pl4 : IntKind.i64.wrap (t1 + (N : Int)) = t1 + (N : Int) := by rw [IntKind.wrap_i64]; unfold wrap64 at pl1; omega
  have zN : ((N : Int) == 0) = false := by simp; omega
  have zN3 : ¬ N = 0 := by omega
  have hp : p ≤ t.lg.length := by omega
  obtain ⟨J, hJ⟩ : ∃ j, j = t.sn.ix + 1 := ⟨_, rfl⟩
  obtain ⟨I, hI⟩ : ∃ j, j = t.sn.ix + 1 + (p : Int) := ⟨_, rfl⟩
  obtain ⟨LC, hLC⟩ : ∃ j, j = t.sn.ix + (p : Int) := ⟨_, rfl⟩
  obtain ⟨L, hL⟩ : ∃ j, j = lastT t := ⟨_, rfl⟩
  obtain ⟨L2, hL2⟩ : ∃ j, j = L + 2 := ⟨_, rfl⟩
  have hLn : L = t.sn.ix + (n : Int) := by rw [hL]; unfold lastT; omega
  have rJ : IntKind.i64.wrap (t.sn.ix + 1) = J := by rw [IntKind.wrap_i64]; omega
  have rJ2 : wrap64 (t.sn.ix + 1) = J := by unfold wrap64; omega
  have rI : IntKind.i64.wrap (J + (p : Int)) = I := by rw [IntKind.wrap_i64]; omega
  have rI2 : wrap64 (J + (p : Int)) = I := by unfold wrap64; omega
  have rC : IntKind.i64.wrap (t.sn.ix + (p : Int)) = LC := by rw [IntKind.wrap_i64]; omega
  have rL : IntKind.i64.wrap (L + 2) = L2 := by rw [IntKind.wrap_i64]; omega
  have qC : (LC == LC) = true := by simp
  obtain ⟨cc, hcc⟩ : ∃ o : TupP, o = { t with lg := t.lg.take p } := ⟨_, rfl⟩
  have hc1 : CutIs t I cc 0 := by rw [hI, hcc]; exact cut_is hM hp
  have hc2 : CutIs t t.sn.ix t 2 := cut_not (.inl (Int.le_refl _))
  have hc3 : CutIs t L2 t 2 := cut_not (.inr (by omega))
  have hbk : AppendIs cc (t.lg.drop p) t 0 := by rw [hcc]; exact cut_back hM hp
  have hmt : Mid t.sn.ix := mid_of (by omega)
  have hmI : Mid I := mid_of (by omega)
  have hmL : Mid L2 := mid_of (by omega)
  have hcl : cc.lg = t.lg.take p := by rw [hcc]
  have hlc : cc.lg.length = p := by rw [hcl, List.length_take]; omega
  have hla : lastT cc = LC := by unfold lastT; rw [hlc, hcc, hLC]
  have hsn : cc.sn = t.sn := by rw [hcc]
  have hct : cc.tm = t.tm := by rw [hcc]
  have hcv : cc.vt = t.vt := by rw [hcc]
  obtain ⟨i0, hi0, hz0, hz1', hz2'⟩ := info_partsV info_entry
  obtain ⟨A7, hsl, hes⟩ := cut_restE Try.underlying24 hi0 hz1' A n c p (by omega) hnc
  obtain ⟨u, hu⟩ : ∃ u, u = n - p := ⟨_, rfl⟩
  obtain ⟨c7, hc7⟩ : ∃ c7, c7 = c - p := ⟨_, rfl⟩
  have huc : u ≤ c7 := by omega
  have hu2 : u ≤ 200 := by omega
  have hp2 : p ≤ n := by omega
  rw [← hu, ← hc7] at hsl
  rw [← hu] at hes
  have hsl2 : ∀ W : World, (Instr.slice 24 (.slice A n c) (some (.int .i64 (p : Int))) none none).run Try.prog W = .ok (.slice A7 u c7) W := hsl
  have hsl3 : ∀ W : World, (Instr.slice 24 (.slice A n c) none (some (.int .i64 (p : Int))) none).run Try.prog W = .ok (.slice A p c) W := fun W => cut_firstE Try.underlying24 hi0 A n c p (by omega) W
  have HES := Lib.hid (fun (W : World) (B : Nat) (h : Es W B A n t.lg) => hes h)
  have HP := Lib.hid (⟨hc1, hc2, hc3, hbk, hl, hmt, hmI, hmL, hcl, hla, hlc⟩ : _ ∧ _ ∧ _ ∧ _ ∧ _ ∧ _ ∧ _ ∧ _ ∧ _ ∧ _ ∧ _)
  have HC := Lib.hid (⟨hsn, hct, hcv⟩ : _ ∧ _ ∧ _)
  have HL := Lib.hid hL
  have HM := Lib.hid hM
  clear hc1 hc2 hc3 hbk hl hmt hmI hmL hcl hla hlc hsn hct hcv hL hM hcc hL2 hLn hLC hI hJ hp hN hix hfew hpn hsl hes hi0 hz0 hz1' hz2' hc7 hu
  skip
  obtain ⟨z1, hz1⟩ : ∃ z, z = w.heap.size := ⟨_, rfl⟩
  obtain ⟨w1, hw1⟩ : ∃ x, x = w.alloc (.cells #[.int .i64 t.sn.ix, .int .i64 t.sn.tm, .int .i64 t.sn.sm, .int .i64 t.sn.lv, .bool t.sn.fn, .slice A n c, .int .i64 t.tm, .int .i64 t.vt] 26) := ⟨_, rfl⟩
  have bb : Below w.heap.size w w1 := by rw [hw1]; exact below_al (below_d0 _) _
  have bz : BoxU w1 z1 t (.slice A n c) := by rw [hw1, hz1]; exact BoxU.new w t _
  replace hS := hS.on bb bb.size
  have B1 := bb
  clear bb
  have HE := Lib.hid (⟨hw1, hz1⟩ : _ ∧ _)
  clear hw1 hz1
  unfold tupV
  go_enter Try.func6, Try.ntmps6
  go_wp2_with fail
  rw [← HE.out.1, ← HE.out.2]
  clear HE
  refine Calls.mono (show Calls Try.prog 28 #[.agg #[.int .i64 t.sn.ix, .int .i64 t.sn.tm, .int .i64 t.sn.sm, .int .i64 t.sn.lv, .bool t.sn.fn, .slice A n c, .int .i64 t.tm, .int .i64 t.vt]] w1 (fun e w' => (∃ b, MayIs t b ∧ e = .returned (.bool b)) ∧ Below w1.heap.size w1 w') from rrightT_any t A n c w1 hS) ?_
  intro e w2 hh
  obtain ⟨⟨b, hb, rfl⟩, bb⟩ := hh
  (try clear hh)
  replace bz := bz.below bb
  replace hS := hS.on bb bb.size
  have B2 := B1.trans (bb.mono B1.size)
  clear bb B1
  obtain rfl := hb.same (mayYes HM.out)
  clear hb
  obtain ⟨k0, k1, k2, k3, k4, k5, k6, k7⟩ := bz.cells
  go_wp2_with fail
  clear k0 k1 k2 k3 k4 k5 k6 k7
  clear rN rN2 pl0 pl1 pl2 pl3 pl4 zN zN3 rJ rJ2 rI rI2
  refine Calls.mono (show Calls Try.prog 12 #[.agg #[.int .i64 t.sn.ix, .int .i64 t.sn.tm, .int .i64 t.sn.sm, .int .i64 t.sn.lv, .bool t.sn.fn, .slice A n c, .int .i64 t.tm, .int .i64 t.vt], .int .i64 I] w2 (OutF (CutIs t I) w2.heap.size w2) from D.cut t A n c I w2 hS (by omega) hnc HP.out.2.2.2.2.2.1 (Mid.i64 HP.out.2.2.2.2.2.2.1)) ?_
  intro e w3 hh
  obtain ⟨A3, c3, rfl, hc3, own3, bb⟩ := OutF.is (x := 0) (n := p) hh (fun h => ToldIs.same h HP.out.1) HP.out.2.2.2.2.2.2.2.2.2.2
  (try clear hh)
  replace bz := bz.below bb
  replace hS := hS.on bb bb.size
  have B3 := B2.trans (bb.mono B2.size)
  clear bb B2
  unfold tupV
  rw [HC.out.1, HC.out.2.1, HC.out.2.2]
  obtain ⟨z4, hz4⟩ : ∃ z, z = w3.heap.size := ⟨_, rfl⟩
  obtain ⟨w4, hw4⟩ : ∃ x, x = w3.alloc (.cells #[.int .i64 t.sn.ix, .int .i64 t.sn.tm, .int .i64 t.sn.sm, .int .i64 t.sn.lv, .bool t.sn.fn, .slice A3 p c3, .int .i64 t.tm, .int .i64 t.vt] 26) := ⟨_, rfl⟩
  have bb : Below w3.heap.size w3 w4 := by rw [hw4]; exact below_al (below_d0 _) _
  have bc : BoxU w4 z4 cc (.slice A3 p c3) := by rw [hw4, hz4]; have h := BoxU.new w3 cc (.slice A3 p c3); rw [HC.out.1, HC.out.2.1, HC.out.2.2] at h; exact h
  replace own3 := keepF own3 bb
  replace bz := bz.below bb
  replace hS := hS.on bb bb.size
  have B4 := B3.trans (bb.mono B3.size)
  clear bb B3
  have HE4 := Lib.hid (⟨hw4, hz4⟩ : _ ∧ _)
  clear hw4 hz4
  go_upto_region 6 with fail
  rw [← HE4.out.1, ← HE4.out.2]
  clear HE4
  have HZ := Lib.hid (fun (Y : World) (hY : Below w4.heap.size w4 Y) => (⟨(bz.below hY).cells, (bc.below hY).cells⟩ : _ ∧ _))
  have HO := Lib.hid (⟨bz, bc, own3⟩ : _ ∧ _ ∧ _)
  have lbz := bz.lt
  have lbc := bc.lt
  have HS1 := Lib.hid hS
  refine wp_region_held_drew (S := (fun X => Below w4.heap.size w4 X)) (by kernel_rfl) ((Below.refl _ _).drew) (fun hHeld => ?_)
  refine take_at (i := 0) (d := 42) (oi := ?o1) (v := ?v1) ?hi1 ?hd1 (by kernel_rfl) (by kernel_rfl) (by kernel_rfl) ?hw1 ?hy1 ?hq1 (by assumption) ?r1
  case hi1 => (simp only [List.getElem?_toArray, List.getElem?_cons_zero]; rfl)
  case hd1 => rfl
  case hw1 => rfl
  case hy1 => ((intro w hSw; (try dsimp only at hSw); obtain ⟨⟨s0, s1, s2, s3, s4, s5, s6, s7⟩, ⟨o0, o1, o2, o3, o4, o5, o6, o7⟩⟩ := HZ.out w hSw; rw [HC.out.1] at o0 o1 o2 o3 o4; rw [HC.out.2.1] at o6; rw [HC.out.2.2] at o7; go_simp) <;> (with_reducible rfl))
  case hq1 => exact fun _ _ _ h => h
  simp only [List.set_cons_succ, List.set_cons_zero]
  refine take_at (i := 1) (d := 43) (oi := ?o2) (v := ?v2) ?hi2 ?hd2 (by kernel_rfl) (by kernel_rfl) (by kernel_rfl) ?hw2 ?hy2 ?hq2 (by assumption) ?r2
  case hi2 => (simp only [List.getElem?_toArray, List.getElem?_cons_succ, List.getElem?_cons_zero]; rfl)
  case hd2 => rfl
  case hw2 => rfl
  case hy2 => ((intro w hSw; (try dsimp only at hSw); obtain ⟨⟨s0, s1, s2, s3, s4, s5, s6, s7⟩, ⟨o0, o1, o2, o3, o4, o5, o6, o7⟩⟩ := HZ.out w hSw; rw [HC.out.1] at o0 o1 o2 o3 o4; rw [HC.out.2.1] at o6; rw [HC.out.2.2] at o7; go_simp) <;> (with_reducible rfl))
  case hq2 => exact fun _ _ _ h => h
  simp only [List.set_cons_succ, List.set_cons_zero]
  refine take_at (i := 2) (d := 44) (oi := ?o3) (v := ?v3) ?hi3 ?hd3 (by kernel_rfl) (by kernel_rfl) (by kernel_rfl) ?hw3 ?hy3 ?hq3 (by assumption) ?r3
  case hi3 => (simp only [List.getElem?_toArray, List.getElem?_cons_succ, List.getElem?_cons_zero]; rfl)
  case hd3 => rfl
  case hw3 => rfl
  case hy3 => ((intro w hSw; (try dsimp only at hSw); obtain ⟨⟨s0, s1, s2, s3, s4, s5, s6, s7⟩, ⟨o0, o1, o2, o3, o4, o5, o6, o7⟩⟩ := HZ.out w hSw; rw [HC.out.1] at o0 o1 o2 o3 o4; rw [HC.out.2.1] at o6; rw [HC.out.2.2] at o7; go_simp) <;> (with_reducible rfl))
  case hq3 => exact fun _ _ _ h => h
  simp only [List.set_cons_succ, List.set_cons_zero]
  refine take_at (i := 3) (d := 45) (oi := ?o4) (v := ?v4) ?hi4 ?hd4 (by kernel_rfl) (by kernel_rfl) (by kernel_rfl) ?hw4 ?hy4 ?hq4 (by assumption) ?r4
  case hi4 => (simp only [List.getElem?_toArray, List.getElem?_cons_succ, List.getElem?_cons_zero]; rfl)
  case hd4 => rfl
  case hw4 => rfl
  case hy4 => ((intro w hSw; (try dsimp only at hSw); obtain ⟨⟨s0, s1, s2, s3, s4, s5, s6, s7⟩, ⟨o0, o1, o2, o3, o4, o5, o6, o7⟩⟩ := HZ.out w hSw; rw [HC.out.1] at o0 o1 o2 o3 o4; rw [HC.out.2.1] at o6; rw [HC.out.2.2] at o7; go_simp) <;> (with_reducible rfl))
  case hq4 => exact fun _ _ _ h => h
  simp only [List.set_cons_succ, List.set_cons_zero]
  refine take_at (i := 4) (d := 46) (oi := ?o5) (v := ?v5) ?hi5 ?hd5 (by kernel_rfl) (by kernel_rfl) (by kernel_rfl) ?hw5 ?hy5 ?hq5 (by assumption) ?r5
  case hi5 => (simp only [List.getElem?_toArray, List.getElem?_cons_succ, List.getElem?_cons_zero]; rfl)
  case hd5 => rfl
  case hw5 => rfl
  case hy5 => ((intro w hSw; (try dsimp only at hSw); obtain ⟨⟨s0, s1, s2, s3, s4, s5, s6, s7⟩, ⟨o0, o1, o2, o3, o4, o5, o6, o7⟩⟩ := HZ.out w hSw; rw [HC.out.1] at o0 o1 o2 o3 o4; rw [HC.out.2.1] at o6; rw [HC.out.2.2] at o7; go_simp) <;> (with_reducible rfl))
  case hq5 => exact fun _ _ _ h => h
  simp only [List.set_cons_succ, List.set_cons_zero]
  refine name_lst12 (l' := #[true, true, true, true, true, false, false, false, false, false, false, false]) (by kernel_rfl) ?_
  refine join5 (d1 := 47) (d2 := 9) (d3 := 41) (d4 := 48) (d5 := 49) (L := [5, 6, 7, 8, 9]) (fuel' := 2) (fun v1 v2 v3 v4 v5 W' => Join12 w4 (fun sl => .agg #[.int .i64 t.sn.ix, .int .i64 t.sn.tm, .int .i64 t.sn.sm, .int .i64 t.sn.lv, .bool t.sn.fn, sl, .int .i64 t.tm, .int .i64 t.vt]) t.lg n 0 v1 v2 v3 v4 v5 W') ?rest ?first
  case first =>
    intro H
    have kbn : Below w4.heap.size w4 w4.drew := (Below.refl _ _).drew
    refine wpAnyH_ready (rs := [5, 9]) (by kernel_rfl) (by simp) ?_
    refine two_ready ?_ ?_
    · refine br_call (i := 5) (d := 47) (oi := ?o6) (f := ?f6) (args := ?a6) ?hi6 ?hd6 ?hw6 ?he6 ?hc6
      case hi6 => (simp only [List.getElem?_toArray, List.getElem?_cons_succ, List.getElem?_cons_zero]; rfl)
      case hd6 => rfl
      case hw6 => rfl
      case he6 => (go_simp; constructor <;> with_reducible rfl)
      refine Calls.mono (show Calls Try.prog 10 #[.agg #[.int .i64 t.sn.ix, .int .i64 t.sn.tm, .int .i64 t.sn.sm, .int .i64 t.sn.lv, .bool t.sn.fn, .slice A3 p c3, .int .i64 t.tm, .int .i64 t.vt], .slice A7 u c7] w4.drew (OutF (AppendIs cc (t.lg.drop p)) w4.drew.heap.size w4.drew) from by have h := D.append cc A3 p c3 A7 u c7 (t.lg.drop p) w4.drew (OwnF.es (keepF own3 kbn)) (by omega) hc3 (by rw [HC.out.1]; exact HP.out.2.2.2.2.2.1) (HES.out _ _ (hS.on kbn kbn.size)) (by omega) huc; unfold tupV at h; rw [HC.out.1, HC.out.2.1, HC.out.2.2] at h; exact h) ?_
      intro e y1 hh
      obtain ⟨A4, c4, rfl, hc4, own4, hb⟩ := OutF.is (x := 0) (n := n) hh (fun h => ToldIs.same h HP.out.2.2.2.1) HP.out.2.2.2.2.1
      replace own4 := lowF own4 kbn.size
      replace kbn := below_on kbn hb
      refine ⟨_, rfl, kbn, fun hHeld => ?_⟩
      simp only [List.set_cons_succ, List.set_cons_zero]
      clear hb
      refine take_at (i := 6) (d := 41) (oi := ?o7) (v := ?v7) ?hi7 ?hd7 (by kernel_rfl) (by kernel_rfl) (by kernel_rfl) ?hw7 ?hy7 ?hq7 (by assumption) ?r7
      case hi7 => (simp only [List.getElem?_toArray, List.getElem?_cons_succ, List.getElem?_cons_zero]; rfl)
      case hd7 => rfl
      case hw7 => rfl
      case hy7 => ((intro w hSw; (try dsimp only at hSw); obtain ⟨⟨s0, s1, s2, s3, s4, s5, s6, s7⟩, ⟨o0, o1, o2, o3, o4, o5, o6, o7⟩⟩ := HZ.out w hSw; rw [HC.out.1] at o0 o1 o2 o3 o4; rw [HC.out.2.1] at o6; rw [HC.out.2.2] at o7; go_simp) <;> (with_reducible rfl))
      case hq7 => exact fun _ _ _ h => h
      simp only [List.set_cons_succ, List.set_cons_zero]
      refine take_at (i := 7) (d := 48) (oi := ?o8) (v := ?v8) ?hi8 ?hd8 (by kernel_rfl) (by kernel_rfl) (by kernel_rfl) ?hw8 ?hy8 ?hq8 (by assumption) ?r8
      case hi8 => (simp only [List.getElem?_toArray, List.getElem?_cons_succ, List.getElem?_cons_zero]; rfl)
      case hd8 => rfl
      case hw8 => rfl
      case hy8 => ((intro w hSw; (try dsimp only at hSw); obtain ⟨⟨s0, s1, s2, s3, s4, s5, s6, s7⟩, ⟨o0, o1, o2, o3, o4, o5, o6, o7⟩⟩ := HZ.out w hSw; rw [HC.out.1] at o0 o1 o2 o3 o4; rw [HC.out.2.1] at o6; rw [HC.out.2.2] at o7; go_simp) <;> (with_reducible rfl))
      case hq8 => exact fun _ _ _ h => h
      simp only [List.set_cons_succ, List.set_cons_zero]
      refine take_at (i := 8) (d := 49) (oi := ?o9) (v := ?v9) ?hi9 ?hd9 (by kernel_rfl) (by kernel_rfl) (by kernel_rfl) ?hw9 ?hy9 ?hq9 (by assumption) ?r9
      case hi9 => (simp only [List.getElem?_toArray, List.getElem?_cons_succ, List.getElem?_cons_zero]; rfl)
      case hd9 => rfl
      case hw9 => rfl
      case hy9 => ((intro w hSw; (try dsimp only at hSw); obtain ⟨⟨s0, s1, s2, s3, s4, s5, s6, s7⟩, ⟨o0, o1, o2, o3, o4, o5, o6, o7⟩⟩ := HZ.out w hSw; rw [HC.out.1] at o0 o1 o2 o3 o4; rw [HC.out.2.1] at o6; rw [HC.out.2.2] at o7; go_simp) <;> (with_reducible rfl))
      case hq9 => exact fun _ _ _ h => h
      simp only [List.set_cons_succ, List.set_cons_zero]
      refine wpAnyH_ready (rs := [9]) (by kernel_rfl) (by simp) ?_
      obtain ⟨g7, hg7⟩ : ∃ z, z = y1.heap.size := ⟨_, rfl⟩
      obtain ⟨y2, hWn⟩ : ∃ x, x = y1.alloc (.cells #[.int .i64 0, .int .i64 0, .int .i64 0, .int .i64 0, .bool false, .slice none 0 0, .int .i64 0, .int .i64 0] 26) := ⟨_, rfl⟩
      have hb : Below y1.heap.size y1 y2 := by rw [hWn]; exact below_al (below_d0 _) _
      have bz : BoxU y2 g7 noneT (.slice none 0 0) := by rw [hWn, hg7]; exact BoxU.new y1 noneT _
      have lz : w4.heap.size ≤ g7 := by rw [hg7]; exact kbn.size
      replace kbn := below_on kbn hb
      replace own4 := keepF own4 hb
      refine br_val (i := 9) (d := 9) (oi := ?o10) (v := .pointer (some ⟨g7, 0, none⟩)) (w' := y2) ?hi10 ?hd10 ?hw10 ?he10 kbn ?hc10
      case hi10 => (simp only [List.getElem?_toArray, List.getElem?_cons_succ, List.getElem?_cons_zero]; rfl)
      case hd10 => rfl
      case hw10 => rfl
      case he10 => (rw [hWn, hg7]; go_simp <;> with_reducible rfl)
      intro hHeld
      simp only [List.set_cons_succ, List.set_cons_zero]
      clear hWn hg7 hb
      have HH := H _ _ _ _ _ _ ⟨⟨_, _, _, rfl, rfl, rfl, rfl, rfl, hc4, own4, bz, lz, kbn⟩⟩ hHeld
      simp only [List.set_cons_succ, List.set_cons_zero] at HH
      exact name_lst12 (l' := [5, 6, 7, 8, 9].foldl (fun l i => l.setIfInBounds i true) #[true, true, true, true, true, false, false, false, false, false, false, false]) (by kernel_rfl) HH
    obtain ⟨g7, hg7⟩ : ∃ z, z = w4.drew.heap.size := ⟨_, rfl⟩
    obtain ⟨y3, hWn⟩ : ∃ x, x = w4.drew.alloc (.cells #[.int .i64 0, .int .i64 0, .int .i64 0, .int .i64 0, .bool false, .slice none 0 0, .int .i64 0, .int .i64 0] 26) := ⟨_, rfl⟩
    have hb : Below w4.drew.heap.size w4.drew y3 := by rw [hWn]; exact below_al (below_d0 _) _
    have bz : BoxU y3 g7 noneT (.slice none 0 0) := by rw [hWn, hg7]; exact BoxU.new w4.drew noneT _
    have lz : w4.heap.size ≤ g7 := by rw [hg7]; exact kbn.size
    replace kbn := below_on kbn hb
    refine br_val (i := 9) (d := 9) (oi := ?o11) (v := .pointer (some ⟨g7, 0, none⟩)) (w' := y3) ?hi11 ?hd11 ?hw11 ?he11 kbn ?hc11
    case hi11 => (simp only [List.getElem?_toArray, List.getElem?_cons_succ, List.getElem?_cons_zero]; rfl)
    case hd11 => rfl
    case hw11 => rfl
    case he11 => (rw [hWn, hg7]; go_simp <;> with_reducible rfl)
    intro hHeld
    simp only [List.set_cons_succ, List.set_cons_zero]
    clear hWn hg7 hb
    refine wpAnyH_ready (rs := [5]) (by kernel_rfl) (by simp) ?_
    refine br_call (i := 5) (d := 47) (oi := ?o12) (f := ?f12) (args := ?a12) ?hi12 ?hd12 ?hw12 ?he12 ?hc12
    case hi12 => (simp only [List.getElem?_toArray, List.getElem?_cons_succ, List.getElem?_cons_zero]; rfl)
    case hd12 => rfl
    case hw12 => rfl
    case he12 => (go_simp; constructor <;> with_reducible rfl)
    refine Calls.mono (show Calls Try.prog 10 #[.agg #[.int .i64 t.sn.ix, .int .i64 t.sn.tm, .int .i64 t.sn.sm, .int .i64 t.sn.lv, .bool t.sn.fn, .slice A3 p c3, .int .i64 t.tm, .int .i64 t.vt], .slice A7 u c7] y3 (OutF (AppendIs cc (t.lg.drop p)) y3.heap.size y3) from by have h := D.append cc A3 p c3 A7 u c7 (t.lg.drop p) y3 (OwnF.es (keepF own3 kbn)) (by omega) hc3 (by rw [HC.out.1]; exact HP.out.2.2.2.2.2.1) (HES.out _ _ (hS.on kbn kbn.size)) (by omega) huc; unfold tupV at h; rw [HC.out.1, HC.out.2.1, HC.out.2.2] at h; exact h) ?_
    intro e y4 hh
    obtain ⟨A4, c4, rfl, hc4, own4, hb⟩ := OutF.is (x := 0) (n := n) hh (fun h => ToldIs.same h HP.out.2.2.2.1) HP.out.2.2.2.2.1
    replace own4 := lowF own4 kbn.size
    replace kbn := below_on kbn hb
    replace bz := bz.below hb
    refine ⟨_, rfl, kbn, fun hHeld => ?_⟩
    simp only [List.set_cons_succ, List.set_cons_zero]
    clear hb
    refine take_at (i := 6) (d := 41) (oi := ?o13) (v := ?v13) ?hi13 ?hd13 (by kernel_rfl) (by kernel_rfl) (by kernel_rfl) ?hw13 ?hy13 ?hq13 (by assumption) ?r13
    case hi13 => (simp only [List.getElem?_toArray, List.getElem?_cons_succ, List.getElem?_cons_zero]; rfl)
    case hd13 => rfl
    case hw13 => rfl
    case hy13 => ((intro w hSw; (try dsimp only at hSw); obtain ⟨⟨s0, s1, s2, s3, s4, s5, s6, s7⟩, ⟨o0, o1, o2, o3, o4, o5, o6, o7⟩⟩ := HZ.out w hSw; rw [HC.out.1] at o0 o1 o2 o3 o4; rw [HC.out.2.1] at o6; rw [HC.out.2.2] at o7; go_simp) <;> (with_reducible rfl))
    case hq13 => exact fun _ _ _ h => h
    simp only [List.set_cons_succ, List.set_cons_zero]
    refine take_at (i := 7) (d := 48) (oi := ?o14) (v := ?v14) ?hi14 ?hd14 (by kernel_rfl) (by kernel_rfl) (by kernel_rfl) ?hw14 ?hy14 ?hq14 (by assumption) ?r14
    case hi14 => (simp only [List.getElem?_toArray, List.getElem?_cons_succ, List.getElem?_cons_zero]; rfl)
    case hd14 => rfl
    case hw14 => rfl
    case hy14 => ((intro w hSw; (try dsimp only at hSw); obtain ⟨⟨s0, s1, s2, s3, s4, s5, s6, s7⟩, ⟨o0, o1, o2, o3, o4, o5, o6, o7⟩⟩ := HZ.out w hSw; rw [HC.out.1] at o0 o1 o2 o3 o4; rw [HC.out.2.1] at o6; rw [HC.out.2.2] at o7; go_simp) <;> (with_reducible rfl))
    case hq14 => exact fun _ _ _ h => h
    simp only [List.set_cons_succ, List.set_cons_zero]
    refine take_at (i := 8) (d := 49) (oi := ?o15) (v := ?v15) ?hi15 ?hd15 (by kernel_rfl) (by kernel_rfl) (by kernel_rfl) ?hw15 ?hy15 ?hq15 (by assumption) ?r15
    case hi15 => (simp only [List.getElem?_toArray, List.getElem?_cons_succ, List.getElem?_cons_zero]; rfl)
    case hd15 => rfl
    case hw15 => rfl
    case hy15 => ((intro w hSw; (try dsimp only at hSw); obtain ⟨⟨s0, s1, s2, s3, s4, s5, s6, s7⟩, ⟨o0, o1, o2, o3, o4, o5, o6, o7⟩⟩ := HZ.out w hSw; rw [HC.out.1] at o0 o1 o2 o3 o4; rw [HC.out.2.1] at o6; rw [HC.out.2.2] at o7; go_simp) <;> (with_reducible rfl))
    case hq15 => exact fun _ _ _ h => h
    simp only [List.set_cons_succ, List.set_cons_zero]
    have HH := H _ _ _ _ _ _ ⟨⟨_, _, _, rfl, rfl, rfl, rfl, rfl, hc4, own4, bz, lz, kbn⟩⟩ hHeld
    simp only [List.set_cons_succ, List.set_cons_zero] at HH
    exact name_lst12 (l' := [5, 6, 7, 8, 9].foldl (fun l i => l.setIfInBounds i true) #[true, true, true, true, true, false, false, false, false, false, false, false]) (by kernel_rfl) HH
  case rest =>
    rintro v1 v2 v3 v4 v5 W' ⟨⟨A4, c4, zq, rfl, rfl, rfl, rfl, rfl, hc4, own4, bq, lz, kb⟩⟩ hHeld
    simp only [List.set_cons_succ, List.set_cons_zero]
    clear bz bc own3
    obtain ⟨bz, bc, own3⟩ := HO.out
    replace bz := bz.below kb
    replace bc := bc.below kb
    replace own3 := keepF own3 kb
    obtain ⟨w5, hw5⟩ : ∃ x, x = putU W' zq t (.slice A4 n c4) := ⟨_, rfl⟩
    have bz9 : BoxU w5 z1 t (.slice A n c) := by rw [hw5]; exact putU_boxes bz (by omega)
    have bc9 : BoxU w5 z4 cc (.slice A3 p c3) := by rw [hw5]; exact putU_boxes bc (by omega)
    have bq9 : BoxU w5 zq t (.slice A4 n c4) := by rw [hw5]; exact putU_box bq t _
    have own39 := putU_ownF (m := t) (x := .slice A4 n c4) bq own3
    rw [← hw5] at own39
    have own49 := putU_ownF (m := t) (x := .slice A4 n c4) bq own4
    rw [← hw5] at own49
    have kb9 : Below w4.heap.size w4 w5 := by rw [hw5]; exact putU_below lz t _ kb
    have e9 : w5 = ((((((((W'.setCell ⟨zq, 0, none⟩ (.int .i64 t.sn.ix)).setCell ⟨zq, 1, none⟩ (.int .i64 t.sn.tm)).setCell ⟨zq, 2, none⟩ (.int .i64 t.sn.sm)).setCell ⟨zq, 3, none⟩ (.int .i64 t.sn.lv)).setCell ⟨zq, 4, none⟩ (.bool t.sn.fn)).setCell ⟨zq, 5, none⟩ (.slice A4 n c4)).setCell ⟨zq, 6, none⟩ (.int .i64 t.tm)).setCell ⟨zq, 7, none⟩ (.int .i64 t.vt)) := hw5
    obtain ⟨g0, g1, g2, g3, g4, g5, g6, g7⟩ := bq.cells
    have f0 := bq.frozen 0
    have f1 := bq.frozen 1
    have f2 := bq.frozen 2
    have f3 := bq.frozen 3
    have f4 := bq.frozen 4
    have f5 := bq.frozen 5
    have f6 := bq.frozen 6
    have f7 := bq.frozen 7
    refine wpAnyH_ready (rs := [10]) (by kernel_rfl) (by simp) ?_
    refine br_store (i := 10) (oi := ?o16) (w' := w5) ?hi16 ?hd16 ?hw16 ?he16 kb9 ?hc16
    case hi16 => (simp only [List.getElem?_toArray, List.getElem?_cons_succ, List.getElem?_cons_zero]; rfl)
    case hd16 => rfl
    case hw16 => rfl
    case he16 => (rw [e9]; go_simp <;> with_reducible rfl)
    intro hHeld
    clear e9 g0 g1 g2 g3 g4 g5 g6 g7 f0 f1 f2 f3 f4 f5 f6 f7
    refine take_at (i := 11) (d := 10) (oi := ?o17) (v := ?v17) ?hi17 ?hd17 (by kernel_rfl) (by kernel_rfl) (by kernel_rfl) ?hw17 ?hy17 ?hq17 (by assumption) ?r17
    case hi17 => (simp only [List.getElem?_toArray, List.getElem?_cons_succ, List.getElem?_cons_zero]; rfl)
    case hd17 => rfl
    case hw17 => rfl
    case hy17 => ((intro w hSw; (try dsimp only at hSw); obtain ⟨⟨s0, s1, s2, s3, s4, s5, s6, s7⟩, ⟨o0, o1, o2, o3, o4, o5, o6, o7⟩⟩ := HZ.out w hSw; rw [HC.out.1] at o0 o1 o2 o3 o4; rw [HC.out.2.1] at o6; rw [HC.out.2.2] at o7; go_simp) <;> (with_reducible rfl))
    case hq17 => exact fun _ _ _ h => h
    simp only [List.set_cons_succ, List.set_cons_zero]
    refine wpAnyH_done (by kernel_rfl) ?_ _
    have B5 := B4.trans (kb9.mono B4.size)
    have hS := HS1.out.on kb9 kb9.size
    clear hHeld hw5 bq bz bc kb lz HO HZ kb9 lbz lbc HS1 own3 own4
    have bz := bz9
    clear bz9
    have bc := bc9
    clear bc9
    have own3 := own39
    clear own39
    have own4 := own49
    clear own49
    have bb4 := bq9
    clear bq9
    obtain ⟨z10, hz10⟩ : ∃ z, z = zq := ⟨_, rfl⟩
    rw [← hz10] at bb4 ⊢
    clear hz10
    clear hsl2
    obtain ⟨k0, k1, k2, k3, k4, k5, k6, k7⟩ := bz.cells
    go_wp2_with fail
    clear k0 k1 k2 k3 k4 k5 k6 k7
    refine Calls.mono (show Calls Try.prog 12 #[.agg #[.int .i64 t.sn.ix, .int .i64 t.sn.tm, .int .i64 t.sn.sm, .int .i64 t.sn.lv, .bool t.sn.fn, .slice A n c, .int .i64 t.tm, .int .i64 t.vt], .int .i64 t.sn.ix] w5 (OutF (CutIs t t.sn.ix) w5.heap.size w5) from D.cut t A n c t.sn.ix w5 hS (by omega) hnc HP.out.2.2.2.2.2.1 (Mid.i64 HP.out.2.2.2.2.2.1)) ?_
    intro e w6 hh
    obtain ⟨A5, c5, rfl, hc5, own5, bb⟩ := OutF.is (x := 2) (n := n) hh (fun h => ToldIs.same h HP.out.2.1) HP.out.2.2.2.2.1
    (try clear hh)
    replace own3 := keepF own3 bb
    replace own4 := keepF own4 bb
    replace bz := bz.below bb
    replace bc := bc.below bb
    replace bb4 := bb4.below bb
    replace hS := hS.on bb bb.size
    have B6 := B5.trans (bb.mono B5.size)
    clear bb B5
    unfold tupV
    obtain ⟨z7, hz7⟩ : ∃ z, z = w6.heap.size := ⟨_, rfl⟩
    obtain ⟨w7, hw7⟩ : ∃ x, x = w6.alloc (.cells #[.int .i64 t.sn.ix, .int .i64 t.sn.tm, .int .i64 t.sn.sm, .int .i64 t.sn.lv, .bool t.sn.fn, .slice A5 n c5, .int .i64 t.tm, .int .i64 t.vt] 26) := ⟨_, rfl⟩
    have bb : Below w6.heap.size w6 w7 := by rw [hw7]; exact below_al (below_d0 _) _
    have b5 : BoxU w7 z7 t (.slice A5 n c5) := by rw [hw7, hz7]; exact BoxU.new w6 t _
    replace own3 := keepF own3 bb
    replace own4 := keepF own4 bb
    replace own5 := keepF own5 bb
    replace bz := bz.below bb
    replace bc := bc.below bb
    replace bb4 := bb4.below bb
    replace hS := hS.on bb bb.size
    have B7 := B6.trans (bb.mono B6.size)
    clear bb B6
    have HE7 := Lib.hid (⟨hw7, hz7⟩ : _ ∧ _)
    clear hw7 hz7
    go_upto_region 8 with fail
    rw [← HE7.out.1, ← HE7.out.2]
    clear HE7
    clear b5 own5
    have hbb4 := bb4
    have lbb4 := bb4.lt
    clear bb4
    have HZ := Lib.hid (fun (Y : World) (hY : Below w7.heap.size w7 Y) => (⟨(bz.below hY).cells, (bc.below hY).cells⟩ : _ ∧ _))
    have HO := Lib.hid (⟨bz, bc, own3, own4⟩ : _ ∧ _ ∧ _ ∧ _)
    have lbz := bz.lt
    have lbc := bc.lt
    have HS1 := Lib.hid hS
    refine wp_region_held_drew (S := (fun X => Below w7.heap.size w7 X)) (by kernel_rfl) ((Below.refl _ _).drew) (fun hHeld => ?_)
    refine take_at (i := 0) (d := 59) (oi := ?o18) (v := ?v18) ?hi18 ?hd18 (by kernel_rfl) (by kernel_rfl) (by kernel_rfl) ?hw18 ?hy18 ?hq18 (by assumption) ?r18
    case hi18 => (simp only [List.getElem?_toArray, List.getElem?_cons_zero]; rfl)
    case hd18 => rfl
    case hw18 => rfl
    case hy18 => ((intro w hSw; (try dsimp only at hSw); obtain ⟨⟨s0, s1, s2, s3, s4, s5, s6, s7⟩, ⟨o0, o1, o2, o3, o4, o5, o6, o7⟩⟩ := HZ.out w hSw; rw [HC.out.1] at o0 o1 o2 o3 o4; rw [HC.out.2.1] at o6; rw [HC.out.2.2] at o7; go_simp) <;> (with_reducible rfl))
    case hq18 => exact fun _ _ _ h => h
    simp only [List.set_cons_succ, List.set_cons_zero]
    refine take_at (i := 1) (d := 60) (oi := ?o19) (v := ?v19) ?hi19 ?hd19 (by kernel_rfl) (by kernel_rfl) (by kernel_rfl) ?hw19 ?hy19 ?hq19 (by assumption) ?r19
    case hi19 => (simp only [List.getElem?_toArray, List.getElem?_cons_succ, List.getElem?_cons_zero]; rfl)
    case hd19 => rfl
    case hw19 => rfl
    case hy19 => ((intro w hSw; (try dsimp only at hSw); obtain ⟨⟨s0, s1, s2, s3, s4, s5, s6, s7⟩, ⟨o0, o1, o2, o3, o4, o5, o6, o7⟩⟩ := HZ.out w hSw; rw [HC.out.1] at o0 o1 o2 o3 o4; rw [HC.out.2.1] at o6; rw [HC.out.2.2] at o7; go_simp) <;> (with_reducible rfl))
    case hq19 => exact fun _ _ _ h => h
    simp only [List.set_cons_succ, List.set_cons_zero]
    refine name_lst12 (l' := #[true, true, false, false, false, false, false, false, false, false, false]) (by kernel_rfl) ?_
    refine join7 (d1 := 61) (d2 := 62) (d3 := 63) (d4 := 13) (d5 := 58) (d6 := 64) (d7 := 65) (L := [2, 3, 4, 5, 6, 7, 8]) (fuel' := 2) (fun v1 v2 v3 v4 v5 v6 v7 W' => (v1 = .int .i64 L ∧ v2 = .int .i64 L2) ∧ Join12 w7 (fun sl => .agg #[.int .i64 t.sn.ix, .int .i64 t.sn.tm, .int .i64 t.sn.sm, .int .i64 t.sn.lv, .bool t.sn.fn, sl, .int .i64 t.tm, .int .i64 t.vt]) t.lg n 2 v3 v4 v5 v6 v7 W') ?rest ?first
    case first =>
      intro H
      have kbn : Below w7.heap.size w7 w7.drew := (Below.refl _ _).drew
      refine wpAnyH_ready (rs := [2, 8]) (by kernel_rfl) (by simp) ?_
      refine two_ready ?_ ?_
      · refine br_call (i := 2) (d := 61) (oi := ?o20) (f := ?f20) (args := ?a20) ?hi20 ?hd20 ?hw20 ?he20 ?hc20
        case hi20 => (simp only [List.getElem?_toArray, List.getElem?_cons_succ, List.getElem?_cons_zero]; rfl)
        case hd20 => rfl
        case hw20 => rfl
        case he20 => (go_simp; constructor <;> with_reducible rfl)
        refine Calls.mono (show Calls Try.prog 29 #[.agg #[.int .i64 t.sn.ix, .int .i64 t.sn.tm, .int .i64 t.sn.sm, .int .i64 t.sn.lv, .bool t.sn.fn, .slice A n c, .int .i64 t.tm, .int .i64 t.vt]] w7.drew (fun e w' => e = .returned (.int .i64 L) ∧ Below w7.drew.heap.size w7.drew w') from by rw [HL.out]; exact D.last t A n c w7.drew (hS.on kbn kbn.size) (by omega) HP.out.2.2.2.2.2.1) ?_
        rintro e y1 ⟨rfl, hb⟩
        replace kbn := below_on kbn hb
        refine ⟨_, rfl, kbn, fun hHeld => ?_⟩
        simp only [List.set_cons_succ, List.set_cons_zero]
        clear hb
        refine take_at (i := 3) (d := 62) (oi := ?o21) (v := ?v21) ?hi21 ?hd21 (by kernel_rfl) (by kernel_rfl) (by kernel_rfl) ?hw21 ?hy21 ?hq21 (by assumption) ?r21
        case hi21 => (simp only [List.getElem?_toArray, List.getElem?_cons_succ, List.getElem?_cons_zero]; rfl)
        case hd21 => rfl
        case hw21 => rfl
        case hy21 => ((intro w hSw; (try dsimp only at hSw); obtain ⟨⟨s0, s1, s2, s3, s4, s5, s6, s7⟩, ⟨o0, o1, o2, o3, o4, o5, o6, o7⟩⟩ := HZ.out w hSw; rw [HC.out.1] at o0 o1 o2 o3 o4; rw [HC.out.2.1] at o6; rw [HC.out.2.2] at o7; go_simp) <;> (with_reducible rfl))
        case hq21 => exact fun _ _ _ h => h
        simp only [List.set_cons_succ, List.set_cons_zero]
        refine wpAnyH_ready (rs := [4, 8]) (by kernel_rfl) (by simp) ?_
        refine two_ready ?_ ?_
        · refine br_call (i := 4) (d := 63) (oi := ?o22) (f := ?f22) (args := ?a22) ?hi22 ?hd22 ?hw22 ?he22 ?hc22
          case hi22 => (simp only [List.getElem?_toArray, List.getElem?_cons_succ, List.getElem?_cons_zero]; rfl)
          case hd22 => rfl
          case hw22 => rfl
          case he22 => (go_simp; constructor <;> with_reducible rfl)
          refine Calls.mono (show Calls Try.prog 12 #[.agg #[.int .i64 t.sn.ix, .int .i64 t.sn.tm, .int .i64 t.sn.sm, .int .i64 t.sn.lv, .bool t.sn.fn, .slice A n c, .int .i64 t.tm, .int .i64 t.vt], .int .i64 L2] y1 (OutF (CutIs t L2) y1.heap.size y1) from D.cut t A n c L2 y1 (hS.on kbn kbn.size) (by omega) hnc HP.out.2.2.2.2.2.1 (Mid.i64 HP.out.2.2.2.2.2.2.2.1)) ?_
          intro e y2 hh
          obtain ⟨A6, c6, rfl, hc6, own6, hb⟩ := OutF.is (x := 2) (n := n) hh (fun h => ToldIs.same h HP.out.2.2.1) HP.out.2.2.2.2.1
          replace own6 := lowF own6 kbn.size
          replace kbn := below_on kbn hb
          refine ⟨_, rfl, kbn, fun hHeld => ?_⟩
          simp only [List.set_cons_succ, List.set_cons_zero]
          clear hb
          refine take_at (i := 5) (d := 58) (oi := ?o23) (v := ?v23) ?hi23 ?hd23 (by kernel_rfl) (by kernel_rfl) (by kernel_rfl) ?hw23 ?hy23 ?hq23 (by assumption) ?r23
          case hi23 => (simp only [List.getElem?_toArray, List.getElem?_cons_succ, List.getElem?_cons_zero]; rfl)
          case hd23 => rfl
          case hw23 => rfl
          case hy23 => ((intro w hSw; (try dsimp only at hSw); obtain ⟨⟨s0, s1, s2, s3, s4, s5, s6, s7⟩, ⟨o0, o1, o2, o3, o4, o5, o6, o7⟩⟩ := HZ.out w hSw; rw [HC.out.1] at o0 o1 o2 o3 o4; rw [HC.out.2.1] at o6; rw [HC.out.2.2] at o7; go_simp) <;> (with_reducible rfl))
          case hq23 => exact fun _ _ _ h => h
          simp only [List.set_cons_succ, List.set_cons_zero]
          refine take_at (i := 6) (d := 64) (oi := ?o24) (v := ?v24) ?hi24 ?hd24 (by kernel_rfl) (by kernel_rfl) (by kernel_rfl) ?hw24 ?hy24 ?hq24 (by assumption) ?r24
          case hi24 => (simp only [List.getElem?_toArray, List.getElem?_cons_succ, List.getElem?_cons_zero]; rfl)
          case hd24 => rfl
          case hw24 => rfl
          case hy24 => ((intro w hSw; (try dsimp only at hSw); obtain ⟨⟨s0, s1, s2, s3, s4, s5, s6, s7⟩, ⟨o0, o1, o2, o3, o4, o5, o6, o7⟩⟩ := HZ.out w hSw; rw [HC.out.1] at o0 o1 o2 o3 o4; rw [HC.out.2.1] at o6; rw [HC.out.2.2] at o7; go_simp) <;> (with_reducible rfl))
          case hq24 => exact fun _ _ _ h => h
          simp only [List.set_cons_succ, List.set_cons_zero]
          refine take_at (i := 7) (d := 65) (oi := ?o25) (v := ?v25) ?hi25 ?hd25 (by kernel_rfl) (by kernel_rfl) (by kernel_rfl) ?hw25 ?hy25 ?hq25 (by assumption) ?r25
          case hi25 => (simp only [List.getElem?_toArray, List.getElem?_cons_succ, List.getElem?_cons_zero]; rfl)
          case hd25 => rfl
          case hw25 => rfl
          case hy25 => ((intro w hSw; (try dsimp only at hSw); obtain ⟨⟨s0, s1, s2, s3, s4, s5, s6, s7⟩, ⟨o0, o1, o2, o3, o4, o5, o6, o7⟩⟩ := HZ.out w hSw; rw [HC.out.1] at o0 o1 o2 o3 o4; rw [HC.out.2.1] at o6; rw [HC.out.2.2] at o7; go_simp) <;> (with_reducible rfl))
          case hq25 => exact fun _ _ _ h => h
          simp only [List.set_cons_succ, List.set_cons_zero]
          refine wpAnyH_ready (rs := [8]) (by kernel_rfl) (by simp) ?_
          obtain ⟨g7, hg7⟩ : ∃ z, z = y2.heap.size := ⟨_, rfl⟩
          obtain ⟨y3, hWn⟩ : ∃ x, x = y2.alloc (.cells #[.int .i64 0, .int .i64 0, .int .i64 0, .int .i64 0, .bool false, .slice none 0 0, .int .i64 0, .int .i64 0] 26) := ⟨_, rfl⟩
          have hb : Below y2.heap.size y2 y3 := by rw [hWn]; exact below_al (below_d0 _) _
          have bz : BoxU y3 g7 noneT (.slice none 0 0) := by rw [hWn, hg7]; exact BoxU.new y2 noneT _
          have lz : w7.heap.size ≤ g7 := by rw [hg7]; exact kbn.size
          replace kbn := below_on kbn hb
          replace own6 := keepF own6 hb
          refine br_val (i := 8) (d := 13) (oi := ?o26) (v := .pointer (some ⟨g7, 0, none⟩)) (w' := y3) ?hi26 ?hd26 ?hw26 ?he26 kbn ?hc26
          case hi26 => (simp only [List.getElem?_toArray, List.getElem?_cons_succ, List.getElem?_cons_zero]; rfl)
          case hd26 => rfl
          case hw26 => rfl
          case he26 => (rw [hWn, hg7]; go_simp <;> with_reducible rfl)
          intro hHeld
          simp only [List.set_cons_succ, List.set_cons_zero]
          clear hWn hg7 hb
          have HH := H _ _ _ _ _ _ _ _ ⟨⟨rfl, rfl⟩, ⟨_, _, _, rfl, rfl, rfl, rfl, rfl, hc6, own6, bz, lz, kbn⟩⟩ hHeld
          simp only [List.set_cons_succ, List.set_cons_zero] at HH
          exact name_lst12 (l' := [2, 3, 4, 5, 6, 7, 8].foldl (fun l i => l.setIfInBounds i true) #[true, true, false, false, false, false, false, false, false, false, false]) (by kernel_rfl) HH
        obtain ⟨g7, hg7⟩ : ∃ z, z = y1.heap.size := ⟨_, rfl⟩
        obtain ⟨y4, hWn⟩ : ∃ x, x = y1.alloc (.cells #[.int .i64 0, .int .i64 0, .int .i64 0, .int .i64 0, .bool false, .slice none 0 0, .int .i64 0, .int .i64 0] 26) := ⟨_, rfl⟩
        have hb : Below y1.heap.size y1 y4 := by rw [hWn]; exact below_al (below_d0 _) _
        have bz : BoxU y4 g7 noneT (.slice none 0 0) := by rw [hWn, hg7]; exact BoxU.new y1 noneT _
        have lz : w7.heap.size ≤ g7 := by rw [hg7]; exact kbn.size
        replace kbn := below_on kbn hb
        refine br_val (i := 8) (d := 13) (oi := ?o27) (v := .pointer (some ⟨g7, 0, none⟩)) (w' := y4) ?hi27 ?hd27 ?hw27 ?he27 kbn ?hc27
        case hi27 => (simp only [List.getElem?_toArray, List.getElem?_cons_succ, List.getElem?_cons_zero]; rfl)
        case hd27 => rfl
        case hw27 => rfl
        case he27 => (rw [hWn, hg7]; go_simp <;> with_reducible rfl)
        intro hHeld
        simp only [List.set_cons_succ, List.set_cons_zero]
        clear hWn hg7 hb
        refine wpAnyH_ready (rs := [4]) (by kernel_rfl) (by simp) ?_
        refine br_call (i := 4) (d := 63) (oi := ?o28) (f := ?f28) (args := ?a28) ?hi28 ?hd28 ?hw28 ?he28 ?hc28
        case hi28 => (simp only [List.getElem?_toArray, List.getElem?_cons_succ, List.getElem?_cons_zero]; rfl)
        case hd28 => rfl
        case hw28 => rfl
        case he28 => (go_simp; constructor <;> with_reducible rfl)
        refine Calls.mono (show Calls Try.prog 12 #[.agg #[.int .i64 t.sn.ix, .int .i64 t.sn.tm, .int .i64 t.sn.sm, .int .i64 t.sn.lv, .bool t.sn.fn, .slice A n c, .int .i64 t.tm, .int .i64 t.vt], .int .i64 L2] y4 (OutF (CutIs t L2) y4.heap.size y4) from D.cut t A n c L2 y4 (hS.on kbn kbn.size) (by omega) hnc HP.out.2.2.2.2.2.1 (Mid.i64 HP.out.2.2.2.2.2.2.2.1)) ?_
        intro e y5 hh
        obtain ⟨A6, c6, rfl, hc6, own6, hb⟩ := OutF.is (x := 2) (n := n) hh (fun h => ToldIs.same h HP.out.2.2.1) HP.out.2.2.2.2.1
        replace own6 := lowF own6 kbn.size
        replace kbn := below_on kbn hb
        replace bz := bz.below hb
        refine ⟨_, rfl, kbn, fun hHeld => ?_⟩
        simp only [List.set_cons_succ, List.set_cons_zero]
        clear hb
        refine take_at (i := 5) (d := 58) (oi := ?o29) (v := ?v29) ?hi29 ?hd29 (by kernel_rfl) (by kernel_rfl) (by kernel_rfl) ?hw29 ?hy29 ?hq29 (by assumption) ?r29
        case hi29 => (simp only [List.getElem?_toArray, List.getElem?_cons_succ, List.getElem?_cons_zero]; rfl)
        case hd29 => rfl
        case hw29 => rfl
        case hy29 => ((intro w hSw; (try dsimp only at hSw); obtain ⟨⟨s0, s1, s2, s3, s4, s5, s6, s7⟩, ⟨o0, o1, o2, o3, o4, o5, o6, o7⟩⟩ := HZ.out w hSw; rw [HC.out.1] at o0 o1 o2 o3 o4; rw [HC.out.2.1] at o6; rw [HC.out.2.2] at o7; go_simp) <;> (with_reducible rfl))
        case hq29 => exact fun _ _ _ h => h
        simp only [List.set_cons_succ, List.set_cons_zero]
        refine take_at (i := 6) (d := 64) (oi := ?o30) (v := ?v30) ?hi30 ?hd30 (by kernel_rfl) (by kernel_rfl) (by kernel_rfl) ?hw30 ?hy30 ?hq30 (by assumption) ?r30
        case hi30 => (simp only [List.getElem?_toArray, List.getElem?_cons_succ, List.getElem?_cons_zero]; rfl)
        case hd30 => rfl
        case hw30 => rfl
        case hy30 => ((intro w hSw; (try dsimp only at hSw); obtain ⟨⟨s0, s1, s2, s3, s4, s5, s6, s7⟩, ⟨o0, o1, o2, o3, o4, o5, o6, o7⟩⟩ := HZ.out w hSw; rw [HC.out.1] at o0 o1 o2 o3 o4; rw [HC.out.2.1] at o6; rw [HC.out.2.2] at o7; go_simp) <;> (with_reducible rfl))
        case hq30 => exact fun _ _ _ h => h
        simp only [List.set_cons_succ, List.set_cons_zero]
        refine take_at (i := 7) (d := 65) (oi := ?o31) (v := ?v31) ?hi31 ?hd31 (by kernel_rfl) (by kernel_rfl) (by kernel_rfl) ?hw31 ?hy31 ?hq31 (by assumption) ?r31
        case hi31 => (simp only [List.getElem?_toArray, List.getElem?_cons_succ, List.getElem?_cons_zero]; rfl)
        case hd31 => rfl
        case hw31 => rfl
        case hy31 => ((intro w hSw; (try dsimp only at hSw); obtain ⟨⟨s0, s1, s2, s3, s4, s5, s6, s7⟩, ⟨o0, o1, o2, o3, o4, o5, o6, o7⟩⟩ := HZ.out w hSw; rw [HC.out.1] at o0 o1 o2 o3 o4; rw [HC.out.2.1] at o6; rw [HC.out.2.2] at o7; go_simp) <;> (with_reducible rfl))
        case hq31 => exact fun _ _ _ h => h
        simp only [List.set_cons_succ, List.set_cons_zero]
        have HH := H _ _ _ _ _ _ _ _ ⟨⟨rfl, rfl⟩, ⟨_, _, _, rfl, rfl, rfl, rfl, rfl, hc6, own6, bz, lz, kbn⟩⟩ hHeld
        simp only [List.set_cons_succ, List.set_cons_zero] at HH
        exact name_lst12 (l' := [2, 3, 4, 5, 6, 7, 8].foldl (fun l i => l.setIfInBounds i true) #[true, true, false, false, false, false, false, false, false, false, false]) (by kernel_rfl) HH
      obtain ⟨g7, hg7⟩ : ∃ z, z = w7.drew.heap.size := ⟨_, rfl⟩
      obtain ⟨y6, hWn⟩ : ∃ x, x = w7.drew.alloc (.cells #[.int .i64 0, .int .i64 0, .int .i64 0, .int .i64 0, .bool false, .slice none 0 0, .int .i64 0, .int .i64 0] 26) := ⟨_, rfl⟩
      have hb : Below w7.drew.heap.size w7.drew y6 := by rw [hWn]; exact below_al (below_d0 _) _
      have bz : BoxU y6 g7 noneT (.slice none 0 0) := by rw [hWn, hg7]; exact BoxU.new w7.drew noneT _
      have lz : w7.heap.size ≤ g7 := by rw [hg7]; exact kbn.size
      replace kbn := below_on kbn hb
      refine br_val (i := 8) (d := 13) (oi := ?o32) (v := .pointer (some ⟨g7, 0, none⟩)) (w' := y6) ?hi32 ?hd32 ?hw32 ?he32 kbn ?hc32
      case hi32 => (simp only [List.getElem?_toArray, List.getElem?_cons_succ, List.getElem?_cons_zero]; rfl)
      case hd32 => rfl
      case hw32 => rfl
      case he32 => (rw [hWn, hg7]; go_simp <;> with_reducible rfl)
      intro hHeld
      simp only [List.set_cons_succ, List.set_cons_zero]
      clear hWn hg7 hb
      refine wpAnyH_ready (rs := [2]) (by kernel_rfl) (by simp) ?_
      refine br_call (i := 2) (d := 61) (oi := ?o33) (f := ?f33) (args := ?a33) ?hi33 ?hd33 ?hw33 ?he33 ?hc33
      case hi33 => (simp only [List.getElem?_toArray, List.getElem?_cons_succ, List.getElem?_cons_zero]; rfl)
      case hd33 => rfl
      case hw33 => rfl
      case he33 => (go_simp; constructor <;> with_reducible rfl)
      refine Calls.mono (show Calls Try.prog 29 #[.agg #[.int .i64 t.sn.ix, .int .i64 t.sn.tm, .int .i64 t.sn.sm, .int .i64 t.sn.lv, .bool t.sn.fn, .slice A n c, .int .i64 t.tm, .int .i64 t.vt]] y6 (fun e w' => e = .returned (.int .i64 L) ∧ Below y6.heap.size y6 w') from by rw [HL.out]; exact D.last t A n c y6 (hS.on kbn kbn.size) (by omega) HP.out.2.2.2.2.2.1) ?_
      rintro e y7 ⟨rfl, hb⟩
      replace kbn := below_on kbn hb
      replace bz := bz.below hb
      refine ⟨_, rfl, kbn, fun hHeld => ?_⟩
      simp only [List.set_cons_succ, List.set_cons_zero]
      clear hb
      refine take_at (i := 3) (d := 62) (oi := ?o34) (v := ?v34) ?hi34 ?hd34 (by kernel_rfl) (by kernel_rfl) (by kernel_rfl) ?hw34 ?hy34 ?hq34 (by assumption) ?r34
      case hi34 => (simp only [List.getElem?_toArray, List.getElem?_cons_succ, List.getElem?_cons_zero]; rfl)
      case hd34 => rfl
      case hw34 => rfl
      case hy34 => ((intro w hSw; (try dsimp only at hSw); obtain ⟨⟨s0, s1, s2, s3, s4, s5, s6, s7⟩, ⟨o0, o1, o2, o3, o4, o5, o6, o7⟩⟩ := HZ.out w hSw; rw [HC.out.1] at o0 o1 o2 o3 o4; rw [HC.out.2.1] at o6; rw [HC.out.2.2] at o7; go_simp) <;> (with_reducible rfl))
      case hq34 => exact fun _ _ _ h => h
      simp only [List.set_cons_succ, List.set_cons_zero]
      refine wpAnyH_ready (rs := [4]) (by kernel_rfl) (by simp) ?_
      refine br_call (i := 4) (d := 63) (oi := ?o35) (f := ?f35) (args := ?a35) ?hi35 ?hd35 ?hw35 ?he35 ?hc35
      case hi35 => (simp only [List.getElem?_toArray, List.getElem?_cons_succ, List.getElem?_cons_zero]; rfl)
      case hd35 => rfl
      case hw35 => rfl
      case he35 => (go_simp; constructor <;> with_reducible rfl)
      refine Calls.mono (show Calls Try.prog 12 #[.agg #[.int .i64 t.sn.ix, .int .i64 t.sn.tm, .int .i64 t.sn.sm, .int .i64 t.sn.lv, .bool t.sn.fn, .slice A n c, .int .i64 t.tm, .int .i64 t.vt], .int .i64 L2] y7 (OutF (CutIs t L2) y7.heap.size y7) from D.cut t A n c L2 y7 (hS.on kbn kbn.size) (by omega) hnc HP.out.2.2.2.2.2.1 (Mid.i64 HP.out.2.2.2.2.2.2.2.1)) ?_
      intro e y8 hh
      obtain ⟨A6, c6, rfl, hc6, own6, hb⟩ := OutF.is (x := 2) (n := n) hh (fun h => ToldIs.same h HP.out.2.2.1) HP.out.2.2.2.2.1
      replace own6 := lowF own6 kbn.size
      replace kbn := below_on kbn hb
      replace bz := bz.below hb
      refine ⟨_, rfl, kbn, fun hHeld => ?_⟩
      simp only [List.set_cons_succ, List.set_cons_zero]
      clear hb
      refine take_at (i := 5) (d := 58) (oi := ?o36) (v := ?v36) ?hi36 ?hd36 (by kernel_rfl) (by kernel_rfl) (by kernel_rfl) ?hw36 ?hy36 ?hq36 (by assumption) ?r36
      case hi36 => (simp only [List.getElem?_toArray, List.getElem?_cons_succ, List.getElem?_cons_zero]; rfl)
      case hd36 => rfl
      case hw36 => rfl
      case hy36 => ((intro w hSw; (try dsimp only at hSw); obtain ⟨⟨s0, s1, s2, s3, s4, s5, s6, s7⟩, ⟨o0, o1, o2, o3, o4, o5, o6, o7⟩⟩ := HZ.out w hSw; rw [HC.out.1] at o0 o1 o2 o3 o4; rw [HC.out.2.1] at o6; rw [HC.out.2.2] at o7; go_simp) <;> (with_reducible rfl))
      case hq36 => exact fun _ _ _ h => h
      simp only [List.set_cons_succ, List.set_cons_zero]
      refine take_at (i := 6) (d := 64) (oi := ?o37) (v := ?v37) ?hi37 ?hd37 (by kernel_rfl) (by kernel_rfl) (by kernel_rfl) ?hw37 ?hy37 ?hq37 (by assumption) ?r37
      case hi37 => (simp only [List.getElem?_toArray, List.getElem?_cons_succ, List.getElem?_cons_zero]; rfl)
      case hd37 => rfl
      case hw37 => rfl
      case hy37 => ((intro w hSw; (try dsimp only at hSw); obtain ⟨⟨s0, s1, s2, s3, s4, s5, s6, s7⟩, ⟨o0, o1, o2, o3, o4, o5, o6, o7⟩⟩ := HZ.out w hSw; rw [HC.out.1] at o0 o1 o2 o3 o4; rw [HC.out.2.1] at o6; rw [HC.out.2.2] at o7; go_simp) <;> (with_reducible rfl))
      case hq37 => exact fun _ _ _ h => h
      simp only [List.set_cons_succ, List.set_cons_zero]
      refine take_at (i := 7) (d := 65) (oi := ?o38) (v := ?v38) ?hi38 ?hd38 (by kernel_rfl) (by kernel_rfl) (by kernel_rfl) ?hw38 ?hy38 ?hq38 (by assumption) ?r38
      case hi38 => (simp only [List.getElem?_toArray, List.getElem?_cons_succ, List.getElem?_cons_zero]; rfl)
      case hd38 => rfl
      case hw38 => rfl
      case hy38 => ((intro w hSw; (try dsimp only at hSw); obtain ⟨⟨s0, s1, s2, s3, s4, s5, s6, s7⟩, ⟨o0, o1, o2, o3, o4, o5, o6, o7⟩⟩ := HZ.out w hSw; rw [HC.out.1] at o0 o1 o2 o3 o4; rw [HC.out.2.1] at o6; rw [HC.out.2.2] at o7; go_simp) <;> (with_reducible rfl))
      case hq38 => exact fun _ _ _ h => h
      simp only [List.set_cons_succ, List.set_cons_zero]
      have HH := H _ _ _ _ _ _ _ _ ⟨⟨rfl, rfl⟩, ⟨_, _, _, rfl, rfl, rfl, rfl, rfl, hc6, own6, bz, lz, kbn⟩⟩ hHeld
      simp only [List.set_cons_succ, List.set_cons_zero] at HH
      exact name_lst12 (l' := [2, 3, 4, 5, 6, 7, 8].foldl (fun l i => l.setIfInBounds i true) #[true, true, false, false, false, false, false, false, false, false, false]) (by kernel_rfl) HH
    case rest =>
      rintro v1 v2 v3 v4 v5 v6 v7 W' ⟨⟨rfl, rfl⟩, ⟨A6, c6, zq, rfl, rfl, rfl, rfl, rfl, hc6, own6, bq, lz, kb⟩⟩ hHeld
      simp only [List.set_cons_succ, List.set_cons_zero]
      clear bz bc own3 own4
      obtain ⟨bz, bc, own3, own4⟩ := HO.out
      replace bz := bz.below kb
      replace bc := bc.below kb
      replace own3 := keepF own3 kb
      replace own4 := keepF own4 kb
      obtain ⟨w8, hw8⟩ : ∃ x, x = putU W' zq t (.slice A6 n c6) := ⟨_, rfl⟩
      have bz9 : BoxU w8 z1 t (.slice A n c) := by rw [hw8]; exact putU_boxes bz (by omega)
      have bc9 : BoxU w8 z4 cc (.slice A3 p c3) := by rw [hw8]; exact putU_boxes bc (by omega)
      have bq9 : BoxU w8 zq t (.slice A6 n c6) := by rw [hw8]; exact putU_box bq t _
      have own39 := putU_ownF (m := t) (x := .slice A6 n c6) bq own3
      rw [← hw8] at own39
      have own49 := putU_ownF (m := t) (x := .slice A6 n c6) bq own4
      rw [← hw8] at own49
      have own69 := putU_ownF (m := t) (x := .slice A6 n c6) bq own6
      rw [← hw8] at own69
      have bb4 : BoxU w8 z10 t (.slice A4 n c4) := by rw [hw8]; exact putU_boxes (hbb4.below kb) (by omega)
      have kb9 : Below w7.heap.size w7 w8 := by rw [hw8]; exact putU_below lz t _ kb
      have e9 : w8 = ((((((((W'.setCell ⟨zq, 0, none⟩ (.int .i64 t.sn.ix)).setCell ⟨zq, 1, none⟩ (.int .i64 t.sn.tm)).setCell ⟨zq, 2, none⟩ (.int .i64 t.sn.sm)).setCell ⟨zq, 3, none⟩ (.int .i64 t.sn.lv)).setCell ⟨zq, 4, none⟩ (.bool t.sn.fn)).setCell ⟨zq, 5, none⟩ (.slice A6 n c6)).setCell ⟨zq, 6, none⟩ (.int .i64 t.tm)).setCell ⟨zq, 7, none⟩ (.int .i64 t.vt)) := hw8
      obtain ⟨g0, g1, g2, g3, g4, g5, g6, g7⟩ := bq.cells
      have f0 := bq.frozen 0
      have f1 := bq.frozen 1
      have f2 := bq.frozen 2
      have f3 := bq.frozen 3
      have f4 := bq.frozen 4
      have f5 := bq.frozen 5
      have f6 := bq.frozen 6
      have f7 := bq.frozen 7
      refine wpAnyH_ready (rs := [9]) (by kernel_rfl) (by simp) ?_
      refine br_store (i := 9) (oi := ?o39) (w' := w8) ?hi39 ?hd39 ?hw39 ?he39 kb9 ?hc39
      case hi39 => (simp only [List.getElem?_toArray, List.getElem?_cons_succ, List.getElem?_cons_zero]; rfl)
      case hd39 => rfl
      case hw39 => rfl
      case he39 => (rw [e9]; go_simp <;> with_reducible rfl)
      intro hHeld
      clear e9 g0 g1 g2 g3 g4 g5 g6 g7 f0 f1 f2 f3 f4 f5 f6 f7
      refine take_at (i := 10) (d := 14) (oi := ?o40) (v := ?v40) ?hi40 ?hd40 (by kernel_rfl) (by kernel_rfl) (by kernel_rfl) ?hw40 ?hy40 ?hq40 (by assumption) ?r40
      case hi40 => (simp only [List.getElem?_toArray, List.getElem?_cons_succ, List.getElem?_cons_zero]; rfl)
      case hd40 => rfl
      case hw40 => rfl
      case hy40 => ((intro w hSw; (try dsimp only at hSw); obtain ⟨⟨s0, s1, s2, s3, s4, s5, s6, s7⟩, ⟨o0, o1, o2, o3, o4, o5, o6, o7⟩⟩ := HZ.out w hSw; rw [HC.out.1] at o0 o1 o2 o3 o4; rw [HC.out.2.1] at o6; rw [HC.out.2.2] at o7; go_simp) <;> (with_reducible rfl))
      case hq40 => exact fun _ _ _ h => h
      simp only [List.set_cons_succ, List.set_cons_zero]
      refine wpAnyH_done (by kernel_rfl) ?_ _
      have B8 := B7.trans (kb9.mono B7.size)
      have hS := HS1.out.on kb9 kb9.size
      clear hHeld hw8 bq bz bc kb lz HO HZ kb9 lbz lbc HS1 own3 own4 own6
      have bz := bz9
      clear bz9
      have bc := bc9
      clear bc9
      have own3 := own39
      clear own39
      have own4 := own49
      clear own49
      have own6 := own69
      clear own69
      clear bq9 hbb4 own6 lbb4
      go_wp2_with fail
      have qst : ∀ W : World, (binOp .eql 23 (.agg #[.int .i64 t.sn.ix, .int .i64 t.sn.tm, .int .i64 t.sn.sm, .int .i64 t.sn.lv, .bool t.sn.fn]) (.agg #[.int .i64 t.sn.ix, .int .i64 t.sn.tm, .int .i64 t.sn.sm, .int .i64 t.sn.lv, .bool t.sn.fn])).run Try.prog W = .ok (.bool true) W := fun W => by have h := eql_st t.sn t.sn W; rw [decide_eq_true rfl] at h; exact h
      have HZ := Lib.hid (fun (Y : World) (hY : Below w8.heap.size w8 Y) => (⟨(bz.below hY).cells, (bc.below hY).cells, (bb4.below hY).cells⟩ : _ ∧ _ ∧ _))
      have kD : Below w8.heap.size w8 w8.drew := (Below.refl _ _).drew
      refine wp_region_held_drew (S := (fun Y => Below w8.heap.size w8 Y)) (by kernel_rfl) kD (fun hHeld => ?_)
      refine take_at (i := 0) (d := 66) (oi := ?o41) (v := ?v41) ?hi41 ?hd41 (by kernel_rfl) (by kernel_rfl) (by kernel_rfl) ?hw41 ?hy41 ?hq41 (by assumption) ?r41
      case hi41 => (simp only [List.getElem?_toArray, List.getElem?_cons_zero]; rfl)
      case hd41 => rfl
      case hw41 => rfl
      case hy41 => ((intro w hSw; (try dsimp only at hSw); obtain ⟨⟨s0, s1, s2, s3, s4, s5, s6, s7⟩, ⟨o0, o1, o2, o3, o4, o5, o6, o7⟩, ⟨x0, x1, x2, x3, x4, x5, x6, x7⟩⟩ := HZ.out w hSw; rw [HC.out.1] at o0 o1 o2 o3 o4; rw [HC.out.2.1] at o6; rw [HC.out.2.2] at o7; go_simp) <;> (with_reducible rfl))
      case hq41 => exact fun _ _ _ h => h
      simp only [List.set_cons_succ, List.set_cons_zero]
      refine take_at (i := 1) (d := 67) (oi := ?o42) (v := ?v42) ?hi42 ?hd42 (by kernel_rfl) (by kernel_rfl) (by kernel_rfl) ?hw42 ?hy42 ?hq42 (by assumption) ?r42
      case hi42 => (simp only [List.getElem?_toArray, List.getElem?_cons_succ, List.getElem?_cons_zero]; rfl)
      case hd42 => rfl
      case hw42 => rfl
      case hy42 => ((intro w hSw; (try dsimp only at hSw); obtain ⟨⟨s0, s1, s2, s3, s4, s5, s6, s7⟩, ⟨o0, o1, o2, o3, o4, o5, o6, o7⟩, ⟨x0, x1, x2, x3, x4, x5, x6, x7⟩⟩ := HZ.out w hSw; rw [HC.out.1] at o0 o1 o2 o3 o4; rw [HC.out.2.1] at o6; rw [HC.out.2.2] at o7; go_simp) <;> (with_reducible rfl))
      case hq42 => exact fun _ _ _ h => h
      simp only [List.set_cons_succ, List.set_cons_zero]
      refine take_at (i := 2) (d := 68) (oi := ?o43) (v := ?v43) ?hi43 ?hd43 (by kernel_rfl) (by kernel_rfl) (by kernel_rfl) ?hw43 ?hy43 ?hq43 (by assumption) ?r43
      case hi43 => (simp only [List.getElem?_toArray, List.getElem?_cons_succ, List.getElem?_cons_zero]; rfl)
      case hd43 => rfl
      case hw43 => rfl
      case hy43 => ((intro w hSw; (try dsimp only at hSw); obtain ⟨⟨s0, s1, s2, s3, s4, s5, s6, s7⟩, ⟨o0, o1, o2, o3, o4, o5, o6, o7⟩, ⟨x0, x1, x2, x3, x4, x5, x6, x7⟩⟩ := HZ.out w hSw; rw [HC.out.1] at o0 o1 o2 o3 o4; rw [HC.out.2.1] at o6; rw [HC.out.2.2] at o7; go_simp) <;> (with_reducible rfl))
      case hq43 => exact fun _ _ _ h => h
      simp only [List.set_cons_succ, List.set_cons_zero]
      refine take_at (i := 3) (d := 69) (oi := ?o44) (v := ?v44) ?hi44 ?hd44 (by kernel_rfl) (by kernel_rfl) (by kernel_rfl) ?hw44 ?hy44 ?hq44 (by assumption) ?r44
      case hi44 => (simp only [List.getElem?_toArray, List.getElem?_cons_succ, List.getElem?_cons_zero]; rfl)
      case hd44 => rfl
      case hw44 => rfl
      case hy44 => ((intro w hSw; (try dsimp only at hSw); obtain ⟨⟨s0, s1, s2, s3, s4, s5, s6, s7⟩, ⟨o0, o1, o2, o3, o4, o5, o6, o7⟩, ⟨x0, x1, x2, x3, x4, x5, x6, x7⟩⟩ := HZ.out w hSw; rw [HC.out.1] at o0 o1 o2 o3 o4; rw [HC.out.2.1] at o6; rw [HC.out.2.2] at o7; go_simp) <;> (with_reducible rfl))
      case hq44 => exact fun _ _ _ h => h
      simp only [List.set_cons_succ, List.set_cons_zero]
      refine take_at (i := 4) (d := 70) (oi := ?o45) (v := ?v45) ?hi45 ?hd45 (by kernel_rfl) (by kernel_rfl) (by kernel_rfl) ?hw45 ?hy45 ?hq45 (by assumption) ?r45
      case hi45 => (simp only [List.getElem?_toArray, List.getElem?_cons_succ, List.getElem?_cons_zero]; rfl)
      case hd45 => rfl
      case hw45 => rfl
      case hy45 => ((intro w hSw; (try dsimp only at hSw); obtain ⟨⟨s0, s1, s2, s3, s4, s5, s6, s7⟩, ⟨o0, o1, o2, o3, o4, o5, o6, o7⟩, ⟨x0, x1, x2, x3, x4, x5, x6, x7⟩⟩ := HZ.out w hSw; rw [HC.out.1] at o0 o1 o2 o3 o4; rw [HC.out.2.1] at o6; rw [HC.out.2.2] at o7; go_simp) <;> (with_reducible rfl))
      case hq45 => exact fun _ _ _ h => h
      simp only [List.set_cons_succ, List.set_cons_zero]
      refine take_at (i := 5) (d := 71) (oi := ?o46) (v := ?v46) ?hi46 ?hd46 (by kernel_rfl) (by kernel_rfl) (by kernel_rfl) ?hw46 ?hy46 ?hq46 (by assumption) ?r46
      case hi46 => (simp only [List.getElem?_toArray, List.getElem?_cons_succ, List.getElem?_cons_zero]; rfl)
      case hd46 => rfl
      case hw46 => rfl
      case hy46 => ((intro w hSw; (try dsimp only at hSw); obtain ⟨⟨s0, s1, s2, s3, s4, s5, s6, s7⟩, ⟨o0, o1, o2, o3, o4, o5, o6, o7⟩, ⟨x0, x1, x2, x3, x4, x5, x6, x7⟩⟩ := HZ.out w hSw; rw [HC.out.1] at o0 o1 o2 o3 o4; rw [HC.out.2.1] at o6; rw [HC.out.2.2] at o7; go_simp) <;> (with_reducible rfl))
      case hq46 => exact fun _ _ _ h => h
      simp only [List.set_cons_succ, List.set_cons_zero]
      refine take_at (i := 6) (d := 72) (oi := ?o47) (v := ?v47) ?hi47 ?hd47 (by kernel_rfl) (by kernel_rfl) (by kernel_rfl) ?hw47 ?hy47 ?hq47 (by assumption) ?r47
      case hi47 => (simp only [List.getElem?_toArray, List.getElem?_cons_succ, List.getElem?_cons_zero]; rfl)
      case hd47 => rfl
      case hw47 => rfl
      case hy47 => ((intro w hSw; (try dsimp only at hSw); obtain ⟨⟨s0, s1, s2, s3, s4, s5, s6, s7⟩, ⟨o0, o1, o2, o3, o4, o5, o6, o7⟩, ⟨x0, x1, x2, x3, x4, x5, x6, x7⟩⟩ := HZ.out w hSw; rw [HC.out.1] at o0 o1 o2 o3 o4; rw [HC.out.2.1] at o6; rw [HC.out.2.2] at o7; go_simp) <;> (with_reducible rfl))
      case hq47 => exact fun _ _ _ h => h
      simp only [List.set_cons_succ, List.set_cons_zero]
      refine take_at (i := 7) (d := 73) (oi := ?o48) (v := ?v48) ?hi48 ?hd48 (by kernel_rfl) (by kernel_rfl) (by kernel_rfl) ?hw48 ?hy48 ?hq48 (by assumption) ?r48
      case hi48 => (simp only [List.getElem?_toArray, List.getElem?_cons_succ, List.getElem?_cons_zero]; rfl)
      case hd48 => rfl
      case hw48 => rfl
      case hy48 => ((intro w hSw; (try dsimp only at hSw); obtain ⟨⟨s0, s1, s2, s3, s4, s5, s6, s7⟩, ⟨o0, o1, o2, o3, o4, o5, o6, o7⟩, ⟨x0, x1, x2, x3, x4, x5, x6, x7⟩⟩ := HZ.out w hSw; rw [HC.out.1] at o0 o1 o2 o3 o4; rw [HC.out.2.1] at o6; rw [HC.out.2.2] at o7; go_simp) <;> (with_reducible rfl))
      case hq48 => exact fun _ _ _ h => h
      simp only [List.set_cons_succ, List.set_cons_zero]
      refine take_at (i := 8) (d := 74) (oi := ?o49) (v := ?v49) ?hi49 ?hd49 (by kernel_rfl) (by kernel_rfl) (by kernel_rfl) ?hw49 ?hy49 ?hq49 (by assumption) ?r49
      case hi49 => (simp only [List.getElem?_toArray, List.getElem?_cons_succ, List.getElem?_cons_zero]; rfl)
      case hd49 => rfl
      case hw49 => rfl
      case hy49 => ((intro w hSw; (try dsimp only at hSw); obtain ⟨⟨s0, s1, s2, s3, s4, s5, s6, s7⟩, ⟨o0, o1, o2, o3, o4, o5, o6, o7⟩, ⟨x0, x1, x2, x3, x4, x5, x6, x7⟩⟩ := HZ.out w hSw; rw [HC.out.1] at o0 o1 o2 o3 o4; rw [HC.out.2.1] at o6; rw [HC.out.2.2] at o7; go_simp) <;> (with_reducible rfl))
      case hq49 => exact fun _ _ _ h => h
      simp only [List.set_cons_succ, List.set_cons_zero]
      refine take_at (i := 9) (d := 75) (oi := ?o50) (v := ?v50) ?hi50 ?hd50 (by kernel_rfl) (by kernel_rfl) (by kernel_rfl) ?hw50 ?hy50 ?hq50 (by assumption) ?r50
      case hi50 => (simp only [List.getElem?_toArray, List.getElem?_cons_succ, List.getElem?_cons_zero]; rfl)
      case hd50 => rfl
      case hw50 => rfl
      case hy50 => ((intro w hSw; (try dsimp only at hSw); obtain ⟨⟨s0, s1, s2, s3, s4, s5, s6, s7⟩, ⟨o0, o1, o2, o3, o4, o5, o6, o7⟩, ⟨x0, x1, x2, x3, x4, x5, x6, x7⟩⟩ := HZ.out w hSw; rw [HC.out.1] at o0 o1 o2 o3 o4; rw [HC.out.2.1] at o6; rw [HC.out.2.2] at o7; go_simp) <;> (with_reducible rfl))
      case hq50 => exact fun _ _ _ h => h
      simp only [List.set_cons_succ, List.set_cons_zero]
      refine take_at (i := 10) (d := 76) (oi := ?o51) (v := ?v51) ?hi51 ?hd51 (by kernel_rfl) (by kernel_rfl) (by kernel_rfl) ?hw51 ?hy51 ?hq51 (by assumption) ?r51
      case hi51 => (simp only [List.getElem?_toArray, List.getElem?_cons_succ, List.getElem?_cons_zero]; rfl)
      case hd51 => rfl
      case hw51 => rfl
      case hy51 => ((intro w hSw; (try dsimp only at hSw); obtain ⟨⟨s0, s1, s2, s3, s4, s5, s6, s7⟩, ⟨o0, o1, o2, o3, o4, o5, o6, o7⟩, ⟨x0, x1, x2, x3, x4, x5, x6, x7⟩⟩ := HZ.out w hSw; rw [HC.out.1] at o0 o1 o2 o3 o4; rw [HC.out.2.1] at o6; rw [HC.out.2.2] at o7; go_simp) <;> (with_reducible rfl))
      case hq51 => exact fun _ _ _ h => h
      simp only [List.set_cons_succ, List.set_cons_zero]
      refine take_at (i := 11) (d := 77) (oi := ?o52) (v := ?v52) ?hi52 ?hd52 (by kernel_rfl) (by kernel_rfl) (by kernel_rfl) ?hw52 ?hy52 ?hq52 (by assumption) ?r52
      case hi52 => (simp only [List.getElem?_toArray, List.getElem?_cons_succ, List.getElem?_cons_zero]; rfl)
      case hd52 => rfl
      case hw52 => rfl
      case hy52 => ((intro w hSw; (try dsimp only at hSw); obtain ⟨⟨s0, s1, s2, s3, s4, s5, s6, s7⟩, ⟨o0, o1, o2, o3, o4, o5, o6, o7⟩, ⟨x0, x1, x2, x3, x4, x5, x6, x7⟩⟩ := HZ.out w hSw; rw [HC.out.1] at o0 o1 o2 o3 o4; rw [HC.out.2.1] at o6; rw [HC.out.2.2] at o7; go_simp) <;> (with_reducible rfl))
      case hq52 => exact fun _ _ _ h => h
      simp only [List.set_cons_succ, List.set_cons_zero]
      refine take_at (i := 12) (d := 78) (oi := ?o53) (v := ?v53) ?hi53 ?hd53 (by kernel_rfl) (by kernel_rfl) (by kernel_rfl) ?hw53 ?hy53 ?hq53 (by assumption) ?r53
      case hi53 => (simp only [List.getElem?_toArray, List.getElem?_cons_succ, List.getElem?_cons_zero]; rfl)
      case hd53 => rfl
      case hw53 => rfl
      case hy53 => ((intro w hSw; (try dsimp only at hSw); obtain ⟨⟨s0, s1, s2, s3, s4, s5, s6, s7⟩, ⟨o0, o1, o2, o3, o4, o5, o6, o7⟩, ⟨x0, x1, x2, x3, x4, x5, x6, x7⟩⟩ := HZ.out w hSw; rw [HC.out.1] at o0 o1 o2 o3 o4; rw [HC.out.2.1] at o6; rw [HC.out.2.2] at o7; go_simp) <;> (with_reducible rfl))
      case hq53 => exact fun _ _ _ h => h
      simp only [List.set_cons_succ, List.set_cons_zero]
      refine take_at (i := 13) (d := 79) (oi := ?o54) (v := ?v54) ?hi54 ?hd54 (by kernel_rfl) (by kernel_rfl) (by kernel_rfl) ?hw54 ?hy54 ?hq54 (by assumption) ?r54
      case hi54 => (simp only [List.getElem?_toArray, List.getElem?_cons_succ, List.getElem?_cons_zero]; rfl)
      case hd54 => rfl
      case hw54 => rfl
      case hy54 => ((intro w hSw; (try dsimp only at hSw); obtain ⟨⟨s0, s1, s2, s3, s4, s5, s6, s7⟩, ⟨o0, o1, o2, o3, o4, o5, o6, o7⟩, ⟨x0, x1, x2, x3, x4, x5, x6, x7⟩⟩ := HZ.out w hSw; rw [HC.out.1] at o0 o1 o2 o3 o4; rw [HC.out.2.1] at o6; rw [HC.out.2.2] at o7; go_simp) <;> (with_reducible rfl))
      case hq54 => exact fun _ _ _ h => h
      simp only [List.set_cons_succ, List.set_cons_zero]
      refine take_at (i := 14) (d := 80) (oi := ?o55) (v := ?v55) ?hi55 ?hd55 (by kernel_rfl) (by kernel_rfl) (by kernel_rfl) ?hw55 ?hy55 ?hq55 (by assumption) ?r55
      case hi55 => (simp only [List.getElem?_toArray, List.getElem?_cons_succ, List.getElem?_cons_zero]; rfl)
      case hd55 => rfl
      case hw55 => rfl
      case hy55 => ((intro w hSw; (try dsimp only at hSw); obtain ⟨⟨s0, s1, s2, s3, s4, s5, s6, s7⟩, ⟨o0, o1, o2, o3, o4, o5, o6, o7⟩, ⟨x0, x1, x2, x3, x4, x5, x6, x7⟩⟩ := HZ.out w hSw; rw [HC.out.1] at o0 o1 o2 o3 o4; rw [HC.out.2.1] at o6; rw [HC.out.2.2] at o7; go_simp) <;> (with_reducible rfl))
      case hq55 => exact fun _ _ _ h => h
      simp only [List.set_cons_succ, List.set_cons_zero]
      refine take_at (i := 15) (d := 81) (oi := ?o56) (v := ?v56) ?hi56 ?hd56 (by kernel_rfl) (by kernel_rfl) (by kernel_rfl) ?hw56 ?hy56 ?hq56 (by assumption) ?r56
      case hi56 => (simp only [List.getElem?_toArray, List.getElem?_cons_succ, List.getElem?_cons_zero]; rfl)
      case hd56 => rfl
      case hw56 => rfl
      case hy56 => ((intro w hSw; (try dsimp only at hSw); obtain ⟨⟨s0, s1, s2, s3, s4, s5, s6, s7⟩, ⟨o0, o1, o2, o3, o4, o5, o6, o7⟩, ⟨x0, x1, x2, x3, x4, x5, x6, x7⟩⟩ := HZ.out w hSw; rw [HC.out.1] at o0 o1 o2 o3 o4; rw [HC.out.2.1] at o6; rw [HC.out.2.2] at o7; go_simp) <;> (with_reducible rfl))
      case hq56 => exact fun _ _ _ h => h
      simp only [List.set_cons_succ, List.set_cons_zero]
      refine take_at (i := 16) (d := 82) (oi := ?o57) (v := ?v57) ?hi57 ?hd57 (by kernel_rfl) (by kernel_rfl) (by kernel_rfl) ?hw57 ?hy57 ?hq57 (by assumption) ?r57
      case hi57 => (simp only [List.getElem?_toArray, List.getElem?_cons_succ, List.getElem?_cons_zero]; rfl)
      case hd57 => rfl
      case hw57 => rfl
      case hy57 => ((intro w hSw; (try dsimp only at hSw); obtain ⟨⟨s0, s1, s2, s3, s4, s5, s6, s7⟩, ⟨o0, o1, o2, o3, o4, o5, o6, o7⟩, ⟨x0, x1, x2, x3, x4, x5, x6, x7⟩⟩ := HZ.out w hSw; rw [HC.out.1] at o0 o1 o2 o3 o4; rw [HC.out.2.1] at o6; rw [HC.out.2.2] at o7; go_simp) <;> (with_reducible rfl))
      case hq57 => exact fun _ _ _ h => h
      simp only [List.set_cons_succ, List.set_cons_zero]
      refine call_at (i := 17) (d := 83) (oi := ?o58) (f := ?f58) (args := ?a58) ?hi58 ?hd58 (by kernel_rfl) ?hw58 ?he58 ?hc58
      case hi58 => (simp only [List.getElem?_toArray, List.getElem?_cons_succ, List.getElem?_cons_zero]; rfl)
      case hd58 => rfl
      case hw58 => rfl
      case he58 => (go_simp; constructor <;> with_reducible rfl)
      refine Calls.mono (show Calls Try.prog 14 #[.agg #[.int .i64 t.sn.ix, .int .i64 t.sn.tm, .int .i64 t.sn.sm, .int .i64 t.sn.lv, .bool t.sn.fn, .slice A4 n c4, .int .i64 t.tm, .int .i64 t.vt], .agg #[.int .i64 t.sn.ix, .int .i64 t.sn.tm, .int .i64 t.sn.sm, .int .i64 t.sn.lv, .bool t.sn.fn, .slice A n c, .int .i64 t.tm, .int .i64 t.vt]] w8.drew (fun e w' => (∃ r, SameT t t r ∧ e = .returned (.bool r)) ∧ Below w8.drew.heap.size w8.drew w') from rsameT_any t t A4 A n n c4 c w8.drew (OwnF.es (keepF own4 kD)) (hS.on kD kD.size) (by omega) (by omega)) ?_
      rintro e xa ⟨⟨r, hr, rfl⟩, bA⟩
      obtain rfl := hr.same (sameT_yes rfl)
      have kA : Below w8.heap.size w8 xa := kD.trans bA
      refine ⟨_, rfl, kA, fun hHeld => ?_⟩
      simp only [List.set_cons_succ, List.set_cons_zero]
      refine take_at (i := 18) (d := 84) (oi := ?o59) (v := ?v59) ?hi59 ?hd59 (by kernel_rfl) (by kernel_rfl) (by kernel_rfl) ?hw59 ?hy59 ?hq59 (by assumption) ?r59
      case hi59 => (simp only [List.getElem?_toArray, List.getElem?_cons_succ, List.getElem?_cons_zero]; rfl)
      case hd59 => rfl
      case hw59 => rfl
      case hy59 => ((intro w hSw; (try dsimp only at hSw); obtain ⟨⟨s0, s1, s2, s3, s4, s5, s6, s7⟩, ⟨o0, o1, o2, o3, o4, o5, o6, o7⟩, ⟨x0, x1, x2, x3, x4, x5, x6, x7⟩⟩ := HZ.out w hSw; rw [HC.out.1] at o0 o1 o2 o3 o4; rw [HC.out.2.1] at o6; rw [HC.out.2.2] at o7; go_simp) <;> (with_reducible rfl))
      case hq59 => exact fun _ _ _ h => h
      simp only [List.set_cons_succ, List.set_cons_zero]
      refine take_at (i := 19) (d := 85) (oi := ?o60) (v := ?v60) ?hi60 ?hd60 (by kernel_rfl) (by kernel_rfl) (by kernel_rfl) ?hw60 ?hy60 ?hq60 (by assumption) ?r60
      case hi60 => (simp only [List.getElem?_toArray, List.getElem?_cons_succ, List.getElem?_cons_zero]; rfl)
      case hd60 => rfl
      case hw60 => rfl
      case hy60 => ((intro w hSw; (try dsimp only at hSw); obtain ⟨⟨s0, s1, s2, s3, s4, s5, s6, s7⟩, ⟨o0, o1, o2, o3, o4, o5, o6, o7⟩, ⟨x0, x1, x2, x3, x4, x5, x6, x7⟩⟩ := HZ.out w hSw; rw [HC.out.1] at o0 o1 o2 o3 o4; rw [HC.out.2.1] at o6; rw [HC.out.2.2] at o7; go_simp) <;> (with_reducible rfl))
      case hq60 => exact fun _ _ _ h => h
      simp only [List.set_cons_succ, List.set_cons_zero]
      refine take_at (i := 20) (d := 86) (oi := ?o61) (v := ?v61) ?hi61 ?hd61 (by kernel_rfl) (by kernel_rfl) (by kernel_rfl) ?hw61 ?hy61 ?hq61 (by assumption) ?r61
      case hi61 => (simp only [List.getElem?_toArray, List.getElem?_cons_succ, List.getElem?_cons_zero]; rfl)
      case hd61 => rfl
      case hw61 => rfl
      case hy61 => ((intro w hSw; (try dsimp only at hSw); obtain ⟨⟨s0, s1, s2, s3, s4, s5, s6, s7⟩, ⟨o0, o1, o2, o3, o4, o5, o6, o7⟩, ⟨x0, x1, x2, x3, x4, x5, x6, x7⟩⟩ := HZ.out w hSw; rw [HC.out.1] at o0 o1 o2 o3 o4; rw [HC.out.2.1] at o6; rw [HC.out.2.2] at o7; go_simp) <;> (with_reducible rfl))
      case hq61 => exact fun _ _ _ h => h
      simp only [List.set_cons_succ, List.set_cons_zero]
      refine take_at (i := 22) (d := 88) (oi := ?o62) (v := ?v62) ?hi62 ?hd62 (by kernel_rfl) (by kernel_rfl) (by kernel_rfl) ?hw62 ?hy62 ?hq62 (by assumption) ?r62
      case hi62 => (simp only [List.getElem?_toArray, List.getElem?_cons_succ, List.getElem?_cons_zero]; rfl)
      case hd62 => rfl
      case hw62 => rfl
      case hy62 => ((intro w hSw; (try dsimp only at hSw); obtain ⟨⟨s0, s1, s2, s3, s4, s5, s6, s7⟩, ⟨o0, o1, o2, o3, o4, o5, o6, o7⟩, ⟨x0, x1, x2, x3, x4, x5, x6, x7⟩⟩ := HZ.out w hSw; rw [HC.out.1] at o0 o1 o2 o3 o4; rw [HC.out.2.1] at o6; rw [HC.out.2.2] at o7; go_simp) <;> (with_reducible rfl))
      case hq62 => exact fun _ _ _ h => h
      simp only [List.set_cons_succ, List.set_cons_zero]
      refine take_at (i := 23) (d := 89) (oi := ?o63) (v := ?v63) ?hi63 ?hd63 (by kernel_rfl) (by kernel_rfl) (by kernel_rfl) ?hw63 ?hy63 ?hq63 (by assumption) ?r63
      case hi63 => (simp only [List.getElem?_toArray, List.getElem?_cons_succ, List.getElem?_cons_zero]; rfl)
      case hd63 => rfl
      case hw63 => rfl
      case hy63 => ((intro w hSw; (try dsimp only at hSw); obtain ⟨⟨s0, s1, s2, s3, s4, s5, s6, s7⟩, ⟨o0, o1, o2, o3, o4, o5, o6, o7⟩, ⟨x0, x1, x2, x3, x4, x5, x6, x7⟩⟩ := HZ.out w hSw; rw [HC.out.1] at o0 o1 o2 o3 o4; rw [HC.out.2.1] at o6; rw [HC.out.2.2] at o7; go_simp) <;> (with_reducible rfl))
      case hq63 => exact fun _ _ _ h => h
      simp only [List.set_cons_succ, List.set_cons_zero]
      refine take_at (i := 24) (d := 90) (oi := ?o64) (v := ?v64) ?hi64 ?hd64 (by kernel_rfl) (by kernel_rfl) (by kernel_rfl) ?hw64 ?hy64 ?hq64 (by assumption) ?r64
      case hi64 => (simp only [List.getElem?_toArray, List.getElem?_cons_succ, List.getElem?_cons_zero]; rfl)
      case hd64 => rfl
      case hw64 => rfl
      case hy64 => ((intro w hSw; (try dsimp only at hSw); obtain ⟨⟨s0, s1, s2, s3, s4, s5, s6, s7⟩, ⟨o0, o1, o2, o3, o4, o5, o6, o7⟩, ⟨x0, x1, x2, x3, x4, x5, x6, x7⟩⟩ := HZ.out w hSw; rw [HC.out.1] at o0 o1 o2 o3 o4; rw [HC.out.2.1] at o6; rw [HC.out.2.2] at o7; go_simp) <;> (with_reducible rfl))
      case hq64 => exact fun _ _ _ h => h
      simp only [List.set_cons_succ, List.set_cons_zero]
      refine take_at (i := 25) (d := 91) (oi := ?o65) (v := ?v65) ?hi65 ?hd65 (by kernel_rfl) (by kernel_rfl) (by kernel_rfl) ?hw65 ?hy65 ?hq65 (by assumption) ?r65
      case hi65 => (simp only [List.getElem?_toArray, List.getElem?_cons_succ, List.getElem?_cons_zero]; rfl)
      case hd65 => rfl
      case hw65 => rfl
      case hy65 => ((intro w hSw; (try dsimp only at hSw); obtain ⟨⟨s0, s1, s2, s3, s4, s5, s6, s7⟩, ⟨o0, o1, o2, o3, o4, o5, o6, o7⟩, ⟨x0, x1, x2, x3, x4, x5, x6, x7⟩⟩ := HZ.out w hSw; rw [HC.out.1] at o0 o1 o2 o3 o4; rw [HC.out.2.1] at o6; rw [HC.out.2.2] at o7; go_simp) <;> (with_reducible rfl))
      case hq65 => exact fun _ _ _ h => h
      simp only [List.set_cons_succ, List.set_cons_zero]
      refine take_at (i := 26) (d := 92) (oi := ?o66) (v := ?v66) ?hi66 ?hd66 (by kernel_rfl) (by kernel_rfl) (by kernel_rfl) ?hw66 ?hy66 ?hq66 (by assumption) ?r66
      case hi66 => (simp only [List.getElem?_toArray, List.getElem?_cons_succ, List.getElem?_cons_zero]; rfl)
      case hd66 => rfl
      case hw66 => rfl
      case hy66 => ((intro w hSw; (try dsimp only at hSw); obtain ⟨⟨s0, s1, s2, s3, s4, s5, s6, s7⟩, ⟨o0, o1, o2, o3, o4, o5, o6, o7⟩, ⟨x0, x1, x2, x3, x4, x5, x6, x7⟩⟩ := HZ.out w hSw; rw [HC.out.1] at o0 o1 o2 o3 o4; rw [HC.out.2.1] at o6; rw [HC.out.2.2] at o7; go_simp) <;> (with_reducible rfl))
      case hq66 => exact fun _ _ _ h => h
      simp only [List.set_cons_succ, List.set_cons_zero]
      refine call_at (i := 21) (d := 87) (oi := ?o67) (f := ?f67) (args := ?a67) ?hi67 ?hd67 (by kernel_rfl) ?hw67 ?he67 ?hc67
      case hi67 => (simp only [List.getElem?_toArray, List.getElem?_cons_succ, List.getElem?_cons_zero]; rfl)
      case hd67 => rfl
      case hw67 => rfl
      case he67 => (go_simp; constructor <;> with_reducible rfl)
      refine Calls.mono (show Calls Try.prog 29 #[.agg #[.int .i64 t.sn.ix, .int .i64 t.sn.tm, .int .i64 t.sn.sm, .int .i64 t.sn.lv, .bool t.sn.fn, .slice A3 p c3, .int .i64 t.tm, .int .i64 t.vt]] xa (fun e w' => e = .returned (.int .i64 LC) ∧ Below xa.heap.size xa w') from by have h := D.last cc A3 p c3 xa (OwnF.es (keepF own3 kA)) (by omega) (by rw [HC.out.1]; exact HP.out.2.2.2.2.2.1); unfold tupV at h; rw [HP.out.2.2.2.2.2.2.2.2.2.1, HC.out.1, HC.out.2.1, HC.out.2.2] at h; exact h) ?_
      rintro e xb ⟨rfl, bB⟩
      have kB := below_on kA bB
      refine ⟨_, rfl, kB, fun hHeld => ?_⟩
      simp only [List.set_cons_succ, List.set_cons_zero]
      refine take_at (i := 27) (d := 93) (oi := ?o68) (v := ?v68) ?hi68 ?hd68 (by kernel_rfl) (by kernel_rfl) (by kernel_rfl) ?hw68 ?hy68 ?hq68 (by assumption) ?r68
      case hi68 => (simp only [List.getElem?_toArray, List.getElem?_cons_succ, List.getElem?_cons_zero]; rfl)
      case hd68 => rfl
      case hw68 => rfl
      case hy68 => ((intro w hSw; (try dsimp only at hSw); obtain ⟨⟨s0, s1, s2, s3, s4, s5, s6, s7⟩, ⟨o0, o1, o2, o3, o4, o5, o6, o7⟩, ⟨x0, x1, x2, x3, x4, x5, x6, x7⟩⟩ := HZ.out w hSw; rw [HC.out.1] at o0 o1 o2 o3 o4; rw [HC.out.2.1] at o6; rw [HC.out.2.2] at o7; go_simp) <;> (with_reducible rfl))
      case hq68 => exact fun _ _ _ h => h
      simp only [List.set_cons_succ, List.set_cons_zero]
      refine take_at (i := 28) (d := 94) (oi := ?o69) (v := ?v69) ?hi69 ?hd69 (by kernel_rfl) (by kernel_rfl) (by kernel_rfl) ?hw69 ?hy69 ?hq69 (by assumption) ?r69
      case hi69 => (simp only [List.getElem?_toArray, List.getElem?_cons_succ, List.getElem?_cons_zero]; rfl)
      case hd69 => rfl
      case hw69 => rfl
      case hy69 => ((intro w hSw; (try dsimp only at hSw); obtain ⟨⟨s0, s1, s2, s3, s4, s5, s6, s7⟩, ⟨o0, o1, o2, o3, o4, o5, o6, o7⟩, ⟨x0, x1, x2, x3, x4, x5, x6, x7⟩⟩ := HZ.out w hSw; rw [HC.out.1] at o0 o1 o2 o3 o4; rw [HC.out.2.1] at o6; rw [HC.out.2.2] at o7; go_simp) <;> (with_reducible rfl))
      case hq69 => exact fun _ _ _ h => h
      simp only [List.set_cons_succ, List.set_cons_zero]
      refine take_at (i := 29) (d := 95) (oi := ?o70) (v := ?v70) ?hi70 ?hd70 (by kernel_rfl) (by kernel_rfl) (by kernel_rfl) ?hw70 ?hy70 ?hq70 (by assumption) ?r70
      case hi70 => (simp only [List.getElem?_toArray, List.getElem?_cons_succ, List.getElem?_cons_zero]; rfl)
      case hd70 => rfl
      case hw70 => rfl
      case hy70 => ((intro w hSw; (try dsimp only at hSw); obtain ⟨⟨s0, s1, s2, s3, s4, s5, s6, s7⟩, ⟨o0, o1, o2, o3, o4, o5, o6, o7⟩, ⟨x0, x1, x2, x3, x4, x5, x6, x7⟩⟩ := HZ.out w hSw; rw [HC.out.1] at o0 o1 o2 o3 o4; rw [HC.out.2.1] at o6; rw [HC.out.2.2] at o7; go_simp) <;> (with_reducible rfl))
      case hq70 => exact fun _ _ _ h => h
      simp only [List.set_cons_succ, List.set_cons_zero]
      refine take_at (i := 30) (d := 96) (oi := ?o71) (v := ?v71) ?hi71 ?hd71 (by kernel_rfl) (by kernel_rfl) (by kernel_rfl) ?hw71 ?hy71 ?hq71 (by assumption) ?r71
      case hi71 => (simp only [List.getElem?_toArray, List.getElem?_cons_succ, List.getElem?_cons_zero]; rfl)
      case hd71 => rfl
      case hw71 => rfl
      case hy71 => ((intro w hSw; (try dsimp only at hSw); obtain ⟨⟨s0, s1, s2, s3, s4, s5, s6, s7⟩, ⟨o0, o1, o2, o3, o4, o5, o6, o7⟩, ⟨x0, x1, x2, x3, x4, x5, x6, x7⟩⟩ := HZ.out w hSw; rw [HC.out.1] at o0 o1 o2 o3 o4; rw [HC.out.2.1] at o6; rw [HC.out.2.2] at o7; go_simp) <;> (with_reducible rfl))
      case hq71 => exact fun _ _ _ h => h
      simp only [List.set_cons_succ, List.set_cons_zero]
      refine take_at (i := 31) (d := 97) (oi := ?o72) (v := ?v72) ?hi72 ?hd72 (by kernel_rfl) (by kernel_rfl) (by kernel_rfl) ?hw72 ?hy72 ?hq72 (by assumption) ?r72
      case hi72 => (simp only [List.getElem?_toArray, List.getElem?_cons_succ, List.getElem?_cons_zero]; rfl)
      case hd72 => rfl
      case hw72 => rfl
      case hy72 => ((intro w hSw; (try dsimp only at hSw); obtain ⟨⟨s0, s1, s2, s3, s4, s5, s6, s7⟩, ⟨o0, o1, o2, o3, o4, o5, o6, o7⟩, ⟨x0, x1, x2, x3, x4, x5, x6, x7⟩⟩ := HZ.out w hSw; rw [HC.out.1] at o0 o1 o2 o3 o4; rw [HC.out.2.1] at o6; rw [HC.out.2.2] at o7; go_simp) <;> (with_reducible rfl))
      case hq72 => exact fun _ _ _ h => h
      simp only [List.set_cons_succ, List.set_cons_zero]
      refine take_at (i := 32) (d := 98) (oi := ?o73) (v := ?v73) ?hi73 ?hd73 (by kernel_rfl) (by kernel_rfl) (by kernel_rfl) ?hw73 ?hy73 ?hq73 (by assumption) ?r73
      case hi73 => (simp only [List.getElem?_toArray, List.getElem?_cons_succ, List.getElem?_cons_zero]; rfl)
      case hd73 => rfl
      case hw73 => rfl
      case hy73 => ((intro w hSw; (try dsimp only at hSw); obtain ⟨⟨s0, s1, s2, s3, s4, s5, s6, s7⟩, ⟨o0, o1, o2, o3, o4, o5, o6, o7⟩, ⟨x0, x1, x2, x3, x4, x5, x6, x7⟩⟩ := HZ.out w hSw; rw [HC.out.1] at o0 o1 o2 o3 o4; rw [HC.out.2.1] at o6; rw [HC.out.2.2] at o7; go_simp) <;> (with_reducible rfl))
      case hq73 => exact fun _ _ _ h => h
      simp only [List.set_cons_succ, List.set_cons_zero]
      refine take_at (i := 33) (d := 99) (oi := ?o74) (v := ?v74) ?hi74 ?hd74 (by kernel_rfl) (by kernel_rfl) (by kernel_rfl) ?hw74 ?hy74 ?hq74 (by assumption) ?r74
      case hi74 => (simp only [List.getElem?_toArray, List.getElem?_cons_succ, List.getElem?_cons_zero]; rfl)
      case hd74 => rfl
      case hw74 => rfl
      case hy74 => ((intro w hSw; (try dsimp only at hSw); obtain ⟨⟨s0, s1, s2, s3, s4, s5, s6, s7⟩, ⟨o0, o1, o2, o3, o4, o5, o6, o7⟩, ⟨x0, x1, x2, x3, x4, x5, x6, x7⟩⟩ := HZ.out w hSw; rw [HC.out.1] at o0 o1 o2 o3 o4; rw [HC.out.2.1] at o6; rw [HC.out.2.2] at o7; go_simp) <;> (with_reducible rfl))
      case hq74 => exact fun _ _ _ h => h
      simp only [List.set_cons_succ, List.set_cons_zero]
      refine take_at (i := 34) (d := 100) (oi := ?o75) (v := ?v75) ?hi75 ?hd75 (by kernel_rfl) (by kernel_rfl) (by kernel_rfl) ?hw75 ?hy75 ?hq75 (by assumption) ?r75
      case hi75 => (simp only [List.getElem?_toArray, List.getElem?_cons_succ, List.getElem?_cons_zero]; rfl)
      case hd75 => rfl
      case hw75 => rfl
      case hy75 => ((intro w hSw; (try dsimp only at hSw); obtain ⟨⟨s0, s1, s2, s3, s4, s5, s6, s7⟩, ⟨o0, o1, o2, o3, o4, o5, o6, o7⟩, ⟨x0, x1, x2, x3, x4, x5, x6, x7⟩⟩ := HZ.out w hSw; rw [HC.out.1] at o0 o1 o2 o3 o4; rw [HC.out.2.1] at o6; rw [HC.out.2.2] at o7; go_simp) <;> (with_reducible rfl))
      case hq75 => exact fun _ _ _ h => h
      simp only [List.set_cons_succ, List.set_cons_zero]
      refine take_at (i := 35) (d := 101) (oi := ?o76) (v := ?v76) ?hi76 ?hd76 (by kernel_rfl) (by kernel_rfl) (by kernel_rfl) ?hw76 ?hy76 ?hq76 (by assumption) ?r76
      case hi76 => (simp only [List.getElem?_toArray, List.getElem?_cons_succ, List.getElem?_cons_zero]; rfl)
      case hd76 => rfl
      case hw76 => rfl
      case hy76 => ((intro w hSw; (try dsimp only at hSw); obtain ⟨⟨s0, s1, s2, s3, s4, s5, s6, s7⟩, ⟨o0, o1, o2, o3, o4, o5, o6, o7⟩, ⟨x0, x1, x2, x3, x4, x5, x6, x7⟩⟩ := HZ.out w hSw; rw [HC.out.1] at o0 o1 o2 o3 o4; rw [HC.out.2.1] at o6; rw [HC.out.2.2] at o7; go_simp) <;> (with_reducible rfl))
      case hq76 => exact fun _ _ _ h => h
      simp only [List.set_cons_succ, List.set_cons_zero]
      refine call_at (i := 36) (d := 102) (oi := ?o77) (f := ?f77) (args := ?a77) ?hi77 ?hd77 (by kernel_rfl) ?hw77 ?he77 ?hc77
      case hi77 => (simp only [List.getElem?_toArray, List.getElem?_cons_succ, List.getElem?_cons_zero]; rfl)
      case hd77 => rfl
      case hw77 => rfl
      case he77 => (go_simp; constructor <;> with_reducible rfl)
      refine Calls.mono (show Calls Try.prog 36 #[.slice A3 p c3, .slice A p c] xb (fun e w' => e = .returned (.bool true) ∧ Below xb.heap.size xb w') from by have h := rents_any A3 A p p c3 c cc.lg (t.lg.take p) xb (OwnF.es (keepF own3 kB)) (Row.first (hS.on kB kB.size) hp2) (by omega) (by omega); rw [eqE_true HP.out.2.2.2.2.2.2.2.2.1] at h; exact h) ?_
      rintro e xc ⟨rfl, bC⟩
      have kC := below_on kB bC
      refine ⟨_, rfl, kC, fun hHeld => ?_⟩
      simp only [List.set_cons_succ, List.set_cons_zero]
      refine take_at (i := 37) (d := 103) (oi := ?o78) (v := ?v78) ?hi78 ?hd78 (by kernel_rfl) (by kernel_rfl) (by kernel_rfl) ?hw78 ?hy78 ?hq78 (by assumption) ?r78
      case hi78 => (simp only [List.getElem?_toArray, List.getElem?_cons_succ, List.getElem?_cons_zero]; rfl)
      case hd78 => rfl
      case hw78 => rfl
      case hy78 => ((intro w hSw; (try dsimp only at hSw); obtain ⟨⟨s0, s1, s2, s3, s4, s5, s6, s7⟩, ⟨o0, o1, o2, o3, o4, o5, o6, o7⟩, ⟨x0, x1, x2, x3, x4, x5, x6, x7⟩⟩ := HZ.out w hSw; rw [HC.out.1] at o0 o1 o2 o3 o4; rw [HC.out.2.1] at o6; rw [HC.out.2.2] at o7; go_simp) <;> (with_reducible rfl))
      case hq78 => exact fun _ _ _ h => h
      simp only [List.set_cons_succ, List.set_cons_zero]
      refine take_at (i := 38) (d := 104) (oi := ?o79) (v := ?v79) ?hi79 ?hd79 (by kernel_rfl) (by kernel_rfl) (by kernel_rfl) ?hw79 ?hy79 ?hq79 (by assumption) ?r79
      case hi79 => (simp only [List.getElem?_toArray, List.getElem?_cons_succ, List.getElem?_cons_zero]; rfl)
      case hd79 => rfl
      case hw79 => rfl
      case hy79 => ((intro w hSw; (try dsimp only at hSw); obtain ⟨⟨s0, s1, s2, s3, s4, s5, s6, s7⟩, ⟨o0, o1, o2, o3, o4, o5, o6, o7⟩, ⟨x0, x1, x2, x3, x4, x5, x6, x7⟩⟩ := HZ.out w hSw; rw [HC.out.1] at o0 o1 o2 o3 o4; rw [HC.out.2.1] at o6; rw [HC.out.2.2] at o7; go_simp) <;> (with_reducible rfl))
      case hq79 => exact fun _ _ _ h => h
      simp only [List.set_cons_succ, List.set_cons_zero]
      refine take_at (i := 39) (d := 105) (oi := ?o80) (v := ?v80) ?hi80 ?hd80 (by kernel_rfl) (by kernel_rfl) (by kernel_rfl) ?hw80 ?hy80 ?hq80 (by assumption) ?r80
      case hi80 => (simp only [List.getElem?_toArray, List.getElem?_cons_succ, List.getElem?_cons_zero]; rfl)
      case hd80 => rfl
      case hw80 => rfl
      case hy80 => ((intro w hSw; (try dsimp only at hSw); obtain ⟨⟨s0, s1, s2, s3, s4, s5, s6, s7⟩, ⟨o0, o1, o2, o3, o4, o5, o6, o7⟩, ⟨x0, x1, x2, x3, x4, x5, x6, x7⟩⟩ := HZ.out w hSw; rw [HC.out.1] at o0 o1 o2 o3 o4; rw [HC.out.2.1] at o6; rw [HC.out.2.2] at o7; go_simp) <;> (with_reducible rfl))
      case hq80 => exact fun _ _ _ h => h
      simp only [List.set_cons_succ, List.set_cons_zero]
      refine take_at (i := 40) (d := 106) (oi := ?o81) (v := ?v81) ?hi81 ?hd81 (by kernel_rfl) (by kernel_rfl) (by kernel_rfl) ?hw81 ?hy81 ?hq81 (by assumption) ?r81
      case hi81 => (simp only [List.getElem?_toArray, List.getElem?_cons_succ, List.getElem?_cons_zero]; rfl)
      case hd81 => rfl
      case hw81 => rfl
      case hy81 => ((intro w hSw; (try dsimp only at hSw); obtain ⟨⟨s0, s1, s2, s3, s4, s5, s6, s7⟩, ⟨o0, o1, o2, o3, o4, o5, o6, o7⟩, ⟨x0, x1, x2, x3, x4, x5, x6, x7⟩⟩ := HZ.out w hSw; rw [HC.out.1] at o0 o1 o2 o3 o4; rw [HC.out.2.1] at o6; rw [HC.out.2.2] at o7; go_simp) <;> (with_reducible rfl))
      case hq81 => exact fun _ _ _ h => h
      simp only [List.set_cons_succ, List.set_cons_zero]
      refine take_at (i := 41) (d := 107) (oi := ?o82) (v := ?v82) ?hi82 ?hd82 (by kernel_rfl) (by kernel_rfl) (by kernel_rfl) ?hw82 ?hy82 ?hq82 (by assumption) ?r82
      case hi82 => (simp only [List.getElem?_toArray, List.getElem?_cons_succ, List.getElem?_cons_zero]; rfl)
      case hd82 => rfl
      case hw82 => rfl
      case hy82 => ((intro w hSw; (try dsimp only at hSw); obtain ⟨⟨s0, s1, s2, s3, s4, s5, s6, s7⟩, ⟨o0, o1, o2, o3, o4, o5, o6, o7⟩, ⟨x0, x1, x2, x3, x4, x5, x6, x7⟩⟩ := HZ.out w hSw; rw [HC.out.1] at o0 o1 o2 o3 o4; rw [HC.out.2.1] at o6; rw [HC.out.2.2] at o7; go_simp) <;> (with_reducible rfl))
      case hq82 => exact fun _ _ _ h => h
      simp only [List.set_cons_succ, List.set_cons_zero]
      refine take_at (i := 42) (d := 108) (oi := ?o83) (v := ?v83) ?hi83 ?hd83 (by kernel_rfl) (by kernel_rfl) (by kernel_rfl) ?hw83 ?hy83 ?hq83 (by assumption) ?r83
      case hi83 => (simp only [List.getElem?_toArray, List.getElem?_cons_succ, List.getElem?_cons_zero]; rfl)
      case hd83 => rfl
      case hw83 => rfl
      case hy83 => ((intro w hSw; (try dsimp only at hSw); obtain ⟨⟨s0, s1, s2, s3, s4, s5, s6, s7⟩, ⟨o0, o1, o2, o3, o4, o5, o6, o7⟩, ⟨x0, x1, x2, x3, x4, x5, x6, x7⟩⟩ := HZ.out w hSw; rw [HC.out.1] at o0 o1 o2 o3 o4; rw [HC.out.2.1] at o6; rw [HC.out.2.2] at o7; go_simp) <;> (with_reducible rfl))
      case hq83 => exact fun _ _ _ h => h
      simp only [List.set_cons_succ, List.set_cons_zero]
      refine take_at (i := 43) (d := 109) (oi := ?o84) (v := ?v84) ?hi84 ?hd84 (by kernel_rfl) (by kernel_rfl) (by kernel_rfl) ?hw84 ?hy84 ?hq84 (by assumption) ?r84
      case hi84 => (simp only [List.getElem?_toArray, List.getElem?_cons_succ, List.getElem?_cons_zero]; rfl)
      case hd84 => rfl
      case hw84 => rfl
      case hy84 => ((intro w hSw; (try dsimp only at hSw); obtain ⟨⟨s0, s1, s2, s3, s4, s5, s6, s7⟩, ⟨o0, o1, o2, o3, o4, o5, o6, o7⟩, ⟨x0, x1, x2, x3, x4, x5, x6, x7⟩⟩ := HZ.out w hSw; rw [HC.out.1] at o0 o1 o2 o3 o4; rw [HC.out.2.1] at o6; rw [HC.out.2.2] at o7; go_simp) <;> (with_reducible rfl))
      case hq84 => exact fun _ _ _ h => h
      simp only [List.set_cons_succ, List.set_cons_zero]
      refine take_at (i := 44) (d := 110) (oi := ?o85) (v := ?v85) ?hi85 ?hd85 (by kernel_rfl) (by kernel_rfl) (by kernel_rfl) ?hw85 ?hy85 ?hq85 (by assumption) ?r85
      case hi85 => (simp only [List.getElem?_toArray, List.getElem?_cons_succ, List.getElem?_cons_zero]; rfl)
      case hd85 => rfl
      case hw85 => rfl
      case hy85 => ((intro w hSw; (try dsimp only at hSw); obtain ⟨⟨s0, s1, s2, s3, s4, s5, s6, s7⟩, ⟨o0, o1, o2, o3, o4, o5, o6, o7⟩, ⟨x0, x1, x2, x3, x4, x5, x6, x7⟩⟩ := HZ.out w hSw; rw [HC.out.1] at o0 o1 o2 o3 o4; rw [HC.out.2.1] at o6; rw [HC.out.2.2] at o7; go_simp) <;> (with_reducible rfl))
      case hq85 => exact fun _ _ _ h => h
      simp only [List.set_cons_succ, List.set_cons_zero]
      refine take_at (i := 45) (d := 111) (oi := ?o86) (v := ?v86) ?hi86 ?hd86 (by kernel_rfl) (by kernel_rfl) (by kernel_rfl) ?hw86 ?hy86 ?hq86 (by assumption) ?r86
      case hi86 => (simp only [List.getElem?_toArray, List.getElem?_cons_succ, List.getElem?_cons_zero]; rfl)
      case hd86 => rfl
      case hw86 => rfl
      case hy86 => ((intro w hSw; (try dsimp only at hSw); obtain ⟨⟨s0, s1, s2, s3, s4, s5, s6, s7⟩, ⟨o0, o1, o2, o3, o4, o5, o6, o7⟩, ⟨x0, x1, x2, x3, x4, x5, x6, x7⟩⟩ := HZ.out w hSw; rw [HC.out.1] at o0 o1 o2 o3 o4; rw [HC.out.2.1] at o6; rw [HC.out.2.2] at o7; go_simp) <;> (with_reducible rfl))
      case hq86 => exact fun _ _ _ h => h
      simp only [List.set_cons_succ, List.set_cons_zero]
      refine call_at (i := 46) (d := 112) (oi := ?o87) (f := ?f87) (args := ?a87) ?hi87 ?hd87 (by kernel_rfl) ?hw87 ?he87 ?hc87
      case hi87 => (simp only [List.getElem?_toArray, List.getElem?_cons_succ, List.getElem?_cons_zero]; rfl)
      case hd87 => rfl
      case hw87 => rfl
      case he87 => (go_simp; constructor <;> with_reducible rfl)
      refine Calls.mono (wakes12 D xc) ?_
      rintro e xd ⟨rfl, bD⟩
      have kE := below_on kC bD
      refine ⟨_, rfl, kE, fun hHeld => ?_⟩
      simp only [List.set_cons_succ, List.set_cons_zero]
      refine take_at (i := 47) (d := 113) (oi := ?o88) (v := ?v88) ?hi88 ?hd88 (by kernel_rfl) (by kernel_rfl) (by kernel_rfl) ?hw88 ?hy88 ?hq88 (by assumption) ?r88
      case hi88 => (simp only [List.getElem?_toArray, List.getElem?_cons_succ, List.getElem?_cons_zero]; rfl)
      case hd88 => rfl
      case hw88 => rfl
      case hy88 => ((intro w hSw; (try dsimp only at hSw); obtain ⟨⟨s0, s1, s2, s3, s4, s5, s6, s7⟩, ⟨o0, o1, o2, o3, o4, o5, o6, o7⟩, ⟨x0, x1, x2, x3, x4, x5, x6, x7⟩⟩ := HZ.out w hSw; rw [HC.out.1] at o0 o1 o2 o3 o4; rw [HC.out.2.1] at o6; rw [HC.out.2.2] at o7; go_simp) <;> (with_reducible rfl))
      case hq88 => exact fun _ _ _ h => h
      simp only [List.set_cons_succ, List.set_cons_zero]
      refine take_at (i := 48) (d := 4) (oi := ?o89) (v := ?v89) ?hi89 ?hd89 (by kernel_rfl) (by kernel_rfl) (by kernel_rfl) ?hw89 ?hy89 ?hq89 (by assumption) ?r89
      case hi89 => (simp only [List.getElem?_toArray, List.getElem?_cons_succ, List.getElem?_cons_zero]; rfl)
      case hd89 => rfl
      case hw89 => rfl
      case hy89 => ((intro w hSw; (try dsimp only at hSw); obtain ⟨⟨s0, s1, s2, s3, s4, s5, s6, s7⟩, ⟨o0, o1, o2, o3, o4, o5, o6, o7⟩, ⟨x0, x1, x2, x3, x4, x5, x6, x7⟩⟩ := HZ.out w hSw; rw [HC.out.1] at o0 o1 o2 o3 o4; rw [HC.out.2.1] at o6; rw [HC.out.2.2] at o7; go_simp) <;> (with_reducible rfl))
      case hq89 => exact fun _ _ _ h => h
      simp only [List.set_cons_succ, List.set_cons_zero]
      refine wpAnyH_done (by kernel_rfl) ?_ _
      clear hHeld
      go_wp2_with fail
      go_ret
      exact ⟨rfl, B8.trans (kE.mono B8.size)⟩
theorem cuts_all (D : Dev12) (t : TupP) (A : Option Addr) (n c : Nat) (at_ : Int) (w : World) (hS : Es w w.heap.size A n t.lg) (hnc : n ≤ c) :
    Calls Try.prog 6 #[tupV t (.slice A n c), .int .i64 at_] w fun e w' => e = .returned (.bool true) ∧ Below w.heap.size w w' := by
  by_cases hM : MayT t
  · exact cuts_may D t A n c at_ w hS hnc hM
  · exact cuts_no D t A n c at_ w hS hnc hM
end Go.Proofs.Ytbhnlmlaebngmaa
