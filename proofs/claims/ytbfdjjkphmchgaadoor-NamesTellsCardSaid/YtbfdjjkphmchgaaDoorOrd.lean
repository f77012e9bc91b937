/-
  The order of files: its contract.
-/
import Derived.Test.YtbfdjjkphmchgaaDoorIdP
import Derived.Test.YtbfdjjkphmchgaaDoorBel
import Derived.Test.YtbfdjjkphmchgaaDoorDraw
import Derived.Deep.DeepCutAuto
import Derived.RangeFuncRecord
namespace Go.Proofs.YtbfdjjkphmchgaaDoor
open Go.RowKit

/-- Box z holds what a file's name says. -/
def Box3 (W : World) (z : Nat) (x : IdP) : Prop := W.heap[z]? = some (.cells #[.int .u8 x.kind, .int .i64 x.seq, .int .i64 x.fmt] 23 (0, 0))
theorem Box3.cells {W : World} {z : Nat} {x : IdP} (h : Box3 W z x) : W.cell? ⟨z, 0, none⟩ = some (.int .u8 x.kind) ∧ W.cell? ⟨z, 1, none⟩ = some (.int .i64 x.seq) ∧ W.cell? ⟨z, 2, none⟩ = some (.int .i64 x.fmt) := by
  refine ⟨?_, ?_, ?_⟩ <;> (rw [cell_of_row _ _ _ _ _ _ h]; simp)
theorem Box3.below {W W' : World} {z : Nat} {x : IdP} (h : Box3 W z x) (hb : Below W.heap.size W W') : Box3 W' z x := (hb.block z (Array.getElem?_eq_some_iff.1 h).1).trans h
theorem Box3.lt {W : World} {z : Nat} {x : IdP} (h : Box3 W z x) : z < W.heap.size := (Array.getElem?_eq_some_iff.1 h).1

theorem nan_int (x : Int) (w : World) : Calls Tryd.prog 40 #[.int .i64 x] w fun e w' => e = .returned (.bool false) ∧ w' = w := by
  go_enter Tryd.func40, Tryd.ntmps40
  go_wp2_with fail
  go_ret
  exact ⟨rfl, rfl⟩
theorem nan_byte (x : Int) (w : World) : Calls Tryd.prog 41 #[.int .u8 x] w fun e w' => e = .returned (.bool false) ∧ w' = w := by
  go_enter Tryd.func41, Tryd.ntmps41
  go_wp2_with fail
  go_ret
  exact ⟨rfl, rfl⟩
theorem compare_int (x y : Int) (w : World) : Calls Tryd.prog 35 #[.int .i64 x, .int .i64 y] w fun e w' => e = .returned (.int .i64 (cmpP x y)) ∧ Below w.heap.size w w' := by
  go_enter Tryd.func35, Tryd.ntmps35
  go_wp2_with fail
  refine (nan_int x w).mono ?_
  rintro e w1 ⟨rfl, rfl⟩
  go_wp2_with fail
  refine (nan_int y _).mono ?_
  rintro e w1 ⟨rfl, rfl⟩
  rcases cmp_val x y with ⟨h, he⟩ | ⟨h, he⟩ | ⟨h, he⟩
  · have t1 : decide (x < y) = true := by simpa using h
    go_wp2_with fail
    go_ret
    exact ⟨by rw [he]; rfl, below_d0 _⟩
  · have t1 : decide (x < y) = false := by simp; omega
    have t2 : decide (y < x) = true := by simpa using h
    go_wp2_with fail
    go_ret
    exact ⟨by rw [he]; rfl, below_d0 _⟩
  · have t1 : decide (x < y) = false := by simp; omega
    have t2 : decide (y < x) = false := by simp; omega
    go_wp2_with fail
    go_ret
    exact ⟨by rw [he]; rfl, below_d0 _⟩
theorem compare_uint8 (x y : Int) (w : World) : Calls Tryd.prog 36 #[.int .u8 x, .int .u8 y] w fun e w' => e = .returned (.int .i64 (cmpP x y)) ∧ Below w.heap.size w w' := by
  go_enter Tryd.func36, Tryd.ntmps36
  go_wp2_with fail
  refine (nan_byte x w).mono ?_
  rintro e w1 ⟨rfl, rfl⟩
  go_wp2_with fail
  refine (nan_byte y _).mono ?_
  rintro e w1 ⟨rfl, rfl⟩
  rcases cmp_val x y with ⟨h, he⟩ | ⟨h, he⟩ | ⟨h, he⟩
  · have t1 : decide (x < y) = true := by simpa using h
    go_wp2_with fail
    go_ret
    exact ⟨by rw [he]; rfl, below_d0 _⟩
  · have t1 : decide (x < y) = false := by simp; omega
    have t2 : decide (y < x) = true := by simpa using h
    go_wp2_with fail
    go_ret
    exact ⟨by rw [he]; rfl, below_d0 _⟩
  · have t1 : decide (x < y) = false := by simp; omega
    have t2 : decide (y < x) = false := by simp; omega
    go_wp2_with fail
    go_ret
    exact ⟨by rw [he]; rfl, below_d0 _⟩
/-- The first that is not 0. -/
def orP : List Int → Int
  | [] => 0
  | x :: r => if x ≠ 0 then x else orP r
theorem or_drop {l : List Int} {j : Nat} (h : j < l.length) : orP (l.drop j) = if l[j]?.getD 0 ≠ 0 then l[j]?.getD 0 else orP (l.drop (j + 1)) := by
  rw [List.drop_eq_getElem_cons h, List.getElem?_eq_getElem h]
  rfl
theorem or_any {w : World} {A : Option Addr} {n c : Nat} {l : List Int} (hr : Rd w w.heap.size .i64 A n l) (hn : n ≤ 1000) : Calls Tryd.prog 34 #[.slice A n c] w fun e w' => e = .returned (.int .i64 (orP l)) ∧ Below w.heap.size w w' := by
  have Hl := Lib.hid hr.1
  go_enter Tryd.func34, Tryd.ntmps34
  go_wp2_with fail
  go_loopw [8] (fun s W => ∃ j : Nat, j ≤ n ∧ s = .int .i64 j ∧ W = w ∧ Hid (orP l = orP (l.drop j))) (fun s _ => n - (intOf s).toNat)
  case atStart => exact ⟨0, by omega, rfl, rfl, Lib.hid (by rw [List.drop_zero])⟩
  case round =>
    obtain ⟨j, hj, rfl, rfl, Ho⟩ := hrel
    by_cases hlt : j < n
    · have hj0 : (0 : Int) ≤ (j : Int) := by omega
      have hj1 : (j : Int) < (n : Int) := by omega
      have hjw : IntKind.i64.wrap ((j : Int) + 1) = ((j + 1 : Nat) : Int) := by rw [IntKind.wrap_i64]; omega
      obtain ⟨b, off, rfl, hb, hc⟩ := hr.at_ (show 0 < n by omega)
      have hcj := hc j hlt
      have hstep := or_drop (l := l) (j := j) (by rw [Hl.out]; exact hlt)
      obtain ⟨x, hx⟩ : ∃ x, l[j]?.getD 0 = x := ⟨_, rfl⟩
      rw [hx] at hcj hstep
      clear hc hx
      have Hs := Lib.hid hstep
      clear hstep
      by_cases h0 : x = 0
      · subst h0
        go_wp2_with fail
        exact ⟨⟨j + 1, by omega, rfl, by trivial, Lib.hid (by rw [Ho.out, Hs.out, if_neg (by simp)])⟩, by simp only [intOf]; omega⟩
      · go_wp2_with fail
        go_ret
        exact ⟨by rw [Ho.out, Hs.out, if_pos h0]; rfl, below_d0 _⟩
    · have hje : j = n := by omega
      go_wp2_with fail
      go_ret
      exact ⟨by rw [Ho.out, hje, List.drop_of_length_le (by rw [Hl.out]; exact Nat.le_refl _)]; rfl, below_d0 _⟩

theorem or_three (a b c : Int) : orP [a, b, c] = if a ≠ 0 then a else if b ≠ 0 then b else c := by
  unfold orP orP orP orP
  by_cases h : c ≠ 0
  · rw [if_pos h]
  · rw [if_neg h]
    simp only [ne_eq, Decidable.not_not] at h
    rw [h]

theorem three_made (W : World) (x y z : Int) : Rd (W.alloc (.cells #[.int .i64 x, .int .i64 y, .int .i64 z] 3)) (W.alloc (.cells #[.int .i64 x, .int .i64 y, .int .i64 z] 3)).heap.size .i64 (some ⟨W.heap.size, 0, none⟩) 3 [x, y, z] := by
  refine ⟨rfl, fun _ => ⟨W.heap.size, 0, rfl, by simp, fun i hi => ?_⟩⟩
  rw [cell_of_row _ _ _ _ _ _ (World.alloc_heap_new W _)]
  rcases (by omega : i = 0 ∨ i = 1 ∨ i = 2) with rfl | rfl | rfl <;> rfl

set_option maxRecDepth 100000 in
set_option maxHeartbeats 2000000 in
/-- names.order. -/
theorem order_any (a b : IdP) (w : World) : Calls Tryd.prog 28 #[a.v, b.v] w fun e w' => e = .returned (.int .i64 (orderP a b)) ∧ Below w.heap.size w w' := by
  go_enter Tryd.func28, Tryd.ntmps28
  unfold IdP.v
  go_upto_region 1 with fail
  obtain ⟨za, hza⟩ : ∃ z, z = w.heap.size := ⟨_, rfl⟩
  obtain ⟨wa, hwa⟩ : ∃ x, x = w.alloc (.cells #[.int .u8 a.kind, .int .i64 a.seq, .int .i64 a.fmt] 23) := ⟨_, rfl⟩
  have xa : Box3 wa za a := by rw [hwa, hza]; exact World.alloc_heap_new w _
  have ha : Below w.heap.size w wa := by rw [hwa]; exact below_al (below_d0 w) _
  obtain ⟨zb, hzb⟩ : ∃ z, z = wa.heap.size := ⟨_, rfl⟩
  obtain ⟨w0, hw0⟩ : ∃ x, x = wa.alloc (.cells #[.int .u8 b.kind, .int .i64 b.seq, .int .i64 b.fmt] 23) := ⟨_, rfl⟩
  have hb0 : Below wa.heap.size wa w0 := by rw [hw0]; exact below_al (below_d0 wa) _
  have xb : Box3 w0 zb b := by rw [hw0, hzb]; exact World.alloc_heap_new wa _
  have xa0 := xa.below hb0
  have hB := Lib.hid (below_on ha hb0)
  have e1 : w.heap.size + 1 = zb := by rw [hzb, hwa]; simp
  have e2 : w0 = (w.alloc (.cells #[.int .u8 a.kind, .int .i64 a.seq, .int .i64 a.fmt] 23)).alloc (.cells #[.int .u8 b.kind, .int .i64 b.seq, .int .i64 b.fmt] 23) := by rw [hw0, hwa]
  rw [← e2, e1, ← hza]
  have Xa := Lib.hid (show ∀ W, Below w0.heap.size w0 W → Box3 W za a from fun W hW => xa0.below hW)
  have Xb := Lib.hid (show ∀ W, Below w0.heap.size w0 W → Box3 W zb b from fun W hW => xb.below hW)
  clear e1 e2 hza hwa hzb hw0 xa xb xa0 ha hb0
  refine wp_region_held_drew (S := (fun W => Below w0.heap.size w0 W)) (by kernel_rfl) (below_dr (below_d0 _)) (fun hHeld => ?_)
  have kb : Below w0.heap.size w0 w0.drew := below_dr (below_d0 _)
  obtain ⟨wp1, hW⟩ : ∃ x, x = w0.drew := ⟨_, rfl⟩
  rw [← hW] at kb hHeld ⊢
  clear hW
  refine take_at (i := 0) (d := 5) (oi := ?o1) (v := ?v1) ?hi1 ?hd1 (by kernel_rfl) (by kernel_rfl) (by kernel_rfl) ?hw1 ?hy1 ?hq1 (by assumption) ?r1
  case hi1 => (simp only [List.getElem?_toArray, List.getElem?_cons_zero]; rfl)
  case hd1 => rfl
  case hw1 => rfl
  case hy1 => ((intro w hSw; (try dsimp only at hSw); go_simp) <;> (with_reducible rfl))
  case hq1 => exact fun _ _ _ h => h
  simp only [List.set_cons_succ, List.set_cons_zero]
  refine take_at (i := 1) (d := 6) (oi := ?o2) (v := ?v2) ?hi2 ?hd2 (by kernel_rfl) (by kernel_rfl) (by kernel_rfl) ?hw2 ?hy2 ?hq2 (by assumption) ?r2
  case hi2 => (simp only [List.getElem?_toArray, List.getElem?_cons_succ, List.getElem?_cons_zero]; rfl)
  case hd2 => rfl
  case hw2 => rfl
  case hy2 => ((intro w hSw; (try dsimp only at hSw); obtain ⟨k0, k1, k2⟩ := (Xa.out _ hSw).cells; go_simp) <;> (with_reducible rfl))
  case hq2 => exact fun _ _ _ h => h
  simp only [List.set_cons_succ, List.set_cons_zero]
  refine take_at (i := 2) (d := 7) (oi := ?o3) (v := ?v3) ?hi3 ?hd3 (by kernel_rfl) (by kernel_rfl) (by kernel_rfl) ?hw3 ?hy3 ?hq3 (by assumption) ?r3
  case hi3 => (simp only [List.getElem?_toArray, List.getElem?_cons_succ, List.getElem?_cons_zero]; rfl)
  case hd3 => rfl
  case hw3 => rfl
  case hy3 => ((intro w hSw; (try dsimp only at hSw); go_simp) <;> (with_reducible rfl))
  case hq3 => exact fun _ _ _ h => h
  simp only [List.set_cons_succ, List.set_cons_zero]
  refine take_at (i := 3) (d := 8) (oi := ?o4) (v := ?v4) ?hi4 ?hd4 (by kernel_rfl) (by kernel_rfl) (by kernel_rfl) ?hw4 ?hy4 ?hq4 (by assumption) ?r4
  case hi4 => (simp only [List.getElem?_toArray, List.getElem?_cons_succ, List.getElem?_cons_zero]; rfl)
  case hd4 => rfl
  case hw4 => rfl
  case hy4 => ((intro w hSw; (try dsimp only at hSw); obtain ⟨k0, k1, k2⟩ := (Xb.out _ hSw).cells; go_simp) <;> (with_reducible rfl))
  case hq4 => exact fun _ _ _ h => h
  simp only [List.set_cons_succ, List.set_cons_zero]
  refine take_at (i := 5) (d := 10) (oi := ?o5) (v := ?v5) ?hi5 ?hd5 (by kernel_rfl) (by kernel_rfl) (by kernel_rfl) ?hw5 ?hy5 ?hq5 (by assumption) ?r5
  case hi5 => (simp only [List.getElem?_toArray, List.getElem?_cons_succ, List.getElem?_cons_zero]; rfl)
  case hd5 => rfl
  case hw5 => rfl
  case hy5 => ((intro w hSw; (try dsimp only at hSw); go_simp) <;> (with_reducible rfl))
  case hq5 => exact fun _ _ _ h => h
  simp only [List.set_cons_succ, List.set_cons_zero]
  refine take_at (i := 6) (d := 11) (oi := ?o6) (v := ?v6) ?hi6 ?hd6 (by kernel_rfl) (by kernel_rfl) (by kernel_rfl) ?hw6 ?hy6 ?hq6 (by assumption) ?r6
  case hi6 => (simp only [List.getElem?_toArray, List.getElem?_cons_succ, List.getElem?_cons_zero]; rfl)
  case hd6 => rfl
  case hw6 => rfl
  case hy6 => ((intro w hSw; (try dsimp only at hSw); obtain ⟨k0, k1, k2⟩ := (Xa.out _ hSw).cells; go_simp) <;> (with_reducible rfl))
  case hq6 => exact fun _ _ _ h => h
  simp only [List.set_cons_succ, List.set_cons_zero]
  refine take_at (i := 7) (d := 12) (oi := ?o7) (v := ?v7) ?hi7 ?hd7 (by kernel_rfl) (by kernel_rfl) (by kernel_rfl) ?hw7 ?hy7 ?hq7 (by assumption) ?r7
  case hi7 => (simp only [List.getElem?_toArray, List.getElem?_cons_succ, List.getElem?_cons_zero]; rfl)
  case hd7 => rfl
  case hw7 => rfl
  case hy7 => ((intro w hSw; (try dsimp only at hSw); go_simp) <;> (with_reducible rfl))
  case hq7 => exact fun _ _ _ h => h
  simp only [List.set_cons_succ, List.set_cons_zero]
  refine take_at (i := 8) (d := 13) (oi := ?o8) (v := ?v8) ?hi8 ?hd8 (by kernel_rfl) (by kernel_rfl) (by kernel_rfl) ?hw8 ?hy8 ?hq8 (by assumption) ?r8
  case hi8 => (simp only [List.getElem?_toArray, List.getElem?_cons_succ, List.getElem?_cons_zero]; rfl)
  case hd8 => rfl
  case hw8 => rfl
  case hy8 => ((intro w hSw; (try dsimp only at hSw); obtain ⟨k0, k1, k2⟩ := (Xb.out _ hSw).cells; go_simp) <;> (with_reducible rfl))
  case hq8 => exact fun _ _ _ h => h
  simp only [List.set_cons_succ, List.set_cons_zero]
  refine take_at (i := 10) (d := 15) (oi := ?o9) (v := ?v9) ?hi9 ?hd9 (by kernel_rfl) (by kernel_rfl) (by kernel_rfl) ?hw9 ?hy9 ?hq9 (by assumption) ?r9
  case hi9 => (simp only [List.getElem?_toArray, List.getElem?_cons_succ, List.getElem?_cons_zero]; rfl)
  case hd9 => rfl
  case hw9 => rfl
  case hy9 => ((intro w hSw; (try dsimp only at hSw); go_simp) <;> (with_reducible rfl))
  case hq9 => exact fun _ _ _ h => h
  simp only [List.set_cons_succ, List.set_cons_zero]
  refine take_at (i := 11) (d := 16) (oi := ?o10) (v := ?v10) ?hi10 ?hd10 (by kernel_rfl) (by kernel_rfl) (by kernel_rfl) ?hw10 ?hy10 ?hq10 (by assumption) ?r10
  case hi10 => (simp only [List.getElem?_toArray, List.getElem?_cons_succ, List.getElem?_cons_zero]; rfl)
  case hd10 => rfl
  case hw10 => rfl
  case hy10 => ((intro w hSw; (try dsimp only at hSw); obtain ⟨k0, k1, k2⟩ := (Xa.out _ hSw).cells; go_simp) <;> (with_reducible rfl))
  case hq10 => exact fun _ _ _ h => h
  simp only [List.set_cons_succ, List.set_cons_zero]
  refine take_at (i := 12) (d := 17) (oi := ?o11) (v := ?v11) ?hi11 ?hd11 (by kernel_rfl) (by kernel_rfl) (by kernel_rfl) ?hw11 ?hy11 ?hq11 (by assumption) ?r11
  case hi11 => (simp only [List.getElem?_toArray, List.getElem?_cons_succ, List.getElem?_cons_zero]; rfl)
  case hd11 => rfl
  case hw11 => rfl
  case hy11 => ((intro w hSw; (try dsimp only at hSw); go_simp) <;> (with_reducible rfl))
  case hq11 => exact fun _ _ _ h => h
  simp only [List.set_cons_succ, List.set_cons_zero]
  refine take_at (i := 13) (d := 18) (oi := ?o12) (v := ?v12) ?hi12 ?hd12 (by kernel_rfl) (by kernel_rfl) (by kernel_rfl) ?hw12 ?hy12 ?hq12 (by assumption) ?r12
  case hi12 => (simp only [List.getElem?_toArray, List.getElem?_cons_succ, List.getElem?_cons_zero]; rfl)
  case hd12 => rfl
  case hw12 => rfl
  case hy12 => ((intro w hSw; (try dsimp only at hSw); obtain ⟨k0, k1, k2⟩ := (Xb.out _ hSw).cells; go_simp) <;> (with_reducible rfl))
  case hq12 => exact fun _ _ _ h => h
  simp only [List.set_cons_succ, List.set_cons_zero]
  refine wpAnyH_ready (rs := [4]) (by kernel_rfl) (by simp) ?_
  refine br_call (i := 4) (d := 9) (oi := ?o13) (f := ?f13) (args := ?a13) ?hi13 ?hd13 ?hw13 ?he13 ?hc13
  case hi13 => (simp only [List.getElem?_toArray, List.getElem?_cons_succ, List.getElem?_cons_zero]; rfl)
  case hd13 => rfl
  case hw13 => rfl
  case he13 => (go_simp; constructor <;> with_reducible rfl)
  with_reducible refine Calls.mono (compare_int a.seq b.seq _) ?_
  rintro e wp2 ⟨rfl, hb⟩
  replace kb := below_on kb hb
  clear hHeld hb
  refine ⟨_, rfl, kb, fun hHeld => ?_⟩
  simp only [List.set_cons_succ, List.set_cons_zero]
  refine wpAnyH_ready (rs := [9]) (by kernel_rfl) (by simp) ?_
  refine br_call (i := 9) (d := 14) (oi := ?o14) (f := ?f14) (args := ?a14) ?hi14 ?hd14 ?hw14 ?he14 ?hc14
  case hi14 => (simp only [List.getElem?_toArray, List.getElem?_cons_succ, List.getElem?_cons_zero]; rfl)
  case hd14 => rfl
  case hw14 => rfl
  case he14 => (go_simp; constructor <;> with_reducible rfl)
  with_reducible refine Calls.mono (compare_uint8 a.kind b.kind _) ?_
  rintro e wp3 ⟨rfl, hb⟩
  replace kb := below_on kb hb
  clear hHeld hb
  refine ⟨_, rfl, kb, fun hHeld => ?_⟩
  simp only [List.set_cons_succ, List.set_cons_zero]
  refine wpAnyH_ready (rs := [14]) (by kernel_rfl) (by simp) ?_
  refine br_call (i := 14) (d := 19) (oi := ?o15) (f := ?f15) (args := ?a15) ?hi15 ?hd15 ?hw15 ?he15 ?hc15
  case hi15 => (simp only [List.getElem?_toArray, List.getElem?_cons_succ, List.getElem?_cons_zero]; rfl)
  case hd15 => rfl
  case hw15 => rfl
  case he15 => (go_simp; constructor <;> with_reducible rfl)
  with_reducible refine Calls.mono (compare_int a.fmt b.fmt _) ?_
  rintro e wp4 ⟨rfl, hb⟩
  replace kb := below_on kb hb
  clear hHeld hb
  refine ⟨_, rfl, kb, fun hHeld => ?_⟩
  simp only [List.set_cons_succ, List.set_cons_zero]
  refine wpAnyH_ready (rs := [15]) (by kernel_rfl) (by simp) ?_
  obtain ⟨zs, hzs⟩ : ∃ z, z = wp4.heap.size := ⟨_, rfl⟩
  obtain ⟨wp5, hWn⟩ : ∃ x, x = wp4.alloc (.cells #[.int .i64 (cmpP a.seq b.seq), .int .i64 (cmpP a.kind b.kind), .int .i64 (cmpP a.fmt b.fmt)] 3) := ⟨_, rfl⟩
  have hb : Below wp4.heap.size wp4 wp5 := by rw [hWn]; exact below_al (below_d0 _) _
  have los : w0.heap.size ≤ zs := by rw [hzs]; exact kb.size
  have rs : Rd wp5 wp5.heap.size .i64 (some ⟨zs, 0, none⟩) 3 [cmpP a.seq b.seq, cmpP a.kind b.kind, cmpP a.fmt b.fmt] := by rw [hWn, hzs]; exact three_made wp4 _ _ _
  refine br_val (i := 15) (d := 20) (oi := ?o16) (v := .slice (some ⟨zs, 0, none⟩) 3 3) (w' := wp5) ?hi16 ?hd16 ?hw16 ?he16 (below_on kb hb) ?hc16
  case hi16 => (simp only [List.getElem?_toArray, List.getElem?_cons_succ, List.getElem?_cons_zero]; rfl)
  case hd16 => rfl
  case hw16 => rfl
  case he16 => (rw [hzs, hWn]; go_simp)
  replace kb := below_on kb hb
  clear hHeld
  clear hb hWn hzs
  intro hHeld
  simp only [List.set_cons_succ, List.set_cons_zero]
  refine wpAnyH_ready (rs := [16]) (by kernel_rfl) (by simp) ?_
  refine br_call (i := 16) (d := 21) (oi := ?o17) (f := ?f17) (args := ?a17) ?hi17 ?hd17 ?hw17 ?he17 ?hc17
  case hi17 => (simp only [List.getElem?_toArray, List.getElem?_cons_succ, List.getElem?_cons_zero]; rfl)
  case hd17 => rfl
  case hw17 => rfl
  case he17 => (go_simp; constructor <;> with_reducible rfl)
  with_reducible refine Calls.mono (or_any rs (by omega)) ?_
  rintro e wp6 ⟨rfl, hb⟩
  replace rs : Rd wp6 wp6.heap.size .i64 (some ⟨zs, 0, none⟩) 3 [cmpP a.seq b.seq, cmpP a.kind b.kind, cmpP a.fmt b.fmt] := rs.on hb hb.size
  replace kb := below_on kb hb
  clear hHeld hb
  refine ⟨_, rfl, kb, fun hHeld => ?_⟩
  simp only [List.set_cons_succ, List.set_cons_zero]
  refine take_at (i := 17) (d := 4) (oi := ?o18) (v := ?v18) ?hi18 ?hd18 (by kernel_rfl) (by kernel_rfl) (by kernel_rfl) ?hw18 ?hy18 ?hq18 (by assumption) ?r18
  case hi18 => (simp only [List.getElem?_toArray, List.getElem?_cons_succ, List.getElem?_cons_zero]; rfl)
  case hd18 => rfl
  case hw18 => rfl
  case hy18 => ((intro w hSw; (try dsimp only at hSw); go_simp) <;> (with_reducible rfl))
  case hq18 => exact fun _ _ _ h => h
  simp only [List.set_cons_succ, List.set_cons_zero]
  refine wpAnyH_done (by kernel_rfl) ?_ _
  go_wp2_with fail
  go_ret
  exact ⟨by rw [or_three]; rfl, hB.out.trans (kb.mono hB.out.size)⟩
/-- names.Less. -/
theorem less_any (a b : IdP) (w : World) : Calls Tryd.prog 14 #[a.v, b.v] w fun e w' => e = .returned (.bool (decide (LessP a b))) ∧ Below w.heap.size w w' := by
  go_enter Tryd.func14, Tryd.ntmps14
  unfold IdP.v
  go_wp2_with fail
  refine (order_any a b _).mono ?_
  rintro e w1 ⟨rfl, hb⟩
  have hB : Below w.heap.size w w1 := below_on (below_al (below_al (below_d0 w) _) _) hb
  have e1 : decide (orderP a b < 0) = decide (LessP a b) := by rw [Bool.eq_iff_iff, decide_eq_true_eq, decide_eq_true_eq, less_iff]
  have E1 := Lib.hid e1
  clear hb e1
  go_wp2_with fail
  go_ret
  exact ⟨congrArg (fun b => Ending.returned (.bool b)) E1.out, hB⟩

end Go.Proofs.YtbfdjjkphmchgaaDoor
