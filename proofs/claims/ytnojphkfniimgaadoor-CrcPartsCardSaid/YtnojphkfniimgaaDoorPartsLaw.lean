/-
  CrcParts's walk: it returns true, and turns nothing that lay.
-/
import Derived.Test.YtnojphkfniimgaaDoorHeld
namespace Go.Proofs.YtnojphkfniimgaaDoor
open Go.RowKit

theorem parts_list (l : List Int) {i k : Nat} (h : i ≤ k) : l.take i ++ ((l.take k).drop i ++ l.drop k) = l := by
  rw [← List.append_assoc, show l.take i = (l.take k).take i by rw [List.take_take, Nat.min_eq_left h], List.take_append_drop, List.take_append_drop]

set_option maxRecDepth 100000 in
set_option maxHeartbeats 1000000 in
theorem parts_long (A : Option Addr) (n c : Nat) (i k s : Int) (w : World) (hT : Tab w) (h : 400 < n) :
    Calls Tryd.prog 5 #[.slice A n c, .int .i64 i, .int .i64 k, .int .u32 s] w fun e w' => e = .returned (.bool true) ∧ Below w.heap.size w w' := by
  have hd : decide ((400 : Int) < (n : Int)) = true := by simp; omega
  go_enter Tryd.func5, Tryd.ntmps5
  go_wp2_with fail
  refine (wakes_any _ hT).mono ?_
  rintro e w' ⟨rfl, hb⟩
  go_wp2_with fail
  go_ret
  exact ⟨rfl, hb⟩

set_option maxRecDepth 100000 in
set_option maxHeartbeats 2000000 in
theorem parts_any (A : Option Addr) (n c : Nat) (l : List Int) (i0 k0 s : Int) (w : World) (hT : Tab w) (hr : Rd w w.heap.size .u8 A n l) (hb : Byt l) (hnc : n ≤ c) (hs : 0 ≤ s ∧ s < 4294967296) (h : n ≤ 400) :
    Calls Tryd.prog 5 #[.slice A n c, .int .i64 i0, .int .i64 k0, .int .u32 s] w fun e w' => e = .returned (.bool true) ∧ Below w.heap.size w w' := by
  have hd : decide ((400 : Int) < (n : Int)) = false := by simp; omega
  obtain ⟨t0, hi, _, hz1, _⟩ := info_parts info_u8
  obtain ⟨x1, m1, p1, p2, p3⟩ := max2_run (P := Tryd.prog) i0 0
  obtain ⟨x2, m2, p4, p5, p6⟩ := min2_run (P := Tryd.prog) x1 n
  obtain ⟨y1, m3, p7, p8, p9⟩ := max2_run (P := Tryd.prog) k0 0
  obtain ⟨y2, m4, q1, q2, q3⟩ := min2_run (P := Tryd.prog) y1 n
  obtain ⟨i', m5, q4, q5, q6⟩ := min2_run (P := Tryd.prog) x2 y2
  obtain ⟨k', m6, q7, q8, q9⟩ := max2_run (P := Tryd.prog) x2 y2
  obtain ⟨i, rfl⟩ : ∃ i : Nat, i' = (i : Int) := ⟨i'.toNat, by omega⟩
  obtain ⟨k, rfl⟩ : ∃ k : Nat, k' = (k : Int) := ⟨k'.toNat, by omega⟩
  have hik : i ≤ k := by omega
  have hkn : k ≤ n := by omega
  clear p1 p2 p3 p4 p5 p6 p7 p8 p9 q1 q2 q3 q4 q5 q6 q7 q8 q9
  have s1 := cut_first (P := Tryd.prog) Tryd.underlying25 hi hz1 A n c i (by omega)
  have s4 := cut_first (P := Tryd.prog) Tryd.underlying25 hi hz1 A n c k (by omega)
  obtain ⟨A2, c2, s2, f2⟩ := cut_mid (P := Tryd.prog) Tryd.underlying25 hi hz1 A n c i k hik hkn hnc
  obtain ⟨A3, c3, s3, f3⟩ := cut_rest (P := Tryd.prog) Tryd.underlying25 hi hz1 A n c k hkn hnc
  have R0 := Lib.hid (⟨hr, hb, by omega⟩ : Rd w w.heap.size .u8 A n l ∧ Byt l ∧ n ≤ 140737488355328)
  have R1 := Lib.hid (⟨hr.first (by omega : i ≤ n), hb.take i, by omega⟩ : Rd w w.heap.size .u8 A i (l.take i) ∧ Byt (l.take i) ∧ i ≤ 140737488355328)
  have R2 := Lib.hid (⟨f2 hr, (hb.take k).drop i, by omega⟩ : Rd w w.heap.size .u8 A2 (k - i) ((l.take k).drop i) ∧ Byt ((l.take k).drop i) ∧ k - i ≤ 140737488355328)
  have R3 := Lib.hid (⟨f3 hr, hb.drop k, by omega⟩ : Rd w w.heap.size .u8 A3 (n - k) (l.drop k) ∧ Byt (l.drop k) ∧ n - k ≤ 140737488355328)
  have R4 := Lib.hid (⟨hr.first hkn, hb.take k, by omega⟩ : Rd w w.heap.size .u8 A k (l.take k) ∧ Byt (l.take k) ∧ k ≤ 140737488355328)
  have R5 := Lib.hid (⟨Rd.nil, Byt.nil, by omega⟩ : Rd w w.heap.size .u8 none 0 [] ∧ Byt [] ∧ 0 ≤ 140737488355328)
  have e1 : sumI (l.take i ++ ((l.take k).drop i ++ l.drop k)) = sumI l := by rw [parts_list l hik]
  have e2 : nextI (nextI (sumI (l.take i)) ((l.take k).drop i)) (l.drop k) = sumI l := by rw [sumI_next, nextI_append, nextI_append, ← e1, sumI_next]
  have e3 : nextI s [] = s := nextI_nil hs
  have e4 : nextI (nextI s (l.take k)) (l.drop k) = nextI s l := by rw [nextI_append, List.take_append_drop]
  have HT := Lib.hid hT
  have Hs := Lib.hid hs
  clear f2 f3 hr hb hT hs hik hkn h hnc hi hz1
  go_enter Tryd.func5, Tryd.ntmps5
  go_wp2_with fail
  refine (sum_held1 (w := w) rfl HT.out ((Below.refl _ w).alloc (Nat.le_refl _) _) R0.out.1 R0.out.2.1 R0.out.2.2).mono ?_
  rintro e w1 ⟨rfl, hS⟩
  go_wp2_with fail
  go_region_held3 (fun W => Below w.heap.size w W)
    (first | assumption | exact Below.drew (by assumption) | exact Below.alloc (by assumption) (Below.size (by assumption)) _)
    (first
      | (go_at_call 11; with_reducible refine (next_held (w := w) HT.out (by assumption) (by first | exact Hs.out | exact sumI_range _ | exact nextI_range _ _) R2.out.1 R2.out.2.1 R2.out.2.2).mono ?_; rintro e w2 ⟨rfl, hS'⟩)
      | (go_at_call 11; with_reducible refine (next_held (w := w) HT.out (by assumption) (by first | exact Hs.out | exact sumI_range _ | exact nextI_range _ _) R3.out.1 R3.out.2.1 R3.out.2.2).mono ?_; rintro e w2 ⟨rfl, hS'⟩)
      | (go_at_call 11; with_reducible refine (next_held (w := w) HT.out (by assumption) (by first | exact Hs.out | exact sumI_range _ | exact nextI_range _ _) R4.out.1 R4.out.2.1 R4.out.2.2).mono ?_; rintro e w2 ⟨rfl, hS'⟩)
      | (go_at_call 11; with_reducible refine (next_held (w := w) HT.out (by assumption) (by first | exact Hs.out | exact sumI_range _ | exact nextI_range _ _) R5.out.1 R5.out.2.1 R5.out.2.2).mono ?_; rintro e w2 ⟨rfl, hS'⟩)
      | (go_at_call 11; with_reducible refine (next_held (w := w) HT.out (by assumption) (by first | exact Hs.out | exact sumI_range _ | exact nextI_range _ _) R0.out.1 R0.out.2.1 R0.out.2.2).mono ?_; rintro e w2 ⟨rfl, hS'⟩)
      | (go_at_call 18; with_reducible refine (sum_held1 (w := w) (by with_unfolding_all rfl) HT.out (by assumption) R1.out.1 R1.out.2.1 R1.out.2.2).mono ?_; rintro e w2 ⟨rfl, hS'⟩)
      | (go_at_call 18; with_reducible refine (sum_held3d (w := w) (by with_unfolding_all rfl) HT.out (by assumption) R1.out.1 R1.out.2.1 R1.out.2.2 R2.out.1 R2.out.2.1 R2.out.2.2 R3.out.1 R3.out.2.1 R3.out.2.2).mono ?_; rintro e w2 ⟨rfl, hS'⟩)
      | (go_at_call 8; with_reducible refine (wakes_held (w := w) HT.out (by assumption)).mono ?_; rintro e w2 ⟨rfl, hS'⟩))
  all_goals
    go_wp2_with fail
    go_ret
    exact ⟨rfl, by assumption⟩

theorem parts_all (A : Option Addr) (n c : Nat) (l : List Int) (i0 k0 s : Int) (w : World) (hT : Tab w) (hr : Rd w w.heap.size .u8 A n l) (hb : Byt l) (hnc : n ≤ c) (hs : 0 ≤ s ∧ s < 4294967296) :
    Calls Tryd.prog 5 #[.slice A n c, .int .i64 i0, .int .i64 k0, .int .u32 s] w fun e w' => e = .returned (.bool true) ∧ Below w.heap.size w w' := by
  rcases Nat.lt_or_ge 400 n with h | h
  · exact parts_long A n c i0 k0 s w hT h
  · exact parts_any A n c l i0 k0 s w hT hr hb hnc hs h

end Go.Proofs.YtnojphkfniimgaaDoor
