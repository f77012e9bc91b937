/-
  NumOrder's walk: it returns true, and turns nothing that lay.
-/
import Derived.Test.YtbpinikldcakfaaWakes
import Derived.Test.YtbpinikldcakfaaOrderP
namespace Go.Proofs.Ytbpinikldcakfaa
open Go.RowKit

theorem longs_one (n : Int) : longsOf [n] = longOf n := by simp [longsOf]
theorem shorts_one (n : Int) : shortsOf [n] = shortOf n := by simp [shortsOf]
theorem allNum_one {n : Int} (h0 : 0 ≤ n) (h1 : n ≤ 1073741824) : allNum [n] = true := by simp [allNum, isNum, h0, h1]
theorem same_out (A A' : Option Addr) (n n' c c' : Nat) {l m : List Int} (w : World) {x : Bool} (hr : Rd w w.heap.size .u8 A n l) (hr' : Rd w w.heap.size .u8 A' n' m) (hl : Byt l) (hm : Byt m) (hx : eqB l m = x) :
    Calls Try.prog 13 #[.slice A n c, .slice A' n' c'] w fun e w' => e = .returned (.bool x) ∧ w = w' := by
  have h := same_any A A' n n' c c' l m w hr hr' hl hm
  rwa [hx] at h
theorem Byt.take {l : List Int} (h : Byt l) (k : Nat) : Byt (l.take k) := fun x hx => h x (List.mem_of_mem_take hx)

set_option maxRecDepth 100000 in
set_option maxHeartbeats 1000000 in
theorem order_out (n m : Int) (w : World) (h : n < 0 ∨ m < n ∨ 1073741824 < m) :
    Calls Try.prog 6 #[.int .i64 n, .int .i64 m] w fun e w' => e = .returned (.bool true) ∧ Below w.heap.size w w' := by
  by_cases h1 : n < 0
  · have hd : decide (n < 0) = true := by simpa using h1
    go_enter Try.func6, Try.ntmps6
    go_wp2_with fail
    refine (wakes_any w).mono ?_
    rintro e w' ⟨rfl, hb⟩
    go_wp2_with fail
    go_ret
    exact ⟨rfl, hb⟩
  · have hd : decide (n < 0) = false := by simpa using h1
    by_cases h2 : m < n
    · have hd2 : decide (m < n) = true := by simpa using h2
      go_enter Try.func6, Try.ntmps6
      go_wp2_with fail
      refine (wakes_any w).mono ?_
      rintro e w' ⟨rfl, hb⟩
      go_wp2_with fail
      go_ret
      exact ⟨rfl, hb⟩
    · have hd2 : decide (m < n) = false := by simpa using h2
      have h3 : 1073741824 < m := by omega
      go_enter Try.func6, Try.ntmps6
      go_wp2_with fail
      refine (wakes_any w).mono ?_
      rintro e w' ⟨rfl, hb⟩
      go_wp2_with fail
      go_ret
      exact ⟨rfl, hb⟩

set_option maxRecDepth 100000 in
set_option maxHeartbeats 2000000 in
theorem order_in (n m : Int) (w : World) (h0 : 0 ≤ n) (h : n ≤ m) (h1 : m ≤ 1073741824) :
    Calls Try.prog 6 #[.int .i64 n, .int .i64 m] w fun e w' => e = .returned (.bool true) ∧ Below w.heap.size w w' := by
  have hd : decide (n < 0) = false := by simp; omega
  have hd2 : decide (m < n) = false := by simp; omega
  have hc := cnt_mono h0 h h1
  have hc1 := cnt_bd h0 (by omega)
  have hc2 := cnt_bd (n := m) (by omega) h1
  have Hn := Lib.hid (allNum_one h0 (by omega))
  have Hm := Lib.hid (allNum_one (n := m) (by omega) h1)
  go_enter Try.func6, Try.ntmps6
  go_wp2_with fail
  refine (long_yes _ 1 1 [n] _ (R := longOf n) (q := 5) (Rd.made _ .i64 3 [n] (by simp)) (by omega) Hn.out (longs_one n) (longOf_length n)).mono ?_
  rintro e w1 ⟨A1, c1, rfl, r1, hb1⟩
  have hB : Below w.heap.size w w1 := ((Below.refl _ w).alloc (Nat.le_refl _) _).trans (hb1.mono (by simp))
  clear hb1
  go_wp2_with fail
  refine (long_yes _ 1 1 [m] _ (R := longOf m) (q := 5) (Rd.made _ .i64 3 [m] (by simp)) (by omega) Hm.out (longs_one m) (longOf_length m)).mono ?_
  rintro e w2 ⟨A2, c2, rfl, r2, hb⟩
  replace r1 := (r1.alloc _).on hb
  replace hB : Below w.heap.size w w2 := (hB.alloc hB.size _).trans (hb.mono (by have := hB.size; simp; omega))
  clear hb
  go_wp2_with fail
  refine (short_yes _ 1 1 [n] _ (R := shortOf n) (q := cnt n) (Rd.made _ .i64 3 [n] (by simp)) (by omega) Hn.out (shorts_one n) (shortOf_length n)).mono ?_
  rintro e w3 ⟨A3, c3, rfl, r3, hb⟩
  replace r1 := (r1.alloc _).on hb
  replace r2 := (r2.alloc _).on hb
  replace hB : Below w.heap.size w w3 := (hB.alloc hB.size _).trans (hb.mono (by have := hB.size; simp; omega))
  clear hb
  go_wp2_with fail
  refine (short_yes _ 1 1 [m] _ (R := shortOf m) (q := cnt m) (Rd.made _ .i64 3 [m] (by simp)) (by omega) Hm.out (shorts_one m) (shortOf_length m)).mono ?_
  rintro e w4 ⟨A4, c4, rfl, r4, hb⟩
  replace r1 := (r1.alloc _).on hb
  replace r2 := (r2.alloc _).on hb
  replace r3 := (r3.alloc _).on hb
  replace hB : Below w.heap.size w w4 := (hB.alloc hB.size _).trans (hb.mono (by have := hB.size; simp; omega))
  clear hb
  have q1 := run_txt (P := Try.prog) (c := c1) 23 9 5 Try.underlying23 Try.underlying5 Try.underlying9 r1.rd
  have q2 := run_txt (P := Try.prog) (c := c2) 23 9 5 Try.underlying23 Try.underlying5 Try.underlying9 r2.rd
  have s3 := short_byt h0 (show n ≤ 1073741824 by omega)
  have s4 := short_byt (n := m) (by omega) h1
  have r4' := r4.rd.first hc
  have hle4 := r4.1
  clear r1 r2
  by_cases hlt : n < m
  · have hl : Op.bytesLess (txt (longOf n)).toList (txt (longOf m)).toList = true := by rw [txt_less (long_byt n) (long_byt m)]; exact long_less h0 hlt h1
    have hd3 : decide (n < m) = true := by simpa using hlt
    have hd4 : (n == m) = false := by simp; omega
    go_wp2_with fail
    refine (same_out _ _ _ _ _ _ _ r3.rd r4' s3 (s4.take _) (short_prefix h0 hlt h1)).mono ?_
    rintro e w' ⟨rfl, rfl⟩
    go_wp2_with fail
    refine (wakes_any _).mono ?_
    rintro e w' ⟨rfl, hb⟩
    go_wp2_with fail
    go_ret
    exact ⟨rfl, hB.trans (hb.mono hB.size)⟩
  · obtain rfl : n = m := by omega
    have hl : Op.bytesLess (txt (longOf n)).toList (txt (longOf n)).toList = false := by rw [txt_less (long_byt n) (long_byt n)]; exact lessL_self _
    have hd3 : decide (n < n) = false := by simp
    go_wp2_with fail
    refine (same_out _ _ _ _ _ _ _ r3.rd r4' s3 (s4.take _) short_whole).mono ?_
    rintro e w' ⟨rfl, rfl⟩
    go_wp2_with fail
    refine (wakes_any _).mono ?_
    rintro e w' ⟨rfl, hb⟩
    go_wp2_with fail
    go_ret
    exact ⟨rfl, hB.trans (hb.mono hB.size)⟩

end Go.Proofs.Ytbpinikldcakfaa
