/-
  NumOnly's walk: it returns true, and turns nothing that lay.
-/
import Derived.Test.YtbpinikldcakfaaAppend
import Derived.Test.YtbpinikldcakfaaOrder
namespace Go.Proofs.Ytbpinikldcakfaa
open Go.RowKit

set_option maxRecDepth 100000 in
set_option maxHeartbeats 600000 in
theorem only_ok_0 (A : Option Addr) (n c : Nat) (l : List Int) (w : World) (hr : Rd w w.heap.size .u8 A n l) (hb : Byt l) (hnc : n ≤ c) (hn : n ≤ 300) {x : Int} {m : Nat} (h1 : Hid (takeP l = (x, m, 0))) (Hx : Hid (shortOf x ++ l.drop m = l)) (Hq : Hid ((shortOf x).length = m)) (Hf : Hid (takeP ((shortOf x).take (m - 1)) = (0, 0, 10))) (hx : 0 ≤ x ∧ x ≤ 1073741824) (hm : 1 ≤ m ∧ m ≤ 5 ∧ m ≤ n) (h2 : Hid (longP l = (0, [], 10))) (h5 : n < 5) :
    Calls Try.prog 5 #[.slice A n c] w fun e w' => e = .returned (.bool true) ∧ Below w.heap.size w w' := by
  have Hl := Lib.hid hr.1
  obtain ⟨i0, hi, hz0, hz1, hz2⟩ := info_parts info_byte
  go_enter Try.func5, Try.ntmps5
  go_wp2_with fail
  refine (take_ok A n c l w hr hb hnc (by omega) h1.out rfl (q := n - m) (by rw [List.length_drop, Hl.out])).mono ?_
  rintro e w1 ⟨A1, c1, rfl, r1, hB⟩
  have hsz := hB.size
  go_wp2_with fail
  refine (short_yes _ 1 1 [x] _ (R := shortOf x) (q := m) (Rd.made _ .i64 3 [x] (by simp)) (by omega) (allNum_one hx.1 hx.2) (shorts_one _) Hq.out).mono ?_
  rintro e w2 ⟨A2, c2, rfl, r2, hb2⟩
  replace r1 := (r1.alloc _).on hb2
  replace hB : Below w.heap.size w w2 := (hB.alloc hsz _).trans (hb2.mono (by simp; omega))
  clear hb2 hsz
  have hsz := hB.size
  have hm1 := hm.1
  have hm2 := hm.2.1
  have hd1 : ((m : Int) == 0) = false := by simp; omega
  have hd2 : decide ((5 : Int) < (m : Int)) = false := by simp; omega
  go_wp2_with (at_builtin; refine hold ?_)
  refine unhold (wpList_append_rdg (.tmp 46) (.tmp 47) 23 Try.underlying23 hi hz0 hz1 hz2 byte_cells (own_empty w2 w2.heap.size 5 (Nat.le_refl _)) ((r2.alloc _).rd) (by unfold maxLen; omega) (by omega) (by simp) rfl rfl rfl rfl ?_)
  intro v1 w8 L3
  go_wp2_with (at_builtin; refine hold ?_)
  refine unhold (wpList_append_rdg (.tmp 48) (.tmp 49) 23 Try.underlying23 hi hz0 hz1 hz2 byte_cells (L3.1) ((r1.on L3.one.2).rd) (by unfold maxLen; omega) (by omega) (by have := L3.2.1.size; simp at this; omega) rfl rfl rfl rfl ?_)
  intro v2 w9 L4
  obtain ⟨⟨A9, c9, qc9, rfl, r9⟩, hb9⟩ := L3.two L4
  go_wp2_with fail
  replace hB : Below w.heap.size w w9 := hB.trans (hb9.mono hsz)
  replace r2 := r2.on hb9
  clear hsz hb9
  have hsz := hB.size
  refine (same_out _ _ _ _ _ _ _ r9.rd (hr.on hB hB.size) (by rw [Hx.out]; exact hb) hb (eqB_true Hx.out)).mono ?_
  rintro e w' ⟨rfl, rfl⟩
  have hc2 := r2.1
  go_wp2_with fail
  refine (take_err _ (m - 1) _ ((shortOf x).take (m - 1)) _ (r2.rd.first (by omega)) ((short_byt hx.1 hx.2).take _) (by omega) (by omega) Hf.out (by decide)).mono ?_
  rintro e w3 ⟨A3, c3, rfl, r3, hb3⟩
  replace hB : Below w.heap.size w w3 := hB.trans (hb3.mono hsz)
  clear hb3 hsz r3
  go_wp2_with fail
  have hsz := hB.size
  refine (long_out _ _ _ l _ (hr.on hB hB.size) hb hnc (by omega) h2.out (q := 0) (rfl)).mono ?_
  rintro e w4 ⟨A4, c4, rfl, r4, hb4⟩
  replace hB : Below w.heap.size w w4 := hB.trans (hb4.mono hB.size)
  clear hb4 hsz
  have hsz := hB.size
  go_wp2_with fail
  refine (wakes_any _).mono ?_
  rintro e w' ⟨rfl, hbw⟩
  go_wp2_with fail
  go_ret
  exact ⟨rfl, hB.trans (hbw.mono hB.size)⟩

set_option maxRecDepth 100000 in
set_option maxHeartbeats 600000 in
theorem only_ok_1 (A : Option Addr) (n c : Nat) (l : List Int) (w : World) (hr : Rd w w.heap.size .u8 A n l) (hb : Byt l) (hnc : n ≤ c) (hn : n ≤ 300) {x : Int} {m : Nat} (h1 : Hid (takeP l = (x, m, 0))) (Hx : Hid (shortOf x ++ l.drop m = l)) (Hq : Hid ((shortOf x).length = m)) (Hf : Hid (takeP ((shortOf x).take (m - 1)) = (0, 0, 10))) (hx : 0 ≤ x ∧ x ≤ 1073741824) (hm : 1 ≤ m ∧ m ≤ 5 ∧ m ≤ n) (h2 : Hid (longP l = (0, [], 11))) (h5 : 5 ≤ n) :
    Calls Try.prog 5 #[.slice A n c] w fun e w' => e = .returned (.bool true) ∧ Below w.heap.size w w' := by
  have Hl := Lib.hid hr.1
  obtain ⟨i0, hi, hz0, hz1, hz2⟩ := info_parts info_byte
  go_enter Try.func5, Try.ntmps5
  go_wp2_with fail
  refine (take_ok A n c l w hr hb hnc (by omega) h1.out rfl (q := n - m) (by rw [List.length_drop, Hl.out])).mono ?_
  rintro e w1 ⟨A1, c1, rfl, r1, hB⟩
  have hsz := hB.size
  go_wp2_with fail
  refine (short_yes _ 1 1 [x] _ (R := shortOf x) (q := m) (Rd.made _ .i64 3 [x] (by simp)) (by omega) (allNum_one hx.1 hx.2) (shorts_one _) Hq.out).mono ?_
  rintro e w2 ⟨A2, c2, rfl, r2, hb2⟩
  replace r1 := (r1.alloc _).on hb2
  replace hB : Below w.heap.size w w2 := (hB.alloc hsz _).trans (hb2.mono (by simp; omega))
  clear hb2 hsz
  have hsz := hB.size
  have hm1 := hm.1
  have hm2 := hm.2.1
  have hd1 : ((m : Int) == 0) = false := by simp; omega
  have hd2 : decide ((5 : Int) < (m : Int)) = false := by simp; omega
  go_wp2_with (at_builtin; refine hold ?_)
  refine unhold (wpList_append_rdg (.tmp 46) (.tmp 47) 23 Try.underlying23 hi hz0 hz1 hz2 byte_cells (own_empty w2 w2.heap.size 5 (Nat.le_refl _)) ((r2.alloc _).rd) (by unfold maxLen; omega) (by omega) (by simp) rfl rfl rfl rfl ?_)
  intro v1 w8 L3
  go_wp2_with (at_builtin; refine hold ?_)
  refine unhold (wpList_append_rdg (.tmp 48) (.tmp 49) 23 Try.underlying23 hi hz0 hz1 hz2 byte_cells (L3.1) ((r1.on L3.one.2).rd) (by unfold maxLen; omega) (by omega) (by have := L3.2.1.size; simp at this; omega) rfl rfl rfl rfl ?_)
  intro v2 w9 L4
  obtain ⟨⟨A9, c9, qc9, rfl, r9⟩, hb9⟩ := L3.two L4
  go_wp2_with fail
  replace hB : Below w.heap.size w w9 := hB.trans (hb9.mono hsz)
  replace r2 := r2.on hb9
  clear hsz hb9
  have hsz := hB.size
  refine (same_out _ _ _ _ _ _ _ r9.rd (hr.on hB hB.size) (by rw [Hx.out]; exact hb) hb (eqB_true Hx.out)).mono ?_
  rintro e w' ⟨rfl, rfl⟩
  have hc2 := r2.1
  go_wp2_with fail
  refine (take_err _ (m - 1) _ ((shortOf x).take (m - 1)) _ (r2.rd.first (by omega)) ((short_byt hx.1 hx.2).take _) (by omega) (by omega) Hf.out (by decide)).mono ?_
  rintro e w3 ⟨A3, c3, rfl, r3, hb3⟩
  replace hB : Below w.heap.size w w3 := hB.trans (hb3.mono hsz)
  clear hb3 hsz r3
  go_wp2_with fail
  have hsz := hB.size
  have hd5 : decide ((n : Int) < 5) = false := by simp; omega
  refine (long_out _ _ _ l _ (hr.on hB hB.size) hb hnc (by omega) h2.out (q := 0) (rfl)).mono ?_
  rintro e w4 ⟨A4, c4, rfl, r4, hb4⟩
  replace hB : Below w.heap.size w w4 := hB.trans (hb4.mono hB.size)
  clear hb4 hsz
  have hsz := hB.size
  go_wp2_with fail
  refine (wakes_any _).mono ?_
  rintro e w' ⟨rfl, hbw⟩
  go_wp2_with fail
  go_ret
  exact ⟨rfl, hB.trans (hbw.mono hB.size)⟩

set_option maxRecDepth 100000 in
set_option maxHeartbeats 600000 in
theorem only_ok_2 (A : Option Addr) (n c : Nat) (l : List Int) (w : World) (hr : Rd w w.heap.size .u8 A n l) (hb : Byt l) (hnc : n ≤ c) (hn : n ≤ 300) {x : Int} {m : Nat} (h1 : Hid (takeP l = (x, m, 0))) (Hx : Hid (shortOf x ++ l.drop m = l)) (Hq : Hid ((shortOf x).length = m)) (Hf : Hid (takeP ((shortOf x).take (m - 1)) = (0, 0, 10))) (hx : 0 ≤ x ∧ x ≤ 1073741824) (hm : 1 ≤ m ∧ m ≤ 5 ∧ m ≤ n) {y : Int} (h2 : Hid (longP l = (y, l.drop 5, 0))) (Hy : Hid (longOf y ++ l.drop 5 = l)) (hy : 0 ≤ y ∧ y ≤ 1073741824) :
    Calls Try.prog 5 #[.slice A n c] w fun e w' => e = .returned (.bool true) ∧ Below w.heap.size w w' := by
  have Hl := Lib.hid hr.1
  obtain ⟨i0, hi, hz0, hz1, hz2⟩ := info_parts info_byte
  go_enter Try.func5, Try.ntmps5
  go_wp2_with fail
  refine (take_ok A n c l w hr hb hnc (by omega) h1.out rfl (q := n - m) (by rw [List.length_drop, Hl.out])).mono ?_
  rintro e w1 ⟨A1, c1, rfl, r1, hB⟩
  have hsz := hB.size
  go_wp2_with fail
  refine (short_yes _ 1 1 [x] _ (R := shortOf x) (q := m) (Rd.made _ .i64 3 [x] (by simp)) (by omega) (allNum_one hx.1 hx.2) (shorts_one _) Hq.out).mono ?_
  rintro e w2 ⟨A2, c2, rfl, r2, hb2⟩
  replace r1 := (r1.alloc _).on hb2
  replace hB : Below w.heap.size w w2 := (hB.alloc hsz _).trans (hb2.mono (by simp; omega))
  clear hb2 hsz
  have hsz := hB.size
  have hm1 := hm.1
  have hm2 := hm.2.1
  have hd1 : ((m : Int) == 0) = false := by simp; omega
  have hd2 : decide ((5 : Int) < (m : Int)) = false := by simp; omega
  go_wp2_with (at_builtin; refine hold ?_)
  refine unhold (wpList_append_rdg (.tmp 46) (.tmp 47) 23 Try.underlying23 hi hz0 hz1 hz2 byte_cells (own_empty w2 w2.heap.size 5 (Nat.le_refl _)) ((r2.alloc _).rd) (by unfold maxLen; omega) (by omega) (by simp) rfl rfl rfl rfl ?_)
  intro v1 w8 L3
  go_wp2_with (at_builtin; refine hold ?_)
  refine unhold (wpList_append_rdg (.tmp 48) (.tmp 49) 23 Try.underlying23 hi hz0 hz1 hz2 byte_cells (L3.1) ((r1.on L3.one.2).rd) (by unfold maxLen; omega) (by omega) (by have := L3.2.1.size; simp at this; omega) rfl rfl rfl rfl ?_)
  intro v2 w9 L4
  obtain ⟨⟨A9, c9, qc9, rfl, r9⟩, hb9⟩ := L3.two L4
  go_wp2_with fail
  replace hB : Below w.heap.size w w9 := hB.trans (hb9.mono hsz)
  replace r2 := r2.on hb9
  clear hsz hb9
  have hsz := hB.size
  refine (same_out _ _ _ _ _ _ _ r9.rd (hr.on hB hB.size) (by rw [Hx.out]; exact hb) hb (eqB_true Hx.out)).mono ?_
  rintro e w' ⟨rfl, rfl⟩
  have hc2 := r2.1
  go_wp2_with fail
  refine (take_err _ (m - 1) _ ((shortOf x).take (m - 1)) _ (r2.rd.first (by omega)) ((short_byt hx.1 hx.2).take _) (by omega) (by omega) Hf.out (by decide)).mono ?_
  rintro e w3 ⟨A3, c3, rfl, r3, hb3⟩
  replace hB : Below w.heap.size w w3 := hB.trans (hb3.mono hsz)
  clear hb3 hsz r3
  go_wp2_with fail
  have hsz := hB.size
  refine (long_out _ _ _ l _ (hr.on hB hB.size) hb hnc (by omega) h2.out (q := n - 5) (by rw [List.length_drop, Hl.out])).mono ?_
  rintro e w4 ⟨A4, c4, rfl, r4, hb4⟩
  replace hB : Below w.heap.size w w4 := hB.trans (hb4.mono hB.size)
  clear hb4 hsz
  have hsz := hB.size
  go_wp2_with fail
  refine (long_yes _ 1 1 [y] _ (R := longOf y) (q := 5) (Rd.made _ .i64 3 [y] (by simp)) (by omega) (allNum_one hy.1 hy.2) (longs_one _) (longOf_length _)).mono ?_
  rintro e w5 ⟨A5, c5, rfl, r5, hb5⟩
  replace r4 := (r4.alloc _).on hb5
  replace hB : Below w.heap.size w w5 := (hB.alloc hsz _).trans (hb5.mono (by simp; omega))
  clear hb5 hsz
  have hsz := hB.size
  go_wp2_with (at_builtin; refine hold ?_)
  refine unhold (wpList_append_rdg (.tmp 122) (.tmp 123) 23 Try.underlying23 hi hz0 hz1 hz2 byte_cells (own_empty w5 w5.heap.size 5 (Nat.le_refl _)) ((r5.alloc _).rd) (by unfold maxLen; omega) (by omega) (by simp) rfl rfl rfl rfl ?_)
  intro v1 w6 L1
  go_wp2_with (at_builtin; refine hold ?_)
  refine unhold (wpList_append_rdg (.tmp 124) (.tmp 125) 23 Try.underlying23 hi hz0 hz1 hz2 byte_cells (L1.1) ((r4.on L1.one.2).rd) (by unfold maxLen; omega) (by omega) (by have := L1.2.1.size; simp at this; omega) rfl rfl rfl rfl ?_)
  intro v2 w7 L2
  obtain ⟨⟨A7, c7, qc7, rfl, r7⟩, hb7⟩ := L1.two L2
  go_wp2_with fail
  replace hB : Below w.heap.size w w7 := hB.trans (hb7.mono hsz)
  refine (same_out _ _ _ _ _ _ _ r7.rd (hr.on hB hB.size) (by rw [Hy.out]; exact hb) hb (eqB_true Hy.out)).mono ?_
  rintro e w' ⟨rfl, rfl⟩
  go_wp2_with fail
  refine (wakes_any _).mono ?_
  rintro e w' ⟨rfl, hbw⟩
  go_wp2_with fail
  go_ret
  exact ⟨rfl, hB.trans (hbw.mono hB.size)⟩

set_option maxRecDepth 100000 in
set_option maxHeartbeats 600000 in
theorem only_short_0 (A : Option Addr) (n c : Nat) (l : List Int) (w : World) (hr : Rd w w.heap.size .u8 A n l) (hb : Byt l) (hnc : n ≤ c) (hn : n ≤ 300) (h1 : Hid (takeP l = (0, 0, 10))) (h2 : Hid (longP l = (0, [], 10))) (h5 : n < 5) :
    Calls Try.prog 5 #[.slice A n c] w fun e w' => e = .returned (.bool true) ∧ Below w.heap.size w w' := by
  have Hl := Lib.hid hr.1
  obtain ⟨i0, hi, hz0, hz1, hz2⟩ := info_parts info_byte
  go_enter Try.func5, Try.ntmps5
  go_wp2_with fail
  refine (take_err A n c l w hr hb hnc (by omega) h1.out (by decide)).mono ?_
  rintro e w1 ⟨A1, c1, rfl, r1, hB⟩
  clear r1
  go_wp2_with fail
  have hsz := hB.size
  refine (long_out _ _ _ l _ (hr.on hB hB.size) hb hnc (by omega) h2.out (q := 0) (rfl)).mono ?_
  rintro e w4 ⟨A4, c4, rfl, r4, hb4⟩
  replace hB : Below w.heap.size w w4 := hB.trans (hb4.mono hB.size)
  clear hb4 hsz
  have hsz := hB.size
  go_wp2_with fail
  refine (wakes_any _).mono ?_
  rintro e w' ⟨rfl, hbw⟩
  go_wp2_with fail
  go_ret
  exact ⟨rfl, hB.trans (hbw.mono hB.size)⟩

set_option maxRecDepth 100000 in
set_option maxHeartbeats 600000 in
theorem only_short_1 (A : Option Addr) (n c : Nat) (l : List Int) (w : World) (hr : Rd w w.heap.size .u8 A n l) (hb : Byt l) (hnc : n ≤ c) (hn : n ≤ 300) (h1 : Hid (takeP l = (0, 0, 10))) (h2 : Hid (longP l = (0, [], 11))) (h5 : 5 ≤ n) :
    Calls Try.prog 5 #[.slice A n c] w fun e w' => e = .returned (.bool true) ∧ Below w.heap.size w w' := by
  have Hl := Lib.hid hr.1
  obtain ⟨i0, hi, hz0, hz1, hz2⟩ := info_parts info_byte
  go_enter Try.func5, Try.ntmps5
  go_wp2_with fail
  refine (take_err A n c l w hr hb hnc (by omega) h1.out (by decide)).mono ?_
  rintro e w1 ⟨A1, c1, rfl, r1, hB⟩
  clear r1
  go_wp2_with fail
  have hsz := hB.size
  have hd5 : decide ((n : Int) < 5) = false := by simp; omega
  refine (long_out _ _ _ l _ (hr.on hB hB.size) hb hnc (by omega) h2.out (q := 0) (rfl)).mono ?_
  rintro e w4 ⟨A4, c4, rfl, r4, hb4⟩
  replace hB : Below w.heap.size w w4 := hB.trans (hb4.mono hB.size)
  clear hb4 hsz
  have hsz := hB.size
  go_wp2_with fail
  refine (wakes_any _).mono ?_
  rintro e w' ⟨rfl, hbw⟩
  go_wp2_with fail
  go_ret
  exact ⟨rfl, hB.trans (hbw.mono hB.size)⟩

set_option maxRecDepth 100000 in
set_option maxHeartbeats 600000 in
theorem only_short_2 (A : Option Addr) (n c : Nat) (l : List Int) (w : World) (hr : Rd w w.heap.size .u8 A n l) (hb : Byt l) (hnc : n ≤ c) (hn : n ≤ 300) (h1 : Hid (takeP l = (0, 0, 10))) {y : Int} (h2 : Hid (longP l = (y, l.drop 5, 0))) (Hy : Hid (longOf y ++ l.drop 5 = l)) (hy : 0 ≤ y ∧ y ≤ 1073741824) :
    Calls Try.prog 5 #[.slice A n c] w fun e w' => e = .returned (.bool true) ∧ Below w.heap.size w w' := by
  have Hl := Lib.hid hr.1
  obtain ⟨i0, hi, hz0, hz1, hz2⟩ := info_parts info_byte
  go_enter Try.func5, Try.ntmps5
  go_wp2_with fail
  refine (take_err A n c l w hr hb hnc (by omega) h1.out (by decide)).mono ?_
  rintro e w1 ⟨A1, c1, rfl, r1, hB⟩
  clear r1
  go_wp2_with fail
  have hsz := hB.size
  refine (long_out _ _ _ l _ (hr.on hB hB.size) hb hnc (by omega) h2.out (q := n - 5) (by rw [List.length_drop, Hl.out])).mono ?_
  rintro e w4 ⟨A4, c4, rfl, r4, hb4⟩
  replace hB : Below w.heap.size w w4 := hB.trans (hb4.mono hB.size)
  clear hb4 hsz
  have hsz := hB.size
  go_wp2_with fail
  refine (long_yes _ 1 1 [y] _ (R := longOf y) (q := 5) (Rd.made _ .i64 3 [y] (by simp)) (by omega) (allNum_one hy.1 hy.2) (longs_one _) (longOf_length _)).mono ?_
  rintro e w5 ⟨A5, c5, rfl, r5, hb5⟩
  replace r4 := (r4.alloc _).on hb5
  replace hB : Below w.heap.size w w5 := (hB.alloc hsz _).trans (hb5.mono (by simp; omega))
  clear hb5 hsz
  have hsz := hB.size
  go_wp2_with (at_builtin; refine hold ?_)
  refine unhold (wpList_append_rdg (.tmp 122) (.tmp 123) 23 Try.underlying23 hi hz0 hz1 hz2 byte_cells (own_empty w5 w5.heap.size 5 (Nat.le_refl _)) ((r5.alloc _).rd) (by unfold maxLen; omega) (by omega) (by simp) rfl rfl rfl rfl ?_)
  intro v1 w6 L1
  go_wp2_with (at_builtin; refine hold ?_)
  refine unhold (wpList_append_rdg (.tmp 124) (.tmp 125) 23 Try.underlying23 hi hz0 hz1 hz2 byte_cells (L1.1) ((r4.on L1.one.2).rd) (by unfold maxLen; omega) (by omega) (by have := L1.2.1.size; simp at this; omega) rfl rfl rfl rfl ?_)
  intro v2 w7 L2
  obtain ⟨⟨A7, c7, qc7, rfl, r7⟩, hb7⟩ := L1.two L2
  go_wp2_with fail
  replace hB : Below w.heap.size w w7 := hB.trans (hb7.mono hsz)
  refine (same_out _ _ _ _ _ _ _ r7.rd (hr.on hB hB.size) (by rw [Hy.out]; exact hb) hb (eqB_true Hy.out)).mono ?_
  rintro e w' ⟨rfl, rfl⟩
  go_wp2_with fail
  refine (wakes_any _).mono ?_
  rintro e w' ⟨rfl, hbw⟩
  go_wp2_with fail
  go_ret
  exact ⟨rfl, hB.trans (hbw.mono hB.size)⟩

set_option maxRecDepth 100000 in
set_option maxHeartbeats 600000 in
theorem only_form_0 (A : Option Addr) (n c : Nat) (l : List Int) (w : World) (hr : Rd w w.heap.size .u8 A n l) (hb : Byt l) (hnc : n ≤ c) (hn : n ≤ 300) (h1 : Hid (takeP l = (0, 0, 11))) (h2 : Hid (longP l = (0, [], 10))) (h5 : n < 5) :
    Calls Try.prog 5 #[.slice A n c] w fun e w' => e = .returned (.bool true) ∧ Below w.heap.size w w' := by
  have Hl := Lib.hid hr.1
  obtain ⟨i0, hi, hz0, hz1, hz2⟩ := info_parts info_byte
  go_enter Try.func5, Try.ntmps5
  go_wp2_with fail
  refine (take_err A n c l w hr hb hnc (by omega) h1.out (by decide)).mono ?_
  rintro e w1 ⟨A1, c1, rfl, r1, hB⟩
  clear r1
  go_wp2_with fail
  have hsz := hB.size
  refine (long_out _ _ _ l _ (hr.on hB hB.size) hb hnc (by omega) h2.out (q := 0) (rfl)).mono ?_
  rintro e w4 ⟨A4, c4, rfl, r4, hb4⟩
  replace hB : Below w.heap.size w w4 := hB.trans (hb4.mono hB.size)
  clear hb4 hsz
  have hsz := hB.size
  go_wp2_with fail
  refine (wakes_any _).mono ?_
  rintro e w' ⟨rfl, hbw⟩
  go_wp2_with fail
  go_ret
  exact ⟨rfl, hB.trans (hbw.mono hB.size)⟩

set_option maxRecDepth 100000 in
set_option maxHeartbeats 600000 in
theorem only_form_1 (A : Option Addr) (n c : Nat) (l : List Int) (w : World) (hr : Rd w w.heap.size .u8 A n l) (hb : Byt l) (hnc : n ≤ c) (hn : n ≤ 300) (h1 : Hid (takeP l = (0, 0, 11))) (h2 : Hid (longP l = (0, [], 11))) (h5 : 5 ≤ n) :
    Calls Try.prog 5 #[.slice A n c] w fun e w' => e = .returned (.bool true) ∧ Below w.heap.size w w' := by
  have Hl := Lib.hid hr.1
  obtain ⟨i0, hi, hz0, hz1, hz2⟩ := info_parts info_byte
  go_enter Try.func5, Try.ntmps5
  go_wp2_with fail
  refine (take_err A n c l w hr hb hnc (by omega) h1.out (by decide)).mono ?_
  rintro e w1 ⟨A1, c1, rfl, r1, hB⟩
  clear r1
  go_wp2_with fail
  have hsz := hB.size
  have hd5 : decide ((n : Int) < 5) = false := by simp; omega
  refine (long_out _ _ _ l _ (hr.on hB hB.size) hb hnc (by omega) h2.out (q := 0) (rfl)).mono ?_
  rintro e w4 ⟨A4, c4, rfl, r4, hb4⟩
  replace hB : Below w.heap.size w w4 := hB.trans (hb4.mono hB.size)
  clear hb4 hsz
  have hsz := hB.size
  go_wp2_with fail
  refine (wakes_any _).mono ?_
  rintro e w' ⟨rfl, hbw⟩
  go_wp2_with fail
  go_ret
  exact ⟨rfl, hB.trans (hbw.mono hB.size)⟩

set_option maxRecDepth 100000 in
set_option maxHeartbeats 600000 in
theorem only_form_2 (A : Option Addr) (n c : Nat) (l : List Int) (w : World) (hr : Rd w w.heap.size .u8 A n l) (hb : Byt l) (hnc : n ≤ c) (hn : n ≤ 300) (h1 : Hid (takeP l = (0, 0, 11))) {y : Int} (h2 : Hid (longP l = (y, l.drop 5, 0))) (Hy : Hid (longOf y ++ l.drop 5 = l)) (hy : 0 ≤ y ∧ y ≤ 1073741824) :
    Calls Try.prog 5 #[.slice A n c] w fun e w' => e = .returned (.bool true) ∧ Below w.heap.size w w' := by
  have Hl := Lib.hid hr.1
  obtain ⟨i0, hi, hz0, hz1, hz2⟩ := info_parts info_byte
  go_enter Try.func5, Try.ntmps5
  go_wp2_with fail
  refine (take_err A n c l w hr hb hnc (by omega) h1.out (by decide)).mono ?_
  rintro e w1 ⟨A1, c1, rfl, r1, hB⟩
  clear r1
  go_wp2_with fail
  have hsz := hB.size
  refine (long_out _ _ _ l _ (hr.on hB hB.size) hb hnc (by omega) h2.out (q := n - 5) (by rw [List.length_drop, Hl.out])).mono ?_
  rintro e w4 ⟨A4, c4, rfl, r4, hb4⟩
  replace hB : Below w.heap.size w w4 := hB.trans (hb4.mono hB.size)
  clear hb4 hsz
  have hsz := hB.size
  go_wp2_with fail
  refine (long_yes _ 1 1 [y] _ (R := longOf y) (q := 5) (Rd.made _ .i64 3 [y] (by simp)) (by omega) (allNum_one hy.1 hy.2) (longs_one _) (longOf_length _)).mono ?_
  rintro e w5 ⟨A5, c5, rfl, r5, hb5⟩
  replace r4 := (r4.alloc _).on hb5
  replace hB : Below w.heap.size w w5 := (hB.alloc hsz _).trans (hb5.mono (by simp; omega))
  clear hb5 hsz
  have hsz := hB.size
  go_wp2_with (at_builtin; refine hold ?_)
  refine unhold (wpList_append_rdg (.tmp 122) (.tmp 123) 23 Try.underlying23 hi hz0 hz1 hz2 byte_cells (own_empty w5 w5.heap.size 5 (Nat.le_refl _)) ((r5.alloc _).rd) (by unfold maxLen; omega) (by omega) (by simp) rfl rfl rfl rfl ?_)
  intro v1 w6 L1
  go_wp2_with (at_builtin; refine hold ?_)
  refine unhold (wpList_append_rdg (.tmp 124) (.tmp 125) 23 Try.underlying23 hi hz0 hz1 hz2 byte_cells (L1.1) ((r4.on L1.one.2).rd) (by unfold maxLen; omega) (by omega) (by have := L1.2.1.size; simp at this; omega) rfl rfl rfl rfl ?_)
  intro v2 w7 L2
  obtain ⟨⟨A7, c7, qc7, rfl, r7⟩, hb7⟩ := L1.two L2
  go_wp2_with fail
  replace hB : Below w.heap.size w w7 := hB.trans (hb7.mono hsz)
  refine (same_out _ _ _ _ _ _ _ r7.rd (hr.on hB hB.size) (by rw [Hy.out]; exact hb) hb (eqB_true Hy.out)).mono ?_
  rintro e w' ⟨rfl, rfl⟩
  go_wp2_with fail
  refine (wakes_any _).mono ?_
  rintro e w' ⟨rfl, hbw⟩
  go_wp2_with fail
  go_ret
  exact ⟨rfl, hB.trans (hbw.mono hB.size)⟩

set_option maxRecDepth 100000 in
set_option maxHeartbeats 400000 in
theorem only_great (A : Option Addr) (n c : Nat) (w : World) (hn : 300 < n) :
    Calls Try.prog 5 #[.slice A n c] w fun e w' => e = .returned (.bool true) ∧ Below w.heap.size w w' := by
  go_enter Try.func5, Try.ntmps5
  go_wp2_with fail
  refine (wakes_any w).mono ?_
  rintro e w' ⟨rfl, hb⟩
  go_wp2_with fail
  go_ret
  exact ⟨rfl, hb⟩

theorem only_any (A : Option Addr) (n c : Nat) (l : List Int) (w : World) (hr : Rd w w.heap.size .u8 A n l) (hb : Byt l) (hnc : n ≤ c) :
    Calls Try.prog 5 #[.slice A n c] w fun e w' => e = .returned (.bool true) ∧ Below w.heap.size w w' := by
  by_cases hn : 300 < n
  · exact only_great A n c w hn
  have hl := hr.1
  have key : (longP l = (0, [], 10) ∧ n < 5) ∨ (longP l = (0, [], 11) ∧ 5 ≤ n) ∨ ∃ y, longP l = (y, l.drop 5, 0) ∧ longOf y ++ l.drop 5 = l ∧ 0 ≤ y ∧ y ≤ 1073741824 := by
    by_cases h5 : n < 5
    · exact .inl ⟨longP_short (by omega), h5⟩
    · by_cases hs : 1073741824 < sumL (l.take 5)
      · exact .inr (.inl ⟨longP_big (by omega) hs, by omega⟩)
      · have h := longP_ok (l := l) (by omega) (by omega)
        exact .inr (.inr ⟨_, h, long_longP hb h⟩)
  rcases takeP_fine hb with (h1 | h1) | ⟨x, m, h1, _, _, hm, hm5, hml⟩
  · rcases key with ⟨h2, h5⟩ | ⟨h2, h5⟩ | ⟨y, h2, hy, hy2⟩
    · exact only_short_0 A n c l w hr hb hnc (by omega) (Lib.hid h1) (Lib.hid h2) h5
    · exact only_short_1 A n c l w hr hb hnc (by omega) (Lib.hid h1) (Lib.hid h2) h5
    · exact only_short_2 A n c l w hr hb hnc (by omega) (Lib.hid h1) (Lib.hid h2) (Lib.hid hy) hy2
  · rcases key with ⟨h2, h5⟩ | ⟨h2, h5⟩ | ⟨y, h2, hy, hy2⟩
    · exact only_form_0 A n c l w hr hb hnc (by omega) (Lib.hid h1) (Lib.hid h2) h5
    · exact only_form_1 A n c l w hr hb hnc (by omega) (Lib.hid h1) (Lib.hid h2) h5
    · exact only_form_2 A n c l w hr hb hnc (by omega) (Lib.hid h1) (Lib.hid h2) (Lib.hid hy) hy2
  · obtain ⟨e1, e2, e3⟩ := short_takeP hb h1
    have Hx : shortOf x ++ l.drop m = l := by rw [e1, List.take_append_drop]
    have Hq : (shortOf x).length = m := by rw [shortOf_length]; exact e2.symm
    have Hf : takeP ((shortOf x).take (m - 1)) = (0, 0, 10) := by rw [e2]; exact takeP_fewer e3.1 e3.2
    rcases key with ⟨h2, h5⟩ | ⟨h2, h5⟩ | ⟨y, h2, hy, hy2⟩
    · exact only_ok_0 A n c l w hr hb hnc (by omega) (Lib.hid h1) (Lib.hid Hx) (Lib.hid Hq) (Lib.hid Hf) e3 ⟨hm, hm5, by omega⟩ (Lib.hid h2) h5
    · exact only_ok_1 A n c l w hr hb hnc (by omega) (Lib.hid h1) (Lib.hid Hx) (Lib.hid Hq) (Lib.hid Hf) e3 ⟨hm, hm5, by omega⟩ (Lib.hid h2) h5
    · exact only_ok_2 A n c l w hr hb hnc (by omega) (Lib.hid h1) (Lib.hid Hx) (Lib.hid Hq) (Lib.hid Hf) e3 ⟨hm, hm5, by omega⟩ (Lib.hid h2) (Lib.hid hy) hy2

end Go.Proofs.Ytbpinikldcakfaa
