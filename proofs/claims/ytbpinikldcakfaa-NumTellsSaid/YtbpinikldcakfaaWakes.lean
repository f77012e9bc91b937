/-
  moultlaw01.wakes: it returns true.
-/
import Derived.Test.YtbpinikldcakfaaCalls
import Derived.Test.YtbpinikldcakfaaInts
namespace Go.Proofs.Ytbpinikldcakfaa
open Go.RowKit

theorem Row.alloc {k : IntKind} {R : List Int} {q : Nat} {A : Option Addr} {c : Nat} {w : World} (h : Row k R q A c w) (o : Obj) : Row k R q A c (w.alloc o) := h.on ((Below.refl _ _).alloc (Nat.le_refl _) o)
theorem same_yes (A A' : Option Addr) (n n' c c' : Nat) (l : List Int) (w : World) (hr : Rd w w.heap.size .u8 A n l) (hr' : Rd w w.heap.size .u8 A' n' l) (hl : Byt l) :
    Calls Try.prog 13 #[.slice A n c, .slice A' n' c'] w fun e w' => e = .returned (.bool true) ∧ w = w' := by
  have h := same_any A A' n n' c c' l l w hr hr' hl hl
  rwa [eqB_true rfl] at h
theorem ints_yes (A A' : Option Addr) (n n' c c' : Nat) (l : List Int) (w : World) (hr : Rd w w.heap.size .i64 A n l) (hr' : Rd w w.heap.size .i64 A' n' l) (hn : n ≤ 140737488355328) (hn' : n' ≤ 140737488355328) :
    Calls Try.prog 22 #[.slice A n c, .slice A' n' c'] w fun e w' => e = .returned (.bool true) ∧ Below w.heap.size w w' := by
  have h := ints_any A A' n n' c c' l l w hr hr' hn hn'
  rwa [eqB_true rfl] at h
theorem is_out (A : Option Addr) (n c : Nat) (l : List Int) (w : World) {x : Bool} (hr : Rd w w.heap.size .i64 A n l) (hn : n ≤ 140737488355328) (hx : allNum l = x) :
    Calls Try.prog 14 #[.slice A n c] w fun e w' => e = .returned (.bool x) ∧ w = w' := by
  have h := is_any A n c l w hr hn
  rwa [hx] at h
theorem byt_lit {l : List Int} (h : (l.all fun x => decide (0 ≤ x) && decide (x ≤ 255)) = true) : Byt l := fun x hx => by
  have := List.all_eq_true.1 h x hx
  simpa using this

set_option maxRecDepth 100000 in
set_option maxHeartbeats 2000000 in
theorem wakes_any (w : World) : Calls Try.prog 8 #[] w fun e w' => e = .returned (.bool true) ∧ Below w.heap.size w w' := by
  go_enter Try.func8, Try.ntmps8
  go_wp2_with fail
  refine (short_yes _ 1 1 [300] _ (R := [130, 44]) (q := 2) (Rd.made _ .i64 3 [300] (by simp)) (by omega) (by decide) (by decide) rfl).mono ?_
  rintro e w1 ⟨A1, c1, rfl, h1, hb1⟩
  have hB : Below w.heap.size w w1 := ((Below.refl _ w).alloc (Nat.le_refl _) _).trans (hb1.mono (by simp))
  clear hb1
  go_wp2_with fail
  refine (long_yes _ 1 1 [300] _ (R := [0, 0, 0, 1, 44]) (q := 5) (Rd.made _ .i64 3 [300] (by simp)) (by omega) (by decide) (by decide) rfl).mono ?_
  rintro e w2 ⟨A2, c2, rfl, h2, hb⟩
  replace h1 := (h1.alloc _).on hb
  replace hB : Below w.heap.size w w2 := (hB.alloc hB.size _).trans (hb.mono (by have := hB.size; simp; omega))
  clear hb
  go_wp2_with fail
  refine (take_ok _ 3 3 [130, 44, 9] _ (R := [9]) (q := 1) (x := 300) (m := 2) (Rd.made _ .u8 5 [130, 44, 9] (by simp)) (byt_lit (by decide)) (by omega) (by omega) (by decide) rfl rfl).mono ?_
  rintro e w3 ⟨A3, c3, rfl, h3, hb⟩
  replace h1 := (h1.alloc _).on hb
  replace h2 := (h2.alloc _).on hb
  replace hB : Below w.heap.size w w3 := (hB.alloc hB.size _).trans (hb.mono (by have := hB.size; simp; omega))
  clear hb
  go_wp2_with fail
  refine (take_err _ 2 2 [128, 1] _ (x := 11) (Rd.made _ .u8 5 [128, 1] (by simp)) (byt_lit (by decide)) (by omega) (by omega) (by decide) (by decide)).mono ?_
  rintro e w4 ⟨A4, c4, rfl, h4, hb⟩
  replace h1 := (h1.alloc _).on hb
  replace h2 := (h2.alloc _).on hb
  replace h3 := (h3.alloc _).on hb
  replace hB : Below w.heap.size w w4 := (hB.alloc hB.size _).trans (hb.mono (by have := hB.size; simp; omega))
  clear hb h4
  go_wp2_with fail
  refine (take_err _ 1 1 [130] _ (x := 10) (Rd.made _ .u8 5 [130] (by simp)) (byt_lit (by decide)) (by omega) (by omega) (by decide) (by decide)).mono ?_
  rintro e w5 ⟨A5, c5, rfl, h5, hb⟩
  replace h1 := (h1.alloc _).on hb
  replace h2 := (h2.alloc _).on hb
  replace h3 := (h3.alloc _).on hb
  replace hB : Below w.heap.size w w5 := (hB.alloc hB.size _).trans (hb.mono (by have := hB.size; simp; omega))
  clear hb h5
  go_wp2_with fail
  refine (short_no _ 1 1 [-1] _ (Rd.made _ .i64 3 [-1] (by simp)) (by omega) (by decide)).mono ?_
  rintro e w6 ⟨A6, c6, rfl, h6, hb⟩
  replace h1 := (h1.alloc _).on hb
  replace h2 := (h2.alloc _).on hb
  replace h3 := (h3.alloc _).on hb
  replace hB : Below w.heap.size w w6 := (hB.alloc hB.size _).trans (hb.mono (by have := hB.size; simp; omega))
  clear hb h6
  go_wp2_with fail
  refine (takes_out _ 2 2 [7, 8] _ (many := 2) (e := 0) (R := [7, 8]) (S := []) (q := 2) (p := 0) (Rd.made _ .u8 5 [7, 8] (by simp)) (byt_lit (by decide)) (by omega) (by omega) (by decide) rfl rfl).mono ?_
  rintro e w7 ⟨A7, c7, A8, c8, rfl, h7, h8, hb⟩
  replace h1 := (h1.alloc _).on hb
  replace h2 := (h2.alloc _).on hb
  replace h3 := (h3.alloc _).on hb
  replace hB : Below w.heap.size w w7 := (hB.alloc hB.size _).trans (hb.mono (by have := hB.size; simp; omega))
  clear hb h8
  go_wp2_with fail
  refine (same_yes _ _ 2 2 _ _ [130, 44] _ (h1.alloc _).rd (Rd.made _ .u8 5 [130, 44] (by simp)) (byt_lit (by decide))).mono ?_
  rintro e w' ⟨rfl, rfl⟩
  go_wp2_with fail
  refine (same_yes _ _ 5 5 _ _ [0, 0, 0, 1, 44] _ ((h2.alloc _).alloc _).rd (Rd.made _ .u8 5 [0, 0, 0, 1, 44] (by simp)) (byt_lit (by decide))).mono ?_
  rintro e w' ⟨rfl, rfl⟩
  go_wp2_with fail
  refine (same_yes _ _ 1 1 _ _ [9] _ (((h3.alloc _).alloc _).alloc _).rd (Rd.made _ .u8 5 [9] (by simp)) (byt_lit (by decide))).mono ?_
  rintro e w' ⟨rfl, rfl⟩
  go_wp2_with fail
  refine (ints_yes _ _ 2 2 _ _ [7, 8] _ ((((h7.alloc _).alloc _).alloc _).alloc _).rd (Rd.made _ .i64 3 [7, 8] (by simp)) (by omega) (by omega)).mono ?_
  rintro e w8 ⟨rfl, hb⟩
  have hsz := hB.size
  replace hB : Below w.heap.size w w8 := ((((hB.alloc hsz _).alloc (by simp; omega) _).alloc (by simp; omega) _).alloc (by simp; omega) _).trans (hb.mono (by simp; omega))
  clear hb hsz
  go_wp2_with fail
  refine (is_out _ 2 2 [0, 1073741824] _ (x := true) (Rd.made _ .i64 3 [0, 1073741824] (by simp)) (by omega) (by decide)).mono ?_
  rintro e w' ⟨rfl, rfl⟩
  go_wp2_with fail
  refine (is_out _ 1 1 [1073741825] _ (x := false) (Rd.made _ .i64 3 [1073741825] (by simp)) (by omega) (by decide)).mono ?_
  rintro e w' ⟨rfl, rfl⟩
  have hsz := hB.size
  go_wp2_with fail
  go_ret
  exact ⟨rfl, (hB.alloc hsz _).alloc (by simp; omega) _⟩

end Go.Proofs.Ytbpinikldcakfaa
