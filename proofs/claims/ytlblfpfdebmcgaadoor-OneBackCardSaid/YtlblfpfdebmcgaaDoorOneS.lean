/-
  moultlaw07.same, one.Size, one.Head, one.put and the document's: their contracts.
-/
import Derived.Test.YtlblfpfdebmcgaaDoorOneP
import Derived.Test.YtlblfpfdebmcgaaDoorNumR
import Derived.Test.YtlblfpfdebmcgaaDoorCrcM
import Derived.Test.YtlblfpfdebmcgaaDoorRow
import Derived.Deep.DeepCutAuto
namespace Go.Proofs.YtlblfpfdebmcgaaDoor
open Go.RowKit
set_option linter.unusedVariables false

/-- Bytes and an error told: the bytes are a row of the call's own. -/
def Tel (w : World) (R : List Int × Int) (e : Ending) (w' : World) : Prop :=
  (∃ A c, e = .returned (.tuple #[.slice A R.1.length c, .int .i64 R.2]) ∧ R.1.length ≤ c ∧ w'.ownsRow w.heap.size 5 1 (.slice A R.1.length c) R.1.length (R.1.map (Value.int .u8))) ∧ Below w.heap.size w w'
theorem Tel.none_ {w w' : World} {R : List Int × Int} (h : R = ([], 2)) (hB : Below w.heap.size w w') : Tel w R (.returned (.tuple #[.slice none 0 0, .int .i64 2])) w' := by
  subst h
  exact ⟨⟨none, 0, rfl, Nat.le_refl _, World.ownsRow_nil _ _ _ _⟩, hB⟩
theorem Tel.some_ {w w' : World} {R : List Int × Int} {L : List Int} {v : Value} {n : Nat} (h : R = (L, 0)) (hn : L.length = n) (hr : w'.ownsRow w.heap.size 5 1 v n (L.map (Value.int .u8))) (hB : Below w.heap.size w w') : Tel w R (.returned (.tuple #[v, .int .i64 0])) w' := by
  subst h hn
  obtain ⟨A, c, rfl, hc, _⟩ := own_rd hr
  exact ⟨⟨A, c, rfl, hc, hr⟩, hB⟩

/-- The row that a literal makes. -/
theorem own_lit (w : World) {base g : Nat} {e : TypeId} (l : List Value) (hg : g = w.heap.size) (hb : base ≤ w.heap.size) (hm : l.length ≤ maxLen) :
    (w.alloc (.cells l.toArray e)).ownsRow base e 1 (.slice (some ⟨g, 0, none⟩) l.length l.length) l.length l := by
  subst hg
  exact ⟨by simp, .inr ⟨w.heap.size, l.length, l.toArray, rfl, hb, World.alloc_heap_new w _, Nat.le_refl _, hm, by simp, by simp⟩⟩
theorem own_weak {w : World} {base b' : Nat} {e : TypeId} {size : Nat} {v : Value} {n : Nat} {xs : List Value} (h : w.ownsRow base e size v n xs) (hb : b' ≤ base) : w.ownsRow b' e size v n xs :=
  ⟨h.1, h.2.imp id fun ⟨g, cap, cur, h1, h2, h3⟩ => ⟨g, cap, cur, h1, Nat.le_trans hb h2, h3⟩⟩
theorem num_one (n : Int) : Nu.allNum [n] = decide (0 ≤ n ∧ n ≤ 1073741824) := by
  simp [Nu.allNum, Nu.isNum]
theorem longs_one (n : Int) : Nu.longsOf [n] = Nu.longOf n := by simp [Nu.longsOf]

section
variable (A : Option Addr) (c : Nat) (n : Int) (w : World) (hr : Rd w w.heap.size .i64 A 1 [n])
include hr
theorem long_yes1 (hn : 0 ≤ n ∧ n ≤ 1073741824) : Calls Tryd.prog 23 #[.slice A 1 c] w fun e w' => (∃ A' c', e = .returned (.tuple #[.slice A' 5 c', .int .i64 0]) ∧ 5 ≤ c' ∧ Rd w' w'.heap.size .u8 A' 5 (Nu.longOf n)) ∧ Below w.heap.size w w' := by
  refine (callsIn_wide.1 (Nu.long_in A 1 c [n] w hr (by omega))).mono ?_
  rintro e w' ⟨⟨v, rfl, hg⟩, hb⟩
  have ha : Nu.allNum [n] = true := by rw [num_one]; simpa using hn
  rw [ha, if_pos rfl, longs_one] at hg
  obtain ⟨A', c', rfl, hc, hrd⟩ := hg
  rw [Nu.longOf_length] at hc hrd ⊢
  exact ⟨⟨A', c', by rw [ha]; rfl, hc, hrd⟩, hb⟩
theorem long_no1 (hn : ¬ (0 ≤ n ∧ n ≤ 1073741824)) : Calls Tryd.prog 23 #[.slice A 1 c] w fun e w' => (∃ v, e = .returned (.tuple #[v, .int .i64 2])) ∧ Below w.heap.size w w' := by
  refine (callsIn_wide.1 (Nu.long_in A 1 c [n] w hr (by omega))).mono ?_
  rintro e w' ⟨⟨v, rfl, hg⟩, hb⟩
  have ha : Nu.allNum [n] = false := by rw [num_one]; simpa using hn
  exact ⟨⟨v, by rw [ha]; rfl⟩, hb⟩
theorem rlong_yes1 (hn : 0 ≤ n ∧ n ≤ 1073741824) : Calls Tryd.prog 24 #[.slice A 1 c] w fun e w' => (∃ A' c', e = .returned (.tuple #[.slice A' 5 c', .int .i64 0]) ∧ 5 ≤ c' ∧ w'.ownsRow w.heap.size 5 1 (.slice A' 5 c') 5 ((Nu.longOf n).map (Value.int .u8))) ∧ Below w.heap.size w w' := by
  refine (Nu.rlongs_any A 1 c [n] w hr (by omega)).mono ?_
  rintro e w' ⟨⟨v, rfl, hg⟩, hb⟩
  have ha : Nu.allNum [n] = true := by rw [num_one]; simpa using hn
  rw [ha, if_pos rfl, longs_one] at hg
  obtain ⟨A', c', rfl, hc, hrd⟩ := own_rd hg
  rw [Nu.longOf_length] at hc hg ⊢
  exact ⟨⟨A', c', by rw [ha]; rfl, hc, hg⟩, hb⟩
end

theorem beq_txt {l m : List Int} (hl : Byt l) (hm : Byt m) : ((Cr.txt l).toList == (Cr.txt m).toList) = Cr.eqB l m := Cr.txt_beq hl hm
set_option maxRecDepth 100000 in
set_option maxHeartbeats 400000 in
/-- same: it tells whether two slices hold the same bytes; nothing turns. -/
theorem same_any (A A' : Option Addr) (n n' c c' : Nat) (l m : List Int) (w : World) (hr : Rd w w.heap.size .u8 A n l) (hr' : Rd w w.heap.size .u8 A' n' m) (hl : Byt l) (hm : Byt m) :
    Calls Tryd.prog 13 #[.slice A n c, .slice A' n' c'] w fun e w' => e = .returned (.bool (Cr.eqB l m)) ∧ w = w' := by
  have q1 := Cr.run_txt (P := Tryd.prog) (c := c) 23 9 5 Tryd.underlying23 Tryd.underlying5 Tryd.underlying9 hr
  have q2 := Cr.run_txt (P := Tryd.prog) (c := c') 23 9 5 Tryd.underlying23 Tryd.underlying5 Tryd.underlying9 hr'
  have H := Lib.hid (Cr.txt_beq hl hm)
  clear hr hr' hl hm
  go_enter Tryd.func13, Tryd.ntmps13
  go_wp2
  go_ret
  exact ⟨ret_bool H.out, rfl⟩

theorem size_nums (n : Int) : ∃ m q : Int, (∀ ts t w, (Builtin.max_ ts t #[.int .i64 n, .int .i64 0]).run Tryd.prog w = .ok (.int .i64 m) w) ∧ (∀ ts t w, (Builtin.min_ ts t #[.int .i64 m, .int .i64 1073741824]).run Tryd.prog w = .ok (.int .i64 q) w) ∧ 0 ≤ q ∧ q ≤ 1073741824 ∧ 6 + 15 * q = sizeP n := by
  obtain ⟨m, hm, m1, m2, m3⟩ := Cr.max2_run (P := Tryd.prog) n 0
  obtain ⟨q, hq, q1, q2, q3⟩ := Cr.min2_run (P := Tryd.prog) m 1073741824
  refine ⟨m, q, hm, hq, by omega, by omega, ?_⟩
  unfold sizeP
  omega
set_option maxRecDepth 100000 in
theorem size_any (n : Int) (w : World) : Calls Tryd.prog 14 #[.int .i64 n] w fun e w' => e = .returned (.int .i64 (sizeP n)) ∧ w' = w := by
  obtain ⟨m, q, hm, hq, q0, q1, hs⟩ := size_nums n
  rw [← hs]
  clear hs
  go_enter Tryd.func14, Tryd.ntmps14
  go_wp2
  go_ret
  exact ⟨rfl, rfl⟩
set_option maxRecDepth 100000 in
theorem rsize_any (n : Int) (w : World) : Calls Tryd.prog 15 #[.int .i64 n] w fun e w' => e = .returned (.int .i64 (sizeP n)) ∧ w' = w := by
  obtain ⟨m, q, hm, hq, q0, q1, hs⟩ := size_nums n
  rw [← hs]
  clear hs
  go_enter Tryd.func15, Tryd.ntmps15
  go_wp2
  go_ret
  exact ⟨rfl, rfl⟩

set_option maxRecDepth 100000 in
set_option maxHeartbeats 1000000 in
theorem head_any (n : Int) (w : World) : Calls Tryd.prog 9 #[.int .i64 n] w (Tel w (headP n)) := by
  obtain ⟨i0, hi, hz0, hz1, hz2⟩ := info_parts Cr.info_u8
  have hr1 : Rd (w.alloc (.cells #[.int .i64 n] 3)) (w.alloc (.cells #[.int .i64 n] 3)).heap.size .i64 (some ⟨w.heap.size, 0, none⟩) 1 [n] := Cr.Rd.made w .i64 3 [n] rfl
  have hB1 : Below w.heap.size w (w.alloc (.cells #[.int .i64 n] 3)) := (Below.refl _ w).alloc (Nat.le_refl _) _
  by_cases hn : 0 ≤ n ∧ n ≤ 1073741824
  · by_cases h0 : n = 0
    · have H := Lib.hid (headP_no (f := n) (fun h => by have := h.1; omega))
      subst h0
      go_enter Tryd.func9, Tryd.ntmps9
      go_wp2_with fail
      refine (long_yes1 _ 1 0 _ hr1 hn).mono ?_
      rintro e w1 ⟨⟨A, c, rfl, hc, hr⟩, hb⟩
      have HB := Lib.hid (hB1.trans (hb.mono hB1.size))
      clear hr1 hB1 hb hr
      go_wp2_with fail
      go_ret2
      exact Tel.none_ H.out HB.out
    · have H := Lib.hid (headP_yes (f := n) ⟨by omega, hn.2⟩)
      go_enter Tryd.func9, Tryd.ntmps9
      go_wp2_with fail
      refine (long_yes1 _ 1 n _ hr1 hn).mono ?_
      rintro e w1 ⟨⟨A, c, rfl, hc, hr⟩, hb⟩
      have hB := hB1.trans (hb.mono hB1.size)
      have hsz := hB.size
      clear hr1 hB1 hb
      go_wp2_with (at_builtin; refine hold ?_)
      refine unhold (Cr.wpList_append_rd (.tmp 18) (.tmp 19) 23 Tryd.underlying23 hi hz0 hz1 hz2 Cr.byte_cells (own_lit w1 (base := w1.heap.size) (e := 5) [.int .u8 1] rfl (Nat.le_refl _) (by decide)) (hr.below ((Below.refl _ w1).alloc (Nat.le_refl _) _)) (by unfold maxLen; simp) (by simp) (by simp) rfl rfl rfl rfl ?_)
      intro v1 w5 L3
      have hb5 : Below w1.heap.size w1 w5 := L3.below ((Below.refl _ w1).alloc (Nat.le_refl _) _) (by simp) (fun g hg => by simp [Value.ownBlock] at hg; omega)
      have own := L3.1
      have e1 : [Value.int .u8 1] ++ (Nu.longOf n).map (Value.int .u8) = (headL n).map (Value.int .u8) := rfl
      rw [e1] at own
      have HF := Lib.hid (⟨own_weak own hB.size, hB.trans (hb5.mono hsz)⟩ : _ ∧ _)
      clear L3 own e1 hb5 hB
      go_wp2_with fail
      go_ret2
      exact Tel.some_ H.out (headL_length n) HF.out.1 HF.out.2
  · have H := Lib.hid (headP_no (f := n) (fun h => by have := h.1; have := h.2; omega))
    go_enter Tryd.func9, Tryd.ntmps9
    go_wp2_with fail
    refine (long_no1 _ 1 n _ hr1 hn).mono ?_
    rintro e w1 ⟨⟨v, rfl⟩, hb⟩
    have HB := Lib.hid (hB1.trans (hb.mono hB1.size))
    clear hr1 hB1 hb
    go_wp2_with fail
    go_ret2
    exact Tel.none_ H.out HB.out

set_option maxRecDepth 100000 in
set_option maxHeartbeats 1000000 in
theorem rhead_any (n : Int) (w : World) : Calls Tryd.prog 10 #[.int .i64 n] w (Tel w (headP n)) := by
  obtain ⟨i0, hi, hz0, hz1, hz2⟩ := info_parts Cr.info_u8
  have hr1 : Rd (w.alloc (.cells #[.int .i64 n] 3)) (w.alloc (.cells #[.int .i64 n] 3)).heap.size .i64 (some ⟨w.heap.size, 0, none⟩) 1 [n] := Cr.Rd.made w .i64 3 [n] rfl
  have hB1 : Below w.heap.size w (w.alloc (.cells #[.int .i64 n] 3)) := (Below.refl _ w).alloc (Nat.le_refl _) _
  by_cases h1 : n < 1
  · have H := Lib.hid (headP_no (f := n) (fun h => by have := h.1; omega))
    go_enter Tryd.func10, Tryd.ntmps10
    go_wp2_with fail
    go_ret2
    exact Tel.none_ H.out (Below.refl _ _)
  · by_cases h2 : 1073741824 < n
    · have H := Lib.hid (headP_no (f := n) (fun h => by have := h.2; omega))
      go_enter Tryd.func10, Tryd.ntmps10
      go_wp2_with fail
      go_ret2
      exact Tel.none_ H.out (Below.refl _ _)
    · have H := Lib.hid (headP_yes (f := n) ⟨by omega, by omega⟩)
      go_enter Tryd.func10, Tryd.ntmps10
      go_wp2_with fail
      refine (rlong_yes1 _ 1 n _ hr1 (by omega)).mono ?_
      rintro e w1 ⟨⟨A, c, rfl, hc, hown⟩, hb⟩
      have hr := Rd.of_own hown
      have hB := hB1.trans (hb.mono hB1.size)
      have hsz := hB.size
      clear hr1 hB1 hb hown
      go_wp2_with (at_builtin; refine hold ?_)
      refine unhold (Cr.wpList_append_rd (.tmp 18) (.tmp 19) 23 Tryd.underlying23 hi hz0 hz1 hz2 Cr.byte_cells (own_lit w1 (base := w1.heap.size) (e := 5) [.int .u8 1] rfl (Nat.le_refl _) (by decide)) (hr.below ((Below.refl _ w1).alloc (Nat.le_refl _) _)) (by unfold maxLen; simp) (by simp) (by simp) rfl rfl rfl rfl ?_)
      intro v1 w5 L3
      have hb5 : Below w1.heap.size w1 w5 := L3.below ((Below.refl _ w1).alloc (Nat.le_refl _) _) (by simp) (fun g hg => by simp [Value.ownBlock] at hg; omega)
      have own := L3.1
      have e1 : [Value.int .u8 1] ++ (Nu.longOf n).map (Value.int .u8) = (headL n).map (Value.int .u8) := rfl
      rw [e1] at own
      have HF := Lib.hid (⟨own_weak own hB.size, hB.trans (hb5.mono hsz)⟩ : _ ∧ _)
      clear L3 own e1 hb5 hB
      go_wp2_with fail
      go_ret2
      exact Tel.some_ H.out (headL_length n) HF.out.1 HF.out.2

end Go.Proofs.YtlblfpfdebmcgaaDoor
