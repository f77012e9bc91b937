/-
  moultlaw08.same, two.Head, moultref08.Head, two.text: their contracts.
-/
import Derived.Test.YtcpdjhkpmaamdaaGreatTwoP
import Derived.Test.YtcpdjhkpmaamdaaGreatSame8
import Derived.Test.YtcpdjhkpmaamdaaGreatRow
import Derived.Deep.DeepCutAuto
import Derived.RegionTactic
import Derived.BigRegion
import Derived.BigQuiet
namespace Go.Proofs.YtcpdjhkpmaamdaaGreat
open Go.RowKit
set_option linter.unusedVariables false

/-- Bytes and an error told: the bytes are a row of the call's own. -/
def TelTw (w : World) (R : List Int × Int) (e : Ending) (w' : World) : Prop :=
  (∃ A c, e = .returned (.tuple #[.slice A R.1.length c, .int .i64 R.2]) ∧ R.1.length ≤ c ∧ w'.ownsRow w.heap.size 5 1 (.slice A R.1.length c) R.1.length (R.1.map (Value.int .u8))) ∧ Below w.heap.size w w'
theorem TelTw.none_ {w w' : World} {R : List Int × Int} (h : R = ([], 2)) (hB : Below w.heap.size w w') : TelTw w R (.returned (.tuple #[.slice none 0 0, .int .i64 2])) w' := by
  subst h
  exact ⟨⟨none, 0, rfl, Nat.le_refl _, World.ownsRow_nil _ _ _ _⟩, hB⟩
theorem TelTw.some_ {w w' : World} {R : List Int × Int} {L : List Int} {v : Value} {n : Nat} (h : R = (L, 0)) (hn : L.length = n) (hr : w'.ownsRow w.heap.size 5 1 v n (L.map (Value.int .u8))) (hB : Below w.heap.size w w') : TelTw w R (.returned (.tuple #[v, .int .i64 0])) w' := by
  subst h hn
  obtain ⟨A, c, rfl, hc, _⟩ := own_rd hr
  exact ⟨⟨A, c, rfl, hc, hr⟩, hB⟩

/-- The row that a literal makes. -/
theorem own_litTw (w : World) {base g : Nat} {e : TypeId} (l : List Value) (hg : g = w.heap.size) (hb : base ≤ w.heap.size) (hm : l.length ≤ maxLen) :
    (w.alloc (.cells l.toArray e)).ownsRow base e 1 (.slice (some ⟨g, 0, none⟩) l.length l.length) l.length l := by
  subst hg
  exact ⟨by simp, .inr ⟨w.heap.size, l.length, l.toArray, rfl, hb, World.alloc_heap_new w _, Nat.le_refl _, hm, by simp, by simp⟩⟩
theorem own_weakTw {w : World} {base b' : Nat} {e : TypeId} {size : Nat} {v : Value} {n : Nat} {xs : List Value} (h : w.ownsRow base e size v n xs) (hb : b' ≤ base) : w.ownsRow b' e size v n xs :=
  ⟨h.1, h.2.imp id fun ⟨g, cap, cur, h1, h2, h3⟩ => ⟨g, cap, cur, h1, Nat.le_trans hb h2, h3⟩⟩

theorem own_keepTw {base size n : Nat} {e : TypeId} {v : Value} {xs : List Value} {w w' : World} (h : w.ownsRow base e size v n xs) (hb : Below w.heap.size w w') : w'.ownsRow base e size v n xs :=
  h.kept (row := none) ⟨hb.os, hb.tape, hb.output, hb.size, fun j hj _ => hb.block j hj⟩ (by
    rcases h.2 with ⟨rfl, _⟩ | ⟨g, cap, cur, rfl, _⟩
    · exact .inl rfl
    · exact .inr (by simp [Value.ownBlock]))
theorem num_oneTw (n : Int) : Nu.allNum [n] = decide (0 ≤ n ∧ n ≤ 1073741824) := by
  simp [Nu.allNum, Nu.isNum]
theorem shorts_one (n : Int) : Nu.shortsOf [n] = Nu.shortOf n := by simp [Nu.shortsOf]

section
variable (A : Option Addr) (n c : Nat) (l : List Int) (w : World)
theorem rshort_yes {R : List Int} {q : Nat} (hr : Rd w w.heap.size .i64 A n l) (hn : n ≤ 1099511627776) (ha : Nu.allNum l = true) (hR : Nu.shortsOf l = R) (hq : R.length = q) :
    Calls Tryz.prog 52 #[.slice A n c] w fun e w' => ∃ A' c', e = .returned (.tuple #[.slice A' q c', .int .i64 0]) ∧ Nu.Row .u8 R q A' c' w' ∧ Below w.heap.size w w' := by
  refine (Nu.rshorts_any A n c l w hr hn).mono ?_
  rintro e w' ⟨⟨v, rfl, hg⟩, hb⟩
  rw [ha] at hg
  obtain ⟨A', c', rfl, h⟩ := hg.row hR hq
  exact ⟨A', c', by rw [ha]; rfl, h, hb⟩
theorem rshort_no (hr : Rd w w.heap.size .i64 A n l) (hn : n ≤ 1099511627776) (ha : Nu.allNum l = false) :
    Calls Tryz.prog 52 #[.slice A n c] w fun e w' => ∃ A' c', e = .returned (.tuple #[.slice A' 0 c', .int .i64 2]) ∧ Nu.Row .u8 [] 0 A' c' w' ∧ Below w.heap.size w w' := by
  refine (Nu.rshorts_any A n c l w hr hn).mono ?_
  rintro e w' ⟨⟨v, rfl, hg⟩, hb⟩
  rw [ha] at hg
  obtain ⟨A', c', rfl, h⟩ := hg.row rfl (q := 0) rfl
  exact ⟨A', c', by rw [ha]; rfl, h, hb⟩
end

/-- Head's answer. -/
def headPTw (first : Int) : List Int × Int := if 1 ≤ first ∧ first ≤ 1073741824 then (headLTw first, 0) else ([], 2)
theorem headP_yesTw {f : Int} (h : Num f) : headPTw f = (headLTw f, 0) := if_pos h
theorem headP_noTw {f : Int} (h : ¬ Num f) : headPTw f = ([], 2) := if_neg h

set_option maxRecDepth 100000 in
set_option maxHeartbeats 1000000 in
theorem head_anyTw (first : Int) (w : World) : Calls Tryz.prog 144 #[.int .i64 first] w (TelTw w (headPTw first)) := by
  obtain ⟨i0, hi, hz0, hz1, hz2⟩ := info_parts Ga.info_u8
  have hr1 : Rd (w.alloc (.cells #[.int .i64 first] 3)) (w.alloc (.cells #[.int .i64 first] 3)).heap.size .i64 (some ⟨w.heap.size, 0, none⟩) 1 [first] := Rd.made w .i64 3 [first] rfl
  have hB1 : Below w.heap.size w (w.alloc (.cells #[.int .i64 first] 3)) := (Below.refl _ w).alloc (Nat.le_refl _) _
  by_cases hn : 0 ≤ first ∧ first ≤ 1073741824
  · obtain ⟨R, hR⟩ : ∃ R, Nu.shortsOf [first] = R := ⟨_, rfl⟩
    obtain ⟨q, hq⟩ : ∃ q, R.length = q := ⟨_, rfl⟩
    have hq5 : q ≤ 5 := by
      rw [← hq, ← hR]
      have := Nu.shortsOf_length (l := [first]) (by rw [num_oneTw]; simpa using hn)
      simpa using this
    by_cases h0 : first = 0
    · subst h0
      go_enter Tryz.func144, Tryz.ntmps144
      go_wp2_with fail
      refine (Nu.short_yes _ 1 1 [0] _ hr1 (by omega) (by rw [num_oneTw]; rfl) hR hq).mono ?_
      rintro e w2 ⟨A', c', rfl, hrow, hb2⟩
      go_wp2_with fail
      go_ret2
      exact TelTw.none_ (headP_noTw (by unfold Num; omega)) (hB1.trans (hb2.mono hB1.size))
    · have hN : Num first := ⟨by omega, hn.2⟩
      have HN := Lib.hid (⟨headP_yesTw hN, (show headLTw first = [2] ++ R by rw [← hR, shorts_one]; rfl), hn⟩ : _ ∧ _ ∧ _)
      have h1 : decide (first < 1) = false := by simp; omega
      have h2 : ¬ first < 1 := by omega
      have ha : Nu.allNum [first] = true := by rw [num_oneTw]; simpa using hn
      clear hn hN
      go_enter Tryz.func144, Tryz.ntmps144
      go_wp2_with fail
      refine (Nu.short_yes _ 1 1 [first] _ hr1 (by omega) ha hR hq).mono ?_
      rintro e w2 ⟨A', c', rfl, hrow, hb2⟩
      have hB2 := hB1.trans (hb2.mono hB1.size)
      have hbl := (Below.refl _ w2).alloc (Nat.le_refl _) (.cells #[.int .u8 2] 5)
      have hrd := hrow.2.on hbl hbl.size
      have hown := own_litTw w2 (base := w.heap.size) (e := 5) ([2].map (Value.int .u8)) rfl hB2.size (by simp [maxLen])
      have H := Lib.hid (⟨hB2.alloc hB2.size (.cells #[.int .u8 2] 5), hq, hB2.size⟩ : _ ∧ _ ∧ _)
      clear hb2 hB2 hrow hR hq ha hr1 hB1 hbl
      go_wp2_with (at_builtin; refine hold ?_)
      refine unhold (Nu.wpList_append_rd (.tmp 18) (.tmp 19) 23 Tryz.underlying23 hi hz0 hz1 hz2 Nu.byte_cells hown hrd (by unfold maxLen; simp; omega) (by simp; omega) (by simp; have := H.out.2.2; omega) rfl rfl rfl rfl ?_)
      intro v3 w3 L3
      have hB3 : Below w.heap.size w w3 := L3.below H.out.1 H.out.1.size (fun g hg => by
        simp [Value.ownBlock] at hg
        have := H.out.2.2
        omega)
      have own3 := L3.1
      have H3 := Lib.hid (⟨own3, hB3⟩ : _ ∧ _)
      clear L3 own3 hB3 hown hrd
      go_wp2_with fail
      go_ret2
      refine TelTw.some_ HN.out.1 ?_ (n := 1 + q) (by rw [HN.out.2.1, List.map_append]; exact H3.out.1) H3.out.2
      rw [HN.out.2.1, List.length_append, H.out.2.1]; rfl
  · have ha : Nu.allNum [first] = false := by rw [num_oneTw]; simpa using hn
    have HN := Lib.hid (headP_noTw (f := first) (by unfold Num; omega))
    clear hn
    skip
    all_goals
      go_enter Tryz.func144, Tryz.ntmps144
      go_wp2_with fail
      refine (Nu.short_no _ 1 1 [first] _ hr1 (by omega) ha).mono ?_
      rintro e w2 ⟨A', c', rfl, hrow, hb2⟩
      go_wp2_with fail
      go_ret2
      exact TelTw.none_ HN.out (hB1.trans (hb2.mono hB1.size))

set_option maxRecDepth 100000 in
set_option maxHeartbeats 1000000 in
theorem rhead_anyTw (first : Int) (w : World) : Calls Tryz.prog 38 #[.int .i64 first] w (TelTw w (headPTw first)) := by
  obtain ⟨i0, hi, hz0, hz1, hz2⟩ := info_parts Ga.info_u8
  have hr1 : Rd (w.alloc (.cells #[.int .i64 first] 3)) (w.alloc (.cells #[.int .i64 first] 3)).heap.size .i64 (some ⟨w.heap.size, 0, none⟩) 1 [first] := Rd.made w .i64 3 [first] rfl
  have hB1 : Below w.heap.size w (w.alloc (.cells #[.int .i64 first] 3)) := (Below.refl _ w).alloc (Nat.le_refl _) _
  by_cases hn : 0 ≤ first ∧ first ≤ 1073741824
  · obtain ⟨R, hR⟩ : ∃ R, Nu.shortsOf [first] = R := ⟨_, rfl⟩
    obtain ⟨q, hq⟩ : ∃ q, R.length = q := ⟨_, rfl⟩
    have hq5 : q ≤ 5 := by
      rw [← hq, ← hR]
      have := Nu.shortsOf_length (l := [first]) (by rw [num_oneTw]; simpa using hn)
      simpa using this
    by_cases h0 : first = 0
    · subst h0
      go_enter Tryz.func38, Tryz.ntmps38
      go_wp2_with fail
      refine (rshort_yes _ 1 1 [0] _ hr1 (by omega) (by rw [num_oneTw]; rfl) hR hq).mono ?_
      rintro e w2 ⟨A', c', rfl, hrow, hb2⟩
      go_wp2_with fail
      go_ret2
      exact TelTw.none_ (headP_noTw (by unfold Num; omega)) (hB1.trans (hb2.mono hB1.size))
    · have hN : Num first := ⟨by omega, hn.2⟩
      have HN := Lib.hid (⟨headP_yesTw hN, (show headLTw first = [2] ++ R by rw [← hR, shorts_one]; rfl), hn⟩ : _ ∧ _ ∧ _)
      have h1 : decide (first < 1) = false := by simp; omega
      have h2 : ¬ first < 1 := by omega
      have ha : Nu.allNum [first] = true := by rw [num_oneTw]; simpa using hn
      clear hn hN
      go_enter Tryz.func38, Tryz.ntmps38
      go_wp2_with fail
      refine (rshort_yes _ 1 1 [first] _ hr1 (by omega) ha hR hq).mono ?_
      rintro e w2 ⟨A', c', rfl, hrow, hb2⟩
      have hB2 := hB1.trans (hb2.mono hB1.size)
      have hbl := (Below.refl _ w2).alloc (Nat.le_refl _) (.cells #[.int .u8 2] 5)
      have hrd := hrow.2.on hbl hbl.size
      have hown := own_litTw w2 (base := w.heap.size) (e := 5) ([2].map (Value.int .u8)) rfl hB2.size (by simp [maxLen])
      have H := Lib.hid (⟨hB2.alloc hB2.size (.cells #[.int .u8 2] 5), hq, hB2.size⟩ : _ ∧ _ ∧ _)
      clear hb2 hB2 hrow hR hq ha hr1 hB1 hbl
      go_wp2_with (at_builtin; refine hold ?_)
      refine unhold (Nu.wpList_append_rd (.tmp 18) (.tmp 19) 23 Tryz.underlying23 hi hz0 hz1 hz2 Nu.byte_cells hown hrd (by unfold maxLen; simp; omega) (by simp; omega) (by simp; have := H.out.2.2; omega) rfl rfl rfl rfl ?_)
      intro v3 w3 L3
      have hB3 : Below w.heap.size w w3 := L3.below H.out.1 H.out.1.size (fun g hg => by
        simp [Value.ownBlock] at hg
        have := H.out.2.2
        omega)
      have own3 := L3.1
      have H3 := Lib.hid (⟨own3, hB3⟩ : _ ∧ _)
      clear L3 own3 hB3 hown hrd
      go_wp2_with fail
      go_ret2
      refine TelTw.some_ HN.out.1 ?_ (n := 1 + q) (by rw [HN.out.2.1, List.map_append]; exact H3.out.1) H3.out.2
      rw [HN.out.2.1, List.length_append, H.out.2.1]; rfl
  · have ha : Nu.allNum [first] = false := by rw [num_oneTw]; simpa using hn
    have HN := Lib.hid (headP_noTw (f := first) (by unfold Num; omega))
    clear hn
    by_cases h1 : first < 1
    all_goals
      go_enter Tryz.func38, Tryz.ntmps38
      go_wp2_with fail
      refine (rshort_no _ 1 1 [first] _ hr1 (by omega) ha).mono ?_
      rintro e w2 ⟨A', c', rfl, hrow, hb2⟩
      go_wp2_with fail
      go_ret2
      exact TelTw.none_ HN.out (hB1.trans (hb2.mono hB1.size))


end Go.Proofs.YtcpdjhkpmaamdaaGreat
