/-
  NumTakes's walk: it returns true, and turns nothing that lay.
-/
import Derived.Test.YtbpinikldcakfaaAppend
import Derived.Test.YtbpinikldcakfaaOrder
namespace Go.Proofs.Ytbpinikldcakfaa
open Go.RowKit

theorem takesGo_prefix : ∀ (f : Nat) (r acc R S : List Int), takesGo f r acc = (R, S, 0) → ∃ t, R = acc ++ t ∧ t.length = f := by
  intro f
  induction f with
  | zero =>
    intro r acc R S h
    simp only [takesGo, Prod.mk.injEq, and_true] at h
    exact ⟨[], by simp [h.1], rfl⟩
  | succ f ih =>
    intro r acc R S h
    rw [takesGo] at h
    split at h
    · obtain ⟨t, h1, h2⟩ := ih _ _ _ _ h
      exact ⟨(takeP r).1 :: t, by simp [h1], by simp [h2]⟩
    · rename_i hne
      simp only [Prod.mk.injEq] at h
      exact absurd h.2.2 hne
theorem takesGo_fine : ∀ (f : Nat) (r acc : List Int), Byt r → (∃ R S, takesGo f r acc = (R, S, 0)) ∨ takesGo f r acc = ([], [], 10) ∨ takesGo f r acc = ([], [], 11) := by
  intro f
  induction f with
  | zero => intro r acc _; exact .inl ⟨_, _, rfl⟩
  | succ f ih =>
    intro r acc hb
    rw [takesGo]
    rcases takeP_fine hb with (h | h) | ⟨x, m, h, _⟩
    · rw [h]; exact .inr (.inl rfl)
    · rw [h]; exact .inr (.inr rfl)
    · rw [h]
      exact ih _ _ (hb.drop m)
theorem AtMany.ahead {l : List Int} {many : Int} {p : Nat} {acc R S : List Int} (h : AtMany l many p acc) (hR : takesP l many = (R, S, 0)) : ∃ t, R = acc ++ t ∧ t.length = many.toNat - acc.length := by
  obtain ⟨_, _, _, h⟩ := h
  rw [hR] at h
  exact takesGo_prefix _ _ _ _ _ h

set_option maxRecDepth 100000 in
set_option maxHeartbeats 400000 in
theorem takes_great (A : Option Addr) (n c : Nat) (many : Int) (w : World) (h : 200 < n ∨ many < 0 ∨ 250 < many) :
    Calls Try.prog 7 #[.slice A n c, .int .i64 many] w fun e w' => e = .returned (.bool true) ∧ Below w.heap.size w w' := by
  by_cases h1 : 200 < n
  · have hd : decide ((200 : Int) < (n : Int)) = true := by simp; omega
    go_enter Try.func7, Try.ntmps7
    go_wp2_with fail
    refine (wakes_any w).mono ?_
    rintro e w' ⟨rfl, hb⟩
    go_wp2_with fail
    go_ret
    exact ⟨rfl, hb⟩
  · have hd : decide ((200 : Int) < (n : Int)) = false := by simp; omega
    by_cases h2 : many < 0
    · have hd2 : decide (many < 0) = true := by simpa using h2
      go_enter Try.func7, Try.ntmps7
      go_wp2_with fail
      refine (wakes_any w).mono ?_
      rintro e w' ⟨rfl, hb⟩
      go_wp2_with fail
      go_ret
      exact ⟨rfl, hb⟩
    · have hd2 : decide (many < 0) = false := by simpa using h2
      have h3 : 250 < many := by omega
      go_enter Try.func7, Try.ntmps7
      go_wp2_with fail
      refine (wakes_any w).mono ?_
      rintro e w' ⟨rfl, hb⟩
      go_wp2_with fail
      go_ret
      exact ⟨rfl, hb⟩

set_option maxRecDepth 100000 in
set_option maxHeartbeats 1000000 in
theorem takes_zero (A : Option Addr) (n c : Nat) (l R S : List Int) (many : Int) (w : World) (hr : Rd w w.heap.size .u8 A n l) (hb : Byt l) (hnc : n ≤ c) (hn : n ≤ 200) (hm0 : 0 ≤ many) (hm1 : many ≤ 250) (HR : Hid (takesP l many = (R, S, 0))) :
    Calls Try.prog 7 #[.slice A n c, .int .i64 many] w fun e w' => e = .returned (.bool true) ∧ Below w.heap.size w w' := by
  have hd : decide ((200 : Int) < (n : Int)) = false := by simp; omega
  have hd2 : decide (many < 0) = false := by simp; omega
  have Hl := Lib.hid hr.1
  obtain ⟨i0, hi, hz0, hz1, hz2⟩ := info_parts info_byte
  obtain ⟨q, hq⟩ : ∃ q, R.length = q := ⟨_, rfl⟩
  obtain ⟨p, hp⟩ : ∃ p, S.length = p := ⟨_, rfl⟩
  have Hq := Lib.hid hq
  have Hp := Lib.hid hp
  clear hq hp
  have hqm : (q : Int) = many := by
    obtain ⟨t, h1, h2⟩ := (AtMany.first l many).ahead HR.out
    rw [h1] at Hq
    have := Hq.out
    simp at this h2
    omega
  have hqm1 : (q : Int) ≤ many := by omega
  have hqm2 : many ≤ (q : Int) := by omega
  have Hqm := Lib.hid hqm
  clear hqm
  go_enter Try.func7, Try.ntmps7
  go_wp2_with fail
  refine (takes_out A n c l w (many := many) hr hb hnc (by omega) HR.out Hq.out Hp.out).mono ?_
  rintro e w1 ⟨A1, c1, A2, c2, rfl, r1, r2, hB⟩
  have hsz := hB.size
  go_wp2_with (at_builtin; refine hold ?_)
  refine unhold (wpList_append_rdg (.tmp 32) (.tmp 33) 23 Try.underlying23 hi hz0 hz1 hz2 byte_cells (own_empty w1 w1.heap.size 5 (Nat.le_refl _)) ((hr.on hB hsz).on ((Below.refl _ _).alloc (Nat.le_refl _) _) (Nat.le_refl _)) (by unfold maxLen; omega) (by omega) (by simp) rfl rfl rfl rfl ?_)
  intro v3 w3 L3
  obtain ⟨⟨A3, c3, q3, rfl, r3⟩, hb3⟩ := L3.one
  replace hB : Below w.heap.size w w3 := hB.trans (hb3.mono hsz)
  replace r1 := r1.on hb3
  replace r2 := r2.on hb3
  clear hb3 hsz L3
  have hsz3 := hB.size
  go_wp2_with fail
  go_loopw [8, 9] (fun v i wr => ∃ (j p q9 : Nat) (A9 : Option Addr) (c9 : Nat) (acc : List Int), (j : Int) ≤ many ∧ i = .int .i64 j ∧ v = .slice A9 q9 c9 ∧ acc.length = j ∧ AtMany l many p acc ∧ Row .u8 (l.drop p) q9 A9 c9 wr ∧ Below w3.heap.size w3 wr) (fun _ i _ => many.toNat - (intOf i).toNat)
  case atStart => exact ⟨0, 0, q3, A3, c3, [], by omega, rfl, rfl, rfl, AtMany.first l many, r3, Below.refl _ _⟩
  case round =>
    obtain ⟨j, p', q9, A9, c9, acc, hj, rfl, rfl, hacc, hat, r9, hBr⟩ := hrel
    have hsz := hBr.size
    have hq9 : q9 ≤ 200 := by
      have h1 := r9.rd.1
      rw [List.length_drop, Hl.out] at h1
      omega
    have Hacc := Lib.hid hacc
    clear hacc
    by_cases hlt : (j : Int) < many
    · rcases takeP_fine (hb.drop p') with (h | h) | ⟨x, m, h, h1, h2, h3, h4, h5⟩
      · have := hat.err (by rw [Hacc.out]; exact hlt) h (by decide)
        rw [HR.out] at this
        simp at this
      · have := hat.err (by rw [Hacc.out]; exact hlt) h (by decide)
        rw [HR.out] at this
        simp at this
      · rw [List.length_drop] at h5
        have hnx := hat.next (by rw [Hacc.out]; exact hlt) h h3 h5
        obtain ⟨t, ht1, ht2⟩ := hnx.ahead HR.out
        have hRj : R[j]?.getD 0 = x := by
          rw [ht1, List.append_assoc, ← Hacc.out]
          simp
        have hjq : j < q := by
          rw [← Hq.out, ht1, ← Hacc.out]
          simp
        have hne : (R[j]?.getD 0 != x) = false := by simp [hRj]
        have hdq : decide ((q : Int) ≤ (j : Int)) = false := by simp; omega
        have HRj := Lib.hid hRj
        have Ht1 := Lib.hid ht1
        have H := Lib.hid h
        clear hRj ht1 ht2 h
        obtain ⟨d, hd9⟩ : ∃ d, ((l.drop p').drop m).length = d := ⟨_, rfl⟩
        have Hd := Lib.hid hd9
        clear hd9
        obtain ⟨b1, off1, rfl, hb1, hc1⟩ := r1.rd.at_ (by omega)
        have hcj := (hBr.cell (p := ⟨b1, off1 + j, none⟩) hb1).trans (hc1 j hjq)
        clear hc1
        go_wp2_with fail
        refine (take_ok A9 q9 c9 _ wr r9.rd (hb.drop p') r9.1 (by omega) H.out rfl Hd.out).mono ?_
        rintro e w9 ⟨A10, c10, rfl, r10, hb10⟩
        have hcj9 := (hb10.cell (p := ⟨b1, off1 + j, none⟩) (Nat.lt_of_lt_of_le hb1 hsz)).trans hcj
        have hB9 : Below w3.heap.size w3 w9 := hBr.trans (hb10.mono hsz)
        clear hcj hb10
        go_wp2_with fail
        go_roundw
        case rel => exact ⟨j + 1, p' + m, d, A10, c10, acc ++ [x], by omega, by go_num, rfl, by rw [List.length_append, Hacc.out]; rfl, hnx, by rw [← List.drop_drop]; exact r10, hB9⟩
        case measure => simp [intOf]; omega
    · have hf := hat.full (by rw [Hacc.out]; omega)
      rw [HR.out] at hf
      simp only [Prod.mk.injEq, and_true] at hf
      have HS := Lib.hid hf.2
      clear hf
      have hqe : ((q : Int) == many) = true := by simp; exact Hqm.out
      rw [← HS.out] at r9
      have hbS : Byt S := by rw [HS.out]; exact hb.drop _
      go_wp2_with fail
      refine (same_yes _ _ _ _ _ _ S _ (r2.on hBr).rd r9.rd hbS).mono ?_
      rintro e w' ⟨rfl, rfl⟩
      go_wp2_with fail
      refine (wakes_any _).mono ?_
      rintro e w' ⟨rfl, hbw⟩
      go_wp2_with fail
      go_ret
      exact ⟨rfl, hB.trans ((hBr.trans (hbw.mono hsz)).mono hsz3)⟩

set_option maxRecDepth 100000 in
set_option maxHeartbeats 1000000 in
theorem takes_bad (A : Option Addr) (n c : Nat) (l : List Int) (many er : Int) (w : World) (hr : Rd w w.heap.size .u8 A n l) (hb : Byt l) (hnc : n ≤ c) (hn : n ≤ 200) (hm0 : 0 ≤ many) (hm1 : many ≤ 250) (her : er = 10 ∨ er = 11) (HR : Hid (takesP l many = ([], [], er))) :
    Calls Try.prog 7 #[.slice A n c, .int .i64 many] w fun e w' => e = .returned (.bool true) ∧ Below w.heap.size w w' := by
  have hd : decide ((200 : Int) < (n : Int)) = false := by simp; omega
  have hd2 : decide (many < 0) = false := by simp; omega
  have hde : (er == 0) = false := by simp; omega
  have hde2 : (er == er) = true := by simp
  have Hl := Lib.hid hr.1
  obtain ⟨i0, hi, hz0, hz1, hz2⟩ := info_parts info_byte
  go_enter Try.func7, Try.ntmps7
  go_wp2_with fail
  refine (takes_out A n c l w (many := many) (q := 0) (p := 0) hr hb hnc (by omega) HR.out rfl rfl).mono ?_
  rintro e w1 ⟨A1, c1, A2, c2, rfl, r1, r2, hB⟩
  clear r1 r2
  have hsz := hB.size
  go_wp2_with (at_builtin; refine hold ?_)
  refine unhold (wpList_append_rdg (.tmp 32) (.tmp 33) 23 Try.underlying23 hi hz0 hz1 hz2 byte_cells (own_empty w1 w1.heap.size 5 (Nat.le_refl _)) ((hr.on hB hsz).on ((Below.refl _ _).alloc (Nat.le_refl _) _) (Nat.le_refl _)) (by unfold maxLen; omega) (by omega) (by simp) rfl rfl rfl rfl ?_)
  intro v3 w3 L3
  obtain ⟨⟨A3, c3, q3, rfl, r3⟩, hb3⟩ := L3.one
  replace hB : Below w.heap.size w w3 := hB.trans (hb3.mono hsz)
  clear hb3 hsz L3
  have hsz3 := hB.size
  go_wp2_with fail
  go_loopw [8, 9] (fun v i wr => ∃ (j p q9 : Nat) (A9 : Option Addr) (c9 : Nat) (acc : List Int), (j : Int) ≤ many ∧ i = .int .i64 j ∧ v = .slice A9 q9 c9 ∧ acc.length = j ∧ AtMany l many p acc ∧ Row .u8 (l.drop p) q9 A9 c9 wr ∧ Below w3.heap.size w3 wr) (fun _ i _ => many.toNat - (intOf i).toNat)
  case atStart => exact ⟨0, 0, q3, A3, c3, [], by omega, rfl, rfl, rfl, AtMany.first l many, r3, Below.refl _ _⟩
  case round =>
    obtain ⟨j, p', q9, A9, c9, acc, hj, rfl, rfl, hacc, hat, r9, hBr⟩ := hrel
    have hsz := hBr.size
    have hq9 : q9 ≤ 200 := by
      have h1 := r9.rd.1
      rw [List.length_drop, Hl.out] at h1
      omega
    have Hacc := Lib.hid hacc
    clear hacc
    by_cases hlt : (j : Int) < many
    · have bad : ∀ f : Int, takeP (l.drop p') = (0, 0, f) → f ≠ 0 → f = er := fun f h hf => by
        have := hat.err (by rw [Hacc.out]; exact hlt) h hf
        rw [HR.out] at this
        simp at this
        exact this.symm
      rcases takeP_fine (hb.drop p') with h | ⟨x, m, h, h1, h2, h3, h4, h5⟩
      · have H : Hid (takeP (l.drop p') = (0, 0, er)) := by
          rcases h with h | h
          · rw [← bad 10 h (by decide)]; exact h
          · rw [← bad 11 h (by decide)]; exact h
        clear h bad
        have hne : er ≠ 0 := by omega
        have hne2 : (er != 0) = true := by simp; omega
        have Hne := Lib.hid hne
        clear hne
        go_wp2_with fail
        refine (take_err A9 q9 c9 _ wr r9.rd (hb.drop p') r9.1 (by omega) H.out Hne.out).mono ?_
        rintro e w9 ⟨A10, c10, rfl, r10, hb10⟩
        have hB9 : Below w3.heap.size w3 w9 := hBr.trans (hb10.mono hsz)
        clear hb10
        go_wp2_with fail
        refine (wakes_any _).mono ?_
        rintro e w' ⟨rfl, hbw⟩
        go_wp2_with fail
        go_ret
        exact ⟨rfl, hB.trans ((hB9.trans (hbw.mono hB9.size)).mono hsz3)⟩
      · rw [List.length_drop] at h5
        have hnx := hat.next (by rw [Hacc.out]; exact hlt) h h3 h5
        have H := Lib.hid h
        clear h bad
        obtain ⟨d, hd9⟩ : ∃ d, ((l.drop p').drop m).length = d := ⟨_, rfl⟩
        have Hd := Lib.hid hd9
        clear hd9
        go_wp2_with fail
        refine (take_ok A9 q9 c9 _ wr r9.rd (hb.drop p') r9.1 (by omega) H.out rfl Hd.out).mono ?_
        rintro e w9 ⟨A10, c10, rfl, r10, hb10⟩
        have hB9 : Below w3.heap.size w3 w9 := hBr.trans (hb10.mono hsz)
        clear hb10
        go_wp2_with fail
        go_roundw
        case rel => exact ⟨j + 1, p' + m, d, A10, c10, acc ++ [x], by omega, by go_num, rfl, by rw [List.length_append, Hacc.out]; rfl, hnx, by rw [← List.drop_drop]; exact r10, hB9⟩
        case measure => simp [intOf]; omega
    · have hf := hat.full (by rw [Hacc.out]; omega)
      rw [HR.out] at hf
      simp only [Prod.mk.injEq] at hf
      omega

theorem takesLaw_any (A : Option Addr) (n c : Nat) (l : List Int) (many : Int) (w : World) (hr : Rd w w.heap.size .u8 A n l) (hb : Byt l) (hnc : n ≤ c) :
    Calls Try.prog 7 #[.slice A n c, .int .i64 many] w fun e w' => e = .returned (.bool true) ∧ Below w.heap.size w w' := by
  by_cases h : 200 < n ∨ many < 0 ∨ 250 < many
  · exact takes_great A n c many w h
  · rcases takesGo_fine many.toNat l [] hb with ⟨R, S, h1⟩ | h1 | h1
    · exact takes_zero A n c l R S many w hr hb hnc (by omega) (by omega) (by omega) (Lib.hid h1)
    · exact takes_bad A n c l many 10 w hr hb hnc (by omega) (by omega) (by omega) (.inl rfl) (Lib.hid h1)
    · exact takes_bad A n c l many 11 w hr hb hnc (by omega) (by omega) (by omega) (.inr rfl) (Lib.hid h1)

end Go.Proofs.Ytbpinikldcakfaa
