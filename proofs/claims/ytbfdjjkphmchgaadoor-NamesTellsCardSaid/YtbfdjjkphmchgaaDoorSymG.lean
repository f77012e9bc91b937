/-
  slices.symMergeCmpFunc at idents, by their order: its contract, whole.
-/
import Derived.Test.YtbfdjjkphmchgaaDoorSym
import Derived.Deep.DeepCutAuto
namespace Go.Proofs.YtbfdjjkphmchgaaDoor
open Go.RowKit Go.Sort
set_option linter.unusedVariables false
set_option linter.unusedSimpArgs false

/-- Where the cut lies, and what stands beside it. -/
structure CutAt (d : Array IdP) (a m b mid s en : Nat) : Prop where
  la : a ≤ s
  sm : s ≤ m
  me : m ≤ en
  eb : en ≤ b
  sum : s + en = mid + m
  n1 : s = m ∨ en = m ∨ LessP d[en - 1]! d[s]!
  n2 : s = a ∨ en = b ∨ ¬ LessP d[en]! d[s - 1]!
theorem at_A {d : Array IdP} {X A B Y : List IdP} {a : Nat} (hd : d.toList = X ++ (A ++ (B ++ Y))) (ha : X.length = a) {k : Nat} {y : IdP} (h : A[k]? = some y) : d[a + k]! = y := Sym.bang_of (by
  have hk := (List.getElem?_eq_some_iff.1 h).1
  rw [hd, List.getElem?_append_right (by omega), ha, show a + k - a = k by omega, List.getElem?_append_left hk, h])
theorem at_B {d : Array IdP} {X A B Y : List IdP} {m : Nat} (hd : d.toList = X ++ (A ++ (B ++ Y))) (hm : X.length + A.length = m) {k : Nat} {y : IdP} (h : B[k]? = some y) : d[m + k]! = y := Sym.bang_of (by
  have hk := (List.getElem?_eq_some_iff.1 h).1
  rw [hd, List.getElem?_append_right (by omega), List.getElem?_append_right (by omega), show m + k - X.length - A.length = k by omega, List.getElem?_append_left hk, h])
theorem last_of {L : List IdP} {k : Nat} {B' : List IdP} {z : IdP} (e : L.take k = B' ++ [z]) (hk : k ≤ L.length) : 0 < k ∧ L[k - 1]? = some z := by
  have hl := congrArg List.length e
  rw [List.length_take, List.length_append, List.length_singleton] at hl
  refine ⟨by omega, ?_⟩
  have h1 : (L.take k)[k - 1]? = some z := by rw [e, List.getElem?_append_right (by omega), show k - 1 - B'.length = 0 by omega]; rfl
  rwa [List.getElem?_take_of_lt (by omega)] at h1
theorem first_of {L : List IdP} {k : Nat} {B' : List IdP} {z : IdP} (e : L.drop k = z :: B') : k < L.length ∧ L[k]? = some z := by
  have h1 : (L.drop k)[0]? = some z := by rw [e]; rfl
  rw [List.getElem?_drop] at h1
  exact ⟨(List.getElem?_eq_some_iff.1 h1).1, h1⟩
/-- The round's conditions. -/
theorem CutAt.round {d : Array IdP} {X A B Y : List IdP} {a m b mid s en : Nat} (h : CutAt d a m b mid s en) (hd : d.toList = X ++ (A ++ (B ++ Y))) (ha : X.length = a) (hm : a + A.length = m) (hb : m + B.length = b) (hA : Sym.Ord LEo A) (hB : Sym.Ord LEo B) {C1 C2 : List IdP}
    (p1 : C1.Perm (A.take (s - a) ++ B.take (en - m))) (p2 : C2.Perm (A.drop (s - a) ++ B.drop (en - m))) (o1 : Sym.Ord LEo C1) (o2 : Sym.Ord LEo C2) : Sym.Ord LEo (C1 ++ C2) ∧ (C1 ++ C2).Perm (A ++ B) := by
  have h1 := h.la
  have h2 := h.sm
  have h3 := h.me
  have h4 := h.eb
  have hr := Sym.round (A1 := A.take (s - a)) (A2 := A.drop (s - a)) (B1 := B.take (en - m)) (B2 := B.drop (en - m)) LEo.trans (by rw [List.take_append_drop]; exact hA) (by rw [List.take_append_drop]; exact hB)
    (fun B' z x A' eB eA => by
      obtain ⟨k1, k2⟩ := last_of eB (by omega)
      obtain ⟨k3, k4⟩ := first_of eA
      have e1 := at_B hd (m := m) (by omega) k2
      have e2 := at_A hd ha k4
      rw [show m + (en - m - 1) = en - 1 by omega] at e1
      rw [show a + (s - a) = s by omega] at e2
      rcases h.n1 with h0 | h0 | h0
      · omega
      · omega
      · rw [e1, e2] at h0; exact LEo.of_less h0)
    (fun A' z x B' eA eB => by
      obtain ⟨k1, k2⟩ := last_of eA (by omega)
      obtain ⟨k3, k4⟩ := first_of eB
      have e1 := at_A hd ha k2
      have e2 := at_B hd (m := m) (by omega) k4
      rw [show a + (s - a - 1) = s - 1 by omega] at e1
      rw [show m + (en - m) = en by omega] at e2
      rcases h.n2 with h0 | h0 | h0
      · omega
      · omega
      · rw [e1, e2] at h0; exact h0) p1 p2 o1 o2
  rwa [List.take_append_drop, List.take_append_drop] at hr
theorem Ord.take_ {A : List IdP} (h : Sym.Ord LEo A) (i : Nat) : Sym.Ord LEo (A.take i) := List.Pairwise.sublist (List.take_sublist _ _) h
theorem Ord.drop_ {A : List IdP} (h : Sym.Ord LEo A) (i : Nat) : Sym.Ord LEo (A.drop i) := List.Pairwise.sublist (List.drop_sublist _ _) h
theorem ord_none {A B : List IdP} {i j : Nat} (hA : Sym.Ord LEo A) (hB : Sym.Ord LEo B) (h : i = 0 ∨ j = 0) : Sym.Ord LEo (A.take i ++ B.take j) := by
  rcases h with rfl | rfl
  · rw [List.take_zero, List.nil_append]; exact Ord.take_ hB j
  · rw [List.take_zero, List.append_nil]; exact Ord.take_ hA i
theorem ord_none2 {A B : List IdP} {i j : Nat} (hA : Sym.Ord LEo A) (hB : Sym.Ord LEo B) (h : A.length ≤ i ∨ B.length ≤ j) : Sym.Ord LEo (A.drop i ++ B.drop j) := by
  rcases h with h | h
  · rw [List.drop_of_length_le h, List.nil_append]; exact Ord.drop_ hB j
  · rw [List.drop_of_length_le h, List.append_nil]; exact Ord.drop_ hA i
/-- The row behind the turn. -/
theorem turned_same {X A B Y : List IdP} {i j : Nat} (h : A.length ≤ i ∨ j = 0) : X ++ (A ++ (B ++ Y)) = X ++ ((A.take i ++ B.take j) ++ ((A.drop i ++ B.drop j) ++ Y)) := by
  rcases h with h | rfl
  · rw [List.take_of_length_le h, List.drop_of_length_le h]
    simp only [List.nil_append, List.append_assoc]
    rw [← List.append_assoc (B.take j), List.take_append_drop]
  · simp only [List.take_zero, List.append_nil, List.drop_zero, List.append_assoc]
    rw [← List.append_assoc (A.take i), List.take_append_drop]

set_option maxRecDepth 100000 in
set_option maxHeartbeats 16000000 in
theorem sym_any (base g n c : Nat) (hn : n ≤ 1000) (K : Nat) : ∀ (d : Array IdP) (a m b : Nat) (w : World) (X A B Y : List IdP), b - a ≤ K → Srt w base g n c d → d.toList = X ++ (A ++ (B ++ Y)) → X.length = a → a + A.length = m → m + B.length = b → 0 < A.length → 0 < B.length → Sym.Ord LEo A → Sym.Ord LEo B →
    Calls Tryd.prog 43 #[.slice (some ⟨g, 0, none⟩) n c, .int .i64 (a : Int), .int .i64 (m : Int), .int .i64 (b : Int), .func (.func 28) #[] #[]] w (Merged base g n c w X A B Y) := by
  induction K with
  | zero => intro d a m b w X A B Y hK hs hd ha hm hb hA0 hB0; omega
  | succ K ih =>
  intro d a m b w X A B Y hK hs hd ha hm hb hA0 hB0 hA hB
  by_cases hA1 : A.length = 1
  · obtain ⟨x, rfl⟩ := List.length_eq_one_iff.1 hA1
    exact sym_left base g n c d a m b w X B Y x hs hn (by rw [hd]; simp) ha (by simpa using hm) hb hB
  by_cases hB1 : B.length = 1
  · obtain ⟨y, rfl⟩ := List.length_eq_one_iff.1 hB1
    exact sym_right base g n c d a m b w X A Y y hs hn (by rw [hd]; simp) ha hm (by simpa using hb) hA1 hA
  have hbn : b ≤ n := by
    have h1 := congrArg List.length hd
    rw [Array.length_toList, hs.1] at h1
    simp only [List.length_append] at h1
    omega
  obtain ⟨q1, hq1⟩ : ∃ q, q = m - a := ⟨_, rfl⟩
  obtain ⟨q2, hq2⟩ : ∃ q, q = b - m := ⟨_, rfl⟩
  have hw1 : IntKind.i64.wrap ((m : Int) - (a : Int)) = (q1 : Int) := by rw [IntKind.wrap_i64] <;> omega
  have hw2 : IntKind.i64.wrap ((b : Int) - (m : Int)) = (q2 : Int) := by rw [IntKind.wrap_i64] <;> omega
  have hq1a : ((q1 : Int) == 1) = false := by simp; omega
  have hq1b : ¬ ((q1 : Int) = 1) := by omega
  have hq1c : ¬ (q1 = 1) := by omega
  have hq2a : ((q2 : Int) == 1) = false := by simp; omega
  have hq2b : ¬ ((q2 : Int) = 1) := by omega
  have hq2c : ¬ (q2 = 1) := by omega
  obtain ⟨mid, hmid⟩ : ∃ k, k = (a + b) / 2 := ⟨_, rfl⟩
  obtain ⟨N, hN⟩ : ∃ k, k = mid + m := ⟨_, rfl⟩
  obtain ⟨p, hp⟩ : ∃ k, k = N - 1 := ⟨_, rfl⟩
  have hw3 : ((a : Int) + (b : Int)) / 2 = (mid : Int) := by omega
  have hw4 : IntKind.i64.wrap ((mid : Int) + (m : Int)) = (N : Int) := by rw [IntKind.wrap_i64] <;> omega
  have hw5 : IntKind.i64.wrap ((N : Int) - 1) = (p : Int) := by rw [IntKind.wrap_i64] <;> omega
  have hab : a ≤ 1000 ∧ b ≤ 1000 ∧ m ≤ 1000 := by omega
  have hg := hs.lt
  have HD := Lib.hid (⟨hs, hd, ha, hm, hb, hA, hB⟩ : _ ∧ _ ∧ _ ∧ _ ∧ _ ∧ _ ∧ _)
  have HN := Lib.hid (⟨hmid, hN, hp, hA0, hB0, hA1, hB1, hK, hbn⟩ : _ ∧ _ ∧ _ ∧ _ ∧ _ ∧ _ ∧ _ ∧ _ ∧ _)
  have HM := Lib.hid (show a + 2 ≤ m ∧ m + 2 ≤ b ∧ mid = (a + b) / 2 ∧ N = mid + m ∧ p = N - 1 ∧ b ≤ n by omega)
  clear hs hd ha hm hb hA hB hmid hN hp hA0 hB0 hA1 hB1 hK hbn hq1 hq2
  by_cases hmm : mid < m
  · obtain ⟨s0, hs0'⟩ : ∃ k, k = N - b := ⟨_, rfl⟩
    have hmm1 : decide ((mid : Int) < (m : Int)) = true := by simp; omega
    have hmm2 : (mid : Int) < (m : Int) := by omega
    have hw6 : IntKind.i64.wrap ((N : Int) - (b : Int)) = (s0 : Int) := by have := HM.out; rw [IntKind.wrap_i64] <;> omega
    have hsN : s0 + b = N ∧ a ≤ s0 ∧ s0 ≤ mid := by have := HM.out; omega
    clear hs0'
    go_enter Tryd.func43, Tryd.ntmps43
    go_wp2_with fail
    clear hw1 hw2 hw3 hw4 hw5 hq1a hq1b hq1c hq2a hq2b hq2c
    go_loopw [20, 21] (fun sv rv wr => ∃ s r : Nat, sv = .int .i64 (s : Int) ∧ rv = .int .i64 (r : Int) ∧ s0 ≤ s ∧ s ≤ r ∧ r ≤ mid ∧ (s = s0 ∨ ¬ LessP d[p - (s - 1)]! d[s - 1]!) ∧ (r = mid ∨ LessP d[p - r]! d[r]!) ∧ Below w.heap.size w wr) (fun sv rv _ => (intOf rv).toNat - (intOf sv).toNat)
    case atStart => exact ⟨s0, mid, rfl, rfl, Nat.le_refl _, by have := HM.out; omega, Nat.le_refl _, .inl rfl, .inl rfl, Below.refl _ _⟩
    obtain ⟨s, r, rfl, rfl, hs0, hsr, hr0, hl, hr, hBw⟩ := hrel
    by_cases hlt : s < r
    · obtain ⟨h, hh⟩ : ∃ h, h = (s + r) / 2 := ⟨_, rfl⟩
      obtain ⟨ph, hph⟩ : ∃ k, k = p - h := ⟨_, rfl⟩
      have hs := HD.out.1.on hBw
      have hhv : ((s : Int) + (r : Int)) / 2 = (h : Int) := by omega
      have hhr : s ≤ h ∧ h < r := by omega
      have hhn : h < n ∧ ph < n ∧ h ≤ p ∧ r ≤ 1000 ∧ p ≤ 2000 := by have := HM.out; omega
      have hwp : IntKind.i64.wrap ((p : Int) - (h : Int)) = (ph : Int) := by rw [IntKind.wrap_i64] <;> omega
      obtain ⟨y, hy⟩ : ∃ y, d[ph]! = y := ⟨_, rfl⟩
      obtain ⟨x, hx⟩ : ∃ x, d[h]! = x := ⟨_, rfl⟩
      obtain ⟨k0, k1, k2⟩ := hs.cells hhn.2.1
      obtain ⟨m0, m1, m2⟩ := hs.cells hhn.1
      rw [hy] at k0 k1 k2
      rw [hx] at m0 m1 m2
      have hgl : g < wr.heap.size := hs.lt.2
      have HI := Lib.hid (⟨hl, hr, hBw, hy, hx, hph⟩ : _ ∧ _ ∧ _ ∧ _ ∧ _ ∧ _)
      clear hl hr hBw hy hx hs hh hph
      by_cases hless : orderP y x < 0
      · have hLs := (less_iff y x).1 hless
        have tl : decide (orderP y x < 0) = true := decide_eq_true hless
        go_wp2_with fail
        refine wp_region_held_drew (S := (fun W => Below wr.heap.size wr W)) (by kernel_rfl) (below_dr (below_d0 _)) (fun hHeld => ?_)
        refine take_at (i := 0) (d := 158) (oi := ?o1) (v := ?v1) ?hi1 ?hd1 (by kernel_rfl) (by kernel_rfl) (by kernel_rfl) ?hw1 ?hy1 ?hq1 (by assumption) ?r1
        case hi1 => (simp only [List.getElem?_toArray, List.getElem?_cons_zero]; rfl)
        case hd1 => rfl
        case hw1 => rfl
        case hy1 => ((intro w hSw; (try dsimp only at hSw); go_simp) <;> (with_reducible rfl))
        case hq1 => exact fun _ _ _ h => h
        simp only [List.set_cons_succ, List.set_cons_zero]
        refine take_at (i := 1) (d := 159) (oi := ?o2) (v := ?v2) ?hi2 ?hd2 (by kernel_rfl) (by kernel_rfl) (by kernel_rfl) ?hw2 ?hy2 ?hq2 (by assumption) ?r2
        case hi2 => (simp only [List.getElem?_toArray, List.getElem?_cons_succ, List.getElem?_cons_zero]; rfl)
        case hd2 => rfl
        case hw2 => rfl
        case hy2 => ((intro w hSw; (try dsimp only at hSw); go_simp) <;> (with_reducible rfl))
        case hq2 => exact fun _ _ _ h => h
        simp only [List.set_cons_succ, List.set_cons_zero]
        refine take_at (i := 2) (d := 160) (oi := ?o3) (v := ?v3) ?hi3 ?hd3 (by kernel_rfl) (by kernel_rfl) (by kernel_rfl) ?hw3 ?hy3 ?hq3 (by assumption) ?r3
        case hi3 => (simp only [List.getElem?_toArray, List.getElem?_cons_succ, List.getElem?_cons_zero]; rfl)
        case hd3 => rfl
        case hw3 => rfl
        case hy3 => ((intro w hSw; (try dsimp only at hSw); go_simp) <;> (with_reducible rfl))
        case hq3 => exact fun _ _ _ h => h
        simp only [List.set_cons_succ, List.set_cons_zero]
        refine take_at (i := 3) (d := 161) (oi := ?o4) (v := ?v4) ?hi4 ?hd4 (by kernel_rfl) (by kernel_rfl) (by kernel_rfl) ?hw4 ?hy4 ?hq4 (by assumption) ?r4
        case hi4 => (simp only [List.getElem?_toArray, List.getElem?_cons_succ, List.getElem?_cons_zero]; rfl)
        case hd4 => rfl
        case hw4 => rfl
        case hy4 => ((intro w hSw; (try dsimp only at hSw); go_simp) <;> (with_reducible rfl))
        case hq4 => exact fun _ _ _ h => h
        simp only [List.set_cons_succ, List.set_cons_zero]
        refine take_at (i := 4) (d := 162) (oi := ?o5) (v := ?v5) ?hi5 ?hd5 (by kernel_rfl) (by kernel_rfl) (by kernel_rfl) ?hw5 ?hy5 ?hq5 (by assumption) ?r5
        case hi5 => (simp only [List.getElem?_toArray, List.getElem?_cons_succ, List.getElem?_cons_zero]; rfl)
        case hd5 => rfl
        case hw5 => rfl
        case hy5 => ((intro w hSw; (try dsimp only at hSw); go_simp) <;> (with_reducible rfl))
        case hq5 => exact fun _ _ _ h => h
        simp only [List.set_cons_succ, List.set_cons_zero]
        refine take_at (i := 5) (d := 163) (oi := ?o6) (v := ?v6) ?hi6 ?hd6 (by kernel_rfl) (by kernel_rfl) (by kernel_rfl) ?hw6 ?hy6 ?hq6 (by assumption) ?r6
        case hi6 => (simp only [List.getElem?_toArray, List.getElem?_cons_succ, List.getElem?_cons_zero]; rfl)
        case hd6 => rfl
        case hw6 => rfl
        case hy6 => ((intro w hSw; (try dsimp only at hSw); go_simp) <;> (with_reducible rfl))
        case hq6 => exact fun _ _ _ h => h
        simp only [List.set_cons_succ, List.set_cons_zero]
        refine take_at (i := 6) (d := 164) (oi := ?o7) (v := ?v7) ?hi7 ?hd7 (by kernel_rfl) (by kernel_rfl) (by kernel_rfl) ?hw7 ?hy7 ?hq7 (by assumption) ?r7
        case hi7 => (simp only [List.getElem?_toArray, List.getElem?_cons_succ, List.getElem?_cons_zero]; rfl)
        case hd7 => rfl
        case hw7 => rfl
        case hy7 => ((intro w hSw; (try dsimp only at hSw); have q0 := (Below.cell hSw (p := ⟨g, ph * 3, none⟩) hgl).trans k0; have q1 := (Below.cell hSw (p := ⟨g, ph * 3 + 1, none⟩) hgl).trans k1; have q2 := (Below.cell hSw (p := ⟨g, ph * 3 + 2, none⟩) hgl).trans k2; clear hSw; go_simp) <;> (with_reducible rfl))
        case hq7 => exact fun _ _ _ h => h
        simp only [List.set_cons_succ, List.set_cons_zero]
        refine take_at (i := 7) (d := 165) (oi := ?o8) (v := ?v8) ?hi8 ?hd8 (by kernel_rfl) (by kernel_rfl) (by kernel_rfl) ?hw8 ?hy8 ?hq8 (by assumption) ?r8
        case hi8 => (simp only [List.getElem?_toArray, List.getElem?_cons_succ, List.getElem?_cons_zero]; rfl)
        case hd8 => rfl
        case hw8 => rfl
        case hy8 => ((intro w hSw; (try dsimp only at hSw); go_simp) <;> (with_reducible rfl))
        case hq8 => exact fun _ _ _ h => h
        simp only [List.set_cons_succ, List.set_cons_zero]
        refine take_at (i := 8) (d := 166) (oi := ?o9) (v := ?v9) ?hi9 ?hd9 (by kernel_rfl) (by kernel_rfl) (by kernel_rfl) ?hw9 ?hy9 ?hq9 (by assumption) ?r9
        case hi9 => (simp only [List.getElem?_toArray, List.getElem?_cons_succ, List.getElem?_cons_zero]; rfl)
        case hd9 => rfl
        case hw9 => rfl
        case hy9 => ((intro w hSw; (try dsimp only at hSw); go_simp) <;> (with_reducible rfl))
        case hq9 => exact fun _ _ _ h => h
        simp only [List.set_cons_succ, List.set_cons_zero]
        refine take_at (i := 9) (d := 167) (oi := ?o10) (v := ?v10) ?hi10 ?hd10 (by kernel_rfl) (by kernel_rfl) (by kernel_rfl) ?hw10 ?hy10 ?hq10 (by assumption) ?r10
        case hi10 => (simp only [List.getElem?_toArray, List.getElem?_cons_succ, List.getElem?_cons_zero]; rfl)
        case hd10 => rfl
        case hw10 => rfl
        case hy10 => ((intro w hSw; (try dsimp only at hSw); go_simp) <;> (with_reducible rfl))
        case hq10 => exact fun _ _ _ h => h
        simp only [List.set_cons_succ, List.set_cons_zero]
        refine take_at (i := 10) (d := 168) (oi := ?o11) (v := ?v11) ?hi11 ?hd11 (by kernel_rfl) (by kernel_rfl) (by kernel_rfl) ?hw11 ?hy11 ?hq11 (by assumption) ?r11
        case hi11 => (simp only [List.getElem?_toArray, List.getElem?_cons_succ, List.getElem?_cons_zero]; rfl)
        case hd11 => rfl
        case hw11 => rfl
        case hy11 => ((intro w hSw; (try dsimp only at hSw); have q0 := (Below.cell hSw (p := ⟨g, h * 3, none⟩) hgl).trans m0; have q1 := (Below.cell hSw (p := ⟨g, h * 3 + 1, none⟩) hgl).trans m1; have q2 := (Below.cell hSw (p := ⟨g, h * 3 + 2, none⟩) hgl).trans m2; clear hSw; go_simp) <;> (with_reducible rfl))
        case hq11 => exact fun _ _ _ h => h
        simp only [List.set_cons_succ, List.set_cons_zero]
        refine call_at (i := 11) (d := 169) (oi := ?o12) (f := ?f12) (args := ?a12) ?hi12 ?hd12 (by kernel_rfl) ?hw12 ?he12 ?hc12
        case hi12 => (simp only [List.getElem?_toArray, List.getElem?_cons_succ, List.getElem?_cons_zero]; rfl)
        case hd12 => rfl
        case hw12 => rfl
        case he12 => (go_simp; constructor <;> with_reducible rfl)
        refine (order_any y x _).mono ?_
        rintro e wv ⟨rfl, hb1⟩
        have kb : Below wr.heap.size wr wv := hHeld.trans (hb1.mono hHeld.size)
        refine ⟨_, rfl, kb, fun hHeld => ?_⟩
        simp only [List.set_cons_succ, List.set_cons_zero]
        refine take_at (i := 12) (d := 170) (oi := ?o13) (v := ?v13) ?hi13 ?hd13 (by kernel_rfl) (by kernel_rfl) (by kernel_rfl) ?hw13 ?hy13 ?hq13 (by assumption) ?r13
        case hi13 => (simp only [List.getElem?_toArray, List.getElem?_cons_succ, List.getElem?_cons_zero]; rfl)
        case hd13 => rfl
        case hw13 => rfl
        case hy13 => ((intro w hSw; (try dsimp only at hSw); go_simp) <;> (with_reducible rfl))
        case hq13 => exact fun _ _ _ h => h
        simp only [List.set_cons_succ, List.set_cons_zero]
        refine take_at (i := 13) (d := 171) (oi := ?o14) (v := ?v14) ?hi14 ?hd14 (by kernel_rfl) (by kernel_rfl) (by kernel_rfl) ?hw14 ?hy14 ?hq14 (by assumption) ?r14
        case hi14 => (simp only [List.getElem?_toArray, List.getElem?_cons_succ, List.getElem?_cons_zero]; rfl)
        case hd14 => rfl
        case hw14 => rfl
        case hy14 => ((intro w hSw; (try dsimp only at hSw); go_simp) <;> (with_reducible rfl))
        case hq14 => exact fun _ _ _ h => h
        simp only [List.set_cons_succ, List.set_cons_zero]
        refine wpAnyH_done (by kernel_rfl) ?_ _
        clear k0 k1 k2 m0 m1 m2
        go_wp2_with fail
        go_roundw
        case rel => exact ⟨s, h, rfl, rfl, hs0, hhr.1, by omega, HI.out.1, .inr (by rw [← HI.out.2.2.2.2.2, HI.out.2.2.2.1, HI.out.2.2.2.2.1]; exact hLs), HI.out.2.2.1.trans (hHeld.mono HI.out.2.2.1.size)⟩
        case measure => simp [intOf]; omega
      · have hLs : ¬ LessP y x := fun h => hless ((less_iff y x).2 h)
        have tl : decide (orderP y x < 0) = false := decide_eq_false hless
        go_wp2_with fail
        refine wp_region_held_drew (S := (fun W => Below wr.heap.size wr W)) (by kernel_rfl) (below_dr (below_d0 _)) (fun hHeld => ?_)
        refine take_at (i := 0) (d := 158) (oi := ?o15) (v := ?v15) ?hi15 ?hd15 (by kernel_rfl) (by kernel_rfl) (by kernel_rfl) ?hw15 ?hy15 ?hq15 (by assumption) ?r15
        case hi15 => (simp only [List.getElem?_toArray, List.getElem?_cons_zero]; rfl)
        case hd15 => rfl
        case hw15 => rfl
        case hy15 => ((intro w hSw; (try dsimp only at hSw); go_simp) <;> (with_reducible rfl))
        case hq15 => exact fun _ _ _ h => h
        simp only [List.set_cons_succ, List.set_cons_zero]
        refine take_at (i := 1) (d := 159) (oi := ?o16) (v := ?v16) ?hi16 ?hd16 (by kernel_rfl) (by kernel_rfl) (by kernel_rfl) ?hw16 ?hy16 ?hq16 (by assumption) ?r16
        case hi16 => (simp only [List.getElem?_toArray, List.getElem?_cons_succ, List.getElem?_cons_zero]; rfl)
        case hd16 => rfl
        case hw16 => rfl
        case hy16 => ((intro w hSw; (try dsimp only at hSw); go_simp) <;> (with_reducible rfl))
        case hq16 => exact fun _ _ _ h => h
        simp only [List.set_cons_succ, List.set_cons_zero]
        refine take_at (i := 2) (d := 160) (oi := ?o17) (v := ?v17) ?hi17 ?hd17 (by kernel_rfl) (by kernel_rfl) (by kernel_rfl) ?hw17 ?hy17 ?hq17 (by assumption) ?r17
        case hi17 => (simp only [List.getElem?_toArray, List.getElem?_cons_succ, List.getElem?_cons_zero]; rfl)
        case hd17 => rfl
        case hw17 => rfl
        case hy17 => ((intro w hSw; (try dsimp only at hSw); go_simp) <;> (with_reducible rfl))
        case hq17 => exact fun _ _ _ h => h
        simp only [List.set_cons_succ, List.set_cons_zero]
        refine take_at (i := 3) (d := 161) (oi := ?o18) (v := ?v18) ?hi18 ?hd18 (by kernel_rfl) (by kernel_rfl) (by kernel_rfl) ?hw18 ?hy18 ?hq18 (by assumption) ?r18
        case hi18 => (simp only [List.getElem?_toArray, List.getElem?_cons_succ, List.getElem?_cons_zero]; rfl)
        case hd18 => rfl
        case hw18 => rfl
        case hy18 => ((intro w hSw; (try dsimp only at hSw); go_simp) <;> (with_reducible rfl))
        case hq18 => exact fun _ _ _ h => h
        simp only [List.set_cons_succ, List.set_cons_zero]
        refine take_at (i := 4) (d := 162) (oi := ?o19) (v := ?v19) ?hi19 ?hd19 (by kernel_rfl) (by kernel_rfl) (by kernel_rfl) ?hw19 ?hy19 ?hq19 (by assumption) ?r19
        case hi19 => (simp only [List.getElem?_toArray, List.getElem?_cons_succ, List.getElem?_cons_zero]; rfl)
        case hd19 => rfl
        case hw19 => rfl
        case hy19 => ((intro w hSw; (try dsimp only at hSw); go_simp) <;> (with_reducible rfl))
        case hq19 => exact fun _ _ _ h => h
        simp only [List.set_cons_succ, List.set_cons_zero]
        refine take_at (i := 5) (d := 163) (oi := ?o20) (v := ?v20) ?hi20 ?hd20 (by kernel_rfl) (by kernel_rfl) (by kernel_rfl) ?hw20 ?hy20 ?hq20 (by assumption) ?r20
        case hi20 => (simp only [List.getElem?_toArray, List.getElem?_cons_succ, List.getElem?_cons_zero]; rfl)
        case hd20 => rfl
        case hw20 => rfl
        case hy20 => ((intro w hSw; (try dsimp only at hSw); go_simp) <;> (with_reducible rfl))
        case hq20 => exact fun _ _ _ h => h
        simp only [List.set_cons_succ, List.set_cons_zero]
        refine take_at (i := 6) (d := 164) (oi := ?o21) (v := ?v21) ?hi21 ?hd21 (by kernel_rfl) (by kernel_rfl) (by kernel_rfl) ?hw21 ?hy21 ?hq21 (by assumption) ?r21
        case hi21 => (simp only [List.getElem?_toArray, List.getElem?_cons_succ, List.getElem?_cons_zero]; rfl)
        case hd21 => rfl
        case hw21 => rfl
        case hy21 => ((intro w hSw; (try dsimp only at hSw); have q0 := (Below.cell hSw (p := ⟨g, ph * 3, none⟩) hgl).trans k0; have q1 := (Below.cell hSw (p := ⟨g, ph * 3 + 1, none⟩) hgl).trans k1; have q2 := (Below.cell hSw (p := ⟨g, ph * 3 + 2, none⟩) hgl).trans k2; clear hSw; go_simp) <;> (with_reducible rfl))
        case hq21 => exact fun _ _ _ h => h
        simp only [List.set_cons_succ, List.set_cons_zero]
        refine take_at (i := 7) (d := 165) (oi := ?o22) (v := ?v22) ?hi22 ?hd22 (by kernel_rfl) (by kernel_rfl) (by kernel_rfl) ?hw22 ?hy22 ?hq22 (by assumption) ?r22
        case hi22 => (simp only [List.getElem?_toArray, List.getElem?_cons_succ, List.getElem?_cons_zero]; rfl)
        case hd22 => rfl
        case hw22 => rfl
        case hy22 => ((intro w hSw; (try dsimp only at hSw); go_simp) <;> (with_reducible rfl))
        case hq22 => exact fun _ _ _ h => h
        simp only [List.set_cons_succ, List.set_cons_zero]
        refine take_at (i := 8) (d := 166) (oi := ?o23) (v := ?v23) ?hi23 ?hd23 (by kernel_rfl) (by kernel_rfl) (by kernel_rfl) ?hw23 ?hy23 ?hq23 (by assumption) ?r23
        case hi23 => (simp only [List.getElem?_toArray, List.getElem?_cons_succ, List.getElem?_cons_zero]; rfl)
        case hd23 => rfl
        case hw23 => rfl
        case hy23 => ((intro w hSw; (try dsimp only at hSw); go_simp) <;> (with_reducible rfl))
        case hq23 => exact fun _ _ _ h => h
        simp only [List.set_cons_succ, List.set_cons_zero]
        refine take_at (i := 9) (d := 167) (oi := ?o24) (v := ?v24) ?hi24 ?hd24 (by kernel_rfl) (by kernel_rfl) (by kernel_rfl) ?hw24 ?hy24 ?hq24 (by assumption) ?r24
        case hi24 => (simp only [List.getElem?_toArray, List.getElem?_cons_succ, List.getElem?_cons_zero]; rfl)
        case hd24 => rfl
        case hw24 => rfl
        case hy24 => ((intro w hSw; (try dsimp only at hSw); go_simp) <;> (with_reducible rfl))
        case hq24 => exact fun _ _ _ h => h
        simp only [List.set_cons_succ, List.set_cons_zero]
        refine take_at (i := 10) (d := 168) (oi := ?o25) (v := ?v25) ?hi25 ?hd25 (by kernel_rfl) (by kernel_rfl) (by kernel_rfl) ?hw25 ?hy25 ?hq25 (by assumption) ?r25
        case hi25 => (simp only [List.getElem?_toArray, List.getElem?_cons_succ, List.getElem?_cons_zero]; rfl)
        case hd25 => rfl
        case hw25 => rfl
        case hy25 => ((intro w hSw; (try dsimp only at hSw); have q0 := (Below.cell hSw (p := ⟨g, h * 3, none⟩) hgl).trans m0; have q1 := (Below.cell hSw (p := ⟨g, h * 3 + 1, none⟩) hgl).trans m1; have q2 := (Below.cell hSw (p := ⟨g, h * 3 + 2, none⟩) hgl).trans m2; clear hSw; go_simp) <;> (with_reducible rfl))
        case hq25 => exact fun _ _ _ h => h
        simp only [List.set_cons_succ, List.set_cons_zero]
        refine call_at (i := 11) (d := 169) (oi := ?o26) (f := ?f26) (args := ?a26) ?hi26 ?hd26 (by kernel_rfl) ?hw26 ?he26 ?hc26
        case hi26 => (simp only [List.getElem?_toArray, List.getElem?_cons_succ, List.getElem?_cons_zero]; rfl)
        case hd26 => rfl
        case hw26 => rfl
        case he26 => (go_simp; constructor <;> with_reducible rfl)
        refine (order_any y x _).mono ?_
        rintro e wv ⟨rfl, hb1⟩
        have kb : Below wr.heap.size wr wv := hHeld.trans (hb1.mono hHeld.size)
        refine ⟨_, rfl, kb, fun hHeld => ?_⟩
        simp only [List.set_cons_succ, List.set_cons_zero]
        refine take_at (i := 12) (d := 170) (oi := ?o27) (v := ?v27) ?hi27 ?hd27 (by kernel_rfl) (by kernel_rfl) (by kernel_rfl) ?hw27 ?hy27 ?hq27 (by assumption) ?r27
        case hi27 => (simp only [List.getElem?_toArray, List.getElem?_cons_succ, List.getElem?_cons_zero]; rfl)
        case hd27 => rfl
        case hw27 => rfl
        case hy27 => ((intro w hSw; (try dsimp only at hSw); go_simp) <;> (with_reducible rfl))
        case hq27 => exact fun _ _ _ h => h
        simp only [List.set_cons_succ, List.set_cons_zero]
        refine take_at (i := 13) (d := 171) (oi := ?o28) (v := ?v28) ?hi28 ?hd28 (by kernel_rfl) (by kernel_rfl) (by kernel_rfl) ?hw28 ?hy28 ?hq28 (by assumption) ?r28
        case hi28 => (simp only [List.getElem?_toArray, List.getElem?_cons_succ, List.getElem?_cons_zero]; rfl)
        case hd28 => rfl
        case hw28 => rfl
        case hy28 => ((intro w hSw; (try dsimp only at hSw); go_simp) <;> (with_reducible rfl))
        case hq28 => exact fun _ _ _ h => h
        simp only [List.set_cons_succ, List.set_cons_zero]
        refine wpAnyH_done (by kernel_rfl) ?_ _
        clear k0 k1 k2 m0 m1 m2
        go_wp2_with fail
        go_roundw
        case rel => exact ⟨h + 1, r, by go_num, rfl, by omega, by omega, hr0, .inr (by rw [Nat.add_sub_cancel, ← HI.out.2.2.2.2.2, HI.out.2.2.2.1, HI.out.2.2.2.2.1]; exact hLs), HI.out.2.1, HI.out.2.2.1.trans (hHeld.mono HI.out.2.2.1.size)⟩
        case measure => simp [intOf]; omega
    obtain rfl : s = r := by omega
    have hs1 := HD.out.1.on hBw
    have hBb : Below base w wr := hBw.mono (Nat.le_of_lt (Nat.lt_of_le_of_lt HD.out.1.lt.1 HD.out.1.lt.2))
    obtain ⟨en, hen⟩ : ∃ k, k = N - s := ⟨_, rfl⟩
    have hcut : CutAt d a m b mid s en := by
      have hM := HM.out
      refine ⟨by omega, by omega, by omega, by omega, by omega, ?_, ?_⟩
      · rcases hr with h0 | h0
        · omega
        · right; right; rwa [show p - s = en - 1 by omega] at h0
      · rcases hl with h0 | h0
        · omega
        · by_cases hsa : s = a
          · exact .inl hsa
          · right; right; rwa [show p - (s - 1) = en by omega] at h0
    have hwe : IntKind.i64.wrap ((N : Int) - (s : Int)) = (en : Int) := by have hM := HM.out; rw [IntKind.wrap_i64] <;> omega
    have HC := Lib.hid hcut
    have HS := Lib.hid (⟨hs1, hBb⟩ : _ ∧ _)
    clear hl hr hBw hs1 hBb hcut hs0 hsr hr0 hlt hen hw6 hmm1 hmm2
    go_upto_region 39 with fail
    go_cut [185] (fun sv wx => sv = .bool (decide (s < m ∧ m < en)) ∧ wx = wr)
    case first => as_aux_lemma =>
      by_cases h1 : s < m
      · have t1 : (s : Int) < (m : Int) := by omega
        have t1b : decide ((s : Int) < (m : Int)) = true := by simp; omega
        by_cases h2 : m < en
        · have t2 : (m : Int) < (en : Int) := by omega
          have t2b : decide ((m : Int) < (en : Int)) = true := by simp; omega
          have hv := Lib.hid (show decide (s < m ∧ m < en) = true from decide_eq_true ⟨h1, h2⟩)
          go_wp2_with fail
          go_meet
          exact ⟨by rw [hv.out], rfl⟩
        · have t2 : ¬ ((m : Int) < (en : Int)) := by omega
          have t2b : decide ((m : Int) < (en : Int)) = false := by simp; omega
          have hv := Lib.hid (show decide (s < m ∧ m < en) = false from decide_eq_false (fun h => h2 h.2))
          go_wp2_with fail
          go_meet
          exact ⟨by rw [hv.out], rfl⟩
      · have t1 : ¬ ((s : Int) < (m : Int)) := by omega
        have t1b : decide ((s : Int) < (m : Int)) = false := by simp; omega
        have hv := Lib.hid (show decide (s < m ∧ m < en) = false from decide_eq_false (fun h => h1 h.1))
        go_wp2_with fail
        go_meet
        exact ⟨by rw [hv.out], rfl⟩
    obtain ⟨rfl, hwx⟩ := hcut
    replace hwx := hwx.symm
    subst hwx
    go_upto_if 185 with fail
    go_cut [] (fun wx => (∃ d1, Srt wx base g n c d1 ∧ d1.toList = X ++ ((A.take (s - a) ++ B.take (en - m)) ++ ((A.drop (s - a) ++ B.drop (en - m)) ++ Y))) ∧ Below base w wx)
    case first => as_aux_lemma =>
      by_cases hrot : s < m ∧ m < en
      · rw [decide_eq_true hrot]
        obtain ⟨hr1, hr2⟩ := hrot
        obtain ⟨hs, hd, ha, hm, hb, -, -⟩ := HD.out
        have hC1 := HC.out.la
        have hC4 := HC.out.eb
        have hrt := rotate_any base g n c d s m en (.func (.func 28) #[] #[]) wr (X ++ A.take (s - a)) (A.drop (s - a)) (B.take (en - m)) (B.drop (en - m) ++ Y) HS.out.1 hn
          (by rw [hd]; simp only [List.append_assoc]; rw [← List.append_assoc (A.take _), List.take_append_drop, ← List.append_assoc (B.take _), List.take_append_drop])
          (by rw [List.length_append, List.length_take]; omega) (by rw [List.length_drop]; omega) (by rw [List.length_take]; omega) (by rw [List.length_drop]; omega) (by rw [List.length_take]; omega)
        clear hs hd ha hm hb hC1 hC4
        go_wp2_with fail
        refine hrt.mono ?_
        rintro e w2 ⟨rfl, ⟨d2, hs2, hd2⟩, hb2⟩
        have H2 := Lib.hid (show (∃ d1, Srt w2 base g n c d1 ∧ d1.toList = X ++ ((A.take (s - a) ++ B.take (en - m)) ++ ((A.drop (s - a) ++ B.drop (en - m)) ++ Y))) ∧ Below base w w2 from ⟨⟨d2, hs2, by rw [hd2]; simp only [List.append_assoc]⟩, HS.out.2.trans hb2⟩)
        clear hs2 hd2 hb2 hrt
        go_wp2_with fail
        go_meet
        exact H2.out
      · rw [decide_eq_false hrot]
        have hsame : A.length ≤ s - a ∨ en - m = 0 := by have := HD.out.2.2.2.1; omega
        have H2 := Lib.hid (show (∃ d1, Srt wr base g n c d1 ∧ d1.toList = X ++ ((A.take (s - a) ++ B.take (en - m)) ++ ((A.drop (s - a) ++ B.drop (en - m)) ++ Y))) ∧ Below base w wr from ⟨⟨d, HS.out.1, by rw [HD.out.2.1]; exact turned_same hsame⟩, HS.out.2⟩)
        clear hsame hrot
        go_wp2_with fail
        go_meet
        exact H2.out
    case rest => as_aux_lemma =>
      obtain ⟨⟨d1, hs1, hd1⟩, hb1⟩ := hcut
      obtain ⟨w1, hw1⟩ : ∃ x, x = wc := ⟨_, rfl⟩
      subst hw1
      have HS1 := Lib.hid (⟨hs1, hd1, hb1⟩ : _ ∧ _ ∧ _)
      clear hs1 hd1 hb1
      go_upto_region 41 with fail
      go_cut [199] (fun sv wx => sv = .bool (decide (a < s ∧ s < mid)) ∧ wx = w1)
      case first => as_aux_lemma =>
        by_cases h1 : a < s
        · have t1 : (a : Int) < (s : Int) := by omega
          have t1b : decide ((a : Int) < (s : Int)) = true := by simp; omega
          by_cases h2 : s < mid
          · have t2 : (s : Int) < (mid : Int) := by omega
            have t2b : decide ((s : Int) < (mid : Int)) = true := by simp; omega
            have hv := Lib.hid (show decide (a < s ∧ s < mid) = true from decide_eq_true ⟨h1, h2⟩)
            go_wp2_with fail
            go_meet
            exact ⟨by rw [hv.out], rfl⟩
          · have t2 : ¬ ((s : Int) < (mid : Int)) := by omega
            have t2b : decide ((s : Int) < (mid : Int)) = false := by simp; omega
            have hv := Lib.hid (show decide (a < s ∧ s < mid) = false from decide_eq_false (fun h => h2 h.2))
            go_wp2_with fail
            go_meet
            exact ⟨by rw [hv.out], rfl⟩
        · have t1 : ¬ ((a : Int) < (s : Int)) := by omega
          have t1b : decide ((a : Int) < (s : Int)) = false := by simp; omega
          have hv := Lib.hid (show decide (a < s ∧ s < mid) = false from decide_eq_false (fun h => h1 h.1))
          go_wp2_with fail
          go_meet
          exact ⟨by rw [hv.out], rfl⟩
      obtain ⟨rfl, hwx⟩ := hcut
      replace hwx := hwx.symm
      subst hwx
      go_upto_if 199 with fail
      go_cut [] (fun wx => (∃ d2 C1, Srt wx base g n c d2 ∧ d2.toList = X ++ (C1 ++ ((A.drop (s - a) ++ B.drop (en - m)) ++ Y)) ∧ Sym.Ord LEo C1 ∧ C1.Perm (A.take (s - a) ++ B.take (en - m))) ∧ Below base w wx)
      case first => as_aux_lemma =>
        have hC := HC.out
        have hC1 := hC.la
        have hC2 := hC.sm
        have hC3 := hC.me
        have hC4 := hC.eb
        have hC5 := hC.sum
        obtain ⟨-, -, -, hm, hb, hA, hB⟩ := HD.out
        by_cases hrot : a < s ∧ s < mid
        · rw [decide_eq_true hrot]
          have hic := ih d1 a s mid w1 X (A.take (s - a)) (B.take (en - m)) ((A.drop (s - a) ++ B.drop (en - m)) ++ Y) (by have := HM.out; have := HN.out.2.2.2.2.2.2.2.1; omega) HS1.out.1 (by rw [HS1.out.2.1, List.append_assoc]) HD.out.2.2.1 (by rw [List.length_take]; omega) (by rw [List.length_take]; omega) (by rw [List.length_take]; omega) (by rw [List.length_take]; omega) (Ord.take_ hA _) (Ord.take_ hB _)
          clear hC hC1 hC2 hC3 hC4 hC5 hm hb hA hB
          go_wp2_with fail
          refine hic.mono ?_
          rintro e w2 ⟨rfl, ⟨d2, hs2, C1, hd2, ho2, hp2⟩, hb2⟩
          have H2 := Lib.hid (⟨⟨d2, C1, hs2, hd2, ho2, hp2⟩, HS1.out.2.2.trans hb2⟩ : (∃ d2 C1, Srt w2 base g n c d2 ∧ d2.toList = X ++ (C1 ++ ((A.drop (s - a) ++ B.drop (en - m)) ++ Y)) ∧ Sym.Ord LEo C1 ∧ C1.Perm (A.take (s - a) ++ B.take (en - m))) ∧ Below base w w2)
          clear hs2 hd2 hb2 ho2 hp2 hic
          go_wp2_with fail
          go_meet
          exact H2.out
        · rw [decide_eq_false hrot]
          have H2 := Lib.hid (⟨⟨d1, _, HS1.out.1, HS1.out.2.1, ord_none hA hB (by omega), List.Perm.refl _⟩, HS1.out.2.2⟩ : (∃ d2 C1, Srt w1 base g n c d2 ∧ d2.toList = X ++ (C1 ++ ((A.drop (s - a) ++ B.drop (en - m)) ++ Y)) ∧ Sym.Ord LEo C1 ∧ C1.Perm (A.take (s - a) ++ B.take (en - m))) ∧ Below base w w1)
          clear hC hC1 hC2 hC3 hC4 hC5 hm hb hA hB hrot
          go_wp2_with fail
          go_meet
          exact H2.out
      case rest => as_aux_lemma =>
        obtain ⟨⟨d2, C1, hs2, hd2, ho2, hp2⟩, hb2⟩ := hcut
        obtain ⟨w2, hw2⟩ : ∃ x, x = wc := ⟨_, rfl⟩
        subst hw2
        have HS2 := Lib.hid (⟨hs2, hd2, ho2, hp2, hb2⟩ : _ ∧ _ ∧ _ ∧ _ ∧ _)
        clear hs2 hd2 ho2 hp2 hb2
        go_upto_region 43 with fail
        go_cut [213] (fun sv wx => sv = .bool (decide (mid < en ∧ en < b)) ∧ wx = w2)
        case first => as_aux_lemma =>
          by_cases h1 : mid < en
          · have t1 : (mid : Int) < (en : Int) := by omega
            have t1b : decide ((mid : Int) < (en : Int)) = true := by simp; omega
            by_cases h2 : en < b
            · have t2 : (en : Int) < (b : Int) := by omega
              have t2b : decide ((en : Int) < (b : Int)) = true := by simp; omega
              have hv := Lib.hid (show decide (mid < en ∧ en < b) = true from decide_eq_true ⟨h1, h2⟩)
              go_wp2_with fail
              go_meet
              exact ⟨by rw [hv.out], rfl⟩
            · have t2 : ¬ ((en : Int) < (b : Int)) := by omega
              have t2b : decide ((en : Int) < (b : Int)) = false := by simp; omega
              have hv := Lib.hid (show decide (mid < en ∧ en < b) = false from decide_eq_false (fun h => h2 h.2))
              go_wp2_with fail
              go_meet
              exact ⟨by rw [hv.out], rfl⟩
          · have t1 : ¬ ((mid : Int) < (en : Int)) := by omega
            have t1b : decide ((mid : Int) < (en : Int)) = false := by simp; omega
            have hv := Lib.hid (show decide (mid < en ∧ en < b) = false from decide_eq_false (fun h => h1 h.1))
            go_wp2_with fail
            go_meet
            exact ⟨by rw [hv.out], rfl⟩
        obtain ⟨rfl, hwx⟩ := hcut
        replace hwx := hwx.symm
        subst hwx
        have hC := HC.out
        have hC1 := hC.la
        have hC2 := hC.sm
        have hC3 := hC.me
        have hC4 := hC.eb
        have hC5 := hC.sum
        obtain ⟨-, hd, ha, hm, hb, hA, hB⟩ := HD.out
        by_cases hrot : mid < en ∧ en < b
        · rw [decide_eq_true hrot]
          have hlp := HS2.out.2.2.2.1.length_eq
          rw [List.length_append, List.length_take, List.length_take] at hlp
          have hic := ih d2 mid en b w2 (X ++ C1) (A.drop (s - a)) (B.drop (en - m)) Y (by have := HM.out; have := HN.out.2.2.2.2.2.2.2.1; omega) HS2.out.1 (by rw [HS2.out.2.1]; simp only [List.append_assoc]) (by rw [List.length_append]; omega) (by rw [List.length_drop]; omega) (by rw [List.length_drop]; omega) (by rw [List.length_drop]; omega) (by rw [List.length_drop]; omega) (Ord.drop_ hA _) (Ord.drop_ hB _)
          clear hC hC1 hC2 hC3 hC4 hC5 hd ha hm hb hA hB hlp
          go_wp2_with fail
          refine hic.mono ?_
          rintro e w3 ⟨rfl, ⟨d3, hs3, C2, hd3, ho3, hp3⟩, hb3⟩
          have H3 := Lib.hid (⟨hs3, hd3, ho3, hp3, HS2.out.2.2.2.2.trans hb3⟩ : _ ∧ _ ∧ _ ∧ _ ∧ _)
          clear hs3 hd3 hb3 ho3 hp3 hic
          go_wp2_with fail
          go_end0
          obtain ⟨-, hd, ha, hm, hb, hA, hB⟩ := HD.out
          have hr := HC.out.round hd ha hm hb hA hB HS2.out.2.2.2.1 H3.out.2.2.2.1 HS2.out.2.2.1 H3.out.2.2.1
          exact ⟨rfl, ⟨d3, H3.out.1, C1 ++ C2, by rw [H3.out.2.1]; simp only [List.append_assoc], hr.1, hr.2⟩, H3.out.2.2.2.2⟩
        · rw [decide_eq_false hrot]
          have hr := Lib.hid (hC.round hd ha hm hb hA hB HS2.out.2.2.2.1 (List.Perm.refl _) HS2.out.2.2.1 (ord_none2 hA hB (by omega)))
          clear hC hC1 hC2 hC3 hC4 hC5 hd ha hm hb hA hB hrot
          go_wp2_with fail
          go_end0
          exact ⟨rfl, ⟨d2, HS2.out.1, C1 ++ (A.drop (s - a) ++ B.drop (en - m)), by rw [HS2.out.2.1]; simp only [List.append_assoc], hr.out.1, hr.out.2⟩, HS2.out.2.2.2.2⟩
  · have hmm1 : decide ((mid : Int) < (m : Int)) = false := by simp; omega
    have hmm2 : ¬ ((mid : Int) < (m : Int)) := by omega
    go_enter Tryd.func43, Tryd.ntmps43
    go_wp2_with fail
    clear hw1 hw2 hw3 hw4 hw5 hq1a hq1b hq1c hq2a hq2b hq2c
    go_loopw [20, 21] (fun sv rv wr => ∃ s r : Nat, sv = .int .i64 (s : Int) ∧ rv = .int .i64 (r : Int) ∧ a ≤ s ∧ s ≤ r ∧ r ≤ m ∧ (s = a ∨ ¬ LessP d[p - (s - 1)]! d[s - 1]!) ∧ (r = m ∨ LessP d[p - r]! d[r]!) ∧ Below w.heap.size w wr) (fun sv rv _ => (intOf rv).toNat - (intOf sv).toNat)
    case atStart => exact ⟨a, m, rfl, rfl, Nat.le_refl _, by have := HM.out; omega, Nat.le_refl _, .inl rfl, .inl rfl, Below.refl _ _⟩
    obtain ⟨s, r, rfl, rfl, hs0, hsr, hr0, hl, hr, hBw⟩ := hrel
    by_cases hlt : s < r
    · obtain ⟨h, hh⟩ : ∃ h, h = (s + r) / 2 := ⟨_, rfl⟩
      obtain ⟨ph, hph⟩ : ∃ k, k = p - h := ⟨_, rfl⟩
      have hs := HD.out.1.on hBw
      have hhv : ((s : Int) + (r : Int)) / 2 = (h : Int) := by omega
      have hhr : s ≤ h ∧ h < r := by omega
      have hhn : h < n ∧ ph < n ∧ h ≤ p ∧ r ≤ 1000 ∧ p ≤ 2000 := by have := HM.out; omega
      have hwp : IntKind.i64.wrap ((p : Int) - (h : Int)) = (ph : Int) := by rw [IntKind.wrap_i64] <;> omega
      obtain ⟨y, hy⟩ : ∃ y, d[ph]! = y := ⟨_, rfl⟩
      obtain ⟨x, hx⟩ : ∃ x, d[h]! = x := ⟨_, rfl⟩
      obtain ⟨k0, k1, k2⟩ := hs.cells hhn.2.1
      obtain ⟨m0, m1, m2⟩ := hs.cells hhn.1
      rw [hy] at k0 k1 k2
      rw [hx] at m0 m1 m2
      have hgl : g < wr.heap.size := hs.lt.2
      have HI := Lib.hid (⟨hl, hr, hBw, hy, hx, hph⟩ : _ ∧ _ ∧ _ ∧ _ ∧ _ ∧ _)
      clear hl hr hBw hy hx hs hh hph
      by_cases hless : orderP y x < 0
      · have hLs := (less_iff y x).1 hless
        have tl : decide (orderP y x < 0) = true := decide_eq_true hless
        go_wp2_with fail
        refine wp_region_held_drew (S := (fun W => Below wr.heap.size wr W)) (by kernel_rfl) (below_dr (below_d0 _)) (fun hHeld => ?_)
        refine take_at (i := 0) (d := 158) (oi := ?o29) (v := ?v29) ?hi29 ?hd29 (by kernel_rfl) (by kernel_rfl) (by kernel_rfl) ?hw29 ?hy29 ?hq29 (by assumption) ?r29
        case hi29 => (simp only [List.getElem?_toArray, List.getElem?_cons_zero]; rfl)
        case hd29 => rfl
        case hw29 => rfl
        case hy29 => ((intro w hSw; (try dsimp only at hSw); go_simp) <;> (with_reducible rfl))
        case hq29 => exact fun _ _ _ h => h
        simp only [List.set_cons_succ, List.set_cons_zero]
        refine take_at (i := 1) (d := 159) (oi := ?o30) (v := ?v30) ?hi30 ?hd30 (by kernel_rfl) (by kernel_rfl) (by kernel_rfl) ?hw30 ?hy30 ?hq30 (by assumption) ?r30
        case hi30 => (simp only [List.getElem?_toArray, List.getElem?_cons_succ, List.getElem?_cons_zero]; rfl)
        case hd30 => rfl
        case hw30 => rfl
        case hy30 => ((intro w hSw; (try dsimp only at hSw); go_simp) <;> (with_reducible rfl))
        case hq30 => exact fun _ _ _ h => h
        simp only [List.set_cons_succ, List.set_cons_zero]
        refine take_at (i := 2) (d := 160) (oi := ?o31) (v := ?v31) ?hi31 ?hd31 (by kernel_rfl) (by kernel_rfl) (by kernel_rfl) ?hw31 ?hy31 ?hq31 (by assumption) ?r31
        case hi31 => (simp only [List.getElem?_toArray, List.getElem?_cons_succ, List.getElem?_cons_zero]; rfl)
        case hd31 => rfl
        case hw31 => rfl
        case hy31 => ((intro w hSw; (try dsimp only at hSw); go_simp) <;> (with_reducible rfl))
        case hq31 => exact fun _ _ _ h => h
        simp only [List.set_cons_succ, List.set_cons_zero]
        refine take_at (i := 3) (d := 161) (oi := ?o32) (v := ?v32) ?hi32 ?hd32 (by kernel_rfl) (by kernel_rfl) (by kernel_rfl) ?hw32 ?hy32 ?hq32 (by assumption) ?r32
        case hi32 => (simp only [List.getElem?_toArray, List.getElem?_cons_succ, List.getElem?_cons_zero]; rfl)
        case hd32 => rfl
        case hw32 => rfl
        case hy32 => ((intro w hSw; (try dsimp only at hSw); go_simp) <;> (with_reducible rfl))
        case hq32 => exact fun _ _ _ h => h
        simp only [List.set_cons_succ, List.set_cons_zero]
        refine take_at (i := 4) (d := 162) (oi := ?o33) (v := ?v33) ?hi33 ?hd33 (by kernel_rfl) (by kernel_rfl) (by kernel_rfl) ?hw33 ?hy33 ?hq33 (by assumption) ?r33
        case hi33 => (simp only [List.getElem?_toArray, List.getElem?_cons_succ, List.getElem?_cons_zero]; rfl)
        case hd33 => rfl
        case hw33 => rfl
        case hy33 => ((intro w hSw; (try dsimp only at hSw); go_simp) <;> (with_reducible rfl))
        case hq33 => exact fun _ _ _ h => h
        simp only [List.set_cons_succ, List.set_cons_zero]
        refine take_at (i := 5) (d := 163) (oi := ?o34) (v := ?v34) ?hi34 ?hd34 (by kernel_rfl) (by kernel_rfl) (by kernel_rfl) ?hw34 ?hy34 ?hq34 (by assumption) ?r34
        case hi34 => (simp only [List.getElem?_toArray, List.getElem?_cons_succ, List.getElem?_cons_zero]; rfl)
        case hd34 => rfl
        case hw34 => rfl
        case hy34 => ((intro w hSw; (try dsimp only at hSw); go_simp) <;> (with_reducible rfl))
        case hq34 => exact fun _ _ _ h => h
        simp only [List.set_cons_succ, List.set_cons_zero]
        refine take_at (i := 6) (d := 164) (oi := ?o35) (v := ?v35) ?hi35 ?hd35 (by kernel_rfl) (by kernel_rfl) (by kernel_rfl) ?hw35 ?hy35 ?hq35 (by assumption) ?r35
        case hi35 => (simp only [List.getElem?_toArray, List.getElem?_cons_succ, List.getElem?_cons_zero]; rfl)
        case hd35 => rfl
        case hw35 => rfl
        case hy35 => ((intro w hSw; (try dsimp only at hSw); have q0 := (Below.cell hSw (p := ⟨g, ph * 3, none⟩) hgl).trans k0; have q1 := (Below.cell hSw (p := ⟨g, ph * 3 + 1, none⟩) hgl).trans k1; have q2 := (Below.cell hSw (p := ⟨g, ph * 3 + 2, none⟩) hgl).trans k2; clear hSw; go_simp) <;> (with_reducible rfl))
        case hq35 => exact fun _ _ _ h => h
        simp only [List.set_cons_succ, List.set_cons_zero]
        refine take_at (i := 7) (d := 165) (oi := ?o36) (v := ?v36) ?hi36 ?hd36 (by kernel_rfl) (by kernel_rfl) (by kernel_rfl) ?hw36 ?hy36 ?hq36 (by assumption) ?r36
        case hi36 => (simp only [List.getElem?_toArray, List.getElem?_cons_succ, List.getElem?_cons_zero]; rfl)
        case hd36 => rfl
        case hw36 => rfl
        case hy36 => ((intro w hSw; (try dsimp only at hSw); go_simp) <;> (with_reducible rfl))
        case hq36 => exact fun _ _ _ h => h
        simp only [List.set_cons_succ, List.set_cons_zero]
        refine take_at (i := 8) (d := 166) (oi := ?o37) (v := ?v37) ?hi37 ?hd37 (by kernel_rfl) (by kernel_rfl) (by kernel_rfl) ?hw37 ?hy37 ?hq37 (by assumption) ?r37
        case hi37 => (simp only [List.getElem?_toArray, List.getElem?_cons_succ, List.getElem?_cons_zero]; rfl)
        case hd37 => rfl
        case hw37 => rfl
        case hy37 => ((intro w hSw; (try dsimp only at hSw); go_simp) <;> (with_reducible rfl))
        case hq37 => exact fun _ _ _ h => h
        simp only [List.set_cons_succ, List.set_cons_zero]
        refine take_at (i := 9) (d := 167) (oi := ?o38) (v := ?v38) ?hi38 ?hd38 (by kernel_rfl) (by kernel_rfl) (by kernel_rfl) ?hw38 ?hy38 ?hq38 (by assumption) ?r38
        case hi38 => (simp only [List.getElem?_toArray, List.getElem?_cons_succ, List.getElem?_cons_zero]; rfl)
        case hd38 => rfl
        case hw38 => rfl
        case hy38 => ((intro w hSw; (try dsimp only at hSw); go_simp) <;> (with_reducible rfl))
        case hq38 => exact fun _ _ _ h => h
        simp only [List.set_cons_succ, List.set_cons_zero]
        refine take_at (i := 10) (d := 168) (oi := ?o39) (v := ?v39) ?hi39 ?hd39 (by kernel_rfl) (by kernel_rfl) (by kernel_rfl) ?hw39 ?hy39 ?hq39 (by assumption) ?r39
        case hi39 => (simp only [List.getElem?_toArray, List.getElem?_cons_succ, List.getElem?_cons_zero]; rfl)
        case hd39 => rfl
        case hw39 => rfl
        case hy39 => ((intro w hSw; (try dsimp only at hSw); have q0 := (Below.cell hSw (p := ⟨g, h * 3, none⟩) hgl).trans m0; have q1 := (Below.cell hSw (p := ⟨g, h * 3 + 1, none⟩) hgl).trans m1; have q2 := (Below.cell hSw (p := ⟨g, h * 3 + 2, none⟩) hgl).trans m2; clear hSw; go_simp) <;> (with_reducible rfl))
        case hq39 => exact fun _ _ _ h => h
        simp only [List.set_cons_succ, List.set_cons_zero]
        refine call_at (i := 11) (d := 169) (oi := ?o40) (f := ?f40) (args := ?a40) ?hi40 ?hd40 (by kernel_rfl) ?hw40 ?he40 ?hc40
        case hi40 => (simp only [List.getElem?_toArray, List.getElem?_cons_succ, List.getElem?_cons_zero]; rfl)
        case hd40 => rfl
        case hw40 => rfl
        case he40 => (go_simp; constructor <;> with_reducible rfl)
        refine (order_any y x _).mono ?_
        rintro e wv ⟨rfl, hb1⟩
        have kb : Below wr.heap.size wr wv := hHeld.trans (hb1.mono hHeld.size)
        refine ⟨_, rfl, kb, fun hHeld => ?_⟩
        simp only [List.set_cons_succ, List.set_cons_zero]
        refine take_at (i := 12) (d := 170) (oi := ?o41) (v := ?v41) ?hi41 ?hd41 (by kernel_rfl) (by kernel_rfl) (by kernel_rfl) ?hw41 ?hy41 ?hq41 (by assumption) ?r41
        case hi41 => (simp only [List.getElem?_toArray, List.getElem?_cons_succ, List.getElem?_cons_zero]; rfl)
        case hd41 => rfl
        case hw41 => rfl
        case hy41 => ((intro w hSw; (try dsimp only at hSw); go_simp) <;> (with_reducible rfl))
        case hq41 => exact fun _ _ _ h => h
        simp only [List.set_cons_succ, List.set_cons_zero]
        refine take_at (i := 13) (d := 171) (oi := ?o42) (v := ?v42) ?hi42 ?hd42 (by kernel_rfl) (by kernel_rfl) (by kernel_rfl) ?hw42 ?hy42 ?hq42 (by assumption) ?r42
        case hi42 => (simp only [List.getElem?_toArray, List.getElem?_cons_succ, List.getElem?_cons_zero]; rfl)
        case hd42 => rfl
        case hw42 => rfl
        case hy42 => ((intro w hSw; (try dsimp only at hSw); go_simp) <;> (with_reducible rfl))
        case hq42 => exact fun _ _ _ h => h
        simp only [List.set_cons_succ, List.set_cons_zero]
        refine wpAnyH_done (by kernel_rfl) ?_ _
        clear k0 k1 k2 m0 m1 m2
        go_wp2_with fail
        go_roundw
        case rel => exact ⟨s, h, rfl, rfl, hs0, hhr.1, by omega, HI.out.1, .inr (by rw [← HI.out.2.2.2.2.2, HI.out.2.2.2.1, HI.out.2.2.2.2.1]; exact hLs), HI.out.2.2.1.trans (hHeld.mono HI.out.2.2.1.size)⟩
        case measure => simp [intOf]; omega
      · have hLs : ¬ LessP y x := fun h => hless ((less_iff y x).2 h)
        have tl : decide (orderP y x < 0) = false := decide_eq_false hless
        go_wp2_with fail
        refine wp_region_held_drew (S := (fun W => Below wr.heap.size wr W)) (by kernel_rfl) (below_dr (below_d0 _)) (fun hHeld => ?_)
        refine take_at (i := 0) (d := 158) (oi := ?o43) (v := ?v43) ?hi43 ?hd43 (by kernel_rfl) (by kernel_rfl) (by kernel_rfl) ?hw43 ?hy43 ?hq43 (by assumption) ?r43
        case hi43 => (simp only [List.getElem?_toArray, List.getElem?_cons_zero]; rfl)
        case hd43 => rfl
        case hw43 => rfl
        case hy43 => ((intro w hSw; (try dsimp only at hSw); go_simp) <;> (with_reducible rfl))
        case hq43 => exact fun _ _ _ h => h
        simp only [List.set_cons_succ, List.set_cons_zero]
        refine take_at (i := 1) (d := 159) (oi := ?o44) (v := ?v44) ?hi44 ?hd44 (by kernel_rfl) (by kernel_rfl) (by kernel_rfl) ?hw44 ?hy44 ?hq44 (by assumption) ?r44
        case hi44 => (simp only [List.getElem?_toArray, List.getElem?_cons_succ, List.getElem?_cons_zero]; rfl)
        case hd44 => rfl
        case hw44 => rfl
        case hy44 => ((intro w hSw; (try dsimp only at hSw); go_simp) <;> (with_reducible rfl))
        case hq44 => exact fun _ _ _ h => h
        simp only [List.set_cons_succ, List.set_cons_zero]
        refine take_at (i := 2) (d := 160) (oi := ?o45) (v := ?v45) ?hi45 ?hd45 (by kernel_rfl) (by kernel_rfl) (by kernel_rfl) ?hw45 ?hy45 ?hq45 (by assumption) ?r45
        case hi45 => (simp only [List.getElem?_toArray, List.getElem?_cons_succ, List.getElem?_cons_zero]; rfl)
        case hd45 => rfl
        case hw45 => rfl
        case hy45 => ((intro w hSw; (try dsimp only at hSw); go_simp) <;> (with_reducible rfl))
        case hq45 => exact fun _ _ _ h => h
        simp only [List.set_cons_succ, List.set_cons_zero]
        refine take_at (i := 3) (d := 161) (oi := ?o46) (v := ?v46) ?hi46 ?hd46 (by kernel_rfl) (by kernel_rfl) (by kernel_rfl) ?hw46 ?hy46 ?hq46 (by assumption) ?r46
        case hi46 => (simp only [List.getElem?_toArray, List.getElem?_cons_succ, List.getElem?_cons_zero]; rfl)
        case hd46 => rfl
        case hw46 => rfl
        case hy46 => ((intro w hSw; (try dsimp only at hSw); go_simp) <;> (with_reducible rfl))
        case hq46 => exact fun _ _ _ h => h
        simp only [List.set_cons_succ, List.set_cons_zero]
        refine take_at (i := 4) (d := 162) (oi := ?o47) (v := ?v47) ?hi47 ?hd47 (by kernel_rfl) (by kernel_rfl) (by kernel_rfl) ?hw47 ?hy47 ?hq47 (by assumption) ?r47
        case hi47 => (simp only [List.getElem?_toArray, List.getElem?_cons_succ, List.getElem?_cons_zero]; rfl)
        case hd47 => rfl
        case hw47 => rfl
        case hy47 => ((intro w hSw; (try dsimp only at hSw); go_simp) <;> (with_reducible rfl))
        case hq47 => exact fun _ _ _ h => h
        simp only [List.set_cons_succ, List.set_cons_zero]
        refine take_at (i := 5) (d := 163) (oi := ?o48) (v := ?v48) ?hi48 ?hd48 (by kernel_rfl) (by kernel_rfl) (by kernel_rfl) ?hw48 ?hy48 ?hq48 (by assumption) ?r48
        case hi48 => (simp only [List.getElem?_toArray, List.getElem?_cons_succ, List.getElem?_cons_zero]; rfl)
        case hd48 => rfl
        case hw48 => rfl
        case hy48 => ((intro w hSw; (try dsimp only at hSw); go_simp) <;> (with_reducible rfl))
        case hq48 => exact fun _ _ _ h => h
        simp only [List.set_cons_succ, List.set_cons_zero]
        refine take_at (i := 6) (d := 164) (oi := ?o49) (v := ?v49) ?hi49 ?hd49 (by kernel_rfl) (by kernel_rfl) (by kernel_rfl) ?hw49 ?hy49 ?hq49 (by assumption) ?r49
        case hi49 => (simp only [List.getElem?_toArray, List.getElem?_cons_succ, List.getElem?_cons_zero]; rfl)
        case hd49 => rfl
        case hw49 => rfl
        case hy49 => ((intro w hSw; (try dsimp only at hSw); have q0 := (Below.cell hSw (p := ⟨g, ph * 3, none⟩) hgl).trans k0; have q1 := (Below.cell hSw (p := ⟨g, ph * 3 + 1, none⟩) hgl).trans k1; have q2 := (Below.cell hSw (p := ⟨g, ph * 3 + 2, none⟩) hgl).trans k2; clear hSw; go_simp) <;> (with_reducible rfl))
        case hq49 => exact fun _ _ _ h => h
        simp only [List.set_cons_succ, List.set_cons_zero]
        refine take_at (i := 7) (d := 165) (oi := ?o50) (v := ?v50) ?hi50 ?hd50 (by kernel_rfl) (by kernel_rfl) (by kernel_rfl) ?hw50 ?hy50 ?hq50 (by assumption) ?r50
        case hi50 => (simp only [List.getElem?_toArray, List.getElem?_cons_succ, List.getElem?_cons_zero]; rfl)
        case hd50 => rfl
        case hw50 => rfl
        case hy50 => ((intro w hSw; (try dsimp only at hSw); go_simp) <;> (with_reducible rfl))
        case hq50 => exact fun _ _ _ h => h
        simp only [List.set_cons_succ, List.set_cons_zero]
        refine take_at (i := 8) (d := 166) (oi := ?o51) (v := ?v51) ?hi51 ?hd51 (by kernel_rfl) (by kernel_rfl) (by kernel_rfl) ?hw51 ?hy51 ?hq51 (by assumption) ?r51
        case hi51 => (simp only [List.getElem?_toArray, List.getElem?_cons_succ, List.getElem?_cons_zero]; rfl)
        case hd51 => rfl
        case hw51 => rfl
        case hy51 => ((intro w hSw; (try dsimp only at hSw); go_simp) <;> (with_reducible rfl))
        case hq51 => exact fun _ _ _ h => h
        simp only [List.set_cons_succ, List.set_cons_zero]
        refine take_at (i := 9) (d := 167) (oi := ?o52) (v := ?v52) ?hi52 ?hd52 (by kernel_rfl) (by kernel_rfl) (by kernel_rfl) ?hw52 ?hy52 ?hq52 (by assumption) ?r52
        case hi52 => (simp only [List.getElem?_toArray, List.getElem?_cons_succ, List.getElem?_cons_zero]; rfl)
        case hd52 => rfl
        case hw52 => rfl
        case hy52 => ((intro w hSw; (try dsimp only at hSw); go_simp) <;> (with_reducible rfl))
        case hq52 => exact fun _ _ _ h => h
        simp only [List.set_cons_succ, List.set_cons_zero]
        refine take_at (i := 10) (d := 168) (oi := ?o53) (v := ?v53) ?hi53 ?hd53 (by kernel_rfl) (by kernel_rfl) (by kernel_rfl) ?hw53 ?hy53 ?hq53 (by assumption) ?r53
        case hi53 => (simp only [List.getElem?_toArray, List.getElem?_cons_succ, List.getElem?_cons_zero]; rfl)
        case hd53 => rfl
        case hw53 => rfl
        case hy53 => ((intro w hSw; (try dsimp only at hSw); have q0 := (Below.cell hSw (p := ⟨g, h * 3, none⟩) hgl).trans m0; have q1 := (Below.cell hSw (p := ⟨g, h * 3 + 1, none⟩) hgl).trans m1; have q2 := (Below.cell hSw (p := ⟨g, h * 3 + 2, none⟩) hgl).trans m2; clear hSw; go_simp) <;> (with_reducible rfl))
        case hq53 => exact fun _ _ _ h => h
        simp only [List.set_cons_succ, List.set_cons_zero]
        refine call_at (i := 11) (d := 169) (oi := ?o54) (f := ?f54) (args := ?a54) ?hi54 ?hd54 (by kernel_rfl) ?hw54 ?he54 ?hc54
        case hi54 => (simp only [List.getElem?_toArray, List.getElem?_cons_succ, List.getElem?_cons_zero]; rfl)
        case hd54 => rfl
        case hw54 => rfl
        case he54 => (go_simp; constructor <;> with_reducible rfl)
        refine (order_any y x _).mono ?_
        rintro e wv ⟨rfl, hb1⟩
        have kb : Below wr.heap.size wr wv := hHeld.trans (hb1.mono hHeld.size)
        refine ⟨_, rfl, kb, fun hHeld => ?_⟩
        simp only [List.set_cons_succ, List.set_cons_zero]
        refine take_at (i := 12) (d := 170) (oi := ?o55) (v := ?v55) ?hi55 ?hd55 (by kernel_rfl) (by kernel_rfl) (by kernel_rfl) ?hw55 ?hy55 ?hq55 (by assumption) ?r55
        case hi55 => (simp only [List.getElem?_toArray, List.getElem?_cons_succ, List.getElem?_cons_zero]; rfl)
        case hd55 => rfl
        case hw55 => rfl
        case hy55 => ((intro w hSw; (try dsimp only at hSw); go_simp) <;> (with_reducible rfl))
        case hq55 => exact fun _ _ _ h => h
        simp only [List.set_cons_succ, List.set_cons_zero]
        refine take_at (i := 13) (d := 171) (oi := ?o56) (v := ?v56) ?hi56 ?hd56 (by kernel_rfl) (by kernel_rfl) (by kernel_rfl) ?hw56 ?hy56 ?hq56 (by assumption) ?r56
        case hi56 => (simp only [List.getElem?_toArray, List.getElem?_cons_succ, List.getElem?_cons_zero]; rfl)
        case hd56 => rfl
        case hw56 => rfl
        case hy56 => ((intro w hSw; (try dsimp only at hSw); go_simp) <;> (with_reducible rfl))
        case hq56 => exact fun _ _ _ h => h
        simp only [List.set_cons_succ, List.set_cons_zero]
        refine wpAnyH_done (by kernel_rfl) ?_ _
        clear k0 k1 k2 m0 m1 m2
        go_wp2_with fail
        go_roundw
        case rel => exact ⟨h + 1, r, by go_num, rfl, by omega, by omega, hr0, .inr (by rw [Nat.add_sub_cancel, ← HI.out.2.2.2.2.2, HI.out.2.2.2.1, HI.out.2.2.2.2.1]; exact hLs), HI.out.2.1, HI.out.2.2.1.trans (hHeld.mono HI.out.2.2.1.size)⟩
        case measure => simp [intOf]; omega
    obtain rfl : s = r := by omega
    have hs1 := HD.out.1.on hBw
    have hBb : Below base w wr := hBw.mono (Nat.le_of_lt (Nat.lt_of_le_of_lt HD.out.1.lt.1 HD.out.1.lt.2))
    obtain ⟨en, hen⟩ : ∃ k, k = N - s := ⟨_, rfl⟩
    have hcut : CutAt d a m b mid s en := by
      have hM := HM.out
      refine ⟨by omega, by omega, by omega, by omega, by omega, ?_, ?_⟩
      · rcases hr with h0 | h0
        · omega
        · right; right; rwa [show p - s = en - 1 by omega] at h0
      · rcases hl with h0 | h0
        · omega
        · by_cases hsa : s = a
          · exact .inl hsa
          · right; right; rwa [show p - (s - 1) = en by omega] at h0
    have hwe : IntKind.i64.wrap ((N : Int) - (s : Int)) = (en : Int) := by have hM := HM.out; rw [IntKind.wrap_i64] <;> omega
    have HC := Lib.hid hcut
    have HS := Lib.hid (⟨hs1, hBb⟩ : _ ∧ _)
    clear hl hr hBw hs1 hBb hcut hs0 hsr hr0 hlt hen hmm1 hmm2
    go_upto_region 39 with fail
    go_cut [185] (fun sv wx => sv = .bool (decide (s < m ∧ m < en)) ∧ wx = wr)
    case first => as_aux_lemma =>
      by_cases h1 : s < m
      · have t1 : (s : Int) < (m : Int) := by omega
        have t1b : decide ((s : Int) < (m : Int)) = true := by simp; omega
        by_cases h2 : m < en
        · have t2 : (m : Int) < (en : Int) := by omega
          have t2b : decide ((m : Int) < (en : Int)) = true := by simp; omega
          have hv := Lib.hid (show decide (s < m ∧ m < en) = true from decide_eq_true ⟨h1, h2⟩)
          go_wp2_with fail
          go_meet
          exact ⟨by rw [hv.out], rfl⟩
        · have t2 : ¬ ((m : Int) < (en : Int)) := by omega
          have t2b : decide ((m : Int) < (en : Int)) = false := by simp; omega
          have hv := Lib.hid (show decide (s < m ∧ m < en) = false from decide_eq_false (fun h => h2 h.2))
          go_wp2_with fail
          go_meet
          exact ⟨by rw [hv.out], rfl⟩
      · have t1 : ¬ ((s : Int) < (m : Int)) := by omega
        have t1b : decide ((s : Int) < (m : Int)) = false := by simp; omega
        have hv := Lib.hid (show decide (s < m ∧ m < en) = false from decide_eq_false (fun h => h1 h.1))
        go_wp2_with fail
        go_meet
        exact ⟨by rw [hv.out], rfl⟩
    obtain ⟨rfl, hwx⟩ := hcut
    replace hwx := hwx.symm
    subst hwx
    go_upto_if 185 with fail
    go_cut [] (fun wx => (∃ d1, Srt wx base g n c d1 ∧ d1.toList = X ++ ((A.take (s - a) ++ B.take (en - m)) ++ ((A.drop (s - a) ++ B.drop (en - m)) ++ Y))) ∧ Below base w wx)
    case first => as_aux_lemma =>
      by_cases hrot : s < m ∧ m < en
      · rw [decide_eq_true hrot]
        obtain ⟨hr1, hr2⟩ := hrot
        obtain ⟨hs, hd, ha, hm, hb, -, -⟩ := HD.out
        have hC1 := HC.out.la
        have hC4 := HC.out.eb
        have hrt := rotate_any base g n c d s m en (.func (.func 28) #[] #[]) wr (X ++ A.take (s - a)) (A.drop (s - a)) (B.take (en - m)) (B.drop (en - m) ++ Y) HS.out.1 hn
          (by rw [hd]; simp only [List.append_assoc]; rw [← List.append_assoc (A.take _), List.take_append_drop, ← List.append_assoc (B.take _), List.take_append_drop])
          (by rw [List.length_append, List.length_take]; omega) (by rw [List.length_drop]; omega) (by rw [List.length_take]; omega) (by rw [List.length_drop]; omega) (by rw [List.length_take]; omega)
        clear hs hd ha hm hb hC1 hC4
        go_wp2_with fail
        refine hrt.mono ?_
        rintro e w2 ⟨rfl, ⟨d2, hs2, hd2⟩, hb2⟩
        have H2 := Lib.hid (show (∃ d1, Srt w2 base g n c d1 ∧ d1.toList = X ++ ((A.take (s - a) ++ B.take (en - m)) ++ ((A.drop (s - a) ++ B.drop (en - m)) ++ Y))) ∧ Below base w w2 from ⟨⟨d2, hs2, by rw [hd2]; simp only [List.append_assoc]⟩, HS.out.2.trans hb2⟩)
        clear hs2 hd2 hb2 hrt
        go_wp2_with fail
        go_meet
        exact H2.out
      · rw [decide_eq_false hrot]
        have hsame : A.length ≤ s - a ∨ en - m = 0 := by have := HD.out.2.2.2.1; omega
        have H2 := Lib.hid (show (∃ d1, Srt wr base g n c d1 ∧ d1.toList = X ++ ((A.take (s - a) ++ B.take (en - m)) ++ ((A.drop (s - a) ++ B.drop (en - m)) ++ Y))) ∧ Below base w wr from ⟨⟨d, HS.out.1, by rw [HD.out.2.1]; exact turned_same hsame⟩, HS.out.2⟩)
        clear hsame hrot
        go_wp2_with fail
        go_meet
        exact H2.out
    case rest => as_aux_lemma =>
      obtain ⟨⟨d1, hs1, hd1⟩, hb1⟩ := hcut
      obtain ⟨w1, hw1⟩ : ∃ x, x = wc := ⟨_, rfl⟩
      subst hw1
      have HS1 := Lib.hid (⟨hs1, hd1, hb1⟩ : _ ∧ _ ∧ _)
      clear hs1 hd1 hb1
      go_upto_region 41 with fail
      go_cut [199] (fun sv wx => sv = .bool (decide (a < s ∧ s < mid)) ∧ wx = w1)
      case first => as_aux_lemma =>
        by_cases h1 : a < s
        · have t1 : (a : Int) < (s : Int) := by omega
          have t1b : decide ((a : Int) < (s : Int)) = true := by simp; omega
          by_cases h2 : s < mid
          · have t2 : (s : Int) < (mid : Int) := by omega
            have t2b : decide ((s : Int) < (mid : Int)) = true := by simp; omega
            have hv := Lib.hid (show decide (a < s ∧ s < mid) = true from decide_eq_true ⟨h1, h2⟩)
            go_wp2_with fail
            go_meet
            exact ⟨by rw [hv.out], rfl⟩
          · have t2 : ¬ ((s : Int) < (mid : Int)) := by omega
            have t2b : decide ((s : Int) < (mid : Int)) = false := by simp; omega
            have hv := Lib.hid (show decide (a < s ∧ s < mid) = false from decide_eq_false (fun h => h2 h.2))
            go_wp2_with fail
            go_meet
            exact ⟨by rw [hv.out], rfl⟩
        · have t1 : ¬ ((a : Int) < (s : Int)) := by omega
          have t1b : decide ((a : Int) < (s : Int)) = false := by simp; omega
          have hv := Lib.hid (show decide (a < s ∧ s < mid) = false from decide_eq_false (fun h => h1 h.1))
          go_wp2_with fail
          go_meet
          exact ⟨by rw [hv.out], rfl⟩
      obtain ⟨rfl, hwx⟩ := hcut
      replace hwx := hwx.symm
      subst hwx
      go_upto_if 199 with fail
      go_cut [] (fun wx => (∃ d2 C1, Srt wx base g n c d2 ∧ d2.toList = X ++ (C1 ++ ((A.drop (s - a) ++ B.drop (en - m)) ++ Y)) ∧ Sym.Ord LEo C1 ∧ C1.Perm (A.take (s - a) ++ B.take (en - m))) ∧ Below base w wx)
      case first => as_aux_lemma =>
        have hC := HC.out
        have hC1 := hC.la
        have hC2 := hC.sm
        have hC3 := hC.me
        have hC4 := hC.eb
        have hC5 := hC.sum
        obtain ⟨-, -, -, hm, hb, hA, hB⟩ := HD.out
        by_cases hrot : a < s ∧ s < mid
        · rw [decide_eq_true hrot]
          have hic := ih d1 a s mid w1 X (A.take (s - a)) (B.take (en - m)) ((A.drop (s - a) ++ B.drop (en - m)) ++ Y) (by have := HM.out; have := HN.out.2.2.2.2.2.2.2.1; omega) HS1.out.1 (by rw [HS1.out.2.1, List.append_assoc]) HD.out.2.2.1 (by rw [List.length_take]; omega) (by rw [List.length_take]; omega) (by rw [List.length_take]; omega) (by rw [List.length_take]; omega) (Ord.take_ hA _) (Ord.take_ hB _)
          clear hC hC1 hC2 hC3 hC4 hC5 hm hb hA hB
          go_wp2_with fail
          refine hic.mono ?_
          rintro e w2 ⟨rfl, ⟨d2, hs2, C1, hd2, ho2, hp2⟩, hb2⟩
          have H2 := Lib.hid (⟨⟨d2, C1, hs2, hd2, ho2, hp2⟩, HS1.out.2.2.trans hb2⟩ : (∃ d2 C1, Srt w2 base g n c d2 ∧ d2.toList = X ++ (C1 ++ ((A.drop (s - a) ++ B.drop (en - m)) ++ Y)) ∧ Sym.Ord LEo C1 ∧ C1.Perm (A.take (s - a) ++ B.take (en - m))) ∧ Below base w w2)
          clear hs2 hd2 hb2 ho2 hp2 hic
          go_wp2_with fail
          go_meet
          exact H2.out
        · rw [decide_eq_false hrot]
          have H2 := Lib.hid (⟨⟨d1, _, HS1.out.1, HS1.out.2.1, ord_none hA hB (by omega), List.Perm.refl _⟩, HS1.out.2.2⟩ : (∃ d2 C1, Srt w1 base g n c d2 ∧ d2.toList = X ++ (C1 ++ ((A.drop (s - a) ++ B.drop (en - m)) ++ Y)) ∧ Sym.Ord LEo C1 ∧ C1.Perm (A.take (s - a) ++ B.take (en - m))) ∧ Below base w w1)
          clear hC hC1 hC2 hC3 hC4 hC5 hm hb hA hB hrot
          go_wp2_with fail
          go_meet
          exact H2.out
      case rest => as_aux_lemma =>
        obtain ⟨⟨d2, C1, hs2, hd2, ho2, hp2⟩, hb2⟩ := hcut
        obtain ⟨w2, hw2⟩ : ∃ x, x = wc := ⟨_, rfl⟩
        subst hw2
        have HS2 := Lib.hid (⟨hs2, hd2, ho2, hp2, hb2⟩ : _ ∧ _ ∧ _ ∧ _ ∧ _)
        clear hs2 hd2 ho2 hp2 hb2
        go_upto_region 43 with fail
        go_cut [213] (fun sv wx => sv = .bool (decide (mid < en ∧ en < b)) ∧ wx = w2)
        case first => as_aux_lemma =>
          by_cases h1 : mid < en
          · have t1 : (mid : Int) < (en : Int) := by omega
            have t1b : decide ((mid : Int) < (en : Int)) = true := by simp; omega
            by_cases h2 : en < b
            · have t2 : (en : Int) < (b : Int) := by omega
              have t2b : decide ((en : Int) < (b : Int)) = true := by simp; omega
              have hv := Lib.hid (show decide (mid < en ∧ en < b) = true from decide_eq_true ⟨h1, h2⟩)
              go_wp2_with fail
              go_meet
              exact ⟨by rw [hv.out], rfl⟩
            · have t2 : ¬ ((en : Int) < (b : Int)) := by omega
              have t2b : decide ((en : Int) < (b : Int)) = false := by simp; omega
              have hv := Lib.hid (show decide (mid < en ∧ en < b) = false from decide_eq_false (fun h => h2 h.2))
              go_wp2_with fail
              go_meet
              exact ⟨by rw [hv.out], rfl⟩
          · have t1 : ¬ ((mid : Int) < (en : Int)) := by omega
            have t1b : decide ((mid : Int) < (en : Int)) = false := by simp; omega
            have hv := Lib.hid (show decide (mid < en ∧ en < b) = false from decide_eq_false (fun h => h1 h.1))
            go_wp2_with fail
            go_meet
            exact ⟨by rw [hv.out], rfl⟩
        obtain ⟨rfl, hwx⟩ := hcut
        replace hwx := hwx.symm
        subst hwx
        have hC := HC.out
        have hC1 := hC.la
        have hC2 := hC.sm
        have hC3 := hC.me
        have hC4 := hC.eb
        have hC5 := hC.sum
        obtain ⟨-, hd, ha, hm, hb, hA, hB⟩ := HD.out
        by_cases hrot : mid < en ∧ en < b
        · rw [decide_eq_true hrot]
          have hlp := HS2.out.2.2.2.1.length_eq
          rw [List.length_append, List.length_take, List.length_take] at hlp
          have hic := ih d2 mid en b w2 (X ++ C1) (A.drop (s - a)) (B.drop (en - m)) Y (by have := HM.out; have := HN.out.2.2.2.2.2.2.2.1; omega) HS2.out.1 (by rw [HS2.out.2.1]; simp only [List.append_assoc]) (by rw [List.length_append]; omega) (by rw [List.length_drop]; omega) (by rw [List.length_drop]; omega) (by rw [List.length_drop]; omega) (by rw [List.length_drop]; omega) (Ord.drop_ hA _) (Ord.drop_ hB _)
          clear hC hC1 hC2 hC3 hC4 hC5 hd ha hm hb hA hB hlp
          go_wp2_with fail
          refine hic.mono ?_
          rintro e w3 ⟨rfl, ⟨d3, hs3, C2, hd3, ho3, hp3⟩, hb3⟩
          have H3 := Lib.hid (⟨hs3, hd3, ho3, hp3, HS2.out.2.2.2.2.trans hb3⟩ : _ ∧ _ ∧ _ ∧ _ ∧ _)
          clear hs3 hd3 hb3 ho3 hp3 hic
          go_wp2_with fail
          go_end0
          obtain ⟨-, hd, ha, hm, hb, hA, hB⟩ := HD.out
          have hr := HC.out.round hd ha hm hb hA hB HS2.out.2.2.2.1 H3.out.2.2.2.1 HS2.out.2.2.1 H3.out.2.2.1
          exact ⟨rfl, ⟨d3, H3.out.1, C1 ++ C2, by rw [H3.out.2.1]; simp only [List.append_assoc], hr.1, hr.2⟩, H3.out.2.2.2.2⟩
        · rw [decide_eq_false hrot]
          have hr := Lib.hid (hC.round hd ha hm hb hA hB HS2.out.2.2.2.1 (List.Perm.refl _) HS2.out.2.2.1 (ord_none2 hA hB (by omega)))
          clear hC hC1 hC2 hC3 hC4 hC5 hd ha hm hb hA hB hrot
          go_wp2_with fail
          go_end0
          exact ⟨rfl, ⟨d2, HS2.out.1, C1 ++ (A.drop (s - a) ++ B.drop (en - m)), by rw [HS2.out.2.1]; simp only [List.append_assoc], hr.out.1, hr.out.2⟩, HS2.out.2.2.2.2⟩

end Go.Proofs.YtbfdjjkphmchgaaDoor
