/-
  two.take, two.headOf: their contracts.
-/
import Derived.Test.YtcpdjhkpmaamdaaGreatPut8
namespace Go.Proofs.YtcpdjhkpmaamdaaGreat
open Go.RowKit Go.Shelf
set_option linter.unusedVariables false

/-- b begins with the short bytes of k numbers. -/
def TakeIs (b : List Int) (k : Nat) (l r : List Int) : Prop := Nu.allNum l = true ∧ l.length = k ∧ b = Nu.shortsOf l ++ r
theorem TakeIs.same {b : List Int} {k : Nat} {l r l' r' : List Int} (h : TakeIs b k l r) (h' : TakeIs b k l' r') : l = l' ∧ r = r' := shorts_same h.1 h'.1 (h.2.1.trans h'.2.1.symm) (h.2.2.symm.trans h'.2.2)
theorem takesGo_inv : ∀ (f : Nat) (b acc l r : List Int), Byt b → Nu.takesGo f b acc = (l, r, 0) → ∃ m, l = acc ++ m ∧ TakeIs b f m r := by
  intro f
  induction f with
  | zero =>
    intro b acc l r hb h
    simp only [Nu.takesGo, Prod.mk.injEq, and_true] at h
    exact ⟨[], by simp [h.1], rfl, rfl, by simp [Nu.shortsOf, h.2]⟩
  | succ f ih =>
    intro b acc l r hb h
    rw [Nu.takesGo] at h
    split at h
    · rename_i h0
      obtain ⟨m, h1, h2, h3, h4⟩ := ih _ _ _ _ (hb.drop _) h
      obtain ⟨e1, e2, e3, e4⟩ := Nu.short_takeP hb (n := (Nu.takeP b).1) (m := (Nu.takeP b).2.1) (by rw [← h0])
      refine ⟨(Nu.takeP b).1 :: m, by rw [h1, List.append_assoc]; rfl, ?_, by simp [h3], ?_⟩
      · simp only [Nu.allNum, List.all_cons, Bool.and_eq_true]
        exact ⟨Nu.isNum_iff.2 ⟨e3, e4⟩, h2⟩
      · rw [show Nu.shortsOf ((Nu.takeP b).1 :: m) = Nu.shortOf (Nu.takeP b).1 ++ Nu.shortsOf m from rfl, List.append_assoc, ← h4, e1, List.take_append_drop]
    · rename_i h0
      simp only [Prod.mk.injEq] at h
      exact absurd h.2.2 h0
theorem take_yes {b : List Int} {k : Nat} {l r : List Int} (h : TakeIs b k l r) : Nu.takesP (b.take (5 * k)) (k : Int) = (l, r.take (5 * k - (Nu.shortsOf l).length), 0) := by
  obtain ⟨h1, h2, h3⟩ := h
  have h4 := Nu.shortsOf_length h1
  rw [h3, List.take_append, List.take_of_length_le (by omega), ← h2]
  exact Nu.takesP_short h1 _
theorem take_no {b : List Int} {k : Nat} (hb : Byt b) (h : ∀ l r, ¬ TakeIs b k l r) : ∃ l r e, Nu.takesP (b.take (5 * k)) (k : Int) = (l, r, e) ∧ e ≠ 0 := by
  refine ⟨_, _, _, rfl, fun h0 => ?_⟩
  obtain ⟨m, _, h1, h2, h3⟩ := takesGo_inv k (b.take (5 * k)) [] _ _ (hb.take _) (show Nu.takesGo k (b.take (5 * k)) [] = ((Nu.takesP (b.take (5 * k)) (k : Int)).1, (Nu.takesP (b.take (5 * k)) (k : Int)).2.1, 0) from Prod.ext rfl (Prod.ext rfl h0))
  refine h m ((Nu.takesP (b.take (5 * k)) (k : Int)).2.1 ++ b.drop (5 * k)) ⟨h1, h2, ?_⟩
  rw [← List.append_assoc, ← h3, List.take_append_drop]
theorem take_cases (b : List Int) (k : Nat) : (∃ l r, TakeIs b k l r) ∨ ∀ l r, ¬ TakeIs b k l r := by
  by_cases h : ∃ l r, TakeIs b k l r
  · exact .inl h
  · exact .inr fun l r hh => h ⟨l, r, hh⟩

theorem cut_tail8 {P : Program} {t e : TypeId} {i : TypeInfo} (ht : P.underlying t = some (.slice e)) (hi : P.info? e = some i) (h1 : i.size = 1) (A : Option Addr) (n c k : Nat) (hk : k ≤ n) (hnc : n ≤ c) :
    ∃ A', (∀ W : World, (Instr.slice t (.slice A n c) (some (.int .i64 (k : Int))) none none).run P W = .ok (.slice A' (n - k) (c - k)) W) ∧ ∀ {w : World} {B : Nat} {kd : IntKind} {l : List Int}, Rd w B kd A n l → Rd w B kd A' (n - k) (l.drop k) := by
  have he : P.elem t = e := by simp [Program.elem, ht]
  have hu : P.underlying t = some (.slice (P.elem t)) := by rw [he]; exact ht
  refine ⟨if c = k then A else A.map (·.add k), fun W => ?_, fun h => h.cut hk hnc⟩
  rw [run_slice_l W t A n c hu .i64 (k : Int) (by omega) (by omega), he]
  simp [sizeOf, run_typeInfo, hi, h1, sliced, go_sem]

/-- take's answer. -/
def TakeT (w : World) (b : List Int) (k : Nat) (e : Ending) (w' : World) : Prop :=
  ((∃ l r A c u, TakeIs b k l r ∧ e = .returned (.tuple #[.slice A k c, .int .i64 (u : Nat), .bool true]) ∧ u = (Nu.shortsOf l).length ∧ k ≤ c ∧ Rd w' w'.heap.size .i64 A k l) ∨
    ((∀ l r, ¬ TakeIs b k l r) ∧ e = .returned (.tuple #[.slice none 0 0, .int .i64 0, .bool false]))) ∧ Below w.heap.size w w'

theorem wrap_less {q u v : Nat} (h : u + v = q) (h2 : q ≤ 1000000000000) : IntKind.i64.wrap ((q : Int) - (v : Int)) = (u : Int) := by rw [IntKind.wrap_i64] <;> omega

set_option maxRecDepth 100000 in
set_option maxHeartbeats 1000000 in
theorem take_any (A : Option Addr) (n c k : Nat) (b : List Int) (w : World) (hr : Rd w w.heap.size .u8 A n b) (hb : Byt b) (hnc : n ≤ c) (hn : n ≤ 1000000000) (hk : k ≤ 12) :
    Calls Tryz.prog 164 #[.slice A n c, .int .i64 (k : Int)] w (TakeT w b k) := by
  obtain ⟨i0, hi, hz0, hz1, hz2⟩ := info_parts Ga.info_u8
  obtain ⟨q, hq⟩ : ∃ q, q = min n (5 * k) := ⟨_, rfl⟩
  have e0 : min (n : Int) (5 * (k : Int)) = (q : Int) := by omega
  have hrd : Rd w w.heap.size .u8 A q (b.take (5 * k)) := by
    have h := hr.first (m := q) (by omega)
    have e : b.take q = b.take (5 * k) := by
      rw [hq]
      have hl := hr.1
      apply List.ext_getElem?
      intro j
      simp only [List.getElem?_take]
      split
      · rw [if_pos (by omega)]
      · split
        · exact (List.getElem?_eq_none (by omega)).symm
        · rfl
    rwa [e] at h
  have hqc : q ≤ c := by omega
  have hqn : q ≤ 60 := by omega
  rcases take_cases b k with ⟨l, r, hT⟩ | hT
  · obtain ⟨R, hR⟩ : ∃ R, r.take (5 * k - (Nu.shortsOf l).length) = R := ⟨_, rfl⟩
    obtain ⟨v, hv⟩ : ∃ v, R.length = v := ⟨_, rfl⟩
    have h1 := take_yes hT
    rw [hR] at h1
    have hsum : (Nu.shortsOf l).length + v = q := by
      have h2 := Nu.shortsOf_length hT.1
      have h3 := congrArg List.length hT.2.2
      rw [hr.1, List.length_append] at h3
      rw [← hv, ← hR, List.length_take, hq]
      rw [hT.2.1] at h2
      omega
    obtain ⟨u, hu⟩ : ∃ u, u = (Nu.shortsOf l).length := ⟨_, rfl⟩
    rw [← hu] at hsum
    have hws := wrap_less hsum (by omega)
    have H := Lib.hid (⟨h1, hT, hv, hu, hrd⟩ : _ ∧ _ ∧ _ ∧ _ ∧ _)
    clear h1 hT hv hu hrd hsum hq hR hr
    go_enter Tryz.func164, Tryz.ntmps164
    go_wp2_with fail
    refine (Nu.takes_out A q c _ w H.out.2.2.2.2 (hb.take _) hqc (by omega) H.out.1 H.out.2.1.2.1 H.out.2.2.1).mono ?_
    rintro e w2 ⟨A1, c1, A2, c2, rfl, hr1, hr2, hb2⟩
    go_wp2_with fail
    go_ret3
    exact ⟨.inl ⟨l, r, A1, c1, u, H.out.2.1, rfl, H.out.2.2.2.1, hr1.1, hr1.2⟩, hb2⟩
  · obtain ⟨l, r, e, h1, hne⟩ := take_no hb hT
    have he : (e == 0) = false := by simpa using hne
    obtain ⟨q1, hq1⟩ : ∃ q1, l.length = q1 := ⟨_, rfl⟩
    obtain ⟨q2, hq2⟩ : ∃ q2, r.length = q2 := ⟨_, rfl⟩
    have H := Lib.hid (⟨h1, hT, hrd, hq1, hq2⟩ : _ ∧ _ ∧ _ ∧ _ ∧ _)
    clear h1 hT hrd hr hq hne hq1 hq2
    go_enter Tryz.func164, Tryz.ntmps164
    go_wp2_with fail
    refine (Nu.takes_out A q c _ w H.out.2.2.1 (hb.take _) hqc (by omega) H.out.1 H.out.2.2.2.1 H.out.2.2.2.2).mono ?_
    rintro e2 w2 ⟨A1, c1, A2, c2, rfl, hr1, hr2, hb2⟩
    go_wp2_with fail
    go_ret3
    exact ⟨.inr ⟨H.out.2.1, rfl⟩, hb2⟩

/-- headOf's answer. -/
def HeadT (w : World) (b : List Int) (e : Ending) (w' : World) : Prop :=
  ((∃ f u, HeadAt b f ∧ u = (headLTw f).length ∧ e = .returned (.tuple #[.int .i64 f, .int .i64 (u : Nat), .bool true])) ∨
    ((∀ f, ¬ HeadAt b f) ∧ e = .returned (.tuple #[.int .i64 0, .int .i64 0, .bool false]))) ∧ Below w.heap.size w w'
theorem head_take {x : Int} {b : List Int} {f : Int} : HeadAt (x :: b) f ↔ x = 2 ∧ Num f ∧ ∃ r, TakeIs b 1 [f] r := by
  constructor
  · rintro ⟨hf, r, e⟩
    simp only [headLTw, List.cons_append, List.cons.injEq] at e
    refine ⟨e.1, hf, r, ?_, rfl, by rw [shorts_one]; exact e.2⟩
    rw [num_oneTw]
    have := hf.1
    have := hf.2
    simp
    omega
  · rintro ⟨rfl, hf, r, _, _, e⟩
    exact ⟨hf, r, by rw [e, shorts_one]; rfl⟩
theorem wrap_one {u : Nat} (h : u ≤ 1000000) : IntKind.i64.wrap (1 + (u : Int)) = ((u + 1 : Nat) : Int) := by rw [IntKind.wrap_i64] <;> omega

set_option maxRecDepth 100000 in
set_option maxHeartbeats 1000000 in
theorem headOf_anyTw (A : Option Addr) (n c : Nat) (b : List Int) (w : World) (hr : Rd w w.heap.size .u8 A n b) (hb : Byt b) (hnc : n ≤ c) (hn : n ≤ 1000000000) :
    Calls Tryz.prog 156 #[.slice A n c] w (HeadT w b) := by
  obtain ⟨i0, hi, hz0, hz1, hz2⟩ := info_parts Ga.info_u8
  cases b with
  | nil =>
    obtain rfl : n = 0 := by have := hr.1; simpa using this.symm
    go_enter Tryz.func156, Tryz.ntmps156
    go_wp2_with fail
    go_ret3
    exact ⟨.inr ⟨fun f ⟨_, r, e⟩ => by simp [headLTw] at e, rfl⟩, Below.refl _ _⟩
  | cons x b =>
    have hl : b.length + 1 = n := by have := hr.1; simpa using this
    obtain ⟨bl, off, rfl, hbl, hcell⟩ := hr.at_ (by omega)
    have c0 := hcell 0 (by omega)
    simp only [List.getElem?_cons_zero, Option.getD_some, Nat.add_zero] at c0
    have hn0 : ¬ n = 0 := by omega
    by_cases hx : x = 2
    · subst hx
      obtain ⟨A', hrun, hcut⟩ := cut_tail8 Tryz.underlying23 hi hz1 (some ⟨bl, off, none⟩) n c 1 (by omega) hnc
      have hrun1 : ∀ W : World, (Instr.slice 23 (.slice (some ⟨bl, off, none⟩) n c) (some (.int .i64 1)) none none).run Tryz.prog W = .ok (.slice A' (n - 1) (c - 1)) W := hrun
      have hrd := hcut hr
      simp only [List.drop_succ_cons, List.drop_zero] at hrd
      obtain ⟨m, hm⟩ : ∃ m, m = n - 1 := ⟨_, rfl⟩
      obtain ⟨c', hc'⟩ : ∃ c', c' = c - 1 := ⟨_, rfl⟩
      rw [← hm, ← hc'] at hrun1
      rw [← hm] at hrd
      have hb' : Byt b := fun y hy => hb y (List.mem_cons_of_mem _ hy)
      have H := Lib.hid (⟨hrd, hb', (show m ≤ c' by omega), (show m ≤ 1000000000 by omega)⟩ : _ ∧ _ ∧ _ ∧ _)
      clear hrun hcut hrd hm hc' hb' hcell hbl hr
      go_enter Tryz.func156, Tryz.ntmps156
      go_wp2_with fail
      refine (take_any A' m c' 1 b w H.out.1 H.out.2.1 H.out.2.2.1 H.out.2.2.2 (by omega)).mono ?_
      rintro e w2 ⟨⟨l, r, A1, c1, u, hT, rfl, hu, hc1, hr1⟩ | ⟨hT, rfl⟩, hb2⟩
      · obtain ⟨f, rfl⟩ : ∃ f, l = [f] := by
          match l, hT.2.1 with
          | [f], _ => exact ⟨f, rfl⟩
        obtain ⟨b1, o1, rfl, hb1, hcell1⟩ := hr1.at_ (by omega)
        have d0 := hcell1 0 (by omega)
        simp only [List.getElem?_cons_zero, Option.getD_some, Nat.add_zero] at d0
        have hf := hT.1
        rw [num_oneTw] at hf
        simp only [decide_eq_true_eq] at hf
        have hu5 : u ≤ 5 := by rw [hu]; have := Nu.shortsOf_length hT.1; simpa using this
        have hw1 := wrap_one (u := u) (by omega)
        by_cases h0 : f = 0
        · subst h0
          have H2 := Lib.hid (⟨hT, hb2⟩ : _ ∧ _)
          clear hT hb2 hu hr1 hcell1 hb1 hf hw1
          go_wp2_with fail
          go_ret3
          refine ⟨.inr ⟨fun f hf => ?_, rfl⟩, H2.out.2⟩
          obtain ⟨_, hN, r', hT'⟩ := head_take.1 hf
          have h := (H2.out.1.same hT').1
          simp only [List.cons.injEq, and_true] at h
          have := hN.1
          omega
        · have H2 := Lib.hid (⟨hT, hb2, hu, hf⟩ : _ ∧ _ ∧ _ ∧ _)
          clear hT hb2 hu hr1 hcell1 hb1 hf
          go_wp2_with fail
          go_ret3
          obtain ⟨hT, hb2, hu, hf⟩ := H2.out
          refine ⟨.inl ⟨f, u + 1, head_take.2 ⟨rfl, ⟨by omega, hf.2⟩, r, hT⟩, ?_, rfl⟩, hb2⟩
          rw [hu, shorts_one, headLTw, List.length_cons]
      · have H2 := Lib.hid (⟨hT, hb2⟩ : _ ∧ _)
        clear hT hb2
        go_wp2_with fail
        go_ret3
        refine ⟨.inr ⟨fun f hf => ?_, rfl⟩, H2.out.2⟩
        obtain ⟨_, hN, r', hT'⟩ := head_take.1 hf
        exact H2.out.1 _ _ hT'
    · have hx2 : (x == 2) = false := by simpa using hx
      have hx3 : (x != 2) = true := by simpa using hx
      have H := Lib.hid hx
      clear hcell hbl hr
      go_enter Tryz.func156, Tryz.ntmps156
      go_wp2_with fail
      go_ret3
      exact ⟨.inr ⟨fun f hf => H.out (head_take.1 hf).1, rfl⟩, Below.refl _ _⟩

end Go.Proofs.YtcpdjhkpmaamdaaGreat
