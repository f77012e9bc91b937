/-
  Package tuple: each and its iterator (a goto; a round may panic), mustFollow: their contracts.
-/
import Derived.Test.YtbhnlmlaebngmaaTupP
import Derived.Test.YtbhnlmlaebngmaaScope
namespace Go.Proofs.Ytbhnlmlaebngmaa
open Go.RowKit Go.Shelf
set_option linter.unusedVariables false
set_option linter.unusedSimpArgs false

attribute [local go_sem] Oper.semAt_some

/-- Entries that may be, behind one of term a. -/
def FollowP (a : Int) (l : List EnP) : Prop := (∀ e ∈ l, RightP e) ∧ RiseP a l
theorem follow_nil (a : Int) : FollowP a [] := ⟨fun e h => (List.not_mem_nil h).elim, RiseP.nil a⟩
theorem follow_snoc {a : Int} {l : List EnP} {e : EnP} : FollowP a (l ++ [e]) ↔ FollowP a l ∧ RightP e ∧ lastTm a l ≤ e.tm := by
  unfold FollowP
  rw [rise_append, rise_cons]
  constructor
  · rintro ⟨h1, h2, h3, _⟩
    exact ⟨⟨fun x hx => h1 x (by simp [hx]), h2⟩, h1 e (by simp), h3⟩
  · rintro ⟨⟨h1, h2⟩, h3, h4⟩
    refine ⟨fun x hx => ?_, h2, h4, RiseP.nil _⟩
    rcases List.mem_append.1 hx with h | h
    · exact h1 x h
    · obtain rfl := List.mem_singleton.1 h
      exact h3
theorem follow_pre {a : Int} {l m : List EnP} (h : FollowP a l) (hp : m <+: l) : FollowP a m := by
  obtain ⟨t, rfl⟩ := hp
  exact ⟨fun x hx => h.1 x (by simp [hx]), (rise_append.1 h.2).1⟩
/-- An entry, as it is handed over. -/
abbrev encE (e : EnP) : Array Value := #[.agg #[.int .i64 e.tm, .int .i64 e.kd, .int .i64 e.vl]]
/-- What holds at the label: so many have come. -/
structure EInv (l : List EnP) (A : Option Addr) (n c lB B0 : Nat) (J : List EnP → World → Prop) (k : Nat) (w : World) : Prop where
  bl : Boxed w lB 24 (.slice A n c)
  row : Es w B0 A n l
  j : J (l.take k) w
/-- What the iterator answers. -/
def EachEnd (l : List EnP) (J : List EnP → World → Prop) (Jp : List PanicEntry → List EnP → World → Prop) (e : Ending) (W' : World) : Prop := (∃ v xs, e = .returned v ∧ xs = l ∧ J xs W') ∨ (∃ ch pre, e = .panicked ch ∧ Jp ch pre W')
def EAll (W : World) (l : List EnP) (A : Option Addr) (n c lB B0 : Nat) (J : List EnP → World → Prop) (l0 : Nat) (a' : Act) (w : World) : Prop :=
  ∃ (k : Nat) (u4 u5 u6 u7 u8 u9 u10 u11 u12 u13 u14 u15 u16 u17 : Value), k ≤ n ∧ EInv l A n c lB B0 J k w ∧
    a' = { tmps := #[.func (.yield l0) #[] #[], .pointer (some ⟨lB, 0, none⟩), undef, .int .i64 k, u4, u5, u6, u7, u8, u9, u10, u11, u12, u13, u14, u15, u16, u17], defers := [] }

set_option maxRecDepth 100000 in
set_option maxHeartbeats 2000000 in
theorem each_in (l0 lB zB B0 : Nat) {A : Option Addr} {n c : Nat} {l : List EnP} (hn : n ≤ 140737488355328) (J : List EnP → World → Prop) (Jp : List PanicEntry → List EnP → World → Prop) (W : World) (hJ : StaysT 39 W.heap.size J)
    (hY : ∀ pre x W1, J pre W1 → pre ++ [x] <+: l → YieldAt Fence.wide 3 Try.prog l0 (encE x) W1 fun e W' =>
      (e = .returned (.bool true) ∧ J (pre ++ [x]) W' ∧ KpE B0 zB W1 W') ∨ (∃ ch, e = .panicked ch ∧ Jp ch (pre ++ [x]) W'))
    (hlB : Boxed W lB 24 (.slice A n c)) (hr : Es W B0 A n l) (hB0 : B0 ≤ lB) (hz : zB < W.heap.size) (hzs : lB ≠ zB) (h0 : J [] W) :
    CallsIn Fence.wide 4 Try.prog 79 #[.func (.yield l0) #[] #[], .pointer (some ⟨lB, 0, none⟩)] W (EachEnd l J Jp) := by
  refine callsIn_of_wp Try.func79 rfl trivial ?_ rfl
  simp only [Try.ntmps79, List.size_toArray, List.length_cons, List.length_nil, Nat.reduceAdd, Nat.reduceSub, Array.replicate_succ, Array.replicate_zero, List.push_toArray, List.append_toArray, List.nil_append, List.cons_append]
  have Hl := Lib.hid hr.len
  refine scope_once 0 (EAll W l A n c lB B0 J l0) (fun a' _ => n - (intOf (a'.tmps.getD 3 undef)).toNat) rfl ?_ ?_
  · intro hrest
    gi_wp2_with fail
    refine wpIn_label ?_
    rename_i hK
    exact hK _ _ (hrest _ _ ⟨0, _, _, _, _, _, _, _, _, _, _, _, _, _, _, Nat.zero_le _, ⟨hlB, hr, h0⟩, rfl⟩)
  · rintro a' wr ⟨k, u4, u5, u6, u7, u8, u9, u10, u11, u12, u13, u14, u15, u16, u17, hk, hi, rfl⟩
    have HI := Lib.hid hi
    have hlc := hi.bl.cell
    have hi2 := hi.row
    clear hi
    by_cases hlt : k < n
    · have hq : ((k : Int) == (n : Int)) = false := by simp; omega
      have hk1 : (0 : Int) ≤ (k : Int) ∧ (k : Int) < (n : Int) := by omega
      have hw1 : IntKind.i64.wrap ((k : Int) + 1) = ((k + 1 : Nat) : Int) := by rw [IntKind.wrap_i64]; omega
      obtain ⟨hk2, hk3⟩ := hk1
      obtain ⟨b, off, en, rfl, hbl, he, c0, c1, c2⟩ := hi2.at_ hlt
      have HX := Lib.hid he
      have HY := Lib.hid hY
      have HG := Lib.hid (⟨hlB, hr, hB0, hz, hzs, h0⟩ : _ ∧ _ ∧ _ ∧ _ ∧ _ ∧ _)
      have HJ := Lib.hid hJ
      clear he hi2 hY hlB hr hB0 hz hzs h0 hbl hJ
      obtain ⟨w2, hw2⟩ : ∃ w2, w2 = wr.alloc (.cells #[.int .i64 en.tm, .int .i64 en.kd, .int .i64 en.vl] 39) := ⟨_, rfl⟩
      have hb2 : Below wr.heap.size wr w2 := by rw [hw2]; exact below_al (below_d0 _) _
      have hlen : l.take k ++ [en] <+: l := by rw [← take_succ HX.out]; exact List.take_prefix _ _
      have hJ2 : J (l.take k) w2 := HJ.out _ wr w2 none HI.out.j (grown_of hb2) (fun r e => by cases e)
      obtain ⟨fn, tmps, assign, body, hy, hR⟩ := HY.out _ en w2 hJ2 hlen
      have H2 := Lib.hid (⟨hb2, hw2⟩ : _ ∧ _)
      dsimp only [encE] at hy
      rw [hw2] at hy
      clear hb2 hJ2 hlen hw2
      gi_wp2_with fail
      rw [← H2.out.2]
      refine hR.mono ?_
      rintro e W3 (⟨rfl, hJ3, hk3⟩ | ⟨ch, rfl, hp⟩)
      · have H3 := Lib.hid (⟨hJ3, hk3⟩ : _ ∧ _)
        clear hJ3 hk3 c0 c1 c2 hlc
        gi_wp2_with fail
        refine wpIn_goto ?_
        refine ⟨rfl, ⟨k + 1, _, _, _, _, _, _, _, _, _, _, _, _, _, _, hlt, ?_, rfl⟩, ?_⟩
        · obtain ⟨hJ3, hk3⟩ := H3.out
          obtain ⟨hb2, _⟩ := H2.out
          obtain ⟨_, _, hB0, hz, hzs, _⟩ := HG.out
          have hbl2 : Boxed w2 lB 24 (.slice (some ⟨b, off, none⟩) n c) := (hb2.block lB HI.out.bl.lt).trans HI.out.bl
          have hbl3 := hk3.cells lB _ _ _ hzs hbl2 (.inr rfl)
          have hsz := HI.out.bl.lt
          refine ⟨hbl3, (HI.out.row.low fun i hi => hb2.block i (by omega)).low hk3.low, by rw [take_succ HX.out]; exact hJ3⟩
        · simp [intOf]
          omega
      · gi_wp2_with fail
        exact ⟨rfl, .inr ⟨ch, _, rfl, hp⟩⟩
    · obtain rfl : k = n := by omega
      have hq : ((k : Int) == (k : Int)) = true := by simp
      have hfin : J l wr := by
        have h1 := HI.out.j
        rw [List.take_of_length_le (by rw [Hl.out]; exact Nat.le_refl _)] at h1
        exact h1
      have Hf := Lib.hid hfin
      clear hfin hJ hY h0
      gi_wp2_with fail
      simp only [Exit.jump]
      refine bodyPost_ret (results_none rfl _ _ _) rfl ?_
      exact .inl ⟨_, _, rfl, rfl, Hf.out⟩
end Go.Proofs.Ytbhnlmlaebngmaa
