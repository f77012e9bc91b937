/-
  moultref08.block: its contract.
-/
import Derived.Test.YtlojkbmoaifkaaaRfb
import Derived.Test.YtlojkbmoaifkaaaTake8
namespace Go.Proofs.Ytlojkbmoaifkaaa
open Go.RowKit
set_option linter.unusedVariables false
set_option linter.unusedSimpArgs false

theorem exec_append {P : Program} {w w' : World} {a : Act} {o : Oper} {s x : Operand} {t : TypeId} {v v' : Value} {A : Option Addr} {m c : Nat} (ho : o.op = .call { callee := .builtin .append, args := #[s, x], argTypes := #[t, t] }) (hs : a.eval s = v) (hx : a.eval x = .slice A m c)
    (hrun : (Builtin.append_ #[t, t] o.type #[v, .slice A m c]).run P w = .ok v' w') : (execOp a.eval o).run P w = .ok (.value v') w' := by
  unfold execOp
  simp only [ho, resolve, invoke, builtin, Sem.run_bind, Sem.run_pure, Result.andThen_ok, List.map_toArray, List.map_cons, List.map_nil, hs, hx, hrun]
theorem nums_at {es : List EnP} {k : Nat} {e : EnP} (h : es[k]? = some e) : (numsL es)[3 * k]?.getD 0 = e.tm ∧ (numsL es)[3 * k + 1]?.getD 0 = e.kd ∧ (numsL es)[3 * k + 2]?.getD 0 = e.vl := by
  induction es generalizing k with
  | nil => simp at h
  | cons f es ih =>
    cases k with
    | zero =>
      obtain rfl : f = e := by simpa using h
      exact ⟨rfl, rfl, rfl⟩
    | succ k =>
      have h1 := ih (k := k) (by simpa using h)
      rw [nums_cons, show 3 * (k + 1) = 3 * k + 1 + 1 + 1 by omega]
      simpa using h1
/-- What the document's block answers. -/
def RBofT (w : World) (p : Int × Int) (b : List Int) (e : Ending) (w' : World) : Prop :=
  ((∃ l A c m x y, BlockAt p b l ∧ e = .returned (.tuple #[.slice A l.length c, .complex .f64 x y, .int .i64 (m : Nat)]) ∧ m = (blockL p l).length ∧ l.length ≤ c ∧ Es w' w'.heap.size A l.length l ∧ Ga.Pt x y (endP p l)) ∨
    (NoBlock p b ∧ e = .returned (.tuple #[.slice none 0 0, .complex .f64 0 0, .int .i64 0]))) ∧ Below w.heap.size w w'
/-- The numbers that stand behind the first byte, as the document takes them. -/
theorem takes_yes {t : List Int} (ht : Byt t) {k : Nat} {L R : List Int} (h : Nu.takesP t (k : Int) = (L, R, 0)) : TakeIs t k L R := by
  obtain ⟨m, h1, h2, h3, h4⟩ := takesGo_inv k t [] L R ht h
  simp only [List.nil_append] at h1
  subst h1
  exact ⟨h2, h3, h4⟩
theorem takes_no {t : List Int} {k : Nat} {L R : List Int} {er : Int} (h : Nu.takesP t (k : Int) = (L, R, er)) (he : er ≠ 0) : ∀ l r, ¬ TakeIs t k l r := by
  rintro l r ⟨h1, h2, h3⟩
  have h4 := Nu.takesP_short h1 r
  rw [← h3, h2, h] at h4
  simp only [Prod.mk.injEq] at h4
  exact he h4.2.2
theorem take_unique {t : List Int} {k : Nat} {l m r s : List Int} (h : TakeIs t k l r) (h' : TakeIs t k m s) : l = m ∧ r = s := by
  obtain ⟨h1, h2, h3⟩ := h
  obtain ⟨h4, h5, h6⟩ := h'
  exact shorts_same h1 h4 (by rw [h2, h5]) (by rw [← h3, h6])
theorem no_take {p : Int × Int} {x : Int} {t : List Int} {nb : Nat} (hx : x = nb) (h : ∀ l r, ¬ TakeIs t (3 * nb) l r) : NoBlock p (x :: t) := fun l hl => by
  obtain ⟨_, h1, r, h2, _⟩ := block_take.1 hl
  have : l.length = nb := by omega
  rw [this] at h2
  exact h _ _ h2
theorem no_short {p : Int × Int} {x : Int} {t L R : List Int} {nb : Nat} (hx : x = nb) (h : TakeIs t (3 * nb) L R) (hR : R.length < 4) : NoBlock p (x :: t) := fun l hl => by
  obtain ⟨_, h1, r, h2, s, hs⟩ := block_take.1 hl
  have h3 : l.length = nb := by omega
  rw [h3] at h2
  obtain ⟨_, rfl⟩ := take_unique h h2
  rw [hs, List.length_append, bytesP_len] at hR
  omega
theorem no_entry {p : Int × Int} {x : Int} {t R : List Int} {es : List EnP} {nb : Nat} (hx : x = nb) (h : TakeIs t (3 * nb) (numsL es) R) (hg : ¬ GoodC es) : NoBlock p (x :: t) := fun l hl => by
  obtain ⟨hl', h1, r, h2, s, hs⟩ := block_take.1 hl
  have h3 : l.length = nb := by omega
  rw [h3] at h2
  obtain ⟨h4, _⟩ := take_unique h h2
  rw [nums_inj h4] at hg
  exact hg hl'
/-- Whether what is put again is what stands there. -/
theorem again_iff {p : Int × Int} {x : Int} {t R : List Int} {es : List EnP} {nb nn : Nat} (hx : x = nb) (hlen : es.length = nb) (h : TakeIs t (3 * nb) (numsL es) R) (hg : GoodC es) (hnn : nn = (blockL p es).length) :
    (blockL p es = (x :: t).take nn → BlockAt p (x :: t) es) ∧ (blockL p es ≠ (x :: t).take nn → NoBlock p (x :: t)) := by
  refine ⟨fun e => ⟨hg, (x :: t).drop nn, by rw [e, List.take_append_drop]⟩, fun hne l hl => ?_⟩
  obtain ⟨hl', h1, r, h2, s, hs⟩ := block_take.1 hl
  have h3 : l.length = nb := by omega
  rw [h3] at h2
  obtain ⟨h4, _⟩ := take_unique h h2
  have h5 := nums_inj h4
  subst h5
  obtain ⟨_, r', e⟩ := hl
  exact hne (by rw [e, hnn, List.take_left])

set_option maxRecDepth 100000 in
set_option maxHeartbeats 8000000 in
theorem rbof_any {x y : Nat} {p : Int × Int} (A : Option Addr) (n c : Nat) (b : List Int) (w : World) (hp : Ga.From x y p) (hr : Rd w w.heap.size .u8 A n b) (hb : Byt b) (hnc : n ≤ c) (hn : n ≤ 1000000) :
    Calls Try.prog 53 #[.complex .f64 x y, .slice A n c] w (RBofT w p b) := by
  obtain ⟨i0, hi, hz0, hz1, hz2⟩ := info_parts Ga.info_u8
  obtain ⟨j0, hj, hy0, hy1, hy2⟩ := info_partsV info_entry
  cases b with
  | nil =>
    have h0 : n = 0 := hr.1.symm
    subst h0
    go_enter Try.func53, Try.ntmps53
    go_wp2_with fail
    go_ret3
    exact ⟨.inr ⟨noBlock_nil p, rfl⟩, Below.refl _ _⟩
  | cons x0 t =>
  have hn1 : t.length + 1 = n := hr.1
  have ht : Byt t := fun z hz => hb z (List.mem_cons_of_mem _ hz)
  have hx0 := hb x0 (List.mem_cons_self ..)
  obtain ⟨ab, ao, rfl, hab, hac⟩ := hr.2 (by omega)
  have c0 : w.cell? ⟨ab, ao, none⟩ = some (.int .u8 x0) := by
    have h := hac 0 (by omega)
    simpa using h
  have tn : decide ((n : Int) < 1) = false := by simp; omega
  have tn' : ¬ ((n : Int) < 1) := by omega
  have Hl := Lib.hid (⟨hr, hb, ht, hp, hn1⟩ : _ ∧ _ ∧ _ ∧ _ ∧ _)
  clear hr hb ht hp hac
  have hn0 : 0 < n := by omega
  by_cases h1 : x0 < 1
  · have HN := Lib.hid (show NoBlock p (x0 :: t) from fun l hl => by
      obtain ⟨hg, h2, _⟩ := block_take.1 hl
      have := hg.1
      omega)
    have t1 : decide (x0 < 1) = true := by simp; omega
    clear hn1
    go_enter Try.func53, Try.ntmps53
    go_wp2_with fail
    go_ret3
    exact ⟨.inr ⟨HN.out, rfl⟩, Below.refl _ _⟩
  have t1 : decide (x0 < 1) = false := by simp; omega
  by_cases h2 : 4 < x0
  · have HN := Lib.hid (show NoBlock p (x0 :: t) from fun l hl => by
      obtain ⟨hg, h2, _⟩ := block_take.1 hl
      have := hg.2.1
      omega)
    have t2 : decide (4 < x0) = true := by simp; omega
    clear hn1
    go_enter Try.func53, Try.ntmps53
    go_wp2_with fail
    go_ret3
    exact ⟨.inr ⟨HN.out, rfl⟩, Below.refl _ _⟩
  have t2 : decide (4 < x0) = false := by simp; omega
  obtain ⟨nb, hnb⟩ : ∃ nb : Nat, x0 = (nb : Int) := ⟨x0.toNat, by omega⟩
  subst hnb
  have hnb4 : 1 ≤ nb ∧ nb ≤ 4 := by omega
  obtain ⟨A1, hrun1, hcut1⟩ := cut_tail8 Try.underlying24 hi hz1 (some ⟨ab, ao, none⟩) n c 1 (by omega) hnc
  obtain ⟨n1, hn1'⟩ : ∃ n1, n1 = n - 1 := ⟨_, rfl⟩
  obtain ⟨c1, hc1'⟩ : ∃ c1, c1 = c - 1 := ⟨_, rfl⟩
  rw [← hn1', ← hc1'] at hrun1
  have r1 := hcut1 Hl.out.1
  rw [← hn1', List.drop_succ_cons, List.drop_zero] at r1
  have hrun1' : ∀ W : World, (Instr.slice 24 (.slice (some ⟨ab, ao, none⟩) n c) (some (.int .i64 1)) none none).run Try.prog W = .ok (.slice A1 n1 c1) W := hrun1
  obtain ⟨k3, hk3⟩ : ∃ k3, k3 = 3 * nb := ⟨_, rfl⟩
  have hcv : IntKind.i64.wrap (nb : Int) = (nb : Int) := by rw [IntKind.wrap_i64] <;> omega
  have hml : IntKind.i64.wrap (3 * (nb : Int)) = (k3 : Int) := by rw [IntKind.wrap_i64] <;> omega
  obtain ⟨L, R, er, hP⟩ : ∃ L R er, Nu.takesP t (k3 : Int) = (L, R, er) := ⟨_, _, _, rfl⟩
  have hn1000 : n1 ≤ 1000000 ∧ k3 ≤ 12 := by omega
  have H1 := Lib.hid (⟨r1, hP, hk3, hn1'⟩ : _ ∧ _ ∧ _ ∧ _)
  clear r1 hP hk3 hn1' hc1' hcut1 hrun1 hn1
  go_enter Try.func53, Try.ntmps53
  go_wp2_with fail
  refine wp_region_held_drew (S := (fun W => Below w.heap.size w W)) (by kernel_rfl) (below_dr (below_d0 _)) (fun hHeld => ?_)
  refine take_at (i := 0) (d := 32) (oi := ?o1) (v := ?v1) ?hi1 ?hd1 (by kernel_rfl) (by kernel_rfl) (by kernel_rfl) ?hw1 ?hy1 ?hq1 (by assumption) ?r1
  case hi1 => (simp only [List.getElem?_toArray, List.getElem?_cons_zero]; rfl)
  case hd1 => rfl
  case hw1 => rfl
  case hy1 => ((intro w hSw; (try dsimp only at hSw); go_simp) <;> (with_reducible rfl))
  case hq1 => exact fun _ _ _ h => h
  simp only [List.set_cons_succ, List.set_cons_zero]
  refine take_at (i := 1) (d := 33) (oi := ?o2) (v := ?v2) ?hi2 ?hd2 (by kernel_rfl) (by kernel_rfl) (by kernel_rfl) ?hw2 ?hy2 ?hq2 (by assumption) ?r2
  case hi2 => (simp only [List.getElem?_toArray, List.getElem?_cons_succ, List.getElem?_cons_zero]; rfl)
  case hd2 => rfl
  case hw2 => rfl
  case hy2 => ((intro w hSw; (try dsimp only at hSw); go_simp) <;> (with_reducible rfl))
  case hq2 => exact fun _ _ _ h => h
  simp only [List.set_cons_succ, List.set_cons_zero]
  refine take_at (i := 2) (d := 34) (oi := ?o3) (v := ?v3) ?hi3 ?hd3 (by kernel_rfl) (by kernel_rfl) (by kernel_rfl) ?hw3 ?hy3 ?hq3 (by assumption) ?r3
  case hi3 => (simp only [List.getElem?_toArray, List.getElem?_cons_succ, List.getElem?_cons_zero]; rfl)
  case hd3 => rfl
  case hw3 => rfl
  case hy3 => ((intro w hSw; (try dsimp only at hSw); go_simp) <;> (with_reducible rfl))
  case hq3 => exact fun _ _ _ h => h
  simp only [List.set_cons_succ, List.set_cons_zero]
  refine take_at (i := 3) (d := 35) (oi := ?o4) (v := ?v4) ?hi4 ?hd4 (by kernel_rfl) (by kernel_rfl) (by kernel_rfl) ?hw4 ?hy4 ?hq4 (by assumption) ?r4
  case hi4 => (simp only [List.getElem?_toArray, List.getElem?_cons_succ, List.getElem?_cons_zero]; rfl)
  case hd4 => rfl
  case hw4 => rfl
  case hy4 => ((intro w hSw; (try dsimp only at hSw); go_simp) <;> (with_reducible rfl))
  case hq4 => exact fun _ _ _ h => h
  simp only [List.set_cons_succ, List.set_cons_zero]
  refine take_at (i := 4) (d := 36) (oi := ?o5) (v := ?v5) ?hi5 ?hd5 (by kernel_rfl) (by kernel_rfl) (by kernel_rfl) ?hw5 ?hy5 ?hq5 (by assumption) ?r5
  case hi5 => (simp only [List.getElem?_toArray, List.getElem?_cons_succ, List.getElem?_cons_zero]; rfl)
  case hd5 => rfl
  case hw5 => rfl
  case hy5 => ((intro w hSw; (try dsimp only at hSw); have k0 := (Below.cell hSw (p := ⟨ab, ao, none⟩) hab).trans c0; clear hSw; go_simp) <;> (with_reducible rfl))
  case hq5 => exact fun _ _ _ h => h
  simp only [List.set_cons_succ, List.set_cons_zero]
  refine take_at (i := 5) (d := 37) (oi := ?o6) (v := ?v6) ?hi6 ?hd6 (by kernel_rfl) (by kernel_rfl) (by kernel_rfl) ?hw6 ?hy6 ?hq6 (by assumption) ?r6
  case hi6 => (simp only [List.getElem?_toArray, List.getElem?_cons_succ, List.getElem?_cons_zero]; rfl)
  case hd6 => rfl
  case hw6 => rfl
  case hy6 => ((intro w hSw; (try dsimp only at hSw); go_simp) <;> (with_reducible rfl))
  case hq6 => exact fun _ _ _ h => h
  simp only [List.set_cons_succ, List.set_cons_zero]
  refine take_at (i := 6) (d := 38) (oi := ?o7) (v := ?v7) ?hi7 ?hd7 (by kernel_rfl) (by kernel_rfl) (by kernel_rfl) ?hw7 ?hy7 ?hq7 (by assumption) ?r7
  case hi7 => (simp only [List.getElem?_toArray, List.getElem?_cons_succ, List.getElem?_cons_zero]; rfl)
  case hd7 => rfl
  case hw7 => rfl
  case hy7 => ((intro w hSw; (try dsimp only at hSw); go_simp) <;> (with_reducible rfl))
  case hq7 => exact fun _ _ _ h => h
  simp only [List.set_cons_succ, List.set_cons_zero]
  refine call_at (i := 7) (d := 39) (oi := ?o8) (f := ?f8) (args := ?a8) ?hi8 ?hd8 (by kernel_rfl) ?hw8 ?he8 ?hc8
  case hi8 => (simp only [List.getElem?_toArray, List.getElem?_cons_succ, List.getElem?_cons_zero]; rfl)
  case hd8 => rfl
  case hw8 => rfl
  case he8 => (go_simp; constructor <;> with_reducible rfl)
  refine (Nu.rtakes_any A1 n1 c1 t (k3 : Int) _ (H1.out.1.on hHeld hHeld.size) Hl.out.2.2.1 (by have := hn1000.1; omega) (by have := hn1000.2; omega)).mono ?_
  rintro r wz ⟨⟨v, v2, rfl, hg1, hg2⟩, hbz⟩
  rw [H1.out.2.1]
  rw [H1.out.2.1] at hg1 hg2
  obtain ⟨AL, cL, rfl, hrowL⟩ := hg1.row rfl rfl
  obtain ⟨AR, cR, rfl, hrowR⟩ := hg2.row rfl rfl
  have kb : Below w.heap.size w wz := hHeld.trans (hbz.mono hHeld.size)
  clear hg1 hg2 hbz
  refine ⟨_, rfl, kb, fun hHeld => ?_⟩
  simp only [List.set_cons_succ, List.set_cons_zero]
  refine take_at (i := 8) (d := 31) (oi := ?o9) (v := ?v9) ?hi9 ?hd9 (by kernel_rfl) (by kernel_rfl) (by kernel_rfl) ?hw9 ?hy9 ?hq9 (by assumption) ?r9
  case hi9 => (simp only [List.getElem?_toArray, List.getElem?_cons_succ, List.getElem?_cons_zero]; rfl)
  case hd9 => rfl
  case hw9 => rfl
  case hy9 => ((intro w hSw; (try dsimp only at hSw); go_simp) <;> (with_reducible rfl))
  case hq9 => exact fun _ _ _ h => h
  simp only [List.set_cons_succ, List.set_cons_zero]
  refine take_at (i := 9) (d := 40) (oi := ?o10) (v := ?v10) ?hi10 ?hd10 (by kernel_rfl) (by kernel_rfl) (by kernel_rfl) ?hw10 ?hy10 ?hq10 (by assumption) ?r10
  case hi10 => (simp only [List.getElem?_toArray, List.getElem?_cons_succ, List.getElem?_cons_zero]; rfl)
  case hd10 => rfl
  case hw10 => rfl
  case hy10 => ((intro w hSw; (try dsimp only at hSw); go_simp) <;> (with_reducible rfl))
  case hq10 => exact fun _ _ _ h => h
  simp only [List.set_cons_succ, List.set_cons_zero]
  refine take_at (i := 10) (d := 41) (oi := ?o11) (v := ?v11) ?hi11 ?hd11 (by kernel_rfl) (by kernel_rfl) (by kernel_rfl) ?hw11 ?hy11 ?hq11 (by assumption) ?r11
  case hi11 => (simp only [List.getElem?_toArray, List.getElem?_cons_succ, List.getElem?_cons_zero]; rfl)
  case hd11 => rfl
  case hw11 => rfl
  case hy11 => ((intro w hSw; (try dsimp only at hSw); go_simp) <;> (with_reducible rfl))
  case hq11 => exact fun _ _ _ h => h
  simp only [List.set_cons_succ, List.set_cons_zero]
  refine take_at (i := 11) (d := 42) (oi := ?o12) (v := ?v12) ?hi12 ?hd12 (by kernel_rfl) (by kernel_rfl) (by kernel_rfl) ?hw12 ?hy12 ?hq12 (by assumption) ?r12
  case hi12 => (simp only [List.getElem?_toArray, List.getElem?_cons_succ, List.getElem?_cons_zero]; rfl)
  case hd12 => rfl
  case hw12 => rfl
  case hy12 => ((intro w hSw; (try dsimp only at hSw); go_simp) <;> (with_reducible rfl))
  case hq12 => exact fun _ _ _ h => h
  simp only [List.set_cons_succ, List.set_cons_zero]
  refine take_at (i := 12) (d := 7) (oi := ?o13) (v := ?v13) ?hi13 ?hd13 (by kernel_rfl) (by kernel_rfl) (by kernel_rfl) ?hw13 ?hy13 ?hq13 (by assumption) ?r13
  case hi13 => (simp only [List.getElem?_toArray, List.getElem?_cons_succ, List.getElem?_cons_zero]; rfl)
  case hd13 => rfl
  case hw13 => rfl
  case hy13 => ((intro w hSw; (try dsimp only at hSw); go_simp) <;> (with_reducible rfl))
  case hq13 => exact fun _ _ _ h => h
  simp only [List.set_cons_succ, List.set_cons_zero]
  refine take_at (i := 13) (d := 8) (oi := ?o14) (v := ?v14) ?hi14 ?hd14 (by kernel_rfl) (by kernel_rfl) (by kernel_rfl) ?hw14 ?hy14 ?hq14 (by assumption) ?r14
  case hi14 => (simp only [List.getElem?_toArray, List.getElem?_cons_succ, List.getElem?_cons_zero]; rfl)
  case hd14 => rfl
  case hw14 => rfl
  case hy14 => ((intro w hSw; (try dsimp only at hSw); go_simp) <;> (with_reducible rfl))
  case hq14 => exact fun _ _ _ h => h
  simp only [List.set_cons_succ, List.set_cons_zero]
  refine take_at (i := 14) (d := 9) (oi := ?o15) (v := ?v15) ?hi15 ?hd15 (by kernel_rfl) (by kernel_rfl) (by kernel_rfl) ?hw15 ?hy15 ?hq15 (by assumption) ?r15
  case hi15 => (simp only [List.getElem?_toArray, List.getElem?_cons_succ, List.getElem?_cons_zero]; rfl)
  case hd15 => rfl
  case hw15 => rfl
  case hy15 => ((intro w hSw; (try dsimp only at hSw); go_simp) <;> (with_reducible rfl))
  case hq15 => exact fun _ _ _ h => h
  simp only [List.set_cons_succ, List.set_cons_zero]
  refine wpAnyH_done (by kernel_rfl) ?_ _
  dsimp only at hrowL hrowR ⊢
  obtain ⟨ll, hll⟩ : ∃ ll, L.length = ll := ⟨_, rfl⟩
  obtain ⟨lr, hlr⟩ : ∃ lr, R.length = lr := ⟨_, rfl⟩
  rw [hll] at hrowL ⊢
  rw [hlr] at hrowR ⊢
  have c0z : wz.cell? ⟨ab, ao, none⟩ = some (.int .u8 (nb : Int)) := (Below.cell hHeld (p := ⟨ab, ao, none⟩) hab).trans c0
  have hPr := H1.out.2.1
  rw [H1.out.2.2.1] at hPr
  have H2 := Lib.hid (⟨hrowL.2, hrowR.2, hll, hlr, hPr, hHeld⟩ : _ ∧ _ ∧ _ ∧ _ ∧ _ ∧ _)
  clear hrowL hrowR hll hlr hPr hHeld kb c0
  by_cases her : er = 0
  case neg =>
    have her1 : (er == 0) = false := by simp; omega
    have HN := Lib.hid (no_take (p := p) (x := (nb : Int)) (t := t) rfl (takes_no H2.out.2.2.2.2.1 her))
    go_wp2_with fail
    go_ret3
    exact ⟨.inr ⟨HN.out, rfl⟩, H2.out.2.2.2.2.2⟩
  subst her
  have hT := takes_yes Hl.out.2.2.1 H2.out.2.2.2.2.1
  by_cases hR4 : lr < 4
  · have v1 : decide ((lr : Int) < 4) = true := by simp; omega
    have v1' : (lr : Int) < 4 := by omega
    have HN := Lib.hid (no_short (p := p) (x := (nb : Int)) rfl hT (by rw [H2.out.2.2.2.1]; exact hR4))
    clear hT
    go_wp2_with fail
    go_ret3
    exact ⟨.inr ⟨HN.out, rfl⟩, H2.out.2.2.2.2.2⟩
  have v1 : decide ((lr : Int) < 4) = false := by simp; omega
  have v1' : ¬ ((lr : Int) < 4) := by omega
  obtain ⟨es, hes, hesl⟩ := nums_of nb L hT.2.1
  rw [← hes] at hT
  have hll3 : ll = 3 * nb := by rw [← H2.out.2.2.1, ← hes, nums_length, hesl]
  obtain ⟨bl, ol, rfl, hbl, hcl⟩ := H2.out.1.2 (by omega)
  have H3 := Lib.hid (⟨hT, hes, hesl, hcl⟩ : _ ∧ _ ∧ _ ∧ _)
  have Hll := Lib.hid hll3
  clear hT hes hesl hcl hll3
  go_wp2_with fail
  go_loopw [10, 11] (fun v i wr => ∃ k : Nat, k ≤ nb ∧ i = .int .i64 k ∧ wr.ownsRow wz.heap.size 45 3 v k ((es.take k).flatMap EnP.cs) ∧ Below wz.heap.size wz wr) (fun _ i _ => nb - (intOf i).toNat)
  case atStart => exact ⟨0, Nat.zero_le _, rfl, World.ownsRow_nil _ _ _ _, Below.refl _ _⟩
  obtain ⟨k, hk, rfl, hown, hB⟩ := hrel
  obtain ⟨A4, c4, rfl, hc4⟩ := own_slice hown
  have c0r : wr.cell? ⟨ab, ao, none⟩ = some (.int .u8 (nb : Int)) := (Below.cell hB (p := ⟨ab, ao, none⟩) (Nat.lt_of_lt_of_le hab H2.out.2.2.2.2.2.size)).trans c0z
  by_cases hlt : k < nb
  · obtain ⟨e, he⟩ : ∃ e, es[k]? = some e := ⟨_, List.getElem?_eq_getElem (by rw [H3.out.2.2.1]; exact hlt)⟩
    obtain ⟨e1, e2, e3⟩ := nums_at he
    obtain ⟨i0', hi0⟩ : ∃ i, i = 3 * k := ⟨_, rfl⟩
    obtain ⟨i1', hi1⟩ : ∃ i, i = 3 * k + 1 := ⟨_, rfl⟩
    obtain ⟨i2', hi2⟩ : ∃ i, i = 3 * k + 2 := ⟨_, rfl⟩
    have hb0 : i0' < ll := by have := Hll.out; omega
    have hb1 : i1' < ll := by have := Hll.out; omega
    have hb2 : i2' < ll := by have := Hll.out; omega
    have m0 : wz.cell? ⟨bl, ol + i0', none⟩ = some (.int .i64 e.tm) := by rw [H3.out.2.2.2 _ hb0, ← H3.out.2.1, hi0, e1]
    have m1 : wz.cell? ⟨bl, ol + i1', none⟩ = some (.int .i64 e.kd) := by rw [H3.out.2.2.2 _ hb1, ← H3.out.2.1, hi1, e2]
    have m2 : wz.cell? ⟨bl, ol + i2', none⟩ = some (.int .i64 e.vl) := by rw [H3.out.2.2.2 _ hb2, ← H3.out.2.1, hi2, e3]
    have hw0 : IntKind.i64.wrap (3 * (k : Int)) = (i0' : Int) := by rw [IntKind.wrap_i64] <;> omega
    have hw1 : IntKind.i64.wrap ((i0' : Int) + 1) = (i1' : Int) := by rw [IntKind.wrap_i64] <;> omega
    have hw2 : IntKind.i64.wrap ((i0' : Int) + 2) = (i2' : Int) := by rw [IntKind.wrap_i64] <;> omega
    have HB := Lib.hid (⟨hown, hB, take_succ he⟩ : _ ∧ _ ∧ _)
    clear hown e1 e2 e3 hi0 hi1 hi2 he
    go_wp2_with fail
    refine wp_region_held_drew (S := (fun W => Below wz.heap.size wz W)) (by kernel_rfl) hB.drew (fun hHeld => ?_)
    refine take_at (i := 0) (d := 58) (oi := ?o16) (v := ?v16) ?hi16 ?hd16 (by kernel_rfl) (by kernel_rfl) (by kernel_rfl) ?hw16 ?hy16 ?hq16 (by assumption) ?r16
    case hi16 => (simp only [List.getElem?_toArray, List.getElem?_cons_zero]; rfl)
    case hd16 => rfl
    case hw16 => rfl
    case hy16 => ((intro w hSw; (try dsimp only at hSw); go_simp) <;> (with_reducible rfl))
    case hq16 => exact fun _ _ _ h => h
    simp only [List.set_cons_succ, List.set_cons_zero]
    refine take_at (i := 1) (d := 59) (oi := ?o17) (v := ?v17) ?hi17 ?hd17 (by kernel_rfl) (by kernel_rfl) (by kernel_rfl) ?hw17 ?hy17 ?hq17 (by assumption) ?r17
    case hi17 => (simp only [List.getElem?_toArray, List.getElem?_cons_succ, List.getElem?_cons_zero]; rfl)
    case hd17 => rfl
    case hw17 => rfl
    case hy17 => ((intro w hSw; (try dsimp only at hSw); go_simp) <;> (with_reducible rfl))
    case hq17 => exact fun _ _ _ h => h
    simp only [List.set_cons_succ, List.set_cons_zero]
    refine take_at (i := 2) (d := 60) (oi := ?o18) (v := ?v18) ?hi18 ?hd18 (by kernel_rfl) (by kernel_rfl) (by kernel_rfl) ?hw18 ?hy18 ?hq18 (by assumption) ?r18
    case hi18 => (simp only [List.getElem?_toArray, List.getElem?_cons_succ, List.getElem?_cons_zero]; rfl)
    case hd18 => rfl
    case hw18 => rfl
    case hy18 => ((intro w hSw; (try dsimp only at hSw); go_simp) <;> (with_reducible rfl))
    case hq18 => exact fun _ _ _ h => h
    simp only [List.set_cons_succ, List.set_cons_zero]
    refine take_at (i := 3) (d := 61) (oi := ?o19) (v := ?v19) ?hi19 ?hd19 (by kernel_rfl) (by kernel_rfl) (by kernel_rfl) ?hw19 ?hy19 ?hq19 (by assumption) ?r19
    case hi19 => (simp only [List.getElem?_toArray, List.getElem?_cons_succ, List.getElem?_cons_zero]; rfl)
    case hd19 => rfl
    case hw19 => rfl
    case hy19 => ((intro w hSw; (try dsimp only at hSw); go_simp) <;> (with_reducible rfl))
    case hq19 => exact fun _ _ _ h => h
    simp only [List.set_cons_succ, List.set_cons_zero]
    refine take_at (i := 4) (d := 62) (oi := ?o20) (v := ?v20) ?hi20 ?hd20 (by kernel_rfl) (by kernel_rfl) (by kernel_rfl) ?hw20 ?hy20 ?hq20 (by assumption) ?r20
    case hi20 => (simp only [List.getElem?_toArray, List.getElem?_cons_succ, List.getElem?_cons_zero]; rfl)
    case hd20 => rfl
    case hw20 => rfl
    case hy20 => ((intro w hSw; (try dsimp only at hSw); go_simp) <;> (with_reducible rfl))
    case hq20 => exact fun _ _ _ h => h
    simp only [List.set_cons_succ, List.set_cons_zero]
    refine take_at (i := 5) (d := 63) (oi := ?o21) (v := ?v21) ?hi21 ?hd21 (by kernel_rfl) (by kernel_rfl) (by kernel_rfl) ?hw21 ?hy21 ?hq21 (by assumption) ?r21
    case hi21 => (simp only [List.getElem?_toArray, List.getElem?_cons_succ, List.getElem?_cons_zero]; rfl)
    case hd21 => rfl
    case hw21 => rfl
    case hy21 => ((intro w hSw; (try dsimp only at hSw); have k0 := (Below.cell hSw (p := ⟨bl, ol + i0', none⟩) hbl).trans m0; clear hSw; go_simp) <;> (with_reducible rfl))
    case hq21 => exact fun _ _ _ h => h
    simp only [List.set_cons_succ, List.set_cons_zero]
    refine take_at (i := 6) (d := 64) (oi := ?o22) (v := ?v22) ?hi22 ?hd22 (by kernel_rfl) (by kernel_rfl) (by kernel_rfl) ?hw22 ?hy22 ?hq22 (by assumption) ?r22
    case hi22 => (simp only [List.getElem?_toArray, List.getElem?_cons_succ, List.getElem?_cons_zero]; rfl)
    case hd22 => rfl
    case hw22 => rfl
    case hy22 => ((intro w hSw; (try dsimp only at hSw); go_simp) <;> (with_reducible rfl))
    case hq22 => exact fun _ _ _ h => h
    simp only [List.set_cons_succ, List.set_cons_zero]
    refine take_at (i := 7) (d := 65) (oi := ?o23) (v := ?v23) ?hi23 ?hd23 (by kernel_rfl) (by kernel_rfl) (by kernel_rfl) ?hw23 ?hy23 ?hq23 (by assumption) ?r23
    case hi23 => (simp only [List.getElem?_toArray, List.getElem?_cons_succ, List.getElem?_cons_zero]; rfl)
    case hd23 => rfl
    case hw23 => rfl
    case hy23 => ((intro w hSw; (try dsimp only at hSw); go_simp) <;> (with_reducible rfl))
    case hq23 => exact fun _ _ _ h => h
    simp only [List.set_cons_succ, List.set_cons_zero]
    refine take_at (i := 8) (d := 66) (oi := ?o24) (v := ?v24) ?hi24 ?hd24 (by kernel_rfl) (by kernel_rfl) (by kernel_rfl) ?hw24 ?hy24 ?hq24 (by assumption) ?r24
    case hi24 => (simp only [List.getElem?_toArray, List.getElem?_cons_succ, List.getElem?_cons_zero]; rfl)
    case hd24 => rfl
    case hw24 => rfl
    case hy24 => ((intro w hSw; (try dsimp only at hSw); go_simp) <;> (with_reducible rfl))
    case hq24 => exact fun _ _ _ h => h
    simp only [List.set_cons_succ, List.set_cons_zero]
    refine take_at (i := 9) (d := 67) (oi := ?o25) (v := ?v25) ?hi25 ?hd25 (by kernel_rfl) (by kernel_rfl) (by kernel_rfl) ?hw25 ?hy25 ?hq25 (by assumption) ?r25
    case hi25 => (simp only [List.getElem?_toArray, List.getElem?_cons_succ, List.getElem?_cons_zero]; rfl)
    case hd25 => rfl
    case hw25 => rfl
    case hy25 => ((intro w hSw; (try dsimp only at hSw); go_simp) <;> (with_reducible rfl))
    case hq25 => exact fun _ _ _ h => h
    simp only [List.set_cons_succ, List.set_cons_zero]
    refine take_at (i := 10) (d := 68) (oi := ?o26) (v := ?v26) ?hi26 ?hd26 (by kernel_rfl) (by kernel_rfl) (by kernel_rfl) ?hw26 ?hy26 ?hq26 (by assumption) ?r26
    case hi26 => (simp only [List.getElem?_toArray, List.getElem?_cons_succ, List.getElem?_cons_zero]; rfl)
    case hd26 => rfl
    case hw26 => rfl
    case hy26 => ((intro w hSw; (try dsimp only at hSw); go_simp) <;> (with_reducible rfl))
    case hq26 => exact fun _ _ _ h => h
    simp only [List.set_cons_succ, List.set_cons_zero]
    refine take_at (i := 11) (d := 69) (oi := ?o27) (v := ?v27) ?hi27 ?hd27 (by kernel_rfl) (by kernel_rfl) (by kernel_rfl) ?hw27 ?hy27 ?hq27 (by assumption) ?r27
    case hi27 => (simp only [List.getElem?_toArray, List.getElem?_cons_succ, List.getElem?_cons_zero]; rfl)
    case hd27 => rfl
    case hw27 => rfl
    case hy27 => ((intro w hSw; (try dsimp only at hSw); have k0 := (Below.cell hSw (p := ⟨bl, ol + i1', none⟩) hbl).trans m1; clear hSw; go_simp) <;> (with_reducible rfl))
    case hq27 => exact fun _ _ _ h => h
    simp only [List.set_cons_succ, List.set_cons_zero]
    refine take_at (i := 12) (d := 70) (oi := ?o28) (v := ?v28) ?hi28 ?hd28 (by kernel_rfl) (by kernel_rfl) (by kernel_rfl) ?hw28 ?hy28 ?hq28 (by assumption) ?r28
    case hi28 => (simp only [List.getElem?_toArray, List.getElem?_cons_succ, List.getElem?_cons_zero]; rfl)
    case hd28 => rfl
    case hw28 => rfl
    case hy28 => ((intro w hSw; (try dsimp only at hSw); go_simp) <;> (with_reducible rfl))
    case hq28 => exact fun _ _ _ h => h
    simp only [List.set_cons_succ, List.set_cons_zero]
    refine take_at (i := 13) (d := 71) (oi := ?o29) (v := ?v29) ?hi29 ?hd29 (by kernel_rfl) (by kernel_rfl) (by kernel_rfl) ?hw29 ?hy29 ?hq29 (by assumption) ?r29
    case hi29 => (simp only [List.getElem?_toArray, List.getElem?_cons_succ, List.getElem?_cons_zero]; rfl)
    case hd29 => rfl
    case hw29 => rfl
    case hy29 => ((intro w hSw; (try dsimp only at hSw); go_simp) <;> (with_reducible rfl))
    case hq29 => exact fun _ _ _ h => h
    simp only [List.set_cons_succ, List.set_cons_zero]
    refine take_at (i := 14) (d := 72) (oi := ?o30) (v := ?v30) ?hi30 ?hd30 (by kernel_rfl) (by kernel_rfl) (by kernel_rfl) ?hw30 ?hy30 ?hq30 (by assumption) ?r30
    case hi30 => (simp only [List.getElem?_toArray, List.getElem?_cons_succ, List.getElem?_cons_zero]; rfl)
    case hd30 => rfl
    case hw30 => rfl
    case hy30 => ((intro w hSw; (try dsimp only at hSw); go_simp) <;> (with_reducible rfl))
    case hq30 => exact fun _ _ _ h => h
    simp only [List.set_cons_succ, List.set_cons_zero]
    refine take_at (i := 15) (d := 73) (oi := ?o31) (v := ?v31) ?hi31 ?hd31 (by kernel_rfl) (by kernel_rfl) (by kernel_rfl) ?hw31 ?hy31 ?hq31 (by assumption) ?r31
    case hi31 => (simp only [List.getElem?_toArray, List.getElem?_cons_succ, List.getElem?_cons_zero]; rfl)
    case hd31 => rfl
    case hw31 => rfl
    case hy31 => ((intro w hSw; (try dsimp only at hSw); go_simp) <;> (with_reducible rfl))
    case hq31 => exact fun _ _ _ h => h
    simp only [List.set_cons_succ, List.set_cons_zero]
    refine take_at (i := 16) (d := 74) (oi := ?o32) (v := ?v32) ?hi32 ?hd32 (by kernel_rfl) (by kernel_rfl) (by kernel_rfl) ?hw32 ?hy32 ?hq32 (by assumption) ?r32
    case hi32 => (simp only [List.getElem?_toArray, List.getElem?_cons_succ, List.getElem?_cons_zero]; rfl)
    case hd32 => rfl
    case hw32 => rfl
    case hy32 => ((intro w hSw; (try dsimp only at hSw); go_simp) <;> (with_reducible rfl))
    case hq32 => exact fun _ _ _ h => h
    simp only [List.set_cons_succ, List.set_cons_zero]
    refine take_at (i := 17) (d := 75) (oi := ?o33) (v := ?v33) ?hi33 ?hd33 (by kernel_rfl) (by kernel_rfl) (by kernel_rfl) ?hw33 ?hy33 ?hq33 (by assumption) ?r33
    case hi33 => (simp only [List.getElem?_toArray, List.getElem?_cons_succ, List.getElem?_cons_zero]; rfl)
    case hd33 => rfl
    case hw33 => rfl
    case hy33 => ((intro w hSw; (try dsimp only at hSw); have k0 := (Below.cell hSw (p := ⟨bl, ol + i2', none⟩) hbl).trans m2; clear hSw; go_simp) <;> (with_reducible rfl))
    case hq33 => exact fun _ _ _ h => h
    simp only [List.set_cons_succ, List.set_cons_zero]
    refine take_at (i := 18) (d := 76) (oi := ?o34) (v := ?v34) ?hi34 ?hd34 (by kernel_rfl) (by kernel_rfl) (by kernel_rfl) ?hw34 ?hy34 ?hq34 (by assumption) ?r34
    case hi34 => (simp only [List.getElem?_toArray, List.getElem?_cons_succ, List.getElem?_cons_zero]; rfl)
    case hd34 => rfl
    case hw34 => rfl
    case hy34 => ((intro w hSw; (try dsimp only at hSw); go_simp) <;> (with_reducible rfl))
    case hq34 => exact fun _ _ _ h => h
    simp only [List.set_cons_succ, List.set_cons_zero]
    obtain ⟨w9, hw9⟩ : ∃ x, x = wr.drew.alloc (.cells #[.int .i64 e.tm, .int .i64 e.kd, .int .i64 e.vl] 45) := ⟨_, rfl⟩
    have hS9 : Below wz.heap.size wz w9 := by rw [hw9]; exact HB.out.2.1.drew.alloc HB.out.2.1.size _
    have src9 : Source w9 3 (some ⟨wr.heap.size, 0, none⟩) 1 e.cs := by rw [hw9]; exact Source.one (cs := e.cs) (EnP.len e) (EnP.one e) rfl
    have own9 := own_keep HB.out.1 (show Below wr.heap.size wr w9 by rw [hw9]; exact below_al (below_dr (below_d0 wr)) _)
    refine wpAnyH_ready (rs := [19]) (by kernel_rfl) (by simp) ?_
    refine br_val (i := 19) (d := 77) (oi := ?o35) (v := (.slice (some ⟨wr.heap.size, 0, none⟩) 1 1)) (w' := w9) ?hi35 ?hd35 ?hw35 ?he35 hS9 ?hc35
    case hi35 => (simp only [List.getElem?_toArray, List.getElem?_cons_succ, List.getElem?_cons_zero]; rfl)
    case hd35 => rfl
    case hw35 => rfl
    case he35 => (rw [hw9]; clear hw9; go_simp; try rfl)
    intro hHeld
    simp only [List.set_cons_succ, List.set_cons_zero]
    obtain ⟨v10, w10, hrunA, LA⟩ := run_append (P := Try.prog) (c := 1) (ty := 23) Try.underlying23 hj hy0 hy1 hy2 rfl (by decide) own9 src9 (by unfold maxLen; omega) (by omega) hS9.size
    have hS10 : Below wz.heap.size wz w10 := LA.below hS9 hS9.size (fun g hg => (HB.out.1.lt g hg).1)
    refine wpAnyH_ready (rs := [20]) (by kernel_rfl) (by simp) ?_
    refine br_val (i := 20) (d := 78) (oi := ?o36) (v := v10) (w' := w10) ?hi36 ?hd36 ?hw36 ?he36 hS10 ?hc36
    case hi36 => (simp only [List.getElem?_toArray, List.getElem?_cons_succ, List.getElem?_cons_zero]; rfl)
    case hd36 => rfl
    case hw36 => rfl
    case he36 => (exact exec_append rfl rfl rfl hrunA)
    intro hHeld
    simp only [List.set_cons_succ, List.set_cons_zero]
    refine take_at (i := 21) (d := 10) (oi := ?o37) (v := ?v37) ?hi37 ?hd37 (by kernel_rfl) (by kernel_rfl) (by kernel_rfl) ?hw37 ?hy37 ?hq37 (by assumption) ?r37
    case hi37 => (simp only [List.getElem?_toArray, List.getElem?_cons_succ, List.getElem?_cons_zero]; rfl)
    case hd37 => rfl
    case hw37 => rfl
    case hy37 => ((intro w hSw; (try dsimp only at hSw); go_simp) <;> (with_reducible rfl))
    case hq37 => exact fun _ _ _ h => h
    simp only [List.set_cons_succ, List.set_cons_zero]
    refine wpAnyH_done (by kernel_rfl) ?_ _
    have own10 : w10.ownsRow wz.heap.size 45 3 v10 (k + 1) ((es.take (k + 1)).flatMap EnP.cs) := by
      rw [HB.out.2.2, List.flatMap_append]
      have h := LA.1
      simpa using h
    have H10 := Lib.hid (⟨own10, hS10⟩ : _ ∧ _)
    clear own10 LA hrunA own9 src9 hw9 hS9 hS10 hHeld m0 m1 m2 c0r
    go_wp2_with fail
    go_roundw
    case rel => exact ⟨k + 1, by omega, by go_num, H10.out.1, H10.out.2⟩
    case measure => simp [intOf]; omega
  obtain rfl : nb = k := by omega
  have hfull : es.take nb = es := List.take_of_length_le (by rw [H3.out.2.2.1]; exact Nat.le_refl _)
  rw [hfull] at hown
  have hesA := Row.of_own (by decide) EnP.len hown
  have Bw := H2.out.2.2.2.2.2.trans (hB.mono H2.out.2.2.2.2.2.size)
  have rb := Hl.out.1.on Bw Bw.size
  have hd1 : IntKind.i64.wrap ((n : Int) - (lr : Int)) = (n : Int) - (lr : Int) := by
    have h5 := congrArg List.length H3.out.1.2.2
    rw [List.length_append, H2.out.2.2.2.1] at h5
    have h6 := Hl.out.2.2.2.2
    rw [IntKind.wrap_i64] <;> omega
  obtain ⟨nn, hnn, hnn2, hnn3, hnnc⟩ : ∃ nn : Nat, nn = (blockL p es).length ∧ IntKind.i64.wrap ((n : Int) - (lr : Int) + 4) = (nn : Int) ∧ wrap64 ((n : Int) - (lr : Int) + 4) = (nn : Int) ∧ nn ≤ n := by
    have h5 := congrArg List.length H3.out.1.2.2
    rw [List.length_append, H2.out.2.2.2.1] at h5
    have h6 := Hl.out.2.2.2.2
    refine ⟨_, rfl, ?_, ?_, ?_⟩
    · rw [block_length, IntKind.wrap_i64] <;> omega
    · rw [block_length]; unfold wrap64; omega
    · rw [block_length]; omega
  have H6 := Lib.hid hc4
  have H4 := Lib.hid (⟨hesA, Bw, rb, hnn⟩ : _ ∧ _ ∧ _ ∧ _)
  clear hesA Bw rb hnn hown hB hfull hc4 hk hlt
  go_wp2_with fail
  refine (rblock_any A4 nb c4 es wr Hl.out.2.2.2.1 H4.out.1 (by omega)).mono ?_
  rintro e w3 ⟨hbk, bb⟩
  have B3 := H4.out.2.1.trans (bb.mono H4.out.2.1.size)
  have r3b := H4.out.2.2.1.on bb bb.size
  have es3 : Es w3 w3.heap.size A4 nb es := H4.out.1.on bb bb.size
  have hcutB := cut_firstR Try.underlying24 hi (some ⟨ab, ao, none⟩) n c nn (by omega)
  by_cases hg : GoodC es
  case neg =>
    obtain ⟨-, rfl⟩ := hbk.resolve_left (fun h => hg h.1)
    have HN := Lib.hid (⟨no_entry (p := p) (x := (nb : Int)) rfl H3.out.1 hg, B3⟩ : _ ∧ _)
    clear hbk bb B3 r3b es3 hg
    go_wp2_with fail
    refine wp_region_held_drew (S := (fun W => Below w3.heap.size w3 W)) (by kernel_rfl) (below_dr (below_d0 _)) (fun hHeld => ?_)
    refine take_at (i := 0) (d := 92) (oi := ?o38) (v := ?v38) ?hi38 ?hd38 (by kernel_rfl) (by kernel_rfl) (by kernel_rfl) ?hw38 ?hy38 ?hq38 (by assumption) ?r38
    case hi38 => (simp only [List.getElem?_toArray, List.getElem?_cons_zero]; rfl)
    case hd38 => rfl
    case hw38 => rfl
    case hy38 => ((intro w hSw; (try dsimp only at hSw); go_simp) <;> (with_reducible rfl))
    case hq38 => exact fun _ _ _ h => h
    simp only [List.set_cons_succ, List.set_cons_zero]
    refine take_at (i := 1) (d := 93) (oi := ?o39) (v := ?v39) ?hi39 ?hd39 (by kernel_rfl) (by kernel_rfl) (by kernel_rfl) ?hw39 ?hy39 ?hq39 (by assumption) ?r39
    case hi39 => (simp only [List.getElem?_toArray, List.getElem?_cons_succ, List.getElem?_cons_zero]; rfl)
    case hd39 => rfl
    case hw39 => rfl
    case hy39 => ((intro w hSw; (try dsimp only at hSw); go_simp) <;> (with_reducible rfl))
    case hq39 => exact fun _ _ _ h => h
    simp only [List.set_cons_succ, List.set_cons_zero]
    refine take_at (i := 2) (d := 94) (oi := ?o40) (v := ?v40) ?hi40 ?hd40 (by kernel_rfl) (by kernel_rfl) (by kernel_rfl) ?hw40 ?hy40 ?hq40 (by assumption) ?r40
    case hi40 => (simp only [List.getElem?_toArray, List.getElem?_cons_succ, List.getElem?_cons_zero]; rfl)
    case hd40 => rfl
    case hw40 => rfl
    case hy40 => ((intro w hSw; (try dsimp only at hSw); go_simp) <;> (with_reducible rfl))
    case hq40 => exact fun _ _ _ h => h
    simp only [List.set_cons_succ, List.set_cons_zero]
    refine skip_at (i := 3) (d := 95) (oi := ?o41) ?hi41 ?hd41 (by kernel_rfl) (by kernel_rfl) (by kernel_rfl) ?hw41 ?hq41 (by assumption) ?r41
    case hi41 => (simp only [List.getElem?_toArray, List.getElem?_cons_succ, List.getElem?_cons_zero]; rfl)
    case hd41 => rfl
    case hw41 => rfl
    case hq41 => exact fun _ _ _ h => h
    simp only [List.set_cons_succ, List.set_cons_zero]
    refine skip_at (i := 4) (d := 96) (oi := ?o42) ?hi42 ?hd42 (by kernel_rfl) (by kernel_rfl) (by kernel_rfl) ?hw42 ?hq42 (by assumption) ?r42
    case hi42 => (simp only [List.getElem?_toArray, List.getElem?_cons_succ, List.getElem?_cons_zero]; rfl)
    case hd42 => rfl
    case hw42 => rfl
    case hq42 => exact fun _ _ _ h => h
    simp only [List.set_cons_succ, List.set_cons_zero]
    refine skip_at (i := 5) (d := 97) (oi := ?o43) ?hi43 ?hd43 (by kernel_rfl) (by kernel_rfl) (by kernel_rfl) ?hw43 ?hq43 (by assumption) ?r43
    case hi43 => (simp only [List.getElem?_toArray, List.getElem?_cons_succ, List.getElem?_cons_zero]; rfl)
    case hd43 => rfl
    case hw43 => rfl
    case hq43 => exact fun _ _ _ h => h
    simp only [List.set_cons_succ, List.set_cons_zero]
    refine skip_at (i := 6) (d := 98) (oi := ?o44) ?hi44 ?hd44 (by kernel_rfl) (by kernel_rfl) (by kernel_rfl) ?hw44 ?hq44 (by assumption) ?r44
    case hi44 => (simp only [List.getElem?_toArray, List.getElem?_cons_succ, List.getElem?_cons_zero]; rfl)
    case hd44 => rfl
    case hw44 => rfl
    case hq44 => exact fun _ _ _ h => h
    simp only [List.set_cons_succ, List.set_cons_zero]
    refine skip_at (i := 7) (d := 99) (oi := ?o45) ?hi45 ?hd45 (by kernel_rfl) (by kernel_rfl) (by kernel_rfl) ?hw45 ?hq45 (by assumption) ?r45
    case hi45 => (simp only [List.getElem?_toArray, List.getElem?_cons_succ, List.getElem?_cons_zero]; rfl)
    case hd45 => rfl
    case hw45 => rfl
    case hq45 => exact fun _ _ _ h => h
    simp only [List.set_cons_succ, List.set_cons_zero]
    refine skip_at (i := 8) (d := 100) (oi := ?o46) ?hi46 ?hd46 (by kernel_rfl) (by kernel_rfl) (by kernel_rfl) ?hw46 ?hq46 (by assumption) ?r46
    case hi46 => (simp only [List.getElem?_toArray, List.getElem?_cons_succ, List.getElem?_cons_zero]; rfl)
    case hd46 => rfl
    case hw46 => rfl
    case hq46 => exact fun _ _ _ h => h
    simp only [List.set_cons_succ, List.set_cons_zero]
    refine skip_at (i := 9) (d := 101) (oi := ?o47) ?hi47 ?hd47 (by kernel_rfl) (by kernel_rfl) (by kernel_rfl) ?hw47 ?hq47 (by assumption) ?r47
    case hi47 => (simp only [List.getElem?_toArray, List.getElem?_cons_succ, List.getElem?_cons_zero]; rfl)
    case hd47 => rfl
    case hw47 => rfl
    case hq47 => exact fun _ _ _ h => h
    simp only [List.set_cons_succ, List.set_cons_zero]
    refine take_at (i := 10) (d := 102) (oi := ?o48) (v := ?v48) ?hi48 ?hd48 (by kernel_rfl) (by kernel_rfl) (by kernel_rfl) ?hw48 ?hy48 ?hq48 (by assumption) ?r48
    case hi48 => (simp only [List.getElem?_toArray, List.getElem?_cons_succ, List.getElem?_cons_zero]; rfl)
    case hd48 => rfl
    case hw48 => rfl
    case hy48 => ((intro w hSw; (try dsimp only at hSw); go_simp) <;> (with_reducible rfl))
    case hq48 => exact fun _ _ _ h => h
    simp only [List.set_cons_succ, List.set_cons_zero]
    refine wpAnyH_done (by kernel_rfl) ?_ _
    go_wp2_with fail
    go_ret3
    exact ⟨.inr ⟨HN.out.1, rfl⟩, HN.out.2.trans (hHeld.mono HN.out.2.size)⟩
  obtain ⟨-, A5, c5, m5, x5, y5, rfl, hm5, r5, hpe, hmc⟩ := hbk.resolve_right (fun h => h.1 hg)
  obtain ⟨hy1', hy2'⟩ := again_iff (p := p) (x := (nb : Int)) (t := t) rfl H3.out.2.2.1 H3.out.1 hg H4.out.2.2.2
  have hbb : Byt (blockL p es) := by
    intro z hz
    rw [blockL, List.mem_append] at hz
    rcases hz with hz | hz
    · exact body_byt hg z hz
    · exact bytesP_byt (by rw [endP, bodyL, Ga.chainP_cons]; exact Ga.chainP_in (Ga.nextP_in _ _) _) z hz
  obtain ⟨M1, hM1⟩ : ∃ M, M = blockL p es := ⟨_, rfl⟩
  obtain ⟨M2, hM2⟩ : ∃ M, M = ((nb : Int) :: t).take nn := ⟨_, rfl⟩
  have r6 := r3b.first (m := nn) hnnc
  rw [← hM1] at hm5 r5 hy1' hy2' hbb
  rw [← hM2] at r6 hy1' hy2'
  have hM2b : Byt M2 := by rw [hM2]; exact Hl.out.2.1.take nn
  have hmn : m5 = nn := by rw [← hm5, H4.out.2.2.2, hM1]
  have H5 := Lib.hid (⟨B3, es3, hpe, hy1', hy2', r5, r6, hmn, hg⟩ : _ ∧ _ ∧ _ ∧ _ ∧ _ ∧ _ ∧ _ ∧ _ ∧ _)
  have htb := txt_beq hbb hM2b
  clear hbk bb B3 es3 hm5 hpe hy1' hy2' r5 r3b hbb hg hmc r6 hM2b hM1 hM2 hmn
  go_wp2_with fail
  by_cases heq : M1 = M2
  · rw [show eqB M1 M2 = true from decide_eq_true heq] at htb
    have htn : ((txt M1).toList != (txt M2).toList) = false := by rw [bne, htb]; rfl
    have HE := Lib.hid (H5.out.2.2.2.1 heq)
    clear heq
    refine wp_region_held_drew (S := (fun W => Below w3.heap.size w3 W)) (by kernel_rfl) (below_dr (below_d0 _)) (fun hHeld => ?_)
    refine take_at (i := 0) (d := 92) (oi := ?o49) (v := ?v49) ?hi49 ?hd49 (by kernel_rfl) (by kernel_rfl) (by kernel_rfl) ?hw49 ?hy49 ?hq49 (by assumption) ?r49
    case hi49 => (simp only [List.getElem?_toArray, List.getElem?_cons_zero]; rfl)
    case hd49 => rfl
    case hw49 => rfl
    case hy49 => ((intro w hSw; (try dsimp only at hSw); go_simp) <;> (with_reducible rfl))
    case hq49 => exact fun _ _ _ h => h
    simp only [List.set_cons_succ, List.set_cons_zero]
    refine take_at (i := 1) (d := 93) (oi := ?o50) (v := ?v50) ?hi50 ?hd50 (by kernel_rfl) (by kernel_rfl) (by kernel_rfl) ?hw50 ?hy50 ?hq50 (by assumption) ?r50
    case hi50 => (simp only [List.getElem?_toArray, List.getElem?_cons_succ, List.getElem?_cons_zero]; rfl)
    case hd50 => rfl
    case hw50 => rfl
    case hy50 => ((intro w hSw; (try dsimp only at hSw); go_simp) <;> (with_reducible rfl))
    case hq50 => exact fun _ _ _ h => h
    simp only [List.set_cons_succ, List.set_cons_zero]
    refine take_at (i := 2) (d := 94) (oi := ?o51) (v := ?v51) ?hi51 ?hd51 (by kernel_rfl) (by kernel_rfl) (by kernel_rfl) ?hw51 ?hy51 ?hq51 (by assumption) ?r51
    case hi51 => (simp only [List.getElem?_toArray, List.getElem?_cons_succ, List.getElem?_cons_zero]; rfl)
    case hd51 => rfl
    case hw51 => rfl
    case hy51 => ((intro w hSw; (try dsimp only at hSw); go_simp) <;> (with_reducible rfl))
    case hq51 => exact fun _ _ _ h => h
    simp only [List.set_cons_succ, List.set_cons_zero]
    refine take_at (i := 3) (d := 95) (oi := ?o52) (v := ?v52) ?hi52 ?hd52 (by kernel_rfl) (by kernel_rfl) (by kernel_rfl) ?hw52 ?hy52 ?hq52 (by assumption) ?r52
    case hi52 => (simp only [List.getElem?_toArray, List.getElem?_cons_succ, List.getElem?_cons_zero]; rfl)
    case hd52 => rfl
    case hw52 => rfl
    case hy52 => ((intro w hSw; (try dsimp only at hSw); go_simp) <;> (with_reducible rfl))
    case hq52 => exact fun _ _ _ h => h
    simp only [List.set_cons_succ, List.set_cons_zero]
    refine take_at (i := 4) (d := 96) (oi := ?o53) (v := ?v53) ?hi53 ?hd53 (by kernel_rfl) (by kernel_rfl) (by kernel_rfl) ?hw53 ?hy53 ?hq53 (by assumption) ?r53
    case hi53 => (simp only [List.getElem?_toArray, List.getElem?_cons_succ, List.getElem?_cons_zero]; rfl)
    case hd53 => rfl
    case hw53 => rfl
    case hy53 => ((intro w hSw; (try dsimp only at hSw); have q1 := run_txt (P := Try.prog) (c := c5) 24 9 5 Try.underlying24 Try.underlying5 Try.underlying9 (H5.out.2.2.2.2.2.1.on hSw hSw.size); clear hSw; go_simp) <;> (with_reducible rfl))
    case hq53 => exact fun _ _ _ h => h
    simp only [List.set_cons_succ, List.set_cons_zero]
    refine take_at (i := 5) (d := 97) (oi := ?o54) (v := ?v54) ?hi54 ?hd54 (by kernel_rfl) (by kernel_rfl) (by kernel_rfl) ?hw54 ?hy54 ?hq54 (by assumption) ?r54
    case hi54 => (simp only [List.getElem?_toArray, List.getElem?_cons_succ, List.getElem?_cons_zero]; rfl)
    case hd54 => rfl
    case hw54 => rfl
    case hy54 => ((intro w hSw; (try dsimp only at hSw); go_simp) <;> (with_reducible rfl))
    case hq54 => exact fun _ _ _ h => h
    simp only [List.set_cons_succ, List.set_cons_zero]
    refine take_at (i := 6) (d := 98) (oi := ?o55) (v := ?v55) ?hi55 ?hd55 (by kernel_rfl) (by kernel_rfl) (by kernel_rfl) ?hw55 ?hy55 ?hq55 (by assumption) ?r55
    case hi55 => (simp only [List.getElem?_toArray, List.getElem?_cons_succ, List.getElem?_cons_zero]; rfl)
    case hd55 => rfl
    case hw55 => rfl
    case hy55 => ((intro w hSw; (try dsimp only at hSw); go_simp) <;> (with_reducible rfl))
    case hq55 => exact fun _ _ _ h => h
    simp only [List.set_cons_succ, List.set_cons_zero]
    refine take_at (i := 7) (d := 99) (oi := ?o56) (v := ?v56) ?hi56 ?hd56 (by kernel_rfl) (by kernel_rfl) (by kernel_rfl) ?hw56 ?hy56 ?hq56 (by assumption) ?r56
    case hi56 => (simp only [List.getElem?_toArray, List.getElem?_cons_succ, List.getElem?_cons_zero]; rfl)
    case hd56 => rfl
    case hw56 => rfl
    case hy56 => ((intro w hSw; (try dsimp only at hSw); go_simp) <;> (with_reducible rfl))
    case hq56 => exact fun _ _ _ h => h
    simp only [List.set_cons_succ, List.set_cons_zero]
    refine take_at (i := 8) (d := 100) (oi := ?o57) (v := ?v57) ?hi57 ?hd57 (by kernel_rfl) (by kernel_rfl) (by kernel_rfl) ?hw57 ?hy57 ?hq57 (by assumption) ?r57
    case hi57 => (simp only [List.getElem?_toArray, List.getElem?_cons_succ, List.getElem?_cons_zero]; rfl)
    case hd57 => rfl
    case hw57 => rfl
    case hy57 => ((intro w hSw; (try dsimp only at hSw); have q1 := run_txt (P := Try.prog) (c := c) 24 9 5 Try.underlying24 Try.underlying5 Try.underlying9 (H5.out.2.2.2.2.2.2.1.on hSw hSw.size); clear hSw; go_simp) <;> (with_reducible rfl))
    case hq57 => exact fun _ _ _ h => h
    simp only [List.set_cons_succ, List.set_cons_zero]
    refine take_at (i := 9) (d := 101) (oi := ?o58) (v := ?v58) ?hi58 ?hd58 (by kernel_rfl) (by kernel_rfl) (by kernel_rfl) ?hw58 ?hy58 ?hq58 (by assumption) ?r58
    case hi58 => (simp only [List.getElem?_toArray, List.getElem?_cons_succ, List.getElem?_cons_zero]; rfl)
    case hd58 => rfl
    case hw58 => rfl
    case hy58 => ((intro w hSw; (try dsimp only at hSw); go_simp) <;> (with_reducible rfl))
    case hq58 => exact fun _ _ _ h => h
    simp only [List.set_cons_succ, List.set_cons_zero]
    refine take_at (i := 10) (d := 102) (oi := ?o59) (v := ?v59) ?hi59 ?hd59 (by kernel_rfl) (by kernel_rfl) (by kernel_rfl) ?hw59 ?hy59 ?hq59 (by assumption) ?r59
    case hi59 => (simp only [List.getElem?_toArray, List.getElem?_cons_succ, List.getElem?_cons_zero]; rfl)
    case hd59 => rfl
    case hw59 => rfl
    case hy59 => ((intro w hSw; (try dsimp only at hSw); go_simp) <;> (with_reducible rfl))
    case hq59 => exact fun _ _ _ h => h
    simp only [List.set_cons_succ, List.set_cons_zero]
    refine wpAnyH_done (by kernel_rfl) ?_ _
    go_wp2_with fail
    go_ret3
    refine ⟨.inl ⟨es, A4, c4, nn, x5, y5, HE.out, by rw [H3.out.2.2.1]; rfl, H4.out.2.2.2, by rw [H3.out.2.2.1]; exact H6.out, by rw [H3.out.2.2.1]; exact H5.out.2.1.on hHeld hHeld.size, H5.out.2.2.1⟩, H5.out.1.trans (hHeld.mono H5.out.1.size)⟩
  · rw [show eqB M1 M2 = false from decide_eq_false heq] at htb
    have htn : ((txt M1).toList != (txt M2).toList) = true := by rw [bne, htb]; rfl
    have HE := Lib.hid (H5.out.2.2.2.2.1 heq)
    clear heq
    refine wp_region_held_drew (S := (fun W => Below w3.heap.size w3 W)) (by kernel_rfl) (below_dr (below_d0 _)) (fun hHeld => ?_)
    refine take_at (i := 0) (d := 92) (oi := ?o60) (v := ?v60) ?hi60 ?hd60 (by kernel_rfl) (by kernel_rfl) (by kernel_rfl) ?hw60 ?hy60 ?hq60 (by assumption) ?r60
    case hi60 => (simp only [List.getElem?_toArray, List.getElem?_cons_zero]; rfl)
    case hd60 => rfl
    case hw60 => rfl
    case hy60 => ((intro w hSw; (try dsimp only at hSw); go_simp) <;> (with_reducible rfl))
    case hq60 => exact fun _ _ _ h => h
    simp only [List.set_cons_succ, List.set_cons_zero]
    refine take_at (i := 1) (d := 93) (oi := ?o61) (v := ?v61) ?hi61 ?hd61 (by kernel_rfl) (by kernel_rfl) (by kernel_rfl) ?hw61 ?hy61 ?hq61 (by assumption) ?r61
    case hi61 => (simp only [List.getElem?_toArray, List.getElem?_cons_succ, List.getElem?_cons_zero]; rfl)
    case hd61 => rfl
    case hw61 => rfl
    case hy61 => ((intro w hSw; (try dsimp only at hSw); go_simp) <;> (with_reducible rfl))
    case hq61 => exact fun _ _ _ h => h
    simp only [List.set_cons_succ, List.set_cons_zero]
    refine take_at (i := 2) (d := 94) (oi := ?o62) (v := ?v62) ?hi62 ?hd62 (by kernel_rfl) (by kernel_rfl) (by kernel_rfl) ?hw62 ?hy62 ?hq62 (by assumption) ?r62
    case hi62 => (simp only [List.getElem?_toArray, List.getElem?_cons_succ, List.getElem?_cons_zero]; rfl)
    case hd62 => rfl
    case hw62 => rfl
    case hy62 => ((intro w hSw; (try dsimp only at hSw); go_simp) <;> (with_reducible rfl))
    case hq62 => exact fun _ _ _ h => h
    simp only [List.set_cons_succ, List.set_cons_zero]
    refine take_at (i := 3) (d := 95) (oi := ?o63) (v := ?v63) ?hi63 ?hd63 (by kernel_rfl) (by kernel_rfl) (by kernel_rfl) ?hw63 ?hy63 ?hq63 (by assumption) ?r63
    case hi63 => (simp only [List.getElem?_toArray, List.getElem?_cons_succ, List.getElem?_cons_zero]; rfl)
    case hd63 => rfl
    case hw63 => rfl
    case hy63 => ((intro w hSw; (try dsimp only at hSw); go_simp) <;> (with_reducible rfl))
    case hq63 => exact fun _ _ _ h => h
    simp only [List.set_cons_succ, List.set_cons_zero]
    refine take_at (i := 4) (d := 96) (oi := ?o64) (v := ?v64) ?hi64 ?hd64 (by kernel_rfl) (by kernel_rfl) (by kernel_rfl) ?hw64 ?hy64 ?hq64 (by assumption) ?r64
    case hi64 => (simp only [List.getElem?_toArray, List.getElem?_cons_succ, List.getElem?_cons_zero]; rfl)
    case hd64 => rfl
    case hw64 => rfl
    case hy64 => ((intro w hSw; (try dsimp only at hSw); have q1 := run_txt (P := Try.prog) (c := c5) 24 9 5 Try.underlying24 Try.underlying5 Try.underlying9 (H5.out.2.2.2.2.2.1.on hSw hSw.size); clear hSw; go_simp) <;> (with_reducible rfl))
    case hq64 => exact fun _ _ _ h => h
    simp only [List.set_cons_succ, List.set_cons_zero]
    refine take_at (i := 5) (d := 97) (oi := ?o65) (v := ?v65) ?hi65 ?hd65 (by kernel_rfl) (by kernel_rfl) (by kernel_rfl) ?hw65 ?hy65 ?hq65 (by assumption) ?r65
    case hi65 => (simp only [List.getElem?_toArray, List.getElem?_cons_succ, List.getElem?_cons_zero]; rfl)
    case hd65 => rfl
    case hw65 => rfl
    case hy65 => ((intro w hSw; (try dsimp only at hSw); go_simp) <;> (with_reducible rfl))
    case hq65 => exact fun _ _ _ h => h
    simp only [List.set_cons_succ, List.set_cons_zero]
    refine take_at (i := 6) (d := 98) (oi := ?o66) (v := ?v66) ?hi66 ?hd66 (by kernel_rfl) (by kernel_rfl) (by kernel_rfl) ?hw66 ?hy66 ?hq66 (by assumption) ?r66
    case hi66 => (simp only [List.getElem?_toArray, List.getElem?_cons_succ, List.getElem?_cons_zero]; rfl)
    case hd66 => rfl
    case hw66 => rfl
    case hy66 => ((intro w hSw; (try dsimp only at hSw); go_simp) <;> (with_reducible rfl))
    case hq66 => exact fun _ _ _ h => h
    simp only [List.set_cons_succ, List.set_cons_zero]
    refine take_at (i := 7) (d := 99) (oi := ?o67) (v := ?v67) ?hi67 ?hd67 (by kernel_rfl) (by kernel_rfl) (by kernel_rfl) ?hw67 ?hy67 ?hq67 (by assumption) ?r67
    case hi67 => (simp only [List.getElem?_toArray, List.getElem?_cons_succ, List.getElem?_cons_zero]; rfl)
    case hd67 => rfl
    case hw67 => rfl
    case hy67 => ((intro w hSw; (try dsimp only at hSw); go_simp) <;> (with_reducible rfl))
    case hq67 => exact fun _ _ _ h => h
    simp only [List.set_cons_succ, List.set_cons_zero]
    refine take_at (i := 8) (d := 100) (oi := ?o68) (v := ?v68) ?hi68 ?hd68 (by kernel_rfl) (by kernel_rfl) (by kernel_rfl) ?hw68 ?hy68 ?hq68 (by assumption) ?r68
    case hi68 => (simp only [List.getElem?_toArray, List.getElem?_cons_succ, List.getElem?_cons_zero]; rfl)
    case hd68 => rfl
    case hw68 => rfl
    case hy68 => ((intro w hSw; (try dsimp only at hSw); have q1 := run_txt (P := Try.prog) (c := c) 24 9 5 Try.underlying24 Try.underlying5 Try.underlying9 (H5.out.2.2.2.2.2.2.1.on hSw hSw.size); clear hSw; go_simp) <;> (with_reducible rfl))
    case hq68 => exact fun _ _ _ h => h
    simp only [List.set_cons_succ, List.set_cons_zero]
    refine take_at (i := 9) (d := 101) (oi := ?o69) (v := ?v69) ?hi69 ?hd69 (by kernel_rfl) (by kernel_rfl) (by kernel_rfl) ?hw69 ?hy69 ?hq69 (by assumption) ?r69
    case hi69 => (simp only [List.getElem?_toArray, List.getElem?_cons_succ, List.getElem?_cons_zero]; rfl)
    case hd69 => rfl
    case hw69 => rfl
    case hy69 => ((intro w hSw; (try dsimp only at hSw); go_simp) <;> (with_reducible rfl))
    case hq69 => exact fun _ _ _ h => h
    simp only [List.set_cons_succ, List.set_cons_zero]
    refine take_at (i := 10) (d := 102) (oi := ?o70) (v := ?v70) ?hi70 ?hd70 (by kernel_rfl) (by kernel_rfl) (by kernel_rfl) ?hw70 ?hy70 ?hq70 (by assumption) ?r70
    case hi70 => (simp only [List.getElem?_toArray, List.getElem?_cons_succ, List.getElem?_cons_zero]; rfl)
    case hd70 => rfl
    case hw70 => rfl
    case hy70 => ((intro w hSw; (try dsimp only at hSw); go_simp) <;> (with_reducible rfl))
    case hq70 => exact fun _ _ _ h => h
    simp only [List.set_cons_succ, List.set_cons_zero]
    refine wpAnyH_done (by kernel_rfl) ?_ _
    go_wp2_with fail
    go_ret3
    exact ⟨.inr ⟨HE.out, rfl⟩, H5.out.1.trans (hHeld.mono H5.out.1.size)⟩

end Go.Proofs.Ytlojkbmoaifkaaa
