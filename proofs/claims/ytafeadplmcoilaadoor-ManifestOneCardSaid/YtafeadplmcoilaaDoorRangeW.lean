/-
  A range over a function, as range_T; what is handed over is told to the rounds, with what lies in memory then.
-/
import Derived.Test.YtafeadplmcoilaaDoorRangeT
namespace Go.Proofs.YtafeadplmcoilaaDoor
open Go Go.RowKit

variable {F : Fence} {n : Nat} {P : Program}

/-- The iterator's contract; all that it hands over is told. -/
def SeqW (t : TypeId) {α : Type} (F : Fence) (n : Nat) (P : Program) (g : Nat) (lb : Array Value) (encs : α → Array Value) (Kp : World → World → Prop) (S : List α → Prop) (Ok : List α → α → World → Prop) (w : World) : Prop :=
  ∀ (l : Nat) (J Jx : List α → World → Prop) (W : World), Below w.heap.size w W → StaysT t W.heap.size J → StaysT t W.heap.size Jx →
    (∀ pre x W1, J pre W1 → Ok pre x W1 → YieldAt F (n - 1) P l (encs x) W1 fun e W' => (e = .returned (.bool true) ∧ J (pre ++ [x]) W' ∧ Kp W1 W') ∨ (e = .returned (.bool false) ∧ Jx (pre ++ [x]) W')) →
    J [] W → CallsIn F n P g (#[.func (.yield l) #[] #[]] ++ lb) W fun e W' => (∃ v, e = .returned v) ∧ ((∃ xs, S xs ∧ J xs W') ∨ (∃ pre, Jx pre W'))

theorem range_W {α : Type} {g : Operand} {ps : Array Tmp} {assign body : Code} {Q : Exit → Act → World → Prop} {a : Act} {w : World} (t : TypeId)
    (hro : F.round = none) (h1 : 1 ≤ n) {gf : Nat} {lb : Array Value} (hg : a.eval g = .func (.func gf) #[] lb) (hFg : F.fn gf) (eg : ∀ args w, (callFunc gf args).run P w = .ok (.enter gf args) w)
    {encs : α → Array Value} {Kp : World → World → Prop} {S : List α → Prop} {Ok : List α → α → World → Prop} {w0 : World} (hseq : SeqW t F (n - 1) P gf lb encs Kp S Ok w0)
    (hKt : ∀ {A B C : World}, Kp A B → Kp B C → Kp A C) (hKb : ∀ (W : World) (l : Nat) (o o' : Obj), w.heap.size ≤ l → W.heap[l]? = some o → o.isCells = false → o.isWalk = false → Kp W (W.putObj l o'))
    (hb0 : Below w0.heap.size w0 w) (hps : ∀ x, (encs x).size = ps.size)
    (I : List α → World → Prop) (Ix : Code → List α → World → Prop) (hI : OwnT t w.heap.size I) (hIx : ∀ c, OwnT t w.heap.size (Ix c)) (h0 : I [] w) (Ax : α → Act → World → Prop)
    (hAx : ∀ x a' (W : World) l o o', Ax x a' W → W.heap[l]? = some o → o.isCells = false → Ax x a' (W.putObj l o'))
    (hassign : ∀ (l : Nat) (pre : List α) (x : α) (W : World), I pre W → Ok pre x W →
      assign.wpIn (F.inRound l) (n - 1 - 1) P (Exit.then (fun a' W' => KeepsFrom w.heap.size W W' ∧ Kp W W' ∧ I pre W' ∧ Ax x a' W') (fun _ _ _ => False)) { tmps := (ps.zip (encs x)).foldl (fun t (p, v) => t.setIfInBounds p v) a.tmps, defers := [] } W)
    (hbody : ∀ (l : Nat) (pre : List α) (x : α) (a' : Act) (W : World), I pre W → Ax x a' W → (∃ W0, Ok pre x W0) → body.wpIn (F.inRound l) (n - 1 - 1) P (ownPostG w.heap.size Kp I Ix (pre ++ [x]) W) a' W)
    (hdone : ∀ (D : Nat) (xs : List α) (W : World), w.heap.size ≤ D → S xs → I xs W → W.heap[D]? = some (.deferred (some [])) → Q .normal { a with defers := { target := .collected D, args := #[] } :: a.defers } W)
    (hstop : ∀ (D : Nat) (c : Code) (pre : List α) (W : World), w.heap.size ≤ D → Ix c pre W → W.heap[D]? = some (.deferred (some [])) → c.wpIn F n P Q { a with defers := { target := .collected D, args := #[] } :: a.defers } W) :
    (Code.rangeFunc g ps assign body).wpIn F n P Q a w := by
  refine wpIn_rangeFunc fun fn hfn => ?_
  rw [hro]
  generalize hD : w.heap.size = D
  rw [hD] at hKb hI hIx hassign hbody hdone hstop
  let R := recT fn a.tmps ps assign body D
  obtain ⟨W1, hW1⟩ : ∃ W1, (w.alloc (.deferred (some []))).alloc (R .ready none) = W1 := ⟨_, rfl⟩
  have e0 : W1.heap[D + 1]? = some (R .ready none) := by
    have h := World.alloc_heap_new (w.alloc (.deferred (some []))) (R .ready none)
    rw [World.size_alloc, hD, hW1] at h
    exact h
  have e1 : W1.heap[D]? = some (.deferred (some [])) := by
    have h := Below.heap_alloc (w.alloc (.deferred (some []))) (R .ready none) D (by simp; omega)
    rw [hW1] at h
    exact h.trans (hD ▸ World.alloc_heap_new w _)
  have e2 : W1.heap.size = D + 2 := by rw [← hW1]; simp; omega
  have e3 : I [] W1 := by rw [← hW1]; exact hI.new _ (hI.new _ h0)
  have e4 : Below w0.heap.size w0 W1 := by rw [← hW1]; exact (hb0.alloc hb0.size _).alloc (by have := hb0.size; simp; omega) _
  refine ⟨D + 1, [{ target := .collected D, args := #[] }], W1, { target := .fn (.func gf) lb, args := #[.func (.yield (D + 1)) #[] #[]] }, W1, gf, #[.func (.yield (D + 1)) #[] #[]] ++ lb, W1, ?_, ?_, ?_, ?_, fun _ => h1, ?_⟩
  · rw [run_enterLoop_outer, hD, ← hW1]
    rfl
  · simp only [resolve, hg]
    simp [go_sem]
  · intro f hf
    simp [Target.leads] at hf
    subst hf
    exact hFg
  · simp [invoke, go_sem, eg]
  have hJ : StaysT t W1.heap.size fun pre W => I pre W ∧ W.heap[D + 1]? = some (R .ready none) ∧ W.heap[D]? = some (.deferred (some [])) := fun s A B row hs hgr hr =>
    ⟨hI.turn (by omega) s A B row hs.1 hgr hr, turn_other hgr hr hs.2.1 recT_not, turn_other hgr hr hs.2.2 deferred_not⟩
  have hJx : StaysT t W1.heap.size fun pre W => ∃ c, Ix c pre W ∧ W.heap[D + 1]? = some (R .done (some c)) ∧ W.heap[D]? = some (.deferred (some [])) := fun s A B row hs hgr hr => by
    obtain ⟨c, hc, hs1, hs2⟩ := hs
    exact ⟨c, (hIx c).turn (by omega) s A B row hc hgr hr, turn_other hgr hr hs1 recT_not, turn_other hgr hr hs2 deferred_not⟩
  refine (hseq (D + 1) _ _ W1 e4 hJ hJx ?_ ⟨e3, e0, e1⟩).mono ?_
  · rintro pre x W ⟨hi, hl, hk⟩ hlen
    refine ⟨fn, _, assign, body, run_yield (P := P) (args := encs x) hl (hps x), roundIn_of_wpIn hfn (wpIn_mono (hassign _ pre x W hi hlen) ?_)⟩
    intro e a' Wa hq
    cases e with
    | exit id => exact hq.elim
    | goto b => exact hq.elim
    | ret => exact hq.elim
    | panic c => exact hq.elim
    | outgrown => exact hq.elim
    | normal =>
    obtain ⟨ka, kpa, ia, ax⟩ := hq
    have hla := ka.same _ _ (by omega) hl rfl
    have hka := ka.same _ _ (Nat.le_refl _) hk rfl
    have hlt := (Array.getElem?_eq_some_iff.1 hla).1
    refine ⟨_, run_beginRound hla rfl, ?_⟩
    have hl2 : (Wa.putObj (D + 1) (R .busy none)).heap[D + 1]? = some (R .busy none) := World.putObj_heap_same hlt
    have hk2 : (Wa.putObj (D + 1) (R .busy none)).heap[D]? = some (.deferred (some [])) := (World.putObj_heap_other (by omega)).trans hka
    have hw2 : Kp W (Wa.putObj (D + 1) (R .busy none)) := hKt kpa (hKb _ _ _ _ (by omega) hla rfl rfl)
    refine wpIn_mono (hbody _ pre x a' _ (hI.put _ ia (by omega) hla rfl) (hAx _ _ _ _ _ _ ax hla rfl) ⟨W, hlen⟩) ?_
    have close : ∀ (j : Option Code) (W3 : World), KeepsFrom D (Wa.putObj (D + 1) (R .busy none)) W3 →
        (Instr.endRound (D + 1) j).run P W3 = .ok (.bool j.isNone) (W3.putObj (D + 1) (R (if j.isNone then .ready else .done) j)) ∧ W3.heap[D + 1]? = some (R .busy none) ∧
        (W3.putObj (D + 1) (R (if j.isNone then .ready else .done) j)).heap[D + 1]? = some (R (if j.isNone then .ready else .done) j) ∧
        (W3.putObj (D + 1) (R (if j.isNone then .ready else .done) j)).heap[D]? = some (.deferred (some [])) := fun j W3 k3 => by
      have l3 := k3.same _ _ (by omega) hl2 rfl
      exact ⟨run_endRound (P := P) j l3, l3, World.putObj_heap_same (Array.getElem?_eq_some_iff.1 l3).1, (World.putObj_heap_other (by omega)).trans (k3.same _ _ (Nat.le_refl _) hk2 rfl)⟩
    intro e a3 W3 hp
    cases e with
    | normal =>
      obtain ⟨k3, kp3, i3⟩ := hp
      obtain ⟨r, l3, l4, d4⟩ := close none W3 k3
      exact ⟨_, _, r, .inl ⟨rfl, ⟨hI.put _ i3 (by omega) l3 rfl, l4, d4⟩, hKt (hKt hw2 kp3) (hKb _ _ _ _ (by omega) l3 rfl rfl)⟩⟩
    | ret =>
      obtain ⟨k3, i3⟩ := hp
      obtain ⟨r, l3, l4, d4⟩ := close (some .ret) W3 k3
      exact ⟨_, _, r, .inr ⟨rfl, .ret, (hIx _).put _ i3 (by omega) l3 rfl, l4, d4⟩⟩
    | exit id =>
      obtain ⟨k3, i3⟩ := hp
      obtain ⟨r, l3, l4, d4⟩ := close (some (.exit id)) W3 k3
      exact ⟨_, _, r, .inr ⟨rfl, .exit id, (hIx _).put _ i3 (by omega) l3 rfl, l4, d4⟩⟩
    | goto b =>
      obtain ⟨k3, i3⟩ := hp
      obtain ⟨r, l3, l4, d4⟩ := close (some (.goto b)) W3 k3
      exact ⟨_, _, r, .inr ⟨rfl, .goto b, (hIx _).put _ i3 (by omega) l3 rfl, l4, d4⟩⟩
    | panic c => exact hp.elim
    | outgrown => exact hp.elim
  · rintro e W2 ⟨⟨v, rfl⟩, ⟨xs, hS, hi, hl, hk⟩ | ⟨pre, c, hi, hl, hk⟩⟩
    · exact ⟨none, _, run_endLoop (P := P) hl (fun h => by cases h), hdone _ xs _ (Nat.le_refl _) hS (hI.put _ hi (by omega) hl rfl) ((World.putObj_heap_other (by omega)).trans hk)⟩
    · exact ⟨some c, _, run_endLoop (P := P) hl (fun h => by cases h), hstop _ c pre _ (Nat.le_refl _) ((hIx c).put _ hi (by omega) hl rfl) ((World.putObj_heap_other (by omega)).trans hk)⟩

/-- What speaks of blocks below B alone stays, whatever is turned from B on. -/
theorem ownT_low {β : Type} {t : TypeId} {B : Nat} {I : β → World → Prop} (hsz : ∀ s W, I s W → B ≤ W.heap.size) (h : ∀ s W W', I s W → Below B W W' → I s W') : OwnT t B I := fun s W W' row hs hg hr =>
  h s W W' hs ⟨hg.os, hg.tape, hg.output, hg.size, fun k hk => hg.block k (Nat.lt_of_lt_of_le hk (hsz s W hs)) (fun e => by have := (hr k e.symm).1; omega)⟩
theorem set_grown (W : World) (b : Nat) (v : Value) : W.grownBy (W.setCell ⟨b, 0, none⟩ v) (some b) := by
  have h := (Below.refl 0 W).setCell (p := ⟨b, 0, none⟩) (Nat.zero_le _) v
  exact ⟨h.os, h.tape, h.output, h.size, fun k _ hk => Below.heap_setCell _ _ _ k (by simpa using fun e => hk (by rw [e]))⟩
/-- What lies below B lies as it lay. -/
def KpL (B : Nat) (A A' : World) : Prop := ∀ k, k < B → A'.heap[k]? = A.heap[k]?
theorem KpL.refl (B : Nat) (A : World) : KpL B A A := fun _ _ => rfl
theorem KpL.trans {B : Nat} {A A' A'' : World} (h : KpL B A A') (h' : KpL B A' A'') : KpL B A A'' := fun k hk => (h' k hk).trans (h k hk)
theorem KpL.size {B : Nat} {A A' : World} (h : KpL B A A') (hB : B ≤ A.heap.size) : B ≤ A'.heap.size := by
  rcases Nat.eq_zero_or_pos B with h0 | h0
  · omega
  · have h1 := h (B - 1) (by omega)
    rw [Array.getElem?_eq_getElem (by omega : B - 1 < A.heap.size)] at h1
    have := (Array.getElem?_eq_some_iff.1 h1).1
    omega
theorem KpL.below {B : Nat} {A A' : World} (h : Below A.heap.size A A') (hB : B ≤ A.heap.size) : KpL B A A' := fun k hk => h.block k (by omega)
theorem KpL.put {B : Nat} {D : Nat} (hB : B ≤ D) (W : World) (l : Nat) (o o' : Obj) (hl : D ≤ l) (_ : W.heap[l]? = some o) (_ : o.isCells = false) (_ : o.isWalk = false) : KpL B W (W.putObj l o') := fun k hk => World.putObj_heap_other (by omega)
theorem grown_of {A B : World} (h : Below A.heap.size A B) : A.grownBy B none := ⟨h.os, h.tape, h.output, h.size, fun k hk _ => h.block k hk⟩
/-- A row's block is not one that an iterator turns: its cells are of another type. -/
theorem row_ne {t e : TypeId} (hte : e ≠ t) {W : World} {base size : Nat} {v : Value} {k : Nat} {xs : List Value} (h : W.ownsRow base e size v k xs) {row : Option Nat} (hr : ∀ r, row = some r → ∃ o : Obj, W.heap[r]? = some o ∧ (o.isCells = false ∨ ∃ cur fr, o = .cells cur t fr)) : v.ownBlock = none ∨ v.ownBlock ≠ row := by
  rcases h.2 with ⟨rfl, _⟩ | ⟨g, cap, cur, rfl, _, hg, _⟩
  · exact .inl rfl
  · refine .inr fun e => ?_
    obtain ⟨o, ho, h1⟩ := hr g e.symm
    rw [hg] at ho
    cases ho
    rcases h1 with h1 | ⟨_, _, h1⟩
    · cases h1
    · injection h1 with _ h2
      exact hte h2

end Go.Proofs.YtafeadplmcoilaaDoor
