/-
  A range over a function whose iterator keeps what it goes by in a box of its own: the law of the loop, told with what the iterator may turn.
-/
import Derived.Test.YtbhnlmlaebngmaaBase
import Derived.RangeFuncNested
import Derived.RangeFuncBound
import Derived.RangeFuncCalls
import Derived.RangeFuncLeaves
import Derived.RangeFuncWrites
namespace Go.Proofs.Ytbhnlmlaebngmaa
open Go Go.RowKit

variable {F : Fence} {n : Nat} {P : Program} {β : Type}

/-- What an iterator may turn of its own: a walk's object; cells of type t. -/
def Turn (t : TypeId) (o : Obj) : Prop := o.isWalk = true ∨ ∃ cur fr, o = .cells cur t fr
/-- It stays, whatever an iterator turns from block B on. -/
def StaysT (t : TypeId) (B : Nat) (J : β → World → Prop) : Prop :=
  ∀ s W W' row, J s W → W.grownBy W' row → (∀ r, row = some r → B ≤ r ∧ ∃ o : Obj, W.heap[r]? = some o ∧ Turn t o) → J s W'
/-- It stays, whatever else is turned from block B on that is no cells, but of type t. -/
def OwnT (t : TypeId) (B : Nat) (I : β → World → Prop) : Prop :=
  ∀ s W W' row, I s W → W.grownBy W' row → (∀ r, row = some r → B ≤ r ∧ ∃ o : Obj, W.heap[r]? = some o ∧ (o.isCells = false ∨ ∃ cur fr, o = .cells cur t fr)) → I s W'
theorem OwnT.put {t : TypeId} {B : Nat} {I : β → World → Prop} (h : OwnT t B I) {s : β} {W : World} {l : Nat} {o : Obj} (o' : Obj) (hs : I s W) (hB : B ≤ l) (hl : W.heap[l]? = some o) (ho : o.isCells = false) : I s (W.putObj l o') :=
  h s W _ (some l) hs (grownBy_putObj' W l o') (fun r e => by cases e; exact ⟨hB, o, hl, .inl ho⟩)
theorem OwnT.new {t : TypeId} {B : Nat} {I : β → World → Prop} (h : OwnT t B I) {s : β} {W : World} (o : Obj) (hs : I s W) : I s (W.alloc o) :=
  h s W _ none hs (World.grownBy_alloc W o none) (fun r e => by cases e)
theorem OwnT.turn {t : TypeId} {B B' : Nat} {I : β → World → Prop} (h : OwnT t B I) (hB : B ≤ B') : StaysT t B' I := fun s W W' row hs hg hr =>
  h s W W' row hs hg fun r e => by
    obtain ⟨h1, o, h2, h3⟩ := hr r e
    exact ⟨by omega, o, h2, h3.imp Obj.not_cells_of_walk id⟩
/-- A block that is no walk and no cells of type t lies as it lay. -/
theorem turn_other {t : TypeId} {B l : Nat} {W W' : World} {row : Option Nat} {o : Obj} (hg : W.grownBy W' row) (hr : ∀ r, row = some r → B ≤ r ∧ ∃ o : Obj, W.heap[r]? = some o ∧ Turn t o) (hl : W.heap[l]? = some o) (ho : ¬ Turn t o) : W'.heap[l]? = some o :=
  (hg.block l (Array.getElem?_eq_some_iff.1 hl).1 (fun e => by
    obtain ⟨_, o', h1, h2⟩ := hr l e.symm
    rw [hl] at h1
    cases h1
    exact ho h2)).trans hl

/-- The iterator's contract. -/
def SeqT (t : TypeId) {α : Type} (F : Fence) (n : Nat) (P : Program) (g : Nat) (lb : Array Value) (encs : α → Array Value) (Kp : World → World → Prop) (S : List α → Prop) (N : Nat) (w : World) : Prop :=
  ∀ (l : Nat) (J Jx : List α → World → Prop) (W : World), Below w.heap.size w W → StaysT t W.heap.size J → StaysT t W.heap.size Jx →
    (∀ pre x W1, J pre W1 → pre.length < N → YieldAt F (n - 1) P l (encs x) W1 fun e W' => (e = .returned (.bool true) ∧ J (pre ++ [x]) W' ∧ Kp W1 W') ∨ (e = .returned (.bool false) ∧ Jx (pre ++ [x]) W')) →
    J [] W → CallsIn F n P g (#[.func (.yield l) #[] #[]] ++ lb) W fun e W' => (∃ v, e = .returned v) ∧ ((∃ xs, S xs ∧ J xs W') ∨ (∃ pre, Jx pre W'))

/-- The loop's record. -/
def recT (fn : FuncId) (tmps : Array Value) (ps : Array Tmp) (assign body : Code) (d : Nat) (st : LoopState) (pe : Option Code) : Obj := .loop { state := st, pending := pe, fn, tmps, params := ps, assign, body, defers := d }
theorem recT_not {fn : FuncId} {tmps : Array Value} {ps : Array Tmp} {assign body : Code} {d : Nat} {st : LoopState} {pe : Option Code} {t : TypeId} : ¬ Turn t (recT fn tmps ps assign body d st pe) := by
  rintro (h | ⟨_, _, h⟩) <;> cases h
theorem deferred_not {x : Option (List Deferred)} {t : TypeId} : ¬ Turn t (.deferred x) := by
  rintro (h | ⟨_, _, h⟩) <;> cases h

theorem range_T {α : Type} {g : Operand} {ps : Array Tmp} {assign body : Code} {Q : Exit → Act → World → Prop} {a : Act} {w : World} (t : TypeId)
    (hro : F.round = none) (h1 : 1 ≤ n) {gf : Nat} {lb : Array Value} (hg : a.eval g = .func (.func gf) #[] lb) (hFg : F.fn gf) (eg : ∀ args w, (callFunc gf args).run P w = .ok (.enter gf args) w)
    {encs : α → Array Value} {Kp : World → World → Prop} {S : List α → Prop} {N : Nat} {w0 : World} (hseq : SeqT t F (n - 1) P gf lb encs Kp S N w0)
    (hKt : ∀ {A B C : World}, Kp A B → Kp B C → Kp A C) (hKb : ∀ (W : World) (l : Nat) (o o' : Obj), w.heap.size ≤ l → W.heap[l]? = some o → o.isCells = false → o.isWalk = false → Kp W (W.putObj l o'))
    (hb0 : Below w0.heap.size w0 w) (hps : ∀ x, (encs x).size = ps.size)
    (I : List α → World → Prop) (Ix : Code → List α → World → Prop) (hI : OwnT t w.heap.size I) (hIx : ∀ c, OwnT t w.heap.size (Ix c)) (h0 : I [] w) (Ax : α → Act → World → Prop)
    (hAx : ∀ x a' (W : World) l o o', Ax x a' W → W.heap[l]? = some o → o.isCells = false → Ax x a' (W.putObj l o'))
    (hassign : ∀ (l : Nat) (pre : List α) (x : α) (W : World), I pre W → pre.length < N →
      assign.wpIn (F.inRound l) (n - 1 - 1) P (Exit.then (fun a' W' => KeepsFrom w.heap.size W W' ∧ Kp W W' ∧ I pre W' ∧ Ax x a' W') (fun _ _ _ => False)) { tmps := (ps.zip (encs x)).foldl (fun t (p, v) => t.setIfInBounds p v) a.tmps, defers := [] } W)
    (hbody : ∀ (l : Nat) (pre : List α) (x : α) (a' : Act) (W : World), I pre W → Ax x a' W → pre.length < N → body.wpIn (F.inRound l) (n - 1 - 1) P (ownPostG w.heap.size Kp I Ix (pre ++ [x]) W) a' W)
    (hdone : ∀ (D : Nat) (xs : List α) (W : World), w.heap.size ≤ D → S xs → I xs W → W.heap[D]? = some (.deferred (some [])) → Q .normal { a with defers := { target := .collected D, args := #[] } :: a.defers } W)
    (hstop : ∀ (D : Nat) (c : Code) (pre : List α) (W : World), w.heap.size ≤ D → Ix c pre W → W.heap[D]? = some (.deferred (some [])) → c.wpIn F n P Q { a with defers := { target := .collected D, args := #[] } :: a.defers } W) :
    (Code.rangeFunc g ps assign body).wpIn F n P Q a w := by
  refine wpIn_rangeFunc fun fn hfn => ?_
  rw [hro]
  generalize hD : w.heap.size = D
  rw [hD] at hKb hI hIx hassign hbody hdone hstop
  let R := recT fn a.tmps ps assign body D
  obtain ⟨W1, hW1⟩ : ∃ W1, (w.alloc (.deferred (some []))).alloc (R .ready none) = W1 := ⟨_, rfl⟩
  have e0 : W1.heap[D + 1]? = some (R .ready none) := by
    have h := World.alloc_heap_new (w.alloc (.deferred (some []))) (R .ready none)
    rw [World.size_alloc, hD, hW1] at h
    exact h
  have e1 : W1.heap[D]? = some (.deferred (some [])) := by
    have h := Below.heap_alloc (w.alloc (.deferred (some []))) (R .ready none) D (by simp; omega)
    rw [hW1] at h
    exact h.trans (hD ▸ World.alloc_heap_new w _)
  have e2 : W1.heap.size = D + 2 := by rw [← hW1]; simp; omega
  have e3 : I [] W1 := by rw [← hW1]; exact hI.new _ (hI.new _ h0)
  have e4 : Below w0.heap.size w0 W1 := by rw [← hW1]; exact (hb0.alloc hb0.size _).alloc (by have := hb0.size; simp; omega) _
  refine ⟨D + 1, [{ target := .collected D, args := #[] }], W1, { target := .fn (.func gf) lb, args := #[.func (.yield (D + 1)) #[] #[]] }, W1, gf, #[.func (.yield (D + 1)) #[] #[]] ++ lb, W1, ?_, ?_, ?_, ?_, fun _ => h1, ?_⟩
  · rw [run_enterLoop_outer, hD, ← hW1]
    rfl
  · simp only [resolve, hg]
    simp [go_sem]
  · intro f hf
    simp [Target.leads] at hf
    subst hf
    exact hFg
  · simp [invoke, go_sem, eg]
  have hJ : StaysT t W1.heap.size fun pre W => I pre W ∧ W.heap[D + 1]? = some (R .ready none) ∧ W.heap[D]? = some (.deferred (some [])) := fun s A B row hs hgr hr =>
    ⟨hI.turn (by omega) s A B row hs.1 hgr hr, turn_other hgr hr hs.2.1 recT_not, turn_other hgr hr hs.2.2 deferred_not⟩
  have hJx : StaysT t W1.heap.size fun pre W => ∃ c, Ix c pre W ∧ W.heap[D + 1]? = some (R .done (some c)) ∧ W.heap[D]? = some (.deferred (some [])) := fun s A B row hs hgr hr => by
    obtain ⟨c, hc, hs1, hs2⟩ := hs
    exact ⟨c, (hIx c).turn (by omega) s A B row hc hgr hr, turn_other hgr hr hs1 recT_not, turn_other hgr hr hs2 deferred_not⟩
  refine (hseq (D + 1) _ _ W1 e4 hJ hJx ?_ ⟨e3, e0, e1⟩).mono ?_
  · rintro pre x W ⟨hi, hl, hk⟩ hlen
    refine ⟨fn, _, assign, body, run_yield (P := P) (args := encs x) hl (hps x), roundIn_of_wpIn hfn (wpIn_mono (hassign _ pre x W hi hlen) ?_)⟩
    intro e a' Wa hq
    cases e with
    | exit id => exact hq.elim
    | goto b => exact hq.elim
    | ret => exact hq.elim
    | panic c => exact hq.elim
    | outgrown => exact hq.elim
    | normal =>
    obtain ⟨ka, kpa, ia, ax⟩ := hq
    have hla := ka.same _ _ (by omega) hl rfl
    have hka := ka.same _ _ (Nat.le_refl _) hk rfl
    have hlt := (Array.getElem?_eq_some_iff.1 hla).1
    refine ⟨_, run_beginRound hla rfl, ?_⟩
    have hl2 : (Wa.putObj (D + 1) (R .busy none)).heap[D + 1]? = some (R .busy none) := World.putObj_heap_same hlt
    have hk2 : (Wa.putObj (D + 1) (R .busy none)).heap[D]? = some (.deferred (some [])) := (World.putObj_heap_other (by omega)).trans hka
    have hw2 : Kp W (Wa.putObj (D + 1) (R .busy none)) := hKt kpa (hKb _ _ _ _ (by omega) hla rfl rfl)
    refine wpIn_mono (hbody _ pre x a' _ (hI.put _ ia (by omega) hla rfl) (hAx _ _ _ _ _ _ ax hla rfl) hlen) ?_
    have close : ∀ (j : Option Code) (W3 : World), KeepsFrom D (Wa.putObj (D + 1) (R .busy none)) W3 →
        (Instr.endRound (D + 1) j).run P W3 = .ok (.bool j.isNone) (W3.putObj (D + 1) (R (if j.isNone then .ready else .done) j)) ∧ W3.heap[D + 1]? = some (R .busy none) ∧
        (W3.putObj (D + 1) (R (if j.isNone then .ready else .done) j)).heap[D + 1]? = some (R (if j.isNone then .ready else .done) j) ∧
        (W3.putObj (D + 1) (R (if j.isNone then .ready else .done) j)).heap[D]? = some (.deferred (some [])) := fun j W3 k3 => by
      have l3 := k3.same _ _ (by omega) hl2 rfl
      exact ⟨run_endRound (P := P) j l3, l3, World.putObj_heap_same (Array.getElem?_eq_some_iff.1 l3).1, (World.putObj_heap_other (by omega)).trans (k3.same _ _ (Nat.le_refl _) hk2 rfl)⟩
    intro e a3 W3 hp
    cases e with
    | normal =>
      obtain ⟨k3, kp3, i3⟩ := hp
      obtain ⟨r, l3, l4, d4⟩ := close none W3 k3
      exact ⟨_, _, r, .inl ⟨rfl, ⟨hI.put _ i3 (by omega) l3 rfl, l4, d4⟩, hKt (hKt hw2 kp3) (hKb _ _ _ _ (by omega) l3 rfl rfl)⟩⟩
    | ret =>
      obtain ⟨k3, i3⟩ := hp
      obtain ⟨r, l3, l4, d4⟩ := close (some .ret) W3 k3
      exact ⟨_, _, r, .inr ⟨rfl, .ret, (hIx _).put _ i3 (by omega) l3 rfl, l4, d4⟩⟩
    | exit id =>
      obtain ⟨k3, i3⟩ := hp
      obtain ⟨r, l3, l4, d4⟩ := close (some (.exit id)) W3 k3
      exact ⟨_, _, r, .inr ⟨rfl, .exit id, (hIx _).put _ i3 (by omega) l3 rfl, l4, d4⟩⟩
    | goto b =>
      obtain ⟨k3, i3⟩ := hp
      obtain ⟨r, l3, l4, d4⟩ := close (some (.goto b)) W3 k3
      exact ⟨_, _, r, .inr ⟨rfl, .goto b, (hIx _).put _ i3 (by omega) l3 rfl, l4, d4⟩⟩
    | panic c => exact hp.elim
    | outgrown => exact hp.elim
  · rintro e W2 ⟨⟨v, rfl⟩, ⟨xs, hS, hi, hl, hk⟩ | ⟨pre, c, hi, hl, hk⟩⟩
    · exact ⟨none, _, run_endLoop (P := P) hl (fun h => by cases h), hdone _ xs _ (Nat.le_refl _) hS (hI.put _ hi (by omega) hl rfl) ((World.putObj_heap_other (by omega)).trans hk)⟩
    · exact ⟨some c, _, run_endLoop (P := P) hl (fun h => by cases h), hstop _ c pre _ (Nat.le_refl _) ((hIx c).put _ hi (by omega) hl rfl) ((World.putObj_heap_other (by omega)).trans hk)⟩

end Go.Proofs.Ytbhnlmlaebngmaa
