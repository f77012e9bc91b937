/-
  A range over a function whose body may panic: the activation's own function is carried along, so that a round that panics is left.
-/
import Derived.Test.YtbhnlmlaebngmaaRangeT
import Derived.Test.YtbhnlmlaebngmaaMarks
namespace Go.Proofs.Ytbhnlmlaebngmaa
open Go Go.RowKit

variable {P : Program}

/-- Code that is run by an activation of function f. -/
def wpAt (f : FuncId) (P : Program) (c : Code) (Q : Exit → Act → World → Prop) (a : Act) (w : World) : Prop :=
  ∀ (b : Frame) (k : List Item) (cs : List Frame), b.roundOf = none → b.fn = f → ∃ e a' w', Q e a' w' ∧ ArrivesIn (Machine.fenced P Fence.wide) P (lone (b.atR a (.code c :: k)) cs w) b k cs e a' w'
section
variable {f : FuncId} {n : Nat} {Q : Exit → Act → World → Prop} {a : Act} {w : World} {x y c : Code}
theorem wpAt_in (h : c.wpIn Fence.wide n P Q a w) : wpAt f P c Q a w := fun b k cs hro _ => h b k cs hro trivial (room_wide _)
theorem wpAt_seq (h : wpAt f P x (Exit.then (wpAt f P y Q) Q) a w) : wpAt f P (.seq x y) Q a w := by
  intro b k cs hro hb
  have st : StepsIn (Machine.fenced P Fence.wide) P (lone (b.atR a (.code (.seq x y) :: k)) cs w) (lone (b.atR a (.code x :: .code y :: k)) cs w) := .one (fenced_wide _ _) stepR_seq
  obtain ⟨e, a1, w1, hq, ha⟩ := h b (.code y :: k) cs hro hb
  rcases e with _ | id | g | _ | ch | _
  · obtain ⟨e2, a2, w2, hq2, ha2⟩ := hq b k cs hro hb
    exact ⟨e2, a2, w2, hq2, .of_steps (StepsIn.trans st ha) ha2⟩
  all_goals exact ⟨_, a1, w1, hq, .of_steps st (.pass (x := .code y) rfl (fun _ _ => .inl (by simp)) ha)⟩
theorem wpAt_seq_in (h : x.wpIn Fence.wide n P (Exit.then (wpAt f P y Q) Q) a w) : wpAt f P (.seq x y) Q a w := wpAt_seq (wpAt_in h)
/-- A block that is left by no exit. -/
theorem wpAt_block {id : Nat} (h : wpAt f P c (fun e a' w' => (e = .normal ∨ ∃ ch, e = .panic ch) ∧ Q e a' w') a w) : wpAt f P (.block id c) Q a w := by
  intro b k cs hro hb
  have st : StepsIn (Machine.fenced P Fence.wide) P (lone (b.atR a (.code (.block id c) :: k)) cs w) (lone (b.atR a (.code c :: .inBlock id :: k)) cs w) := .one (fenced_wide _ _) stepR_block
  obtain ⟨e, a1, w1, ⟨hn, hq⟩, ha⟩ := h b (.inBlock id :: k) cs hro hb
  rcases hn with rfl | ⟨ch, rfl⟩
  · exact ⟨.normal, a1, w1, hq, StepsIn.trans (StepsIn.trans st ha) (.one (fenced_wide _ _) stepR_inBlock)⟩
  · exact ⟨.panic ch, a1, w1, hq, .of_steps st ha⟩
theorem calls_at {fn : Func} {args : Array Value} {R : Ending → World → Prop} (hf : P.funcs[f]? = some fn) (hb : fn.body = some c)
    (h : wpAt f P c (bodyPostM Fence.wide n P fn R) { tmps := args ++ Array.replicate (fn.ntmps - args.size) undef, defers := [] } w) : Calls P f args w R := by
  refine (callsIn_wide (n := n)).1 ⟨trivial, fun cs hr => ?_⟩
  obtain ⟨b, hb0⟩ : ∃ b : Frame, b = { (default : Frame) with fn := f, kind := .normal, roundOf := none } := ⟨_, rfl⟩
  have hen : Frame.enter P f args .normal = b.atR { tmps := args ++ Array.replicate (fn.ntmps - args.size) undef, defers := [] } [.code c] := by
    simp [Frame.enter, Frame.atR, hf, hb, hb0]
  have hro : b.roundOf = none := by rw [hb0]
  have hfn : b.fn = f := by rw [hb0]
  have hk : b.kind = .normal := by rw [hb0]
  have hff : P.funcs[b.fn]? = some fn := by rw [hfn, hf]
  obtain ⟨e, a1, w1, hq, ha⟩ := h b [] cs hro hfn
  rw [← hen] at ha
  rcases e with _ | id | g | _ | ch | _
  · obtain ⟨e2, w2, fr, hR, hs, h1, hl⟩ := leaves_stepsInM a1.defers .returning w1 { b.atR a1 [] with mode := .returning } cs rfl rfl rfl hff hk trivial hr hq
    exact ⟨e2, w2, fr, hR, ComesIn.of_steps (StepsIn.trans ha (.one (fenced_wide _ _) (stepR_end hro))) hs, h1.trans hfn, hl⟩
  · exact hq.elim
  · exact hq.elim
  · obtain ⟨todo, hs0⟩ := ha.1 hro
    obtain ⟨e2, w2, fr, hR, hs, h1, hl⟩ := leaves_stepsInM a1.defers .returning w1 { b.atR a1 todo with mode := .returning } cs rfl rfl rfl hff hk trivial hr hq
    exact ⟨e2, w2, fr, hR, ComesIn.of_steps hs0 hs, h1.trans hfn, hl⟩
  · obtain ⟨todo, hs0⟩ := ha
    obtain ⟨e2, w2, fr, hR, hs, h1, hl⟩ := leaves_stepsInM a1.defers (.panicking ch) w1 { b.atR a1 todo with mode := .panicking ch } cs rfl rfl rfl hff hk trivial hr hq
    exact ⟨e2, w2, fr, hR, ComesIn.of_steps hs0 hs, h1.trans hfn, hl⟩
  · exact ⟨.outgrown, w1, b, hq, ha.resolve_left (by rw [hk]; intro h; cases h), hfn, trivial⟩
/-- The statement, by an activation of f. -/
theorem wpAt_range {g : Operand} {ps : Array Tmp} {assign body : Code} {l : Nat} {mk : List Deferred} {w1 w1' w2 : World} {d : Deferred} {gf : FuncId} {args : Array Value}
    (he : (Instr.enterLoop f a.tmps ps assign body none).run P w = .ok (l, mk) w1) (hres : (resolve a.eval (rangeCall g l) 0).run P w1 = .ok d w1') (hinv : (invoke d.target d.args).run P w1' = .ok (.enter gf args) w2)
    (h : CallsIn Fence.wide n P gf args w2 fun e w3 => (∃ v w4, e = .returned v ∧ (Instr.endLoop l).run P w3 = .ok none w4 ∧ Q .normal { a with defers := mk ++ a.defers } w4) ∨ (∃ ch, e = .panicked ch ∧ Q (.panic ch) { a with defers := mk ++ a.defers } w3)) :
    wpAt f P (.rangeFunc g ps assign body) Q a w := by
  intro b k cs hro hb
  subst hb
  have hst := stepR_rangeFunc (P := P) (b := b) (a := a) (k := k) (cs := cs) (w := w) (by rw [hro]; exact he) hres hinv
  obtain ⟨e, w3, fr, hR, hs, -, hl⟩ := h.2 (b.atR { a with defers := mk ++ a.defers } (.inRangeFunc l :: k) :: cs) (room_wide _)
  rcases hR with ⟨v, w4, rfl, hend, hq⟩ | ⟨ch, rfl, hq⟩
  · refine ⟨.normal, _, w4, hq, ?_⟩
    refine StepsIn.trans (.head (fenced_wide _ _) hst hs) (.head (fenced_wide _ _) (?_ : step P _ = .next (lone (b.atR { a with defers := mk ++ a.defers } (.endRangeFunc l :: k)) cs w3)) (.one (fenced_wide _ _) ?_))
    · rw [← finish_atR_inRangeFunc l v]
      exact step_leave_returned hl
    · exact stepR_endRangeFunc hend
  · refine ⟨.panic ch, _, w3, hq, .inRangeFunc l :: k, .head (fenced_wide _ _) hst (StepsIn.trans hs (.one (fenced_wide _ _) ?_))⟩
    rw [← Frame.raise_atR]
    exact step_leave_panicked hl
end

/-- How a round may be left, where it may panic. -/
def postX {α : Type} (B : Nat) (Kp : World → World → Prop) (I : List α → World → Prop) (Ip : List PanicEntry → List α → World → Prop) (xs : List α) (W : World) : Exit → Act → World → Prop
  | .normal, _, W' => KeepsFrom B W W' ∧ Kp W W' ∧ I xs W'
  | .panic ch, a, W' => a.defers = [] ∧ KeepsFrom B W W' ∧ Ip ch xs W'
  | _, _, _ => False

/-- A round's contract: it goes on, or it panics. -/
theorem round_x {l : Nat} {f : FuncId} {fn : Func} {tmps : Array Value} {assign body : Code} {w : World} {n : Nat} {Rn : World → Prop} {Rp : List PanicEntry → World → Prop} (hf : P.funcs[f]? = some fn)
    (h : assign.wpIn (Fence.wide.inRound l) n P (Exit.then (fun a1 w1 => ∃ w2, (Instr.beginRound l).run P w1 = .ok () w2 ∧ body.wpIn (Fence.wide.inRound l) n P (fun e a w3 => (e = .normal ∧ ∃ w4, (Instr.endRound l none).run P w3 = .ok (.bool true) w4 ∧ Rn w4) ∨ (∃ ch, e = .panic ch ∧ a.defers = [] ∧ Rp ch w3)) a1 w2) (fun _ _ _ => False)) { tmps := tmps, defers := [] } w) :
    RoundIn Fence.wide n P l f tmps assign body w fun e w' => (e = .returned (.bool true) ∧ Rn w') ∨ (∃ ch, e = .panicked ch ∧ Rp ch w') := by
  refine ⟨trivial, fun c cs _ => ?_⟩
  obtain ⟨b, hb⟩ : ∃ b : Frame, b = { (default : Frame) with fn := f, kind := .normal, roundOf := some l } := ⟨_, rfl⟩
  have hst : Frame.round l f tmps assign body .normal = b.atR { tmps := tmps, defers := [] } [.code assign, .beginRound, .code body] := by rw [hb]; rfl
  have hro : b.roundOf = some l := by rw [hb]
  have hk : b.kind = .normal := by rw [hb]
  have hfn : P.funcs[b.fn]? = some fn := by rw [hb]; exact hf
  have fen : ∀ m : Machine, m.fenced P Fence.wide := fenced_wide P
  have wid : ∀ {m m' : Machine}, StepsIn (Machine.fenced P (Fence.wide.inRound l)) P m m' → StepsIn (Machine.fenced P Fence.wide) P m m' := fun h => stepsIn_wide.2 h.steps
  obtain ⟨e, a1, w1, hq, ha⟩ := h b [.beginRound, .code body] (c :: cs) hro trivial (fun _ h => by simp [Fence.wide, Fence.inRound] at h)
  rcases e with _ | id | g | _ | ch | _
  case normal =>
    obtain ⟨w2, hbr, hbody⟩ := hq
    have s1 : StepsIn (Machine.fenced P Fence.wide) P (lone (Frame.round l f tmps assign body .normal) (c :: cs) w) (lone (b.atR a1 [.code body]) (c :: cs) w2) := by
      rw [hst]
      exact StepsIn.trans (wid ha) (.one (fen _) (stepR_beginRound hro hbr))
    obtain ⟨e2, a2, w3, hq2, ha2⟩ := hbody b [] (c :: cs) hro trivial (fun _ h => by simp [Fence.wide, Fence.inRound] at h)
    rcases hq2 with ⟨rfl, w4, hend, hR⟩ | ⟨ch, rfl, hd, hR⟩
    · exact ⟨.returned (.bool true), w4, .inl ⟨rfl, hR⟩, StepsIn.trans s1 (StepsIn.trans (wid ha2) (.one (fen _) (stepR_round_end hro hk hend)))⟩
    · obtain ⟨todo, hs⟩ := ha2
      refine ⟨.panicked ch, w3, .inr ⟨ch, rfl, hR⟩, StepsIn.trans s1 (StepsIn.trans (wid hs) (.one (fen _) ?_))⟩
      exact step_lone_go (by simp [stepG, unwind, Frame.catches, Frame.atR, hd, hfn])
  all_goals exact hq.elim

/-- The iterator's contract: all is handed over, or a round panics. -/
def SeqX (t : TypeId) {α : Type} (P : Program) (g : Nat) (lb : Array Value) (encs : α → Array Value) (Kp : World → World → Prop) (S Ok : List α → Prop) (w : World) : Prop :=
  ∀ (l : Nat) (J : List α → World → Prop) (Jp : List PanicEntry → List α → World → Prop) (W : World), Below w.heap.size w W → StaysT t W.heap.size J →
    (∀ pre x W1, J pre W1 → Ok (pre ++ [x]) → YieldAt Fence.wide 3 P l (encs x) W1 fun e W' => (e = .returned (.bool true) ∧ J (pre ++ [x]) W' ∧ Kp W1 W') ∨ (∃ ch, e = .panicked ch ∧ Jp ch (pre ++ [x]) W')) →
    J [] W → CallsIn Fence.wide 4 P g (#[.func (.yield l) #[] #[]] ++ lb) W fun e W' => (∃ v xs, e = .returned v ∧ S xs ∧ J xs W') ∨ (∃ ch pre, e = .panicked ch ∧ Jp ch pre W')

theorem range_X {α : Type} {g : Operand} {ps : Array Tmp} {assign body : Code} {Q : Exit → Act → World → Prop} {a : Act} {w : World} (t : TypeId) {f : FuncId} {fn : Func} (hf : P.funcs[f]? = some fn)
    {gf : Nat} {lb : Array Value} (hg : a.eval g = .func (.func gf) #[] lb) (eg : ∀ args w, (callFunc gf args).run P w = .ok (.enter gf args) w)
    {encs : α → Array Value} {Kp : World → World → Prop} {S Ok : List α → Prop} {w0 : World} (hseq : SeqX t P gf lb encs Kp S Ok w0)
    (hKt : ∀ {A B C : World}, Kp A B → Kp B C → Kp A C) (hKb : ∀ (W : World) (l : Nat) (o o' : Obj), w.heap.size ≤ l → W.heap[l]? = some o → o.isCells = false → o.isWalk = false → Kp W (W.putObj l o'))
    (hb0 : Below w0.heap.size w0 w) (hps : ∀ x, (encs x).size = ps.size)
    (I : List α → World → Prop) (Ip : List PanicEntry → List α → World → Prop) (hI : OwnT t w.heap.size I) (h0 : I [] w) (Ax : α → Act → World → Prop)
    (hAx : ∀ x a' (W : World) l o o', Ax x a' W → W.heap[l]? = some o → o.isCells = false → Ax x a' (W.putObj l o'))
    (hassign : ∀ (l : Nat) (pre : List α) (x : α) (W : World), I pre W → Ok (pre ++ [x]) →
      assign.wpIn (Fence.wide.inRound l) 3 P (Exit.then (fun a' W' => KeepsFrom w.heap.size W W' ∧ Kp W W' ∧ I pre W' ∧ Ax x a' W') (fun _ _ _ => False)) { tmps := (ps.zip (encs x)).foldl (fun t (p, v) => t.setIfInBounds p v) a.tmps, defers := [] } W)
    (hbody : ∀ (l : Nat) (pre : List α) (x : α) (a' : Act) (W : World), I pre W → Ax x a' W → Ok (pre ++ [x]) → body.wpIn (Fence.wide.inRound l) 3 P (postX w.heap.size Kp I Ip (pre ++ [x]) W) a' W)
    (hdone : ∀ (D : Nat) (xs : List α) (W : World), w.heap.size ≤ D → S xs → I xs W → W.heap[D]? = some (.deferred (some [])) → Q .normal { a with defers := { target := .collected D, args := #[] } :: a.defers } W)
    (hpan : ∀ (D : Nat) (ch : List PanicEntry) (pre : List α) (W : World), w.heap.size ≤ D → Ip ch pre W → W.heap[D]? = some (.deferred (some [])) → Q (.panic ch) { a with defers := { target := .collected D, args := #[] } :: a.defers } W) :
    wpAt f P (.rangeFunc g ps assign body) Q a w := by
  generalize hD : w.heap.size = D
  rw [hD] at hKb hI hassign hbody hdone hpan
  let R := recT f a.tmps ps assign body D
  obtain ⟨W1, hW1⟩ : ∃ W1, (w.alloc (.deferred (some []))).alloc (R .ready none) = W1 := ⟨_, rfl⟩
  have e0 : W1.heap[D + 1]? = some (R .ready none) := by
    have h := World.alloc_heap_new (w.alloc (.deferred (some []))) (R .ready none)
    rw [World.size_alloc, hD, hW1] at h
    exact h
  have e1 : W1.heap[D]? = some (.deferred (some [])) := by
    have h := Below.heap_alloc (w.alloc (.deferred (some []))) (R .ready none) D (by simp; omega)
    rw [hW1] at h
    exact h.trans (hD ▸ World.alloc_heap_new w _)
  have e2 : W1.heap.size = D + 2 := by rw [← hW1]; simp; omega
  have e3 : I [] W1 := by rw [← hW1]; exact hI.new _ (hI.new _ h0)
  have e4 : Below w0.heap.size w0 W1 := by rw [← hW1]; exact (hb0.alloc hb0.size _).alloc (by have := hb0.size; simp; omega) _
  refine wpAt_range (n := 4) (l := D + 1) (mk := [{ target := .collected D, args := #[] }]) (w1 := W1) (w1' := W1) (w2 := W1) (d := { target := .fn (.func gf) lb, args := #[.func (.yield (D + 1)) #[] #[]] }) (gf := gf) (args := #[.func (.yield (D + 1)) #[] #[]] ++ lb) ?_ ?_ ?_ ?_
  · rw [run_enterLoop_outer, hD, ← hW1]
    rfl
  · simp only [resolve, hg]
    simp [go_sem]
  · simp [invoke, go_sem, eg]
  have hJ : StaysT t W1.heap.size fun pre W => I pre W ∧ W.heap[D + 1]? = some (R .ready none) ∧ W.heap[D]? = some (.deferred (some [])) := fun s A B row hs hgr hr =>
    ⟨hI.turn (by omega) s A B row hs.1 hgr hr, turn_other hgr hr hs.2.1 recT_not, turn_other hgr hr hs.2.2 deferred_not⟩
  refine (hseq (D + 1) _ (fun ch pre W => Ip ch pre W ∧ W.heap[D]? = some (.deferred (some []))) W1 e4 hJ ?_ ⟨e3, e0, e1⟩).mono ?_
  · rintro pre x W ⟨hi, hl, hk⟩ hlen
    refine ⟨f, _, assign, body, run_yield (P := P) (args := encs x) hl (hps x), (round_x (Rn := fun W' => (I (pre ++ [x]) W' ∧ W'.heap[D + 1]? = some (R .ready none) ∧ W'.heap[D]? = some (.deferred (some []))) ∧ Kp W W') (Rp := fun ch W' => Ip ch (pre ++ [x]) W' ∧ W'.heap[D]? = some (.deferred (some []))) hf (wpIn_mono (hassign _ pre x W hi hlen) ?_)).mono ?_⟩
    · intro e a' Wa hq
      rcases e with _ | id | g' | _ | ch | _
      case normal =>
        obtain ⟨ka, kpa, ia, ax⟩ := hq
        have hla := ka.same _ _ (by omega) hl rfl
        have hka := ka.same _ _ (Nat.le_refl _) hk rfl
        have hlt := (Array.getElem?_eq_some_iff.1 hla).1
        refine ⟨_, run_beginRound hla rfl, ?_⟩
        have hl2 : (Wa.putObj (D + 1) (R .busy none)).heap[D + 1]? = some (R .busy none) := World.putObj_heap_same hlt
        have hk2 : (Wa.putObj (D + 1) (R .busy none)).heap[D]? = some (.deferred (some [])) := (World.putObj_heap_other (by omega)).trans hka
        have hw2 : Kp W (Wa.putObj (D + 1) (R .busy none)) := hKt kpa (hKb _ _ _ _ (by omega) hla rfl rfl)
        refine wpIn_mono (hbody _ pre x a' _ (hI.put _ ia (by omega) hla rfl) (hAx _ _ _ _ _ _ ax hla rfl) hlen) ?_
        intro e a3 W3 hp
        rcases e with _ | id | g' | _ | ch | _
        case normal =>
          obtain ⟨k3, kp3, i3⟩ := hp
          have l3 := k3.same _ _ (by omega) hl2 rfl
          exact .inl ⟨rfl, _, run_endRound (P := P) none l3, ⟨hI.put _ i3 (by omega) l3 rfl, World.putObj_heap_same (Array.getElem?_eq_some_iff.1 l3).1, (World.putObj_heap_other (by omega)).trans (k3.same _ _ (Nat.le_refl _) hk2 rfl)⟩, hKt (hKt hw2 kp3) (hKb _ _ _ _ (by omega) l3 rfl rfl)⟩
        case panic =>
          obtain ⟨hd, k3, i3⟩ := hp
          exact .inr ⟨ch, rfl, hd, i3, k3.same _ _ (Nat.le_refl _) hk2 rfl⟩
        all_goals exact hp.elim
      all_goals exact hq.elim
    · rintro e W' (⟨rfl, h⟩ | ⟨ch, rfl, h⟩)
      · exact .inl ⟨rfl, h⟩
      · exact .inr ⟨ch, rfl, h⟩
  · rintro e W2 (⟨v, xs, rfl, hS, hi, hl, hk⟩ | ⟨ch, pre, rfl, hi, hk⟩)
    · exact .inl ⟨v, _, rfl, run_endLoop (P := P) hl (fun h => by cases h), hdone _ xs _ (Nat.le_refl _) hS (hI.put _ hi (by omega) hl rfl) ((World.putObj_heap_other (by omega)).trans hk)⟩
    · exact .inr ⟨ch, rfl, hpan _ ch pre _ (Nat.le_refl _) hi hk⟩

end Go.Proofs.Ytbhnlmlaebngmaa
