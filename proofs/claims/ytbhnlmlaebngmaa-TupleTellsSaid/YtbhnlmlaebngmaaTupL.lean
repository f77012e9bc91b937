/-
  What the laws of tuples ask, plainly.
-/
import Derived.Test.YtbhnlmlaebngmaaTupW
namespace Go.Proofs.Ytbhnlmlaebngmaa
open Go.RowKit
set_option linter.unusedVariables false
set_option linter.unusedSimpArgs false

theorem place_twoT {n : Nat} (hn : n ≤ 100000) (h : 0 < n) (a : Int) : ∃ (q : Int) (k : Nat), Int.tmod a (n : Int) = q ∧ wrap64 (q + (n : Int)) = q + (n : Int) ∧ Int.tmod (q + (n : Int)) (n : Int) = (k : Int) ∧ (q + (n : Int)) % (n : Int) = (k : Int) ∧ k < n := by
  have h0 : (0 : Int) < (n : Int) := by omega
  have h1 := Int.lt_tmod_of_pos a h0
  have h1' := Int.tmod_lt_of_pos a h0
  have h2 := Int.tmod_nonneg (n : Int) (show 0 ≤ Int.tmod a (n : Int) + (n : Int) by omega)
  have h3 := Int.tmod_lt_of_pos (Int.tmod a (n : Int) + (n : Int)) h0
  have h4 : Int.tmod (Int.tmod a (n : Int) + (n : Int)) (n : Int) = (Int.tmod a (n : Int) + (n : Int)) % (n : Int) := Int.tmod_eq_emod_of_nonneg (by omega)
  exact ⟨_, (Int.tmod (Int.tmod a (n : Int) + (n : Int)) (n : Int)).toNat, rfl, by unfold wrap64; omega, by omega, by omega, by omega⟩
theorem neq_same (s : StP) (w : World) : (binOp .neq 23 (.agg #[.int .i64 s.ix, .int .i64 s.tm, .int .i64 s.sm, .int .i64 s.lv, .bool s.fn]) (.agg #[.int .i64 s.ix, .int .i64 s.tm, .int .i64 s.sm, .int .i64 s.lv, .bool s.fn])).run Try.prog w = .ok (.bool false) w := by
  rw [run_neq_struct, run_equalIn_agg w 9999 _ _ _ (by kernel_rfl) (by kernel_rfl), fields_st]
  simp [Op.eqFields, part, go_sem]
theorem next_ix {s : StP} {e : EnP} (hf : FineP s) (hr : RightP e) (hx : s.ix < 1073741824) : (nextP s e).ix = s.ix + 1 ∧ (nextP s e).tm = e.tm := by
  rw [next_yes ⟨hf, hr, by omega⟩]
  exact does_ix _ _ _
/-- What a tuple's first entries come to. -/
theorem all_at {t : TupP} (h : MayT t) : ∀ {p : Nat}, p ≤ t.lg.length → (allP t.sn (t.lg.take p)).ix = t.sn.ix + (p : Int) ∧ (allP t.sn (t.lg.take p)).tm = lastTm t.sn.tm (t.lg.take p) ∧ FineP (allP t.sn (t.lg.take p))
  | 0, _ => ⟨by simp [allP], rfl, by simpa [allP] using h.fine⟩
  | p + 1, hp => by
    obtain ⟨h1, h2, h3⟩ := all_at h (p := p) (by omega)
    have he := List.getElem?_eq_getElem (show p < t.lg.length by omega)
    have ht := take_succ he
    have hr := h.ents _ (List.mem_of_getElem? he)
    have hi := h.ix
    have hw := h.few
    rw [ht, all_snoc, lastTm_snoc]
    obtain ⟨k1, k2⟩ := next_ix h3 hr (by rw [h1]; omega)
    exact ⟨by rw [k1, h1]; push_cast; omega, k2, all_fine [_] h3⟩
theorem term_at {t : TupP} {p : Nat} (hp : p ≤ t.lg.length) : termAtP t (t.sn.ix + (p : Int)) = some (lastTm t.sn.tm (t.lg.take p)) := by
  cases p with
  | zero => unfold termAtP; rw [if_pos (by simp)]; rfl
  | succ p =>
    have he := List.getElem?_eq_getElem (show p < t.lg.length by omega)
    unfold termAtP
    rw [if_neg (by push_cast; omega), at_in (k := p) (by push_cast; omega), he, take_succ he, lastTm_snoc]
    rfl
theorem term_out {t : TupP} {i : Int} (h : i < t.sn.ix ∨ lastT t < i) : termAtP t i = none := by
  unfold termAtP
  unfold lastT at h
  rw [if_neg (by omega)]
  rcases h with h | h
  · rw [at_low (by omega)]; rfl
  · rw [at_high h]; rfl
theorem state_at {t : TupP} {p : Nat} (hp : p ≤ t.lg.length) : stateP t (t.sn.ix + (p : Int)) = some (allP t.sn (t.lg.take p)) :=
  state_yes (by unfold lastT; omega) (by omega)
/-- Saved at an index. -/
theorem save_may {t : TupP} (h : MayT t) {p : Nat} (hp : p ≤ t.lg.length) (hx : t.sn.ix + (p : Int) ≤ 1073740824) :
    SaveIs t (allP t.sn (t.lg.take p)) { t with sn := allP t.sn (t.lg.take p), lg := t.lg.drop p } 0 := by
  obtain ⟨h1, h2, h3⟩ := all_at h hp
  have hs : saveT t (allP t.sn (t.lg.take p)) = { t with sn := allP t.sn (t.lg.take p), lg := t.lg.drop p } := by
    unfold saveT
    rw [h1, show (t.sn.ix + (p : Int) - t.sn.ix).toNat = p by omega]
  have hr := h.rise
  rw [← List.take_append_drop p t.lg, rise_append] at hr
  have ht : lastTm (lastTm t.sn.tm (t.lg.take p)) (t.lg.drop p) = lastTm t.sn.tm t.lg := by rw [← lastTm_append, List.take_append_drop]
  refine .inl ⟨⟨by rw [h1, h2]; exact term_at hp, h3⟩, h, ?_, hs.symm, rfl⟩
  rw [hs]
  exact ⟨h3, by rw [h1]; exact hx, by simp only [List.length_drop]; have := h.few; omega, h.vt, fun e he => h.ents e (List.mem_of_mem_drop he), by rw [h2]; exact hr.2, by rw [h2, ht]; exact h.tm⟩
theorem save_not {t : TupP} (h : MayT t) {p : Nat} (hp : p ≤ t.lg.length) (hx : ¬ t.sn.ix + (p : Int) ≤ 1073740824) : SaveIs t (allP t.sn (t.lg.take p)) t 2 := by
  obtain ⟨h1, h2, h3⟩ := all_at h hp
  exact .inr ⟨fun k => hx (by have := k.2.2.ix; simp only [saveT] at this; rw [h1] at this; exact this), rfl, rfl⟩
/-- States, terms of indices above are as they were. -/
theorem saved_at {t : TupP} (h : MayT t) {p q : Nat} (hp : p ≤ t.lg.length) (hq : q ≤ t.lg.length) {S : StP} (hS : S = allP t.sn (t.lg.take p)) {o : TupP} (ho : o = { t with sn := S, lg := t.lg.drop p }) :
    stateP o (t.sn.ix + (q : Int)) = (if p ≤ q then some (allP t.sn (t.lg.take q)) else none) ∧ termAtP o (t.sn.ix + (q : Int)) = (if p ≤ q then some (lastTm t.sn.tm (t.lg.take q)) else none) := by
  obtain ⟨h1, h2, h3⟩ := all_at h hp
  subst hS ho
  by_cases hpq : p ≤ q
  · rw [if_pos hpq, if_pos hpq]
    obtain ⟨r, rfl⟩ : ∃ r, q = p + r := ⟨q - p, by omega⟩
    have he : t.sn.ix + ((p + r : Nat) : Int) = (allP t.sn (t.lg.take p)).ix + (r : Int) := by rw [h1]; push_cast; omega
    have hl : r ≤ (t.lg.drop p).length := by rw [List.length_drop]; omega
    have ht : t.lg.take (p + r) = t.lg.take p ++ (t.lg.drop p).take r := List.take_add
    constructor
    · rw [he]
      refine (state_at (t := { t with sn := allP t.sn (t.lg.take p), lg := t.lg.drop p }) hl).trans ?_
      simp only
      rw [← all_append, ← ht]
    · rw [he]
      refine (term_at (t := { t with sn := allP t.sn (t.lg.take p), lg := t.lg.drop p }) hl).trans ?_
      simp only
      rw [h2, ← lastTm_append, ← ht]
  · rw [if_neg hpq, if_neg hpq]
    exact ⟨state_no (.inl (by simp only; rw [h1]; omega)), term_out (.inl (by simp only; rw [h1]; omega))⟩
end Go.Proofs.Ytbhnlmlaebngmaa
