/-
  What TupleInstalls asks, plainly.
-/
import Derived.Test.YtbhnlmlaebngmaaTupL
namespace Go.Proofs.Ytbhnlmlaebngmaa
open Go.RowKit
set_option linter.unusedVariables false

theorem inst_refuse {t : TupP} {s : StP} (hc : s.ix ≤ t.sn.ix ∨ 1073740824 < s.ix ∨ t.tm < s.tm) : InstallIs t s t 2 := by
  by_cases h : t.sn.ix < s.ix ∧ s.tm ≤ t.tm
  · have hx : 1073740824 < s.ix := by omega
    by_cases ht : termAtP t s.ix = some s.tm
    · exact .inl ⟨ht, .inr ⟨fun k => by have := k.2.2.ix; simp only [saveT] at this; omega, rfl, rfl⟩⟩
    · exact .inr ⟨ht, .inr ⟨fun k => by have := k.2.2.ix; simp only [goneT] at this; omega, rfl, rfl⟩⟩
  · exact install_no h
theorem last_at {t : TupP} {k : Nat} {e : EnP} (h1 : 1 ≤ k) (he : t.lg[k - 1]? = some e) : lastTm t.sn.tm (t.lg.take k) = e.tm := by
  have h := take_succ he
  rw [show k - 1 + 1 = k by omega] at h
  rw [h, lastTm_snoc]
theorem inst_save {t : TupP} {s : StP} (h : MayT t) (hf : FineP s) {k : Nat} (hk : (k : Int) = s.ix - t.sn.ix) (h1 : 1 ≤ k) (h2 : k ≤ t.lg.length) {e : EnP} (he : t.lg[k - 1]? = some e) (htm : e.tm = s.tm) (hx : s.ix ≤ 1073740824) (ht : s.tm ≤ t.tm) :
    InstallIs t s { t with sn := s, lg := t.lg.drop k } 0 := by
  have hla := last_at h1 he
  have hi : s.ix = t.sn.ix + (k : Int) := by omega
  have hte : termAtP t s.ix = some s.tm := by rw [hi, term_at h2, hla, htm]
  have hs : saveT t s = { t with sn := s, lg := t.lg.drop k } := by
    unfold saveT
    rw [show (s.ix - t.sn.ix).toNat = k by omega]
  have hr := h.rise
  rw [← List.take_append_drop k t.lg, rise_append, hla, htm] at hr
  have hl : lastTm s.tm (t.lg.drop k) = lastTm t.sn.tm t.lg := by
    rw [← htm, ← hla, ← lastTm_append, List.take_append_drop]
  refine .inl ⟨hte, .inl ⟨⟨⟨by omega, ht⟩, hf⟩, h, ?_, hs.symm, rfl⟩⟩
  rw [hs]
  exact ⟨hf, hx, by simp only [List.length_drop]; have := h.few; omega, h.vt, fun d hd => h.ents d (List.mem_of_mem_drop hd), hr.2, by simp only; rw [hl]; exact h.tm⟩
theorem inst_gone {t : TupP} {s : StP} (h : MayT t) (hf : FineP s) (hl : t.sn.ix < s.ix) (hno : termAtP t s.ix ≠ some s.tm) (hx : s.ix ≤ 1073740824) (ht : s.tm ≤ t.tm) :
    InstallIs t s { t with sn := s, lg := [] } 0 := by
  have htm := h.tm
  exact .inr ⟨hno, .inl ⟨⟨hl, ht⟩, h, ⟨hf, hx, by simp [goneT], h.vt, fun d hd => by simp [goneT] at hd, RiseP.nil _, ⟨ht, htm.2⟩⟩, rfl, rfl⟩⟩
theorem term_else {t : TupP} {s : StP} {k : Nat} (hk : (k : Int) = s.ix - t.sn.ix) (h1 : 1 ≤ k) (hc : t.lg.length < k ∨ ∃ e, t.lg[k - 1]? = some e ∧ e.tm ≠ s.tm) : termAtP t s.ix ≠ some s.tm := by
  have hi : s.ix = t.sn.ix + (k : Int) := by omega
  rcases hc with h | ⟨e, he, hne⟩
  · rw [term_out (.inr (by unfold lastT; omega))]
    simp
  · have hl := (List.getElem?_eq_some_iff.1 he).1
    rw [hi, term_at (by omega), last_at h1 he]
    simpa using hne
end Go.Proofs.Ytbhnlmlaebngmaa
