/-
  Tuples, plainly: which may be, what is done to them. No program is named here.
-/
import Derived.Test.YtbhnlmlaebngmaaAllM
namespace Go.Proofs.Ytbhnlmlaebngmaa
open Go.RowKit
set_option linter.unusedVariables false

/-- A tuple: a state, the entries behind it, the term, for whom it voted. -/
structure TupP where
  sn : StP
  lg : List EnP
  tm : Int
  vt : Int
deriving DecidableEq
def noneS : StP := ⟨0, 0, 0, 0, false⟩
def noneT : TupP := ⟨noneS, [], 0, 0⟩
/-- The term of the last one, else a. -/
def lastTm (a : Int) (l : List EnP) : Int := l.foldl (fun _ e => e.tm) a
theorem lastTm_append (a : Int) (l m : List EnP) : lastTm a (l ++ m) = lastTm (lastTm a l) m := List.foldl_append
theorem lastTm_snoc (a : Int) (l : List EnP) (e : EnP) : lastTm a (l ++ [e]) = e.tm := by rw [lastTm_append]; rfl
theorem lastTm_pos {a b : Int} : ∀ {l : List EnP}, l ≠ [] → lastTm a l = lastTm b l
  | [], h => absurd rfl h
  | e :: l, _ => rfl
/-- Terms never fall, from a on. -/
def RiseP (a : Int) (l : List EnP) : Prop := ∀ (k : Nat) (e : EnP), l[k]? = some e → lastTm a (l.take k) ≤ e.tm
structure MayT (t : TupP) : Prop where
  fine : FineP t.sn
  ix : t.sn.ix ≤ 1073740824
  few : t.lg.length ≤ 200
  vt : 0 ≤ t.vt ∧ t.vt ≤ 5
  ents : ∀ e ∈ t.lg, RightP e
  rise : RiseP t.sn.tm t.lg
  tm : lastTm t.sn.tm t.lg ≤ t.tm ∧ 0 ≤ t.tm ∧ t.tm ≤ 1073741824
theorem RiseP.nil (a : Int) : RiseP a [] := fun k e h => by simp at h
theorem rise_append {a : Int} {l m : List EnP} : RiseP a (l ++ m) ↔ RiseP a l ∧ RiseP (lastTm a l) m := by
  constructor
  · intro h
    refine ⟨fun k e he => ?_, fun k e he => ?_⟩
    · have hk := (List.getElem?_eq_some_iff.1 he).1
      have := h k e (by rw [List.getElem?_append_left hk]; exact he)
      rwa [List.take_append_of_le_length (by omega)] at this
    · have := h (l.length + k) e (by rw [List.getElem?_append_right (by omega), Nat.add_sub_cancel_left]; exact he)
      rwa [List.take_append, List.take_of_length_le (by omega), Nat.add_sub_cancel_left, lastTm_append] at this
  · rintro ⟨h1, h2⟩ k e he
    by_cases hk : k < l.length
    · rw [List.getElem?_append_left hk] at he
      rw [List.take_append_of_le_length (by omega)]
      exact h1 k e he
    · rw [List.getElem?_append_right (by omega)] at he
      rw [List.take_append, List.take_of_length_le (by omega), lastTm_append]
      exact h2 _ e he
theorem rise_low {a b : Int} {l : List EnP} (h : RiseP a l) (hb : ∀ e, l[0]? = some e → b ≤ e.tm) : RiseP b l := fun k e he => by
  cases k with
  | zero => exact hb e he
  | succ k =>
    have hne : l.take (k + 1) ≠ [] := fun h0 => by
      have h1 : (l.take (k + 1)).length = 0 := by rw [h0]; rfl
      have h2 := (List.getElem?_eq_some_iff.1 he).1
      rw [List.length_take] at h1
      omega
    rw [lastTm_pos (b := a) hne]
    exact h _ e he
theorem rise_cons {a : Int} {e : EnP} {l : List EnP} : RiseP a (e :: l) ↔ a ≤ e.tm ∧ RiseP e.tm l := by
  rw [show e :: l = [e] ++ l from rfl, rise_append]
  constructor
  · rintro ⟨h1, h2⟩
    exact ⟨h1 0 e rfl, h2⟩
  · rintro ⟨h1, h2⟩
    refine ⟨fun k d hd => ?_, h2⟩
    cases k with
    | zero =>
      obtain rfl : e = d := Option.some.inj hd
      exact h1
    | succ k => simp at hd
theorem rise_last : ∀ {a : Int} {l : List EnP}, RiseP a l → a ≤ lastTm a l
  | a, [], _ => Int.le_refl _
  | a, e :: l, h => by
    obtain ⟨h1, h2⟩ := rise_cons.1 h
    exact Int.le_trans h1 (rise_last h2)
/-- If it is so, and both may be: the new one; else the one that was, and 2. -/
def ToldIs (was t : TupP) (q : Prop) (o : TupP) (er : Int) : Prop := (q ∧ MayT was ∧ MayT t ∧ o = t ∧ er = 0) ∨ (¬ (q ∧ MayT was ∧ MayT t) ∧ o = was ∧ er = 2)
theorem ToldIs.same {was t o o' : TupP} {q : Prop} {e e' : Int} (h : ToldIs was t q o e) (h' : ToldIs was t q o' e') : o = o' ∧ e = e' := by
  rcases h with ⟨a, b, c, rfl, rfl⟩ | ⟨a, rfl, rfl⟩ <;> rcases h' with ⟨a', b', c', rfl, rfl⟩ | ⟨a', rfl, rfl⟩
  · exact ⟨rfl, rfl⟩
  · exact absurd ⟨a, b, c⟩ a'
  · exact absurd ⟨a', b', c'⟩ a
  · exact ⟨rfl, rfl⟩
theorem ToldIs.no {was t o : TupP} {q : Prop} {e : Int} (h : ToldIs was t q o e) (hn : ¬ (q ∧ MayT was ∧ MayT t)) : o = was ∧ e = 2 := by
  rcases h with ⟨a, b, c, -⟩ | ⟨_, h⟩
  · exact absurd ⟨a, b, c⟩ hn
  · exact h
theorem ToldIs.yes {was t o : TupP} {q : Prop} {e : Int} (h : ToldIs was t q o e) (hq : q ∧ MayT was ∧ MayT t) : o = t ∧ e = 0 := by
  rcases h with ⟨_, _, _, h⟩ | ⟨hn, _⟩
  · exact h
  · exact absurd hq hn
theorem ToldIs.iff {was t o : TupP} {q q' : Prop} {e : Int} (h : ToldIs was t q o e) (hq : q ↔ q') : ToldIs was t q' o e := by rwa [show q = q' from propext hq] at h
/-- The last index. -/
def lastT (t : TupP) : Int := t.sn.ix + (t.lg.length : Int)
def atP (t : TupP) (i : Int) : Option EnP := if i ≤ t.sn.ix then none else t.lg[(i - t.sn.ix - 1).toNat]?
def termAtP (t : TupP) (i : Int) : Option Int := if i = t.sn.ix then some t.sn.tm else (atP t i).map EnP.tm
def stateP (t : TupP) (i : Int) : Option StP := if i < t.sn.ix ∨ lastT t < i then none else some (allP t.sn (t.lg.take (i - t.sn.ix).toNat))
def appendT (t : TupP) (l : List EnP) : TupP := { t with lg := t.lg ++ l }
def cutT (t : TupP) (i : Int) : TupP := { t with lg := t.lg.take (i - t.sn.ix - 1).toNat }
def saveT (t : TupP) (s : StP) : TupP := { t with sn := s, lg := t.lg.drop (s.ix - t.sn.ix).toNat }
def goneT (t : TupP) (s : StP) : TupP := { t with sn := s, lg := [] }
def hardT (t : TupP) (a b : Int) : TupP := { t with tm := a, vt := b }
def AppendIs (t : TupP) (l : List EnP) : TupP → Int → Prop := ToldIs t (appendT t l) True
def CutIs (t : TupP) (i : Int) : TupP → Int → Prop := ToldIs t (cutT t i) (t.sn.ix < i ∧ i ≤ lastT t + 1)
def SaveIs (t : TupP) (s : StP) : TupP → Int → Prop := ToldIs t (saveT t s) (termAtP t s.ix = some s.tm ∧ FineP s)
def InstallIs (t : TupP) (s : StP) (o : TupP) (e : Int) : Prop :=
  (termAtP t s.ix = some s.tm ∧ ToldIs t (saveT t s) ((t.sn.ix < s.ix ∧ s.tm ≤ t.tm) ∧ FineP s) o e) ∨ (termAtP t s.ix ≠ some s.tm ∧ ToldIs t (goneT t s) (t.sn.ix < s.ix ∧ s.tm ≤ t.tm) o e)
def HardIs (t : TupP) (a b : Int) : TupP → Int → Prop := ToldIs t (hardT t a b) (t.tm < a ∨ (a = t.tm ∧ (t.vt = 0 ∨ t.vt = b)))
theorem InstallIs.same {t : TupP} {s : StP} {o o' : TupP} {e e' : Int} (h : InstallIs t s o e) (h' : InstallIs t s o' e') : o = o' ∧ e = e' := by
  rcases h with ⟨a, h⟩ | ⟨a, h⟩ <;> rcases h' with ⟨a', h'⟩ | ⟨a', h'⟩
  · exact h.same h'
  · exact absurd a a'
  · exact absurd a' a
  · exact h.same h'
theorem install_no {t : TupP} {s : StP} (h : ¬ (t.sn.ix < s.ix ∧ s.tm ≤ t.tm)) : InstallIs t s t 2 := by
  by_cases ht : termAtP t s.ix = some s.tm
  · exact .inl ⟨ht, .inr ⟨fun k => h k.1.1, rfl, rfl⟩⟩
  · exact .inr ⟨ht, .inr ⟨fun k => h k.1, rfl, rfl⟩⟩
def riseB : Int → List EnP → Bool
  | _, [] => true
  | a, e :: l => decide (a ≤ e.tm) && riseB e.tm l
theorem rise_iff : ∀ {a : Int} {l : List EnP}, riseB a l = true ↔ RiseP a l
  | a, [] => ⟨fun _ => RiseP.nil a, fun _ => rfl⟩
  | a, e :: l => by
    rw [rise_cons, ← rise_iff (l := l)]
    simp [riseB]
instance (t : TupP) : Decidable (MayT t) :=
  decidable_of_iff (FineP t.sn ∧ t.sn.ix ≤ 1073740824 ∧ t.lg.length ≤ 200 ∧ (0 ≤ t.vt ∧ t.vt ≤ 5) ∧ (∀ e ∈ t.lg, RightP e) ∧ riseB t.sn.tm t.lg = true ∧ lastTm t.sn.tm t.lg ≤ t.tm ∧ 0 ≤ t.tm ∧ t.tm ≤ 1073741824)
    ⟨fun h => ⟨h.1, h.2.1, h.2.2.1, h.2.2.2.1, h.2.2.2.2.1, rise_iff.1 h.2.2.2.2.2.1, h.2.2.2.2.2.2⟩, fun h => ⟨h.fine, h.ix, h.few, h.vt, h.ents, rise_iff.2 h.rise, h.tm⟩⟩
end Go.Proofs.Ytbhnlmlaebngmaa
