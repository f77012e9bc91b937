/-
  What numbers a manifest's bytes tell, plainly.
-/
import Derived.Test.YtafeadplmcoilaaDoorTakesN
import Derived.Test.YtafeadplmcoilaaDoorChkI
import Derived.Test.YtafeadplmcoilaaDoorManP
import Derived.Test.YtafeadplmcoilaaDoorNumbd
namespace Go.Proofs.YtafeadplmcoilaaDoor
open Go.RowKit
set_option linter.unusedVariables false
set_option linter.unusedSimpArgs false

def segOf (c : List Int) : SegP := ⟨c[0]?.getD 0, c[1]?.getD 0, c[2]?.getD 0, c[3]?.getD 0 - 1⟩
def segsOf (l : List Int) : List SegP := (chunks 4 l).map segOf
theorem segs_nums : ∀ (k : Nat) (l : List Int), l.length = 4 * k → (segsOf l).flatMap segN = l ∧ (segsOf l).length = k
  | 0, l, h => by
    obtain rfl : l = [] := List.eq_nil_of_length_eq_zero (by omega)
    unfold segsOf
    rw [chunks_nil]
    exact ⟨rfl, rfl⟩
  | k + 1, l, h => by
    match l, h with
    | a :: b :: c :: d :: t, h =>
      have ih := segs_nums k t (by simp at h; omega)
      unfold segsOf at ih ⊢
      rw [chunks_cons (by simp) (by omega)]
      simp only [List.take_succ_cons, List.take_zero, List.drop_succ_cons, List.drop_zero, List.map_cons, List.flatMap_cons, List.length_cons]
      refine ⟨?_, by rw [ih.2]⟩
      rw [ih.1]
      simp [segOf, segN]
    | [], h => simp at h
    | [_], h => simp at h; omega
    | [_, _], h => simp at h; omega
    | [_, _, _], h => simp at h; omega
def manOf (o l : List Int) : ManP := ⟨o[0]?.getD 0, o[1]?.getD 0, o[2]?.getD 0, o[3]?.getD 0, o[4]?.getD 0, segsOf l⟩
theorem list6 {α : Type} (l : List α) (h : l.length = 6) : ∃ a b c d e f, l = [a, b, c, d, e, f] := by
  match l, h with
  | [a, b, c, d, e, f], _ => exact ⟨a, b, c, d, e, f, rfl⟩
theorem head_of {o l : List Int} {k : Nat} (ho : o.length = 6) (h5 : o[5]?.getD 0 = (k : Int)) (hl : l.length = 4 * k) : numsM (manOf o l) = o ++ l := by
  obtain ⟨a, b, c, d, e, f, rfl⟩ := list6 o ho
  have h1 := segs_nums k l hl
  simp at h5
  subst h5
  simp only [numsM, headN, manOf, h1.1, h1.2]
  simp
theorem all_append {l k : List Int} : Nu.allNum (l ++ k) = true ↔ Nu.allNum l = true ∧ Nu.allNum k = true := by simp [Nu.allNum, List.all_append]
/-- What stands there: the numbers of one, or of none that may be. -/
def ReadIs (b : List Int) (m : ManP) (ok : Bool) : Prop :=
  (ok = true ∧ Nu.allNum (numsM m) = true ∧ b = Nu.shortsOf (numsM m) ∧ m.sg.length ≤ 60) ∨ (ok = false ∧ m = noneM ∧ ∀ t, May t → b ≠ Nu.shortsOf (numsM t))
theorem read_yes {b o r l : List Int} {k : Nat} (hb : Byt b) (h1 : Nu.takesP b 6 = (o, r, 0)) (h5 : o[5]?.getD 0 = (k : Int)) (hk : k ≤ 60) (h2 : Nu.takesP r ((k * 4 : Nat) : Int) = (l, [], 0)) : ReadIs b (manOf o l) true := by
  obtain ⟨ho, ha, e⟩ := Nu.takesP_back (k := 6) hb h1
  have hr : Byt r := fun x hx => hb x (by rw [e]; exact List.mem_append_right _ hx)
  obtain ⟨hl, hc, e2⟩ := Nu.takesP_back hr h2
  rw [List.append_nil] at e2
  have e3 := head_of ho h5 (l := l) (by omega)
  refine .inl ⟨rfl, by rw [e3]; exact all_append.2 ⟨ha, hc⟩, by rw [e3, shortsOf_append, ← e2]; exact e, ?_⟩
  have := (segs_nums k l (by omega)).2
  show (segsOf l).length ≤ 60
  omega
theorem man_takes {t : ManP} (ht : May t) : Nu.takesP (Nu.shortsOf (numsM t)) 6 = (headN t, Nu.shortsOf (t.sg.flatMap segN), 0) := by
  have h := Nu.takesP_short (head_all ht) (Nu.shortsOf (t.sg.flatMap segN))
  rw [← shortsOf_append] at h
  exact h
theorem read_no1 {b : List Int} (h : (Nu.takesP b 6).2.2 ≠ 0) : ReadIs b noneM false := .inr ⟨rfl, rfl, fun t ht e => h (by rw [e, man_takes ht])⟩
theorem read_no2 {b o r : List Int} (h1 : Nu.takesP b 6 = (o, r, 0)) (h5 : (60 : Int) < o[5]?.getD 0) : ReadIs b noneM false := .inr ⟨rfl, rfl, fun t ht e => by
  rw [e, man_takes ht] at h1
  simp only [Prod.mk.injEq, and_true] at h1
  rw [← h1.1] at h5
  have := ht.few
  simp [headN] at h5
  omega⟩
theorem read_no3 {b o r : List Int} {k : Nat} (h1 : Nu.takesP b 6 = (o, r, 0)) (h5 : o[5]?.getD 0 = (k : Int)) (h2 : (Nu.takesP r ((k * 4 : Nat) : Int)).2.2 ≠ 0 ∨ (Nu.takesP r ((k * 4 : Nat) : Int)).2.1 ≠ []) : ReadIs b noneM false := .inr ⟨rfl, rfl, fun t ht e => by
  rw [e, man_takes ht] at h1
  simp only [Prod.mk.injEq, and_true] at h1
  obtain ⟨h1, h3⟩ := h1
  rw [← h1] at h5
  have hk : t.sg.length = k := by simp [headN] at h5; omega
  have h4 := Nu.takesP_short (segs_all ht) []
  rw [List.append_nil, segN_len, hk, h3] at h4
  rw [show k * 4 = 4 * k by omega, h4] at h2
  simp at h2⟩
theorem nums_inj {m t : ManP} (hm : Nu.allNum (numsM m) = true) (ht : Nu.allNum (numsM t) = true) (h : Nu.shortsOf (numsM m) = Nu.shortsOf (numsM t)) : m = t := by
  have am := all_append.1 hm
  have at_ := all_append.1 ht
  rw [numsM, numsM, shortsOf_append, shortsOf_append] at h
  obtain ⟨h1, h2⟩ := shorts_same am.1 at_.1 rfl h
  simp only [headN, List.cons.injEq, and_true] at h1
  obtain ⟨e1, e2, e3, e4, e5, e6⟩ := h1
  have hl : m.sg.length = t.sg.length := by omega
  have h2' : Nu.shortsOf (m.sg.flatMap segN) ++ [] = Nu.shortsOf (t.sg.flatMap segN) ++ [] := by rw [h2]
  obtain ⟨h3, _⟩ := shorts_same am.2 at_.2 (by rw [segN_len, segN_len, hl]) h2'
  have h5 := segs_inj hl h3
  obtain ⟨a1, a2, a3, a4, a5, a6⟩ := m
  obtain ⟨b1, b2, b3, b4, b5, b6⟩ := t
  simp only at e1 e2 e3 e4 e5 h5
  subst e1 e2 e3 e4 e5 h5
  rfl
theorem mok_nums {m : ManP} (h : Nu.allNum (numsM m) = true) : MOk m := by
  have key : ∀ x ∈ numsM m, 0 ≤ x ∧ x ≤ 1073741824 := fun x hx => Nu.isNum_iff.1 (List.all_eq_true.1 h x hx)
  intro x hx
  have hn : x.seq ∈ numsM m := by
    unfold filesP at hx
    rcases List.mem_append.1 hx with hx | hx
    · unfold snapF at hx
      split at hx
      · cases hx
      · obtain rfl := List.mem_singleton.1 hx
        simp [numsM, headN]
    · obtain ⟨s, hs, rfl⟩ := List.mem_map.1 hx
      exact List.mem_append_right _ (List.mem_flatMap.2 ⟨s, hs, by simp [segN, segF]⟩)
  have := key _ hn
  omega
theorem seal_of {b : List Int} (h : Cr.okB b = true) : b = sealL (b.take (b.length - 4)) := by
  unfold Cr.okB at h
  rw [Bool.and_eq_true] at h
  exact (Cr.eqB_iff.1 h.2).symm
/-! What Take finds. -/
theorem take_no_seal {b : List Int} (h : Cr.okB b = false) : ∀ t, ¬ IsMan t b := fun t ht => by
  rw [(man_ok ht).1] at h
  cases h
theorem take_no_head {b p : List Int} (hp : b.take (b.length - 4) = p) (h : p[0]? ≠ some 77) : ∀ t, ¬ IsMan t b := fun t ht => by
  rw [(man_ok ht).2] at hp
  subst hp
  exact h rfl
theorem take_no_read {b p : List Int} {m : ManP} (hp : b.take (b.length - 4) = p) (h : ReadIs (p.drop 1) m false) : ∀ t, ¬ IsMan t b := fun t ht => by
  rw [(man_ok ht).2] at hp
  subst hp
  rcases h with ⟨h, _⟩ | ⟨_, _, h⟩
  · cases h
  · exact h t ht.1 rfl
theorem take_no_check {b p : List Int} {m : ManP} (hp : b.take (b.length - 4) = p) (h : ReadIs (p.drop 1) m true) (hm : ¬ May m) : ∀ t, ¬ IsMan t b := fun t ht => by
  rw [(man_ok ht).2] at hp
  subst hp
  rcases h with ⟨_, ha, e, _⟩ | ⟨h, _⟩
  · have e2 : Nu.shortsOf (numsM t) = Nu.shortsOf (numsM m) := e
    exact hm (nums_inj ha (nums_all ht.1) e2.symm ▸ ht.1)
  · cases h
theorem take_yes {b p : List Int} {m : ManP} (hs : Cr.okB b = true) (hp : b.take (b.length - 4) = p) (h0 : p[0]? = some 77) (h : ReadIs (p.drop 1) m true) (hm : May m) : IsMan m b := by
  rcases h with ⟨_, ha, e, _⟩ | ⟨h, _⟩
  · refine ⟨hm, ?_⟩
    rw [seal_of hs, hp, manL]
    congr 1
    cases p with
    | nil => simp at h0
    | cons a r =>
      simp only [List.getElem?_cons_zero, Option.some.injEq] at h0
      rw [List.drop_succ_cons, List.drop_zero] at e
      rw [h0, e, manT]
  · cases h
end Go.Proofs.YtafeadplmcoilaaDoor
