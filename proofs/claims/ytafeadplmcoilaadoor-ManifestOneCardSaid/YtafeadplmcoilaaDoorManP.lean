/-
  Manifests, plainly: which may be, their bytes, what is taken, a byte that is another one, one more, one fewer. No program is named here.
-/
import Derived.Test.YtafeadplmcoilaaDoorSealP
import Derived.Test.YtafeadplmcoilaaDoorManD
namespace Go.Proofs.YtafeadplmcoilaaDoor
open Go.RowKit
set_option linter.unusedVariables false

def segN (s : SegP) : List Int := [s.sq, s.fm, s.fi, s.ct + 1]
def headN (m : ManP) : List Int := [m.nx, m.tm, m.vt, m.ss, m.sf, (m.sg.length : Int)]
def numsM (m : ManP) : List Int := headN m ++ m.sg.flatMap segN
def manT (m : ManP) : List Int := 77 :: Nu.shortsOf (numsM m)
def manL (m : ManP) : List Int := sealL (manT m)
def PutIs (m : ManP) (L : List Int) (e : Int) : Prop := (May m ∧ L = manL m ∧ e = 0) ∨ (¬ May m ∧ L = [] ∧ e = 2)
/-- b are the bytes of m. -/
def IsMan (m : ManP) (b : List Int) : Prop := May m ∧ b = manL m
def TakeIs (b : List Int) (m : ManP) (e : Int) : Prop := (e = 0 ∧ IsMan m b) ∨ (e = 11 ∧ m = noneM ∧ ∀ t, ¬ IsMan t b)

theorem PutIs.same {m : ManP} {L K : List Int} {e d : Int} (h : PutIs m L e) (h' : PutIs m K d) : L = K ∧ e = d := by
  rcases h with ⟨h, rfl, rfl⟩ | ⟨h, rfl, rfl⟩ <;> rcases h' with ⟨h', rfl, rfl⟩ | ⟨h', rfl, rfl⟩
  · exact ⟨rfl, rfl⟩
  · exact absurd h h'
  · exact absurd h' h
  · exact ⟨rfl, rfl⟩
theorem shortsOf_append (l m : List Int) : Nu.shortsOf (l ++ m) = Nu.shortsOf l ++ Nu.shortsOf m := by simp [Nu.shortsOf]
theorem seg_all {m : ManP} {i : Nat} {s : SegP} (hm : May m) (h : SegM m i s) : Nu.allNum (segN s) = true := by
  have h1 := h.file
  have h2 := h.first
  have h3 := h.count
  have h4 := hm.nx
  unfold FileM at h1
  simp only [Nu.allNum, segN, List.all_cons, List.all_nil, Bool.and_true, Bool.and_eq_true, Nu.isNum_iff]
  refine ⟨?_, ?_, ?_, ?_⟩ <;> omega
theorem head_all {m : ManP} (hm : May m) : Nu.allNum (headN m) = true := by
  have h0 := hm.nx
  have h1 := hm.tm
  have h2 := hm.vt
  have h3 := hm.few
  have h4 := hm.snap
  unfold FileM at h4
  simp only [Nu.allNum, headN, List.all_cons, List.all_nil, Bool.and_true, Bool.and_eq_true, Nu.isNum_iff]
  refine ⟨?_, ?_, ?_, ?_, ?_, ?_⟩ <;> omega
theorem segs_all {m : ManP} (hm : May m) : Nu.allNum (m.sg.flatMap segN) = true := by
  rw [Nu.allNum, List.all_eq_true]
  intro x hx
  obtain ⟨s, hs, hx⟩ := List.mem_flatMap.1 hx
  obtain ⟨i, hi⟩ := List.getElem?_of_mem hs
  exact List.all_eq_true.1 (seg_all hm (hm.segs i s hi)) x hx
theorem nums_all {m : ManP} (hm : May m) : Nu.allNum (numsM m) = true := by
  have h1 := head_all hm
  have h2 := segs_all hm
  rw [Nu.allNum] at *
  rw [numsM, List.all_append, h1, h2]
  rfl
theorem segN_len (l : List SegP) : (l.flatMap segN).length = 4 * l.length := by
  induction l with
  | nil => rfl
  | cons a l ih => rw [List.flatMap_cons, List.length_append, ih, List.length_cons]; simp [segN]; omega
theorem numsM_len (m : ManP) : (numsM m).length = 6 + 4 * m.sg.length := by rw [numsM, List.length_append, segN_len]; rfl
theorem manT_byt {m : ManP} (hm : May m) : Byt (manT m) := byt_cons (by omega) (shorts_byt (nums_all hm))
theorem manL_byt {m : ManP} (hm : May m) : Byt (manL m) := (manT_byt hm).append (Cr.fourI_byt (Cr.sumI_range _))
theorem manL_len (m : ManP) : (manL m).length = (manT m).length + 4 := by rw [manL, sealL, List.length_append, fourI_length]
theorem manT_len {m : ManP} (hm : May m) : 2 ≤ (manT m).length ∧ (manT m).length ≤ 1231 := by
  have h1 := Nu.shortsOf_length (nums_all hm)
  have h3 := hm.few
  rw [numsM_len] at h1
  have h2 := (Nu.cnt_bd (n := m.nx) (by have := hm.nx; omega) (by have := hm.nx; omega)).1
  have h4 : (Nu.shortsOf (numsM m)).length = Nu.cnt m.nx + (Nu.shortsOf ((headN m).drop 1 ++ m.sg.flatMap segN)).length := by
    rw [show numsM m = m.nx :: ((headN m).drop 1 ++ m.sg.flatMap segN) from rfl, show Nu.shortsOf (m.nx :: ((headN m).drop 1 ++ m.sg.flatMap segN)) = Nu.shortOf m.nx ++ Nu.shortsOf ((headN m).drop 1 ++ m.sg.flatMap segN) from rfl, List.length_append, Nu.shortOf_length]
  rw [manT, List.length_cons]
  omega
theorem segN_inj {s t : SegP} (h : segN s = segN t) : s = t := by
  obtain ⟨a, b, c, d⟩ := s
  obtain ⟨a', b', c', d'⟩ := t
  simp only [segN, List.cons.injEq, and_true] at h
  obtain ⟨rfl, rfl, rfl, h⟩ := h
  obtain rfl : d = d' := by omega
  rfl
theorem segs_inj : ∀ {l k : List SegP}, l.length = k.length → l.flatMap segN = k.flatMap segN → l = k
  | [], [], _, _ => rfl
  | [], _ :: _, h, _ => by simp at h
  | _ :: _, [], h, _ => by simp at h
  | a :: l, b :: k, h, e => by
    rw [List.flatMap_cons, List.flatMap_cons] at e
    obtain ⟨e1, e2⟩ := List.append_inj e rfl
    rw [segN_inj e1, segs_inj (by simpa using h) e2]
/-- What begins with the numbers of one begins with those of no other. -/
theorem man_same {m t : ManP} (hm : May m) (ht : May t) {r s : List Int} (h : Nu.shortsOf (numsM m) ++ r = Nu.shortsOf (numsM t) ++ s) : m = t ∧ r = s := by
  rw [numsM, numsM, shortsOf_append, shortsOf_append, List.append_assoc, List.append_assoc] at h
  obtain ⟨h1, h2⟩ := shorts_same (head_all hm) (head_all ht) rfl h
  simp only [headN, List.cons.injEq, and_true] at h1
  obtain ⟨e1, e2, e3, e4, e5, e6⟩ := h1
  have hl : m.sg.length = t.sg.length := by omega
  obtain ⟨h3, h4⟩ := shorts_same (segs_all hm) (segs_all ht) (by rw [segN_len, segN_len, hl]) h2
  have h5 := segs_inj hl h3
  obtain ⟨a1, a2, a3, a4, a5, a6⟩ := m
  obtain ⟨b1, b2, b3, b4, b5, b6⟩ := t
  simp only at e1 e2 e3 e4 e5 h5
  subst e1 e2 e3 e4 e5 h5
  exact ⟨rfl, h4⟩
theorem manL_eq (m : ManP) : manL m = 77 :: (Nu.shortsOf (numsM m) ++ Cr.fourI (Cr.sumI (manT m))) := rfl
theorem IsMan.same {m t : ManP} {b : List Int} (h : IsMan m b) (h' : IsMan t b) : m = t := by
  have e := h.2.symm.trans h'.2
  rw [manL_eq, manL_eq, List.cons.injEq] at e
  exact (man_same h.1 h'.1 e.2).1
theorem TakeIs.same {b : List Int} {m t : ManP} {d e : Int} (h : TakeIs b m d) (h' : TakeIs b t e) : m = t ∧ d = e := by
  rcases h with ⟨rfl, h⟩ | ⟨rfl, rfl, h⟩ <;> rcases h' with ⟨rfl, h'⟩ | ⟨rfl, rfl, h'⟩
  · exact ⟨h.same h', rfl⟩
  · exact absurd h (h' m)
  · exact absurd h' (h t)
  · exact ⟨rfl, rfl⟩
theorem TakeIs.yes {b : List Int} {m t : ManP} {e : Int} (h : TakeIs b m e) (h' : IsMan t b) : m = t ∧ e = 0 := h.same (.inl ⟨rfl, h'⟩)
theorem TakeIs.no {b : List Int} {m : ManP} {e : Int} (h : TakeIs b m e) (h' : ∀ t, ¬ IsMan t b) : m = noneM ∧ e = 11 := h.same (.inr ⟨rfl, rfl, h'⟩)
theorem IsMan.byt {m : ManP} {b : List Int} (h : IsMan m b) : Byt b := h.2 ▸ manL_byt h.1
theorem IsMan.len {m : ManP} {b : List Int} (h : IsMan m b) : 6 ≤ b.length ∧ b.length ≤ 1235 := by
  have h1 := manT_len h.1
  rw [h.2, manL_len]
  omega
/-- With a byte that is another one it is none. -/
theorem man_harm {m t : ManP} {b : List Int} (h : IsMan m b) {k : Nat} (hk : k < b.length) {y : Int} (hy : 0 ≤ y ∧ y ≤ 255) (h0 : y ≠ 0) : ¬ IsMan t (b.set k (bits .xor .u8 (b[k]?.getD 0) y)) := by
  obtain ⟨hm, rfl⟩ := h
  rintro ⟨ht, e⟩
  have h1 := seal_harm (manT_byt hm) (m := k) (by rw [manL_len] at hk; exact hk) hy h0
  have h2 := seal_ok (manT_byt ht)
  change Cr.okB ((manL m).set k (bits .xor .u8 ((manL m)[k]?.getD 0) y)) = false at h1
  change Cr.okB (manL t) = true at h2
  rw [e, h2] at h1
  cases h1
/-- One byte more is none. -/
theorem man_more {m t : ManP} {b : List Int} (h : IsMan m b) (x : Int) : ¬ IsMan t (b ++ [x]) := by
  obtain ⟨hm, rfl⟩ := h
  rintro ⟨ht, e⟩
  rw [manL_eq, manL_eq, List.cons_append, List.cons.injEq, List.append_assoc] at e
  obtain ⟨rfl, e2⟩ := man_same hm ht e.2
  have := congrArg List.length e2
  simp at this
/-- One byte fewer is none. -/
theorem man_less {m t : ManP} {b : List Int} (h : IsMan m b) : ¬ IsMan t (b.take (b.length - 1)) := by
  intro h'
  have h7 := h.len
  have e := take_snoc (l := b) (k := b.length - 1) (by omega)
  rw [show b.length - 1 + 1 = b.length by omega, List.take_length] at e
  exact man_more h' _ (e ▸ h)
/-- What stands in a manifest's bytes. -/
theorem man_ok {m : ManP} {b : List Int} (h : IsMan m b) : Cr.okB b = true ∧ b.take (b.length - 4) = manT m := by
  obtain ⟨hm, rfl⟩ := h
  refine ⟨seal_ok (manT_byt hm), ?_⟩
  rw [manL_len, Nat.add_sub_cancel, manL, sealL, List.take_left]
theorem man_head {m : ManP} (hm : May m) : Nu.takesP ((manT m).drop 1) 6 = (headN m, Nu.shortsOf (m.sg.flatMap segN), 0) := by
  have h := Nu.takesP_short (head_all hm) (Nu.shortsOf (m.sg.flatMap segN))
  rw [← shortsOf_append] at h
  exact h
theorem man_seg {m : ManP} (hm : May m) {i : Nat} {s : SegP} (hs : m.sg[i]? = some s) : Nu.takesP (Nu.shortsOf ((m.sg.drop i).flatMap segN)) 4 = (segN s, Nu.shortsOf ((m.sg.drop (i + 1)).flatMap segN), 0) := by
  have hi : i < m.sg.length := (List.getElem?_eq_some_iff.1 hs).1
  have e : m.sg.drop i = s :: m.sg.drop (i + 1) := by
    rw [List.drop_eq_getElem_cons hi]
    rw [List.getElem?_eq_getElem hi] at hs
    rw [Option.some.inj hs]
  rw [e, List.flatMap_cons, shortsOf_append]
  exact Nu.takesP_short (seg_all hm (hm.segs i s hs)) _
end Go.Proofs.YtafeadplmcoilaaDoor
