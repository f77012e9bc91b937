/-
  Segments of the first format, plainly: heads, records, what is scanned.
-/
import Derived.Test.YtcpdjhkpmaamdaaGreatNumM
import Derived.Test.YtcpdjhkpmaamdaaGreatCrcR
import Derived.Test.YtcpdjhkpmaamdaaGreatEntM
namespace Go.Proofs.YtcpdjhkpmaamdaaGreat
open Go.RowKit
set_option linter.unusedVariables false

/-- An index. -/
def IdxP (n : Int) : Prop := 1 ≤ n ∧ n ≤ 1073741824
instance (n : Int) : Decidable (IdxP n) := by unfold IdxP; infer_instance
def AllR (l : List EnP) : Prop := ∀ x ∈ l, RightP x
instance (l : List EnP) : Decidable (AllR l) := by unfold AllR; infer_instance
def headL (first : Int) : List Int := 1 :: Nu.longOf first
/-- What a record's sum is of. -/
def textL (e : EnP) : List Int := Nu.longOf e.tm ++ (e.kd % 256 :: Nu.longOf e.vl)
def recL [Inhabited Cr.Rows16] (e : EnP) : List Int := textL e ++ Cr.fourI (Cr.sumI (textL e))
def recsL [Inhabited Cr.Rows16] (l : List EnP) : List Int := l.flatMap recL
def headP (first : Int) : List Int × Int := if IdxP first then (headL first, 0) else ([], 2)
def putP [Inhabited Cr.Rows16] (l : List EnP) : List Int × Int := if AllR l then (recsL l, 0) else ([], 2)
def fileP [Inhabited Cr.Rows16] (first : Int) (l : List EnP) : List Int × Int := if IdxP first ∧ AllR l then (headL first ++ recsL l, 0) else ([], 2)
def sizeP (many : Int) : Int := 6 + 15 * min (max many 0) 1073741824

theorem long_byt (n : Int) : Byt (Nu.longOf n) := by
  rw [Nu.long_eq]
  intro x hx
  simp only [List.mem_cons, List.not_mem_nil, or_false] at hx
  rcases hx with rfl | rfl | rfl | rfl | rfl <;> omega
theorem byt_cons {a : Int} {l : List Int} (ha : 0 ≤ a ∧ a ≤ 255) (hl : Byt l) : Byt (a :: l) := fun x hx => by
  rcases List.mem_cons.1 hx with rfl | h
  · exact ha
  · exact hl x h
theorem headL_byt (f : Int) : Byt (headL f) := byt_cons (by omega) (long_byt f)
theorem headL_length (f : Int) : (headL f).length = 6 := by simp [headL, Nu.longOf_length]
theorem textL_byt (e : EnP) : Byt (textL e) := (long_byt _).append (byt_cons (by omega) (long_byt _))
theorem textL_length (e : EnP) : (textL e).length = 11 := by simp [textL, Nu.longOf_length]
theorem recL_byt [Inhabited Cr.Rows16] (e : EnP) : Byt (recL e) := (textL_byt e).append (Cr.fourI_byt (Cr.sumI_range _))
theorem fourI_length (x : Int) : (Cr.fourI x).length = 4 := rfl
theorem recL_length [Inhabited Cr.Rows16] (e : EnP) : (recL e).length = 15 := by rw [recL, List.length_append, textL_length, fourI_length]
theorem recsL_byt [Inhabited Cr.Rows16] (l : List EnP) : Byt (recsL l) := fun x hx => by
  obtain ⟨e, _, h⟩ := List.mem_flatMap.1 hx
  exact recL_byt e x h
theorem recsL_length [Inhabited Cr.Rows16] (l : List EnP) : (recsL l).length = 15 * l.length := by
  induction l with
  | nil => rfl
  | cons e l ih => rw [recsL, List.flatMap_cons, List.length_append, recL_length]; rw [recsL] at ih; rw [ih, List.length_cons]; omega
theorem recsL_snoc [Inhabited Cr.Rows16] (l : List EnP) (e : EnP) : recsL (l ++ [e]) = recsL l ++ recL e := by simp [recsL]
theorem recsL_append [Inhabited Cr.Rows16] (l m : List EnP) : recsL (l ++ m) = recsL l ++ recsL m := by simp [recsL]
theorem recsL_cons [Inhabited Cr.Rows16] (e : EnP) (l : List EnP) : recsL (e :: l) = recL e ++ recsL l := rfl
theorem AllR.nil : AllR [] := fun x hx => by cases hx
theorem all_snoc_r {l : List EnP} {e : EnP} : AllR (l ++ [e]) ↔ AllR l ∧ RightP e := by
  unfold AllR
  constructor
  · exact fun h => ⟨fun x hx => h x (by simp [hx]), h e (by simp)⟩
  · rintro ⟨h1, h2⟩ x hx
    rcases List.mem_append.1 hx with h | h
    · exact h1 x h
    · obtain rfl := List.mem_singleton.1 h; exact h2
theorem all_append_r {l m : List EnP} : AllR (l ++ m) ↔ AllR l ∧ AllR m := by
  unfold AllR
  constructor
  · exact fun h => ⟨fun x hx => h x (by simp [hx]), fun x hx => h x (by simp [hx])⟩
  · rintro ⟨h1, h2⟩ x hx
    rcases List.mem_append.1 hx with h | h
    · exact h1 x h
    · exact h2 x h
theorem all_no {l : List EnP} {k : Nat} {e : EnP} (he : l[k]? = some e) (h : ¬ RightP e) : ¬ AllR l := fun ha => h (ha e (List.mem_of_getElem? he))
theorem headP_yes {f : Int} (h : IdxP f) : headP f = (headL f, 0) := if_pos h
theorem headP_no {f : Int} (h : ¬ IdxP f) : headP f = ([], 2) := if_neg h
theorem putP_yes [Inhabited Cr.Rows16] {l : List EnP} (h : AllR l) : putP l = (recsL l, 0) := if_pos h
theorem putP_no [Inhabited Cr.Rows16] {l : List EnP} (h : ¬ AllR l) : putP l = ([], 2) := if_neg h
theorem headP_byt (f : Int) : Byt (headP f).1 := by
  unfold headP
  split
  · exact headL_byt f
  · exact Byt.nil
theorem putP_byt [Inhabited Cr.Rows16] (l : List EnP) : Byt (putP l).1 := by
  unfold putP
  split
  · exact recsL_byt l
  · exact Byt.nil
theorem fileP_byt [Inhabited Cr.Rows16] (f : Int) (l : List EnP) : Byt (fileP f l).1 := by
  unfold fileP
  split
  · exact (headL_byt f).append (recsL_byt l)
  · exact Byt.nil
theorem fileP_of [Inhabited Cr.Rows16] (f : Int) (l : List EnP) : fileP f l = if (headP f).2 = 0 ∧ (putP l).2 = 0 then ((headP f).1 ++ (putP l).1, 0) else ([], 2) := by
  unfold fileP headP putP
  by_cases h1 : IdxP f <;> by_cases h2 : AllR l <;> simp [h1, h2]

/-! ### What is scanned -/
/-- The entry of the record that b begins with. -/
def recOf [Inhabited Cr.Rows16] (b : List Int) : Option EnP :=
  if 15 ≤ b.length ∧ Cr.okB (b.take 15) = true ∧ (Nu.longP ((b.take 11).take 5)).2.2 = 0 ∧ (Nu.longP ((b.take 11).drop 6)).2.2 = 0 ∧
      RightP ⟨(Nu.longP ((b.take 11).take 5)).1, (b.take 11)[5]?.getD 0, (Nu.longP ((b.take 11).drop 6)).1⟩
  then some ⟨(Nu.longP ((b.take 11).take 5)).1, (b.take 11)[5]?.getD 0, (Nu.longP ((b.take 11).drop 6)).1⟩ else none
theorem recOf_len [Inhabited Cr.Rows16] {b : List Int} {x : EnP} (h : recOf b = some x) : 15 ≤ b.length := by
  unfold recOf at h
  split at h
  · rename_i h1; exact h1.1
  · cases h
theorem recOf_short [Inhabited Cr.Rows16] {b : List Int} (h : b.length < 15) : recOf b = none := by
  unfold recOf
  rw [if_neg (fun h1 => by omega)]
theorem recOf_sum [Inhabited Cr.Rows16] {b : List Int} (h : Cr.okB (b.take 15) = false) : recOf b = none := by
  unfold recOf
  rw [if_neg (fun h1 => by rw [h] at h1; cases h1.2.1)]
def scanL [Inhabited Cr.Rows16] (b : List Int) : List EnP :=
  match h : recOf b with
  | none => []
  | some x => x :: scanL (b.drop 15)
termination_by b.length
decreasing_by
  have := recOf_len h
  simp [List.length_drop]
  omega
theorem scanL_none [Inhabited Cr.Rows16] {b : List Int} (h : recOf b = none) : scanL b = [] := by
  rw [scanL]
  split
  · rfl
  · rename_i h1; rw [h] at h1; cases h1
theorem scanL_some [Inhabited Cr.Rows16] {b : List Int} {x : EnP} (h : recOf b = some x) : scanL b = x :: scanL (b.drop 15) := by
  rw [scanL]
  split
  · rename_i h1; rw [h] at h1; cases h1
  · rename_i y h1; rw [h] at h1; cases h1; rfl
theorem scanL_length [Inhabited Cr.Rows16] (b : List Int) : 15 * (scanL b).length ≤ b.length := by
  suffices ∀ n b, b.length ≤ n → 15 * (scanL b).length ≤ b.length from this b.length b (Nat.le_refl _)
  intro n
  induction n with
  | zero =>
    intro b hb
    rw [scanL_none (recOf_short (by omega))]
    simp
  | succ n ih =>
    intro b hb
    cases h : recOf b with
    | none => rw [scanL_none h]; simp
    | some x =>
      have h1 := recOf_len h
      have h2 := ih (b.drop 15) (by rw [List.length_drop]; omega)
      rw [List.length_drop] at h2
      rw [scanL_some h, List.length_cons]
      omega
/-- The index of the head that b begins with. -/
def headO (b : List Int) : Option Int :=
  if 6 ≤ b.length ∧ b[0]?.getD 0 = 1 ∧ (Nu.longP ((b.take 6).drop 1)).2.2 = 0 ∧ 0 < (Nu.longP ((b.take 6).drop 1)).1 then some (Nu.longP ((b.take 6).drop 1)).1 else none
/-- First, the entries, Used, the error. -/
def scanP [Inhabited Cr.Rows16] (b : List Int) : Int × List EnP × Int × Int :=
  match headO b with
  | none => (0, [], 0, 11)
  | some f => (f, scanL (b.drop 6), 6 + 15 * ((scanL (b.drop 6)).length : Int), 0)
theorem scanP_none [Inhabited Cr.Rows16] {b : List Int} (h : headO b = none) : scanP b = (0, [], 0, 11) := by unfold scanP; rw [h]
theorem scanP_some [Inhabited Cr.Rows16] {b : List Int} {f : Int} (h : headO b = some f) : scanP b = (f, scanL (b.drop 6), 6 + 15 * ((scanL (b.drop 6)).length : Int), 0) := by unfold scanP; rw [h]
theorem headO_short {b : List Int} (h : b.length < 6) : headO b = none := by
  unfold headO
  rw [if_neg (fun h1 => by omega)]

theorem longP_of {n : Int} (h0 : 0 ≤ n) (h1 : n ≤ 1073741824) : Nu.longP (Nu.longOf n) = (n, [], 0) := by
  have := Nu.longP_long h0 h1 []
  rwa [List.append_nil] at this
theorem headO_head {f : Int} (h : IdxP f) (r : List Int) : headO (headL f ++ r) = some f := by
  have e : ((headL f ++ r).take 6).drop 1 = Nu.longOf f := by
    rw [List.take_append_of_le_length (by rw [headL_length]; exact Nat.le_refl _), List.take_of_length_le (by rw [headL_length]; exact Nat.le_refl _)]
    rfl
  unfold headO
  rw [e, longP_of (by have := h.1; omega) h.2, if_pos ⟨by rw [List.length_append, headL_length]; omega, rfl, rfl, by have := h.1; dsimp only; omega⟩]
theorem headO_inv {b : List Int} {f : Int} (hb : Byt b) (h : headO b = some f) : IdxP f ∧ b.take 6 = headL f ∧ 6 ≤ b.length := by
  unfold headO at h
  split at h
  · rename_i h1
    obtain ⟨h6, h0, he, hp⟩ := h1
    obtain ⟨n, r, hr⟩ : ∃ n r, Nu.longP ((b.take 6).drop 1) = (n, r, 0) := ⟨_, _, by rw [← he]⟩
    have hbt : Nu.Byt ((b.take 6).drop 1) := (hb.take 6).drop 1
    obtain ⟨h2, h3, h4⟩ := Nu.long_longP hbt hr
    rw [hr] at h hp
    obtain rfl := Option.some.inj h
    have hl : ((b.take 6).drop 1).length = 5 := by rw [List.length_drop, List.length_take]; omega
    have hr0 : r = [] := by
      have := congrArg List.length h2
      rw [List.length_append, Nu.longOf_length, hl] at this
      exact List.eq_nil_of_length_eq_zero (by omega)
    subst hr0
    rw [List.append_nil] at h2
    refine ⟨⟨by dsimp only at hp; omega, h4⟩, ?_, h6⟩
    unfold headL
    dsimp only
    rw [h2]
    cases b with
    | nil => simp at h6
    | cons a b =>
      simp at h0
      subst h0
      rfl
  · cases h
theorem rec_ok [Inhabited Cr.Rows16] (e : EnP) : Cr.okB (recL e) = true := by
  unfold Cr.okB
  have e1 : (recL e).length - 4 = (textL e).length := by rw [recL_length, textL_length]
  have e2 : (recL e).take (textL e).length = textL e := by unfold recL; exact List.take_left
  rw [e1, e2, recL_length, show Cr.eqB (textL e ++ Cr.fourI (Cr.sumI (textL e))) (recL e) = true from Cr.eqB_true rfl]
  rfl
theorem recOf_rec [Inhabited Cr.Rows16] {e : EnP} (h : RightP e) (r : List Int) : recOf (recL e ++ r) = some e := by
  have e15 : (recL e ++ r).take 15 = recL e := by rw [← recL_length e]; exact List.take_left
  have e11 : (recL e ++ r).take 11 = textL e := by
    rw [List.take_append_of_le_length (by rw [recL_length]; omega)]
    unfold recL
    rw [← textL_length e]; exact List.take_left
  have e5 : (textL e).take 5 = Nu.longOf e.tm := by
    unfold textL
    rw [← Nu.longOf_length e.tm]; exact List.take_left
  have e6 : (textL e).drop 6 = Nu.longOf e.vl := by
    have : textL e = (Nu.longOf e.tm ++ [e.kd % 256]) ++ Nu.longOf e.vl := by simp [textL]
    rw [this]
    have hl : (Nu.longOf e.tm ++ [e.kd % 256]).length = 6 := by rw [List.length_append, Nu.longOf_length]; rfl
    rw [← hl]; exact List.drop_left
  have ek : (textL e)[5]?.getD 0 = e.kd % 256 := by
    unfold textL
    rw [List.getElem?_append_right (by rw [Nu.longOf_length]; exact Nat.le_refl _), Nu.longOf_length]
    rfl
  obtain ⟨h1, h2, h3, h4⟩ := h
  have hk : e.kd % 256 = e.kd := by omega
  have hx : (⟨e.tm, e.kd, e.vl⟩ : EnP) = e := rfl
  unfold recOf
  rw [e15, e11, e5, e6, ek, longP_of (by omega) h1.2, longP_of h3.1 h3.2, hk, hx, if_pos ⟨by rw [List.length_append, recL_length]; omega, rec_ok e, rfl, rfl, h1, h2, h3, h4⟩]
theorem recOf_inv [Inhabited Cr.Rows16] {b : List Int} {e : EnP} (hb : Byt b) (h : recOf b = some e) : RightP e ∧ b.take 15 = recL e ∧ 15 ≤ b.length := by
  unfold recOf at h
  split at h
  · rename_i h1
    obtain ⟨h15, hok, ha, hv, hr⟩ := h1
    have he := Option.some.inj h
    rw [he] at hr
    refine ⟨hr, ?_, h15⟩
    obtain ⟨n, r, hn⟩ : ∃ n r, Nu.longP ((b.take 11).take 5) = (n, r, 0) := ⟨_, _, by rw [← ha]⟩
    obtain ⟨m, s, hm⟩ : ∃ m s, Nu.longP ((b.take 11).drop 6) = (m, s, 0) := ⟨_, _, by rw [← hv]⟩
    have hb11 : Byt (b.take 11) := hb.take 11
    obtain ⟨n2, n3, n4⟩ := Nu.long_longP (hb11.take 5) hn
    obtain ⟨m2, m3, m4⟩ := Nu.long_longP (hb11.drop 6) hm
    have l11 : (b.take 11).length = 11 := by rw [List.length_take]; omega
    have hr0 : r = [] := by
      have := congrArg List.length n2
      rw [List.length_append, Nu.longOf_length, List.length_take, l11] at this
      exact List.eq_nil_of_length_eq_zero (by omega)
    have hs0 : s = [] := by
      have := congrArg List.length m2
      rw [List.length_append, Nu.longOf_length, List.length_drop, l11] at this
      exact List.eq_nil_of_length_eq_zero (by omega)
    subst hr0 hs0
    rw [List.append_nil] at n2 m2
    rw [hn, hm] at he
    have et : e.tm = n := by rw [← he]
    have ev : e.vl = m := by rw [← he]
    have ek : e.kd = (b.take 11)[5]?.getD 0 := by rw [← he]
    have htext : textL e = b.take 11 := by
      unfold textL
      rw [et, ev, n2, m2, show e.kd % 256 = e.kd by have := hr.2.1; omega, ek]
      conv => rhs; rw [← List.take_append_drop 5 (b.take 11)]
      congr 1
      exact (Nu.drop_cons (by rw [l11]; omega)).symm
    have l15 : (b.take 15).length = 15 := by rw [List.length_take]; omega
    unfold Cr.okB at hok
    rw [l15] at hok
    simp only [Nat.reduceSub, Nat.reduceLeDiff, decide_true, Bool.true_and, List.take_take, show min 11 15 = 11 from rfl] at hok
    have h2 := Cr.eqB_iff.1 hok
    rw [← h2, recL, htext]
  · cases h
theorem scanL_recs [Inhabited Cr.Rows16] {l : List EnP} (h : AllR l) (r : List Int) : scanL (recsL l ++ r) = l ++ scanL r := by
  induction l with
  | nil => rfl
  | cons e l ih =>
    have h1 := recOf_rec (h e (by simp)) (recsL l ++ r)
    rw [recsL_cons, List.append_assoc, scanL_some h1]
    have e2 : (recL e ++ (recsL l ++ r)).drop 15 = recsL l ++ r := by rw [← recL_length e]; exact List.drop_left
    rw [e2, ih (fun x hx => h x (by simp [hx]))]
    rfl
theorem scanL_all [Inhabited Cr.Rows16] {l : List EnP} (h : AllR l) : scanL (recsL l) = l := by
  have h1 := scanL_recs h []
  rw [List.append_nil, scanL_none (b := []) (recOf_short (by simp)), List.append_nil] at h1
  exact h1
theorem scan_file [Inhabited Cr.Rows16] {f : Int} {l : List EnP} (hf : IdxP f) (hl : AllR l) : scanP (headL f ++ recsL l) = (f, l, 6 + 15 * (l.length : Int), 0) := by
  have e : (headL f ++ recsL l).drop 6 = recsL l := by rw [← headL_length f]; exact List.drop_left
  rw [scanP_some (headO_head hf _), e, scanL_all hl]
/-- What is scanned is put as the bytes that were there. -/
theorem scanL_inv [Inhabited Cr.Rows16] {b : List Int} (hb : Byt b) : AllR (scanL b) ∧ recsL (scanL b) = b.take (15 * (scanL b).length) := by
  suffices ∀ n b, b.length ≤ n → Byt b → AllR (scanL b) ∧ recsL (scanL b) = b.take (15 * (scanL b).length) from this b.length b (Nat.le_refl _) hb
  intro n
  induction n with
  | zero =>
    intro b h0 _
    rw [scanL_none (recOf_short (by omega))]
    exact ⟨AllR.nil, rfl⟩
  | succ n ih =>
    intro b h0 hb
    cases h : recOf b with
    | none => rw [scanL_none h]; exact ⟨AllR.nil, rfl⟩
    | some x =>
      obtain ⟨h1, h2, h3⟩ := recOf_inv hb h
      obtain ⟨i1, i2⟩ := ih (b.drop 15) (by rw [List.length_drop]; omega) (hb.drop 15)
      rw [scanL_some h]
      refine ⟨fun y hy => ?_, ?_⟩
      · rcases List.mem_cons.1 hy with rfl | hy
        · exact h1
        · exact i1 y hy
      · rw [recsL_cons, i2, ← h2, List.length_cons, Nat.mul_succ, Nat.add_comm, List.take_add]
theorem scan_only [Inhabited Cr.Rows16] {b : List Int} (hb : Byt b) {f : Int} (h : headO b = some f) : IdxP f ∧ AllR (scanL (b.drop 6)) ∧ headL f ++ recsL (scanL (b.drop 6)) = b.take (6 + 15 * (scanL (b.drop 6)).length) ∧ 6 + 15 * (scanL (b.drop 6)).length ≤ b.length := by
  obtain ⟨h1, h2, h3⟩ := headO_inv hb h
  obtain ⟨h4, h5⟩ := scanL_inv (hb.drop 6)
  have h6 := scanL_length (b.drop 6)
  rw [List.length_drop] at h6
  exact ⟨h1, h4, by rw [h5, ← h2, List.take_add], by omega⟩
theorem recs_take [Inhabited Cr.Rows16] (l : List EnP) (j : Nat) : (recsL l).take (15 * j) = recsL (l.take j) := by
  induction l generalizing j with
  | nil => simp [recsL]
  | cons e l ih =>
    cases j with
    | zero => rfl
    | succ j =>
      rw [recsL_cons, List.take_succ_cons, recsL_cons, Nat.mul_succ, Nat.add_comm, ← recL_length e, List.take_length_add_append, recL_length, ih]
/-- Bytes cut off at the end. -/
theorem scan_cut [Inhabited Cr.Rows16] {f : Int} {l : List EnP} (hf : IdxP f) (hl : AllR l) {left : Nat} (h : 6 ≤ left) (h2 : left ≤ 6 + 15 * l.length) : scanP ((headL f ++ recsL l).take left) = (f, l.take ((left - 6) / 15), 6 + 15 * (((left - 6) / 15 : Nat) : Int), 0) := by
  obtain ⟨m, rfl⟩ : ∃ m, left = 6 + m := ⟨left - 6, by omega⟩
  have e1 : (headL f ++ recsL l).take (6 + m) = headL f ++ (recsL l).take m := by rw [← headL_length f, List.take_length_add_append]
  rw [e1, scanP_some (headO_head hf _)]
  have e2 : (headL f ++ (recsL l).take m).drop 6 = (recsL l).take m := by rw [← headL_length f]; exact List.drop_left
  have e3 : (recsL l).take m = recsL (l.take (m / 15)) ++ ((recsL l).take m).drop (15 * (m / 15)) := by
    rw [← recs_take]
    conv => lhs; rw [← List.take_append_drop (15 * (m / 15)) ((recsL l).take m)]
    rw [List.take_take, Nat.min_eq_left (by omega)]
  have e4 : recOf (((recsL l).take m).drop (15 * (m / 15))) = none := recOf_short (by rw [List.length_drop, List.length_take, recsL_length]; omega)
  have e5 : scanL ((recsL l).take m) = l.take (m / 15) := by
    rw [e3, scanL_recs (fun x hx => hl x (List.mem_of_mem_take hx)), scanL_none e4, List.append_nil]
  have e6 : (l.take (m / 15)).length = m / 15 := by rw [List.length_take]; omega
  rw [e2, e5, e6, Nat.add_sub_cancel_left]
/-! ### None is another's -/
theorem headL_inj {f g : Int} (hf : IdxP f) (hg : IdxP g) (h : headL f = headL g) : f = g := by
  have h1 := headO_head hf []
  rw [h, headO_head hg []] at h1
  exact (Option.some.inj h1).symm
theorem recL_inj [Inhabited Cr.Rows16] {x y : EnP} (hx : RightP x) (hy : RightP y) (h : recL x = recL y) : x = y := by
  have h1 := recOf_rec hx []
  rw [h, recOf_rec hy []] at h1
  exact (Option.some.inj h1).symm

end Go.Proofs.YtcpdjhkpmaamdaaGreat
