/-
  Segments of either format, plainly.
-/
import Derived.Test.YtcpdjhkpmaamdaaGreatOneP
import Derived.Test.YtcpdjhkpmaamdaaGreatDev8
namespace Go.Proofs.YtcpdjhkpmaamdaaGreat
open Go.RowKit
set_option linter.unusedVariables false

theorem allR_iff {l : List EnP} : allR l = true ↔ AllR l := by
  unfold allR AllR
  rw [List.all_eq_true]
  exact ⟨fun h x hx => rightB_iff.1 (h x hx), fun h x hx => rightB_iff.2 (h x hx)⟩
/-- Whole bytes of a format, that first index, these entries. -/
def Seg1 [Inhabited Cr.Rows16] (b : List Int) (f : Int) (l : List EnP) : Prop := IdxP f ∧ AllR l ∧ b = headL f ++ recsL l
def Seg2 (b : List Int) (f : Int) (l : List EnP) : Prop := ∃ cs, ScanIs b f cs [] ∧ cs.flatten = l
def SegIs [Inhabited Cr.Rows16] (t : Int) (b : List Int) (f : Int) (l : List EnP) : Prop := (t = 1 ∧ Seg1 b f l) ∨ (t = 2 ∧ Seg2 b f l)
/-- What File of a format answers. -/
def fileE [Inhabited Cr.Rows16] (t f : Int) (l : List EnP) : List Int × Int := if t = 1 then fileP f l else if t = 2 then filePTw f l else ([], 2)

section
variable {t f g : Int} {b : List Int} {l m : List EnP}
theorem Seg1.scan [Inhabited Cr.Rows16] (h : Seg1 b f l) : scanP b = (f, l, 6 + 15 * (l.length : Int), 0) := by
  obtain ⟨hf, hl, rfl⟩ := h
  exact scan_file hf hl
theorem Seg1.len [Inhabited Cr.Rows16] (h : Seg1 b f l) : b.length = 6 + 15 * l.length := by
  obtain ⟨hf, hl, rfl⟩ := h
  rw [List.length_append, headL_length, recsL_length]
theorem Seg1.same [Inhabited Cr.Rows16] (h : Seg1 b f l) (h' : Seg1 b g m) : f = g ∧ l = m := by
  have e := h.scan
  rw [h'.scan] at e
  simp only [Prod.mk.injEq] at e
  exact ⟨e.1.symm, e.2.1.symm⟩
theorem Seg1.byt [Inhabited Cr.Rows16] (h : Seg1 b f l) : Byt b := by
  obtain ⟨hf, hl, rfl⟩ := h
  exact (headL_byt f).append (recsL_byt l)
/-- What is scanned, all of it, is whole; and nothing else is. -/
theorem Seg1.of [Inhabited Cr.Rows16] (hb : Byt b) (h : scanP b = (f, l, (b.length : Int), 0)) : Seg1 b f l := by
  cases hh : headO b with
  | none => rw [scanP_none hh] at h; simp at h
  | some k =>
    rw [scanP_some hh] at h
    simp only [Prod.mk.injEq] at h
    obtain ⟨rfl, rfl, hu, _⟩ := h
    obtain ⟨h1, h2, h3, h4⟩ := scan_only hb hh
    refine ⟨h1, h2, ?_⟩
    rw [h3, List.take_of_length_le (by omega)]
theorem Seg2.same (h : Seg2 b f l) (h' : Seg2 b g m) : f = g ∧ l = m := by
  obtain ⟨cs, h, rfl⟩ := h
  obtain ⟨ds, h', rfl⟩ := h'
  obtain ⟨rfl, rfl, _⟩ := scan_same h h'
  exact ⟨rfl, rfl⟩
theorem Seg2.all (h : Seg2 b f l) : allR l = true := by
  obtain ⟨cs, h, rfl⟩ := h
  have hg := h.good
  unfold allR
  rw [List.all_eq_true]
  intro x hx
  obtain ⟨c, hc, hx⟩ := List.mem_flatten.1 hx
  exact List.all_eq_true.1 (hg c hc).2.2 x hx
theorem Seg2.num (h : Seg2 b f l) : Num f := by obtain ⟨cs, h, _⟩ := h; exact h.1
theorem Seg2.byt (h : Seg2 b f l) : Byt b := by
  obtain ⟨cs, h, _⟩ := h
  rw [h.bytes, List.append_nil]
  exact (head_byt h.1).append (blks_byt (headE_in f) h.good)
theorem SegIs.same [Inhabited Cr.Rows16] (h : SegIs t b f l) (h' : SegIs t b g m) : f = g ∧ l = m := by
  rcases h with ⟨rfl, h⟩ | ⟨rfl, h⟩ <;> rcases h' with ⟨e, h'⟩ | ⟨e, h'⟩
  · exact h.same h'
  · omega
  · omega
  · exact h.same h'
theorem SegIs.byt [Inhabited Cr.Rows16] (h : SegIs t b f l) : Byt b := h.elim (fun h => h.2.byt) fun h => h.2.byt
theorem SegIs.idx [Inhabited Cr.Rows16] (h : SegIs t b f l) : 1 ≤ f ∧ f ≤ 1073741824 := h.elim (fun h => h.2.1) fun h => h.2.num
theorem SegIs.all [Inhabited Cr.Rows16] (h : SegIs t b f l) : AllR l := h.elim (fun h => h.2.2.1) fun h => allR_iff.1 h.2.all
/-- No bytes have heads of both formats. -/
theorem head_one_not {r : List Int} (hf : Num f) : headO (headLTw f ++ r) = none := by
  unfold headO headLTw
  simp
theorem head_two_not {r : List Int} : ¬ HeadAt (headL f ++ r) g := by
  rintro ⟨_, s, e⟩
  simp [headL, headLTw] at e
theorem SegIs.not [Inhabited Cr.Rows16] (h : SegIs t b f l) (h' : SegIs (3 - t) b g m) : False := by
  have key : ∀ {b : List Int} {f g : Int} {l m : List EnP}, Seg1 b f l → Seg2 b g m → False := by
    intro b f g l m h h'
    obtain ⟨cs, h', _⟩ := h'
    have := h'.head
    rw [h.2.2] at this
    exact head_two_not this
  rcases h with ⟨rfl, h⟩ | ⟨rfl, h⟩ <;> rcases h' with ⟨e, h'⟩ | ⟨e, h'⟩
  · omega
  · exact key h h'
  · exact key h' h
  · omega
/-- A file is whole. -/
theorem file_seg [Inhabited Cr.Rows16] (ht : t = 1 ∨ t = 2) (hf : 1 ≤ f ∧ f ≤ 1073741824) (hl : AllR l) : ∃ B, fileE t f l = (B, 0) ∧ SegIs t B f l := by
  rcases ht with rfl | rfl
  · exact ⟨_, by unfold fileE; rw [if_pos rfl]; exact if_pos ⟨hf, hl⟩, .inl ⟨rfl, hf, hl, rfl⟩⟩
  · have hg := chunks_good (allR_iff.2 hl)
    refine ⟨headLTw f ++ blksL (headE f) (chunks 4 l), by unfold fileE; rw [if_neg (by omega), if_pos rfl]; exact if_pos ⟨hf, allR_iff.2 hl⟩, .inr ⟨rfl, chunks 4 l, ?_, chunks_flat (by omega) l⟩⟩
    have := scan_of (r := []) hf hg (noBlock_nil _)
    rwa [List.append_nil] at this
theorem file_no [Inhabited Cr.Rows16] (h : ¬ ((t = 1 ∨ t = 2) ∧ (1 ≤ f ∧ f ≤ 1073741824) ∧ AllR l)) : fileE t f l = ([], 2) := by
  unfold fileE
  by_cases h1 : t = 1
  · rw [if_pos h1]
    exact if_neg fun k => h ⟨.inl h1, k.1, k.2⟩
  · rw [if_neg h1]
    by_cases h2 : t = 2
    · rw [if_pos h2]
      exact if_neg fun k => h ⟨.inr h2, k.1, allR_iff.1 k.2⟩
    · rw [if_neg h2]
/-- What is put behind whole bytes. -/
theorem Seg1.more [Inhabited Cr.Rows16] (h : Seg1 b f l) (hm : AllR m) : Seg1 (b ++ recsL m) f (l ++ m) := by
  obtain ⟨hf, hl, rfl⟩ := h
  exact ⟨hf, all_append_r.2 ⟨hl, hm⟩, by rw [recsL_append, List.append_assoc]⟩
theorem Seg2.more {L : List Int} (h : Seg2 b f l) (hm : MoreIs b m L 0) : Seg2 (b ++ L) f (l ++ m) := by
  obtain ⟨cs, h, rfl⟩ := h
  rcases hm with ⟨z, ⟨f', cs', h', rfl⟩, ⟨ha, rfl, _⟩ | ⟨_, _, e⟩⟩ | ⟨_, _, e⟩
  · obtain ⟨rfl, rfl, _⟩ := scan_same h h'
    have hg := h.good
    refine ⟨cs ++ chunks 4 m, ?_, by rw [List.flatten_append, chunks_flat (by omega)]⟩
    have e := scan_of (r := []) h.1 (hg.append (chunks_good ha)) (noBlock_nil _)
    rw [blksL_append, List.append_nil, ← List.append_assoc] at e
    have hb := h.bytes
    rw [List.append_nil] at hb
    rwa [← hb] at e
  · omega
  · omega
/-- What Scan of a format tells of bytes: a first index, entries, how many bytes are used; or nothing. -/
def ScnIs [Inhabited Cr.Rows16] (t : Int) (b : List Int) (f : Int) (l : List EnP) (u : Nat) : Prop :=
  (t = 1 ∧ headO b = some f ∧ l = scanL (b.drop 6) ∧ u = 6 + 15 * l.length) ∨
    (t = 2 ∧ ∃ cs r, ScanIs b f cs r ∧ cs.flatten = l ∧ (headLTw f ++ blksL (headE f) cs).length = u)
def NoScn (t : Int) (b : List Int) : Prop := (t = 1 ∧ headO b = none) ∨ (t = 2 ∧ ∀ f, ¬ HeadAt b f)
theorem ScnIs.same [Inhabited Cr.Rows16] {u v : Nat} (h : ScnIs t b f l u) (h' : ScnIs t b g m v) : f = g ∧ l = m ∧ u = v := by
  rcases h with ⟨rfl, h1, h2, h3⟩ | ⟨rfl, cs, r, h1, h2, h3⟩ <;> rcases h' with ⟨e, k1, k2, k3⟩ | ⟨e, ds, s, k1, k2, k3⟩
  · rw [h1] at k1
    subst h2 k2
    exact ⟨Option.some.inj k1, rfl, by omega⟩
  · omega
  · omega
  · obtain ⟨rfl, rfl, _⟩ := scan_same h1 k1
    exact ⟨rfl, h2.symm.trans k2, h3.symm.trans k3⟩
theorem ScnIs.not [Inhabited Cr.Rows16] {u : Nat} (h : ScnIs t b f l u) (h' : NoScn t b) : False := by
  rcases h with ⟨rfl, h1, _⟩ | ⟨rfl, cs, r, h1, _⟩ <;> rcases h' with ⟨e, k1⟩ | ⟨e, k1⟩
  · rw [h1] at k1; cases k1
  · omega
  · omega
  · exact k1 f h1.head
theorem scn_cases [Inhabited Cr.Rows16] (ht : t = 1 ∨ t = 2) (b : List Int) : NoScn t b ∨ ∃ f l u, ScnIs t b f l u := by
  rcases ht with rfl | rfl
  · cases h : headO b with
    | none => exact .inl (.inl ⟨rfl, h⟩)
    | some f => exact .inr ⟨f, _, _, .inl ⟨rfl, h, rfl, rfl⟩⟩
  · rcases scan_cases b with h | ⟨f, cs, r, h⟩
    · exact .inl (.inr ⟨rfl, h⟩)
    · exact .inr ⟨f, _, _, .inr ⟨rfl, cs, r, h, rfl, rfl⟩⟩
/-- What is used of bytes is whole. -/
theorem ScnIs.seg [Inhabited Cr.Rows16] {u : Nat} (hb : Byt b) (h : ScnIs t b f l u) : u ≤ b.length ∧ 2 ≤ u ∧ SegIs t (b.take u) f l := by
  rcases h with ⟨rfl, h1, rfl, rfl⟩ | ⟨rfl, cs, r, h1, h2, rfl⟩
  · obtain ⟨k1, k2, k3, k4⟩ := scan_only hb h1
    exact ⟨k4, by omega, .inl ⟨rfl, k1, k2, k3.symm⟩⟩
  · have e := h1.bytes
    have hl := congrArg List.length e
    rw [List.length_append] at hl
    have h6 := head_length h1.1
    refine ⟨by omega, by rw [List.length_append]; omega, .inr ⟨rfl, cs, ?_, h2⟩⟩
    have := scan_of (r := []) h1.1 h1.good (noBlock_nil _)
    rw [List.append_nil] at this
    have e2 : b.take (headLTw f ++ blksL (headE f) cs).length = headLTw f ++ blksL (headE f) cs := by
      rw [e, List.take_left]
    rw [e2]
    exact this
theorem ScnIs.whole [Inhabited Cr.Rows16] (hb : Byt b) (h : ScnIs t b f l b.length) : SegIs t b f l := by
  have := (h.seg hb).2.2
  rwa [List.take_length] at this
theorem SegIs.scn [Inhabited Cr.Rows16] (h : SegIs t b f l) : ScnIs t b f l b.length := by
  rcases h with ⟨rfl, h⟩ | ⟨rfl, cs, h, h2⟩
  · have e := h.scan
    cases hh : headO b with
    | none => rw [scanP_none hh] at e; simp at e
    | some k =>
      rw [scanP_some hh] at e
      simp only [Prod.mk.injEq] at e
      obtain ⟨rfl, e2, _⟩ := e
      exact .inl ⟨rfl, hh, e2.symm, h.len⟩
  · have hl := congrArg List.length h.bytes
    rw [List.append_nil] at hl
    exact .inr ⟨rfl, cs, [], h, h2, hl.symm⟩
/-- Bytes of a segment that are cut off. -/
theorem cut_seg [Inhabited Cr.Rows16] {B : List Int} {k : Nat} (hf : 1 ≤ f ∧ f ≤ 1073741824) (hl : AllR l) (hF : fileE t f l = (B, 0)) (hk : k ≤ B.length) :
    NoScn t (B.take k) ∨ ∃ j u, j ≤ l.length ∧ ScnIs t (B.take k) f (l.take j) u ∧ u ≤ k ∧ 2 ≤ u ∧ SegIs t ((B.take k).take u) f (l.take j) ∧ (k = B.length → u = k) := by
  have ht : t = 1 ∨ t = 2 := by
    unfold fileE at hF
    split at hF
    · exact .inl ‹_›
    · split at hF
      · exact .inr ‹_›
      · simp at hF
  obtain ⟨B', hB', hS⟩ := file_seg (t := t) ht hf hl
  rw [hF] at hB'
  obtain rfl : B = B' := (Prod.mk.inj hB').1
  have hbt : Byt (B.take k) := hS.byt.take k
  rcases scn_cases ht (B.take k) with h | ⟨g, m, u, h⟩
  · exact .inl h
  · refine .inr ?_
    obtain ⟨h1, h2, h3⟩ := h.seg hbt
    rw [List.length_take, Nat.min_eq_left hk] at h1
    have hw : k = B.length → u = k := fun e => by
      subst e
      rw [List.take_length] at h
      exact (h.same hS.scn).2.2
    have key : g = f ∧ ∃ j, j ≤ l.length ∧ m = l.take j := by
      rcases hS with ⟨rfl, hs⟩ | ⟨rfl, cs, hs, hc⟩
      · rcases h with ⟨_, k1, k2, k3⟩ | ⟨e, _⟩
        · obtain ⟨_, _, e⟩ := hs
          have h6 : 6 ≤ k := by omega
          have hc := scan_cut hf hl h6 (by rw [e, List.length_append, headL_length, recsL_length] at hk; exact hk)
          rw [← e, scanP_some k1] at hc
          simp only [Prod.mk.injEq] at hc
          rw [← k2] at hc
          refine ⟨hc.1, min ((k - 6) / 15) l.length, Nat.min_le_right _ _, ?_⟩
          rw [hc.2.1]
          rcases Nat.le_total ((k - 6) / 15) l.length with q | q
          · rw [Nat.min_eq_left q]
          · rw [Nat.min_eq_right q, List.take_of_length_le q, List.take_of_length_le (Nat.le_refl _)]
        · omega
      · rcases h with ⟨e, _⟩ | ⟨_, ds, r, k1, k2, k3⟩
        · omega
        · have hfl : filePTw f l = (B, 0) := by
            unfold fileE at hF
            rwa [if_neg (by omega), if_pos rfl] at hF
          have hBe : B = headLTw f ++ blksL (headE f) (chunks 4 l) := by
            have e := hfl
            unfold filePTw at e
            rw [if_pos ⟨hf, allR_iff.2 hl⟩] at e
            exact (Prod.mk.inj e).1.symm
          obtain ⟨hh0, hh⟩ : ∃ hh, hh = (headLTw f).length := ⟨_, rfl⟩
          by_cases hkh : k < (headLTw f).length
          · exfalso
            have hd := k1.head
            obtain ⟨hn, r', e⟩ := hd
            have e1 : headLTw f ++ blksL (headE f) (chunks 4 l) = headLTw g ++ (r' ++ B.drop k) := by rw [← List.append_assoc, ← e, List.take_append_drop, hBe]
            obtain ⟨rfl, _⟩ := head_same hf hn e1
            have := congrArg List.length e
            rw [List.length_take, List.length_append] at this
            omega
          · have hg := chunks_good (allR_iff.2 hl)
            have hbl : B.length = (headLTw f).length + (blksL (headE f) (chunks 4 l)).length := by rw [hBe, List.length_append]
            obtain ⟨j, r2, hj, hbk⟩ := blks_cut (p := headE f) hg (k - (headLTw f).length) (by omega)
            have htp : B.take k = headLTw f ++ (blksL (headE f) (chunks 4 l)).take (k - (headLTw f).length) := by
              rw [hBe, List.take_append, List.take_of_length_le (by omega)]
            have hsc : ScanIs (B.take k) f ((chunks 4 l).take j) r2 := ⟨hf, _, htp, hbk⟩
            obtain ⟨rfl, rfl, _⟩ := scan_same k1 hsc
            obtain ⟨c1, _⟩ := chunks_take (k := 4) (by omega) l j hj
            rw [c1] at k2
            refine ⟨rfl, min (j * 4) l.length, Nat.min_le_right _ _, ?_⟩
            rw [← k2]
            rcases Nat.le_total (j * 4) l.length with q | q
            · rw [Nat.min_eq_left q]
            · rw [Nat.min_eq_right q, List.take_of_length_le q, List.take_of_length_le (Nat.le_refl _)]
    obtain ⟨rfl, j, hj, rfl⟩ := key
    exact ⟨j, u, hj, h, h1, h2, h3, hw⟩
theorem scn_not [Inhabited Cr.Rows16] {u' v' : Nat} (h : ScnIs t b f l u') (h' : ScnIs (3 - t) b g m v') : False := by
  rcases h with ⟨rfl, h1, _⟩ | ⟨rfl, cs, r, h1, _⟩ <;> rcases h' with ⟨e, k1, _⟩ | ⟨e, ds, s, k1, _⟩
  · omega
  · obtain ⟨hn, r0, e0⟩ := k1.head
    rw [e0, head_one_not hn] at h1
    cases h1
  · obtain ⟨hn, r0, e0⟩ := h1.head
    rw [e0, head_one_not hn] at k1
    cases k1
  · omega
/-- A format. -/
def FmtE (t : Int) : Prop := t = 1 ∨ t = 2
instance (t : Int) : Decidable (FmtE t) := by unfold FmtE; infer_instance
/-- No whole bytes. -/
def NoSeg [Inhabited Cr.Rows16] (t : Int) (b : List Int) : Prop := ∀ f l, ¬ SegIs t b f l
theorem seg_cases [Inhabited Cr.Rows16] (t : Int) (b : List Int) : NoSeg t b ∨ ∃ f l, SegIs t b f l := by
  by_cases h : ∃ f l, SegIs t b f l
  · exact .inr h
  · exact .inl fun f l k => h ⟨f, l, k⟩
/-- What Turn answers. -/
def TurnIs [Inhabited Cr.Rows16] (b : List Int) (t t' : Int) (R : List Int × Int) : Prop :=
  (¬ (FmtE t ∧ FmtE t') ∧ R = ([], 2)) ∨ ((FmtE t ∧ FmtE t') ∧ NoSeg t b ∧ R = ([], 11)) ∨ ((FmtE t ∧ FmtE t') ∧ ∃ f l, SegIs t b f l ∧ R = fileE t' f l)
theorem TurnIs.same [Inhabited Cr.Rows16] {t' : Int} {R S : List Int × Int} (h : TurnIs b t t' R) (h' : TurnIs b t t' S) : R = S := by
  rcases h with ⟨h1, rfl⟩ | ⟨h1, h2, rfl⟩ | ⟨h1, f, l, h2, rfl⟩ <;> rcases h' with ⟨k1, rfl⟩ | ⟨k1, k2, rfl⟩ | ⟨k1, g, m, k2, rfl⟩
  · rfl
  · exact absurd k1 h1
  · exact absurd k1 h1
  · exact absurd h1 k1
  · rfl
  · exact absurd k2 (h2 g m)
  · exact absurd h1 k1
  · exact absurd h2 (k2 f l)
  · obtain ⟨rfl, rfl⟩ := h2.same k2
    rfl
theorem PutIs.same {z : Int × Int} {L M : List Int} {x y : Int} (h : PutIs z l L x) (h' : PutIs z l M y) : L = M ∧ x = y := by
  rcases h with ⟨h1, rfl, rfl⟩ | ⟨h1, rfl, rfl⟩ <;> rcases h' with ⟨k1, rfl, rfl⟩ | ⟨k1, rfl, rfl⟩
  · exact ⟨rfl, rfl⟩
  · rw [h1] at k1; cases k1
  · rw [h1] at k1; cases k1
  · exact ⟨rfl, rfl⟩
theorem MoreIs.same {L M : List Int} {x y : Int} (h : MoreIs b l L x) (h' : MoreIs b l M y) : L = M ∧ x = y := by
  rcases h with ⟨z, h1, h2⟩ | ⟨h1, rfl, rfl⟩ <;> rcases h' with ⟨z', k1, k2⟩ | ⟨k1, rfl, rfl⟩
  · obtain rfl := h1.same k1
    exact h2.same k2
  · exact absurd h1 (k1 z)
  · exact absurd k1 (h1 z')
  · exact ⟨rfl, rfl⟩
/-- What More answers. -/
def MoreE [Inhabited Cr.Rows16] (t : Int) (b : List Int) (l : List EnP) (R : List Int × Int) : Prop :=
  (¬ FmtE t ∧ R = ([], 2)) ∨ (FmtE t ∧ NoSeg t b ∧ R = ([], 11)) ∨ ((∃ f m, SegIs t b f m) ∧ ((t = 1 ∧ R = putP l) ∨ (t = 2 ∧ MoreIs b l R.1 R.2)))
theorem MoreE.same [Inhabited Cr.Rows16] {R S : List Int × Int} (h : MoreE t b l R) (h' : MoreE t b l S) : R = S := by
  have hf : ∀ {f m}, SegIs t b f m → FmtE t := fun h => h.elim (fun h => .inl h.1) fun h => .inr h.1
  rcases h with ⟨h1, rfl⟩ | ⟨h1, h2, rfl⟩ | ⟨⟨f, n, h1⟩, h2⟩ <;> rcases h' with ⟨k1, rfl⟩ | ⟨k1, k2, rfl⟩ | ⟨⟨g, p, k1⟩, k2⟩
  · rfl
  · exact absurd k1 h1
  · exact absurd (hf k1) h1
  · exact absurd h1 k1
  · rfl
  · exact absurd k1 (h2 g p)
  · exact absurd (hf h1) k1
  · exact absurd h1 (k2 f n)
  · rcases h2 with ⟨rfl, rfl⟩ | ⟨rfl, h2⟩ <;> rcases k2 with ⟨e, rfl⟩ | ⟨e, k2⟩
    · rfl
    · omega
    · omega
    · obtain ⟨e1, e2⟩ := h2.same k2
      exact Prod.ext e1 e2
/-- What More puts behind whole bytes. -/
theorem MoreE.seg [Inhabited Cr.Rows16] (h : SegIs t b f l) {R : List Int × Int} (hR : MoreE t b m R) (hm : AllR m) : R.2 = 0 ∧ SegIs t (b ++ R.1) f (l ++ m) := by
  have hf : FmtE t := h.elim (fun h => .inl h.1) fun h => .inr h.1
  rcases hR with ⟨h1, rfl⟩ | ⟨_, h2, rfl⟩ | ⟨_, h2⟩
  · exact absurd hf h1
  · exact absurd h (h2 f l)
  · rcases h with ⟨rfl, h⟩ | ⟨rfl, h⟩ <;> rcases h2 with ⟨e, rfl⟩ | ⟨e, h2⟩
    · rw [putP_yes hm]
      exact ⟨rfl, .inl ⟨rfl, h.more hm⟩⟩
    · omega
    · omega
    · have e0 : R.2 = 0 := by
        rcases h2 with ⟨z, _, ⟨_, _, e⟩ | ⟨e, _, _⟩⟩ | ⟨k, _, _⟩
        · exact e
        · rw [allR_iff.2 hm] at e; cases e
        · obtain ⟨cs, hs, _⟩ := h
          exact absurd ⟨_, cs, hs, rfl⟩ (k (blksE (headE f) cs))
      rw [e0] at h2
      exact ⟨e0, .inr ⟨rfl, h.more h2⟩⟩
/-- What Which answers. -/
def WhichIs [Inhabited Cr.Rows16] (b : List Int) (k : Int) : Prop := (k = 1 ∧ ∃ f l u, ScnIs 1 b f l u) ∨ (k = 2 ∧ ∃ f l u, ScnIs 2 b f l u) ∨ (k = 0 ∧ NoScn 1 b ∧ NoScn 2 b)
theorem WhichIs.same [Inhabited Cr.Rows16] {j k : Int} (h : WhichIs b j) (h' : WhichIs b k) : j = k := by
  rcases h with ⟨rfl, f, l, u, h⟩ | ⟨rfl, f, l, u, h⟩ | ⟨rfl, h1, h2⟩ <;> rcases h' with ⟨rfl, g, m, v, k⟩ | ⟨rfl, g, m, v, k⟩ | ⟨rfl, k1, k2⟩
  · rfl
  · exact (scn_not h k).elim
  · exact (h.not k1).elim
  · exact (scn_not h k).elim
  · rfl
  · exact (h.not k2).elim
  · exact (k.not h1).elim
  · exact (k.not h2).elim
  · rfl
theorem ScnIs.which [Inhabited Cr.Rows16] {u : Nat} (h : ScnIs t b f l u) : WhichIs b t := by
  have h' := h
  rcases h' with ⟨rfl, _⟩ | ⟨rfl, _⟩
  · exact .inl ⟨rfl, f, l, u, h⟩
  · exact .inr (.inl ⟨rfl, f, l, u, h⟩)
/-- What Alike answers. -/
def AlikeIs [Inhabited Cr.Rows16] (a : List Int) (t : Int) (b : List Int) (t' : Int) (r : Bool) : Prop := r = true ↔ ∃ f l, SegIs t a f l ∧ SegIs t' b f l
theorem AlikeIs.same [Inhabited Cr.Rows16] {a : List Int} {t' : Int} {r r' : Bool} (h : AlikeIs a t b t' r) (h' : AlikeIs a t b t' r') : r = r' := by
  unfold AlikeIs at h h'
  rw [Bool.eq_iff_iff, h, h']
/-- A file that is turned. -/
theorem turn_file [Inhabited Cr.Rows16] {t' : Int} {B : List Int} {R : List Int × Int} (hf : 1 ≤ f ∧ f ≤ 1073741824) (hl : AllR l) (ht : FmtE t) (ht' : FmtE t') (hB : SegIs t B f l) (hR : TurnIs B t t' R) : R = fileE t' f l :=
  hR.same (.inr (.inr ⟨⟨ht, ht'⟩, f, l, hB, rfl⟩))
end
end Go.Proofs.YtcpdjhkpmaamdaaGreat
