/-
  The developers' list: the files of a map, in order: its contract.
-/
import Derived.Test.YtmfiopopiikbmaaDevK
namespace Go.Proofs.Ytmfiopopiikbmaa
open Go.RowKit Go.Maps Go.Shelf

attribute [local go_sem] Oper.semAt_some

/-- Files told in a slice. -/
def ListOut (fs : List FileM) (w : World) (e : Ending) (w' : World) : Prop := (∃ A c, e = .returned (.slice A fs.length c) ∧ fs.length ≤ c ∧ Fs w' w'.heap.size A fs.length fs) ∧ Below w.heap.size w w'

set_option maxRecDepth 100000 in
set_option maxHeartbeats 2000000 in
theorem list_in {w : World} {C : Nat → Prop} {b n : Nat} {fs : List FileM} (h : FM w C b n fs) (hnm : ∀ f ∈ fs, f.name.size ≤ maxLen) (hl : fs.length ≤ 100000) :
    CallsIn Fence.wide 4 Try.prog 40 #[.map (some b)] w (ListOut fs w) := by
  obtain ⟨i2, hj, hy0, hy1, hy2⟩ := info_partsV info_file
  have hlr := fun ty => h.len_run ty
  obtain ⟨w1, hmk, hrow1, hg1⟩ := run_make_own (P := Try.prog) w w.heap.size 22 47 i2 _ 2 Try.underlying22 hj hy0 hy1 .i64 .i64 fs.length (by rw [hy2]; omega) (by unfold maxLen; omega) (Nat.le_refl _)
  have hB1 : Below w.heap.size w w1 := (Below.refl _ w).grown hg1 (Nat.le_refl _) (fun k e => by cases e)
  have hbl := h.lt
  have Hh := Lib.hid h
  have Hoks := Lib.hid h.oks
  refine callsIn_of_wp_marks Try.func40 rfl trivial ?_ rfl
  simp only [Try.ntmps40, List.size_toArray, List.length_cons, List.length_nil, Nat.reduceAdd, Nat.reduceSub, Array.replicate_succ, Array.replicate_zero, List.push_toArray, List.append_toArray, List.nil_append, List.cons_append]
  gi_wp2_with fail
  obtain ⟨bl, hbl0⟩ : ∃ bl, bl = w1.heap.size := ⟨_, rfl⟩
  obtain ⟨w2, hw2⟩ : ∃ w2, w2 = w1.alloc (.cells #[.slice (some ⟨w.heap.size, 0, none⟩) 0 fs.length] 22) := ⟨_, rfl⟩
  have bx2 : Boxed w2 bl 22 (.slice (some ⟨w.heap.size, 0, none⟩) 0 fs.length) := by rw [hw2, hbl0]; exact Boxed.new w1 _ _
  have hB2 : Below w.heap.size w w2 := by rw [hw2]; exact hB1.alloc hB1.size _
  have hrow2 : w2.ownsRow w.heap.size 47 2 (.slice (some ⟨w.heap.size, 0, none⟩) 0 fs.length) 0 [] := by rw [hw2]; exact hrow1.alloc _
  have hwl : w.heap.size ≤ bl := by rw [hbl0]; exact hB1.size
  rw [← hw2, ← hbl0]
  clear hw2 hbl0 hB1 hrow1 hg1 hmk hlr h
  refine ⟨trivial, ?_⟩
  refine (callsIn_wide.2 (callsIn_wide.1 (dev_sorted (some b) w2))).mono ?_
  rintro e w3' ⟨rfl, rfl⟩
  obtain ⟨Bf, hBf⟩ : ∃ Bf, Bf = w2.heap.size := ⟨_, rfl⟩
  obtain ⟨w3, hw3⟩ : ∃ w3, w3 = w2.alloc (.cells #[.map (some b)] 59) := ⟨_, rfl⟩
  have bf3 : Boxed w3 Bf 59 (.map (some b)) := by rw [hw3, hBf]; exact Boxed.new w2 _ _
  have bx3 : Boxed w3 bl 22 (.slice (some ⟨w.heap.size, 0, none⟩) 0 fs.length) := by rw [hw3]; exact bx2.alloc _
  have hB3 : Below w.heap.size w w3 := by rw [hw3]; exact hB2.alloc hB2.size _
  have hrow3 : w3.ownsRow w.heap.size 47 2 (.slice (some ⟨w.heap.size, 0, none⟩) 0 fs.length) 0 [] := by rw [hw3]; exact hrow2.alloc _
  have hm3 := (Hh.out.below hB3).map
  have hs3 := Hh.out.sort
  rw [← hw3, ← hBf]
  clear hw3 hBf hB2 hrow2 bx2
  have hwB3 := hB3.size
  gi_wp2_with fail
  refine wpIn_rangeFunc_ownH rfl (by omega) (gf := 62) (lb := #[.pointer (some ⟨Bf, 0, none⟩)]) rfl trivial (enters_of Try.func62 (by kernel_rfl) rfl)
    (files_stops Bf b n hs3 hnm hl w3 bf3 hm3) (fun h h' => h.trans h') (KpF.put (by omega)) (Below.refl _ _) (fun _ => rfl)
    (fun pre W => (∃ v, Boxed W bl 22 v ∧ W.ownsRow w.heap.size 47 2 v pre.length (pre.flatMap FileM.cs) ∧ True) ∧ Below w.heap.size w W)
    (fun _ _ _ => False)
    (OwnFrom.and (Own.from (holdsRow_own w.heap.size bl 22 47 2 (fun pre : List FileM => pre.length) (fun pre => pre.flatMap FileM.cs) (fun _ _ => True)) _) (ownFrom_below (Nat.le_refl _) hwB3))
    (fun _ _ _ _ _ hs _ _ => hs)
    ⟨⟨_, bx3, hrow3, trivial⟩, hB3⟩
    (fun x a' W => ∃ Bx, Box2 W Bx x ∧ a' = { tmps := #[.map (some b), undef, .slice none 0 0, .pointer (some ⟨bl, 0, none⟩), .pointer (some ⟨Bx, 0, none⟩), .map (some b), .int .i64 (fs.length : Nat), .slice (some ⟨w.heap.size, 0, none⟩) 0 fs.length, .map (some b), .func (.func 62) #[] #[.pointer (some ⟨Bf, 0, none⟩)], .agg #[.string x.name, .slice x.p.A x.p.n x.p.c], undef, undef, undef, undef, undef], defers := [] })
    (fun x a' _ X Y row hs hg hr => by
      obtain ⟨Bx, h1, h2⟩ := hs
      refine ⟨Bx, (hg.block Bx (Array.getElem?_eq_some_iff.1 h1).1 (fun e => ?_)).trans h1, h2⟩
      obtain ⟨_, o, ho, hc⟩ := hr Bx e.symm
      rw [show X.heap[Bx]? = _ from h1] at ho
      cases ho
      cases hc)
    ?assign ?body ?done ?stop
  case assign =>
    rintro l pre x W K ⟨⟨v, hv, hr, _⟩, hB⟩ hK
    have hbW : b < W.heap.size := Nat.lt_of_lt_of_le hbl hB.size
    gi_wp2
    exact hK _ _ ((KeepsOthers.alloc _ _).from _) (KpF.alloc hbW _) ⟨⟨v, hv.alloc _, hr.alloc _, trivial⟩, hB.alloc hB.size _⟩ ⟨W.heap.size, World.alloc_heap_new W _, rfl⟩
  case body =>
    rintro l pre x a' W hlw ⟨r, hr⟩ ⟨⟨v, hv, hrow, _⟩, hB⟩ ⟨Bx, hx2, rfl⟩ hlt
    have hbW : b < W.heap.size := Nat.lt_of_lt_of_le hbl hB.size
    obtain ⟨A1, c1, rfl, hc1⟩ := own_slice hrow
    have hvc := hv.cell
    have hvf := hv.frozen
    obtain ⟨⟨x0, x1⟩, _⟩ := box2 hx2
    gi_wp2_with (gi_at_builtin; refine hold ?_)
    refine unhold (wpListIn_append_own _ rfl _ _ 22 rfl w.heap.size 47 i2 _ 2 40 Try.underlying22 hj hy0 hy1 hy2 file_cells (by omega) _ _ _ rfl (hrow.alloc _) ⟨W.heap.size, 0, none⟩ 1 1 (FileM.cs x) rfl rfl (fun j u hu => ?_) (FileM.one x) (by unfold maxLen; omega) (by omega) (by have := hB.size; simp; omega) ?_)
    · rw [add_plain', Nat.zero_add, cell_of_row _ _ _ _ _ _ (World.alloc_heap_new W _)]
      have := (List.getElem?_eq_some_iff.1 hu).1
      simpa [FileM.cs] using hu
    intro v' w4 hown' hgrow _
    obtain ⟨g', cap', rfl⟩ := ownsRow_succ hown'
    obtain ⟨hv1, hv2, hr2, hk2, hb2⟩ := hv.appended (by decide) hrow hB.size hwl hown' hgrow
    have hc4 := hv1.cell
    have hf4 := hv1.frozen
    have hkp : KpF b W (w4.setCell ⟨bl, 0, none⟩ (.slice (some ⟨g', 0, none⟩) (pre.length + 1) cap')) := by
      refine ((KpF.alloc hbW _).trans (KpF.grown (by simp; omega) hgrow fun g e => ?_)).trans (KpF.grown (Nat.lt_of_lt_of_le (by simp; omega) hgrow.size) (grownBy_setCell' w4 bl _) fun g e => ?_)
      · have hlt' := hrow.lt g e.symm.symm
        refine ⟨by omega, fun cur t fr hk => ?_⟩
        rcases (hrow.alloc (.cells #[.string x.name, .slice x.p.A x.p.n x.p.c] 47)).2 with ⟨e1, _⟩ | ⟨g1, cap, cur1, e1, _, hg1, _⟩
        · rw [e1] at e; cases e
        · rw [e1] at e
          cases e
          rw [hg1] at hk
          cases hk
          exact ⟨by decide, by decide⟩
      · cases e
        refine ⟨by omega, fun cur t fr hk => ?_⟩
        rw [show w4.heap[bl]? = _ from hv1] at hk
        cases hk
        exact ⟨by decide, by decide⟩
    have H1 := Lib.hid (⟨hk2, hkp, hv2, hr2, hB.trans hb2⟩ : _ ∧ _ ∧ _ ∧ _ ∧ _)
    clear hk2 hkp hv2 hr2 hb2 hown' hgrow hv1 hx2 hrow hv
    gi_wp2_with fail
    exact ⟨H1.out.1.from _, H1.out.2.1, ⟨_, H1.out.2.2.1, by rw [List.flatMap_append, List.length_append]; simpa using H1.out.2.2.2.1, trivial⟩, H1.out.2.2.2.2⟩
  case done =>
    rintro D ys W hD rfl ⟨⟨v, hv, hrow, _⟩, hB⟩ hK
    obtain ⟨A1, c1, rfl, hc1⟩ := own_slice hrow
    have hvc := hv.cell
    have hrow' := ownsRow_putObj hrow (.deferred none) hK rfl
    have hB' := hB.trans (belowK_b (w := w) (Nat.le_refl _) W D _ (.deferred none) (by omega) hK rfl rfl)
    have Hr := Lib.hid hrow'
    have HB := Lib.hid hB'
    gi_wp2_with fail
    refine ⟨by simp, .inl ⟨_, _, rfl, run_takeDeferred hK, ?_⟩⟩
    refine ⟨_, results_tmp rfl _ _ _, ⟨A1, c1, rfl, hc1, Row.of_own (by omega) FileM.len Hr.out, fun f hf => (Hoks.out f hf).on HB.out HB.out.size⟩, HB.out⟩
  case stop =>
    rintro D c pre W _ _ hf _
    exact hf.elim

theorem dev_list {w : World} {C : Nat → Prop} {b n : Nat} {fs : List FileM} (h : FM w C b n fs) (hnm : ∀ f ∈ fs, f.name.size ≤ maxLen) (hl : fs.length ≤ 100000) :
    Calls Try.prog 40 #[.map (some b)] w (ListOut fs w) := callsIn_wide.1 (list_in h hnm hl)

end Go.Proofs.Ytmfiopopiikbmaa
