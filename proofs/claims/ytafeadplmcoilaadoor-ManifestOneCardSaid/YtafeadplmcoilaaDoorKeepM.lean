/-
  manifest.Keep: its contract.
-/
import Derived.Test.YtafeadplmcoilaaDoorFilesM
import Derived.Test.YtafeadplmcoilaaDoorNumbd
import Derived.Test.YtafeadplmcoilaaDoorManW
import Derived.Maps.AppendAt
import Derived.Laws.MakeOwn
import Derived.Sort.CutIn
namespace Go.Proofs.YtafeadplmcoilaaDoor
open Go.RowKit Go.Shelf Go.Maps
set_option linter.unusedVariables false
set_option linter.unusedSimpArgs false

attribute [local go_sem] Oper.semAt_some

def ownF : IdP := ⟨1, 0, 0⟩
/-- The idents of a manifest's files, its own ahead of the others. -/
def keepP (m : ManP) : List IdP := ownF :: filesP m
theorem own_litM (w : World) {base g m : Nat} {e : TypeId} (l : List Value) (k : Nat) (hg : g = w.heap.size) (hb : base ≤ w.heap.size) (hm : k ≤ maxLen) (hl : l.length = k * m) :
    (w.alloc (.cells l.toArray e)).ownsRow base e m (.slice (some ⟨g, 0, none⟩) k k) k l := by
  subst hg
  exact ⟨hl, .inr ⟨w.heap.size, k, l.toArray, rfl, hb, World.alloc_heap_new w _, Nat.le_refl _, hm, by simpa using hl, by simp [← hl]⟩⟩
/-- A row of idents of the call's own. -/
abbrev OwnI (w : World) (base : Nat) (v : Value) (n : Nat) (l : List IdP) : Prop := w.ownsRow base 49 3 v n (l.flatMap IdP.cs)
theorem OwnI.ids {w : World} {base n c : Nat} {A : Option Addr} {l : List IdP} (h : OwnI w base (.slice A n c) n l) : Ids w w.heap.size A n l := Row.of_own (by omega) IdP.len h
theorem row_neF {t e : TypeId} (hte : e ≠ t) {W : World} {base size : Nat} {v : Value} {k : Nat} {xs : List Value} (h : W.ownsRow base e size v k xs) {row : Option Nat} (hr : ∀ r, row = some r → ∃ o : Obj, W.heap[r]? = some o ∧ (o.isCells = false ∨ ∃ cur fr, o = .cells cur t fr)) : v.ownBlock = none ∨ v.ownBlock ≠ row := by
  rcases h.2 with ⟨rfl, _⟩ | ⟨g, cap, cur, rfl, _, hg, _⟩
  · exact .inl rfl
  · refine .inr fun e => ?_
    obtain ⟨o, ho, h1⟩ := hr g e.symm
    rw [hg] at ho
    cases ho
    rcases h1 with h1 | ⟨_, _, h1⟩
    · cases h1
    · injection h1 with _ h1 _
      exact hte h1
theorem one_cells {w : World} {t : TypeId} {cs : List Value} {g : Nat} (hg : g = w.heap.size) : ∀ j u, cs[j]? = some u → (w.alloc (.cells cs.toArray t)).cell? ((⟨g, 0, none⟩ : Addr).add j) = some u := by
  subst hg
  intro j u hj
  rw [add_plain', Nat.zero_add, cell_of_row _ _ _ _ _ _ (World.alloc_heap_new w _)]
  have := (List.getElem?_eq_some_iff.1 hj).1
  simpa using hj
theorem BoxM.not_row {W : World} {z : Nat} {m : ManP} {u : Value} (h : BoxM W z m u) {e : TypeId} (he : e ≠ 26) {base size k : Nat} {v : Value} {xs : List Value} (hr : W.ownsRow base e size v k xs) : some z ≠ v.ownBlock := by
  rcases hr.2 with ⟨rfl, _⟩ | ⟨g, cap, cur, rfl, _, hg, _⟩
  · simp [Value.ownBlock]
  · intro e1
    obtain rfl : z = g := by simpa [Value.ownBlock] using e1
    rw [show W.heap[z]? = _ from h] at hg
    injection hg with hg
    injection hg with _ hg _
    exact he hg.symm
/-- Between two rounds. -/
structure KInv (w : World) (m : ManP) (u : Value) (zF b D : Nat) (pre : List IdP) (W : World) : Prop where
  bf : BoxM W zF m u
  row : ∃ v, Boxed W b 41 v ∧ OwnI W w.heap.size v (pre.length + 1) (ownF :: pre)
  low : Below w.heap.size w W
  size : D ≤ W.heap.size
theorem KInv.own {w : World} {m : ManP} {u : Value} {zF b D : Nat} (hz : zF < D) (hb : b < D) (hw : w.heap.size ≤ D) : OwnT 9 D (KInv w m u zF b D) := fun _ W W' row h hg hr => by
  obtain ⟨hbf, ⟨v, hv, hrow⟩, hlow, hsz⟩ := h
  refine ⟨(hg.block zF hbf.lt (fun e => by have := (hr zF e.symm).1; omega)).trans hbf, ⟨v, (hg.block b hv.lt (fun e => by have := (hr b e.symm).1; omega)).trans hv, hrow.kept hg (row_neF (by decide) hrow fun r e => (hr r e).2)⟩, ?_, Nat.le_trans hsz hg.size⟩
  exact hlow.grown hg hlow.size (fun k e => by have := (hr k e).1; omega)

set_option maxRecDepth 100000 in
set_option maxHeartbeats 4000000 in
theorem keep_in (m : ManP) (A : Option Addr) (n c : Nat) (w : World) (hS : Sg w w.heap.size A n m.sg) (hn : n ≤ 1000000) :
    CallsIn Fence.wide 4 Tryd.prog 21 #[manV m (.slice A n c)] w fun e w' => (∃ A' q c', e = .returned (.slice A' q c') ∧ q ≤ c' ∧ q = (keepP m).length ∧ OwnI w' w.heap.size (.slice A' q c') q (keepP m)) ∧ Below w.heap.size w w' := by
  obtain ⟨i0, hi, hz0, hz1, hz2⟩ := info_partsV info_ident
  obtain ⟨w1, z, hw1, hz, b1, x1⟩ := box_new (w := w) m (.slice A n c)
  obtain ⟨w2, hw2⟩ : ∃ w2, w2 = w1.alloc (.cells #[.int .u8 1, .int .i64 0, .int .i64 0] 49) := ⟨_, rfl⟩
  obtain ⟨w4, hw4⟩ : ∃ w4, w4 = w2.alloc (.cells #[.slice (some ⟨z + 1, 0, none⟩) 1 1] 41) := ⟨_, rfl⟩
  have s1 : w1.heap.size = z + 1 := by rw [hw1, hz]; simp
  have s2 : w2.heap.size = z + 1 + 1 := by rw [hw2]; simp [s1]
  have s4 : w4.heap.size = z + 1 + 1 + 1 := by rw [hw4]; simp [s2]
  have b2 : Below w1.heap.size w1 w2 := by rw [hw2]; exact below_al (below_d0 w1) _
  have b4 : Below w2.heap.size w2 w4 := by rw [hw4]; exact below_al (below_d0 w2) _
  have B2 := b1.trans (b2.mono b1.size)
  have B4 := B2.trans (b4.mono B2.size)
  have x4 := (x1.below b2).below b4
  have r4 : Boxed w4 (z + 1 + 1) 41 (.slice (some ⟨z + 1, 0, none⟩) 1 1) := by rw [hw4, ← s2]; exact Boxed.new w2 _ _
  have t4 : OwnI w4 w.heap.size (.slice (some ⟨z + 1, 0, none⟩) 1 1) 1 [ownF] := by
    have h : OwnI w2 w.heap.size (.slice (some ⟨z + 1, 0, none⟩) 1 1) 1 [ownF] := by
      rw [hw2]
      exact own_litM w1 _ 1 s1.symm b1.size (by unfold maxLen; omega) rfl
    rw [hw4]
    exact h.alloc _
  obtain ⟨c0, c1, c2, c3, c4, c5⟩ := x4.cells
  have HW := Lib.hid (⟨hw1, hw2, hw4, hz, s4, B4, x4, r4, t4⟩ : _ ∧ _ ∧ _ ∧ _ ∧ _ ∧ _ ∧ _ ∧ _ ∧ _)
  have HK := Lib.hid (⟨hS, hS.len⟩ : _ ∧ _)
  clear b1 x1 s1 s2 s4 b2 b4 B2 B4 x4 r4 t4 hw1 hw2 hw4 hS hz c0 c1 c2 c3 c4 c5
  unfold manV
  refine callsIn_of_wp_marks Tryd.func21 rfl trivial ?_ rfl
  simp only [Tryd.ntmps21, List.size_toArray, List.length_cons, List.length_nil, Nat.reduceAdd, Nat.reduceSub, Array.replicate_succ, Array.replicate_zero, List.push_toArray, List.append_toArray, List.nil_append, List.cons_append]
  gi_wp2_with fail
  rw [← HW.out.2.2.2.1, ← HW.out.1, ← HW.out.2.1, ← HW.out.2.2.1]
  refine ⟨trivial, ?_⟩
  refine (callsIn_wide.2 (files_any m (.slice A n c) w4)).mono ?_
  rintro e w5 ⟨rfl, hb5, hs5, B5⟩
  obtain ⟨-, -, -, hz, s4, B4, x4, r4, t4⟩ := HW.out
  obtain ⟨zF, hzF⟩ : ∃ zF, w4.heap.size = zF := ⟨_, rfl⟩
  have t5 : OwnI w5 w.heap.size (.slice (some ⟨z + 1, 0, none⟩) 1 1) 1 [ownF] := own_at t4 fun g hg => B5.block g (t4.lt g hg).2
  rw [hzF] at hb5 hs5 ⊢
  have h0 : KInv w m (.slice A n c) zF (z + 1 + 1) w5.heap.size [] w5 := ⟨hb5, ⟨_, (B5.block _ r4.lt).trans r4, t5⟩, B4.trans (B5.mono B4.size), Nat.le_refl _⟩
  have Hd := Lib.hid (show w.heap.size ≤ z ∧ z + 1 + 1 + 1 = zF ∧ w5.heap.size = zF + 1 by omega)
  have H0 := Lib.hid (⟨h0, hb5, (Row.low HK.out.1 fun k hk => h0.low.block k hk : Sg w5 w.heap.size A n m.sg)⟩ : _ ∧ _ ∧ _)
  clear h0 hb5 hs5 B5 hz s4 B4 x4 r4 t4 hzF t5
  gi_wp2_with fail
  refine range_P 9 rfl (by decide) (gf := 62) (lb := #[.pointer (some ⟨zF, 0, none⟩)]) rfl trivial (enters_of Tryd.func62 (by kernel_rfl) rfl)
    (files_seq (tt := 9) zF w.heap.size hn w5 (by have := Hd.out; omega) H0.out.2.1 H0.out.2.2) (fun h h' => h.trans h') (KpF.put (by have := Hd.out; omega) (by have := Hd.out; omega)) (Below.refl _ _) (fun _ => rfl)
    (KInv w m (.slice A n c) zF (z + 1 + 1) w5.heap.size) (fun _ _ _ => False) (KInv.own (by have := Hd.out; omega) (by have := Hd.out; omega) (by have := Hd.out; omega))
    (fun _ _ _ _ _ h _ _ => h) H0.out.1
    (fun d a' W => ∃ zb, BoxI W zb d ∧ w5.heap.size ≤ zb ∧ a' = { tmps := #[.agg #[.int .i64 m.nx, .int .i64 m.tm, .int .i64 m.vt, .int .i64 m.ss, .int .i64 m.sf, .slice A n c], .pointer (some ⟨z, 0, none⟩), .slice none 0 0, .pointer (some ⟨z + 1 + 1, 0, none⟩), .pointer (some ⟨zb, 0, none⟩), .agg #[.int .u8 1, .int .i64 0, .int .i64 0], .slice (some ⟨z + 1, 0, none⟩) 1 1, .agg #[.int .i64 m.nx, .int .i64 m.tm, .int .i64 m.vt, .int .i64 m.ss, .int .i64 m.sf, .slice A n c], .func (.func 62) #[] #[.pointer (some ⟨zF, 0, none⟩)], .agg #[.int .u8 d.kind, .int .i64 d.seq, .int .i64 d.fmt], undef, undef, undef, undef, undef], defers := [] })
    (fun d a' W l o o' h hl ho => by
      obtain ⟨zb, hb, hz, ha⟩ := h
      refine ⟨zb, (World.putObj_heap_other ?_).trans hb, hz, ha⟩
      rintro rfl
      rw [show W.heap[_]? = _ from hb] at hl
      cases hl
      cases ho) ?assign ?body ?done ?stop
  case assign =>
    intro lp pre d W hI hok
    obtain ⟨dk, ds, df⟩ := d
    have hbe := (Below.refl W.heap.size W).alloc (Nat.le_refl _) (.cells #[.int .u8 dk, .int .i64 ds, .int .i64 df] 49)
    have HI := Lib.hid (⟨hI, hbe⟩ : _ ∧ _)
    clear hI hbe hok
    gi_wp2
    obtain ⟨hI, hbe⟩ := HI.out
    have hd := Hd.out
    have hsz := hI.size
    exact ⟨(KeepsOthers.alloc _ _).from _, KpF.below hbe (by omega) (by omega), (KInv.own (by omega) (by omega) (by omega)).new _ hI, ⟨_, BoxI.new W ⟨dk, ds, df⟩, hsz, rfl⟩⟩
  case body =>
    rintro lp pre d a' W hI ⟨zb, hzb, hzl, rfl⟩ hok
    obtain ⟨dk, ds, df⟩ := d
    obtain ⟨d0, d1, d2⟩ := hzb.cells
    obtain ⟨v, hv, hrow⟩ := hI.row
    have hpl : pre.length ≤ 1000001 := by
      have h1 := hok.length_le
      have h2 : (snapF m).length ≤ 1 := by unfold snapF; split <;> simp
      have h3 := HK.out.2
      simp [filesP] at h1
      omega
    obtain ⟨q, hq⟩ : ∃ q, pre.length + 1 = q := ⟨_, rfl⟩
    rw [hq] at hrow
    obtain ⟨A3, e3, rfl, -⟩ := own_slice hrow
    have hc := hv.cell
    have hsz := hI.size
    have HI := Lib.hid (⟨hI, hzl, hpl, hq, hsz⟩ : _ ∧ _ ∧ _ ∧ _ ∧ _)
    have HR := Lib.hid (⟨hv, hrow⟩ : _ ∧ _)
    clear hI hzb hzl hok hpl hq hv hsz hrow
    gi_wp2_with (gi_at_builtin; refine hold ?_)
    refine unhold (wpListIn_append_own _ rfl _ _ 41 rfl w.heap.size 49 i0 (.agg #[.int .u8 0, .int .i64 0, .int .i64 0]) 3 24 Tryd.underlying41 hi hz0 hz1 hz2 rfl (by decide) _ _ _ rfl (HR.out.2.alloc _) ⟨W.heap.size, 0, none⟩ 1 1 [.int .u8 dk, .int .i64 ds, .int .i64 df] rfl rfl (one_cells rfl) (IdP.one ⟨dk, ds, df⟩) (by have := HI.out.2.2.1; have := HI.out.2.2.2.1; unfold maxLen; omega) (by have := HI.out.2.2.1; have := HI.out.2.2.2.1; omega) (by have := HI.out.1.low.size; simp; omega) ?_)
    intro v' w7 hown' hgrow _
    obtain ⟨A5, e5, rfl, -⟩ := own_slice hown'
    have hIl := HI.out.1.low
    obtain ⟨hv1', hv2, hr2, hk2, hb2⟩ := HR.out.1.appended (by decide) HR.out.2 hIl.size (by have := Hd.out; omega) hown' hgrow
    have hc1 := hv1'.cell
    have hf1 := hv1'.frozen
    have hzf : w7.heap[zF]? = W.heap[zF]? := (hgrow.block zF (by have := HI.out.1.bf.lt; simp; omega) (HI.out.1.bf.not_row (by decide) HR.out.2)).trans (Below.heap_alloc _ _ zF HI.out.1.bf.lt)
    have H2 := Lib.hid (⟨hv2, hr2, hk2, hb2, hzf, hIl⟩ : _ ∧ _ ∧ _ ∧ _ ∧ _ ∧ _)
    clear hv1' hv2 hr2 hk2 hb2 hzf hIl hown' hgrow hc
    gi_wp2_with fail
    obtain ⟨hv2, hr2, hk2, hb2, hzf, hIl⟩ := H2.out
    have hd := Hd.out
    have hzf2 : (w7.setCell ⟨z + 1 + 1, 0, none⟩ (.slice A5 (q + 1) e5)).heap[zF]? = W.heap[zF]? := (Below.heap_setCell _ _ _ zF (by simp; omega)).trans hzf
    refine ⟨hk2.from _, ⟨fun k hk => hb2.block k hk, hzf2, hk2.size⟩, ⟨hzf2.trans HI.out.1.bf, ⟨_, hv2, ?_⟩, hIl.trans hb2, Nat.le_trans HI.out.2.2.2.2 hk2.size⟩⟩
    rw [List.length_append, show pre.length + [(⟨dk, ds, df⟩ : IdP)].length + 1 = q + 1 by have := HI.out.2.2.2.1; simp; omega, show ownF :: (pre ++ [(⟨dk, ds, df⟩ : IdP)]) = (ownF :: pre) ++ [⟨dk, ds, df⟩] from rfl, OwnI, List.flatMap_append]
    exact hr2
  case done =>
    rintro D ys W hD2 rfl hI hK
    obtain ⟨v, hv, hrow⟩ := hI.row
    have hc := hv.cell
    obtain ⟨q, hq⟩ : ∃ q, (filesP m).length + 1 = q := ⟨_, rfl⟩
    rw [hq] at hrow
    obtain ⟨A3, e3, rfl, hqe⟩ := own_slice hrow
    have HR := Lib.hid (⟨hrow, hI.low, hK, hq, hqe⟩ : _ ∧ _ ∧ _ ∧ _ ∧ _)
    clear hI hv hrow hK hq hqe
    gi_wp2_with fail
    obtain ⟨hrow, hB, hK, hq, hqe⟩ := HR.out
    refine leaves_marks (B := w.heap.size) [D] _ ⟨by simp, fun d hd => ?_⟩ fun w' hw' => ⟨_, results_tmp rfl _ _ _, ⟨A3, q, e3, rfl, hqe, by rw [← hq]; rfl, own_marks hrow hw'⟩, hB.trans hw'.1⟩
    obtain rfl : d = D := by simpa using hd
    have hd := Hd.out
    exact ⟨by omega, hK⟩
  case stop =>
    rintro D cc pre W _ h _
    exact h.elim

theorem keep_any (m : ManP) (A : Option Addr) (n c : Nat) (w : World) (hS : Sg w w.heap.size A n m.sg) (hn : n ≤ 1000000) :
    Calls Tryd.prog 21 #[manV m (.slice A n c)] w fun e w' => (∃ A' q c', e = .returned (.slice A' q c') ∧ q ≤ c' ∧ q = (keepP m).length ∧ OwnI w' w.heap.size (.slice A' q c') q (keepP m)) ∧ Below w.heap.size w w' := callsIn_wide.1 (keep_in m A n c w hS hn)
end Go.Proofs.YtafeadplmcoilaaDoor
