/-
  manifest.numbered: its contract; a set of numbers.
-/
import Derived.Test.YtafeadplmcoilaaDoorFilesM
import Derived.Maps.OwnSet
import Derived.Maps.AppendAt
namespace Go.Proofs.YtafeadplmcoilaaDoor
open Go.RowKit Go.Shelf Go.Maps
set_option linter.unusedVariables false
set_option linter.unusedSimpArgs false

attribute [local go_sem] Oper.semAt_some

/-! ### Plainly -/
/-- Each may be a file, and no two have one number. -/
def okF (m : ManP) (l : List IdP) : Prop := ∀ (i : Nat) (x : IdP), l[i]? = some x → FileM m x.seq x.fmt ∧ ∀ (k : Nat) (y : IdP), k < i → l[k]? = some y → y.seq ≠ x.seq
theorem okF_nil (m : ManP) : okF m [] := fun i x h => by simp at h
theorem okF_pre {m : ManP} {l pre : List IdP} (h : okF m l) (hp : pre <+: l) : okF m pre := by
  obtain ⟨r, rfl⟩ := hp
  intro i x hi
  have hlt := (List.getElem?_eq_some_iff.1 hi).1
  have h1 := h i x (by rw [List.getElem?_append_left hlt]; exact hi)
  exact ⟨h1.1, fun k y hk hy => h1.2 k y hk (by rw [List.getElem?_append_left (by omega)]; exact hy)⟩
theorem okF_snoc {m : ManP} {pre : List IdP} {x : IdP} (h : okF m pre) (hf : FileM m x.seq x.fmt) (hn : ∀ y ∈ pre, y.seq ≠ x.seq) : okF m (pre ++ [x]) := by
  intro i y hi
  by_cases hlt : i < pre.length
  · rw [List.getElem?_append_left hlt] at hi
    have h1 := h i y hi
    exact ⟨h1.1, fun k u hk hu => h1.2 k u hk (by rwa [List.getElem?_append_left (by omega)] at hu)⟩
  · rw [List.getElem?_append_right (by omega)] at hi
    have hi' := (List.getElem?_eq_some_iff.1 hi).1
    have e : i - pre.length = 0 := by simp at hi'; omega
    rw [e] at hi
    obtain rfl : x = y := by simpa using hi
    refine ⟨hf, fun k u hk hu => hn u ?_⟩
    rw [List.getElem?_append_left (by omega)] at hu
    exact List.mem_of_getElem? hu
theorem okF_last {m : ManP} {pre : List IdP} {x : IdP} (h : okF m (pre ++ [x])) : FileM m x.seq x.fmt ∧ ∀ y ∈ pre, y.seq ≠ x.seq := by
  have h1 := h pre.length x (by rw [List.getElem?_append_right (Nat.le_refl _)]; simp)
  refine ⟨h1.1, fun y hy => ?_⟩
  obtain ⟨k, hk⟩ := List.getElem?_of_mem hy
  have hlt := (List.getElem?_eq_some_iff.1 hk).1
  exact h1.2 k y hlt (by rw [List.getElem?_append_left hlt]; exact hk)
def inI (K : List Int) (s : Int) : Bool := K.any fun t => decide (t = s)
theorem inI_snoc (K : List Int) (t s : Int) : inI (K ++ [t]) s = (inI K s || decide (t = s)) := by
  unfold inI
  rw [List.any_append]
  simp
theorem inI_iff {K : List Int} {s : Int} : inI K s = true ↔ s ∈ K := by simp [inI]
def MOk (m : ManP) : Prop := ∀ x ∈ filesP m, -9223372036854775808 ≤ x.seq ∧ x.seq ≤ 9223372036854775807

/-! ### A set of numbers -/
/-- Block b is a set that holds K, nothing else. -/
def SetI (w : World) (b n : Nat) (K : List Int) : Prop :=
  ∃ D : DataW Nat, w.ownsMap Tryd.prog 3 unitElem b n D ∧ ∀ s : Int, has D (.int .i64 s) = inI K s
theorem int_keyedI : Keyed Tryd.prog 3 := int_keyed Tryd.underlying3
theorem key_int {k : Int} (hk : -9223372036854775808 ≤ k ∧ k ≤ 9223372036854775807) : keyOf Tryd.prog 3 (.int .i64 k) = some (.int .i64 k) := keyOf_int_mk Tryd.underlying3 (by simp only [Lit.wf, Bool.and_eq_true, decide_eq_true_eq]; exact hk)
theorem zero_unit (w : World) : (zeroValue 94).run Tryd.prog w = .ok (.agg #[]) w := by kernel_rfl
section
variable {w w' : World} {b n : Nat} {K : List Int}
theorem SetI.made (w : World) : SetI (w.alloc (.map #[] 0)) w.heap.size 0 [] := ⟨.map [], World.ownsMap_made w _ _ _, fun s => by simp [has_eq, inI]⟩
theorem SetI.kept {row : Option Nat} (h : SetI w b n K) (hg : w.grownBy w' row) (hne : some b ≠ row) : SetI w' b n K := by
  obtain ⟨D, h1, h2⟩ := h
  exact ⟨D, h1.kept hg hne, h2⟩
theorem SetI.same (h : SetI w b n K) (hs : w'.heap[b]? = w.heap[b]?) : SetI w' b n K := by
  obtain ⟨D, ⟨es, clock, h1, h3⟩, h2⟩ := h
  exact ⟨D, ⟨es, clock, hs.trans h1, h3⟩, h2⟩
theorem SetI.lt (h : SetI w b n K) : b < w.heap.size := by
  obtain ⟨D, h1, _⟩ := h
  exact h1.lt
theorem SetI.alloc (h : SetI w b n K) (o : Obj) : SetI (w.alloc o) b n K := h.kept (World.grownBy_alloc w o none) (by simp)
theorem SetI.below (h : SetI w b n K) (hb : Below w.heap.size w w') : SetI w' b n K := h.same (hb.block b h.lt)
theorem SetI.put (h : SetI w b n K) {s : Int} (hn : n < maxLen) (hs : -9223372036854775808 ≤ s ∧ s ≤ 9223372036854775807) :
    ∃ w', (Instr.mapUpdate 93 (.map (some b)) (.int .i64 s) (.agg #[])).run Tryd.prog w = .ok () w' ∧ SetI w' b (n + 1) (K ++ [s]) ∧ w.grownBy w' (some b) := by
  obtain ⟨D, h1, h2⟩ := h
  obtain ⟨w', r, h3, g⟩ := h1.update int_keyedI Tryd.underlying93 hn (key_int hs) (val := .agg #[]) (d := .agg []) (ps := []) unitElem_mk
  refine ⟨w', r, ⟨_, h3, fun t => ?_⟩, g⟩
  rw [inI_snoc]
  by_cases e : t = s
  · subst e
    rw [has_put_same h1.isMap (by simp [WideAt.IsKeyLit]), decide_eq_true rfl, Bool.or_true]
  · rw [has_put_other (fun e' => e (by injection e' with _ e')), h2, decide_eq_false (fun e' => e e'.symm), Bool.or_false]
theorem SetI.look (h : SetI w b n K) {s : Int} (hs : -9223372036854775808 ≤ s ∧ s ≤ 9223372036854775807) :
    (Instr.lookup 93 (.map (some b)) (.int .i64 s) true).run Tryd.prog w = .ok (.tuple #[.agg #[], .bool (inI K s)]) w := by
  obtain ⟨D, h1, h2⟩ := h
  obtain ⟨v, ps, r, hv⟩ := h1.look_ok int_keyedI Tryd.underlying93 (zero_unit w) (zd := .agg []) (zp := []) unitElem_mk (key_int hs)
  obtain ⟨rfl, _⟩ := unitElem_inv hv
  rw [r, h2]
end
theorem run_make_setI (w : World) : (Instr.makeMap 93 none).run Tryd.prog w = .ok (.map (some w.heap.size)) (w.alloc (.map #[] 0)) := by
  simp [Instr.makeMap, run_underlying Tryd.underlying93, newObj, Result.andThen, go_sem]
  try rfl

/-! ### numbered -/
theorem ownT_lowF {β : Type} {t : TypeId} {B : Nat} {I : β → World → Prop} (hsz : ∀ s W, I s W → B ≤ W.heap.size) (h : ∀ s W W', I s W → Below B W W' → I s W') : OwnT t B I := fun s W W' row hs hg hr =>
  h s W W' hs ⟨hg.os, hg.tape, hg.output, hg.size, fun k hk => hg.block k (Nat.lt_of_lt_of_le hk (hsz s W hs)) (fun e => by have := (hr k e.symm).1; omega)⟩
/-- Between two rounds. -/
structure NInv (w : World) (m : ManP) (v : Value) (z D : Nat) (pre : List IdP) (W : World) : Prop where
  ok : okF m pre
  bm : BoxM W z m v
  br : Boxed W (z + 1) 4 (.bool false)
  bs : Boxed W (z + 1 + 1 + 1) 93 (.map (some (z + 1 + 1)))
  set : SetI W (z + 1 + 1) pre.length (pre.map IdP.seq)
  low : Below w.heap.size w W
  size : D ≤ W.heap.size
structure NEnd (w : World) (m : ManP) (z D : Nat) (W : World) : Prop where
  no : ¬ okF m (filesP m)
  br : Boxed W (z + 1) 4 (.bool false)
  low : Below w.heap.size w W
  size : D ≤ W.heap.size
theorem NInv.own {w : World} {m : ManP} {v : Value} {z D : Nat} {t : TypeId} (h1 : z + 3 < D) (h2 : w.heap.size ≤ D) : OwnT t D (NInv w m v z D) :=
  ownT_lowF (fun _ _ h => h.size) fun _ _ _ h hb => ⟨h.ok, (hb.block z (by omega)).trans h.bm, (hb.block _ (by omega)).trans h.br, (hb.block _ (by omega)).trans h.bs, h.set.same (hb.block _ (by omega)), h.low.trans (hb.mono h2), Nat.le_trans h.size hb.size⟩
theorem NEnd.own {w : World} {m : ManP} {z D : Nat} {t : TypeId} (h1 : z + 3 < D) (h2 : w.heap.size ≤ D) (c : Code) : OwnT t D (fun (_ : List IdP) W => c = Code.ret ∧ NEnd w m z D W) :=
  ownT_lowF (fun _ _ h => h.2.size) fun _ _ _ h hb => ⟨h.1, h.2.no, (hb.block _ (by omega)).trans h.2.br, h.2.low.trans (hb.mono h2), Nat.le_trans h.2.size hb.size⟩

set_option maxRecDepth 100000 in
set_option maxHeartbeats 4000000 in
theorem numbered_in (m : ManP) (A : Option Addr) (n c : Nat) (w : World) (hS : Sg w w.heap.size A n m.sg) (hn : n ≤ 1000000) (hk : MOk m) :
    CallsIn Fence.wide 4 Tryd.prog 39 #[manV m (.slice A n c)] w fun e w' => (∃ b : Bool, (b = true ↔ okF m (filesP m)) ∧ e = .returned (.bool b)) ∧ Below w.heap.size w w' := by
  have hmm := fun (w : World) => run_make_setI w
  obtain ⟨w1, z, hw1, hz, b1, x1⟩ := box_new (w := w) m (.slice A n c)
  obtain ⟨w2, hw2⟩ : ∃ w2, w2 = w1.alloc (.cells #[.bool false] 4) := ⟨_, rfl⟩
  obtain ⟨w3, hw3⟩ : ∃ w3, w3 = w2.alloc (.map #[] 0) := ⟨_, rfl⟩
  obtain ⟨w4, hw4⟩ : ∃ w4, w4 = w3.alloc (.cells #[.map (some (z + 1 + 1))] 93) := ⟨_, rfl⟩
  have s1 : w1.heap.size = z + 1 := by rw [hw1, hz]; simp
  have s2 : w2.heap.size = z + 2 := by rw [hw2]; simp [s1]
  have s3 : w3.heap.size = z + 3 := by rw [hw3]; simp [s2]
  have s4 : w4.heap.size = z + 4 := by rw [hw4]; simp [s3]
  have b2 : Below w1.heap.size w1 w2 := by rw [hw2]; exact below_al (below_d0 w1) _
  have b3 : Below w2.heap.size w2 w3 := by rw [hw3]; exact below_al (below_d0 w2) _
  have b4 : Below w3.heap.size w3 w4 := by rw [hw4]; exact below_al (below_d0 w3) _
  have B2 := b1.trans (b2.mono b1.size)
  have B3 := B2.trans (b3.mono B2.size)
  have B4 := B3.trans (b4.mono B3.size)
  have x4 := ((x1.below b2).below b3).below b4
  have r4 : Boxed w4 (z + 1) 4 (.bool false) := by
    have h : Boxed w2 (z + 1) 4 (.bool false) := by rw [hw2, ← s1]; exact Boxed.new w1 _ _
    exact (b4.block _ (by omega)).trans ((b3.block _ (by omega)).trans h)
  have t4 : SetI w4 (z + 1 + 1) 0 [] := by
    have h : SetI w3 (z + 1 + 1) 0 [] := by rw [hw3, ← s2]; exact SetI.made w2
    exact h.below b4
  have u4 : Boxed w4 (z + 1 + 1 + 1) 93 (.map (some (z + 1 + 1))) := by rw [hw4, ← s3]; exact Boxed.new w3 _ _
  obtain ⟨c0, c1, c2, c3, c4, c5⟩ := x4.cells
  have HW := Lib.hid (⟨hw1, hw2, hw3, hw4, hz, s4, B4, x4, r4, t4, u4⟩ : _ ∧ _ ∧ _ ∧ _ ∧ _ ∧ _ ∧ _ ∧ _ ∧ _ ∧ _ ∧ _)
  have HK := Lib.hid (⟨hS, hk⟩ : _ ∧ _)
  clear b1 x1 s1 s2 s3 s4 b2 b3 b4 B2 B3 B4 x4 r4 t4 u4 hw1 hw2 hw3 hw4 hS hk hz c0 c1 c2 c3 c4 c5
  unfold manV
  refine callsIn_of_wp_marks Tryd.func39 rfl trivial ?_ rfl
  simp only [Tryd.ntmps39, List.size_toArray, List.length_cons, List.length_nil, Nat.reduceAdd, Nat.reduceSub, Array.replicate_succ, Array.replicate_zero, List.push_toArray, List.append_toArray, List.nil_append, List.cons_append]
  gi_wp2_with fail
  rw [← HW.out.2.2.2.2.1, ← HW.out.1, ← HW.out.2.1, ← HW.out.2.2.1, ← HW.out.2.2.2.1]
  refine ⟨trivial, ?_⟩
  refine (callsIn_wide.2 (files_any m (.slice A n c) w4)).mono ?_
  rintro e w5 ⟨rfl, hb5, hs5, B5⟩
  obtain ⟨-, -, -, -, hz, s4, B4, x4, r4, t4, u4⟩ := HW.out
  obtain ⟨zF, hzF⟩ : ∃ zF, w4.heap.size = zF := ⟨_, rfl⟩
  rw [hzF] at hb5 hs5 ⊢
  have h0 : NInv w m (.slice A n c) z w5.heap.size [] w5 := ⟨okF_nil m, x4.below B5, (B5.block _ r4.lt).trans r4, (B5.block _ u4.lt).trans u4, t4.below B5, B4.trans (B5.mono B4.size), Nat.le_refl _⟩
  have Hd := Lib.hid (show w.heap.size ≤ z ∧ z + 4 = zF ∧ w5.heap.size = zF + 1 by omega)
  have H0 := Lib.hid (⟨h0, hb5, (Row.low HK.out.1 fun k hk => h0.low.block k hk : Sg w5 w.heap.size A n m.sg)⟩ : _ ∧ _ ∧ _)
  clear h0 hb5 hs5 B5 hz s4 B4 x4 r4 t4 u4 hzF hmm
  gi_wp2_with fail
  refine range_P 9 rfl (by decide) (gf := 62) (lb := #[.pointer (some ⟨zF, 0, none⟩)]) rfl trivial (enters_of Tryd.func62 (by kernel_rfl) rfl)
    (files_seq (tt := 9) zF w.heap.size hn w5 (by have := Hd.out; omega) H0.out.2.1 H0.out.2.2) (fun h h' => h.trans h') (KpF.put (by have := Hd.out; omega) (by have := Hd.out; omega)) (Below.refl _ _) (fun _ => rfl)
    (NInv w m (.slice A n c) z w5.heap.size) (fun c (_ : List IdP) W => c = Code.ret ∧ NEnd w m z w5.heap.size W) (NInv.own (by have := Hd.out; omega) (by have := Hd.out; omega))
    (NEnd.own (by have := Hd.out; omega) (by have := Hd.out; omega)) H0.out.1
    (fun d a' W => ∃ zb, BoxI W zb d ∧ w5.heap.size ≤ zb ∧ a' = { tmps := #[.agg #[.int .i64 m.nx, .int .i64 m.tm, .int .i64 m.vt, .int .i64 m.ss, .int .i64 m.sf, .slice A n c], .pointer (some ⟨z, 0, none⟩), .pointer (some ⟨z + 1, 0, none⟩), .pointer (some ⟨z + 1 + 1 + 1, 0, none⟩), .pointer (some ⟨zb, 0, none⟩), undef, undef, .map (some (z + 1 + 1)), .agg #[.int .i64 m.nx, .int .i64 m.tm, .int .i64 m.vt, .int .i64 m.ss, .int .i64 m.sf, .slice A n c], .func (.func 62) #[] #[.pointer (some ⟨zF, 0, none⟩)], .agg #[.int .u8 d.kind, .int .i64 d.seq, .int .i64 d.fmt], undef, undef, undef, undef, undef, undef, undef, undef, undef, undef, undef, undef, undef, undef, undef, undef, undef, undef, undef, undef, undef, undef, undef, undef, undef, undef, undef, undef, undef, undef, undef, undef, undef, undef], defers := [] })
    (fun d a' W l o o' h hl ho => by
      obtain ⟨zb, hb, hz, ha⟩ := h
      refine ⟨zb, (World.putObj_heap_other ?_).trans hb, hz, ha⟩
      rintro rfl
      rw [show W.heap[_]? = _ from hb] at hl
      cases hl
      cases ho) ?assign ?body ?done ?stop
  case assign =>
    intro lp pre d W hI hok
    obtain ⟨dk, ds, df⟩ := d
    have hbe := (Below.refl W.heap.size W).alloc (Nat.le_refl _) (.cells #[.int .u8 dk, .int .i64 ds, .int .i64 df] 49)
    have HI := Lib.hid (⟨hI, hbe⟩ : _ ∧ _)
    clear hI hbe hok
    gi_wp2
    obtain ⟨hI, hbe⟩ := HI.out
    have hd := Hd.out
    have hsz := hI.size
    exact ⟨(KeepsOthers.alloc _ _).from _, KpF.below hbe (by omega) (by omega), (NInv.own (t := 9) (by omega) (by omega)).new _ hI, ⟨_, BoxI.new W ⟨dk, ds, df⟩, hsz, rfl⟩⟩
  case body =>
    rintro lp pre d a' W hI ⟨zb, hzb, hzl, rfl⟩ hok
    obtain ⟨dk, ds, df⟩ := d
    have hmem : (⟨dk, ds, df⟩ : IdP) ∈ filesP m := hok.subset (by simp)
    have hds := HK.out.2 _ hmem
    have hlk := hI.set.look hds
    obtain ⟨y0, -, -, -, -, -⟩ := hI.bm.cells
    obtain ⟨d0, d1, d2⟩ := hzb.cells
    have hcs := hI.bs.cell
    have hcr := hI.br.cell
    have hfr := hI.br.frozen
    have hbe := (Below.refl W.heap.size W).alloc (Nat.le_refl _) (.cells #[] 94)
    obtain ⟨W1, hW1⟩ : ∃ W1, W1 = W.alloc (.cells #[] 94) := ⟨_, rfl⟩
    rw [← hW1] at hbe
    have bm1 := hI.bm.below hbe
    have bi1 := hzb.below hbe
    have br1 : Boxed W1 (z + 1) 4 (.bool false) := (hbe.block _ hI.br.lt).trans hI.br
    have bs1 : Boxed W1 (z + 1 + 1 + 1) 93 (.map (some (z + 1 + 1))) := (hbe.block _ hI.bs.lt).trans hI.bs
    have hk1 : KeepsFrom w5.heap.size W W1 := by rw [hW1]; exact (KeepsOthers.alloc _ _).from _
    obtain ⟨y0', -, -, -, -, -⟩ := bm1.cells
    obtain ⟨d0', d1', d2'⟩ := bi1.cells
    have hcs' := bs1.cell
    have hcr' := br1.cell
    have hfr' := br1.frozen
    have hset1 := hI.set.below hbe
    have hpl : pre.length ≤ 1000001 := by
      have h1 := hok.length_le
      have h2 : (snapF m).length ≤ 1 := by unfold snapF; split <;> simp
      have h3 := HK.out.1.len
      simp [filesP] at h1
      omega
    have H1 := Lib.hid (⟨bm1, br1, bs1, hk1, hbe, hset1, hW1⟩ : _ ∧ _ ∧ _ ∧ _ ∧ _ ∧ _ ∧ _)
    rw [hW1] at y0' d0' d1' d2' hcs' hcr' hfr'
    have HI := Lib.hid (⟨hI, hzb, hzl, hok, hds, hpl⟩ : _ ∧ _ ∧ _ ∧ _ ∧ _ ∧ _)
    have hno' : ∀ (_ : ¬ (FileM m ds df ∧ ∀ y ∈ pre, y.seq ≠ ds)), ¬ okF m (filesP m) := fun h h2 => h (okF_last (okF_pre h2 hok))
    have Hno := Lib.hid hno'
    clear hI hzb hzl hok hmem hds hno' hpl bm1 bi1 br1 bs1 hk1 hbe hset1 hW1
    dsimp only at hlk
    by_cases hq : inI (pre.map IdP.seq) ds = true
    · have hno := Hno.out (fun h => by
        obtain ⟨y, hy, e⟩ := List.mem_map.1 (inI_iff.1 hq)
        exact h.2 y hy e)
      rw [hq] at hlk
      clear hq Hno
      have H3 := Lib.hid hno
      clear hno
      gi_wp2_with fail
      repeat (refine ⟨fun _ _ => trivial, ?_⟩; gi_wp2_with fail)
      rw [← H1.out.2.2.2.2.2.2]
      obtain ⟨bm1, br1, bs1, hk1, hbe, hset1, -⟩ := H1.out
      have hd := Hd.out
      have hsz := HI.out.1.size
      have hlow := HI.out.1.low.trans (hbe.mono (by omega : w.heap.size ≤ W.heap.size))
      exact ⟨hk1.trans (KeepsFrom.of_grownBy (set_grown W1 (z + 1) _) (fun k e => by cases e; omega)), rfl, ⟨H3.out, br1.set _, hlow.setCell (by show w.heap.size ≤ z + 1; omega) _, by have := (set_grown W1 (z + 1) (.bool false)).size; have := hbe.size; omega⟩⟩
    replace hq : inI (pre.map IdP.seq) ds = false := by simpa using hq
    rw [hq] at hlk
    by_cases h1 : ds < 1
    · have hno := Hno.out (fun h => by have := h.1.1; omega)
      have e1 : decide (ds < 1) = true := decide_eq_true h1
      clear hq Hno
      have H3 := Lib.hid hno
      clear hno
      gi_wp2_with fail
      repeat (refine ⟨fun _ _ => trivial, ?_⟩; gi_wp2_with fail)
      rw [← H1.out.2.2.2.2.2.2]
      obtain ⟨bm1, br1, bs1, hk1, hbe, hset1, -⟩ := H1.out
      have hd := Hd.out
      have hsz := HI.out.1.size
      have hlow := HI.out.1.low.trans (hbe.mono (by omega : w.heap.size ≤ W.heap.size))
      exact ⟨hk1.trans (KeepsFrom.of_grownBy (set_grown W1 (z + 1) _) (fun k e => by cases e; omega)), rfl, ⟨H3.out, br1.set _, hlow.setCell (by show w.heap.size ≤ z + 1; omega) _, by have := (set_grown W1 (z + 1) (.bool false)).size; have := hbe.size; omega⟩⟩
    have e1 : decide (ds < 1) = false := decide_eq_false h1
    by_cases h2 : m.nx ≤ ds
    · have hno := Hno.out (fun h => by have := h.1.2.1; omega)
      have e2 : decide (m.nx ≤ ds) = true := decide_eq_true h2
      clear hq Hno
      have H3 := Lib.hid hno
      clear hno
      gi_wp2_with fail
      repeat (refine ⟨fun _ _ => trivial, ?_⟩; gi_wp2_with fail)
      rw [← H1.out.2.2.2.2.2.2]
      obtain ⟨bm1, br1, bs1, hk1, hbe, hset1, -⟩ := H1.out
      have hd := Hd.out
      have hsz := HI.out.1.size
      have hlow := HI.out.1.low.trans (hbe.mono (by omega : w.heap.size ≤ W.heap.size))
      exact ⟨hk1.trans (KeepsFrom.of_grownBy (set_grown W1 (z + 1) _) (fun k e => by cases e; omega)), rfl, ⟨H3.out, br1.set _, hlow.setCell (by show w.heap.size ≤ z + 1; omega) _, by have := (set_grown W1 (z + 1) (.bool false)).size; have := hbe.size; omega⟩⟩
    have e2 : decide (m.nx ≤ ds) = false := decide_eq_false h2
    by_cases h3 : df = 1 ∨ df = 2
    · have Hy := Lib.hid (show FileM m ds df ∧ ∀ y ∈ pre, y.seq ≠ ds from ⟨⟨by omega, by omega, h3⟩, fun y hy e => by
        have : ds ∈ pre.map IdP.seq := e ▸ List.mem_map_of_mem hy
        rw [inI_iff.2 this] at hq
        cases hq⟩)
      clear hq Hno
      obtain ⟨W9, r9, hset9, g9⟩ := H1.out.2.2.2.2.2.1.put (s := ds) (by have := HI.out.2.2.2.2.2; unfold maxLen; omega) HI.out.2.2.2.2.1
      rw [H1.out.2.2.2.2.2.2] at r9
      have H9 := Lib.hid (⟨hset9, g9⟩ : _ ∧ _)
      clear hset9 g9
      have fin : ∀ a3, ownPostG w5.heap.size (KpF w.heap.size zF) (NInv w m (.slice A n c) z w5.heap.size) (fun c (_ : List IdP) W => c = Code.ret ∧ NEnd w m z w5.heap.size W) (pre ++ [⟨dk, ds, df⟩]) W .normal a3 W9 := fun a3 => by
        obtain ⟨bm1, br1, bs1, hk1, hbe, hset1, -⟩ := H1.out
        obtain ⟨hset9, g9⟩ := H9.out
        have hd := Hd.out
        have hsz := HI.out.1.size
        have hs1 := hbe.size
        have hs9 := g9.size
        have hne : ∀ k, k ≠ z + 1 + 1 → k < W1.heap.size → W9.heap[k]? = W1.heap[k]? := fun k hk hlt => g9.block k hlt (fun e => hk (Option.some.inj e))
        have hlow := HI.out.1.low.trans (hbe.mono (by omega : w.heap.size ≤ W.heap.size))
        refine ⟨hk1.trans (KeepsFrom.of_grownBy g9 (fun k e => by cases e; omega)), ⟨fun k hk => (hne k (by omega) (by omega)).trans (hbe.block k (by omega)), (hne _ (by omega) (by omega)).trans (hbe.block _ (by omega)), by omega⟩,
          ⟨okF_snoc HI.out.1.ok Hy.out.1 Hy.out.2, (hne _ (by omega) (by omega)).trans bm1, (hne _ (by omega) (by omega)).trans br1, (hne _ (by omega) (by omega)).trans bs1, ?_, hlow.grown g9 hlow.size (fun k e => by cases e; omega), by omega⟩⟩
        rw [List.length_append, List.map_append]
        exact hset9
      have HF := Lib.hid fin
      clear fin
      rcases h3 with rfl | rfl
      · gi_wp2_with fail
        repeat (refine ⟨fun _ _ => trivial, ?_⟩; gi_wp2_with fail)
        exact HF.out _
      · gi_wp2_with fail
        repeat (refine ⟨fun _ _ => trivial, ?_⟩; gi_wp2_with fail)
        exact HF.out _
    · have hno := Hno.out (fun h => h3 h.1.2.2)
      have e3 : (df != 1) = true := by simp; omega
      have e4 : (df != 2) = true := by simp; omega
      clear hq Hno h3
      have H3 := Lib.hid hno
      clear hno
      gi_wp2_with fail
      repeat (refine ⟨fun _ _ => trivial, ?_⟩; gi_wp2_with fail)
      rw [← H1.out.2.2.2.2.2.2]
      obtain ⟨bm1, br1, bs1, hk1, hbe, hset1, -⟩ := H1.out
      have hd := Hd.out
      have hsz := HI.out.1.size
      have hlow := HI.out.1.low.trans (hbe.mono (by omega : w.heap.size ≤ W.heap.size))
      exact ⟨hk1.trans (KeepsFrom.of_grownBy (set_grown W1 (z + 1) _) (fun k e => by cases e; omega)), rfl, ⟨H3.out, br1.set _, hlow.setCell (by show w.heap.size ≤ z + 1; omega) _, by have := (set_grown W1 (z + 1) (.bool false)).size; have := hbe.size; omega⟩⟩
  case done =>
    rintro D ys W hD2 rfl hI hK
    have hc := hI.br.cell
    have hfr := hI.br.frozen
    have HI := Lib.hid hI
    have HK := Lib.hid (⟨hK, hD2⟩ : _ ∧ _)
    clear hI hK hD2
    gi_wp2_with fail
    have hd := Hd.out
    refine leaves_marks (B := w.heap.size) [D] _ ⟨by simp, fun d hd => ?_⟩ fun w' hw' => ⟨.bool true, ?_, ⟨⟨true, ⟨fun _ => HI.out.ok, fun _ => rfl⟩, rfl⟩, (HI.out.low.setCell (by show w.heap.size ≤ z + 1; omega) _).trans hw'.1⟩⟩
    · obtain rfl : d = D := by simpa using hd
      have := HK.out.2
      exact ⟨by omega, ((set_grown W (z + 1) _).block d (Array.getElem?_eq_some_iff.1 HK.out.1).1 (by simp; omega)).trans HK.out.1⟩
    · have hb' : Boxed w' (z + 1) 4 (.bool true) := hw'.2 _ _ (HI.out.br.set (.bool true)) rfl
      have hc' := hb'.cell
      clear hd
      simp [results, Tryd.results39, go_sem, hc']
  case stop =>
    rintro D cc pre W hD2 ⟨rfl, hI⟩ hK
    have HI := Lib.hid hI
    have HK := Lib.hid (⟨hK, hD2⟩ : _ ∧ _)
    clear hI hK hD2
    gi_wp2_with fail
    have hd := Hd.out
    refine leaves_marks (B := w.heap.size) [D] _ ⟨by simp, fun d hd => ?_⟩ fun w' hw' => ⟨.bool false, ?_, ⟨⟨false, ⟨(fun h => by cases h), fun h => absurd h HI.out.no⟩, rfl⟩, HI.out.low.trans hw'.1⟩⟩
    · obtain rfl : d = D := by simpa using hd
      have := HK.out.2
      exact ⟨by omega, HK.out.1⟩
    · have hb' : Boxed w' (z + 1) 4 (.bool false) := hw'.2 _ _ HI.out.br rfl
      have hc' := hb'.cell
      clear hd
      simp [results, Tryd.results39, go_sem, hc']

theorem numbered_any (m : ManP) (A : Option Addr) (n c : Nat) (w : World) (hS : Sg w w.heap.size A n m.sg) (hn : n ≤ 1000000) (hk : MOk m) :
    Calls Tryd.prog 39 #[manV m (.slice A n c)] w fun e w' => (∃ b : Bool, (b = true ↔ okF m (filesP m)) ∧ e = .returned (.bool b)) ∧ Below w.heap.size w w' := callsIn_wide.1 (numbered_in m A n c w hS hn hk)
end Go.Proofs.YtafeadplmcoilaaDoor
