/-
  one.Scan: its contract.
-/
import Derived.Test.YtlblfpfdebmcgaaDoorEntsI
namespace Go.Proofs.YtlblfpfdebmcgaaDoor
open Go.RowKit Go.Shelf
set_option linter.unusedVariables false

attribute [local go_sem] Oper.semAt_some

/-- Box z holds what is told of a scan. -/
def BoxC (W : World) (z : Nat) (f : Int) (v : Value) (u : Int) : Prop := W.heap[z]? = some (.cells #[.int .i64 f, v, .int .i64 u] 33 (0, 0))
section
variable {W W' : World} {z : Nat} {f u : Int} {v : Value}
theorem BoxC.cells (h : BoxC W z f v u) : W.cell? ⟨z, 0, none⟩ = some (.int .i64 f) ∧ W.cell? ⟨z, 1, none⟩ = some v ∧ W.cell? ⟨z, 2, none⟩ = some (.int .i64 u) := by
  refine ⟨?_, ?_, ?_⟩ <;> (rw [cell_of_row _ _ _ _ _ _ h]; simp)
theorem BoxC.frozen (h : BoxC W z f v u) (i : Nat) : W.frozen? ⟨z, i, none⟩ = false := by
  simp [World.frozen?, show W.heap[z]? = _ from h]
theorem BoxC.lt (h : BoxC W z f v u) : z < W.heap.size := (Array.getElem?_eq_some_iff.1 h).1
theorem BoxC.below (h : BoxC W z f v u) (hb : Below W.heap.size W W') : BoxC W' z f v u := (hb.block z h.lt).trans h
theorem BoxC.new (w : World) (f u : Int) (v : Value) : BoxC (w.alloc (.cells #[.int .i64 f, v, .int .i64 u] 33)) w.heap.size f v u := World.alloc_heap_new w _
theorem BoxC.s0 (h : BoxC W z f v u) (x : Int) : BoxC (W.setCell ⟨z, 0, none⟩ (.int .i64 x)) z x v u := heap_set h _
theorem BoxC.s1 (h : BoxC W z f v u) (x : Value) : BoxC (W.setCell ⟨z, 1, none⟩ x) z f x u := heap_set h _
theorem BoxC.s2 (h : BoxC W z f v u) (x : Int) : BoxC (W.setCell ⟨z, 2, none⟩ (.int .i64 x)) z f v x := heap_set h _
theorem BoxC.other {y : Nat} (h : BoxC W z f v u) (hne : z ≠ y) (i : Nat) (x : Value) : BoxC (W.setCell ⟨y, i, none⟩ x) z f v u := (Below.heap_setCell _ _ _ z (by simpa using hne)).trans h
end
theorem box_not_row {W : World} {z : Nat} {cs : Array Value} {t e : TypeId} {fr : Nat × Nat} (h : W.heap[z]? = some (.cells cs t fr)) (hte : t ≠ e) {base size k : Nat} {v : Value} {xs : List Value} (hr : W.ownsRow base e size v k xs) : some z ≠ v.ownBlock := by
  rcases hr.2 with ⟨rfl, _⟩ | ⟨g, cap, cur, rfl, _, hg, _⟩
  · simp [Value.ownBlock]
  · intro e1
    obtain rfl : z = g := by simpa [Value.ownBlock] using e1
    rw [h] at hg
    injection hg with hg
    injection hg with _ h2 _
    exact hte h2
theorem setCell_grown (W : World) (b i : Nat) (v : Value) : W.grownBy (W.setCell ⟨b, i, none⟩ v) (some b) := by
  have h := (Below.refl 0 W).setCell (p := ⟨b, i, none⟩) (Nat.zero_le _) v
  exact ⟨h.os, h.tape, h.output, h.size, fun k _ hk => Below.heap_setCell _ _ _ k (by simpa using fun e => hk (by rw [e]))⟩
theorem setCell_keeps (W : World) (b i : Nat) (v : Value) : KeepsOthers W (W.setCell ⟨b, i, none⟩ v) := KeepsOthers.setCell _ _ _
/-- 's.Log = append(s.Log, x); s.Used += ..': what lies behind. -/
theorem scan_step {W w3 : World} {n₀ z : Nat} {f u u' : Int} {v v' : Value} {k m : Nat} {xs ys : List Value} {tmp : Obj}
    (hb : BoxC W z f v u) (hrow : W.ownsRow n₀ 40 3 v k xs) (hn₀ : n₀ ≤ W.heap.size) (hz : n₀ ≤ z)
    (hown : w3.ownsRow n₀ 40 3 v' m ys) (hgrow : (W.alloc tmp).grownBy w3 v.ownBlock) :
    BoxC w3 z f v u ∧ BoxC ((w3.setCell ⟨z, 1, none⟩ v').setCell ⟨z, 2, none⟩ (.int .i64 u')) z f v' u' ∧ ((w3.setCell ⟨z, 1, none⟩ v').setCell ⟨z, 2, none⟩ (.int .i64 u')).ownsRow n₀ 40 3 v' m ys ∧
    KeepsOthers W ((w3.setCell ⟨z, 1, none⟩ v').setCell ⟨z, 2, none⟩ (.int .i64 u')) ∧ Below n₀ W ((w3.setCell ⟨z, 1, none⟩ v').setCell ⟨z, 2, none⟩ (.int .i64 u')) ∧
    ∀ (b : Nat) cs t fr, b ≠ z → t ≠ 40 → W.heap[b]? = some (.cells cs t fr) → ((w3.setCell ⟨z, 1, none⟩ v').setCell ⟨z, 2, none⟩ (.int .i64 u')).heap[b]? = some (.cells cs t fr) := by
  have key : ∀ (b : Nat) cs t fr, t ≠ 40 → W.heap[b]? = some (.cells cs t fr) → w3.heap[b]? = some (.cells cs t fr) := fun b cs t fr ht hb' => by
    have hlt := (Array.getElem?_eq_some_iff.1 hb').1
    exact (hgrow.block b (by simp; omega) (box_not_row hb' ht hrow)).trans ((Below.heap_alloc W tmp b hlt).trans hb')
  have hb3 : BoxC w3 z f v u := key z _ _ _ (by decide) hb
  have hrow3 := hown.kept (setCell_grown w3 z 1 v') (.inr (box_not_row hb3 (by decide) hown).symm)
  have hb4 := hb3.s1 v'
  refine ⟨hb3, hb4.s2 u', hrow3.kept (setCell_grown _ z 2 _) (.inr (box_not_row hb4 (by decide) hrow3).symm), ?_, ?_, fun b cs t fr hbz ht h => ?_⟩
  · refine (((KeepsOthers.alloc W tmp).trans (KeepsOthers.of_grownBy hgrow fun j o ej hj => ?_)).trans (setCell_keeps _ z 1 v')).trans (setCell_keeps _ z 2 _)
    rcases (hrow.alloc tmp).2 with ⟨rfl, _⟩ | ⟨g, cap, cur, rfl, _, hgb, _⟩
    · simp [Value.ownBlock] at ej
    · obtain rfl : g = j := by simpa [Value.ownBlock] using ej
      rw [hgb] at hj; cases hj; rfl
  · refine ((((Below.refl n₀ W).alloc hn₀ tmp).grown hgrow (by simp; omega) fun j ej => ?_).setCell (p := ⟨z, 1, none⟩) hz v').setCell (p := ⟨z, 2, none⟩) hz _
    rcases hrow.2 with ⟨rfl, _⟩ | ⟨g, cap, cur, rfl, hb', _, _⟩
    · simp [Value.ownBlock] at ej
    · obtain rfl : g = j := by simpa [Value.ownBlock] using ej
      exact hb'
  · exact (Below.heap_setCell _ _ _ b (by simpa using hbz)).trans ((Below.heap_setCell _ _ _ b (by simpa using hbz)).trans (key b cs t fr ht h))
theorem cell_three_new (W : World) (a b c : Value) (t : TypeId) : ∀ j u, ([a, b, c] : List Value)[j]? = some u → (W.alloc (.cells #[a, b, c] t)).cell? ((⟨W.heap.size, 0, none⟩ : Addr).add j) = some u := by
  intro j u hj
  rw [add_plain', Nat.zero_add, cell_of_row _ _ _ _ _ _ (World.alloc_heap_new W _)]
  simpa using hj

/-- What Scan answers. -/
def ScanT (w : World) (R : Int × List EnP × Int × Int) (e : Ending) (w' : World) : Prop :=
  (∃ A c, e = .returned (.tuple #[.agg #[.int .i64 R.1, .slice A R.2.1.length c, .int .i64 R.2.2.1], .int .i64 R.2.2.2]) ∧ R.2.1.length ≤ c ∧ Es w' w'.heap.size A R.2.1.length R.2.1) ∧ Below w.heap.size w w'

/-- Between two rounds. -/
structure CInv (w : World) (f : Int) (r z sB D : Nat) (vs : Value) (pre : List EnP) (W : World) : Prop where
  bz : ∃ v, BoxC W z f v (6 + 15 * (pre.length : Int)) ∧ W.ownsRow w.heap.size 40 3 v pre.length (pre.flatMap EnP.cs)
  br : BoxC W r 0 (.slice none 0 0) 0
  bs : Boxed W sB 23 vs
  low : Below w.heap.size w W
  size : D ≤ W.heap.size
theorem CInv.own {w : World} {f : Int} {r z sB D : Nat} {vs : Value} (hz : z < D) (hr : r < D) (hs : sB < D) (hw : w.heap.size ≤ D) : OwnT 9 D (CInv w f r z sB D vs) := fun _ W W' row h hg hr' => by
  obtain ⟨⟨v, hv, hrow⟩, h0, h2, hlow, hsz⟩ := h
  have hne : ∀ k, k < D → some k ≠ row := fun k hk e => by have := (hr' k e.symm).1; omega
  refine ⟨⟨v, (hg.block z hv.lt (hne z hz)).trans hv, hrow.kept hg (row_ne (by decide) hrow fun r e => (hr' r e).2)⟩, (hg.block r h0.lt (hne r hr)).trans h0, (hg.block sB h2.lt (hne sB hs)).trans h2, ?_, Nat.le_trans hsz hg.size⟩
  exact hlow.grown hg hlow.size (fun k e => by have := (hr' k e).1; omega)
/-- The loop's variable. -/
def CVar (D : Nat) (mk : Nat → EnP → Act) (x : EnP) (a' : Act) (W : World) : Prop := ∃ bx, BoxE W bx x ∧ D ≤ bx ∧ a' = mk bx x
theorem CVar.put {D : Nat} {mk : Nat → EnP → Act} (x : EnP) (a' : Act) (W : World) (l : Nat) (o o' : Obj) (h : CVar D mk x a' W) (hl : W.heap[l]? = some o) (ho : o.isCells = false) : CVar D mk x a' (W.putObj l o') := by
  obtain ⟨bx, hb, hD, e⟩ := h
  refine ⟨bx, (World.putObj_heap_other (fun e => ?_)).trans hb, hD, e⟩
  subst e
  rw [show W.heap[bx]? = _ from hb] at hl
  cases hl
  cases ho
theorem info_entry : (Tryd.prog.info? 40).map (fun i => (i.zero, i.size, i.bytes)) = some (some (.agg #[.int .i64 0, .int .i64 0, .int .i64 0]), 3, 24) := by kernel_rfl

set_option maxRecDepth 100000 in
set_option maxHeartbeats 2000000 in
theorem scan_in (A : Option Addr) (n c : Nat) (l : List Int) (w : World) (hT : Cr.Tab w) (hr : Rd w w.heap.size .u8 A n l) (hb : Byt l) (hnc : n ≤ c) (hn : n ≤ 1000000000) :
    CallsIn Fence.wide 4 Tryd.prog 18 #[.slice A n c] w (ScanT w (scanP l)) := by
  obtain ⟨i0, hi, hz0, hz1, hz2⟩ := info_parts Cr.info_u8
  obtain ⟨j0, hj, hy0, hy1, hy2⟩ := info_partsV info_entry
  have Hl := Lib.hid (⟨hr, hT, hb, hr.1⟩ : _ ∧ _ ∧ _ ∧ _)
  clear hr hT hb
  refine callsIn_of_wp_marks Tryd.func18 rfl trivial ?_ rfl
  simp only [Tryd.ntmps18, List.size_toArray, List.length_cons, List.length_nil, Nat.reduceAdd, Nat.reduceSub, Array.replicate_succ, Array.replicate_zero, List.push_toArray, List.append_toArray, List.nil_append, List.cons_append]
  gi_wp2_with fail
  refine ⟨trivial, ?_⟩
  obtain ⟨r, hr⟩ : ∃ r, r = w.heap.size := ⟨_, rfl⟩
  obtain ⟨w0, hw0⟩ : ∃ w0, w0 = w.alloc (.cells #[.int .i64 0, .slice none 0 0, .int .i64 0] 33) := ⟨_, rfl⟩
  have hB0 : Below w.heap.size w w0 := by rw [hw0]; exact below_al (below_d0 w) _
  have b0 : BoxC w0 r 0 (.slice none 0 0) 0 := by rw [hw0, hr]; exact BoxC.new _ _ _ _
  rw [← hw0, ← hr]
  have Hr := Lib.hid (show w.heap.size ≤ r ∧ r = w.heap.size by omega)
  clear hw0 hr
  refine (callsIn_wide.2 (headOf_any A n c l w0 (Hl.out.1.on hB0 hB0.size) Hl.out.2.2.1 hnc)).mono ?_
  rintro e w1 ⟨rfl, hb1⟩
  have b1 := b0.below hb1
  have hB1 := hB0.trans (hb1.mono hB0.size)
  cases hh : headO l with
  | none =>
    have hv : headV l = .tuple #[.int .i64 0, .bool false] := by unfold headV; rw [hh]; rfl
    rw [hv]
    obtain ⟨d0, d1, d2⟩ := b1.cells
    have f0 := b1.frozen 0
    have f1 := b1.frozen 1
    have f2 := b1.frozen 2
    have H := Lib.hid (⟨b1, hB1, scanP_none hh⟩ : _ ∧ _ ∧ _)
    clear hv hh b0 hB0 hb1 b1 hB1
    gi_wp2_with fail
    have hz := Hr.out.1
    have b3 := ((H.out.1.s0 0).s1 (.slice none 0 0)).s2 0
    have hB3 := ((H.out.2.1.setCell (p := ⟨r, 0, none⟩) hz (.int .i64 0)).setCell (p := ⟨r, 1, none⟩) hz (.slice none 0 0)).setCell (p := ⟨r, 2, none⟩) hz (.int .i64 0)
    refine leaves_marks (B := w.heap.size) [] _ ⟨List.nodup_nil, fun d hd => by cases hd⟩ fun w' hw' => ⟨.tuple #[.agg #[.int .i64 0, .slice none 0 0, .int .i64 0], .int .i64 11], ?_, ?_⟩
    · have b4 : BoxC w' r 0 (.slice none 0 0) 0 := hw'.2 _ _ b3 rfl
      obtain ⟨d0, d1, d2⟩ := b4.cells
      simp [results, Tryd.results18, go_sem, *]
    · rw [H.out.2.2]
      exact ⟨⟨none, 0, rfl, Nat.le_refl _, Row.nil⟩, hB3.trans hw'.1⟩
  | some f =>
    have hv : headV l = .tuple #[.int .i64 f, .bool true] := by unfold headV; rw [hh]; rfl
    rw [hv]
    have h6 : 6 ≤ n := by have := (headO_inv Hl.out.2.2.1 hh).2.2; rw [Hl.out.2.2.2] at this; exact this
    obtain ⟨z, hz⟩ : ∃ z, z = w1.heap.size := ⟨_, rfl⟩
    obtain ⟨w2, hw2⟩ : ∃ w2, w2 = w1.alloc (.cells #[.int .i64 f, .slice none 0 0, .int .i64 6] 33) := ⟨_, rfl⟩
    have hB2 : Below w.heap.size w w2 := by rw [hw2]; exact hB1.alloc hB1.size _
    have bz2 : BoxC w2 z f (.slice none 0 0) 6 := by rw [hw2, hz]; exact BoxC.new _ _ _ _
    have br2 : BoxC w2 r 0 (.slice none 0 0) 0 := b1.below (by rw [hw2]; exact (Below.refl _ _).alloc (Nat.le_refl _) _)
    have hs2 : w2.heap.size = z + 1 := by rw [hw2, hz]; simp
    have hrz : r < z := by rw [hz]; exact b1.lt
    obtain ⟨A', c', hrun, hc', hcut⟩ := cut_tail Tryd.underlying23 hi hz1 A n c 6 h6 hnc
    have hrun6 : ∀ W : World, (Instr.slice 23 (.slice A n c) (some (.int .i64 6)) none none).run Tryd.prog W = .ok (.slice A' (n - 6) c') W := hrun
    obtain ⟨m, hm⟩ : ∃ m, m = n - 6 := ⟨_, rfl⟩
    rw [← hm] at hrun6 hc'
    have H2 := Lib.hid (⟨hB2, bz2, br2, hs2, hrz, hw2, hz, hm, h6⟩ : _ ∧ _ ∧ _ ∧ _ ∧ _ ∧ _ ∧ _ ∧ _ ∧ _)
    have Hcut := Lib.hid (show Rd w w.heap.size .u8 A' m (l.drop 6) from by rw [hm]; exact hcut Hl.out.1)
    have HS := Lib.hid (scanP_some hh)
    clear hv hh b0 hB0 hb1 b1 hB1 hB2 bz2 br2 hs2 hrz hz hm hcut hrun h6
    gi_wp2_with fail
    rw [← hw2, ← H2.out.2.2.2.2.2.2.1]
    clear hw2
    refine ⟨trivial, ?_⟩
    refine (callsIn_wide.2 (entries_any A' m c' w2)).mono ?_
    rintro e w3 ⟨rfl, hl3, hs3, hb3⟩
    obtain ⟨hB2, bz2, br2, hs2, hrz, -, -, hm, h6⟩ := H2.out
    obtain ⟨sB, hsB⟩ : ∃ sB, sB = w2.heap.size := ⟨_, rfl⟩
    rw [← hsB] at hl3 ⊢
    have hd := Hr.out
    have h0 : CInv w f r z sB w3.heap.size (.slice A' m c') [] w3 := ⟨⟨_, bz2.below hb3, World.ownsRow_nil _ _ _ _⟩, br2.below hb3, hl3, hB2.trans (hb3.mono hB2.size), Nat.le_refl _⟩
    have Hd3 := Lib.hid (show w.heap.size ≤ r ∧ r < z ∧ sB = z + 1 ∧ w3.heap.size = sB + 1 by omega)
    have hT3 : 0 < w.heap.size ∧ Cr.Tab w3 := ⟨Hl.out.2.1.1, Hl.out.2.1.on h0.low⟩
    have hr3 : Rd w3 w.heap.size .u8 A' m (l.drop 6) := Hcut.out.below h0.low
    have H0 := Lib.hid (⟨h0, hl3, hr3, hT3⟩ : _ ∧ _ ∧ _ ∧ _)
    have Hlen := Lib.hid (show 15 * (scanL (l.drop 6)).length ≤ 1000000000 by
      have h1 := scanL_length (l.drop 6)
      rw [List.length_drop, Hl.out.2.2.2] at h1
      omega)
    have Hm := Lib.hid (show m ≤ 1000000000 by omega)
    clear h0 hl3 hs3 hb3 hT3 hr3 hB2 bz2 br2 hs2 hrz hm h6 hsB hd
    gi_wp2_with fail
    refine range_W 9 rfl (by decide) (gf := 39) (lb := #[.pointer (some ⟨sB, 0, none⟩)]) rfl trivial (enters_of Tryd.func39 (by kernel_rfl) rfl)
      (entries_seq sB w.heap.size Hm.out w3 (by have := Hd3.out; omega) H0.out.2.1 H0.out.2.2.1 (Hl.out.2.2.1.drop 6) hc' H0.out.2.2.2) (fun h h' => h.trans h') (KpB.put (by have := Hd3.out; omega) (by have := Hd3.out; omega)) (Below.refl _ _) (fun _ => rfl)
      (CInv w f r z sB w3.heap.size (.slice A' m c')) (fun _ _ _ => False) (CInv.own (by have := Hd3.out; omega) (by have := Hd3.out; omega) (by have := Hd3.out; omega) (by have := Hd3.out; omega))
      (fun _ _ _ _ _ h _ _ => h) H0.out.1
      (CVar w3.heap.size fun bx d => { tmps := #[.slice A n c, undef, .pointer (some ⟨r, 0, none⟩), .int .i64 0, .int .i64 f, .bool true, .pointer (some ⟨z, 0, none⟩), .pointer (some ⟨bx, 0, none⟩), .tuple #[.int .i64 f, .bool true], .slice A n c, .tuple #[.int .i64 f, .bool true], .int .i64 f, .bool true, .bool true, .bool false, undef, .int .i64 f, .agg #[.int .i64 f, .slice none 0 0, .int .i64 6], .slice A n c, .slice A' m c', .func (.func 39) #[] #[.pointer (some ⟨sB, 0, none⟩)], .agg #[.int .i64 d.tm, .int .i64 d.kd, .int .i64 d.vl], undef, undef, undef, undef, undef, undef, undef, undef, undef, undef, undef], defers := [] })
      CVar.put ?assign ?body ?done ?stop
    case assign =>
      intro lp pre d W hI hok
      gi_wp2
      have hb := (Below.refl W.heap.size W).alloc (Nat.le_refl _) (.cells #[.int .i64 d.tm, .int .i64 d.kd, .int .i64 d.vl] 40)
      have hsz := hI.size
      have hd := Hd3.out
      obtain ⟨v, hv, hrow⟩ := hI.bz
      exact ⟨(KeepsOthers.alloc _ _).from _, KpB.below hb (by omega) (by omega), ⟨⟨v, hv.below hb, hrow.alloc _⟩, hI.br.below hb, hI.bs.alloc _, hI.low.trans (hb.mono (by omega)), by have := hb.size; omega⟩, W.heap.size, BoxE.new W d, hsz, rfl⟩
    case body =>
      rintro lp pre d a' W hI ⟨bx, hbx, hDx, rfl⟩ ⟨_, hok⟩
      obtain ⟨k0, k1, k2⟩ := hbx.cells
      obtain ⟨v, hv, hrow⟩ := hI.bz
      obtain ⟨A4, c4, rfl, _⟩ := own_slice hrow
      obtain ⟨d0, d1, d2⟩ := hv.cells
      have hplen : pre.length ≤ 1000000000 := by
        have h1 := congrArg List.length hok.1
        rw [List.length_append] at h1
        have := Hlen.out
        omega
      obtain ⟨N, hN⟩ : ∃ N, N = pre.length := ⟨_, rfl⟩
      rw [← hN] at hplen hrow hv d1 d2
      have HI := Lib.hid (⟨hI, hrow, hv, hN, hplen⟩ : _ ∧ _ ∧ _ ∧ _ ∧ _)
      have hw1 : IntKind.i64.wrap (6 + 15 * (N : Int) + 15) = 6 + 15 * ((N : Int) + 1) := by rw [IntKind.wrap_i64] <;> omega
      clear hI hbx hok hN hv hrow
      gi_wp2_with (gi_at_builtin; refine hold ?_)
      refine unhold (wpListIn_append_own _ rfl _ _ 22 rfl w.heap.size 40 j0 (.agg #[.int .i64 0, .int .i64 0, .int .i64 0]) 3 24 Tryd.underlying22 hj hy0 hy1 hy2 rfl (by decide) _ _ _ rfl (HI.out.2.1.alloc _) ⟨W.heap.size, 0, none⟩ 1 1 [.int .i64 d.tm, .int .i64 d.kd, .int .i64 d.vl] rfl rfl (cell_three_new _ _ _ _ _) (by simp [Value.oneCell']) (by unfold maxLen; omega) (by omega) (by have := HI.out.1.low.size; simp; omega) ?_)
      intro v' w4 hown' hgrow _
      obtain ⟨A5, c5, rfl, _⟩ := own_slice hown'
      have hd := Hd3.out
      obtain ⟨q1, q2, q3, q4, q5, q6⟩ := scan_step (u' := 6 + 15 * ((N : Int) + 1)) HI.out.2.2.1 HI.out.2.1 HI.out.1.low.size (by omega) hown' hgrow
      have q7 := q1.s1 (.slice A5 (N + 1) c5)
      have f1 := q1.frozen 1
      have f2 := q7.frozen 2
      obtain ⟨p0, p1, p2⟩ := q1.cells
      obtain ⟨s0, s1, s2⟩ := q7.cells
      have H6 := Lib.hid (⟨q2, q3, q4, q5, q6⟩ : _ ∧ _ ∧ _ ∧ _ ∧ _)
      clear q1 q2 q3 q4 q5 q6 q7 hown' hgrow hd d0 d1 d2 k0 k1 k2
      gi_wp2_with fail
      obtain ⟨q2, q3, q4, q5, q6⟩ := H6.out
      obtain ⟨hI, hrow, hv, hN, hplen⟩ := HI.out
      have hd := Hd3.out
      have hsb := q6 sB _ _ _ (by omega) (by decide) hI.bs
      have hrr := q6 r _ _ _ (by omega) (by decide) hI.br
      have hlen : (pre ++ [d]).length = N + 1 := by rw [List.length_append, hN]; rfl
      refine ⟨q4.from _, ⟨fun k hk => q5.block k hk, hsb.trans hI.bs.symm, q4.size⟩, ⟨⟨.slice A5 (N + 1) c5, ?_, ?_⟩, hrr, hsb, hI.low.trans q5, Nat.le_trans hI.size q4.size⟩⟩
      · rw [hlen, Int.natCast_add]; exact q2
      · rw [hlen, List.flatMap_append]; exact q3
    case done =>
      rintro D ys W hD2 rfl hI hK
      obtain ⟨v, hv, hrow⟩ := hI.bz
      obtain ⟨A4, c4, rfl, hc4⟩ := own_slice hrow
      obtain ⟨N, hN⟩ : ∃ N, N = (scanL (l.drop 6)).length := ⟨_, rfl⟩
      rw [← hN] at hv hrow hc4
      obtain ⟨d0, d1, d2⟩ := hv.cells
      obtain ⟨e0, e1, e2⟩ := hI.br.cells
      have f0 := hI.br.frozen 0
      have f1 := hI.br.frozen 1
      have f2 := hI.br.frozen 2
      have HI := Lib.hid (⟨hI, hrow, hN, hc4⟩ : _ ∧ _ ∧ _ ∧ _)
      have HK := Lib.hid (⟨hK, hD2⟩ : _ ∧ _)
      clear hI hK hD2 hv hrow hN hc4
      gi_wp2_with fail
      obtain ⟨hI, hrow, hN, hc4⟩ := HI.out
      have hd := Hd3.out
      have g1 := setCell_grown W r 0 (.int .i64 f)
      have g2 := setCell_grown (W.setCell ⟨r, 0, none⟩ (.int .i64 f)) r 1 (.slice A4 N c4)
      have g3 := setCell_grown ((W.setCell ⟨r, 0, none⟩ (.int .i64 f)).setCell ⟨r, 1, none⟩ (.slice A4 N c4)) r 2 (.int .i64 (6 + 15 * (N : Int)))
      have b1 := hI.br.s0 f
      have b2 := b1.s1 (.slice A4 N c4)
      have b3 := b2.s2 (6 + 15 * (N : Int))
      have r1 := hrow.kept g1 (.inr (box_not_row hI.br (by decide) hrow).symm)
      have r2 := r1.kept g2 (.inr (box_not_row b1 (by decide) r1).symm)
      have r3 := r2.kept g3 (.inr (box_not_row b2 (by decide) r2).symm)
      have hz := Hr.out.1
      have hB3 := ((hI.low.setCell (p := ⟨r, 0, none⟩) hz (.int .i64 f)).setCell (p := ⟨r, 1, none⟩) hz (.slice A4 N c4)).setCell (p := ⟨r, 2, none⟩) hz (.int .i64 (6 + 15 * (N : Int)))
      refine leaves_marks (B := w.heap.size) [D] _ ⟨by simp, fun d hd => ?_⟩ fun w' hw' => ⟨.tuple #[.agg #[.int .i64 f, .slice A4 N c4, .int .i64 (6 + 15 * (N : Int))], .int .i64 0], ?_, ?_⟩
      · obtain rfl : d = D := by simpa using hd
        have hlt := (Array.getElem?_eq_some_iff.1 HK.out.1).1
        have hDr := HK.out.2
        exact ⟨by omega, ((g3.block d (by have := g1.size; have := g2.size; omega) (by simp; omega)).trans ((g2.block d (by have := g1.size; omega) (by simp; omega)).trans (g1.block d hlt (by simp; omega)))).trans HK.out.1⟩
      · have b4 : BoxC w' r f (.slice A4 N c4) (6 + 15 * (N : Int)) := hw'.2 _ _ b3 rfl
        clear d0 d1 d2
        obtain ⟨d0, d1, d2⟩ := b4.cells
        clear b4 b3 b2 b1 g1 g2 g3 r1 r2 r3 hd hI hrow hB3 hw' e0 e1 e2 f0 f1 f2 hrun6 hi hz0 hz1 hz2 hj hy0 hy1 hy2 hN
        simp [results, Tryd.results18, go_sem, d0, d1, d2]
      · rw [HS.out, ← hN]
        refine ⟨⟨A4, c4, by rw [← hN], by rw [← hN]; exact hc4, ?_⟩, hB3.trans hw'.1⟩
        rw [← hN]
        exact Row.of_own (by decide) EnP.len (own_marks r3 hw')
    case stop =>
      rintro D cc pre W _ h _
      exact h.elim

theorem scan_any (A : Option Addr) (n c : Nat) (l : List Int) (w : World) (hT : Cr.Tab w) (hr : Rd w w.heap.size .u8 A n l) (hb : Byt l) (hnc : n ≤ c) (hn : n ≤ 1000000000) :
    Calls Tryd.prog 18 #[.slice A n c] w (ScanT w (scanP l)) := callsIn_wide.1 (scan_in A n c l w hT hr hb hnc hn)

end Go.Proofs.YtlblfpfdebmcgaaDoor
