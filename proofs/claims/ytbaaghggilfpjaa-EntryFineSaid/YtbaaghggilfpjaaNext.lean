/-
  entry.behind, entry.Next: their contracts; what stores into a state's box make of it.
-/
import Derived.Test.YtbaaghggilfpjaaEff
import Derived.Deep.RegionWith
import Derived.StillTailTactics
namespace Go.Proofs.Ytbaaghggilfpjaa
open Go.RowKit Go.Maps

theorem heap_set {W : World} {z i : Nat} {t : TypeId} {cs : Array Value} {fz : Nat × Nat} (h : W.heap[z]? = some (.cells cs t fz)) (v : Value) : (W.setCell ⟨z, i, none⟩ v).heap[z]? = some (.cells (cs.setIfInBounds i v) t fz) := by
  obtain ⟨hlt, hk⟩ := Array.getElem?_eq_some_iff.1 h
  show (W.heap.modify z _)[z]? = _
  rw [Array.getElem?_eq_getElem (by rw [Array.size_modify]; exact hlt), Array.getElem_modify_self, hk]
  rfl
section
variable {W W' : World} {z y i : Nat} {s s' : StP} {e : EnP}
theorem BoxS.frozen (h : BoxS W z s) : W.frozen? ⟨z, 0, none⟩ = false ∧ W.frozen? ⟨z, 1, none⟩ = false ∧ W.frozen? ⟨z, 2, none⟩ = false ∧ W.frozen? ⟨z, 3, none⟩ = false ∧ W.frozen? ⟨z, 4, none⟩ = false := by
  refine ⟨?_, ?_, ?_, ?_, ?_⟩
  all_goals simp [World.frozen?, show W.heap[z]? = _ from h]
theorem BoxS.s0 (h : BoxS W z s) (v : Int) : BoxS (W.setCell ⟨z, 0, none⟩ (.int .i64 v)) z { s with ix := v } := heap_set h _
theorem BoxS.s1 (h : BoxS W z s) (v : Int) : BoxS (W.setCell ⟨z, 1, none⟩ (.int .i64 v)) z { s with tm := v } := heap_set h _
theorem BoxS.s2 (h : BoxS W z s) (v : Int) : BoxS (W.setCell ⟨z, 2, none⟩ (.int .i64 v)) z { s with sm := v } := heap_set h _
theorem BoxS.s3 (h : BoxS W z s) (v : Int) : BoxS (W.setCell ⟨z, 3, none⟩ (.int .i64 v)) z { s with lv := v } := heap_set h _
theorem BoxS.s4 (h : BoxS W z s) (v : Bool) : BoxS (W.setCell ⟨z, 4, none⟩ (.bool v)) z { s with fn := v } := heap_set h _
theorem BoxS.other (h : BoxS W z s) (hne : z ≠ y) (v : Value) : BoxS (W.setCell ⟨y, i, none⟩ v) z s := (Below.heap_setCell _ _ _ z (by simpa using hne)).trans h
theorem BoxE.other (h : BoxE W z e) (hne : z ≠ y) (v : Value) : BoxE (W.setCell ⟨y, i, none⟩ v) z e := (Below.heap_setCell _ _ _ z (by simpa using hne)).trans h
end
/-- The five stores of a whole state. -/
def putS (W : World) (z : Nat) (s : StP) : World := ((((W.setCell ⟨z, 0, none⟩ (.int .i64 s.ix)).setCell ⟨z, 1, none⟩ (.int .i64 s.tm)).setCell ⟨z, 2, none⟩ (.int .i64 s.sm)).setCell ⟨z, 3, none⟩ (.int .i64 s.lv)).setCell ⟨z, 4, none⟩ (.bool s.fn)
theorem putS_box {W : World} {z : Nat} {s : StP} (h : BoxS W z s) (s' : StP) : BoxS (putS W z s') z s' := ((((h.s0 s'.ix).s1 s'.tm).s2 s'.sm).s3 s'.lv).s4 s'.fn
theorem putS_other {W : World} {z y : Nat} {s : StP} (h : BoxS W z s) (hne : z ≠ y) (s' : StP) : BoxS (putS W y s') z s := ((((h.other hne _).other hne _).other hne _).other hne _).other hne _
theorem putS_otherE {W : World} {z y : Nat} {e : EnP} (h : BoxE W z e) (hne : z ≠ y) (s' : StP) : BoxE (putS W y s') z e := ((((h.other hne _).other hne _).other hne _).other hne _).other hne _
theorem putS_below {n : Nat} {w W : World} {z : Nat} (h : Below n w W) (hz : n ≤ z) (s : StP) : Below n w (putS W z s) :=
  ((((h.setCell (p := ⟨z, 0, none⟩) hz _).setCell (p := ⟨z, 1, none⟩) hz _).setCell (p := ⟨z, 2, none⟩) hz _).setCell (p := ⟨z, 3, none⟩) hz _).setCell (p := ⟨z, 4, none⟩) hz _
theorem putS_size (W : World) (z : Nat) (s : StP) : (putS W z s).heap.size = W.heap.size := by simp [putS]
theorem putS_same {W : World} {z k : Nat} (hk : k ≠ z) (s : StP) : (putS W z s).heap[k]? = W.heap[k]? := by
  unfold putS
  rw [Below.heap_setCell _ _ _ k (by simpa using hk), Below.heap_setCell _ _ _ k (by simpa using hk), Below.heap_setCell _ _ _ k (by simpa using hk), Below.heap_setCell _ _ _ k (by simpa using hk), Below.heap_setCell _ _ _ k (by simpa using hk)]

/-- What is made on entering: a box for the state, one for the entry, one for the result. -/
def Three (w w0 : World) (z : Nat) (s : StP) (e : EnP) : Prop := BoxS w0 z s ∧ BoxE w0 (z + 1) e ∧ BoxS w0 (z + 2) ⟨0, 0, 0, 0, false⟩ ∧ Below w.heap.size w w0 ∧ w.heap.size = z ∧ w0.heap.size = z + 3
theorem three_new (w : World) (s : StP) (e : EnP) : Three w (((w.alloc (.cells #[.int .i64 s.ix, .int .i64 s.tm, .int .i64 s.sm, .int .i64 s.lv, .bool s.fn] 23)).alloc (.cells #[.int .i64 e.tm, .int .i64 e.kd, .int .i64 e.vl] 25)).alloc (.cells #[.int .i64 0, .int .i64 0, .int .i64 0, .int .i64 0, .bool false] 23)) w.heap.size s e := by
  obtain ⟨wa, hwa⟩ : ∃ wa, wa = w.alloc (.cells #[.int .i64 s.ix, .int .i64 s.tm, .int .i64 s.sm, .int .i64 s.lv, .bool s.fn] 23) := ⟨_, rfl⟩
  obtain ⟨wb, hwb⟩ : ∃ wb, wb = wa.alloc (.cells #[.int .i64 e.tm, .int .i64 e.kd, .int .i64 e.vl] 25) := ⟨_, rfl⟩
  obtain ⟨w0, hw0⟩ : ∃ w0, w0 = wb.alloc (.cells #[.int .i64 0, .int .i64 0, .int .i64 0, .int .i64 0, .bool false] 23) := ⟨_, rfl⟩
  have hsa : wa.heap.size = w.heap.size + 1 := by rw [hwa]; simp
  have hsb : wb.heap.size = w.heap.size + 2 := by rw [hwb]; simp [hsa]
  have hs0 : w0.heap.size = w.heap.size + 3 := by rw [hw0]; simp [hsb]
  have hBa : Below w.heap.size w wa := by rw [hwa]; exact (Below.refl _ _).alloc (Nat.le_refl _) _
  have hBb : Below w.heap.size w wb := by rw [hwb]; exact hBa.alloc hBa.size _
  have hB0 : Below w.heap.size w w0 := by rw [hw0]; exact hBb.alloc hBb.size _
  have hab : Below wa.heap.size wa wb := by rw [hwb]; exact (Below.refl _ _).alloc (Nat.le_refl _) _
  have hb0 : Below wb.heap.size wb w0 := by rw [hw0]; exact (Below.refl _ _).alloc (Nat.le_refl _) _
  have b1 : BoxS wa w.heap.size s := by rw [hwa]; exact BoxS.new w s
  have b2 : BoxE wb (w.heap.size + 1) e := by rw [hwb, ← hsa]; exact BoxE.new wa e
  have b3 : BoxS w0 (w.heap.size + 2) ⟨0, 0, 0, 0, false⟩ := by rw [hw0, ← hsb]; exact BoxS.new wb ⟨0, 0, 0, 0, false⟩
  rw [← hwa, ← hwb, ← hw0]
  exact ⟨(b1.below hab).below hb0, b2.below hb0, b3, hB0, rfl, hs0⟩

theorem does0' (s : StP) (v : Int) (w : World) : Calls Try.prog 29 #[s.v, .int .i64 v] w (Does w (doesP s 0 v)) := by
  rw [does_0]
  exact does0 s v w
theorem goes_key (s : StP) (e : EnP) : (¬ fineB s = true ∨ ¬ rightB e = true ∨ s.ix = 1073741824) ∨ GoesP s e := by
  by_cases h1 : fineB s = true
  · by_cases h2 : rightB e = true
    · by_cases h3 : s.ix = 1073741824
      · exact .inl (.inr (.inr h3))
      · exact .inr ⟨fineB_iff.1 h1, rightB_iff.1 h2, h3⟩
    · exact .inl (.inr (.inl h2))
  · exact .inl (.inl h1)

/-- A result's box holds it then. -/
theorem does_res {w W : World} {z : Nat} {s' : StP} (hb : Below w.heap.size w W) (hz : w.heap.size ≤ z) : Does w s' (.returned s'.v) (putS W z s') := ⟨rfl, putS_below hb hz s'⟩

set_option maxRecDepth 100000 in
set_option maxHeartbeats 2000000 in
theorem behind_any (s : StP) (e : EnP) (g : Nat) (w : World) (hE : EffAt w g) : Calls Try.prog 26 #[s.v, e.v, .map (some g)] w (Does w (nextP s e)) := by
  have hn := next_no (s := s) (e := e)
  unfold StP.v EnP.v
  go_enter Try.func26, Try.ntmps26
  go_wp2_with fail
  have h3 := three_new w s e
  generalize (((w.alloc _).alloc _).alloc _) = w0 at h3 ⊢
  obtain ⟨z, hz0⟩ : ∃ z, z = w.heap.size := ⟨_, rfl⟩
  rw [← hz0] at h3 ⊢
  clear hz0
  obtain ⟨bs, be, br, hB, hz, hsz⟩ := h3
  have Hs := Lib.hid hsz
  clear hsz
  have HE := Lib.hid (hE.below (hB.block g hE.lt))
  have Hg := Lib.hid (show g < z by have := hE.lt; omega)
  clear hE
  refine (fine_any s _).mono ?_
  rintro r w1 ⟨rfl, hb1⟩
  have bs1 := bs.below hb1
  have be1 := be.below hb1
  have br1 := br.below hb1
  have HE1 := Lib.hid (HE.out.below (hb1.block g HE.out.lt))
  replace hB : Below w.heap.size w w1 := hB.trans (hb1.mono hB.size)
  clear bs be br hb1 HE
  cases hf : fineB s with
  | false =>
    have hg : ¬ GoesP s e := fun h => by rw [fineB_iff.2 h.1] at hf; cases hf
    have Hn := Lib.hid (hn hg)
    obtain ⟨k0, k1, k2, k3, k4⟩ := bs1.cells
    obtain ⟨r0, r1, r2, r3, r4⟩ := br1.cells
    obtain ⟨g0, g1, g2, g3, g4⟩ := br1.frozen
    clear hn hg
    go_wp2_with fail
    rw [Hn.out]
    refine bodyPost_ret (v := s.v) (by simp [results, Try.results26, go_sem, *]; try rfl) rfl (does_res hB (by omega))
  | true =>
    obtain ⟨c0, c1, c2⟩ := be1.cells
    have HB := Lib.hid (⟨bs1, be1, br1, HE1.out, hB⟩ : _ ∧ _ ∧ _ ∧ _ ∧ _)
    clear bs1 be1 br1 HE1 hB
    go_wp2_with fail
    refine (right_any e _).mono ?_
    rintro r w2 ⟨rfl, hb2⟩
    obtain ⟨bs1, be1, br1, HE1, hB⟩ := HB.out
    have bs2 := bs1.below hb2
    have be2 := be1.below hb2
    have br2 := br1.below hb2
    have HE2 := Lib.hid (HE1.below (hb2.block g HE1.lt))
    replace hB : Below w.heap.size w w2 := hB.trans (hb2.mono hB.size)
    clear bs1 be1 br1 hb2 HE1 c0 c1 c2 HB
    obtain ⟨k0, k1, k2, k3, k4⟩ := bs2.cells
    obtain ⟨f0, f1, f2, f3, f4⟩ := bs2.frozen
    obtain ⟨c0, c1, c2⟩ := be2.cells
    obtain ⟨r0, r1, r2, r3, r4⟩ := br2.cells
    obtain ⟨g0, g1, g2, g3, g4⟩ := br2.frozen
    cases hr : rightB e with
    | false =>
      have hg : ¬ GoesP s e := fun h => by rw [rightB_iff.2 h.2.1] at hr; cases hr
      have Hn := Lib.hid (hn hg)
      clear hn hg
      go_wp2_with fail
      rw [Hn.out]
      refine bodyPost_ret (v := s.v) (by simp [results, Try.results26, go_sem, *]; try rfl) rfl (does_res hB (by omega))
    | true =>
      by_cases hi : s.ix = 1073741824
      · have hg : ¬ GoesP s e := fun h => h.2.2 hi
        have Hn := Lib.hid (hn hg)
        have b0 : (s.ix == 1073741824) = true := by simpa using hi
        have Hi := Lib.hid hi
        clear hn hg hi
        go_wp2_with fail
        rw [Hn.out]
        refine bodyPost_ret (v := s.v) (by simp [results, Try.results26, go_sem, *]; try rfl) rfl (does_res hB (by omega))
      · have hF := fineB_iff.1 hf
        have hR := rightB_iff.1 hr
        have Hn := Lib.hid (next_yes ⟨hF, hR, hi⟩)
        have b0 : (s.ix == 1073741824) = false := by simpa using hi
        have hsm : 0 ≤ s.sm ∧ s.sm ≤ 1073741824 := hF.2.2.1
        have hvl : 0 ≤ e.vl ∧ e.vl ≤ 1073741824 := hR.2.2.1
        have hkd : 0 ≤ e.kd ∧ e.kd ≤ 4 := hR.2.1
        have q1 : IntKind.i64.wrap (s.ix + 1) = s.ix + 1 := by have := hF.1; rw [IntKind.wrap_i64]; omega
        clear hn hi hF hR hf hr
        go_upto_region 5 with fail
        obtain ⟨w3, hw3⟩ : ∃ w3, w3 = (w2.setCell ⟨z, 0, none⟩ (.int .i64 (s.ix + 1))).setCell ⟨z, 1, none⟩ (.int .i64 e.tm) := ⟨_, rfl⟩
        have bs3 : BoxS w3 z ⟨s.ix + 1, e.tm, s.sm, s.lv, s.fn⟩ := by rw [hw3]; exact (bs2.s0 _).s1 _
        have be3 : BoxE w3 (z + 1) e := by rw [hw3]; exact (be2.other (by omega) _).other (by omega) _
        have br3 : BoxS w3 (z + 2) ⟨0, 0, 0, 0, false⟩ := by rw [hw3]; exact (br2.other (by omega) _).other (by omega) _
        have hB3 : Below w.heap.size w w3 := by rw [hw3]; exact (hB.setCell (p := ⟨z, 0, none⟩) (by show w.heap.size ≤ z; omega) _).setCell (p := ⟨z, 1, none⟩) (by show w.heap.size ≤ z; omega) _
        have HE3 : EffAt w3 g := by
          have hg := Hg.out
          refine HE2.out.below ?_
          rw [hw3, Below.heap_setCell _ _ _ g (by show g ≠ z; omega), Below.heap_setCell _ _ _ g (by show g ≠ z; omega)]
        have hlk := eff_look HE3 hkd
        rw [← hw3]
        clear hw3 bs2 be2 br2 hB HE2 k0 k1 k2 k3 k4 f0 f1 f2 f3 f4 c0 c1 c2 r0 r1 r2 r3 r4 g0 g1 g2 g3 g4 b0 q1 HE3
        obtain ⟨s3, hs3⟩ : ∃ s3 : StP, s3 = ⟨s.ix + 1, e.tm, s.sm, s.lv, s.fn⟩ := ⟨_, rfl⟩
        rw [← hs3] at bs3
        have Hn3 := Lib.hid (show nextP s e = doesP s3 e.kd e.vl by rw [hs3]; exact Hn.out)
        clear Hn
        have hsm3 : 0 ≤ s3.sm ∧ s3.sm ≤ 1073741824 := by rw [hs3]; exact hsm
        clear hs3 hsm
        obtain ⟨k0, k1, k2, k3, k4⟩ := bs3.cells
        obtain ⟨c0, c1, c2⟩ := be3.cells
        have HB := Lib.hid (⟨br3, hB3⟩ : _ ∧ _)
        clear bs3 be3 br3 hB3
        obtain ⟨k, hk⟩ : ∃ k, k = e.kd := ⟨_, rfl⟩
        rw [← hk] at hlk hkd c1 Hn3 ⊢
        clear hk
        obtain rfl | rfl | rfl | rfl | rfl : k = 0 ∨ k = 1 ∨ k = 2 ∨ k = 3 ∨ k = 4 := by omega
        · have hlk' : (Instr.lookup 45 (.map (some g)) (.int .i64 0) false).run Try.prog w3 = .ok (.func (.func 29) #[] #[]) w3 := hlk
          clear hlk
          go_wp2_with fail
          refine (does0' s3 e.vl w3).mono ?_
          rintro r w4 ⟨rfl, hb4⟩
          unfold StP.v
          obtain ⟨br3, hB3⟩ := HB.out
          have br4 := br3.below hb4
          have hB4 : Below w.heap.size w w4 := hB3.trans (hb4.mono hB3.size)
          clear br3 hB3 hb4 HB k0 k1 k2 k3 k4 c0 c1 c2 hlk'
          obtain ⟨r0, r1, r2, r3, r4⟩ := br4.cells
          obtain ⟨g0, g1, g2, g3, g4⟩ := br4.frozen
          obtain ⟨X, hX⟩ : ∃ X, X = doesP s3 0 e.vl := ⟨_, rfl⟩
          rw [← hX] at Hn3 ⊢
          clear hX
          go_wp2_with fail
          rw [Hn3.out]
          refine bodyPost_ret (v := X.v) (by simp [results, Try.results26, go_sem, *]; try rfl) rfl (does_res hB4 (by omega))
        · have hlk' : (Instr.lookup 45 (.map (some g)) (.int .i64 1) false).run Try.prog w3 = .ok (.func (.func 30) #[] #[]) w3 := hlk
          clear hlk
          go_wp2_with fail
          refine (does1 s3 e.vl w3 hsm3 hvl).mono ?_
          rintro r w4 ⟨rfl, hb4⟩
          unfold StP.v
          obtain ⟨br3, hB3⟩ := HB.out
          have br4 := br3.below hb4
          have hB4 : Below w.heap.size w w4 := hB3.trans (hb4.mono hB3.size)
          clear br3 hB3 hb4 HB k0 k1 k2 k3 k4 c0 c1 c2 hlk'
          obtain ⟨r0, r1, r2, r3, r4⟩ := br4.cells
          obtain ⟨g0, g1, g2, g3, g4⟩ := br4.frozen
          obtain ⟨X, hX⟩ : ∃ X, X = doesP s3 1 e.vl := ⟨_, rfl⟩
          rw [← hX] at Hn3 ⊢
          clear hX
          go_wp2_with fail
          rw [Hn3.out]
          refine bodyPost_ret (v := X.v) (by simp [results, Try.results26, go_sem, *]; try rfl) rfl (does_res hB4 (by omega))
        · have hlk' : (Instr.lookup 45 (.map (some g)) (.int .i64 2) false).run Try.prog w3 = .ok (.func (.func 31) #[] #[]) w3 := hlk
          clear hlk
          go_wp2_with fail
          refine (does2 s3 e.vl w3).mono ?_
          rintro r w4 ⟨rfl, hb4⟩
          unfold StP.v
          obtain ⟨br3, hB3⟩ := HB.out
          have br4 := br3.below hb4
          have hB4 : Below w.heap.size w w4 := hB3.trans (hb4.mono hB3.size)
          clear br3 hB3 hb4 HB k0 k1 k2 k3 k4 c0 c1 c2 hlk'
          obtain ⟨r0, r1, r2, r3, r4⟩ := br4.cells
          obtain ⟨g0, g1, g2, g3, g4⟩ := br4.frozen
          obtain ⟨X, hX⟩ : ∃ X, X = doesP s3 2 e.vl := ⟨_, rfl⟩
          rw [← hX] at Hn3 ⊢
          clear hX
          go_wp2_with fail
          rw [Hn3.out]
          refine bodyPost_ret (v := X.v) (by simp [results, Try.results26, go_sem, *]; try rfl) rfl (does_res hB4 (by omega))
        · have hlk' : (Instr.lookup 45 (.map (some g)) (.int .i64 3) false).run Try.prog w3 = .ok (.func (.func 32) #[] #[]) w3 := hlk
          clear hlk
          go_wp2_with fail
          refine (does3 s3 e.vl w3).mono ?_
          rintro r w4 ⟨rfl, hb4⟩
          unfold StP.v
          obtain ⟨br3, hB3⟩ := HB.out
          have br4 := br3.below hb4
          have hB4 : Below w.heap.size w w4 := hB3.trans (hb4.mono hB3.size)
          clear br3 hB3 hb4 HB k0 k1 k2 k3 k4 c0 c1 c2 hlk'
          obtain ⟨r0, r1, r2, r3, r4⟩ := br4.cells
          obtain ⟨g0, g1, g2, g3, g4⟩ := br4.frozen
          obtain ⟨X, hX⟩ : ∃ X, X = doesP s3 3 e.vl := ⟨_, rfl⟩
          rw [← hX] at Hn3 ⊢
          clear hX
          go_wp2_with fail
          rw [Hn3.out]
          refine bodyPost_ret (v := X.v) (by simp [results, Try.results26, go_sem, *]; try rfl) rfl (does_res hB4 (by omega))
        · have hlk' : (Instr.lookup 45 (.map (some g)) (.int .i64 4) false).run Try.prog w3 = .ok (.func (.func 33) #[] #[]) w3 := hlk
          clear hlk
          go_wp2_with fail
          refine (does4 s3 e.vl w3).mono ?_
          rintro r w4 ⟨rfl, hb4⟩
          unfold StP.v
          obtain ⟨br3, hB3⟩ := HB.out
          have br4 := br3.below hb4
          have hB4 : Below w.heap.size w w4 := hB3.trans (hb4.mono hB3.size)
          clear br3 hB3 hb4 HB k0 k1 k2 k3 k4 c0 c1 c2 hlk'
          obtain ⟨r0, r1, r2, r3, r4⟩ := br4.cells
          obtain ⟨g0, g1, g2, g3, g4⟩ := br4.frozen
          obtain ⟨X, hX⟩ : ∃ X, X = doesP s3 4 e.vl := ⟨_, rfl⟩
          rw [← hX] at Hn3 ⊢
          clear hX
          go_wp2_with fail
          rw [Hn3.out]
          refine bodyPost_ret (v := X.v) (by simp [results, Try.results26, go_sem, *]; try rfl) rfl (does_res hB4 (by omega))

end Go.Proofs.Ytbaaghggilfpjaa
