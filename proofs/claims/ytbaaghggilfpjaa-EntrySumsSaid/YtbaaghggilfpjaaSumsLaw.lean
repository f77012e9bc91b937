/-
  EntrySums: it returns true.
-/
import Derived.Test.YtbaaghggilfpjaaWakes
import Derived.Test.YtbaaghggilfpjaaRNext
import Derived.RegionTactic
import Derived.BigRegion
import Derived.Deep.DeepCutAuto
namespace Go.Proofs.Ytbaaghggilfpjaa
open Go.RowKit Go.Maps

/-- Data, one behind the other. -/
def dataP (s : StP) (l : List Int) : StP := l.foldl (fun s v => nextP s ⟨1, 1, v⟩) s
theorem data_snoc (s : StP) (l : List Int) (v : Int) : dataP s (l ++ [v]) = nextP (dataP s l) ⟨1, 1, v⟩ := by unfold dataP; rw [List.foldl_append]; rfl
theorem next_data {s : StP} {v : Int} (hs : FineP s) (hx : s.ix ≠ 1073741824) (hv : 0 ≤ v ∧ v ≤ 999) : nextP s ⟨1, 1, v⟩ = ⟨s.ix + 1, 1, (s.sm * 31 + v + 1) % 1073741824, s.lv, s.fn⟩ := by
  rw [next_yes ⟨hs, ?_, hx⟩]
  · rfl
  · unfold RightP; dsimp only; omega
def stepN (x v : Int) : Int := (x * 31 + v + 1) % 1073741824
theorem step_in (x v : Int) : 0 ≤ stepN x v ∧ stepN x v < 1073741824 := by unfold stepN; omega
theorem step_inj {x y v : Int} (hx : 0 ≤ x ∧ x < 1073741824) (hy : 0 ≤ y ∧ y < 1073741824) (h : stepN x v = stepN y v) : x = y := by unfold stepN at h; omega
theorem step_apart {x u v : Int} (hu : 0 ≤ u ∧ u ≤ 999) (hv : 0 ≤ v ∧ v ≤ 999) (h : stepN x u = stepN x v) : u = v := by unfold stepN at h; omega
theorem fold_inj (l : List Int) : ∀ {x y : Int}, (0 ≤ x ∧ x < 1073741824) → (0 ≤ y ∧ y < 1073741824) → l.foldl stepN x = l.foldl stepN y → x = y := by
  induction l with
  | nil => intro x y _ _ h; exact h
  | cons v l ih => intro x y hx hy h; exact step_inj hx hy (ih (step_in _ _) (step_in _ _) h)
theorem fold_apart {v : Int} (hv : 0 ≤ v ∧ v ≤ 999) : ∀ (l : List Int) (i : Nat) (y : Int), (∀ u ∈ l, 0 ≤ u ∧ u ≤ 999) → i < l.length → (l.foldl stepN y = (l.set i v).foldl stepN y ↔ l[i]?.getD 0 = v) := by
  intro l
  induction l with
  | nil => intro i y _ hi; simp at hi
  | cons u l ih =>
    intro i y hr hi
    cases i with
    | zero =>
      simp only [List.set_cons_zero, List.foldl_cons, List.getElem?_cons_zero, Option.getD_some]
      exact ⟨fun h => step_apart (hr u (by simp)) hv (fold_inj l (step_in _ _) (step_in _ _) h), fun h => by rw [h]⟩
    | succ i =>
      simp only [List.set_cons_succ, List.foldl_cons, List.getElem?_cons_succ]
      exact ih i _ (fun u hu => hr u (by simp [hu])) (by simpa using hi)
theorem data_sm : ∀ (l : List Int) (s : StP), FineP s → s.ix + l.length ≤ 1073741824 → (∀ u ∈ l, 0 ≤ u ∧ u ≤ 999) → (dataP s l).sm = l.foldl stepN s.sm := by
  intro l
  induction l with
  | nil => intro s _ _ _; rfl
  | cons u l ih =>
    intro s hs hx hr
    have hu := hr u (by simp)
    have e := next_data hs (v := u) (by simp at hx; omega) hu
    show (dataP (nextP s ⟨1, 1, u⟩) l).sm = l.foldl stepN (stepN s.sm u)
    rw [ih _ (next_fine hs) (by rw [e]; simp at hx ⊢; omega) (fun x hx => hr x (by simp [hx])), e]
    rfl
/-- What at most three numbers come to. -/
theorem data_sums {s : StP} {l : List Int} {i : Nat} {v : Int} (hs : FineP s) (hx : s.ix ≤ 1073741624) (hl : l.length ≤ 3) (hr : ∀ x ∈ l, 0 ≤ x ∧ x ≤ 999) (hv : 0 ≤ v ∧ v ≤ 999) (hi : i < l.length) :
    ((dataP s l).sm = (dataP s (l.set i v)).sm) ↔ l[i]?.getD 0 = v := by
  rw [data_sm l s hs (by omega) hr, data_sm (l.set i v) s hs (by rw [List.length_set]; omega) (fun x hx => ?_)]
  · exact fold_apart hv l i _ hr hi
  · rcases List.mem_or_eq_of_mem_set hx with h | h
    · exact hr x h
    · rw [h]; exact hv
theorem BoxE.frozenE {W : World} {z : Nat} {e : EnP} (h : BoxE W z e) : W.frozen? ⟨z, 0, none⟩ = false ∧ W.frozen? ⟨z, 1, none⟩ = false ∧ W.frozen? ⟨z, 2, none⟩ = false := by
  refine ⟨?_, ?_, ?_⟩
  all_goals simp [World.frozen?, show W.heap[z]? = _ from h]
theorem BoxE.e2 {W : World} {z : Nat} {e : EnP} (h : BoxE W z e) (v : Int) : BoxE (W.setCell ⟨z, 2, none⟩ (.int .i64 v)) z { e with vl := v } := heap_set h _
/-- The place that the law reckons. -/
theorem place_of (a : Int) {n : Nat} (h0 : 0 < n) (h3 : n ≤ 3) : ∃ (m1 : Int) (k : Nat), a.tmod (n : Int) = m1 ∧ IntKind.i64.wrap m1 = m1 ∧ IntKind.i64.wrap (m1 + n) = m1 + n ∧ (m1 + (n : Int)).tmod (n : Int) = (k : Int) ∧ IntKind.i64.wrap (k : Int) = (k : Int) ∧ k < n := by
  have h1 : -(n : Int) < a.tmod n := by
    have := Int.lt_tmod_of_pos a (show (0 : Int) < n by omega)
    omega
  have h2 : a.tmod n < n := Int.tmod_lt_of_pos a (by omega)
  obtain ⟨m1, hm1⟩ : ∃ m, m = a.tmod (n : Int) := ⟨_, rfl⟩
  rw [← hm1] at h1 h2 ⊢
  have h4 : (m1 + (n : Int)).tmod n = (m1 + n) % n := Int.tmod_eq_emod_of_nonneg (by omega)
  have h5 : 0 ≤ (m1 + (n : Int)) % n := Int.emod_nonneg _ (by omega)
  have h6 : (m1 + (n : Int)) % n < n := Int.emod_lt_of_pos _ (by omega)
  refine ⟨m1, ((m1 + (n : Int)) % n).toNat, rfl, by rw [IntKind.wrap_i64]; omega, by rw [IntKind.wrap_i64]; omega, by rw [h4]; omega, by rw [IntKind.wrap_i64]; omega, by omega⟩

set_option maxRecDepth 100000 in
set_option maxHeartbeats 4000000 in
theorem sums_law (s : StP) (A : Option Addr) (n c : Nat) (l : List Int) (a v : Int) (w : World) (hl : Rd w w.heap.size .i64 A n l) :
    Calls Try.prog 7 #[s.v, .slice A n c, .int .i64 a, .int .i64 v] w fun e w' => e = .returned (.bool true) ∧ Below w.heap.size w w' := by
  have Hl := Lib.hid hl
  have Hll := Lib.hid hl.1
  clear hl
  unfold StP.v
  go_enter Try.func7, Try.ntmps7
  by_cases hn0 : n = 0
  · subst hn0
    go_wp2_with fail
    refine (wakes_true _).mono ?_
    rintro e w1 ⟨rfl, hb1⟩
    go_wp2_with fail
    go_ret
    exact ⟨rfl, below_on (below_al (below_d0 w) _) hb1⟩
  have b0 : ((n : Int) == 0) = false := by simp; omega
  by_cases hn3 : 3 < n
  · have t0 : decide ((3 : Int) < (n : Int)) = true := by simp; omega
    go_wp2_with fail
    refine (wakes_true _).mono ?_
    rintro e w1 ⟨rfl, hb1⟩
    go_wp2_with fail
    go_ret
    exact ⟨rfl, below_on (below_al (below_d0 w) _) hb1⟩
  have t0 : decide ((3 : Int) < (n : Int)) = false := by simp; omega
  go_wp2_with fail
  obtain ⟨z, hz⟩ : ∃ z, z = w.heap.size := ⟨_, rfl⟩
  obtain ⟨w0, hw0⟩ : ∃ w0, w0 = w.alloc (.cells #[.int .i64 s.ix, .int .i64 s.tm, .int .i64 s.sm, .int .i64 s.lv, .bool s.fn] 23) := ⟨_, rfl⟩
  have hB0 : Below w.heap.size w w0 := by rw [hw0]; exact (Below.refl _ _).alloc (Nat.le_refl _) _
  have bs0 : BoxS w0 z s := by rw [hw0, hz]; exact BoxS.new w s
  rw [← hw0, ← hz]
  have Hz := Lib.hid (show w.heap.size ≤ z by omega)
  clear hw0 hz
  refine (rfine_any s w0).mono ?_
  rintro e w1 ⟨rfl, hb1⟩
  have bs1 := bs0.below hb1
  have hB1 := below_on hB0 hb1
  clear hb1 hB0 bs0
  obtain ⟨k0, k1, k2, k3, k4⟩ := bs1.cells
  cases hf : fineB s with
  | false =>
    go_wp2_with fail
    refine (wakes_true _).mono ?_
    rintro e w2 ⟨rfl, hb2⟩
    go_wp2_with fail
    go_ret
    exact ⟨rfl, below_on hB1 hb2⟩
  | true =>
  have HF := Lib.hid (fineB_iff.1 hf)
  clear hf
  by_cases hx : (1073741624 : Int) < s.ix
  · have t1 : decide ((1073741624 : Int) < s.ix) = true := by simpa using hx
    go_wp2_with fail
    refine (wakes_true _).mono ?_
    rintro e w2 ⟨rfl, hb2⟩
    go_wp2_with fail
    go_ret
    exact ⟨rfl, below_on hB1 hb2⟩
  have t1 : decide ((1073741624 : Int) < s.ix) = false := by simpa using hx
  by_cases hv0 : v < 0
  · have t2 : decide (v < 0) = true := by simpa using hv0
    go_wp2_with fail
    refine (wakes_true _).mono ?_
    rintro e w2 ⟨rfl, hb2⟩
    go_wp2_with fail
    go_ret
    exact ⟨rfl, below_on hB1 hb2⟩
  have t2 : decide (v < 0) = false := by simpa using hv0
  by_cases hv9 : (999 : Int) < v
  · have t3 : decide ((999 : Int) < v) = true := by simpa using hv9
    go_wp2_with fail
    refine (wakes_true _).mono ?_
    rintro e w2 ⟨rfl, hb2⟩
    go_wp2_with fail
    go_ret
    exact ⟨rfl, below_on hB1 hb2⟩
  have t3 : decide ((999 : Int) < v) = false := by simpa using hv9
  obtain ⟨m1, k, q1, q2, q3, q4, q5, hk⟩ := place_of a (show 0 < n by omega) (by omega)
  have hnn : ¬ (n : Int) = 0 := by omega
  have Hv := Lib.hid (show 0 ≤ v ∧ v ≤ 999 by omega)
  have Hx := Lib.hid (show s.ix ≤ 1073741624 by omega)
  have Hk := Lib.hid hk
  have Hn3 := Lib.hid (show n ≤ 3 by omega)
  have hz1 := bs1.lt
  have hz2 : z < w1.heap.size + 1 := by omega
  have HB1 := Lib.hid (⟨bs1, hB1⟩ : _ ∧ _)
  clear bs1 hB1 hk hn0 hn3 hx hv0 hv9
  go_upto_region 4 with fail
  go_cut [9, 10] (fun s9 s10 wx => ∃ x y, s9 = .pointer (some ⟨x, 0, none⟩) ∧ s10 = .pointer (some ⟨y, 0, none⟩) ∧ x ≠ y ∧ w.heap.size ≤ x ∧ w.heap.size ≤ y ∧ BoxS wx x s ∧ BoxS wx y s ∧ Below w.heap.size w wx)
  case first =>
    go_region
    all_goals
      go_wp2_with fail
      go_meet
      obtain ⟨bs1, hB1⟩ := HB1.out
      have hb2 : Below w1.heap.size w1 (w1.alloc (.cells #[.int .i64 s.ix, .int .i64 s.tm, .int .i64 s.sm, .int .i64 s.lv, .bool s.fn] 23)) := below_al (below_d0 _) _
      have x1 := BoxS.new w1 s
      have y1 := BoxS.new (w1.alloc (.cells #[.int .i64 s.ix, .int .i64 s.tm, .int .i64 s.sm, .int .i64 s.lv, .bool s.fn] 23)) s
      rw [World.size_alloc] at y1
      have x2 := x1.below (below_al (below_d0 _) (.cells #[.int .i64 s.ix, .int .i64 s.tm, .int .i64 s.sm, .int .i64 s.lv, .bool s.fn] 23))
      have hB3 := below_al (below_al hB1 (.cells #[.int .i64 s.ix, .int .i64 s.tm, .int .i64 s.sm, .int .i64 s.lv, .bool s.fn] 23)) (.cells #[.int .i64 s.ix, .int .i64 s.tm, .int .i64 s.sm, .int .i64 s.lv, .bool s.fn] 23)
      have hsz := hB1.size
      first
      | exact ⟨_, _, rfl, rfl, by omega, by omega, by omega, x2, y1, below_dr hB3⟩
      | exact ⟨_, _, rfl, rfl, by omega, by omega, by omega, y1, x2, below_dr hB3⟩
  case rest =>
    obtain ⟨x, y, rfl, rfl, hxy, hwx, hwy, bx, by_, hB⟩ := hcut
    clear k0 k1 k2 k3 k4 HB1 hz1 hz2
    have Hxy := Lib.hid (⟨hxy, hwx, hwy⟩ : _ ∧ _ ∧ _)
    have HB := Lib.hid (⟨bx, by_, hB⟩ : _ ∧ _ ∧ _)
    clear hxy hwx hwy bx by_ hB
    go_wp2_with fail
    have hset : (l.set k v).length = n := by rw [List.length_set]; exact Hll.out
    have Hset := Lib.hid hset
    clear hset
    go_loopw [11] (fun i wr => ∃ j : Nat, j ≤ n ∧ i = .int .i64 j ∧ BoxS wr x (dataP s (l.take j)) ∧ BoxS wr y (dataP s ((l.set k v).take j)) ∧ Below w.heap.size w wr ∧ ∀ u ∈ l.take j, 0 ≤ u ∧ u ≤ 999) (fun i _ => n - (intOf i).toNat)
    case atStart => exact ⟨0, Nat.zero_le _, rfl, HB.out.1, HB.out.2.1, HB.out.2.2, fun u hu => by simp at hu⟩
    case round =>
      obtain ⟨j, hj, rfl, bx, by_, hB, hin⟩ := hrel
      clear HB
      have Hin := Lib.hid hin
      clear hin
      by_cases hlt : j < n
      · have hj2 : (0 : Int) ≤ (j : Int) := by omega
        have hj3 : (j : Int) < (n : Int) := by omega
        have hw1 : IntKind.i64.wrap ((j : Int) + 1) = ((j + 1 : Nat) : Int) := by have := Hn3.out; rw [IntKind.wrap_i64]; omega
        obtain ⟨b, off, rfl, hbl, hcell⟩ := (Hl.out.on hB hB.size).at_ (by omega)
        have hc := hcell j hlt
        obtain ⟨u, hu⟩ : ∃ u, l[j]?.getD 0 = u := ⟨_, rfl⟩
        rw [hu] at hc
        have Hu := Lib.hid hu
        clear hcell hu
        by_cases hu0 : u < 0
        · have tu : decide (u < 0) = true := by simpa using hu0
          go_wp2_with fail
          refine (wakes_true _).mono ?_
          rintro e w3 ⟨rfl, hb3⟩
          go_wp2_with fail
          go_ret
          exact ⟨rfl, below_on hB hb3⟩
        have tu : decide (u < 0) = false := by simpa using hu0
        by_cases hu9 : (999 : Int) < u
        · have tv : decide ((999 : Int) < u) = true := by simpa using hu9
          go_wp2_with fail
          refine (wakes_true _).mono ?_
          rintro e w3 ⟨rfl, hb3⟩
          go_wp2_with fail
          go_ret
          exact ⟨rfl, below_on hB hb3⟩
        have tv : decide ((999 : Int) < u) = false := by simpa using hu9
        have Hin' := Lib.hid (show ∀ q ∈ l.take (j + 1), 0 ≤ q ∧ q ≤ 999 from fun q hq => by
          rw [List.take_add_one] at hq
          rcases List.mem_append.1 hq with hq | hq
          · exact Hin.out q hq
          · have h1 : l[j]? = some u := by
              have h2 := Hu.out
              rw [List.getElem?_eq_getElem (by rw [Hll.out]; exact hlt)] at h2 ⊢
              exact congrArg some h2
            rw [h1] at hq
            simp at hq
            omega)
        have Hsa := Lib.hid (show dataP s (l.take (j + 1)) = nextP (dataP s (l.take j)) ⟨1, 1, u⟩ by
          rw [List.take_add_one, ← data_snoc, List.getElem?_eq_getElem (by rw [Hll.out]; exact hlt), Option.toList_some, ← Hu.out, List.getElem?_eq_getElem (by rw [Hll.out]; exact hlt), Option.getD_some])
        have hsx := bx.cells
        obtain ⟨ta, hta⟩ : ∃ t, t = dataP s (l.take j) := ⟨_, rfl⟩
        obtain ⟨tb, htb⟩ : ∃ t, t = dataP s ((l.set k v).take j) := ⟨_, rfl⟩
        rw [← hta] at bx Hsa
        rw [← htb] at by_
        clear hsx
        obtain ⟨k0, k1, k2, k3, k4⟩ := bx.cells
        have hlx := bx.lt
        have HB := Lib.hid (⟨bx, by_, hB⟩ : _ ∧ _ ∧ _)
        have Htb := Lib.hid htb
        clear bx by_ hB hta htb hbl
        go_wp2_with fail
        obtain ⟨X, hX⟩ : ∃ X, X = wr.heap.size := ⟨_, rfl⟩
        obtain ⟨w2, hw2⟩ : ∃ w2, w2 = wr.alloc (.cells #[.int .i64 1, .int .i64 1, .int .i64 u] 25) := ⟨_, rfl⟩
        have bX2 : BoxE w2 X ⟨1, 1, u⟩ := by rw [hw2, hX]; exact BoxE.new wr ⟨1, 1, u⟩
        have hb2 : Below wr.heap.size wr w2 := by rw [hw2]; exact below_al (below_d0 _) _
        rw [← hw2, ← hX]
        refine (next_any ta ⟨1, 1, u⟩ w2).mono ?_
        rintro e w4 ⟨rfl, hb4⟩
        rw [← Hsa.out]
        obtain ⟨ta', hta'⟩ : ∃ t, t = dataP s (l.take (j + 1)) := ⟨_, rfl⟩
        rw [← hta'] at Hsa ⊢
        unfold StP.v
        obtain ⟨bx, by_, hB⟩ := HB.out
        have hb24 := below_on hb2 hb4
        have bx4 := bx.below hb24
        have by4 := by_.below hb24
        have bX4 := bX2.below hb4
        have hB4 := below_on hB hb24
        have HX := Lib.hid (⟨hX, hta'⟩ : _ ∧ _)
        obtain ⟨f0, f1, f2, f3, f4⟩ := bx4.frozen
        obtain ⟨d0, d1, d2, d3, d4⟩ := bx4.cells
        have H4 := Lib.hid (⟨bx4, by4, bX4, hB4⟩ : _ ∧ _ ∧ _ ∧ _)
        have hXx : X ≠ x ∧ X ≠ y ∧ w.heap.size ≤ X := by have := bx.lt; have := by_.lt; have := hB.size; omega
        have HXx := Lib.hid hXx
        clear bx by_ hB hb24 bx4 by4 bX4 hB4 hX hw2 hb2 bX2 hta' k0 k1 k2 k3 k4 hb4 hXx HB hlx
        go_upto_region 12 with fail
        change Code.wp _ _ _ _ (putS w4 x ta')
        obtain ⟨bx4, by4, bX4, hB4⟩ := H4.out
        have bx5 := putS_box bx4 ta'
        have by5 := putS_other by4 (fun e => Hxy.out.1 e.symm) ta'
        have bX5 := putS_otherE bX4 HXx.out.1 ta'
        have hB5 := putS_below hB4 Hxy.out.2.1 ta'
        obtain ⟨w5, hw5⟩ : ∃ w5, w5 = putS w4 x ta' := ⟨_, rfl⟩
        rw [← hw5] at bx5 by5 bX5 hB5 ⊢
        clear bx4 by4 bX4 hB4 hw5 f0 f1 f2 f3 f4 d0 d1 d2 d3 d4 H4
        have H5 := Lib.hid (⟨bx5, by5, bX5, hB5⟩ : _ ∧ _ ∧ _ ∧ _)
        clear bx5 by5 bX5 hB5
        by_cases hjk : j = k
        · have tjk : ((j : Int) == (k : Int)) = true := by simp; omega
          have Hsb := Lib.hid (show dataP s ((l.set k v).take (j + 1)) = nextP tb ⟨1, 1, v⟩ by
            rw [List.take_add_one, Htb.out, ← data_snoc, List.getElem?_eq_getElem (by rw [Hset.out]; exact hlt), Option.toList_some]
            simp [hjk])
          clear hjk
          obtain ⟨g0, g1, g2⟩ := H5.out.2.2.1.frozenE
          obtain ⟨c0, c1, c2⟩ := H5.out.2.2.1.cells
          go_upto_region 14 with fail
          obtain ⟨w6, hw6⟩ : ∃ w6, w6 = w5.setCell ⟨X, 2, none⟩ (.int .i64 v) := ⟨_, rfl⟩
          have bx6 : BoxS w6 x ta' := by rw [hw6]; exact H5.out.1.other (fun e => HXx.out.1 e.symm) _
          have by6 : BoxS w6 y tb := by rw [hw6]; exact H5.out.2.1.other (fun e => HXx.out.2.1 e.symm) _
          have bX6 : BoxE w6 X ⟨1, 1, v⟩ := by rw [hw6]; exact H5.out.2.2.1.e2 v
          have hB6 : Below w.heap.size w w6 := by rw [hw6]; exact H5.out.2.2.2.setCell (p := ⟨X, 2, none⟩) HXx.out.2.2 _
          rw [← hw6]
          clear hw6 g0 g1 g2 c0 c1 c2 H5
          obtain ⟨k0, k1, k2, k3, k4⟩ := by6.cells
          obtain ⟨c0, c1, c2⟩ := bX6.cells
          have H6 := Lib.hid (⟨bx6, by6, hB6⟩ : _ ∧ _ ∧ _)
          clear bx6 by6 bX6 hB6
          go_wp2_with fail
          refine (next_any tb ⟨1, 1, v⟩ w6).mono ?_
          rintro e w7 ⟨rfl, hb7⟩
          rw [← Hsb.out]
          obtain ⟨tb', htb'⟩ : ∃ t, t = dataP s ((l.set k v).take (j + 1)) := ⟨_, rfl⟩
          rw [← htb'] at Hsb ⊢
          unfold StP.v
          obtain ⟨bx6, by6, hB6⟩ := H6.out
          have bx7 := bx6.below hb7
          have by7 := by6.below hb7
          have hB7 := below_on hB6 hb7
          obtain ⟨f0, f1, f2, f3, f4⟩ := by7.frozen
          obtain ⟨d0, d1, d2, d3, d4⟩ := by7.cells
          have H7 := Lib.hid (⟨bx7, by7, hB7, htb'⟩ : _ ∧ _ ∧ _ ∧ _)
          clear bx6 by6 hB6 bx7 by7 hB7 htb' hb7 H6 k0 k1 k2 k3 k4 c0 c1 c2
          go_wp2_with fail
          go_roundw
          case rel =>
            obtain ⟨bx7, by7, hB7, htb'⟩ := H7.out
            refine ⟨j + 1, by omega, by go_num, ?_, ?_, putS_below hB7 Hxy.out.2.2 tb', Hin'.out⟩
            · rw [← HX.out.2]; exact putS_other bx7 Hxy.out.1 tb'
            · rw [← htb']; exact putS_box by7 tb'
          case measure => simp [intOf]; omega
        · have tjk : ((j : Int) == (k : Int)) = false := by simp; omega
          have Hsb := Lib.hid (show dataP s ((l.set k v).take (j + 1)) = nextP tb ⟨1, 1, u⟩ by
            rw [List.take_add_one, Htb.out, ← data_snoc, List.getElem?_eq_getElem (by rw [Hset.out]; exact hlt), Option.toList_some, List.getElem_set_ne (fun e => hjk e.symm), ← Hu.out, List.getElem?_eq_getElem (by rw [Hll.out]; exact hlt), Option.getD_some])
          clear hjk
          obtain ⟨k0, k1, k2, k3, k4⟩ := H5.out.2.1.cells
          obtain ⟨c0, c1, c2⟩ := H5.out.2.2.1.cells
          have H6 := Lib.hid (⟨H5.out.1, H5.out.2.1, H5.out.2.2.2⟩ : _ ∧ _ ∧ _)
          clear H5
          go_wp2_with fail
          refine (next_any tb ⟨1, 1, u⟩ w5).mono ?_
          rintro e w7 ⟨rfl, hb7⟩
          rw [← Hsb.out]
          obtain ⟨tb', htb'⟩ : ∃ t, t = dataP s ((l.set k v).take (j + 1)) := ⟨_, rfl⟩
          rw [← htb'] at Hsb ⊢
          unfold StP.v
          obtain ⟨bx6, by6, hB6⟩ := H6.out
          have bx7 := bx6.below hb7
          have by7 := by6.below hb7
          have hB7 := below_on hB6 hb7
          obtain ⟨f0, f1, f2, f3, f4⟩ := by7.frozen
          obtain ⟨d0, d1, d2, d3, d4⟩ := by7.cells
          have H7 := Lib.hid (⟨bx7, by7, hB7, htb'⟩ : _ ∧ _ ∧ _ ∧ _)
          clear bx6 by6 hB6 bx7 by7 hB7 htb' hb7 H6 k0 k1 k2 k3 k4 c0 c1 c2
          go_wp2_with fail
          go_roundw
          case rel =>
            obtain ⟨bx7, by7, hB7, htb'⟩ := H7.out
            refine ⟨j + 1, by omega, by go_num, ?_, ?_, putS_below hB7 Hxy.out.2.2 tb', Hin'.out⟩
            · rw [← HX.out.2]; exact putS_other bx7 Hxy.out.1 tb'
            · rw [← htb']; exact putS_box by7 tb'
          case measure => simp [intOf]; omega
      · obtain rfl : j = n := by omega
        have e1 : l.take j = l := List.take_of_length_le (by rw [Hll.out]; exact Nat.le_refl _)
        have e2 : (l.set k v).take j = l.set k v := List.take_of_length_le (by rw [Hset.out]; exact Nat.le_refl _)
        have hall := Hin.out
        rw [e1] at bx hall
        rw [e2] at by_
        have hsum := data_sums HF.out Hx.out (by rw [Hll.out]; exact Hn3.out) hall Hv.out (by rw [Hll.out]; exact Hk.out)
        obtain ⟨b, off, rfl, hbl, hcell⟩ := (Hl.out.on hB hB.size).at_ (by have := Hk.out; omega)
        have hc := hcell k Hk.out
        obtain ⟨u, hu⟩ : ∃ u, l[k]?.getD 0 = u := ⟨_, rfl⟩
        rw [hu] at hc hsum
        obtain ⟨ta, hta⟩ : ∃ t, t = dataP s l := ⟨_, rfl⟩
        obtain ⟨tb, htb⟩ : ∃ t, t = dataP s (l.set k v) := ⟨_, rfl⟩
        rw [← hta] at bx hsum
        rw [← htb] at by_ hsum
        have hk2 : (0 : Int) ≤ (k : Int) := by omega
        have hk3 : (k : Int) < (j : Int) := by have := Hk.out; omega
        have X0 := Lib.hid (show ∀ W, Below wr.heap.size wr W → BoxS W x ta ∧ BoxS W y tb ∧ W.cell? ⟨b, off + k, none⟩ = some (.int .i64 u) from fun W hW => ⟨bx.below hW, by_.below hW, (hW.cell (p := ⟨b, off + k, none⟩) (Nat.lt_of_lt_of_le hbl (Nat.le_refl _))).trans hc⟩)
        have HB := Lib.hid hB
        clear hcell hu hta htb bx by_ hc hall e1 e2 hB hbl
        by_cases he : u = v
        · have ya : (ta.sm == tb.sm) = true := by simpa using hsum.2 he
          have yb : (u == v) = true := by simpa using he
          clear hsum he
          go_upto_region 15 with fail
          refine wp_region_held_drew (S := (fun W => Below wr.heap.size wr W)) (by kernel_rfl) (below_dr (below_d0 _)) (fun hHeld => ?_)
          refine take_at (i := 0) (d := 87) (oi := ?o1) (v := ?v1) ?hi1 ?hd1 (by kernel_rfl) (by kernel_rfl) (by kernel_rfl) ?hw1 ?hy1 ?hq1 (by assumption) ?r1
          case hi1 => (simp only [List.getElem?_toArray, List.getElem?_cons_zero]; rfl)
          case hd1 => rfl
          case hw1 => rfl
          case hy1 => ((intro w hSw; (try dsimp only at hSw); go_simp) <;> (with_reducible rfl))
          case hq1 => exact fun _ _ _ h => h
          simp only [List.set_cons_succ, List.set_cons_zero]
          refine take_at (i := 1) (d := 88) (oi := ?o2) (v := ?v2) ?hi2 ?hd2 (by kernel_rfl) (by kernel_rfl) (by kernel_rfl) ?hw2 ?hy2 ?hq2 (by assumption) ?r2
          case hi2 => (simp only [List.getElem?_toArray, List.getElem?_cons_succ, List.getElem?_cons_zero]; rfl)
          case hd2 => rfl
          case hw2 => rfl
          case hy2 => ((intro w hSw; (try dsimp only at hSw); obtain ⟨bx, by_, hc⟩ := X0.out _ hSw; obtain ⟨k0, k1, k2, k3, k4⟩ := bx.cells; obtain ⟨d0, d1, d2, d3, d4⟩ := by_.cells; go_simp) <;> (with_reducible rfl))
          case hq2 => exact fun _ _ _ h => h
          simp only [List.set_cons_succ, List.set_cons_zero]
          refine take_at (i := 2) (d := 89) (oi := ?o3) (v := ?v3) ?hi3 ?hd3 (by kernel_rfl) (by kernel_rfl) (by kernel_rfl) ?hw3 ?hy3 ?hq3 (by assumption) ?r3
          case hi3 => (simp only [List.getElem?_toArray, List.getElem?_cons_succ, List.getElem?_cons_zero]; rfl)
          case hd3 => rfl
          case hw3 => rfl
          case hy3 => ((intro w hSw; (try dsimp only at hSw); go_simp) <;> (with_reducible rfl))
          case hq3 => exact fun _ _ _ h => h
          simp only [List.set_cons_succ, List.set_cons_zero]
          refine take_at (i := 3) (d := 90) (oi := ?o4) (v := ?v4) ?hi4 ?hd4 (by kernel_rfl) (by kernel_rfl) (by kernel_rfl) ?hw4 ?hy4 ?hq4 (by assumption) ?r4
          case hi4 => (simp only [List.getElem?_toArray, List.getElem?_cons_succ, List.getElem?_cons_zero]; rfl)
          case hd4 => rfl
          case hw4 => rfl
          case hy4 => ((intro w hSw; (try dsimp only at hSw); obtain ⟨bx, by_, hc⟩ := X0.out _ hSw; obtain ⟨k0, k1, k2, k3, k4⟩ := bx.cells; obtain ⟨d0, d1, d2, d3, d4⟩ := by_.cells; go_simp) <;> (with_reducible rfl))
          case hq4 => exact fun _ _ _ h => h
          simp only [List.set_cons_succ, List.set_cons_zero]
          refine take_at (i := 4) (d := 91) (oi := ?o5) (v := ?v5) ?hi5 ?hd5 (by kernel_rfl) (by kernel_rfl) (by kernel_rfl) ?hw5 ?hy5 ?hq5 (by assumption) ?r5
          case hi5 => (simp only [List.getElem?_toArray, List.getElem?_cons_succ, List.getElem?_cons_zero]; rfl)
          case hd5 => rfl
          case hw5 => rfl
          case hy5 => ((intro w hSw; (try dsimp only at hSw); go_simp) <;> (with_reducible rfl))
          case hq5 => exact fun _ _ _ h => h
          simp only [List.set_cons_succ, List.set_cons_zero]
          refine take_at (i := 5) (d := 92) (oi := ?o6) (v := ?v6) ?hi6 ?hd6 (by kernel_rfl) (by kernel_rfl) (by kernel_rfl) ?hw6 ?hy6 ?hq6 (by assumption) ?r6
          case hi6 => (simp only [List.getElem?_toArray, List.getElem?_cons_succ, List.getElem?_cons_zero]; rfl)
          case hd6 => rfl
          case hw6 => rfl
          case hy6 => ((intro w hSw; (try dsimp only at hSw); go_simp) <;> (with_reducible rfl))
          case hq6 => exact fun _ _ _ h => h
          simp only [List.set_cons_succ, List.set_cons_zero]
          refine take_at (i := 6) (d := 93) (oi := ?o7) (v := ?v7) ?hi7 ?hd7 (by kernel_rfl) (by kernel_rfl) (by kernel_rfl) ?hw7 ?hy7 ?hq7 (by assumption) ?r7
          case hi7 => (simp only [List.getElem?_toArray, List.getElem?_cons_succ, List.getElem?_cons_zero]; rfl)
          case hd7 => rfl
          case hw7 => rfl
          case hy7 => ((intro w hSw; (try dsimp only at hSw); go_simp) <;> (with_reducible rfl))
          case hq7 => exact fun _ _ _ h => h
          simp only [List.set_cons_succ, List.set_cons_zero]
          refine take_at (i := 7) (d := 94) (oi := ?o8) (v := ?v8) ?hi8 ?hd8 (by kernel_rfl) (by kernel_rfl) (by kernel_rfl) ?hw8 ?hy8 ?hq8 (by assumption) ?r8
          case hi8 => (simp only [List.getElem?_toArray, List.getElem?_cons_succ, List.getElem?_cons_zero]; rfl)
          case hd8 => rfl
          case hw8 => rfl
          case hy8 => ((intro w hSw; (try dsimp only at hSw); go_simp) <;> (with_reducible rfl))
          case hq8 => exact fun _ _ _ h => h
          simp only [List.set_cons_succ, List.set_cons_zero]
          refine take_at (i := 8) (d := 95) (oi := ?o9) (v := ?v9) ?hi9 ?hd9 (by kernel_rfl) (by kernel_rfl) (by kernel_rfl) ?hw9 ?hy9 ?hq9 (by assumption) ?r9
          case hi9 => (simp only [List.getElem?_toArray, List.getElem?_cons_succ, List.getElem?_cons_zero]; rfl)
          case hd9 => rfl
          case hw9 => rfl
          case hy9 => ((intro w hSw; (try dsimp only at hSw); obtain ⟨bx, by_, hc⟩ := X0.out _ hSw; obtain ⟨k0, k1, k2, k3, k4⟩ := bx.cells; obtain ⟨d0, d1, d2, d3, d4⟩ := by_.cells; go_simp) <;> (with_reducible rfl))
          case hq9 => exact fun _ _ _ h => h
          simp only [List.set_cons_succ, List.set_cons_zero]
          refine take_at (i := 9) (d := 96) (oi := ?o10) (v := ?v10) ?hi10 ?hd10 (by kernel_rfl) (by kernel_rfl) (by kernel_rfl) ?hw10 ?hy10 ?hq10 (by assumption) ?r10
          case hi10 => (simp only [List.getElem?_toArray, List.getElem?_cons_succ, List.getElem?_cons_zero]; rfl)
          case hd10 => rfl
          case hw10 => rfl
          case hy10 => ((intro w hSw; (try dsimp only at hSw); go_simp) <;> (with_reducible rfl))
          case hq10 => exact fun _ _ _ h => h
          simp only [List.set_cons_succ, List.set_cons_zero]
          refine take_at (i := 10) (d := 97) (oi := ?o11) (v := ?v11) ?hi11 ?hd11 (by kernel_rfl) (by kernel_rfl) (by kernel_rfl) ?hw11 ?hy11 ?hq11 (by assumption) ?r11
          case hi11 => (simp only [List.getElem?_toArray, List.getElem?_cons_succ, List.getElem?_cons_zero]; rfl)
          case hd11 => rfl
          case hw11 => rfl
          case hy11 => ((intro w hSw; (try dsimp only at hSw); go_simp) <;> (with_reducible rfl))
          case hq11 => exact fun _ _ _ h => h
          simp only [List.set_cons_succ, List.set_cons_zero]
          refine take_at (i := 11) (d := 98) (oi := ?o12) (v := ?v12) ?hi12 ?hd12 (by kernel_rfl) (by kernel_rfl) (by kernel_rfl) ?hw12 ?hy12 ?hq12 (by assumption) ?r12
          case hi12 => (simp only [List.getElem?_toArray, List.getElem?_cons_succ, List.getElem?_cons_zero]; rfl)
          case hd12 => rfl
          case hw12 => rfl
          case hy12 => ((intro w hSw; (try dsimp only at hSw); go_simp) <;> (with_reducible rfl))
          case hq12 => exact fun _ _ _ h => h
          simp only [List.set_cons_succ, List.set_cons_zero]
          refine take_at (i := 12) (d := 99) (oi := ?o13) (v := ?v13) ?hi13 ?hd13 (by kernel_rfl) (by kernel_rfl) (by kernel_rfl) ?hw13 ?hy13 ?hq13 (by assumption) ?r13
          case hi13 => (simp only [List.getElem?_toArray, List.getElem?_cons_succ, List.getElem?_cons_zero]; rfl)
          case hd13 => rfl
          case hw13 => rfl
          case hy13 => ((intro w hSw; (try dsimp only at hSw); go_simp) <;> (with_reducible rfl))
          case hq13 => exact fun _ _ _ h => h
          simp only [List.set_cons_succ, List.set_cons_zero]
          refine call_at (i := 13) (d := 100) (oi := ?o14) (f := ?f14) (args := ?a14) ?hi14 ?hd14 (by kernel_rfl) ?hw14 ?he14 ?hc14
          case hi14 => (simp only [List.getElem?_toArray, List.getElem?_cons_succ, List.getElem?_cons_zero]; rfl)
          case hd14 => rfl
          case hw14 => rfl
          case he14 => (go_simp; constructor <;> with_reducible rfl)
          refine Calls.mono (wakes_true _) ?_
          rintro r w2 ⟨rfl, hb2⟩
          have kb : Below wr.heap.size wr w2 := hHeld.trans (hb2.mono hHeld.size)
          refine ⟨_, rfl, kb, fun hHeld => ?_⟩
          simp only [List.set_cons_succ, List.set_cons_zero]
          refine take_at (i := 14) (d := 101) (oi := ?o15) (v := ?v15) ?hi15 ?hd15 (by kernel_rfl) (by kernel_rfl) (by kernel_rfl) ?hw15 ?hy15 ?hq15 (by assumption) ?r15
          case hi15 => (simp only [List.getElem?_toArray, List.getElem?_cons_succ, List.getElem?_cons_zero]; rfl)
          case hd15 => rfl
          case hw15 => rfl
          case hy15 => ((intro w hSw; (try dsimp only at hSw); go_simp) <;> (with_reducible rfl))
          case hq15 => exact fun _ _ _ h => h
          simp only [List.set_cons_succ, List.set_cons_zero]
          refine take_at (i := 15) (d := 8) (oi := ?o16) (v := ?v16) ?hi16 ?hd16 (by kernel_rfl) (by kernel_rfl) (by kernel_rfl) ?hw16 ?hy16 ?hq16 (by assumption) ?r16
          case hi16 => (simp only [List.getElem?_toArray, List.getElem?_cons_succ, List.getElem?_cons_zero]; rfl)
          case hd16 => rfl
          case hw16 => rfl
          case hy16 => ((intro w hSw; (try dsimp only at hSw); go_simp) <;> (with_reducible rfl))
          case hq16 => exact fun _ _ _ h => h
          simp only [List.set_cons_succ, List.set_cons_zero]
          refine wpAnyH_done (by kernel_rfl) ?_ _
          go_wp2_with fail
          go_ret
          exact ⟨rfl, below_on HB.out hHeld⟩
        · have ya : (ta.sm == tb.sm) = false := by
            have h1 : ¬ ta.sm = tb.sm := fun h => he (hsum.1 h)
            simpa using h1
          have yb : (u == v) = false := by simpa using he
          clear hsum he
          go_upto_region 15 with fail
          refine wp_region_held_drew (S := (fun W => Below wr.heap.size wr W)) (by kernel_rfl) (below_dr (below_d0 _)) (fun hHeld => ?_)
          refine take_at (i := 0) (d := 87) (oi := ?o17) (v := ?v17) ?hi17 ?hd17 (by kernel_rfl) (by kernel_rfl) (by kernel_rfl) ?hw17 ?hy17 ?hq17 (by assumption) ?r17
          case hi17 => (simp only [List.getElem?_toArray, List.getElem?_cons_zero]; rfl)
          case hd17 => rfl
          case hw17 => rfl
          case hy17 => ((intro w hSw; (try dsimp only at hSw); go_simp) <;> (with_reducible rfl))
          case hq17 => exact fun _ _ _ h => h
          simp only [List.set_cons_succ, List.set_cons_zero]
          refine take_at (i := 1) (d := 88) (oi := ?o18) (v := ?v18) ?hi18 ?hd18 (by kernel_rfl) (by kernel_rfl) (by kernel_rfl) ?hw18 ?hy18 ?hq18 (by assumption) ?r18
          case hi18 => (simp only [List.getElem?_toArray, List.getElem?_cons_succ, List.getElem?_cons_zero]; rfl)
          case hd18 => rfl
          case hw18 => rfl
          case hy18 => ((intro w hSw; (try dsimp only at hSw); obtain ⟨bx, by_, hc⟩ := X0.out _ hSw; obtain ⟨k0, k1, k2, k3, k4⟩ := bx.cells; obtain ⟨d0, d1, d2, d3, d4⟩ := by_.cells; go_simp) <;> (with_reducible rfl))
          case hq18 => exact fun _ _ _ h => h
          simp only [List.set_cons_succ, List.set_cons_zero]
          refine take_at (i := 2) (d := 89) (oi := ?o19) (v := ?v19) ?hi19 ?hd19 (by kernel_rfl) (by kernel_rfl) (by kernel_rfl) ?hw19 ?hy19 ?hq19 (by assumption) ?r19
          case hi19 => (simp only [List.getElem?_toArray, List.getElem?_cons_succ, List.getElem?_cons_zero]; rfl)
          case hd19 => rfl
          case hw19 => rfl
          case hy19 => ((intro w hSw; (try dsimp only at hSw); go_simp) <;> (with_reducible rfl))
          case hq19 => exact fun _ _ _ h => h
          simp only [List.set_cons_succ, List.set_cons_zero]
          refine take_at (i := 3) (d := 90) (oi := ?o20) (v := ?v20) ?hi20 ?hd20 (by kernel_rfl) (by kernel_rfl) (by kernel_rfl) ?hw20 ?hy20 ?hq20 (by assumption) ?r20
          case hi20 => (simp only [List.getElem?_toArray, List.getElem?_cons_succ, List.getElem?_cons_zero]; rfl)
          case hd20 => rfl
          case hw20 => rfl
          case hy20 => ((intro w hSw; (try dsimp only at hSw); obtain ⟨bx, by_, hc⟩ := X0.out _ hSw; obtain ⟨k0, k1, k2, k3, k4⟩ := bx.cells; obtain ⟨d0, d1, d2, d3, d4⟩ := by_.cells; go_simp) <;> (with_reducible rfl))
          case hq20 => exact fun _ _ _ h => h
          simp only [List.set_cons_succ, List.set_cons_zero]
          refine take_at (i := 4) (d := 91) (oi := ?o21) (v := ?v21) ?hi21 ?hd21 (by kernel_rfl) (by kernel_rfl) (by kernel_rfl) ?hw21 ?hy21 ?hq21 (by assumption) ?r21
          case hi21 => (simp only [List.getElem?_toArray, List.getElem?_cons_succ, List.getElem?_cons_zero]; rfl)
          case hd21 => rfl
          case hw21 => rfl
          case hy21 => ((intro w hSw; (try dsimp only at hSw); go_simp) <;> (with_reducible rfl))
          case hq21 => exact fun _ _ _ h => h
          simp only [List.set_cons_succ, List.set_cons_zero]
          refine take_at (i := 5) (d := 92) (oi := ?o22) (v := ?v22) ?hi22 ?hd22 (by kernel_rfl) (by kernel_rfl) (by kernel_rfl) ?hw22 ?hy22 ?hq22 (by assumption) ?r22
          case hi22 => (simp only [List.getElem?_toArray, List.getElem?_cons_succ, List.getElem?_cons_zero]; rfl)
          case hd22 => rfl
          case hw22 => rfl
          case hy22 => ((intro w hSw; (try dsimp only at hSw); go_simp) <;> (with_reducible rfl))
          case hq22 => exact fun _ _ _ h => h
          simp only [List.set_cons_succ, List.set_cons_zero]
          refine take_at (i := 6) (d := 93) (oi := ?o23) (v := ?v23) ?hi23 ?hd23 (by kernel_rfl) (by kernel_rfl) (by kernel_rfl) ?hw23 ?hy23 ?hq23 (by assumption) ?r23
          case hi23 => (simp only [List.getElem?_toArray, List.getElem?_cons_succ, List.getElem?_cons_zero]; rfl)
          case hd23 => rfl
          case hw23 => rfl
          case hy23 => ((intro w hSw; (try dsimp only at hSw); go_simp) <;> (with_reducible rfl))
          case hq23 => exact fun _ _ _ h => h
          simp only [List.set_cons_succ, List.set_cons_zero]
          refine take_at (i := 7) (d := 94) (oi := ?o24) (v := ?v24) ?hi24 ?hd24 (by kernel_rfl) (by kernel_rfl) (by kernel_rfl) ?hw24 ?hy24 ?hq24 (by assumption) ?r24
          case hi24 => (simp only [List.getElem?_toArray, List.getElem?_cons_succ, List.getElem?_cons_zero]; rfl)
          case hd24 => rfl
          case hw24 => rfl
          case hy24 => ((intro w hSw; (try dsimp only at hSw); go_simp) <;> (with_reducible rfl))
          case hq24 => exact fun _ _ _ h => h
          simp only [List.set_cons_succ, List.set_cons_zero]
          refine take_at (i := 8) (d := 95) (oi := ?o25) (v := ?v25) ?hi25 ?hd25 (by kernel_rfl) (by kernel_rfl) (by kernel_rfl) ?hw25 ?hy25 ?hq25 (by assumption) ?r25
          case hi25 => (simp only [List.getElem?_toArray, List.getElem?_cons_succ, List.getElem?_cons_zero]; rfl)
          case hd25 => rfl
          case hw25 => rfl
          case hy25 => ((intro w hSw; (try dsimp only at hSw); obtain ⟨bx, by_, hc⟩ := X0.out _ hSw; obtain ⟨k0, k1, k2, k3, k4⟩ := bx.cells; obtain ⟨d0, d1, d2, d3, d4⟩ := by_.cells; go_simp) <;> (with_reducible rfl))
          case hq25 => exact fun _ _ _ h => h
          simp only [List.set_cons_succ, List.set_cons_zero]
          refine take_at (i := 9) (d := 96) (oi := ?o26) (v := ?v26) ?hi26 ?hd26 (by kernel_rfl) (by kernel_rfl) (by kernel_rfl) ?hw26 ?hy26 ?hq26 (by assumption) ?r26
          case hi26 => (simp only [List.getElem?_toArray, List.getElem?_cons_succ, List.getElem?_cons_zero]; rfl)
          case hd26 => rfl
          case hw26 => rfl
          case hy26 => ((intro w hSw; (try dsimp only at hSw); go_simp) <;> (with_reducible rfl))
          case hq26 => exact fun _ _ _ h => h
          simp only [List.set_cons_succ, List.set_cons_zero]
          refine take_at (i := 10) (d := 97) (oi := ?o27) (v := ?v27) ?hi27 ?hd27 (by kernel_rfl) (by kernel_rfl) (by kernel_rfl) ?hw27 ?hy27 ?hq27 (by assumption) ?r27
          case hi27 => (simp only [List.getElem?_toArray, List.getElem?_cons_succ, List.getElem?_cons_zero]; rfl)
          case hd27 => rfl
          case hw27 => rfl
          case hy27 => ((intro w hSw; (try dsimp only at hSw); go_simp) <;> (with_reducible rfl))
          case hq27 => exact fun _ _ _ h => h
          simp only [List.set_cons_succ, List.set_cons_zero]
          refine take_at (i := 11) (d := 98) (oi := ?o28) (v := ?v28) ?hi28 ?hd28 (by kernel_rfl) (by kernel_rfl) (by kernel_rfl) ?hw28 ?hy28 ?hq28 (by assumption) ?r28
          case hi28 => (simp only [List.getElem?_toArray, List.getElem?_cons_succ, List.getElem?_cons_zero]; rfl)
          case hd28 => rfl
          case hw28 => rfl
          case hy28 => ((intro w hSw; (try dsimp only at hSw); go_simp) <;> (with_reducible rfl))
          case hq28 => exact fun _ _ _ h => h
          simp only [List.set_cons_succ, List.set_cons_zero]
          refine take_at (i := 12) (d := 99) (oi := ?o29) (v := ?v29) ?hi29 ?hd29 (by kernel_rfl) (by kernel_rfl) (by kernel_rfl) ?hw29 ?hy29 ?hq29 (by assumption) ?r29
          case hi29 => (simp only [List.getElem?_toArray, List.getElem?_cons_succ, List.getElem?_cons_zero]; rfl)
          case hd29 => rfl
          case hw29 => rfl
          case hy29 => ((intro w hSw; (try dsimp only at hSw); go_simp) <;> (with_reducible rfl))
          case hq29 => exact fun _ _ _ h => h
          simp only [List.set_cons_succ, List.set_cons_zero]
          refine call_at (i := 13) (d := 100) (oi := ?o30) (f := ?f30) (args := ?a30) ?hi30 ?hd30 (by kernel_rfl) ?hw30 ?he30 ?hc30
          case hi30 => (simp only [List.getElem?_toArray, List.getElem?_cons_succ, List.getElem?_cons_zero]; rfl)
          case hd30 => rfl
          case hw30 => rfl
          case he30 => (go_simp; constructor <;> with_reducible rfl)
          refine Calls.mono (wakes_true _) ?_
          rintro r w2 ⟨rfl, hb2⟩
          have kb : Below wr.heap.size wr w2 := hHeld.trans (hb2.mono hHeld.size)
          refine ⟨_, rfl, kb, fun hHeld => ?_⟩
          simp only [List.set_cons_succ, List.set_cons_zero]
          refine take_at (i := 14) (d := 101) (oi := ?o31) (v := ?v31) ?hi31 ?hd31 (by kernel_rfl) (by kernel_rfl) (by kernel_rfl) ?hw31 ?hy31 ?hq31 (by assumption) ?r31
          case hi31 => (simp only [List.getElem?_toArray, List.getElem?_cons_succ, List.getElem?_cons_zero]; rfl)
          case hd31 => rfl
          case hw31 => rfl
          case hy31 => ((intro w hSw; (try dsimp only at hSw); go_simp) <;> (with_reducible rfl))
          case hq31 => exact fun _ _ _ h => h
          simp only [List.set_cons_succ, List.set_cons_zero]
          refine take_at (i := 15) (d := 8) (oi := ?o32) (v := ?v32) ?hi32 ?hd32 (by kernel_rfl) (by kernel_rfl) (by kernel_rfl) ?hw32 ?hy32 ?hq32 (by assumption) ?r32
          case hi32 => (simp only [List.getElem?_toArray, List.getElem?_cons_succ, List.getElem?_cons_zero]; rfl)
          case hd32 => rfl
          case hw32 => rfl
          case hy32 => ((intro w hSw; (try dsimp only at hSw); go_simp) <;> (with_reducible rfl))
          case hq32 => exact fun _ _ _ h => h
          simp only [List.set_cons_succ, List.set_cons_zero]
          refine wpAnyH_done (by kernel_rfl) ?_ _
          go_wp2_with fail
          go_ret
          exact ⟨rfl, below_on HB.out hHeld⟩
end Go.Proofs.Ytbaaghggilfpjaa
