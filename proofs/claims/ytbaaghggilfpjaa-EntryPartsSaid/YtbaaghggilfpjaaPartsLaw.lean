/-
  EntryParts: it returns true.
-/
import Derived.Test.YtbaaghggilfpjaaWakes
import Derived.Test.YtbaaghggilfpjaaRNext
import Derived.Test.YtbaaghggilfpjaaDrawA
import Derived.Test.YtbaaghggilfpjaaLev
import Derived.RegionTactic
import Derived.BigRegion
import Derived.Deep.DeepCutAuto
namespace Go.Proofs.Ytbaaghggilfpjaa
open Go.RowKit Go.Maps

/-- The same but for the index, which is one more, and the term. -/
def Alike (t u : StP) : Prop := u.sm = t.sm ∧ u.lv = t.lv ∧ u.fn = t.fn ∧ u.ix = t.ix + 1
theorem does_alike {t u : StP} {k v : Int} (h : Alike t u) : Alike (doesP t k v) (doesP u k v) := by
  obtain ⟨a, b, c, d⟩ := h
  unfold doesP Alike
  by_cases k1 : k = 1
  · rw [if_pos k1, if_pos k1]; exact ⟨by dsimp only; rw [a], b, c, d⟩
  rw [if_neg k1, if_neg k1]
  by_cases k2 : k = 2
  · rw [if_pos k2, if_pos k2]; exact ⟨a, rfl, c, d⟩
  rw [if_neg k2, if_neg k2]
  by_cases k3 : k = 3
  · rw [if_pos k3, if_pos k3, c]
    split
    · exact ⟨a, b, c, d⟩
    · exact ⟨a, rfl, rfl, d⟩
  rw [if_neg k3, if_neg k3]
  by_cases k4 : k = 4
  · rw [if_pos k4, if_pos k4, b]; exact ⟨a, rfl, rfl, d⟩
  rw [if_neg k4, if_neg k4]
  exact ⟨a, b, c, d⟩
theorem next_ix (s : StP) (e : EnP) : (nextP s e).ix ≤ s.ix + 1 ∧ s.ix ≤ (nextP s e).ix := by
  by_cases h : GoesP s e
  · rw [next_yes h, (does_ix _ _ _).1]; dsimp only; omega
  · rw [next_no h]; omega
theorem next_alike {t u : StP} {e : EnP} (ht : FineP t) (hu : FineP u) (h : Alike t u) (hi : t.ix < 1073741823) : Alike (nextP t e) (nextP u e) := by
  have hx := h.2.2.2
  by_cases hr : RightP e
  · rw [next_yes ⟨ht, hr, by omega⟩, next_yes ⟨hu, hr, by omega⟩]
    exact does_alike ⟨h.1, h.2.1, h.2.2.1, by dsimp only; omega⟩
  · rw [next_no (fun g => hr g.2.1), next_no (fun g => hr g.2.1)]
    exact h
theorem all_ix (s : StP) (l : List EnP) : (allP s l).ix ≤ s.ix + l.length ∧ s.ix ≤ (allP s l).ix := by
  unfold allP
  induction l generalizing s with
  | nil => simp
  | cons e l ih =>
    have h1 := next_ix s e
    have h2 := ih (nextP s e)
    simp only [List.foldl_cons, List.length_cons]
    omega
theorem all_alike : ∀ (l : List EnP) (t u : StP), FineP t → FineP u → Alike t u → t.ix + l.length < 1073741823 → Alike (allP t l) (allP u l) := by
  intro l
  induction l with
  | nil => intro t u _ _ h _; exact h
  | cons e l ih =>
    intro t u ht hu h hi
    simp only [List.length_cons] at hi
    have h1 := next_ix t e
    exact ih _ _ (next_fine ht) (next_fine hu) (next_alike ht hu h (by omega)) (by omega)
/-- A noop between two parts. -/
theorem noop_between {s : StP} {l m : List EnP} {t : Int} (hs : FineP s) (hx : s.ix ≤ 1073741624) (hl : l.length ≤ 50) (hm : m.length ≤ 50) (ht : 1 ≤ t ∧ t ≤ 1073741824) :
    Alike (allP s (l ++ m)) (allP (nextP (allP s l) ⟨t, 0, 0⟩) m) := by
  have h1 := all_ix s l
  have h2 := all_fine l hs
  rw [all_append]
  refine all_alike m _ _ h2 (next_fine h2) ?_ (by omega)
  rw [next_yes ⟨h2, right_first ht, by omega⟩, does_0]
  exact ⟨rfl, rfl, rfl, rfl⟩

theorem boxS_longer {W W' : World} {z n m base : Nat} {s : StP} {v v' : Value} {xs ys : List Value} (h : BoxS W z s) (ho : W.ownsRow base 25 3 v n xs) (hL : Longer base 25 3 W v m ys v' W') : BoxS W' z s := by
  refine (hL.2.1.block z h.lt (fun e => ?_)).trans h
  rcases ho.2 with ⟨rfl, _⟩ | ⟨g, cap, cur, rfl, _, hg, _⟩
  · cases e
  · simp only [Value.ownBlock, Option.some.injEq] at e
    subst e
    rw [show W.heap[z]? = _ from h] at hg
    cases hg
theorem info_entry : (Try.prog.info? 25).map (fun i => (i.zero, i.size, i.bytes)) = some (some (.agg #[.int .i64 0, .int .i64 0, .int .i64 0]), 3, 24) := by kernel_rfl
theorem max2_run {P : Program} (a b : Int) : ∃ m : Int, (∀ ts t w, (Builtin.max_ ts t #[.int .i64 a, .int .i64 b]).run P w = .ok (.int .i64 m) w) ∧ a ≤ m ∧ b ≤ m ∧ (m = a ∨ m = b) := by
  refine ⟨_, fun ts t w => by simp [Builtin.max_, Builtin.max2]; rfl, ?_⟩
  split <;> omega

set_option maxRecDepth 100000 in
set_option maxHeartbeats 4000000 in
theorem parts_law (s : StP) (A : Option Addr) (n c : Nat) (l : List EnP) (A2 : Option Addr) (n2 c2 : Nat) (m : List EnP) (t : Int) (w : World) (hl : Es w w.heap.size A n l) (hm : Es w w.heap.size A2 n2 m) :
    Calls Try.prog 6 #[s.v, .slice A n c, .slice A2 n2 c2, .int .i64 t] w fun e w' => e = .returned (.bool true) ∧ Below w.heap.size w w' := by
  obtain ⟨ie, hie, hze0, hze1, hze2⟩ := info_partsV info_entry
  have Hl := Lib.hid hl
  have Hll := Lib.hid hl.len
  have Hm := Lib.hid hm
  have Hml := Lib.hid hm.len
  clear hl hm
  unfold StP.v
  go_enter Try.func6, Try.ntmps6
  by_cases hn : 50 < n
  · have t0 : decide ((50 : Int) < (n : Int)) = true := by simp; omega
    go_wp2_with fail
    refine (wakes_true _).mono ?_
    rintro e w1 ⟨rfl, hb1⟩
    go_wp2_with fail
    go_ret
    exact ⟨rfl, below_on (below_al (below_d0 w) _) hb1⟩
  have t0 : decide ((50 : Int) < (n : Int)) = false := by simp; omega
  by_cases hn2 : 50 < n2
  · have t1 : decide ((50 : Int) < (n2 : Int)) = true := by simp; omega
    go_wp2_with fail
    refine (wakes_true _).mono ?_
    rintro e w1 ⟨rfl, hb1⟩
    go_wp2_with fail
    go_ret
    exact ⟨rfl, below_on (below_al (below_d0 w) _) hb1⟩
  have t1 : decide ((50 : Int) < (n2 : Int)) = false := by simp; omega
  go_wp2_with fail
  obtain ⟨z, hz⟩ : ∃ z, z = w.heap.size := ⟨_, rfl⟩
  obtain ⟨w0, hw0⟩ : ∃ w0, w0 = w.alloc (.cells #[.int .i64 s.ix, .int .i64 s.tm, .int .i64 s.sm, .int .i64 s.lv, .bool s.fn] 23) := ⟨_, rfl⟩
  have hB0 : Below w.heap.size w w0 := by rw [hw0]; exact (Below.refl _ _).alloc (Nat.le_refl _) _
  have bs0 : BoxS w0 z s := by rw [hw0, hz]; exact BoxS.new w s
  rw [← hw0, ← hz]
  clear hw0 hz
  refine (rfine_any s w0).mono ?_
  rintro e wr ⟨rfl, hb1⟩
  have bs1 := bs0.below hb1
  have hB1 := below_on hB0 hb1
  clear hb1 hB0 bs0
  obtain ⟨k0, k1, k2, k3, k4⟩ := bs1.cells
  cases hf : fineB s with
  | false =>
    go_wp2_with fail
    refine (wakes_true _).mono ?_
    rintro e w2 ⟨rfl, hb2⟩
    go_wp2_with fail
    go_ret
    exact ⟨rfl, below_on hB1 hb2⟩
  | true =>
  have HF := Lib.hid (fineB_iff.1 hf)
  clear hf
  by_cases hx : (1073741624 : Int) < s.ix
  · have t2 : decide ((1073741624 : Int) < s.ix) = true := by simpa using hx
    go_wp2_with fail
    refine (wakes_true _).mono ?_
    rintro e w2 ⟨rfl, hb2⟩
    go_wp2_with fail
    go_ret
    exact ⟨rfl, below_on hB1 hb2⟩
  have t2 : decide ((1073741624 : Int) < s.ix) = false := by simpa using hx
  have Hx := Lib.hid (show s.ix ≤ 1073741624 by omega)
  have hl1 := Hl.out.on hB1 hB1.size
  have hm1 := Hm.out.on hB1 hB1.size
  obtain ⟨X, hX⟩ : ∃ X, X = allP s (l ++ m) := ⟨_, rfl⟩
  obtain ⟨N, hN⟩ : ∃ N, n + n2 = N := ⟨_, rfl⟩
  have HN := Lib.hid hN
  clear hN
  have HX := Lib.hid hX
  have HL := Lib.hid (show ∀ W, Below wr.heap.size wr W → Source W 3 A n (l.flatMap EnP.cs) from fun W hW => Row.source (by omega) EnP.len EnP.one (hl1.on hW hW.size))
  have HM := Lib.hid (show ∀ W, Below wr.heap.size wr W → Source W 3 A2 n2 (m.flatMap EnP.cs) from fun W hW => Row.source (by omega) EnP.len EnP.one (hm1.on hW hW.size))
  have HAll := Lib.hid (show ∀ (W : World) (A5 : Option Addr) (c5 : Nat), W.ownsRow wr.heap.size 25 3 (.slice A5 N c5) N ((l ++ m).flatMap EnP.cs) → Calls Try.prog 17 #[.agg #[.int .i64 s.ix, .int .i64 s.tm, .int .i64 s.sm, .int .i64 s.lv, .bool s.fn], .slice A5 N c5] W (Does W X) from fun W A5 c5 ho => by
    rw [HX.out]
    exact all_any s A5 N c5 (l ++ m) W (Row.of_own (by omega) EnP.len ho) (by have := HN.out; omega))
  have X0 := Lib.hid (show ∀ W, Below wr.heap.size wr W → BoxS W z s from fun W hW => bs1.below hW)
  have HB1 := Lib.hid (⟨hB1, hl1, hm1⟩ : _ ∧ _ ∧ _)
  clear hX bs1 hB1 hx hl1 hm1
  go_upto_region 3 with fail
  go_cut [9] (fun s9 wx => ∃ zA, s9 = .pointer (some ⟨zA, 0, none⟩) ∧ wr.heap.size ≤ zA ∧ BoxS wx zA X ∧ Below wr.heap.size wr wx)
  case first =>
    refine wp_region_held_drew (S := (fun W => Below wr.heap.size wr W)) (by kernel_rfl) (below_dr (below_d0 _)) (fun hHeld => ?_)
    have kb : Below wr.heap.size wr wr.drew := below_dr (below_d0 wr)
    obtain ⟨wq0, hW⟩ : ∃ x, x = wr.drew := ⟨_, rfl⟩
    rw [← hW] at kb hHeld ⊢
    clear hW
    refine take_at (i := 0) (d := 31) (oi := ?o1) (v := ?v1) ?hi1 ?hd1 (by kernel_rfl) (by kernel_rfl) (by kernel_rfl) ?hw1 ?hy1 ?hq1 (by assumption) ?r1
    case hi1 => (simp only [List.getElem?_toArray, List.getElem?_cons_zero]; rfl)
    case hd1 => rfl
    case hw1 => rfl
    case hy1 => ((intro w hSw; (try dsimp only at hSw); obtain ⟨k0, k1, k2, k3, k4⟩ := (X0.out _ hSw).cells; go_simp) <;> (with_reducible rfl))
    case hq1 => exact fun _ _ _ h => h
    simp only [List.set_cons_succ, List.set_cons_zero]
    refine take_at (i := 2) (d := 33) (oi := ?o2) (v := ?v2) ?hi2 ?hd2 (by kernel_rfl) (by kernel_rfl) (by kernel_rfl) ?hw2 ?hy2 ?hq2 (by assumption) ?r2
    case hi2 => (simp only [List.getElem?_toArray, List.getElem?_cons_succ, List.getElem?_cons_zero]; rfl)
    case hd2 => rfl
    case hw2 => rfl
    case hy2 => ((intro w hSw; (try dsimp only at hSw); go_simp) <;> (with_reducible rfl))
    case hq2 => exact fun _ _ _ h => h
    simp only [List.set_cons_succ, List.set_cons_zero]
    refine take_at (i := 4) (d := 35) (oi := ?o3) (v := ?v3) ?hi3 ?hd3 (by kernel_rfl) (by kernel_rfl) (by kernel_rfl) ?hw3 ?hy3 ?hq3 (by assumption) ?r3
    case hi3 => (simp only [List.getElem?_toArray, List.getElem?_cons_succ, List.getElem?_cons_zero]; rfl)
    case hd3 => rfl
    case hw3 => rfl
    case hy3 => ((intro w hSw; (try dsimp only at hSw); go_simp) <;> (with_reducible rfl))
    case hq3 => exact fun _ _ _ h => h
    simp only [List.set_cons_succ, List.set_cons_zero]
    refine wpAnyH_ready (rs := [1, 7]) (by kernel_rfl) (by simp) ?_
    apply two_ready
    · skip
      obtain ⟨zG, hzG⟩ : ∃ z, z = wq0.heap.size := ⟨_, rfl⟩
      obtain ⟨wq1, hWn⟩ : ∃ x, x = wq0.alloc (.cells #[] 25) := ⟨_, rfl⟩
      have hb : Below wq0.heap.size wq0 wq1 := by rw [hWn]; exact below_al (below_d0 _) _
      have ow : wq1.ownsRow wr.heap.size 25 3 (.slice (some ⟨zG, 0, none⟩) 0 0) 0 [] := by rw [hWn]; exact own_emptyG hzG kb.size
      refine br_val (i := 1) (d := 32) (oi := ?o4) (v := .slice (some ⟨zG, 0, none⟩) 0 0) (w' := wq1) ?hi4 ?hd4 ?hw4 ?he4 (below_on kb hb) ?hc4
      case hi4 => (simp only [List.getElem?_toArray, List.getElem?_cons_succ, List.getElem?_cons_zero]; rfl)
      case hd4 => rfl
      case hw4 => rfl
      case he4 => (rw [hzG, hWn]; go_simp)
      replace kb := below_on kb hb
      have own := ow
      clear hHeld hb hWn hzG ow
      intro hHeld
      simp only [List.set_cons_succ, List.set_cons_zero]
      refine wpAnyH_ready (rs := [3, 7]) (by kernel_rfl) (by simp) ?_
      apply two_ready
      · skip
        refine br_append (c := c) (i := 3) (d := 34) (oi := ?o5) (.tmp 32) (.tmp 33) Try.underlying26 hie hze0 hze1 hze2 (by rfl) (by omega) own (HL.out wq1 kb) (by unfold maxLen; omega) (by omega) kb.size ?hi5 ?hd5 ?hw5 ?ho5 ?hs5 ?hx5 ?hc5
        case hi5 => (simp only [List.getElem?_toArray, List.getElem?_cons_succ, List.getElem?_cons_zero]; rfl)
        case hd5 => rfl
        case hw5 => rfl
        case ho5 => rfl
        case hs5 => rfl
        case hx5 => rfl
        intro v3 wq2 L3
        have kb2 : Below wr.heap.size wr wq2 := L3.below kb kb.size (fun g hg => (own.lt g hg).1)
        replace own : wq2.ownsRow wr.heap.size 25 3 v3 n (l.flatMap EnP.cs) := by have h := L3.1; rwa [Nat.zero_add, List.nil_append] at h
        clear hHeld kb L3
        have kb := kb2
        clear kb2
        refine ⟨kb, fun hHeld => ?_⟩
        simp only [List.set_cons_succ, List.set_cons_zero]
        refine wpAnyH_ready (rs := [5, 7]) (by kernel_rfl) (by simp) ?_
        apply two_ready
        · skip
          refine br_append (c := c2) (i := 5) (d := 36) (oi := ?o6) (.tmp 34) (.tmp 35) Try.underlying26 hie hze0 hze1 hze2 (by rfl) (by omega) own (HM.out wq2 kb) (by unfold maxLen; omega) (by omega) kb.size ?hi6 ?hd6 ?hw6 ?ho6 ?hs6 ?hx6 ?hc6
          case hi6 => (simp only [List.getElem?_toArray, List.getElem?_cons_succ, List.getElem?_cons_zero]; rfl)
          case hd6 => rfl
          case hw6 => rfl
          case ho6 => rfl
          case hs6 => rfl
          case hx6 => rfl
          intro v5 wq3 L5
          have kb2 : Below wr.heap.size wr wq3 := L5.below kb kb.size (fun g hg => (own.lt g hg).1)
          replace own : wq3.ownsRow wr.heap.size 25 3 v5 N ((l ++ m).flatMap EnP.cs) := by have h := L5.1; rwa [HN.out, ← List.flatMap_append] at h
          clear hHeld kb L5
          have kb := kb2
          clear kb2
          refine ⟨kb, fun hHeld => ?_⟩
          simp only [List.set_cons_succ, List.set_cons_zero]
          refine wpAnyH_ready (rs := [6, 7]) (by kernel_rfl) (by simp) ?_
          apply two_ready
          · skip
            obtain ⟨A5, c5, rfl, _⟩ := own_slice own
            refine br_call (i := 6) (d := 37) (oi := ?o7) (f := ?f7) (args := ?a7) ?hi7 ?hd7 ?hw7 ?he7 ?hc7
            case hi7 => (simp only [List.getElem?_toArray, List.getElem?_cons_succ, List.getElem?_cons_zero]; rfl)
            case hd7 => rfl
            case hw7 => rfl
            case he7 => (go_simp; constructor <;> with_reducible rfl)
            with_reducible refine Calls.mono (HAll.out wq3 A5 c5 own) ?_
            rintro r wq4 ⟨rfl, hb⟩
            unfold StP.v
            replace kb := below_on kb hb
            clear hHeld hb own
            refine ⟨_, rfl, kb, fun hHeld => ?_⟩
            simp only [List.set_cons_succ, List.set_cons_zero]
            refine wpAnyH_ready (rs := [7]) (by kernel_rfl) (by simp) ?_
            obtain ⟨zA, hzA⟩ : ∃ z, z = wq4.heap.size := ⟨_, rfl⟩
            obtain ⟨wq5, hWn⟩ : ∃ x, x = wq4.alloc (.cells #[.int .i64 0, .int .i64 0, .int .i64 0, .int .i64 0, .bool false] 23) := ⟨_, rfl⟩
            have hb : Below wq4.heap.size wq4 wq5 := by rw [hWn]; exact below_al (below_d0 _) _
            have loA : wr.heap.size ≤ zA := by rw [hzA]; exact kb.size
            have bn : BoxS wq5 zA ⟨0, 0, 0, 0, false⟩ := by rw [hWn, hzA]; exact BoxS.new wq4 ⟨0, 0, 0, 0, false⟩
            refine br_val (i := 7) (d := 9) (oi := ?o8) (v := .pointer (some ⟨zA, 0, none⟩)) (w' := wq5) ?hi8 ?hd8 ?hw8 ?he8 (below_on kb hb) ?hc8
            case hi8 => (simp only [List.getElem?_toArray, List.getElem?_cons_succ, List.getElem?_cons_zero]; rfl)
            case hd8 => rfl
            case hw8 => rfl
            case he8 => (rw [hzA, hWn]; go_simp)
            replace kb := below_on kb hb
            have bx := bn
            clear hHeld hb hWn hzA bn
            intro hHeld
            simp only [List.set_cons_succ, List.set_cons_zero]
            obtain ⟨p0, p1, p2, p3, p4⟩ := bx.cells
            obtain ⟨r0, r1, r2, r3, r4⟩ := bx.frozen
            have kb2 := putS_below kb loA X
            refine wpAnyH_ready (rs := [8]) (by kernel_rfl) (by simp) ?_
            refine br_store (i := 8) (oi := ?o9) (w' := putS wq5 zA X) ?hi9 ?hd9 ?hw9 ?he9 kb2 ?hc9
            case hi9 => (simp only [List.getElem?_toArray, List.getElem?_cons_succ, List.getElem?_cons_zero]; rfl)
            case hd9 => rfl
            case hw9 => rfl
            case he9 => (go_simp; rfl)
            intro hHeld
            refine wpAnyH_done (by kernel_rfl) ?_ _
            clear p0 p1 p2 p3 p4 r0 r1 r2 r3 r4
            go_wp2_with fail
            go_meet
            exact ⟨zA, rfl, loA, putS_box bx X, kb2⟩
          obtain ⟨zA, hzA⟩ : ∃ z, z = wq3.heap.size := ⟨_, rfl⟩
          obtain ⟨wq6, hWn⟩ : ∃ x, x = wq3.alloc (.cells #[.int .i64 0, .int .i64 0, .int .i64 0, .int .i64 0, .bool false] 23) := ⟨_, rfl⟩
          have hb : Below wq3.heap.size wq3 wq6 := by rw [hWn]; exact below_al (below_d0 _) _
          have loA : wr.heap.size ≤ zA := by rw [hzA]; exact kb.size
          have bn : BoxS wq6 zA ⟨0, 0, 0, 0, false⟩ := by rw [hWn, hzA]; exact BoxS.new wq3 ⟨0, 0, 0, 0, false⟩
          refine br_val (i := 7) (d := 9) (oi := ?o10) (v := .pointer (some ⟨zA, 0, none⟩)) (w' := wq6) ?hi10 ?hd10 ?hw10 ?he10 (below_on kb hb) ?hc10
          case hi10 => (simp only [List.getElem?_toArray, List.getElem?_cons_succ, List.getElem?_cons_zero]; rfl)
          case hd10 => rfl
          case hw10 => rfl
          case he10 => (rw [hzA, hWn]; go_simp)
          replace kb := below_on kb hb
          replace own := own_below own hb
          have bx := bn
          clear hHeld hb hWn hzA bn
          intro hHeld
          simp only [List.set_cons_succ, List.set_cons_zero]
          refine wpAnyH_ready (rs := [6]) (by kernel_rfl) (by simp) ?_
          obtain ⟨A5, c5, rfl, _⟩ := own_slice own
          refine br_call (i := 6) (d := 37) (oi := ?o11) (f := ?f11) (args := ?a11) ?hi11 ?hd11 ?hw11 ?he11 ?hc11
          case hi11 => (simp only [List.getElem?_toArray, List.getElem?_cons_succ, List.getElem?_cons_zero]; rfl)
          case hd11 => rfl
          case hw11 => rfl
          case he11 => (go_simp; constructor <;> with_reducible rfl)
          with_reducible refine Calls.mono (HAll.out wq6 A5 c5 own) ?_
          rintro r wq7 ⟨rfl, hb⟩
          unfold StP.v
          replace kb := below_on kb hb
          replace bx := BoxS.below bx hb
          clear hHeld hb own
          refine ⟨_, rfl, kb, fun hHeld => ?_⟩
          simp only [List.set_cons_succ, List.set_cons_zero]
          obtain ⟨p0, p1, p2, p3, p4⟩ := bx.cells
          obtain ⟨r0, r1, r2, r3, r4⟩ := bx.frozen
          have kb2 := putS_below kb loA X
          refine wpAnyH_ready (rs := [8]) (by kernel_rfl) (by simp) ?_
          refine br_store (i := 8) (oi := ?o12) (w' := putS wq7 zA X) ?hi12 ?hd12 ?hw12 ?he12 kb2 ?hc12
          case hi12 => (simp only [List.getElem?_toArray, List.getElem?_cons_succ, List.getElem?_cons_zero]; rfl)
          case hd12 => rfl
          case hw12 => rfl
          case he12 => (go_simp; rfl)
          intro hHeld
          refine wpAnyH_done (by kernel_rfl) ?_ _
          clear p0 p1 p2 p3 p4 r0 r1 r2 r3 r4
          go_wp2_with fail
          go_meet
          exact ⟨zA, rfl, loA, putS_box bx X, kb2⟩
        obtain ⟨zA, hzA⟩ : ∃ z, z = wq2.heap.size := ⟨_, rfl⟩
        obtain ⟨wq8, hWn⟩ : ∃ x, x = wq2.alloc (.cells #[.int .i64 0, .int .i64 0, .int .i64 0, .int .i64 0, .bool false] 23) := ⟨_, rfl⟩
        have hb : Below wq2.heap.size wq2 wq8 := by rw [hWn]; exact below_al (below_d0 _) _
        have loA : wr.heap.size ≤ zA := by rw [hzA]; exact kb.size
        have bn : BoxS wq8 zA ⟨0, 0, 0, 0, false⟩ := by rw [hWn, hzA]; exact BoxS.new wq2 ⟨0, 0, 0, 0, false⟩
        refine br_val (i := 7) (d := 9) (oi := ?o13) (v := .pointer (some ⟨zA, 0, none⟩)) (w' := wq8) ?hi13 ?hd13 ?hw13 ?he13 (below_on kb hb) ?hc13
        case hi13 => (simp only [List.getElem?_toArray, List.getElem?_cons_succ, List.getElem?_cons_zero]; rfl)
        case hd13 => rfl
        case hw13 => rfl
        case he13 => (rw [hzA, hWn]; go_simp)
        replace kb := below_on kb hb
        replace own := own_below own hb
        have bx := bn
        clear hHeld hb hWn hzA bn
        intro hHeld
        simp only [List.set_cons_succ, List.set_cons_zero]
        refine wpAnyH_ready (rs := [5]) (by kernel_rfl) (by simp) ?_
        refine br_append (c := c2) (i := 5) (d := 36) (oi := ?o14) (.tmp 34) (.tmp 35) Try.underlying26 hie hze0 hze1 hze2 (by rfl) (by omega) own (HM.out wq8 kb) (by unfold maxLen; omega) (by omega) kb.size ?hi14 ?hd14 ?hw14 ?ho14 ?hs14 ?hx14 ?hc14
        case hi14 => (simp only [List.getElem?_toArray, List.getElem?_cons_succ, List.getElem?_cons_zero]; rfl)
        case hd14 => rfl
        case hw14 => rfl
        case ho14 => rfl
        case hs14 => rfl
        case hx14 => rfl
        intro v5 wq9 L5
        have kb2 : Below wr.heap.size wr wq9 := L5.below kb kb.size (fun g hg => (own.lt g hg).1)
        replace bx := boxS_longer bx own L5
        replace own : wq9.ownsRow wr.heap.size 25 3 v5 N ((l ++ m).flatMap EnP.cs) := by have h := L5.1; rwa [HN.out, ← List.flatMap_append] at h
        clear hHeld kb L5
        have kb := kb2
        clear kb2
        refine ⟨kb, fun hHeld => ?_⟩
        simp only [List.set_cons_succ, List.set_cons_zero]
        refine wpAnyH_ready (rs := [6]) (by kernel_rfl) (by simp) ?_
        obtain ⟨A5, c5, rfl, _⟩ := own_slice own
        refine br_call (i := 6) (d := 37) (oi := ?o15) (f := ?f15) (args := ?a15) ?hi15 ?hd15 ?hw15 ?he15 ?hc15
        case hi15 => (simp only [List.getElem?_toArray, List.getElem?_cons_succ, List.getElem?_cons_zero]; rfl)
        case hd15 => rfl
        case hw15 => rfl
        case he15 => (go_simp; constructor <;> with_reducible rfl)
        with_reducible refine Calls.mono (HAll.out wq9 A5 c5 own) ?_
        rintro r wq10 ⟨rfl, hb⟩
        unfold StP.v
        replace kb := below_on kb hb
        replace bx := BoxS.below bx hb
        clear hHeld hb own
        refine ⟨_, rfl, kb, fun hHeld => ?_⟩
        simp only [List.set_cons_succ, List.set_cons_zero]
        obtain ⟨p0, p1, p2, p3, p4⟩ := bx.cells
        obtain ⟨r0, r1, r2, r3, r4⟩ := bx.frozen
        have kb2 := putS_below kb loA X
        refine wpAnyH_ready (rs := [8]) (by kernel_rfl) (by simp) ?_
        refine br_store (i := 8) (oi := ?o16) (w' := putS wq10 zA X) ?hi16 ?hd16 ?hw16 ?he16 kb2 ?hc16
        case hi16 => (simp only [List.getElem?_toArray, List.getElem?_cons_succ, List.getElem?_cons_zero]; rfl)
        case hd16 => rfl
        case hw16 => rfl
        case he16 => (go_simp; rfl)
        intro hHeld
        refine wpAnyH_done (by kernel_rfl) ?_ _
        clear p0 p1 p2 p3 p4 r0 r1 r2 r3 r4
        go_wp2_with fail
        go_meet
        exact ⟨zA, rfl, loA, putS_box bx X, kb2⟩
      obtain ⟨zA, hzA⟩ : ∃ z, z = wq1.heap.size := ⟨_, rfl⟩
      obtain ⟨wq11, hWn⟩ : ∃ x, x = wq1.alloc (.cells #[.int .i64 0, .int .i64 0, .int .i64 0, .int .i64 0, .bool false] 23) := ⟨_, rfl⟩
      have hb : Below wq1.heap.size wq1 wq11 := by rw [hWn]; exact below_al (below_d0 _) _
      have loA : wr.heap.size ≤ zA := by rw [hzA]; exact kb.size
      have bn : BoxS wq11 zA ⟨0, 0, 0, 0, false⟩ := by rw [hWn, hzA]; exact BoxS.new wq1 ⟨0, 0, 0, 0, false⟩
      refine br_val (i := 7) (d := 9) (oi := ?o17) (v := .pointer (some ⟨zA, 0, none⟩)) (w' := wq11) ?hi17 ?hd17 ?hw17 ?he17 (below_on kb hb) ?hc17
      case hi17 => (simp only [List.getElem?_toArray, List.getElem?_cons_succ, List.getElem?_cons_zero]; rfl)
      case hd17 => rfl
      case hw17 => rfl
      case he17 => (rw [hzA, hWn]; go_simp)
      replace kb := below_on kb hb
      replace own := own_below own hb
      have bx := bn
      clear hHeld hb hWn hzA bn
      intro hHeld
      simp only [List.set_cons_succ, List.set_cons_zero]
      refine wpAnyH_ready (rs := [3]) (by kernel_rfl) (by simp) ?_
      refine br_append (c := c) (i := 3) (d := 34) (oi := ?o18) (.tmp 32) (.tmp 33) Try.underlying26 hie hze0 hze1 hze2 (by rfl) (by omega) own (HL.out wq11 kb) (by unfold maxLen; omega) (by omega) kb.size ?hi18 ?hd18 ?hw18 ?ho18 ?hs18 ?hx18 ?hc18
      case hi18 => (simp only [List.getElem?_toArray, List.getElem?_cons_succ, List.getElem?_cons_zero]; rfl)
      case hd18 => rfl
      case hw18 => rfl
      case ho18 => rfl
      case hs18 => rfl
      case hx18 => rfl
      intro v3 wq12 L3
      have kb2 : Below wr.heap.size wr wq12 := L3.below kb kb.size (fun g hg => (own.lt g hg).1)
      replace bx := boxS_longer bx own L3
      replace own : wq12.ownsRow wr.heap.size 25 3 v3 n (l.flatMap EnP.cs) := by have h := L3.1; rwa [Nat.zero_add, List.nil_append] at h
      clear hHeld kb L3
      have kb := kb2
      clear kb2
      refine ⟨kb, fun hHeld => ?_⟩
      simp only [List.set_cons_succ, List.set_cons_zero]
      refine wpAnyH_ready (rs := [5]) (by kernel_rfl) (by simp) ?_
      refine br_append (c := c2) (i := 5) (d := 36) (oi := ?o19) (.tmp 34) (.tmp 35) Try.underlying26 hie hze0 hze1 hze2 (by rfl) (by omega) own (HM.out wq12 kb) (by unfold maxLen; omega) (by omega) kb.size ?hi19 ?hd19 ?hw19 ?ho19 ?hs19 ?hx19 ?hc19
      case hi19 => (simp only [List.getElem?_toArray, List.getElem?_cons_succ, List.getElem?_cons_zero]; rfl)
      case hd19 => rfl
      case hw19 => rfl
      case ho19 => rfl
      case hs19 => rfl
      case hx19 => rfl
      intro v5 wq13 L5
      have kb2 : Below wr.heap.size wr wq13 := L5.below kb kb.size (fun g hg => (own.lt g hg).1)
      replace bx := boxS_longer bx own L5
      replace own : wq13.ownsRow wr.heap.size 25 3 v5 N ((l ++ m).flatMap EnP.cs) := by have h := L5.1; rwa [HN.out, ← List.flatMap_append] at h
      clear hHeld kb L5
      have kb := kb2
      clear kb2
      refine ⟨kb, fun hHeld => ?_⟩
      simp only [List.set_cons_succ, List.set_cons_zero]
      refine wpAnyH_ready (rs := [6]) (by kernel_rfl) (by simp) ?_
      obtain ⟨A5, c5, rfl, _⟩ := own_slice own
      refine br_call (i := 6) (d := 37) (oi := ?o20) (f := ?f20) (args := ?a20) ?hi20 ?hd20 ?hw20 ?he20 ?hc20
      case hi20 => (simp only [List.getElem?_toArray, List.getElem?_cons_succ, List.getElem?_cons_zero]; rfl)
      case hd20 => rfl
      case hw20 => rfl
      case he20 => (go_simp; constructor <;> with_reducible rfl)
      with_reducible refine Calls.mono (HAll.out wq13 A5 c5 own) ?_
      rintro r wq14 ⟨rfl, hb⟩
      unfold StP.v
      replace kb := below_on kb hb
      replace bx := BoxS.below bx hb
      clear hHeld hb own
      refine ⟨_, rfl, kb, fun hHeld => ?_⟩
      simp only [List.set_cons_succ, List.set_cons_zero]
      obtain ⟨p0, p1, p2, p3, p4⟩ := bx.cells
      obtain ⟨r0, r1, r2, r3, r4⟩ := bx.frozen
      have kb2 := putS_below kb loA X
      refine wpAnyH_ready (rs := [8]) (by kernel_rfl) (by simp) ?_
      refine br_store (i := 8) (oi := ?o21) (w' := putS wq14 zA X) ?hi21 ?hd21 ?hw21 ?he21 kb2 ?hc21
      case hi21 => (simp only [List.getElem?_toArray, List.getElem?_cons_succ, List.getElem?_cons_zero]; rfl)
      case hd21 => rfl
      case hw21 => rfl
      case he21 => (go_simp; rfl)
      intro hHeld
      refine wpAnyH_done (by kernel_rfl) ?_ _
      clear p0 p1 p2 p3 p4 r0 r1 r2 r3 r4
      go_wp2_with fail
      go_meet
      exact ⟨zA, rfl, loA, putS_box bx X, kb2⟩
    obtain ⟨zA, hzA⟩ : ∃ z, z = wq0.heap.size := ⟨_, rfl⟩
    obtain ⟨wq15, hWn⟩ : ∃ x, x = wq0.alloc (.cells #[.int .i64 0, .int .i64 0, .int .i64 0, .int .i64 0, .bool false] 23) := ⟨_, rfl⟩
    have hb : Below wq0.heap.size wq0 wq15 := by rw [hWn]; exact below_al (below_d0 _) _
    have loA : wr.heap.size ≤ zA := by rw [hzA]; exact kb.size
    have bn : BoxS wq15 zA ⟨0, 0, 0, 0, false⟩ := by rw [hWn, hzA]; exact BoxS.new wq0 ⟨0, 0, 0, 0, false⟩
    refine br_val (i := 7) (d := 9) (oi := ?o22) (v := .pointer (some ⟨zA, 0, none⟩)) (w' := wq15) ?hi22 ?hd22 ?hw22 ?he22 (below_on kb hb) ?hc22
    case hi22 => (simp only [List.getElem?_toArray, List.getElem?_cons_succ, List.getElem?_cons_zero]; rfl)
    case hd22 => rfl
    case hw22 => rfl
    case he22 => (rw [hzA, hWn]; go_simp)
    replace kb := below_on kb hb
    have bx := bn
    clear hHeld hb hWn hzA bn
    intro hHeld
    simp only [List.set_cons_succ, List.set_cons_zero]
    refine wpAnyH_ready (rs := [1]) (by kernel_rfl) (by simp) ?_
    obtain ⟨zG, hzG⟩ : ∃ z, z = wq15.heap.size := ⟨_, rfl⟩
    obtain ⟨wq16, hWn⟩ : ∃ x, x = wq15.alloc (.cells #[] 25) := ⟨_, rfl⟩
    have hb : Below wq15.heap.size wq15 wq16 := by rw [hWn]; exact below_al (below_d0 _) _
    have ow : wq16.ownsRow wr.heap.size 25 3 (.slice (some ⟨zG, 0, none⟩) 0 0) 0 [] := by rw [hWn]; exact own_emptyG hzG kb.size
    refine br_val (i := 1) (d := 32) (oi := ?o23) (v := .slice (some ⟨zG, 0, none⟩) 0 0) (w' := wq16) ?hi23 ?hd23 ?hw23 ?he23 (below_on kb hb) ?hc23
    case hi23 => (simp only [List.getElem?_toArray, List.getElem?_cons_succ, List.getElem?_cons_zero]; rfl)
    case hd23 => rfl
    case hw23 => rfl
    case he23 => (rw [hzG, hWn]; go_simp)
    replace kb := below_on kb hb
    replace bx := BoxS.below bx hb
    have own := ow
    clear hHeld hb hWn hzG ow
    intro hHeld
    simp only [List.set_cons_succ, List.set_cons_zero]
    refine wpAnyH_ready (rs := [3]) (by kernel_rfl) (by simp) ?_
    refine br_append (c := c) (i := 3) (d := 34) (oi := ?o24) (.tmp 32) (.tmp 33) Try.underlying26 hie hze0 hze1 hze2 (by rfl) (by omega) own (HL.out wq16 kb) (by unfold maxLen; omega) (by omega) kb.size ?hi24 ?hd24 ?hw24 ?ho24 ?hs24 ?hx24 ?hc24
    case hi24 => (simp only [List.getElem?_toArray, List.getElem?_cons_succ, List.getElem?_cons_zero]; rfl)
    case hd24 => rfl
    case hw24 => rfl
    case ho24 => rfl
    case hs24 => rfl
    case hx24 => rfl
    intro v3 wq17 L3
    have kb2 : Below wr.heap.size wr wq17 := L3.below kb kb.size (fun g hg => (own.lt g hg).1)
    replace bx := boxS_longer bx own L3
    replace own : wq17.ownsRow wr.heap.size 25 3 v3 n (l.flatMap EnP.cs) := by have h := L3.1; rwa [Nat.zero_add, List.nil_append] at h
    clear hHeld kb L3
    have kb := kb2
    clear kb2
    refine ⟨kb, fun hHeld => ?_⟩
    simp only [List.set_cons_succ, List.set_cons_zero]
    refine wpAnyH_ready (rs := [5]) (by kernel_rfl) (by simp) ?_
    refine br_append (c := c2) (i := 5) (d := 36) (oi := ?o25) (.tmp 34) (.tmp 35) Try.underlying26 hie hze0 hze1 hze2 (by rfl) (by omega) own (HM.out wq17 kb) (by unfold maxLen; omega) (by omega) kb.size ?hi25 ?hd25 ?hw25 ?ho25 ?hs25 ?hx25 ?hc25
    case hi25 => (simp only [List.getElem?_toArray, List.getElem?_cons_succ, List.getElem?_cons_zero]; rfl)
    case hd25 => rfl
    case hw25 => rfl
    case ho25 => rfl
    case hs25 => rfl
    case hx25 => rfl
    intro v5 wq18 L5
    have kb2 : Below wr.heap.size wr wq18 := L5.below kb kb.size (fun g hg => (own.lt g hg).1)
    replace bx := boxS_longer bx own L5
    replace own : wq18.ownsRow wr.heap.size 25 3 v5 N ((l ++ m).flatMap EnP.cs) := by have h := L5.1; rwa [HN.out, ← List.flatMap_append] at h
    clear hHeld kb L5
    have kb := kb2
    clear kb2
    refine ⟨kb, fun hHeld => ?_⟩
    simp only [List.set_cons_succ, List.set_cons_zero]
    refine wpAnyH_ready (rs := [6]) (by kernel_rfl) (by simp) ?_
    obtain ⟨A5, c5, rfl, _⟩ := own_slice own
    refine br_call (i := 6) (d := 37) (oi := ?o26) (f := ?f26) (args := ?a26) ?hi26 ?hd26 ?hw26 ?he26 ?hc26
    case hi26 => (simp only [List.getElem?_toArray, List.getElem?_cons_succ, List.getElem?_cons_zero]; rfl)
    case hd26 => rfl
    case hw26 => rfl
    case he26 => (go_simp; constructor <;> with_reducible rfl)
    with_reducible refine Calls.mono (HAll.out wq18 A5 c5 own) ?_
    rintro r wq19 ⟨rfl, hb⟩
    unfold StP.v
    replace kb := below_on kb hb
    replace bx := BoxS.below bx hb
    clear hHeld hb own
    refine ⟨_, rfl, kb, fun hHeld => ?_⟩
    simp only [List.set_cons_succ, List.set_cons_zero]
    obtain ⟨p0, p1, p2, p3, p4⟩ := bx.cells
    obtain ⟨r0, r1, r2, r3, r4⟩ := bx.frozen
    have kb2 := putS_below kb loA X
    refine wpAnyH_ready (rs := [8]) (by kernel_rfl) (by simp) ?_
    refine br_store (i := 8) (oi := ?o27) (w' := putS wq19 zA X) ?hi27 ?hd27 ?hw27 ?he27 kb2 ?hc27
    case hi27 => (simp only [List.getElem?_toArray, List.getElem?_cons_succ, List.getElem?_cons_zero]; rfl)
    case hd27 => rfl
    case hw27 => rfl
    case he27 => (go_simp; rfl)
    intro hHeld
    refine wpAnyH_done (by kernel_rfl) ?_ _
    clear p0 p1 p2 p3 p4 r0 r1 r2 r3 r4
    go_wp2_with fail
    go_meet
    exact ⟨zA, rfl, loA, putS_box bx X, kb2⟩
  case rest =>
    obtain ⟨zA, rfl, hzA, bA, hbc⟩ := hcut
    obtain ⟨w2, rfl⟩ : ∃ w2, w2 = wc := ⟨_, rfl⟩
    have hnn : n ≤ 140737488355328 := by omega
    have hnn2 : n2 ≤ 140737488355328 := by omega
    obtain ⟨hB1, hl1, hm1⟩ := HB1.out
    have hB2 := below_on hB1 hbc
    have hl2 := hl1.on hbc hbc.size
    have hm2 := hm1.on hbc hbc.size
    have bs2 := X0.out _ hbc
    have Hz := Lib.hid (⟨hzA, bA, hB2, hl2, hm2, bs2⟩ : _ ∧ _ ∧ _ ∧ _ ∧ _ ∧ _)
    clear hB1 hl1 hm1 hbc hzA bA hB2 hl2 hm2 k0 k1 k2 k3 k4 HB1 HL HM HAll X0 hie hze0 hze1 hze2
    obtain ⟨k0, k1, k2, k3, k4⟩ := bs2.cells
    clear bs2
    obtain ⟨Y, hY0⟩ : ∃ Y, Y = allP s l := ⟨_, rfl⟩
    have HY := Lib.hid hY0
    clear hY0
    have hX2 : allP Y m = X := by rw [HY.out, HX.out, all_append]
    have HX2 := Lib.hid hX2
    clear hX2
    go_wp2_with fail
    have hA1 := all_any s A n c l w2 Hz.out.2.2.2.1 hnn
    rw [← HY.out] at hA1
    refine hA1.mono ?_
    rintro e w3 ⟨rfl, hb3⟩
    clear hA1
    unfold StP.v
    clear k0 k1 k2 k3 k4
    go_wp2_with fail
    have hA2 := all_any Y A2 n2 c2 m w3 (Es.on Hz.out.2.2.2.2.1 hb3 hb3.size) hnn2
    rw [HX2.out] at hA2
    refine hA2.mono ?_
    clear hA2
    rintro e w4 ⟨rfl, hb4⟩
    unfold StP.v
    have hb24 := below_on hb3 hb4
    clear hb3 hb4
    obtain ⟨y, hy⟩ : ∃ y, y = w4.heap.size := ⟨_, rfl⟩
    obtain ⟨w5, hw5⟩ : ∃ w5, w5 = w4.alloc (.cells #[.int .i64 X.ix, .int .i64 X.tm, .int .i64 X.sm, .int .i64 X.lv, .bool X.fn] 23) := ⟨_, rfl⟩
    have by5 : BoxS w5 y X := by rw [hw5, hy]; exact BoxS.new w4 X
    have hb25 : Below w2.heap.size w2 w5 := by rw [hw5]; exact below_al hb24 _
    have b5 := Hz.out.2.2.2.2.2.below hb25
    obtain ⟨k0, k1, k2, k3, k4⟩ := b5.cells
    rw [hw5, ] at k0 k1 k2 k3 k4
    go_wp2_with fail
    rw [← hw5, ← hy]
    have hA3 := all_any s A n c l w5 (Es.on Hz.out.2.2.2.1 hb25 hb25.size) hnn
    rw [← HY.out] at hA3
    refine hA3.mono ?_
    rintro e w6 ⟨rfl, hb6⟩
    clear hA3
    unfold StP.v
    have hb26 := below_on hb25 hb6
    have by6 := by5.below hb6
    obtain ⟨tt, hmx, hm3, hm4, hm5⟩ := max2_run (P := Try.prog) t 1
    clear k0 k1 k2 k3 k4 hw5 hy hb24 b5 by5 hb25 hb6
    go_wp2_with fail
    obtain ⟨N', hN⟩ : ∃ N', N' = nextP Y ⟨tt, 0, 0⟩ := ⟨_, rfl⟩
    have hA5 := next_any Y ⟨tt, 0, 0⟩ w6
    rw [← hN] at hA5
    have HN2 := Lib.hid hN
    clear hN
    refine hA5.mono ?_
    rintro e w7 ⟨rfl, hb7⟩
    clear hA5
    unfold StP.v
    have hb27 := below_on hb26 hb7
    have by7 := by6.below hb7
    clear hb26 by6 hb7
    go_wp2_with fail
    obtain ⟨Z, hZ⟩ : ∃ Z, Z = allP N' m := ⟨_, rfl⟩
    have hA4 := all_any N' A2 n2 c2 m w7 (Es.on Hz.out.2.2.2.2.1 hb27 hb27.size) hnn2
    rw [← hZ] at hA4
    have HZ := Lib.hid hZ
    clear hZ
    refine hA4.mono ?_
    rintro e w8 ⟨rfl, hb8⟩
    clear hA4
    unfold StP.v
    have hb28 := below_on hb27 hb8
    have by8 := by7.below hb8
    clear hb27 by7 hb8
    obtain ⟨q, hq⟩ : ∃ q, q = w8.heap.size := ⟨_, rfl⟩
    obtain ⟨w9, hw9⟩ : ∃ w9, w9 = w8.alloc (.cells #[.int .i64 Z.ix, .int .i64 Z.tm, .int .i64 Z.sm, .int .i64 Z.lv, .bool Z.fn] 23) := ⟨_, rfl⟩
    have bq9 : BoxS w9 q Z := by rw [hw9, hq]; exact BoxS.new w8 Z
    have hb89 : Below w8.heap.size w8 w9 := by rw [hw9]; exact below_al (below_d0 _) _
    have by9 := by8.below hb89
    have bA9 := Hz.out.2.1.below (below_on hb28 hb89)
    have hB9 := below_on Hz.out.2.2.1 (below_on hb28 hb89)
    have H9 := Lib.hid (⟨bq9, by9, bA9, hB9⟩ : _ ∧ _ ∧ _ ∧ _)
    have heql : ∀ w, (binOp .eql 23 (.agg #[.int .i64 X.ix, .int .i64 X.tm, .int .i64 X.sm, .int .i64 X.lv, .bool X.fn]) (.agg #[.int .i64 X.ix, .int .i64 X.tm, .int .i64 X.sm, .int .i64 X.lv, .bool X.fn])).run Try.prog w = .ok (.bool true) w := fun w => (eql_st X X w).trans (by rw [decide_eq_true rfl])
    have hal : t ≤ 1073741824 → Alike X Z := fun ht => by
      have h1 := noop_between HF.out Hx.out (l := l) (m := m) (by rw [Hll.out]; omega) (by rw [Hml.out]; omega) (show 1 ≤ tt ∧ tt ≤ 1073741824 by omega)
      rw [← HY.out, ← HN2.out, ← HZ.out, ← HX.out] at h1
      exact h1
    have hix : X.ix ≤ 1073741824 ∧ 0 ≤ X.ix := by
      have h1 := all_ix s (l ++ m)
      have h2 := HF.out.1
      have h3 := Hx.out
      rw [← HX.out, List.length_append, Hll.out, Hml.out] at h1
      omega
    clear hb28 by8 bq9 hb89 by9 bA9 hB9 HX2 HY HN2 HZ Hz
    by_cases ht : (1073741824 : Int) < t
    · have tt1 : decide ((1073741824 : Int) < t) = true := by simpa using ht
      clear hal ht
      go_upto_region 7 with fail
      rw [← hw9, ← hq]
      clear hw9 hq
      obtain ⟨k0, k1, k2, k3, k4⟩ := H9.out.2.1.cells
      obtain ⟨c0, c1, c2, c3, c4⟩ := H9.out.2.2.1.cells
      go_wp2_with fail
      refine (wakes_true _).mono ?_
      rintro e wz ⟨rfl, hbz⟩
      go_wp2_with fail
      go_ret
      exact ⟨rfl, below_on H9.out.2.2.2 hbz⟩
    · have tt1 : decide ((1073741824 : Int) < t) = false := by simpa using ht
      obtain ⟨h1, h2, h3, h4⟩ := hal (by omega)
      have e1 : (Z.sm == X.sm) = true := by simpa using h1
      have e2 : (Z.lv == X.lv) = true := by simpa using h2
      have e3 : (Z.fn == X.fn) = true := by simpa using h3
      have e4 : IntKind.i64.wrap (X.ix + 1) = Z.ix := by rw [IntKind.wrap_i64]; omega
      clear hal ht h1 h2 h3 h4
      go_upto_region 8 with fail
      rw [← hw9, ← hq]
      clear hw9 hq
      obtain ⟨k0, k1, k2, k3, k4⟩ := H9.out.2.1.cells
      obtain ⟨c0, c1, c2', c3, c4⟩ := H9.out.2.2.1.cells
      obtain ⟨d0, d1, d2, d3, d4⟩ := H9.out.1.cells
      go_wp2_with fail
      refine (wakes_true _).mono ?_
      rintro e wz ⟨rfl, hbz⟩
      go_wp2_with fail
      go_ret
      exact ⟨rfl, below_on H9.out.2.2.2 hbz⟩

end Go.Proofs.Ytbaaghggilfpjaa
