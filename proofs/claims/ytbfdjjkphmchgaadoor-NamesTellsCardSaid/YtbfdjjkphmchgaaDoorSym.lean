/-
  slices.symMergeCmpFunc at idents, by their order: its contract.
-/
import Derived.Test.YtbfdjjkphmchgaaDoorSrt
import Derived.Test.YtbfdjjkphmchgaaDoorDraw
namespace Go.Proofs.YtbfdjjkphmchgaaDoor
open Go.RowKit Go.Sort
set_option linter.unusedVariables false
set_option linter.unusedSimpArgs false

/-- In order: not above. -/
def LEo (x y : IdP) : Prop := ¬ LessP y x
theorem LEo.trans (x y z : IdP) (h : LEo x y) (h' : LEo y z) : LEo x z := by
  unfold LEo LessP at *
  omega
theorem LEo.of_less {x y : IdP} (h : LessP x y) : LEo x y := by
  unfold LEo LessP at *
  omega
theorem LEo.anti (x y : IdP) (h : LEo x y) (h' : LEo y x) : x = y := by
  unfold LEo LessP at *
  exact IdP.ext_ (by omega) (by omega) (by omega)
theorem half_val {i j : Nat} (h : i + j ≤ 100000) : ∃ k : Nat, k = (i + j) / 2 := ⟨_, rfl⟩

/-- What is asked of a merge. -/
def Merged (base g n c : Nat) (w : World) (X A B Y : List IdP) (e : Ending) (w' : World) : Prop :=
  e = .returned (.tuple #[]) ∧ (∃ d', Srt w' base g n c d' ∧ ∃ C, d'.toList = X ++ (C ++ Y) ∧ Sym.Ord LEo C ∧ C.Perm (A ++ B)) ∧ Below base w w'

set_option maxRecDepth 100000 in
set_option maxHeartbeats 8000000 in
theorem sym_left (base g n c : Nat) (d : Array IdP) (a m b : Nat) (w : World) (X B Y : List IdP) (x : IdP) (hs : Srt w base g n c d) (hn : n ≤ 1000) (hd : d.toList = X ++ ((x :: B) ++ Y)) (ha : X.length = a) (hm : a + 1 = m) (hb : m + B.length = b) (hB : Sym.Ord LEo B) :
    Calls Tryd.prog 43 #[.slice (some ⟨g, 0, none⟩) n c, .int .i64 (a : Int), .int .i64 (m : Int), .int .i64 (b : Int), .func (.func 28) #[] #[]] w (Merged base g n c w X [x] B Y) := by
  have hbn : b ≤ n := by
    have h1 := congrArg List.length hd
    rw [Array.length_toList, hs.1] at h1
    simp only [List.length_append, List.length_cons] at h1
    omega
  have hw1 : IntKind.i64.wrap ((m : Int) - (a : Int)) = 1 := by rw [IntKind.wrap_i64] <;> omega
  have hdx : d[a]! = x := Sym.bang_of (by rw [hd, ← ha, List.getElem?_append_right (Nat.le_refl _), Nat.sub_self]; rfl)
  have hdB : ∀ k y, B[k]? = some y → d[m + k]! = y := fun k y hy => Sym.bang_of (by
    have hk := (List.getElem?_eq_some_iff.1 hy).1
    rw [hd, List.getElem?_append_right (by omega), ha, show m + k - a = k + 1 by omega, List.cons_append, List.getElem?_cons_succ, List.getElem?_append_left hk, hy])
  have HD := Lib.hid (⟨hs, hd, ha, hm, hb, hB, hdx, hdB, hbn⟩ : _ ∧ _ ∧ _ ∧ _ ∧ _ ∧ _ ∧ _ ∧ _ ∧ _)
  have hg := hs.lt
  have hb1000 : b ≤ 1000 ∧ m ≤ b ∧ a < n := by omega
  clear hs hd ha hm hb hB hdx hdB hbn
  go_enter Tryd.func43, Tryd.ntmps43
  go_wp2_with fail
  clear hw1
  go_loopw [10, 11] (fun iv jv wr => ∃ i j : Nat, iv = .int .i64 (i : Int) ∧ jv = .int .i64 (j : Int) ∧ m ≤ i ∧ i ≤ j ∧ j ≤ b ∧ (i = m ∨ LessP d[i - 1]! x) ∧ (j = b ∨ ¬ LessP d[j]! x) ∧ Below w.heap.size w wr) (fun iv jv _ => (intOf jv).toNat - (intOf iv).toNat)
  case atStart => exact ⟨m, b, rfl, rfl, Nat.le_refl _, hb1000.2.1, Nat.le_refl _, .inl rfl, .inl rfl, Below.refl _ _⟩
  obtain ⟨i, j, rfl, rfl, hmi, hij, hjb, hl, hr, hB⟩ := hrel
  by_cases hlt : i < j
  · obtain ⟨h, hh⟩ : ∃ h, h = (i + j) / 2 := ⟨_, rfl⟩
    have hs := HD.out.1.on hB
    have hhn : h < n := by have := HD.out.2.2.2.2.2.2.2.2; omega
    obtain ⟨y, hy⟩ : ∃ y, d[h]! = y := ⟨_, rfl⟩
    obtain ⟨k0, k1, k2⟩ := hs.cells hhn
    obtain ⟨m0, m1, m2⟩ := hs.cells hb1000.2.2
    rw [hy] at k0 k1 k2
    rw [HD.out.2.2.2.2.2.2.1] at m0 m1 m2
    have hgl : g < wr.heap.size := hs.lt.2
    have HI := Lib.hid (⟨hl, hr, hB, hy⟩ : _ ∧ _ ∧ _ ∧ _)
    have hhv : ((i : Int) + (j : Int)) / 2 = (h : Int) := by omega
    have hhr : i ≤ h ∧ h < j := by omega
    have Hh := Lib.hid hh
    clear hl hr hB hy hs hh
    by_cases hless : orderP y x < 0
    · have hLs := (less_iff y x).1 hless
      have tl : decide (orderP y x < 0) = true := decide_eq_true hless
      go_wp2_with fail
      refine wp_region_held_drew (S := (fun W => Below wr.heap.size wr W)) (by kernel_rfl) (below_dr (below_d0 _)) (fun hHeld => ?_)
      refine take_at (i := 0) (d := 40) (oi := ?o1) (v := ?v1) ?hi1 ?hd1 (by kernel_rfl) (by kernel_rfl) (by kernel_rfl) ?hw1 ?hy1 ?hq1 (by assumption) ?r1
      case hi1 => (simp only [List.getElem?_toArray, List.getElem?_cons_zero]; rfl)
      case hd1 => rfl
      case hw1 => rfl
      case hy1 => ((intro w hSw; (try dsimp only at hSw); go_simp) <;> (with_reducible rfl))
      case hq1 => exact fun _ _ _ h => h
      simp only [List.set_cons_succ, List.set_cons_zero]
      refine take_at (i := 1) (d := 41) (oi := ?o2) (v := ?v2) ?hi2 ?hd2 (by kernel_rfl) (by kernel_rfl) (by kernel_rfl) ?hw2 ?hy2 ?hq2 (by assumption) ?r2
      case hi2 => (simp only [List.getElem?_toArray, List.getElem?_cons_succ, List.getElem?_cons_zero]; rfl)
      case hd2 => rfl
      case hw2 => rfl
      case hy2 => ((intro w hSw; (try dsimp only at hSw); go_simp) <;> (with_reducible rfl))
      case hq2 => exact fun _ _ _ h => h
      simp only [List.set_cons_succ, List.set_cons_zero]
      refine take_at (i := 2) (d := 42) (oi := ?o3) (v := ?v3) ?hi3 ?hd3 (by kernel_rfl) (by kernel_rfl) (by kernel_rfl) ?hw3 ?hy3 ?hq3 (by assumption) ?r3
      case hi3 => (simp only [List.getElem?_toArray, List.getElem?_cons_succ, List.getElem?_cons_zero]; rfl)
      case hd3 => rfl
      case hw3 => rfl
      case hy3 => ((intro w hSw; (try dsimp only at hSw); go_simp) <;> (with_reducible rfl))
      case hq3 => exact fun _ _ _ h => h
      simp only [List.set_cons_succ, List.set_cons_zero]
      refine take_at (i := 3) (d := 43) (oi := ?o4) (v := ?v4) ?hi4 ?hd4 (by kernel_rfl) (by kernel_rfl) (by kernel_rfl) ?hw4 ?hy4 ?hq4 (by assumption) ?r4
      case hi4 => (simp only [List.getElem?_toArray, List.getElem?_cons_succ, List.getElem?_cons_zero]; rfl)
      case hd4 => rfl
      case hw4 => rfl
      case hy4 => ((intro w hSw; (try dsimp only at hSw); go_simp) <;> (with_reducible rfl))
      case hq4 => exact fun _ _ _ h => h
      simp only [List.set_cons_succ, List.set_cons_zero]
      refine take_at (i := 4) (d := 44) (oi := ?o5) (v := ?v5) ?hi5 ?hd5 (by kernel_rfl) (by kernel_rfl) (by kernel_rfl) ?hw5 ?hy5 ?hq5 (by assumption) ?r5
      case hi5 => (simp only [List.getElem?_toArray, List.getElem?_cons_succ, List.getElem?_cons_zero]; rfl)
      case hd5 => rfl
      case hw5 => rfl
      case hy5 => ((intro w hSw; (try dsimp only at hSw); have q0 := (Below.cell hSw (p := ⟨g, h * 3, none⟩) hgl).trans k0; have q1 := (Below.cell hSw (p := ⟨g, h * 3 + 1, none⟩) hgl).trans k1; have q2 := (Below.cell hSw (p := ⟨g, h * 3 + 2, none⟩) hgl).trans k2; clear hSw; go_simp) <;> (with_reducible rfl))
      case hq5 => exact fun _ _ _ h => h
      simp only [List.set_cons_succ, List.set_cons_zero]
      refine take_at (i := 5) (d := 45) (oi := ?o6) (v := ?v6) ?hi6 ?hd6 (by kernel_rfl) (by kernel_rfl) (by kernel_rfl) ?hw6 ?hy6 ?hq6 (by assumption) ?r6
      case hi6 => (simp only [List.getElem?_toArray, List.getElem?_cons_succ, List.getElem?_cons_zero]; rfl)
      case hd6 => rfl
      case hw6 => rfl
      case hy6 => ((intro w hSw; (try dsimp only at hSw); go_simp) <;> (with_reducible rfl))
      case hq6 => exact fun _ _ _ h => h
      simp only [List.set_cons_succ, List.set_cons_zero]
      refine take_at (i := 6) (d := 46) (oi := ?o7) (v := ?v7) ?hi7 ?hd7 (by kernel_rfl) (by kernel_rfl) (by kernel_rfl) ?hw7 ?hy7 ?hq7 (by assumption) ?r7
      case hi7 => (simp only [List.getElem?_toArray, List.getElem?_cons_succ, List.getElem?_cons_zero]; rfl)
      case hd7 => rfl
      case hw7 => rfl
      case hy7 => ((intro w hSw; (try dsimp only at hSw); go_simp) <;> (with_reducible rfl))
      case hq7 => exact fun _ _ _ h => h
      simp only [List.set_cons_succ, List.set_cons_zero]
      refine take_at (i := 7) (d := 47) (oi := ?o8) (v := ?v8) ?hi8 ?hd8 (by kernel_rfl) (by kernel_rfl) (by kernel_rfl) ?hw8 ?hy8 ?hq8 (by assumption) ?r8
      case hi8 => (simp only [List.getElem?_toArray, List.getElem?_cons_succ, List.getElem?_cons_zero]; rfl)
      case hd8 => rfl
      case hw8 => rfl
      case hy8 => ((intro w hSw; (try dsimp only at hSw); go_simp) <;> (with_reducible rfl))
      case hq8 => exact fun _ _ _ h => h
      simp only [List.set_cons_succ, List.set_cons_zero]
      refine take_at (i := 8) (d := 48) (oi := ?o9) (v := ?v9) ?hi9 ?hd9 (by kernel_rfl) (by kernel_rfl) (by kernel_rfl) ?hw9 ?hy9 ?hq9 (by assumption) ?r9
      case hi9 => (simp only [List.getElem?_toArray, List.getElem?_cons_succ, List.getElem?_cons_zero]; rfl)
      case hd9 => rfl
      case hw9 => rfl
      case hy9 => ((intro w hSw; (try dsimp only at hSw); have q0 := (Below.cell hSw (p := ⟨g, a * 3, none⟩) hgl).trans m0; have q1 := (Below.cell hSw (p := ⟨g, a * 3 + 1, none⟩) hgl).trans m1; have q2 := (Below.cell hSw (p := ⟨g, a * 3 + 2, none⟩) hgl).trans m2; clear hSw; go_simp) <;> (with_reducible rfl))
      case hq9 => exact fun _ _ _ h => h
      simp only [List.set_cons_succ, List.set_cons_zero]
      refine call_at (i := 9) (d := 49) (oi := ?o10) (f := ?f10) (args := ?a10) ?hi10 ?hd10 (by kernel_rfl) ?hw10 ?he10 ?hc10
      case hi10 => (simp only [List.getElem?_toArray, List.getElem?_cons_succ, List.getElem?_cons_zero]; rfl)
      case hd10 => rfl
      case hw10 => rfl
      case he10 => (go_simp; constructor <;> with_reducible rfl)
      refine (order_any y x _).mono ?_
      rintro r wv ⟨rfl, hb1⟩
      have kb : Below wr.heap.size wr wv := hHeld.trans (hb1.mono hHeld.size)
      refine ⟨_, rfl, kb, fun hHeld => ?_⟩
      simp only [List.set_cons_succ, List.set_cons_zero]
      refine take_at (i := 10) (d := 50) (oi := ?o11) (v := ?v11) ?hi11 ?hd11 (by kernel_rfl) (by kernel_rfl) (by kernel_rfl) ?hw11 ?hy11 ?hq11 (by assumption) ?r11
      case hi11 => (simp only [List.getElem?_toArray, List.getElem?_cons_succ, List.getElem?_cons_zero]; rfl)
      case hd11 => rfl
      case hw11 => rfl
      case hy11 => ((intro w hSw; (try dsimp only at hSw); go_simp) <;> (with_reducible rfl))
      case hq11 => exact fun _ _ _ h => h
      simp only [List.set_cons_succ, List.set_cons_zero]
      refine wpAnyH_done (by kernel_rfl) ?_ _
      clear k0 k1 k2 m0 m1 m2
      go_wp2_with fail
      go_roundw
      case rel => exact ⟨h + 1, j, by go_num, rfl, by omega, by omega, hjb, .inr (by rw [Nat.add_sub_cancel, HI.out.2.2.2]; exact hLs), HI.out.2.1, HI.out.2.2.1.trans (hHeld.mono HI.out.2.2.1.size)⟩
      case measure => simp [intOf]; omega
    · have hLs : ¬ LessP y x := fun h => hless ((less_iff y x).2 h)
      have tl : decide (orderP y x < 0) = false := decide_eq_false hless
      go_wp2_with fail
      refine wp_region_held_drew (S := (fun W => Below wr.heap.size wr W)) (by kernel_rfl) (below_dr (below_d0 _)) (fun hHeld => ?_)
      refine take_at (i := 0) (d := 40) (oi := ?o12) (v := ?v12) ?hi12 ?hd12 (by kernel_rfl) (by kernel_rfl) (by kernel_rfl) ?hw12 ?hy12 ?hq12 (by assumption) ?r12
      case hi12 => (simp only [List.getElem?_toArray, List.getElem?_cons_zero]; rfl)
      case hd12 => rfl
      case hw12 => rfl
      case hy12 => ((intro w hSw; (try dsimp only at hSw); go_simp) <;> (with_reducible rfl))
      case hq12 => exact fun _ _ _ h => h
      simp only [List.set_cons_succ, List.set_cons_zero]
      refine take_at (i := 1) (d := 41) (oi := ?o13) (v := ?v13) ?hi13 ?hd13 (by kernel_rfl) (by kernel_rfl) (by kernel_rfl) ?hw13 ?hy13 ?hq13 (by assumption) ?r13
      case hi13 => (simp only [List.getElem?_toArray, List.getElem?_cons_succ, List.getElem?_cons_zero]; rfl)
      case hd13 => rfl
      case hw13 => rfl
      case hy13 => ((intro w hSw; (try dsimp only at hSw); go_simp) <;> (with_reducible rfl))
      case hq13 => exact fun _ _ _ h => h
      simp only [List.set_cons_succ, List.set_cons_zero]
      refine take_at (i := 2) (d := 42) (oi := ?o14) (v := ?v14) ?hi14 ?hd14 (by kernel_rfl) (by kernel_rfl) (by kernel_rfl) ?hw14 ?hy14 ?hq14 (by assumption) ?r14
      case hi14 => (simp only [List.getElem?_toArray, List.getElem?_cons_succ, List.getElem?_cons_zero]; rfl)
      case hd14 => rfl
      case hw14 => rfl
      case hy14 => ((intro w hSw; (try dsimp only at hSw); go_simp) <;> (with_reducible rfl))
      case hq14 => exact fun _ _ _ h => h
      simp only [List.set_cons_succ, List.set_cons_zero]
      refine take_at (i := 3) (d := 43) (oi := ?o15) (v := ?v15) ?hi15 ?hd15 (by kernel_rfl) (by kernel_rfl) (by kernel_rfl) ?hw15 ?hy15 ?hq15 (by assumption) ?r15
      case hi15 => (simp only [List.getElem?_toArray, List.getElem?_cons_succ, List.getElem?_cons_zero]; rfl)
      case hd15 => rfl
      case hw15 => rfl
      case hy15 => ((intro w hSw; (try dsimp only at hSw); go_simp) <;> (with_reducible rfl))
      case hq15 => exact fun _ _ _ h => h
      simp only [List.set_cons_succ, List.set_cons_zero]
      refine take_at (i := 4) (d := 44) (oi := ?o16) (v := ?v16) ?hi16 ?hd16 (by kernel_rfl) (by kernel_rfl) (by kernel_rfl) ?hw16 ?hy16 ?hq16 (by assumption) ?r16
      case hi16 => (simp only [List.getElem?_toArray, List.getElem?_cons_succ, List.getElem?_cons_zero]; rfl)
      case hd16 => rfl
      case hw16 => rfl
      case hy16 => ((intro w hSw; (try dsimp only at hSw); have q0 := (Below.cell hSw (p := ⟨g, h * 3, none⟩) hgl).trans k0; have q1 := (Below.cell hSw (p := ⟨g, h * 3 + 1, none⟩) hgl).trans k1; have q2 := (Below.cell hSw (p := ⟨g, h * 3 + 2, none⟩) hgl).trans k2; clear hSw; go_simp) <;> (with_reducible rfl))
      case hq16 => exact fun _ _ _ h => h
      simp only [List.set_cons_succ, List.set_cons_zero]
      refine take_at (i := 5) (d := 45) (oi := ?o17) (v := ?v17) ?hi17 ?hd17 (by kernel_rfl) (by kernel_rfl) (by kernel_rfl) ?hw17 ?hy17 ?hq17 (by assumption) ?r17
      case hi17 => (simp only [List.getElem?_toArray, List.getElem?_cons_succ, List.getElem?_cons_zero]; rfl)
      case hd17 => rfl
      case hw17 => rfl
      case hy17 => ((intro w hSw; (try dsimp only at hSw); go_simp) <;> (with_reducible rfl))
      case hq17 => exact fun _ _ _ h => h
      simp only [List.set_cons_succ, List.set_cons_zero]
      refine take_at (i := 6) (d := 46) (oi := ?o18) (v := ?v18) ?hi18 ?hd18 (by kernel_rfl) (by kernel_rfl) (by kernel_rfl) ?hw18 ?hy18 ?hq18 (by assumption) ?r18
      case hi18 => (simp only [List.getElem?_toArray, List.getElem?_cons_succ, List.getElem?_cons_zero]; rfl)
      case hd18 => rfl
      case hw18 => rfl
      case hy18 => ((intro w hSw; (try dsimp only at hSw); go_simp) <;> (with_reducible rfl))
      case hq18 => exact fun _ _ _ h => h
      simp only [List.set_cons_succ, List.set_cons_zero]
      refine take_at (i := 7) (d := 47) (oi := ?o19) (v := ?v19) ?hi19 ?hd19 (by kernel_rfl) (by kernel_rfl) (by kernel_rfl) ?hw19 ?hy19 ?hq19 (by assumption) ?r19
      case hi19 => (simp only [List.getElem?_toArray, List.getElem?_cons_succ, List.getElem?_cons_zero]; rfl)
      case hd19 => rfl
      case hw19 => rfl
      case hy19 => ((intro w hSw; (try dsimp only at hSw); go_simp) <;> (with_reducible rfl))
      case hq19 => exact fun _ _ _ h => h
      simp only [List.set_cons_succ, List.set_cons_zero]
      refine take_at (i := 8) (d := 48) (oi := ?o20) (v := ?v20) ?hi20 ?hd20 (by kernel_rfl) (by kernel_rfl) (by kernel_rfl) ?hw20 ?hy20 ?hq20 (by assumption) ?r20
      case hi20 => (simp only [List.getElem?_toArray, List.getElem?_cons_succ, List.getElem?_cons_zero]; rfl)
      case hd20 => rfl
      case hw20 => rfl
      case hy20 => ((intro w hSw; (try dsimp only at hSw); have q0 := (Below.cell hSw (p := ⟨g, a * 3, none⟩) hgl).trans m0; have q1 := (Below.cell hSw (p := ⟨g, a * 3 + 1, none⟩) hgl).trans m1; have q2 := (Below.cell hSw (p := ⟨g, a * 3 + 2, none⟩) hgl).trans m2; clear hSw; go_simp) <;> (with_reducible rfl))
      case hq20 => exact fun _ _ _ h => h
      simp only [List.set_cons_succ, List.set_cons_zero]
      refine call_at (i := 9) (d := 49) (oi := ?o21) (f := ?f21) (args := ?a21) ?hi21 ?hd21 (by kernel_rfl) ?hw21 ?he21 ?hc21
      case hi21 => (simp only [List.getElem?_toArray, List.getElem?_cons_succ, List.getElem?_cons_zero]; rfl)
      case hd21 => rfl
      case hw21 => rfl
      case he21 => (go_simp; constructor <;> with_reducible rfl)
      refine (order_any y x _).mono ?_
      rintro r wv ⟨rfl, hb1⟩
      have kb : Below wr.heap.size wr wv := hHeld.trans (hb1.mono hHeld.size)
      refine ⟨_, rfl, kb, fun hHeld => ?_⟩
      simp only [List.set_cons_succ, List.set_cons_zero]
      refine take_at (i := 10) (d := 50) (oi := ?o22) (v := ?v22) ?hi22 ?hd22 (by kernel_rfl) (by kernel_rfl) (by kernel_rfl) ?hw22 ?hy22 ?hq22 (by assumption) ?r22
      case hi22 => (simp only [List.getElem?_toArray, List.getElem?_cons_succ, List.getElem?_cons_zero]; rfl)
      case hd22 => rfl
      case hw22 => rfl
      case hy22 => ((intro w hSw; (try dsimp only at hSw); go_simp) <;> (with_reducible rfl))
      case hq22 => exact fun _ _ _ h => h
      simp only [List.set_cons_succ, List.set_cons_zero]
      refine wpAnyH_done (by kernel_rfl) ?_ _
      clear k0 k1 k2 m0 m1 m2
      go_wp2_with fail
      go_roundw
      case rel => exact ⟨i, h, rfl, rfl, hmi, by omega, by omega, HI.out.1, .inr (by rw [HI.out.2.2.2]; exact hLs), HI.out.2.2.1.trans (hHeld.mono HI.out.2.2.1.size)⟩
      case measure => simp [intOf]; omega
  · obtain rfl : i = j := by omega
    have hs := HD.out.1.on hB
    have hBb : Below base w wr := hB.mono (Nat.le_of_lt (Nat.lt_of_le_of_lt HD.out.1.lt.1 HD.out.1.lt.2))
    have HI := Lib.hid (⟨hl, hr, hs, hBb⟩ : _ ∧ _ ∧ _ ∧ _)
    have hwi : IntKind.i64.wrap ((i : Int) - 1) = (i : Int) - 1 := by rw [IntKind.wrap_i64] <;> omega
    clear hl hr hs hB hBb
    go_wp2_with fail
    have him : m ≤ i ∧ i ≤ b := ⟨hmi, hjb⟩
    go_loopw [13] (fun kv wk => ∃ (p k : Nat) (dk : Array IdP), kv = .int .i64 (p : Int) ∧ p = a + k ∧ k ≤ i - m ∧ Srt wk base g n c dk ∧ dk.toList = X ++ (Sym.carried x B k ++ Y) ∧ Below base w wk) (fun kv _ => i - (intOf kv).toNat)
    case atStart => exact ⟨a, 0, d, rfl, rfl, Nat.zero_le _, HI.out.2.2.1, by rw [Sym.carried_zero]; exact HD.out.2.1, HI.out.2.2.2⟩
    obtain ⟨p, k, dk, rfl, hp, hk, hsk, hdk, hBk⟩ := hrel
    have hma := HD.out.2.2.2.1
    have hmB := HD.out.2.2.2.2.1
    have hbn := HD.out.2.2.2.2.2.2.2.2
    by_cases hpi : p + 1 < i
    · have hpi1 : (p : Int) < (i : Int) - 1 := by omega
      have hpi2 : decide ((p : Int) < (i : Int) - 1) = true := by simp; omega
      obtain ⟨p1, hp1⟩ : ∃ k, k = p + 1 := ⟨_, rfl⟩
      have hw1 : IntKind.i64.wrap ((p : Int) + 1) = (p1 : Int) := by rw [IntKind.wrap_i64] <;> omega
      have hn1 : p < n := by omega
      have hn2 : p1 < n := by omega
      have HQ := Lib.hid (show a + k = p ∧ a + (k + 1) = p1 ∧ k < B.length ∧ k + 1 ≤ i - m by omega)
      have hpp : p < p1 ∧ p1 < i := by omega
      clear hp hp1 hma hmB hbn hk him
      obtain ⟨vx, hvx⟩ : ∃ v, dk[p]! = v := ⟨_, rfl⟩
      obtain ⟨vy, hvy⟩ : ∃ v, dk[p1]! = v := ⟨_, rfl⟩
      obtain ⟨k0, k1, k2⟩ := hsk.cells hn1
      obtain ⟨m0, m1, m2⟩ := hsk.cells hn2
      rw [hvx] at k0 k1 k2
      rw [hvy] at m0 m1 m2
      have f0 := hsk.frozen (p * 3)
      have f1 := hsk.frozen (p * 3 + 1)
      have f2 := hsk.frozen (p * 3 + 2)
      have hs1 := hsk.put hn1 vy
      obtain ⟨p0, p1', p2⟩ := hs1.cells hn2
      have q0 := hs1.frozen (p1 * 3)
      have q1 := hs1.frozen (p1 * 3 + 1)
      have q2 := hs1.frozen (p1 * 3 + 2)
      unfold putI at p0 p1' p2 q0 q1 q2
      have HS := Lib.hid (⟨hsk, hdk, hBk, hvx, hvy⟩ : _ ∧ _ ∧ _ ∧ _ ∧ _)
      clear hsk hdk hBk hvx hvy hs1
      go_wp2_with fail
      go_region
      go_wp2_with fail
      go_roundw
      case rel =>
        obtain ⟨hsk, hdk, hBk, hvx, hvy⟩ := HS.out
        have h1 := Sym.carry_up (d := dk) hdk HQ.out.2.2.1
        rw [HD.out.2.2.1, HQ.out.1, HQ.out.2.1] at h1
        exact ⟨p1, k + 1, swp dk p p1, rfl, HQ.out.2.1.symm, HQ.out.2.2.2, hsk.swap hn1 hn2 hvx hvy, h1, swap_below hg.1 hBk p p1 vx vy⟩
      case measure => simp [intOf]; omega
    · have hpi1 : ¬ ((p : Int) < (i : Int) - 1) := by omega
      have hki : k = i - m := by omega
      have hpi2 : decide ((p : Int) < (i : Int) - 1) = false := by simp; omega
      have HS := Lib.hid (⟨hsk, hdk, hBk⟩ : _ ∧ _ ∧ _)
      have hBo : Sym.Ord LEo (B.take k ++ B.drop k) := by rw [List.take_append_drop]; exact HD.out.2.2.2.2.2.1
      have hone := Sym.one_left (x := x) hBo
        (Sym.all_left LEo.trans (Sym.Ord.append.1 hBo).1 (fun B' z e => by
          have hl2 := congrArg List.length e
          rw [List.length_take, List.length_append, List.length_singleton] at hl2
          have hz : B[k - 1]? = some z := by
            have h1 : (B.take k)[k - 1]? = some z := by rw [e, List.getElem?_append_right (by omega), show k - 1 - B'.length = 0 by omega]; rfl
            rwa [List.getElem?_take_of_lt (by omega)] at h1
          have hdz := HD.out.2.2.2.2.2.2.2.1 _ _ hz
          rcases HI.out.1 with h0 | h0
          · omega
          · rw [show i - 1 = m + (k - 1) by omega, hdz] at h0
            exact LEo.of_less h0))
        (Sym.all_right LEo.trans (Sym.Ord.append.1 hBo).2.1 (fun z B' e => by
          have hl2 := congrArg List.length e
          rw [List.length_drop, List.length_cons] at hl2
          have hz : B[k]? = some z := by
            have h1 : (B.drop k)[0]? = some z := by rw [e]; rfl
            rwa [List.getElem?_drop] at h1
          have hdz := HD.out.2.2.2.2.2.2.2.1 _ _ hz
          rcases HI.out.2.1 with h0 | h0
          · omega
          · rw [show i = m + k by omega, hdz] at h0
            exact h0))
      rw [List.take_append_drop] at hone
      have HO := Lib.hid hone
      clear hsk hdk hBk hBo hone hp hk hki hma hmB hbn hpi
      go_wp2_with fail
      go_end0
      exact ⟨rfl, ⟨dk, HS.out.1, _, HS.out.2.1, HO.out.1, HO.out.2⟩, HS.out.2.2⟩

set_option maxRecDepth 100000 in
set_option maxHeartbeats 8000000 in
theorem sym_right (base g n c : Nat) (d : Array IdP) (a m b : Nat) (w : World) (X A Y : List IdP) (x : IdP) (hs : Srt w base g n c d) (hn : n ≤ 1000) (hd : d.toList = X ++ ((A ++ [x]) ++ Y)) (ha : X.length = a) (hm : a + A.length = m) (hb : m + 1 = b) (hA2 : A.length ≠ 1) (hA : Sym.Ord LEo A) :
    Calls Tryd.prog 43 #[.slice (some ⟨g, 0, none⟩) n c, .int .i64 (a : Int), .int .i64 (m : Int), .int .i64 (b : Int), .func (.func 28) #[] #[]] w (Merged base g n c w X A [x] Y) := by
  have hbn : b ≤ n := by
    have h1 := congrArg List.length hd
    rw [Array.length_toList, hs.1] at h1
    simp only [List.length_append, List.length_cons, List.length_nil] at h1
    omega
  obtain ⟨q1, hq1⟩ : ∃ q, q = m - a := ⟨_, rfl⟩
  have hw1 : IntKind.i64.wrap ((m : Int) - (a : Int)) = (q1 : Int) := by rw [IntKind.wrap_i64] <;> omega
  have hq2 : ((q1 : Int) == 1) = false := by simp; omega
  have hq3 : ¬ ((q1 : Int) = 1) := by omega
  have hq4 : ¬ (q1 = 1) := by omega
  have hw2 : IntKind.i64.wrap ((b : Int) - (m : Int)) = 1 := by rw [IntKind.wrap_i64] <;> omega
  have hdx : d[m]! = x := Sym.bang_of (by rw [hd, List.getElem?_append_right (by omega), ha, List.append_assoc, List.getElem?_append_right (by omega), show m - a - A.length = 0 by omega]; rfl)
  have hdA : ∀ k y, A[k]? = some y → d[a + k]! = y := fun k y hy => Sym.bang_of (by
    have hk := (List.getElem?_eq_some_iff.1 hy).1
    rw [hd, List.getElem?_append_right (by omega), ha, show a + k - a = k by omega, List.append_assoc, List.getElem?_append_left hk, hy])
  have HD := Lib.hid (⟨hs, hd, ha, hm, hb, hA, hdx, hdA, hbn⟩ : _ ∧ _ ∧ _ ∧ _ ∧ _ ∧ _ ∧ _ ∧ _ ∧ _)
  have hg := hs.lt
  have hb1000 : m ≤ 1000 ∧ a ≤ m ∧ m < n := by omega
  clear hs hd ha hm hb hA hdx hdA hbn hq1 hA2
  go_enter Tryd.func43, Tryd.ntmps43
  go_wp2_with fail
  clear hw1 hw2 hq2 hq3 hq4
  go_loopw [14, 15] (fun iv jv wr => ∃ i j : Nat, iv = .int .i64 (i : Int) ∧ jv = .int .i64 (j : Int) ∧ a ≤ i ∧ i ≤ j ∧ j ≤ m ∧ (i = a ∨ ¬ LessP x d[i - 1]!) ∧ (j = m ∨ LessP x d[j]!) ∧ Below w.heap.size w wr) (fun iv jv _ => (intOf jv).toNat - (intOf iv).toNat)
  case atStart => exact ⟨a, m, rfl, rfl, Nat.le_refl _, hb1000.2.1, Nat.le_refl _, .inl rfl, .inl rfl, Below.refl _ _⟩
  obtain ⟨i, j, rfl, rfl, hmi, hij, hjb, hl, hr, hB⟩ := hrel
  by_cases hlt : i < j
  · obtain ⟨h, hh⟩ : ∃ h, h = (i + j) / 2 := ⟨_, rfl⟩
    have hs := HD.out.1.on hB
    have hhn : h < n := by omega
    obtain ⟨y, hy⟩ : ∃ y, d[h]! = y := ⟨_, rfl⟩
    obtain ⟨k0, k1, k2⟩ := hs.cells hhn
    obtain ⟨m0, m1, m2⟩ := hs.cells hb1000.2.2
    rw [hy] at k0 k1 k2
    rw [HD.out.2.2.2.2.2.2.1] at m0 m1 m2
    have hgl : g < wr.heap.size := hs.lt.2
    have HI := Lib.hid (⟨hl, hr, hB, hy⟩ : _ ∧ _ ∧ _ ∧ _)
    have hhv : ((i : Int) + (j : Int)) / 2 = (h : Int) := by omega
    have hhr : i ≤ h ∧ h < j := by omega
    have Hh := Lib.hid hh
    clear hl hr hB hy hs hh
    by_cases hless : orderP x y < 0
    · have hLs := (less_iff x y).1 hless
      have tl : decide (orderP x y < 0) = true := decide_eq_true hless
      go_wp2_with fail
      refine wp_region_held_drew (S := (fun W => Below wr.heap.size wr W)) (by kernel_rfl) (below_dr (below_d0 _)) (fun hHeld => ?_)
      refine take_at (i := 0) (d := 92) (oi := ?o23) (v := ?v23) ?hi23 ?hd23 (by kernel_rfl) (by kernel_rfl) (by kernel_rfl) ?hw23 ?hy23 ?hq23 (by assumption) ?r23
      case hi23 => (simp only [List.getElem?_toArray, List.getElem?_cons_zero]; rfl)
      case hd23 => rfl
      case hw23 => rfl
      case hy23 => ((intro w hSw; (try dsimp only at hSw); go_simp) <;> (with_reducible rfl))
      case hq23 => exact fun _ _ _ h => h
      simp only [List.set_cons_succ, List.set_cons_zero]
      refine take_at (i := 1) (d := 93) (oi := ?o24) (v := ?v24) ?hi24 ?hd24 (by kernel_rfl) (by kernel_rfl) (by kernel_rfl) ?hw24 ?hy24 ?hq24 (by assumption) ?r24
      case hi24 => (simp only [List.getElem?_toArray, List.getElem?_cons_succ, List.getElem?_cons_zero]; rfl)
      case hd24 => rfl
      case hw24 => rfl
      case hy24 => ((intro w hSw; (try dsimp only at hSw); go_simp) <;> (with_reducible rfl))
      case hq24 => exact fun _ _ _ h => h
      simp only [List.set_cons_succ, List.set_cons_zero]
      refine take_at (i := 2) (d := 94) (oi := ?o25) (v := ?v25) ?hi25 ?hd25 (by kernel_rfl) (by kernel_rfl) (by kernel_rfl) ?hw25 ?hy25 ?hq25 (by assumption) ?r25
      case hi25 => (simp only [List.getElem?_toArray, List.getElem?_cons_succ, List.getElem?_cons_zero]; rfl)
      case hd25 => rfl
      case hw25 => rfl
      case hy25 => ((intro w hSw; (try dsimp only at hSw); go_simp) <;> (with_reducible rfl))
      case hq25 => exact fun _ _ _ h => h
      simp only [List.set_cons_succ, List.set_cons_zero]
      refine take_at (i := 3) (d := 95) (oi := ?o26) (v := ?v26) ?hi26 ?hd26 (by kernel_rfl) (by kernel_rfl) (by kernel_rfl) ?hw26 ?hy26 ?hq26 (by assumption) ?r26
      case hi26 => (simp only [List.getElem?_toArray, List.getElem?_cons_succ, List.getElem?_cons_zero]; rfl)
      case hd26 => rfl
      case hw26 => rfl
      case hy26 => ((intro w hSw; (try dsimp only at hSw); go_simp) <;> (with_reducible rfl))
      case hq26 => exact fun _ _ _ h => h
      simp only [List.set_cons_succ, List.set_cons_zero]
      refine take_at (i := 4) (d := 96) (oi := ?o27) (v := ?v27) ?hi27 ?hd27 (by kernel_rfl) (by kernel_rfl) (by kernel_rfl) ?hw27 ?hy27 ?hq27 (by assumption) ?r27
      case hi27 => (simp only [List.getElem?_toArray, List.getElem?_cons_succ, List.getElem?_cons_zero]; rfl)
      case hd27 => rfl
      case hw27 => rfl
      case hy27 => ((intro w hSw; (try dsimp only at hSw); have q0 := (Below.cell hSw (p := ⟨g, m * 3, none⟩) hgl).trans m0; have q1 := (Below.cell hSw (p := ⟨g, m * 3 + 1, none⟩) hgl).trans m1; have q2 := (Below.cell hSw (p := ⟨g, m * 3 + 2, none⟩) hgl).trans m2; clear hSw; go_simp) <;> (with_reducible rfl))
      case hq27 => exact fun _ _ _ h => h
      simp only [List.set_cons_succ, List.set_cons_zero]
      refine take_at (i := 5) (d := 97) (oi := ?o28) (v := ?v28) ?hi28 ?hd28 (by kernel_rfl) (by kernel_rfl) (by kernel_rfl) ?hw28 ?hy28 ?hq28 (by assumption) ?r28
      case hi28 => (simp only [List.getElem?_toArray, List.getElem?_cons_succ, List.getElem?_cons_zero]; rfl)
      case hd28 => rfl
      case hw28 => rfl
      case hy28 => ((intro w hSw; (try dsimp only at hSw); go_simp) <;> (with_reducible rfl))
      case hq28 => exact fun _ _ _ h => h
      simp only [List.set_cons_succ, List.set_cons_zero]
      refine take_at (i := 6) (d := 98) (oi := ?o29) (v := ?v29) ?hi29 ?hd29 (by kernel_rfl) (by kernel_rfl) (by kernel_rfl) ?hw29 ?hy29 ?hq29 (by assumption) ?r29
      case hi29 => (simp only [List.getElem?_toArray, List.getElem?_cons_succ, List.getElem?_cons_zero]; rfl)
      case hd29 => rfl
      case hw29 => rfl
      case hy29 => ((intro w hSw; (try dsimp only at hSw); go_simp) <;> (with_reducible rfl))
      case hq29 => exact fun _ _ _ h => h
      simp only [List.set_cons_succ, List.set_cons_zero]
      refine take_at (i := 7) (d := 99) (oi := ?o30) (v := ?v30) ?hi30 ?hd30 (by kernel_rfl) (by kernel_rfl) (by kernel_rfl) ?hw30 ?hy30 ?hq30 (by assumption) ?r30
      case hi30 => (simp only [List.getElem?_toArray, List.getElem?_cons_succ, List.getElem?_cons_zero]; rfl)
      case hd30 => rfl
      case hw30 => rfl
      case hy30 => ((intro w hSw; (try dsimp only at hSw); go_simp) <;> (with_reducible rfl))
      case hq30 => exact fun _ _ _ h => h
      simp only [List.set_cons_succ, List.set_cons_zero]
      refine take_at (i := 8) (d := 100) (oi := ?o31) (v := ?v31) ?hi31 ?hd31 (by kernel_rfl) (by kernel_rfl) (by kernel_rfl) ?hw31 ?hy31 ?hq31 (by assumption) ?r31
      case hi31 => (simp only [List.getElem?_toArray, List.getElem?_cons_succ, List.getElem?_cons_zero]; rfl)
      case hd31 => rfl
      case hw31 => rfl
      case hy31 => ((intro w hSw; (try dsimp only at hSw); have q0 := (Below.cell hSw (p := ⟨g, h * 3, none⟩) hgl).trans k0; have q1 := (Below.cell hSw (p := ⟨g, h * 3 + 1, none⟩) hgl).trans k1; have q2 := (Below.cell hSw (p := ⟨g, h * 3 + 2, none⟩) hgl).trans k2; clear hSw; go_simp) <;> (with_reducible rfl))
      case hq31 => exact fun _ _ _ h => h
      simp only [List.set_cons_succ, List.set_cons_zero]
      refine call_at (i := 9) (d := 101) (oi := ?o32) (f := ?f32) (args := ?a32) ?hi32 ?hd32 (by kernel_rfl) ?hw32 ?he32 ?hc32
      case hi32 => (simp only [List.getElem?_toArray, List.getElem?_cons_succ, List.getElem?_cons_zero]; rfl)
      case hd32 => rfl
      case hw32 => rfl
      case he32 => (go_simp; constructor <;> with_reducible rfl)
      refine (order_any x y _).mono ?_
      rintro r wv ⟨rfl, hb1⟩
      have kb : Below wr.heap.size wr wv := hHeld.trans (hb1.mono hHeld.size)
      refine ⟨_, rfl, kb, fun hHeld => ?_⟩
      simp only [List.set_cons_succ, List.set_cons_zero]
      refine take_at (i := 10) (d := 102) (oi := ?o33) (v := ?v33) ?hi33 ?hd33 (by kernel_rfl) (by kernel_rfl) (by kernel_rfl) ?hw33 ?hy33 ?hq33 (by assumption) ?r33
      case hi33 => (simp only [List.getElem?_toArray, List.getElem?_cons_succ, List.getElem?_cons_zero]; rfl)
      case hd33 => rfl
      case hw33 => rfl
      case hy33 => ((intro w hSw; (try dsimp only at hSw); go_simp) <;> (with_reducible rfl))
      case hq33 => exact fun _ _ _ h => h
      simp only [List.set_cons_succ, List.set_cons_zero]
      refine take_at (i := 11) (d := 103) (oi := ?o34) (v := ?v34) ?hi34 ?hd34 (by kernel_rfl) (by kernel_rfl) (by kernel_rfl) ?hw34 ?hy34 ?hq34 (by assumption) ?r34
      case hi34 => (simp only [List.getElem?_toArray, List.getElem?_cons_succ, List.getElem?_cons_zero]; rfl)
      case hd34 => rfl
      case hw34 => rfl
      case hy34 => ((intro w hSw; (try dsimp only at hSw); go_simp) <;> (with_reducible rfl))
      case hq34 => exact fun _ _ _ h => h
      simp only [List.set_cons_succ, List.set_cons_zero]
      refine wpAnyH_done (by kernel_rfl) ?_ _
      clear k0 k1 k2 m0 m1 m2
      go_wp2_with fail
      go_roundw
      case rel => exact ⟨i, h, rfl, rfl, hmi, by omega, by omega, HI.out.1, .inr (by rw [HI.out.2.2.2]; exact hLs), HI.out.2.2.1.trans (hHeld.mono HI.out.2.2.1.size)⟩
      case measure => simp [intOf]; omega
    · have hLs : ¬ LessP x y := fun h => hless ((less_iff x y).2 h)
      have tl : decide (orderP x y < 0) = false := decide_eq_false hless
      go_wp2_with fail
      refine wp_region_held_drew (S := (fun W => Below wr.heap.size wr W)) (by kernel_rfl) (below_dr (below_d0 _)) (fun hHeld => ?_)
      refine take_at (i := 0) (d := 92) (oi := ?o35) (v := ?v35) ?hi35 ?hd35 (by kernel_rfl) (by kernel_rfl) (by kernel_rfl) ?hw35 ?hy35 ?hq35 (by assumption) ?r35
      case hi35 => (simp only [List.getElem?_toArray, List.getElem?_cons_zero]; rfl)
      case hd35 => rfl
      case hw35 => rfl
      case hy35 => ((intro w hSw; (try dsimp only at hSw); go_simp) <;> (with_reducible rfl))
      case hq35 => exact fun _ _ _ h => h
      simp only [List.set_cons_succ, List.set_cons_zero]
      refine take_at (i := 1) (d := 93) (oi := ?o36) (v := ?v36) ?hi36 ?hd36 (by kernel_rfl) (by kernel_rfl) (by kernel_rfl) ?hw36 ?hy36 ?hq36 (by assumption) ?r36
      case hi36 => (simp only [List.getElem?_toArray, List.getElem?_cons_succ, List.getElem?_cons_zero]; rfl)
      case hd36 => rfl
      case hw36 => rfl
      case hy36 => ((intro w hSw; (try dsimp only at hSw); go_simp) <;> (with_reducible rfl))
      case hq36 => exact fun _ _ _ h => h
      simp only [List.set_cons_succ, List.set_cons_zero]
      refine take_at (i := 2) (d := 94) (oi := ?o37) (v := ?v37) ?hi37 ?hd37 (by kernel_rfl) (by kernel_rfl) (by kernel_rfl) ?hw37 ?hy37 ?hq37 (by assumption) ?r37
      case hi37 => (simp only [List.getElem?_toArray, List.getElem?_cons_succ, List.getElem?_cons_zero]; rfl)
      case hd37 => rfl
      case hw37 => rfl
      case hy37 => ((intro w hSw; (try dsimp only at hSw); go_simp) <;> (with_reducible rfl))
      case hq37 => exact fun _ _ _ h => h
      simp only [List.set_cons_succ, List.set_cons_zero]
      refine take_at (i := 3) (d := 95) (oi := ?o38) (v := ?v38) ?hi38 ?hd38 (by kernel_rfl) (by kernel_rfl) (by kernel_rfl) ?hw38 ?hy38 ?hq38 (by assumption) ?r38
      case hi38 => (simp only [List.getElem?_toArray, List.getElem?_cons_succ, List.getElem?_cons_zero]; rfl)
      case hd38 => rfl
      case hw38 => rfl
      case hy38 => ((intro w hSw; (try dsimp only at hSw); go_simp) <;> (with_reducible rfl))
      case hq38 => exact fun _ _ _ h => h
      simp only [List.set_cons_succ, List.set_cons_zero]
      refine take_at (i := 4) (d := 96) (oi := ?o39) (v := ?v39) ?hi39 ?hd39 (by kernel_rfl) (by kernel_rfl) (by kernel_rfl) ?hw39 ?hy39 ?hq39 (by assumption) ?r39
      case hi39 => (simp only [List.getElem?_toArray, List.getElem?_cons_succ, List.getElem?_cons_zero]; rfl)
      case hd39 => rfl
      case hw39 => rfl
      case hy39 => ((intro w hSw; (try dsimp only at hSw); have q0 := (Below.cell hSw (p := ⟨g, m * 3, none⟩) hgl).trans m0; have q1 := (Below.cell hSw (p := ⟨g, m * 3 + 1, none⟩) hgl).trans m1; have q2 := (Below.cell hSw (p := ⟨g, m * 3 + 2, none⟩) hgl).trans m2; clear hSw; go_simp) <;> (with_reducible rfl))
      case hq39 => exact fun _ _ _ h => h
      simp only [List.set_cons_succ, List.set_cons_zero]
      refine take_at (i := 5) (d := 97) (oi := ?o40) (v := ?v40) ?hi40 ?hd40 (by kernel_rfl) (by kernel_rfl) (by kernel_rfl) ?hw40 ?hy40 ?hq40 (by assumption) ?r40
      case hi40 => (simp only [List.getElem?_toArray, List.getElem?_cons_succ, List.getElem?_cons_zero]; rfl)
      case hd40 => rfl
      case hw40 => rfl
      case hy40 => ((intro w hSw; (try dsimp only at hSw); go_simp) <;> (with_reducible rfl))
      case hq40 => exact fun _ _ _ h => h
      simp only [List.set_cons_succ, List.set_cons_zero]
      refine take_at (i := 6) (d := 98) (oi := ?o41) (v := ?v41) ?hi41 ?hd41 (by kernel_rfl) (by kernel_rfl) (by kernel_rfl) ?hw41 ?hy41 ?hq41 (by assumption) ?r41
      case hi41 => (simp only [List.getElem?_toArray, List.getElem?_cons_succ, List.getElem?_cons_zero]; rfl)
      case hd41 => rfl
      case hw41 => rfl
      case hy41 => ((intro w hSw; (try dsimp only at hSw); go_simp) <;> (with_reducible rfl))
      case hq41 => exact fun _ _ _ h => h
      simp only [List.set_cons_succ, List.set_cons_zero]
      refine take_at (i := 7) (d := 99) (oi := ?o42) (v := ?v42) ?hi42 ?hd42 (by kernel_rfl) (by kernel_rfl) (by kernel_rfl) ?hw42 ?hy42 ?hq42 (by assumption) ?r42
      case hi42 => (simp only [List.getElem?_toArray, List.getElem?_cons_succ, List.getElem?_cons_zero]; rfl)
      case hd42 => rfl
      case hw42 => rfl
      case hy42 => ((intro w hSw; (try dsimp only at hSw); go_simp) <;> (with_reducible rfl))
      case hq42 => exact fun _ _ _ h => h
      simp only [List.set_cons_succ, List.set_cons_zero]
      refine take_at (i := 8) (d := 100) (oi := ?o43) (v := ?v43) ?hi43 ?hd43 (by kernel_rfl) (by kernel_rfl) (by kernel_rfl) ?hw43 ?hy43 ?hq43 (by assumption) ?r43
      case hi43 => (simp only [List.getElem?_toArray, List.getElem?_cons_succ, List.getElem?_cons_zero]; rfl)
      case hd43 => rfl
      case hw43 => rfl
      case hy43 => ((intro w hSw; (try dsimp only at hSw); have q0 := (Below.cell hSw (p := ⟨g, h * 3, none⟩) hgl).trans k0; have q1 := (Below.cell hSw (p := ⟨g, h * 3 + 1, none⟩) hgl).trans k1; have q2 := (Below.cell hSw (p := ⟨g, h * 3 + 2, none⟩) hgl).trans k2; clear hSw; go_simp) <;> (with_reducible rfl))
      case hq43 => exact fun _ _ _ h => h
      simp only [List.set_cons_succ, List.set_cons_zero]
      refine call_at (i := 9) (d := 101) (oi := ?o44) (f := ?f44) (args := ?a44) ?hi44 ?hd44 (by kernel_rfl) ?hw44 ?he44 ?hc44
      case hi44 => (simp only [List.getElem?_toArray, List.getElem?_cons_succ, List.getElem?_cons_zero]; rfl)
      case hd44 => rfl
      case hw44 => rfl
      case he44 => (go_simp; constructor <;> with_reducible rfl)
      refine (order_any x y _).mono ?_
      rintro r wv ⟨rfl, hb1⟩
      have kb : Below wr.heap.size wr wv := hHeld.trans (hb1.mono hHeld.size)
      refine ⟨_, rfl, kb, fun hHeld => ?_⟩
      simp only [List.set_cons_succ, List.set_cons_zero]
      refine take_at (i := 10) (d := 102) (oi := ?o45) (v := ?v45) ?hi45 ?hd45 (by kernel_rfl) (by kernel_rfl) (by kernel_rfl) ?hw45 ?hy45 ?hq45 (by assumption) ?r45
      case hi45 => (simp only [List.getElem?_toArray, List.getElem?_cons_succ, List.getElem?_cons_zero]; rfl)
      case hd45 => rfl
      case hw45 => rfl
      case hy45 => ((intro w hSw; (try dsimp only at hSw); go_simp) <;> (with_reducible rfl))
      case hq45 => exact fun _ _ _ h => h
      simp only [List.set_cons_succ, List.set_cons_zero]
      refine take_at (i := 11) (d := 103) (oi := ?o46) (v := ?v46) ?hi46 ?hd46 (by kernel_rfl) (by kernel_rfl) (by kernel_rfl) ?hw46 ?hy46 ?hq46 (by assumption) ?r46
      case hi46 => (simp only [List.getElem?_toArray, List.getElem?_cons_succ, List.getElem?_cons_zero]; rfl)
      case hd46 => rfl
      case hw46 => rfl
      case hy46 => ((intro w hSw; (try dsimp only at hSw); go_simp) <;> (with_reducible rfl))
      case hq46 => exact fun _ _ _ h => h
      simp only [List.set_cons_succ, List.set_cons_zero]
      refine wpAnyH_done (by kernel_rfl) ?_ _
      clear k0 k1 k2 m0 m1 m2
      go_wp2_with fail
      go_roundw
      case rel => exact ⟨h + 1, j, by go_num, rfl, by omega, by omega, hjb, .inr (by rw [Nat.add_sub_cancel, HI.out.2.2.2]; exact hLs), HI.out.2.1, HI.out.2.2.1.trans (hHeld.mono HI.out.2.2.1.size)⟩
      case measure => simp [intOf]; omega
  · obtain rfl : i = j := by omega
    have hs := HD.out.1.on hB
    have hBb : Below base w wr := hB.mono (Nat.le_of_lt (Nat.lt_of_le_of_lt HD.out.1.lt.1 HD.out.1.lt.2))
    have HI := Lib.hid (⟨hl, hr, hs, hBb⟩ : _ ∧ _ ∧ _ ∧ _)
    clear hl hr hs hB hBb
    go_wp2_with fail
    have him : a ≤ i ∧ i ≤ m := ⟨hmi, hjb⟩
    go_loopw [17] (fun kv wk => ∃ (p k : Nat) (dk : Array IdP), kv = .int .i64 (p : Int) ∧ p = a + k ∧ i - a ≤ k ∧ k ≤ A.length ∧ Srt wk base g n c dk ∧ dk.toList = X ++ (Sym.carried x A k ++ Y) ∧ Below base w wk) (fun kv _ => (intOf kv).toNat)
    case atStart => exact ⟨m, A.length, d, rfl, HD.out.2.2.2.1.symm, by have := HD.out.2.2.2.1; omega, Nat.le_refl _, HI.out.2.2.1, by rw [HD.out.2.1]; simp [Sym.carried], HI.out.2.2.2⟩
    obtain ⟨p, k, dk, rfl, hp, hk, hkA, hsk, hdk, hBk⟩ := hrel
    have hmA := HD.out.2.2.2.1
    by_cases hpi : i < p
    · have hpi1 : (i : Int) < (p : Int) := by omega
      have hpi2 : decide ((i : Int) < (p : Int)) = true := by simp; omega
      obtain ⟨k', rfl⟩ : ∃ k', k = k' + 1 := ⟨k - 1, by omega⟩
      obtain ⟨p1, hp1⟩ : ∃ k, k = p - 1 := ⟨_, rfl⟩
      have hw1 : IntKind.i64.wrap ((p : Int) - 1) = (p1 : Int) := by rw [IntKind.wrap_i64] <;> omega
      have hn1 : p < n := by omega
      have hn2 : p1 < n := by omega
      have HQ := Lib.hid (show a + (k' + 1) = p ∧ a + k' = p1 ∧ k' < A.length ∧ i - a ≤ k' by omega)
      have hpp : p1 < p := by omega
      clear hp hp1 hmA hk him hkA
      obtain ⟨vx, hvx⟩ : ∃ v, dk[p]! = v := ⟨_, rfl⟩
      obtain ⟨vy, hvy⟩ : ∃ v, dk[p1]! = v := ⟨_, rfl⟩
      obtain ⟨k0, k1, k2⟩ := hsk.cells hn1
      obtain ⟨m0, m1, m2⟩ := hsk.cells hn2
      rw [hvx] at k0 k1 k2
      rw [hvy] at m0 m1 m2
      have f0 := hsk.frozen (p * 3)
      have f1 := hsk.frozen (p * 3 + 1)
      have f2 := hsk.frozen (p * 3 + 2)
      have hs1 := hsk.put hn1 vy
      obtain ⟨p0, p1', p2⟩ := hs1.cells hn2
      have q0 := hs1.frozen (p1 * 3)
      have q1 := hs1.frozen (p1 * 3 + 1)
      have q2 := hs1.frozen (p1 * 3 + 2)
      unfold putI at p0 p1' p2 q0 q1 q2
      have HS := Lib.hid (⟨hsk, hdk, hBk, hvx, hvy⟩ : _ ∧ _ ∧ _ ∧ _ ∧ _)
      clear hsk hdk hBk hvx hvy hs1
      go_wp2_with fail
      go_region
      go_wp2_with fail
      go_roundw
      case rel =>
        obtain ⟨hsk, hdk, hBk, hvx, hvy⟩ := HS.out
        have h1 := Sym.carry_down (d := dk) hdk HQ.out.2.2.1
        rw [HD.out.2.2.1, HQ.out.1, HQ.out.2.1] at h1
        exact ⟨p1, k', swp dk p p1, rfl, HQ.out.2.1.symm, HQ.out.2.2.2, Nat.le_of_lt HQ.out.2.2.1, hsk.swap hn1 hn2 hvx hvy, h1, swap_below hg.1 hBk p p1 vx vy⟩
      case measure => simp [intOf]; omega
    · have hpi1 : ¬ ((i : Int) < (p : Int)) := by omega
      have hpi2 : decide ((i : Int) < (p : Int)) = false := by simp; omega
      have hki : k = i - a := by omega
      have HS := Lib.hid (⟨hsk, hdk, hBk⟩ : _ ∧ _ ∧ _)
      have hBo : Sym.Ord LEo (A.take k ++ A.drop k) := by rw [List.take_append_drop]; exact HD.out.2.2.2.2.2.1
      have hone := Sym.one_right (y := x) hBo
        (Sym.all_left LEo.trans (Sym.Ord.append.1 hBo).1 (fun B' z e => by
          have hl2 := congrArg List.length e
          rw [List.length_take, List.length_append, List.length_singleton] at hl2
          have hz : A[k - 1]? = some z := by
            have h1 : (A.take k)[k - 1]? = some z := by rw [e, List.getElem?_append_right (by omega), show k - 1 - B'.length = 0 by omega]; rfl
            rwa [List.getElem?_take_of_lt (by omega)] at h1
          have hdz := HD.out.2.2.2.2.2.2.2.1 _ _ hz
          rcases HI.out.1 with h0 | h0
          · omega
          · rw [show i - 1 = a + (k - 1) by omega, hdz] at h0
            exact h0))
        (Sym.all_right LEo.trans (Sym.Ord.append.1 hBo).2.1 (fun z B' e => by
          have hl2 := congrArg List.length e
          rw [List.length_drop, List.length_cons] at hl2
          have hz : A[k]? = some z := by
            have h1 : (A.drop k)[0]? = some z := by rw [e]; rfl
            rwa [List.getElem?_drop] at h1
          have hdz := HD.out.2.2.2.2.2.2.2.1 _ _ hz
          rcases HI.out.2.1 with h0 | h0
          · omega
          · rw [show i = a + k by omega, hdz] at h0
            exact LEo.of_less h0))
      rw [List.take_append_drop] at hone
      have HO := Lib.hid hone
      clear hsk hdk hBk hBo hone hp hk hki hmA hpi hkA
      go_wp2_with fail
      go_end0
      exact ⟨rfl, ⟨dk, HS.out.1, _, HS.out.2.1, HO.out.1, HO.out.2⟩, HS.out.2.2⟩

end Go.Proofs.YtbfdjjkphmchgaaDoor
