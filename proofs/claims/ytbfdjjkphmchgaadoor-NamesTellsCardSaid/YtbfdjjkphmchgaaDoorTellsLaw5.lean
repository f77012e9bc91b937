/-
  moultlaw05.NamesTells: it returns true.
-/
import Derived.Test.YtbfdjjkphmchgaaDoorRParse5
import Derived.Test.YtbfdjjkphmchgaaDoorRSort5
import Derived.Test.YtbfdjjkphmchgaaDoorRefR5
import Derived.Test.YtbfdjjkphmchgaaDoorWakes
import Derived.Test.YtbfdjjkphmchgaaDoorGreat
namespace Go.Proofs.YtbfdjjkphmchgaaDoor
open Go.RowKit Go.Maps
set_option linter.unusedVariables false
set_option linter.unusedSimpArgs false

set_option maxRecDepth 100000 in
set_option maxHeartbeats 8000000 in
theorem tells_all (x y : IdP) (nm : ByteArray) (A : Option Addr) (n c : Nat) (l : List FlP) (A2 : Option Addr) (m c2 : Nat) (ks : List IdP) (w : World) (hP : Pow w) (hx : x.Ok) (hl : Fl w w.heap.size A n l) (hks : Ids w w.heap.size A2 m ks) (hOk : ∀ k ∈ ks, k.Ok) :
    Calls Tryd.prog 3 #[x.v, y.v, .string nm, .slice A n c, .slice A2 m c2] w fun e w' => e = .returned (.bool true) ∧ Below w.heap.size w w' := by
  have HP := Lib.hid (⟨hP, hx, hl, hks, hOk⟩ : _ ∧ _ ∧ _ ∧ _ ∧ _)
  clear hP hx hl hks hOk
  go_enter Tryd.func3, Tryd.ntmps3
  unfold IdP.v
  by_cases h60 : 60 < nm.size
  · have t0 : decide ((60 : Int) < (nm.size : Int)) = true := by simp; omega
    go_wp2_with fail
    refine (wakes_true _ (HP.out.1.on (below_al (below_al (below_d0 w) _) _))).mono ?_
    rintro e w1 ⟨rfl, hb1⟩
    go_wp2_with fail
    go_ret
    exact ⟨rfl, below_on (below_al (below_al (below_d0 w) _) _) hb1⟩
  have t0 : decide ((60 : Int) < (nm.size : Int)) = false := by simp; omega
  go_wp2_with fail
  obtain ⟨z, hz⟩ : ∃ z, z = w.heap.size := ⟨_, rfl⟩
  obtain ⟨wa, hwa⟩ : ∃ wa, wa = w.alloc (.cells #[.int .u8 x.kind, .int .i64 x.seq, .int .i64 x.fmt] 23) := ⟨_, rfl⟩
  obtain ⟨w0, hw0⟩ : ∃ w0, w0 = wa.alloc (.cells #[.int .u8 y.kind, .int .i64 y.seq, .int .i64 y.fmt] 23) := ⟨_, rfl⟩
  have hsa : wa.heap.size = z + 1 := by rw [hwa, hz]; simp
  have hBa : Below w.heap.size w wa := by rw [hwa]; exact below_al (below_d0 w) _
  have hB0 : Below w.heap.size w w0 := by rw [hw0]; exact below_al hBa _
  have bx0 : BoxI w0 z x := by rw [hw0]; exact BoxI.below (by rw [hwa, hz]; exact BoxI.new w x) (below_al (below_d0 wa) _)
  have by0 : BoxI w0 (z + 1) y := by rw [hw0, ← hsa]; exact BoxI.new wa y
  rw [← hwa, ← hw0, ← hz]
  try rw [hsa]
  clear hw0 hwa hz hsa hBa
  refine (great_any A n c l w0 (HP.out.2.2.1.on hB0 hB0.size)).mono ?_
  rintro e w1 ⟨⟨Y, rfl, hsm⟩, hb1⟩
  have bx1 := bx0.below hb1
  have by1 := by0.below hb1
  have hB1 := below_on hB0 hb1
  clear bx0 by0 hB0 hb1
  by_cases hmany : Y = true ∨ 40 < m
  · have HB := Lib.hid hB1
    clear hB1 bx1 by1
    rcases hmany with rfl | h40
    · go_wp2_with fail
      refine (wakes_true _ (HP.out.1.on HB.out)).mono ?_
      rintro e w2 ⟨rfl, hb2⟩
      go_wp2_with fail
      go_ret
      exact ⟨rfl, below_on HB.out hb2⟩
    · have t3 : decide ((40 : Int) < (m : Int)) = true := by simp; omega
      cases Y <;>
      · go_wp2_with fail
        refine (wakes_true _ (HP.out.1.on HB.out)).mono ?_
        rintro e w2 ⟨rfl, hb2⟩
        go_wp2_with fail
        go_ret
        exact ⟨rfl, below_on HB.out hb2⟩
  obtain ⟨hy, hm⟩ : Y = false ∧ m ≤ 40 := by
    cases Y
    · exact ⟨rfl, by omega⟩
    · exact absurd (.inl rfl) hmany
  subst hy
  obtain ⟨hn, hnm⟩ := hsm rfl
  have t3 : decide ((40 : Int) < (m : Int)) = false := by simp; omega
  have HN := Lib.hid hnm
  clear hnm hsm hmany
  obtain ⟨x0, x1, x2⟩ := bx1.cells
  have HB := Lib.hid (⟨bx1, by1, hB1⟩ : _ ∧ _ ∧ _)
  clear bx1 by1 hB1
  go_wp2_with fail
  refine (name_any x w1 (HP.out.1.on HB.out.2.2) HP.out.2.1).mono ?_
  rintro e w2 ⟨rfl, hb2⟩
  obtain ⟨N, hN⟩ : ∃ N, N = nameP x := ⟨_, rfl⟩
  obtain ⟨E, hE⟩ : ∃ E, E = errP x := ⟨_, rfl⟩
  rw [← hN, ← hE]
  have HE := Lib.hid (⟨hN, hE⟩ : _ ∧ _)
  have bx2 := HB.out.1.below hb2
  have by2 := HB.out.2.1.below hb2
  have hB2 := below_on HB.out.2.2 hb2
  clear HB hN hE hb2 x0 x1 x2
  obtain ⟨x0, x1, x2⟩ := bx2.cells
  have HB := Lib.hid (⟨bx2, by2, hB2⟩ : _ ∧ _ ∧ _)
  clear bx2 by2 hB2
  go_wp2_with fail
  refine (rname_any x w2 (HP.out.1.on HB.out.2.2)).mono ?_
  rintro e w3 ⟨rfl, hb3⟩
  rw [← HE.out.1, ← HE.out.2]
  have bx3 := HB.out.1.below hb3
  have by3 := HB.out.2.1.below hb3
  have hB3 := below_on HB.out.2.2 hb3
  clear HB hb3 x0 x1 x2
  have HB := Lib.hid (⟨bx3, by3, hB3⟩ : _ ∧ _ ∧ _)
  clear bx3 by3 hB3
  go_wp2_with fail
  refine (parse_any nm (by omega) w3 (HP.out.1.on HB.out.2.2)).mono ?_
  rintro e w4 ⟨rfl, hb4⟩
  obtain ⟨u, hu⟩ : ∃ u, u = (parseP nm).1 := ⟨_, rfl⟩
  obtain ⟨V, hV⟩ : ∃ V, V = (parseP nm).2 := ⟨_, rfl⟩
  rw [← hu, ← hV]
  have HU := Lib.hid (⟨hu, hV⟩ : _ ∧ _)
  have bx4 := HB.out.1.below hb4
  have by4 := HB.out.2.1.below hb4
  have hB4 := below_on HB.out.2.2 hb4
  clear HB hb4 hu hV
  unfold IdP.v
  go_upto_region 6 with fail
  obtain ⟨q, hq⟩ : ∃ q, q = w4.heap.size := ⟨_, rfl⟩
  obtain ⟨w5, hw5⟩ : ∃ w5, w5 = w4.alloc (.cells #[.int .u8 u.kind, .int .i64 u.seq, .int .i64 u.fmt] 23) := ⟨_, rfl⟩
  have hb5 : Below w4.heap.size w4 w5 := by rw [hw5]; exact below_al (below_d0 w4) _
  have bu5 : BoxI w5 q u := by rw [hw5, hq]; exact BoxI.new w4 u
  rw [← hw5, ← hq]
  have HB := Lib.hid (⟨bx4.below hb5, by4.below hb5, below_on hB4 hb5, bu5⟩ : _ ∧ _ ∧ _ ∧ _)
  clear bx4 by4 hB4 hb5 hw5 hq bu5
  go_wp2_with fail
  refine (rparse_any nm (by omega) w5 (HP.out.1.on HB.out.2.2.1)).mono ?_
  rintro e w6 ⟨rfl, hb6⟩
  rw [← HU.out.1, ← HU.out.2]
  have bx6 := HB.out.1.below hb6
  have by6 := HB.out.2.1.below hb6
  have hB6 := below_on HB.out.2.2.1 hb6
  have bu6 := HB.out.2.2.2.below hb6
  clear HB hb6
  unfold IdP.v
  go_upto_region 7 with fail
  obtain ⟨q2, hq⟩ : ∃ q, q = w6.heap.size := ⟨_, rfl⟩
  obtain ⟨w7, hw7⟩ : ∃ w7, w7 = w6.alloc (.cells #[.int .u8 u.kind, .int .i64 u.seq, .int .i64 u.fmt] 23) := ⟨_, rfl⟩
  have hb7 : Below w6.heap.size w6 w7 := by rw [hw7]; exact below_al (below_d0 w6) _
  have bv7 : BoxI w7 q2 u := by rw [hw7, hq]; exact BoxI.new w6 u
  rw [← hw7, ← hq]
  have bx7 := bx6.below hb7
  have by7 := by6.below hb7
  have bu7 := bu6.below hb7
  have hB7 := below_on hB6 hb7
  clear bx6 by6 hB6 hb7 hw7 hq bu6
  have lx := bx7.lt
  have ly := by7.lt
  have lu := bu7.lt
  have lv := bv7.lt
  obtain ⟨x0, x1, x2⟩ := bx7.cells
  obtain ⟨y0, y1, y2⟩ := by7.cells
  obtain ⟨u0, u1, u2⟩ := bu7.cells
  obtain ⟨v0, v1, v2⟩ := bv7.cells
  have p1 : (N.toList != N.toList) = false := by simp
  have p2 : (E != E) = false := by simp
  have p3 : (V != V) = false := by simp
  obtain ⟨Lb, hLb⟩ : ∃ b, b = decide (LessP x y) := ⟨_, rfl⟩
  obtain ⟨Fd, hFd⟩ : ∃ b, b = foundP l x := ⟨_, rfl⟩
  have p4 : (Lb != Lb) = false := by simp
  have p5 : (Fd != Fd) = false := by simp
  have p6 := id_neq_same u
  have HF := Lib.hid (⟨hLb, hFd⟩ : _ ∧ _)
  have HB := Lib.hid hB7
  clear hLb hFd hB7 bx7 by7 bu7 bv7
  refine wp_region_held_drew (S := (fun W => Below w7.heap.size w7 W)) (by kernel_rfl) (below_dr (below_d0 _)) (fun hHeld => ?_)
  refine take_at (i := 0) (d := 52) (oi := ?o1) (v := ?v1) ?hi1 ?hd1 (by kernel_rfl) (by kernel_rfl) (by kernel_rfl) ?hw1 ?hy1 ?hq1 (by assumption) ?r1
  case hi1 => (simp only [List.getElem?_toArray, List.getElem?_cons_zero]; rfl)
  case hd1 => rfl
  case hw1 => rfl
  case hy1 => ((intro w hSw; (try dsimp only at hSw); go_simp) <;> (with_reducible rfl))
  case hq1 => exact fun _ _ _ h => h
  simp only [List.set_cons_succ, List.set_cons_zero]
  refine take_at (i := 1) (d := 53) (oi := ?o2) (v := ?v2) ?hi2 ?hd2 (by kernel_rfl) (by kernel_rfl) (by kernel_rfl) ?hw2 ?hy2 ?hq2 (by assumption) ?r2
  case hi2 => (simp only [List.getElem?_toArray, List.getElem?_cons_succ, List.getElem?_cons_zero]; rfl)
  case hd2 => rfl
  case hw2 => rfl
  case hy2 => ((intro w hSw; (try dsimp only at hSw); go_simp) <;> (with_reducible rfl))
  case hq2 => exact fun _ _ _ h => h
  simp only [List.set_cons_succ, List.set_cons_zero]
  refine take_at (i := 2) (d := 54) (oi := ?o3) (v := ?v3) ?hi3 ?hd3 (by kernel_rfl) (by kernel_rfl) (by kernel_rfl) ?hw3 ?hy3 ?hq3 (by assumption) ?r3
  case hi3 => (simp only [List.getElem?_toArray, List.getElem?_cons_succ, List.getElem?_cons_zero]; rfl)
  case hd3 => rfl
  case hw3 => rfl
  case hy3 => ((intro w hSw; (try dsimp only at hSw); go_simp) <;> (with_reducible rfl))
  case hq3 => exact fun _ _ _ h => h
  simp only [List.set_cons_succ, List.set_cons_zero]
  refine take_at (i := 3) (d := 55) (oi := ?o4) (v := ?v4) ?hi4 ?hd4 (by kernel_rfl) (by kernel_rfl) (by kernel_rfl) ?hw4 ?hy4 ?hq4 (by assumption) ?r4
  case hi4 => (simp only [List.getElem?_toArray, List.getElem?_cons_succ, List.getElem?_cons_zero]; rfl)
  case hd4 => rfl
  case hw4 => rfl
  case hy4 => ((intro w hSw; (try dsimp only at hSw); go_simp) <;> (with_reducible rfl))
  case hq4 => exact fun _ _ _ h => h
  simp only [List.set_cons_succ, List.set_cons_zero]
  refine take_at (i := 4) (d := 56) (oi := ?o5) (v := ?v5) ?hi5 ?hd5 (by kernel_rfl) (by kernel_rfl) (by kernel_rfl) ?hw5 ?hy5 ?hq5 (by assumption) ?r5
  case hi5 => (simp only [List.getElem?_toArray, List.getElem?_cons_succ, List.getElem?_cons_zero]; rfl)
  case hd5 => rfl
  case hw5 => rfl
  case hy5 => ((intro w hSw; (try dsimp only at hSw); go_simp) <;> (with_reducible rfl))
  case hq5 => exact fun _ _ _ h => h
  simp only [List.set_cons_succ, List.set_cons_zero]
  refine take_at (i := 5) (d := 57) (oi := ?o6) (v := ?v6) ?hi6 ?hd6 (by kernel_rfl) (by kernel_rfl) (by kernel_rfl) ?hw6 ?hy6 ?hq6 (by assumption) ?r6
  case hi6 => (simp only [List.getElem?_toArray, List.getElem?_cons_succ, List.getElem?_cons_zero]; rfl)
  case hd6 => rfl
  case hw6 => rfl
  case hy6 => ((intro w hSw; (try dsimp only at hSw); go_simp) <;> (with_reducible rfl))
  case hq6 => exact fun _ _ _ h => h
  simp only [List.set_cons_succ, List.set_cons_zero]
  refine take_at (i := 6) (d := 58) (oi := ?o7) (v := ?v7) ?hi7 ?hd7 (by kernel_rfl) (by kernel_rfl) (by kernel_rfl) ?hw7 ?hy7 ?hq7 (by assumption) ?r7
  case hi7 => (simp only [List.getElem?_toArray, List.getElem?_cons_succ, List.getElem?_cons_zero]; rfl)
  case hd7 => rfl
  case hw7 => rfl
  case hy7 => ((intro w hSw; (try dsimp only at hSw); go_simp) <;> (with_reducible rfl))
  case hq7 => exact fun _ _ _ h => h
  simp only [List.set_cons_succ, List.set_cons_zero]
  refine take_at (i := 7) (d := 59) (oi := ?o8) (v := ?v8) ?hi8 ?hd8 (by kernel_rfl) (by kernel_rfl) (by kernel_rfl) ?hw8 ?hy8 ?hq8 (by assumption) ?r8
  case hi8 => (simp only [List.getElem?_toArray, List.getElem?_cons_succ, List.getElem?_cons_zero]; rfl)
  case hd8 => rfl
  case hw8 => rfl
  case hy8 => ((intro w hSw; (try dsimp only at hSw); go_simp) <;> (with_reducible rfl))
  case hq8 => exact fun _ _ _ h => h
  simp only [List.set_cons_succ, List.set_cons_zero]
  refine take_at (i := 8) (d := 60) (oi := ?o9) (v := ?v9) ?hi9 ?hd9 (by kernel_rfl) (by kernel_rfl) (by kernel_rfl) ?hw9 ?hy9 ?hq9 (by assumption) ?r9
  case hi9 => (simp only [List.getElem?_toArray, List.getElem?_cons_succ, List.getElem?_cons_zero]; rfl)
  case hd9 => rfl
  case hw9 => rfl
  case hy9 => ((intro w hSw; (try dsimp only at hSw); go_simp) <;> (with_reducible rfl))
  case hq9 => exact fun _ _ _ h => h
  simp only [List.set_cons_succ, List.set_cons_zero]
  refine take_at (i := 9) (d := 61) (oi := ?o10) (v := ?v10) ?hi10 ?hd10 (by kernel_rfl) (by kernel_rfl) (by kernel_rfl) ?hw10 ?hy10 ?hq10 (by assumption) ?r10
  case hi10 => (simp only [List.getElem?_toArray, List.getElem?_cons_succ, List.getElem?_cons_zero]; rfl)
  case hd10 => rfl
  case hw10 => rfl
  case hy10 => ((intro w hSw; (try dsimp only at hSw); have q0 := (Below.cell hSw (p := ⟨q, 0, none⟩) lu).trans u0; have q1 := (Below.cell hSw (p := ⟨q, 1, none⟩) lu).trans u1; have q2 := (Below.cell hSw (p := ⟨q, 2, none⟩) lu).trans u2; clear hSw; go_simp) <;> (with_reducible rfl))
  case hq10 => exact fun _ _ _ h => h
  simp only [List.set_cons_succ, List.set_cons_zero]
  refine take_at (i := 10) (d := 62) (oi := ?o11) (v := ?v11) ?hi11 ?hd11 (by kernel_rfl) (by kernel_rfl) (by kernel_rfl) ?hw11 ?hy11 ?hq11 (by assumption) ?r11
  case hi11 => (simp only [List.getElem?_toArray, List.getElem?_cons_succ, List.getElem?_cons_zero]; rfl)
  case hd11 => rfl
  case hw11 => rfl
  case hy11 => ((intro w hSw; (try dsimp only at hSw); have q0 := (Below.cell hSw (p := ⟨q2, 0, none⟩) lv).trans v0; have q1 := (Below.cell hSw (p := ⟨q2, 1, none⟩) lv).trans v1; have q2 := (Below.cell hSw (p := ⟨q2, 2, none⟩) lv).trans v2; clear hSw; go_simp) <;> (with_reducible rfl))
  case hq11 => exact fun _ _ _ h => h
  simp only [List.set_cons_succ, List.set_cons_zero]
  refine take_at (i := 11) (d := 63) (oi := ?o12) (v := ?v12) ?hi12 ?hd12 (by kernel_rfl) (by kernel_rfl) (by kernel_rfl) ?hw12 ?hy12 ?hq12 (by assumption) ?r12
  case hi12 => (simp only [List.getElem?_toArray, List.getElem?_cons_succ, List.getElem?_cons_zero]; rfl)
  case hd12 => rfl
  case hw12 => rfl
  case hy12 => ((intro w hSw; (try dsimp only at hSw); go_simp) <;> (with_reducible rfl))
  case hq12 => exact fun _ _ _ h => h
  simp only [List.set_cons_succ, List.set_cons_zero]
  refine take_at (i := 12) (d := 64) (oi := ?o13) (v := ?v13) ?hi13 ?hd13 (by kernel_rfl) (by kernel_rfl) (by kernel_rfl) ?hw13 ?hy13 ?hq13 (by assumption) ?r13
  case hi13 => (simp only [List.getElem?_toArray, List.getElem?_cons_succ, List.getElem?_cons_zero]; rfl)
  case hd13 => rfl
  case hw13 => rfl
  case hy13 => ((intro w hSw; (try dsimp only at hSw); go_simp) <;> (with_reducible rfl))
  case hq13 => exact fun _ _ _ h => h
  simp only [List.set_cons_succ, List.set_cons_zero]
  refine take_at (i := 13) (d := 65) (oi := ?o14) (v := ?v14) ?hi14 ?hd14 (by kernel_rfl) (by kernel_rfl) (by kernel_rfl) ?hw14 ?hy14 ?hq14 (by assumption) ?r14
  case hi14 => (simp only [List.getElem?_toArray, List.getElem?_cons_succ, List.getElem?_cons_zero]; rfl)
  case hd14 => rfl
  case hw14 => rfl
  case hy14 => ((intro w hSw; (try dsimp only at hSw); go_simp) <;> (with_reducible rfl))
  case hq14 => exact fun _ _ _ h => h
  simp only [List.set_cons_succ, List.set_cons_zero]
  refine take_at (i := 14) (d := 66) (oi := ?o15) (v := ?v15) ?hi15 ?hd15 (by kernel_rfl) (by kernel_rfl) (by kernel_rfl) ?hw15 ?hy15 ?hq15 (by assumption) ?r15
  case hi15 => (simp only [List.getElem?_toArray, List.getElem?_cons_succ, List.getElem?_cons_zero]; rfl)
  case hd15 => rfl
  case hw15 => rfl
  case hy15 => ((intro w hSw; (try dsimp only at hSw); go_simp) <;> (with_reducible rfl))
  case hq15 => exact fun _ _ _ h => h
  simp only [List.set_cons_succ, List.set_cons_zero]
  refine take_at (i := 15) (d := 67) (oi := ?o16) (v := ?v16) ?hi16 ?hd16 (by kernel_rfl) (by kernel_rfl) (by kernel_rfl) ?hw16 ?hy16 ?hq16 (by assumption) ?r16
  case hi16 => (simp only [List.getElem?_toArray, List.getElem?_cons_succ, List.getElem?_cons_zero]; rfl)
  case hd16 => rfl
  case hw16 => rfl
  case hy16 => ((intro w hSw; (try dsimp only at hSw); go_simp) <;> (with_reducible rfl))
  case hq16 => exact fun _ _ _ h => h
  simp only [List.set_cons_succ, List.set_cons_zero]
  refine take_at (i := 16) (d := 68) (oi := ?o17) (v := ?v17) ?hi17 ?hd17 (by kernel_rfl) (by kernel_rfl) (by kernel_rfl) ?hw17 ?hy17 ?hq17 (by assumption) ?r17
  case hi17 => (simp only [List.getElem?_toArray, List.getElem?_cons_succ, List.getElem?_cons_zero]; rfl)
  case hd17 => rfl
  case hw17 => rfl
  case hy17 => ((intro w hSw; (try dsimp only at hSw); go_simp) <;> (with_reducible rfl))
  case hq17 => exact fun _ _ _ h => h
  simp only [List.set_cons_succ, List.set_cons_zero]
  refine take_at (i := 17) (d := 69) (oi := ?o18) (v := ?v18) ?hi18 ?hd18 (by kernel_rfl) (by kernel_rfl) (by kernel_rfl) ?hw18 ?hy18 ?hq18 (by assumption) ?r18
  case hi18 => (simp only [List.getElem?_toArray, List.getElem?_cons_succ, List.getElem?_cons_zero]; rfl)
  case hd18 => rfl
  case hw18 => rfl
  case hy18 => ((intro w hSw; (try dsimp only at hSw); go_simp) <;> (with_reducible rfl))
  case hq18 => exact fun _ _ _ h => h
  simp only [List.set_cons_succ, List.set_cons_zero]
  refine take_at (i := 18) (d := 70) (oi := ?o19) (v := ?v19) ?hi19 ?hd19 (by kernel_rfl) (by kernel_rfl) (by kernel_rfl) ?hw19 ?hy19 ?hq19 (by assumption) ?r19
  case hi19 => (simp only [List.getElem?_toArray, List.getElem?_cons_succ, List.getElem?_cons_zero]; rfl)
  case hd19 => rfl
  case hw19 => rfl
  case hy19 => ((intro w hSw; (try dsimp only at hSw); go_simp) <;> (with_reducible rfl))
  case hq19 => exact fun _ _ _ h => h
  simp only [List.set_cons_succ, List.set_cons_zero]
  refine take_at (i := 19) (d := 71) (oi := ?o20) (v := ?v20) ?hi20 ?hd20 (by kernel_rfl) (by kernel_rfl) (by kernel_rfl) ?hw20 ?hy20 ?hq20 (by assumption) ?r20
  case hi20 => (simp only [List.getElem?_toArray, List.getElem?_cons_succ, List.getElem?_cons_zero]; rfl)
  case hd20 => rfl
  case hw20 => rfl
  case hy20 => ((intro w hSw; (try dsimp only at hSw); have q0 := (Below.cell hSw (p := ⟨z, 0, none⟩) lx).trans x0; have q1 := (Below.cell hSw (p := ⟨z, 1, none⟩) lx).trans x1; have q2 := (Below.cell hSw (p := ⟨z, 2, none⟩) lx).trans x2; clear hSw; go_simp) <;> (with_reducible rfl))
  case hq20 => exact fun _ _ _ h => h
  simp only [List.set_cons_succ, List.set_cons_zero]
  refine take_at (i := 20) (d := 72) (oi := ?o21) (v := ?v21) ?hi21 ?hd21 (by kernel_rfl) (by kernel_rfl) (by kernel_rfl) ?hw21 ?hy21 ?hq21 (by assumption) ?r21
  case hi21 => (simp only [List.getElem?_toArray, List.getElem?_cons_succ, List.getElem?_cons_zero]; rfl)
  case hd21 => rfl
  case hw21 => rfl
  case hy21 => ((intro w hSw; (try dsimp only at hSw); have q0 := (Below.cell hSw (p := ⟨(z + 1), 0, none⟩) ly).trans y0; have q1 := (Below.cell hSw (p := ⟨(z + 1), 1, none⟩) ly).trans y1; have q2 := (Below.cell hSw (p := ⟨(z + 1), 2, none⟩) ly).trans y2; clear hSw; go_simp) <;> (with_reducible rfl))
  case hq21 => exact fun _ _ _ h => h
  simp only [List.set_cons_succ, List.set_cons_zero]
  refine take_at (i := 22) (d := 74) (oi := ?o22) (v := ?v22) ?hi22 ?hd22 (by kernel_rfl) (by kernel_rfl) (by kernel_rfl) ?hw22 ?hy22 ?hq22 (by assumption) ?r22
  case hi22 => (simp only [List.getElem?_toArray, List.getElem?_cons_succ, List.getElem?_cons_zero]; rfl)
  case hd22 => rfl
  case hw22 => rfl
  case hy22 => ((intro w hSw; (try dsimp only at hSw); have q0 := (Below.cell hSw (p := ⟨z, 0, none⟩) lx).trans x0; have q1 := (Below.cell hSw (p := ⟨z, 1, none⟩) lx).trans x1; have q2 := (Below.cell hSw (p := ⟨z, 2, none⟩) lx).trans x2; clear hSw; go_simp) <;> (with_reducible rfl))
  case hq22 => exact fun _ _ _ h => h
  simp only [List.set_cons_succ, List.set_cons_zero]
  refine take_at (i := 23) (d := 75) (oi := ?o23) (v := ?v23) ?hi23 ?hd23 (by kernel_rfl) (by kernel_rfl) (by kernel_rfl) ?hw23 ?hy23 ?hq23 (by assumption) ?r23
  case hi23 => (simp only [List.getElem?_toArray, List.getElem?_cons_succ, List.getElem?_cons_zero]; rfl)
  case hd23 => rfl
  case hw23 => rfl
  case hy23 => ((intro w hSw; (try dsimp only at hSw); have q0 := (Below.cell hSw (p := ⟨(z + 1), 0, none⟩) ly).trans y0; have q1 := (Below.cell hSw (p := ⟨(z + 1), 1, none⟩) ly).trans y1; have q2 := (Below.cell hSw (p := ⟨(z + 1), 2, none⟩) ly).trans y2; clear hSw; go_simp) <;> (with_reducible rfl))
  case hq23 => exact fun _ _ _ h => h
  simp only [List.set_cons_succ, List.set_cons_zero]
  refine call_at (i := 21) (d := 73) (oi := ?o24) (f := ?f24) (args := ?a24) ?hi24 ?hd24 (by kernel_rfl) ?hw24 ?he24 ?hc24
  case hi24 => (simp only [List.getElem?_toArray, List.getElem?_cons_succ, List.getElem?_cons_zero]; rfl)
  case hd24 => rfl
  case hw24 => rfl
  case he24 => (go_simp; constructor <;> with_reducible rfl)
  refine (less_any x y _).mono ?_
  rintro e wv ⟨rfl, hb1⟩
  rw [← HF.out.1]
  have kb : Below w7.heap.size w7 wv := hHeld.trans (hb1.mono hHeld.size)
  refine ⟨_, rfl, kb, fun hHeld => ?_⟩
  simp only [List.set_cons_succ, List.set_cons_zero]
  refine call_at (i := 24) (d := 76) (oi := ?o25) (f := ?f25) (args := ?a25) ?hi25 ?hd25 (by kernel_rfl) ?hw25 ?he25 ?hc25
  case hi25 => (simp only [List.getElem?_toArray, List.getElem?_cons_succ, List.getElem?_cons_zero]; rfl)
  case hd25 => rfl
  case hw25 => rfl
  case he25 => (go_simp; constructor <;> with_reducible rfl)
  refine (rless_any x y _).mono ?_
  rintro e wv ⟨rfl, hb1⟩
  rw [← HF.out.1]
  have kb : Below w7.heap.size w7 wv := hHeld.trans (hb1.mono hHeld.size)
  refine ⟨_, rfl, kb, fun hHeld => ?_⟩
  simp only [List.set_cons_succ, List.set_cons_zero]
  refine take_at (i := 25) (d := 77) (oi := ?o26) (v := ?v26) ?hi26 ?hd26 (by kernel_rfl) (by kernel_rfl) (by kernel_rfl) ?hw26 ?hy26 ?hq26 (by assumption) ?r26
  case hi26 => (simp only [List.getElem?_toArray, List.getElem?_cons_succ, List.getElem?_cons_zero]; rfl)
  case hd26 => rfl
  case hw26 => rfl
  case hy26 => ((intro w hSw; (try dsimp only at hSw); go_simp) <;> (with_reducible rfl))
  case hq26 => exact fun _ _ _ h => h
  simp only [List.set_cons_succ, List.set_cons_zero]
  refine take_at (i := 26) (d := 78) (oi := ?o27) (v := ?v27) ?hi27 ?hd27 (by kernel_rfl) (by kernel_rfl) (by kernel_rfl) ?hw27 ?hy27 ?hq27 (by assumption) ?r27
  case hi27 => (simp only [List.getElem?_toArray, List.getElem?_cons_succ, List.getElem?_cons_zero]; rfl)
  case hd27 => rfl
  case hw27 => rfl
  case hy27 => ((intro w hSw; (try dsimp only at hSw); go_simp) <;> (with_reducible rfl))
  case hq27 => exact fun _ _ _ h => h
  simp only [List.set_cons_succ, List.set_cons_zero]
  refine take_at (i := 27) (d := 79) (oi := ?o28) (v := ?v28) ?hi28 ?hd28 (by kernel_rfl) (by kernel_rfl) (by kernel_rfl) ?hw28 ?hy28 ?hq28 (by assumption) ?r28
  case hi28 => (simp only [List.getElem?_toArray, List.getElem?_cons_succ, List.getElem?_cons_zero]; rfl)
  case hd28 => rfl
  case hw28 => rfl
  case hy28 => ((intro w hSw; (try dsimp only at hSw); go_simp) <;> (with_reducible rfl))
  case hq28 => exact fun _ _ _ h => h
  simp only [List.set_cons_succ, List.set_cons_zero]
  refine take_at (i := 28) (d := 80) (oi := ?o29) (v := ?v29) ?hi29 ?hd29 (by kernel_rfl) (by kernel_rfl) (by kernel_rfl) ?hw29 ?hy29 ?hq29 (by assumption) ?r29
  case hi29 => (simp only [List.getElem?_toArray, List.getElem?_cons_succ, List.getElem?_cons_zero]; rfl)
  case hd29 => rfl
  case hw29 => rfl
  case hy29 => ((intro w hSw; (try dsimp only at hSw); go_simp) <;> (with_reducible rfl))
  case hq29 => exact fun _ _ _ h => h
  simp only [List.set_cons_succ, List.set_cons_zero]
  refine take_at (i := 29) (d := 81) (oi := ?o30) (v := ?v30) ?hi30 ?hd30 (by kernel_rfl) (by kernel_rfl) (by kernel_rfl) ?hw30 ?hy30 ?hq30 (by assumption) ?r30
  case hi30 => (simp only [List.getElem?_toArray, List.getElem?_cons_succ, List.getElem?_cons_zero]; rfl)
  case hd30 => rfl
  case hw30 => rfl
  case hy30 => ((intro w hSw; (try dsimp only at hSw); have q0 := (Below.cell hSw (p := ⟨z, 0, none⟩) lx).trans x0; have q1 := (Below.cell hSw (p := ⟨z, 1, none⟩) lx).trans x1; have q2 := (Below.cell hSw (p := ⟨z, 2, none⟩) lx).trans x2; clear hSw; go_simp) <;> (with_reducible rfl))
  case hq30 => exact fun _ _ _ h => h
  simp only [List.set_cons_succ, List.set_cons_zero]
  refine take_at (i := 31) (d := 83) (oi := ?o31) (v := ?v31) ?hi31 ?hd31 (by kernel_rfl) (by kernel_rfl) (by kernel_rfl) ?hw31 ?hy31 ?hq31 (by assumption) ?r31
  case hi31 => (simp only [List.getElem?_toArray, List.getElem?_cons_succ, List.getElem?_cons_zero]; rfl)
  case hd31 => rfl
  case hw31 => rfl
  case hy31 => ((intro w hSw; (try dsimp only at hSw); go_simp) <;> (with_reducible rfl))
  case hq31 => exact fun _ _ _ h => h
  simp only [List.set_cons_succ, List.set_cons_zero]
  refine take_at (i := 32) (d := 84) (oi := ?o32) (v := ?v32) ?hi32 ?hd32 (by kernel_rfl) (by kernel_rfl) (by kernel_rfl) ?hw32 ?hy32 ?hq32 (by assumption) ?r32
  case hi32 => (simp only [List.getElem?_toArray, List.getElem?_cons_succ, List.getElem?_cons_zero]; rfl)
  case hd32 => rfl
  case hw32 => rfl
  case hy32 => ((intro w hSw; (try dsimp only at hSw); have q0 := (Below.cell hSw (p := ⟨z, 0, none⟩) lx).trans x0; have q1 := (Below.cell hSw (p := ⟨z, 1, none⟩) lx).trans x1; have q2 := (Below.cell hSw (p := ⟨z, 2, none⟩) lx).trans x2; clear hSw; go_simp) <;> (with_reducible rfl))
  case hq32 => exact fun _ _ _ h => h
  simp only [List.set_cons_succ, List.set_cons_zero]
  refine call_at (i := 30) (d := 82) (oi := ?o33) (f := ?f33) (args := ?a33) ?hi33 ?hd33 (by kernel_rfl) ?hw33 ?he33 ?hc33
  case hi33 => (simp only [List.getElem?_toArray, List.getElem?_cons_succ, List.getElem?_cons_zero]; rfl)
  case hd33 => rfl
  case hw33 => rfl
  case he33 => (go_simp; constructor <;> with_reducible rfl)
  refine (find_any x HP.out.2.1 A n c l _ (HP.out.1.on (below_on HB.out hHeld)) (HP.out.2.2.1.on (below_on HB.out hHeld) (Below.size (below_on HB.out hHeld))) (by omega)).mono ?_
  rintro e wv ⟨rfl, hb1⟩
  rw [← HF.out.2]
  have kb : Below w7.heap.size w7 wv := hHeld.trans (hb1.mono hHeld.size)
  refine ⟨_, rfl, kb, fun hHeld => ?_⟩
  simp only [List.set_cons_succ, List.set_cons_zero]
  refine call_at (i := 33) (d := 85) (oi := ?o34) (f := ?f34) (args := ?a34) ?hi34 ?hd34 (by kernel_rfl) ?hw34 ?he34 ?hc34
  case hi34 => (simp only [List.getElem?_toArray, List.getElem?_cons_succ, List.getElem?_cons_zero]; rfl)
  case hd34 => rfl
  case hw34 => rfl
  case he34 => (go_simp; constructor <;> with_reducible rfl)
  refine (rfind_any x A n c l _ (HP.out.1.on (below_on HB.out hHeld)) (HP.out.2.2.1.on (below_on HB.out hHeld) (Below.size (below_on HB.out hHeld))) (by omega)).mono ?_
  rintro e wv ⟨rfl, hb1⟩
  rw [← HF.out.2]
  have kb : Below w7.heap.size w7 wv := hHeld.trans (hb1.mono hHeld.size)
  refine ⟨_, rfl, kb, fun hHeld => ?_⟩
  simp only [List.set_cons_succ, List.set_cons_zero]
  refine take_at (i := 34) (d := 86) (oi := ?o35) (v := ?v35) ?hi35 ?hd35 (by kernel_rfl) (by kernel_rfl) (by kernel_rfl) ?hw35 ?hy35 ?hq35 (by assumption) ?r35
  case hi35 => (simp only [List.getElem?_toArray, List.getElem?_cons_succ, List.getElem?_cons_zero]; rfl)
  case hd35 => rfl
  case hw35 => rfl
  case hy35 => ((intro w hSw; (try dsimp only at hSw); go_simp) <;> (with_reducible rfl))
  case hq35 => exact fun _ _ _ h => h
  simp only [List.set_cons_succ, List.set_cons_zero]
  refine take_at (i := 35) (d := 87) (oi := ?o36) (v := ?v36) ?hi36 ?hd36 (by kernel_rfl) (by kernel_rfl) (by kernel_rfl) ?hw36 ?hy36 ?hq36 (by assumption) ?r36
  case hi36 => (simp only [List.getElem?_toArray, List.getElem?_cons_succ, List.getElem?_cons_zero]; rfl)
  case hd36 => rfl
  case hw36 => rfl
  case hy36 => ((intro w hSw; (try dsimp only at hSw); go_simp) <;> (with_reducible rfl))
  case hq36 => exact fun _ _ _ h => h
  simp only [List.set_cons_succ, List.set_cons_zero]
  refine wpAnyH_done (by kernel_rfl) ?_ _
  have kb := below_on HB.out hHeld
  have H8 := Lib.hid kb
  clear kb hHeld HB x0 x1 x2 y0 y1 y2 u0 u1 u2 v0 v1 v2 lx ly lu lv p6
  go_wp2_with fail
  refine (sortAll_any A2 m c2 ks _ (HP.out.2.2.2.1.on H8.out H8.out.size) (by omega)).mono ?_
  rintro e w9 ⟨⟨B1, d1, r1, rfl, hd1, hr1, ho1, hp1⟩, hb9⟩
  have H9 := Lib.hid (⟨hr1, ho1, hp1, below_on H8.out hb9⟩ : _ ∧ _ ∧ _ ∧ _)
  clear hr1 ho1 hp1 hb9
  go_wp2_with fail
  refine (rsort_any A2 m c2 ks w9 (HP.out.2.2.2.1.on H9.out.2.2.2 H9.out.2.2.2.size) (by omega)).mono ?_
  rintro e w10 ⟨⟨B2, d2, r2, rfl, hd2, hr2, ho2, hp2⟩, hb10⟩
  obtain rfl := Sym.told LEo.anti H9.out.2.1 ho2 (H9.out.2.2.1.trans hp2.symm)
  have H10 := Lib.hid (⟨H9.out.1.on hb10 hb10.size, hr2, below_on H9.out.2.2.2 hb10⟩ : _ ∧ _ ∧ _)
  clear hr2 ho2 hp2 hb10
  go_wp2_with fail
  refine (idents_true B1 m d1 r1 B2 d2 w10 H10.out.1 H10.out.2.1 (by omega)).mono ?_
  rintro e w11 ⟨rfl, hb11⟩
  have H11 := Lib.hid (below_on H10.out.2.2 hb11)
  clear hb11
  go_wp2_with fail
  refine (rest_any A n c l A2 m c2 ks w11 (HP.out.1.on H11.out) (HP.out.2.2.1.on H11.out H11.out.size) (HP.out.2.2.2.1.on H11.out H11.out.size) HP.out.2.2.2.2 (fun f hf => by have := HN.out f hf; omega) (by omega) (by omega)).mono ?_
  rintro e w12 ⟨⟨v1, rfl, hrow1⟩, hb12⟩
  obtain ⟨C1, k1, rfl, hst1⟩ := Strs.of_own hrow1
  have H12 := Lib.hid (⟨hst1, below_on H11.out hb12⟩ : _ ∧ _)
  have hRb : (restP l ks).length ≤ 40 := by
    refine Nat.le_trans (restN_le _ _) ?_
    rw [calls_len, HP.out.2.2.1.1]
    exact hn
  obtain ⟨R, hR⟩ : ∃ R, R = (restP l ks).length := ⟨_, rfl⟩
  rw [← hR] at H12 hRb ⊢
  have HR := Lib.hid hR
  clear hst1 hrow1 hb12 hR
  go_wp2_with fail
  refine (rrest_any A n c l A2 m c2 ks w12 (HP.out.1.on H12.out.2) (HP.out.2.2.1.on H12.out.2 H12.out.2.size) (HP.out.2.2.2.1.on H12.out.2 H12.out.2.size) (by omega) (by omega)).mono ?_
  rintro e w13 ⟨⟨v2, rfl, hrow2⟩, hb13⟩
  obtain ⟨C2, k2, rfl, hst2⟩ := Strs.of_own hrow2
  rw [← HR.out] at hst2 ⊢
  have H13 := Lib.hid (⟨H12.out.1.on hb13 hb13.size, hst2, below_on H12.out.2 hb13⟩ : _ ∧ _ ∧ _)
  clear hst2 hrow2 hb13
  go_wp2_with fail
  refine (strings_any C1 R k1 (restP l ks) C2 R k2 (restP l ks) w13 H13.out.1 H13.out.2.1 (by omega) (by omega)).mono ?_
  rintro e w14 ⟨⟨y', rfl, hy'⟩, hb14⟩
  obtain rfl : y' = true := hy'.2 rfl
  have H14 := Lib.hid (below_on H13.out.2.2 hb14)
  clear hb14 hy'
  go_wp2_with fail
  refine (wakes_true _ (HP.out.1.on H14.out)).mono ?_
  rintro e w15 ⟨rfl, hb15⟩
  have H15 := Lib.hid (below_on H14.out hb15)
  clear hb15
  go_wp2_with fail
  go_ret
  exact ⟨rfl, H15.out⟩

end Go.Proofs.YtbfdjjkphmchgaaDoor
