/-
  moultlaw05.NamesNot: it returns true.
-/
import Derived.Test.YtfalbbeehlaccaaDoorBackLaw
import Derived.Laws.IdiomStrings
import Derived.StillTailTactics
namespace Go.Proofs.YtfalbbeehlaccaaDoor
open Go.RowKit Go.Maps

theorem cat_run (a b : ByteArray) (h : a.size + b.size ≤ 16000000000) : ∃ t : ByteArray, t.size = a.size + b.size ∧ a ++ b = t ∧ ¬ 9223372036854775807 < a.size + b.size :=
  ⟨a ++ b, by simp, rfl, by omega⟩
theorem sl_to (s : ByteArray) (q : Int) (h : 0 ≤ q ∧ q ≤ (s.size : Int)) : ∃ t : ByteArray, t.size ≤ s.size ∧ ∀ w, (Instr.slice 9 (.string s) none (some (.int .i64 q)) none).run Tryd.prog w = .ok (.string t) w := by
  refine ⟨s.extract 0 q.toNat, by simp [ByteArray.size_extract]; omega, fun w => ?_⟩
  rw [run_slice_string_to_if w _ s _ _ Tryd.underlying9, if_pos h]
theorem sl_from (s : ByteArray) (q : Int) (h : 0 ≤ q ∧ q ≤ (s.size : Int)) : ∃ t : ByteArray, t.size ≤ s.size ∧ ∀ w, (Instr.slice 9 (.string s) (some (.int .i64 q)) none none).run Tryd.prog w = .ok (.string t) w := by
  refine ⟨s.extract q.toNat s.size, by simp [ByteArray.size_extract], fun w => ?_⟩
  rw [run_slice_string_from_if w _ s _ _ Tryd.underlying9, if_pos h]
theorem conv_one (w : World) (c : Int) (hc : 0 ≤ c ∧ c ≤ 255) : ∃ t : ByteArray, t.size = 1 ∧ (convert 44 9 (.slice (some ⟨w.heap.size, 0, none⟩) 1 1)).run Tryd.prog (w.alloc (.cells #[.int .u8 c] 5)) = .ok (.string t) (w.alloc (.cells #[.int .u8 c] 5)) := by
  refine ⟨⟨#[UInt8.ofNat c.toNat]⟩, rfl, ?_⟩
  refine run_convert_bytes_back (l := [UInt8.ofNat c.toNat]) _ _ _ _ _ 1 Tryd.underlying44 Tryd.underlying5 Tryd.underlying9 ?_
  intro j hj
  obtain rfl : j = 0 := by simpa using hj
  show (w.alloc (.cells #[.int .u8 c] 5)).cell? ⟨w.heap.size, 0 + 0, none⟩ = _
  rw [cell_of_row _ _ _ _ _ _ (World.alloc_heap_new w _)]
  have e : (((UInt8.ofNat c.toNat).toNat : Nat) : Int) = c := by
    rw [UInt8.toNat_ofNat_of_lt' (by simp [UInt8.size]; omega)]
    omega
  simp
  omega
theorem tmod_low (a : Int) {n : Nat} (hn : 0 < n) : ∃ q : Int, a.tmod n = q ∧ -(n : Int) < q ∧ q < n :=
  ⟨_, rfl, Int.lt_tmod_of_pos a (by omega), Int.tmod_lt_of_pos a (by omega)⟩
theorem tmod_pos (a : Int) {n : Nat} (hn : 0 < n) (ha : 0 ≤ a) : ∃ q : Int, a.tmod n = q ∧ 0 ≤ q ∧ q < n :=
  ⟨_, rfl, Int.tmod_nonneg _ ha, Int.tmod_lt_of_pos a (by omega)⟩
theorem name_size2 (x : IdP) : (nameP x).size ≤ 1100000000 := by
  unfold nameP
  split
  · rename_i h
    show (txtP x).toArray.size ≤ _
    rw [List.size_toArray]
    rcases h with ⟨hk, _, _⟩ | ⟨hk, h1, h2, hf⟩
    · unfold txtP
      rcases hk with hk | hk
      · rw [if_pos hk]; simp
      · rw [if_neg (by omega), if_pos hk]; simp
    · rw [txt_seg ⟨h1, h2⟩ hk hf]
      have h3 := nDigits_le x.seq.toNat
      simp only [List.length_cons, List.length_append, List.length_nil, Lib.decDigits_length]
      omega
  · show 0 ≤ _; omega
theorem name_pos {x : IdP} (h : MayP x) : 0 < (nameP x).size := by
  rw [(name_yes h).1]
  show 0 < (txtP x).toArray.size
  rw [List.size_toArray]
  rcases h with ⟨hk, _, _⟩ | ⟨hk, h1, h2, hf⟩
  · unfold txtP
    rcases hk with hk | hk
    · rw [if_pos hk]; decide
    · rw [if_neg (by omega), if_pos hk]; decide
  · rw [txt_seg ⟨h1, h2⟩ hk hf]; simp

set_option maxRecDepth 100000 in
set_option maxHeartbeats 4000000 in
theorem not_all (x : IdP) (at_ by_ : Int) (w : World) (hP : Pow w) (hx : x.Ok) (hb : 0 ≤ by_ ∧ by_ ≤ 255) : Calls Tryd.prog 7 #[x.v, .int .i64 at_, .int .u8 by_] w fun e w' => e = .returned (.bool true) ∧ Below w.heap.size w w' := by
  have HP := Lib.hid (⟨hP, hx⟩ : _ ∧ _)
  clear hP hx
  go_enter Tryd.func7, Tryd.ntmps7
  unfold IdP.v
  go_wp2_with fail
  obtain ⟨z, hz⟩ : ∃ z, z = w.heap.size := ⟨_, rfl⟩
  obtain ⟨w0, hw0⟩ : ∃ w0, w0 = w.alloc (.cells #[.int .u8 x.kind, .int .i64 x.seq, .int .i64 x.fmt] 23) := ⟨_, rfl⟩
  have hB0 : Below w.heap.size w w0 := by rw [hw0]; exact below_al (below_d0 w) _
  have bx0 : BoxI w0 z x := by rw [hw0, hz]; exact BoxI.new w x
  rw [← hw0, ← hz]
  clear hw0 hz
  refine (name_any x w0 (HP.out.1.on hB0) HP.out.2).mono ?_
  rintro e w1 ⟨rfl, hb1⟩
  have bx1 := bx0.below hb1
  have hB1 := below_on hB0 hb1
  clear bx0 hB0 hb1
  by_cases hM : MayP x
  · obtain ⟨N, hN⟩ : ∃ N, N = nameP x := ⟨_, rfl⟩
    have hE : errP x = 0 := if_pos hM
    have hpos : 0 < N.size := by rw [hN]; exact name_pos hM
    have hle : N.size ≤ 1100000000 := by rw [hN]; exact name_size2 x
    rw [hE, ← hN]
    obtain ⟨q, hq, q0, q1⟩ := tmod_low at_ hpos
    obtain ⟨j, hj, j0, j1⟩ := tmod_pos (q + N.size) hpos (by omega)
    have hn0 : ¬ (N.size : Int) = 0 := by omega
    have hn1 : ¬ N.size = 0 := by omega
    have hn2 : ((N.size : Int) == 0) = false := beq_eq_false_iff_ne.2 hn0
    have hw : IntKind.i64.wrap (q + (N.size : Int)) = q + (N.size : Int) := by rw [IntKind.wrap_i64] <;> omega
    obtain ⟨TA, sA, rA⟩ := sl_to N j (by omega)
    obtain ⟨TC, sC, rC⟩ := sl_from N j (by omega)
    obtain ⟨TD, sD, rD⟩ := sl_from N (j + 1) (by omega)
    have hw1 : IntKind.i64.wrap (j + 1) = j + 1 := by rw [IntKind.wrap_i64] <;> omega
    obtain ⟨C, sC1, rC1⟩ := conv_one w1 by_ hb
    obtain ⟨TB, sB, rB, uB⟩ := cat_run TA C (by omega)
    obtain ⟨T1, s1, r1, u1⟩ := cat_run TB TC (by omega)
    obtain ⟨T2, s2, r2, u2⟩ := cat_run TA TD (by omega)
    obtain ⟨T3, s3, r3, u3⟩ := cat_run TB TD (by omega)
    have HX := Lib.hid (⟨hM, hN⟩ : _ ∧ _)
    have HS := Lib.hid (show T1.size ≤ 3000000000 ∧ T2.size ≤ 3000000000 ∧ T3.size ≤ 3000000000 by omega)
    clear hM hN hE s1 s2 s3 sB sA sC sD sC1
    go_upto_region 8 with fail
    obtain ⟨w2, hw2⟩ : ∃ w2, w2 = w1.alloc (.cells #[.int .u8 by_] 5) := ⟨_, rfl⟩
    have hB2 : Below w.heap.size w w2 := by rw [hw2]; exact below_al hB1 _
    have bx2 : BoxI w2 z x := by rw [hw2]; exact bx1.below (below_al (below_d0 _) _)
    rw [← hw2]
    clear hw2 hB1 bx1 rC1
    have HB2 := Lib.hid (⟨hB2, bx2⟩ : _ ∧ _)
    clear hB2 bx2
    go_cut [70, 71, 72] (fun s70 s71 s72 wx => ∃ g, s70 = .slice (some ⟨g, 0, none⟩) 3 3 ∧ s71 = .int .i64 3 ∧ s72 = .int .i64 0 ∧ Strs wx wx.heap.size (some ⟨g, 0, none⟩) 3 [T1, T2, T3] ∧ Below w2.heap.size w2 wx)
    case first =>
      refine wp_region_held_drew (S := (fun W => Below w2.heap.size w2 W)) (by kernel_rfl) (below_dr (below_d0 _)) (fun hHeld => ?_)
      refine take_at (i := 0) (d := 43) (oi := ?o1) (v := ?v1) ?hi1 ?hd1 (by kernel_rfl) (by kernel_rfl) (by kernel_rfl) ?hw1 ?hy1 ?hq1 (by assumption) ?r1
      case hi1 => (simp only [List.getElem?_toArray, List.getElem?_cons_zero]; rfl)
      case hd1 => rfl
      case hw1 => rfl
      case hy1 => ((intro w hSw; (try dsimp only at hSw); go_simp) <;> (with_reducible rfl))
      case hq1 => exact fun _ _ _ h => h
      simp only [List.set_cons_succ, List.set_cons_zero]
      refine take_at (i := 1) (d := 44) (oi := ?o2) (v := ?v2) ?hi2 ?hd2 (by kernel_rfl) (by kernel_rfl) (by kernel_rfl) ?hw2 ?hy2 ?hq2 (by assumption) ?r2
      case hi2 => (simp only [List.getElem?_toArray, List.getElem?_cons_succ, List.getElem?_cons_zero]; rfl)
      case hd2 => rfl
      case hw2 => rfl
      case hy2 => ((intro w hSw; (try dsimp only at hSw); go_simp) <;> (with_reducible rfl))
      case hq2 => exact fun _ _ _ h => h
      simp only [List.set_cons_succ, List.set_cons_zero]
      refine take_at (i := 2) (d := 45) (oi := ?o3) (v := ?v3) ?hi3 ?hd3 (by kernel_rfl) (by kernel_rfl) (by kernel_rfl) ?hw3 ?hy3 ?hq3 (by assumption) ?r3
      case hi3 => (simp only [List.getElem?_toArray, List.getElem?_cons_succ, List.getElem?_cons_zero]; rfl)
      case hd3 => rfl
      case hw3 => rfl
      case hy3 => ((intro w hSw; (try dsimp only at hSw); go_simp) <;> (with_reducible rfl))
      case hq3 => exact fun _ _ _ h => h
      simp only [List.set_cons_succ, List.set_cons_zero]
      refine take_at (i := 3) (d := 46) (oi := ?o4) (v := ?v4) ?hi4 ?hd4 (by kernel_rfl) (by kernel_rfl) (by kernel_rfl) ?hw4 ?hy4 ?hq4 (by assumption) ?r4
      case hi4 => (simp only [List.getElem?_toArray, List.getElem?_cons_succ, List.getElem?_cons_zero]; rfl)
      case hd4 => rfl
      case hw4 => rfl
      case hy4 => ((intro w hSw; (try dsimp only at hSw); go_simp) <;> (with_reducible rfl))
      case hq4 => exact fun _ _ _ h => h
      simp only [List.set_cons_succ, List.set_cons_zero]
      refine take_at (i := 4) (d := 47) (oi := ?o5) (v := ?v5) ?hi5 ?hd5 (by kernel_rfl) (by kernel_rfl) (by kernel_rfl) ?hw5 ?hy5 ?hq5 (by assumption) ?r5
      case hi5 => (simp only [List.getElem?_toArray, List.getElem?_cons_succ, List.getElem?_cons_zero]; rfl)
      case hd5 => rfl
      case hw5 => rfl
      case hy5 => ((intro w hSw; (try dsimp only at hSw); go_simp) <;> (with_reducible rfl))
      case hq5 => exact fun _ _ _ h => h
      simp only [List.set_cons_succ, List.set_cons_zero]
      refine take_at (i := 5) (d := 48) (oi := ?o6) (v := ?v6) ?hi6 ?hd6 (by kernel_rfl) (by kernel_rfl) (by kernel_rfl) ?hw6 ?hy6 ?hq6 (by assumption) ?r6
      case hi6 => (simp only [List.getElem?_toArray, List.getElem?_cons_succ, List.getElem?_cons_zero]; rfl)
      case hd6 => rfl
      case hw6 => rfl
      case hy6 => ((intro w hSw; (try dsimp only at hSw); go_simp) <;> (with_reducible rfl))
      case hq6 => exact fun _ _ _ h => h
      simp only [List.set_cons_succ, List.set_cons_zero]
      refine take_at (i := 6) (d := 49) (oi := ?o7) (v := ?v7) ?hi7 ?hd7 (by kernel_rfl) (by kernel_rfl) (by kernel_rfl) ?hw7 ?hy7 ?hq7 (by assumption) ?r7
      case hi7 => (simp only [List.getElem?_toArray, List.getElem?_cons_succ, List.getElem?_cons_zero]; rfl)
      case hd7 => rfl
      case hw7 => rfl
      case hy7 => ((intro w hSw; (try dsimp only at hSw); go_simp) <;> (with_reducible rfl))
      case hq7 => exact fun _ _ _ h => h
      simp only [List.set_cons_succ, List.set_cons_zero]
      refine take_at (i := 7) (d := 50) (oi := ?o8) (v := ?v8) ?hi8 ?hd8 (by kernel_rfl) (by kernel_rfl) (by kernel_rfl) ?hw8 ?hy8 ?hq8 (by assumption) ?r8
      case hi8 => (simp only [List.getElem?_toArray, List.getElem?_cons_succ, List.getElem?_cons_zero]; rfl)
      case hd8 => rfl
      case hw8 => rfl
      case hy8 => ((intro w hSw; (try dsimp only at hSw); go_simp) <;> (with_reducible rfl))
      case hq8 => exact fun _ _ _ h => h
      simp only [List.set_cons_succ, List.set_cons_zero]
      refine take_at (i := 8) (d := 51) (oi := ?o9) (v := ?v9) ?hi9 ?hd9 (by kernel_rfl) (by kernel_rfl) (by kernel_rfl) ?hw9 ?hy9 ?hq9 (by assumption) ?r9
      case hi9 => (simp only [List.getElem?_toArray, List.getElem?_cons_succ, List.getElem?_cons_zero]; rfl)
      case hd9 => rfl
      case hw9 => rfl
      case hy9 => ((intro w hSw; (try dsimp only at hSw); go_simp) <;> (with_reducible rfl))
      case hq9 => exact fun _ _ _ h => h
      simp only [List.set_cons_succ, List.set_cons_zero]
      refine take_at (i := 9) (d := 52) (oi := ?o10) (v := ?v10) ?hi10 ?hd10 (by kernel_rfl) (by kernel_rfl) (by kernel_rfl) ?hw10 ?hy10 ?hq10 (by assumption) ?r10
      case hi10 => (simp only [List.getElem?_toArray, List.getElem?_cons_succ, List.getElem?_cons_zero]; rfl)
      case hd10 => rfl
      case hw10 => rfl
      case hy10 => ((intro w hSw; (try dsimp only at hSw); go_simp) <;> (with_reducible rfl))
      case hq10 => exact fun _ _ _ h => h
      simp only [List.set_cons_succ, List.set_cons_zero]
      refine take_at (i := 10) (d := 53) (oi := ?o11) (v := ?v11) ?hi11 ?hd11 (by kernel_rfl) (by kernel_rfl) (by kernel_rfl) ?hw11 ?hy11 ?hq11 (by assumption) ?r11
      case hi11 => (simp only [List.getElem?_toArray, List.getElem?_cons_succ, List.getElem?_cons_zero]; rfl)
      case hd11 => rfl
      case hw11 => rfl
      case hy11 => ((intro w hSw; (try dsimp only at hSw); go_simp) <;> (with_reducible rfl))
      case hq11 => exact fun _ _ _ h => h
      simp only [List.set_cons_succ, List.set_cons_zero]
      refine take_at (i := 11) (d := 54) (oi := ?o12) (v := ?v12) ?hi12 ?hd12 (by kernel_rfl) (by kernel_rfl) (by kernel_rfl) ?hw12 ?hy12 ?hq12 (by assumption) ?r12
      case hi12 => (simp only [List.getElem?_toArray, List.getElem?_cons_succ, List.getElem?_cons_zero]; rfl)
      case hd12 => rfl
      case hw12 => rfl
      case hy12 => ((intro w hSw; (try dsimp only at hSw); go_simp) <;> (with_reducible rfl))
      case hq12 => exact fun _ _ _ h => h
      simp only [List.set_cons_succ, List.set_cons_zero]
      refine take_at (i := 12) (d := 55) (oi := ?o13) (v := ?v13) ?hi13 ?hd13 (by kernel_rfl) (by kernel_rfl) (by kernel_rfl) ?hw13 ?hy13 ?hq13 (by assumption) ?r13
      case hi13 => (simp only [List.getElem?_toArray, List.getElem?_cons_succ, List.getElem?_cons_zero]; rfl)
      case hd13 => rfl
      case hw13 => rfl
      case hy13 => ((intro w hSw; (try dsimp only at hSw); go_simp) <;> (with_reducible rfl))
      case hq13 => exact fun _ _ _ h => h
      simp only [List.set_cons_succ, List.set_cons_zero]
      refine take_at (i := 13) (d := 56) (oi := ?o14) (v := ?v14) ?hi14 ?hd14 (by kernel_rfl) (by kernel_rfl) (by kernel_rfl) ?hw14 ?hy14 ?hq14 (by assumption) ?r14
      case hi14 => (simp only [List.getElem?_toArray, List.getElem?_cons_succ, List.getElem?_cons_zero]; rfl)
      case hd14 => rfl
      case hw14 => rfl
      case hy14 => ((intro w hSw; (try dsimp only at hSw); go_simp) <;> (with_reducible rfl))
      case hq14 => exact fun _ _ _ h => h
      simp only [List.set_cons_succ, List.set_cons_zero]
      refine take_at (i := 14) (d := 57) (oi := ?o15) (v := ?v15) ?hi15 ?hd15 (by kernel_rfl) (by kernel_rfl) (by kernel_rfl) ?hw15 ?hy15 ?hq15 (by assumption) ?r15
      case hi15 => (simp only [List.getElem?_toArray, List.getElem?_cons_succ, List.getElem?_cons_zero]; rfl)
      case hd15 => rfl
      case hw15 => rfl
      case hy15 => ((intro w hSw; (try dsimp only at hSw); go_simp) <;> (with_reducible rfl))
      case hq15 => exact fun _ _ _ h => h
      simp only [List.set_cons_succ, List.set_cons_zero]
      refine take_at (i := 15) (d := 58) (oi := ?o16) (v := ?v16) ?hi16 ?hd16 (by kernel_rfl) (by kernel_rfl) (by kernel_rfl) ?hw16 ?hy16 ?hq16 (by assumption) ?r16
      case hi16 => (simp only [List.getElem?_toArray, List.getElem?_cons_succ, List.getElem?_cons_zero]; rfl)
      case hd16 => rfl
      case hw16 => rfl
      case hy16 => ((intro w hSw; (try dsimp only at hSw); go_simp) <;> (with_reducible rfl))
      case hq16 => exact fun _ _ _ h => h
      simp only [List.set_cons_succ, List.set_cons_zero]
      refine take_at (i := 16) (d := 59) (oi := ?o17) (v := ?v17) ?hi17 ?hd17 (by kernel_rfl) (by kernel_rfl) (by kernel_rfl) ?hw17 ?hy17 ?hq17 (by assumption) ?r17
      case hi17 => (simp only [List.getElem?_toArray, List.getElem?_cons_succ, List.getElem?_cons_zero]; rfl)
      case hd17 => rfl
      case hw17 => rfl
      case hy17 => ((intro w hSw; (try dsimp only at hSw); go_simp) <;> (with_reducible rfl))
      case hq17 => exact fun _ _ _ h => h
      simp only [List.set_cons_succ, List.set_cons_zero]
      refine take_at (i := 17) (d := 60) (oi := ?o18) (v := ?v18) ?hi18 ?hd18 (by kernel_rfl) (by kernel_rfl) (by kernel_rfl) ?hw18 ?hy18 ?hq18 (by assumption) ?r18
      case hi18 => (simp only [List.getElem?_toArray, List.getElem?_cons_succ, List.getElem?_cons_zero]; rfl)
      case hd18 => rfl
      case hw18 => rfl
      case hy18 => ((intro w hSw; (try dsimp only at hSw); go_simp) <;> (with_reducible rfl))
      case hq18 => exact fun _ _ _ h => h
      simp only [List.set_cons_succ, List.set_cons_zero]
      refine take_at (i := 18) (d := 61) (oi := ?o19) (v := ?v19) ?hi19 ?hd19 (by kernel_rfl) (by kernel_rfl) (by kernel_rfl) ?hw19 ?hy19 ?hq19 (by assumption) ?r19
      case hi19 => (simp only [List.getElem?_toArray, List.getElem?_cons_succ, List.getElem?_cons_zero]; rfl)
      case hd19 => rfl
      case hw19 => rfl
      case hy19 => ((intro w hSw; (try dsimp only at hSw); go_simp) <;> (with_reducible rfl))
      case hq19 => exact fun _ _ _ h => h
      simp only [List.set_cons_succ, List.set_cons_zero]
      refine take_at (i := 19) (d := 62) (oi := ?o20) (v := ?v20) ?hi20 ?hd20 (by kernel_rfl) (by kernel_rfl) (by kernel_rfl) ?hw20 ?hy20 ?hq20 (by assumption) ?r20
      case hi20 => (simp only [List.getElem?_toArray, List.getElem?_cons_succ, List.getElem?_cons_zero]; rfl)
      case hd20 => rfl
      case hw20 => rfl
      case hy20 => ((intro w hSw; (try dsimp only at hSw); go_simp) <;> (with_reducible rfl))
      case hq20 => exact fun _ _ _ h => h
      simp only [List.set_cons_succ, List.set_cons_zero]
      refine take_at (i := 20) (d := 63) (oi := ?o21) (v := ?v21) ?hi21 ?hd21 (by kernel_rfl) (by kernel_rfl) (by kernel_rfl) ?hw21 ?hy21 ?hq21 (by assumption) ?r21
      case hi21 => (simp only [List.getElem?_toArray, List.getElem?_cons_succ, List.getElem?_cons_zero]; rfl)
      case hd21 => rfl
      case hw21 => rfl
      case hy21 => ((intro w hSw; (try dsimp only at hSw); go_simp) <;> (with_reducible rfl))
      case hq21 => exact fun _ _ _ h => h
      simp only [List.set_cons_succ, List.set_cons_zero]
      refine take_at (i := 21) (d := 64) (oi := ?o22) (v := ?v22) ?hi22 ?hd22 (by kernel_rfl) (by kernel_rfl) (by kernel_rfl) ?hw22 ?hy22 ?hq22 (by assumption) ?r22
      case hi22 => (simp only [List.getElem?_toArray, List.getElem?_cons_succ, List.getElem?_cons_zero]; rfl)
      case hd22 => rfl
      case hw22 => rfl
      case hy22 => ((intro w hSw; (try dsimp only at hSw); go_simp) <;> (with_reducible rfl))
      case hq22 => exact fun _ _ _ h => h
      simp only [List.set_cons_succ, List.set_cons_zero]
      refine take_at (i := 22) (d := 65) (oi := ?o23) (v := ?v23) ?hi23 ?hd23 (by kernel_rfl) (by kernel_rfl) (by kernel_rfl) ?hw23 ?hy23 ?hq23 (by assumption) ?r23
      case hi23 => (simp only [List.getElem?_toArray, List.getElem?_cons_succ, List.getElem?_cons_zero]; rfl)
      case hd23 => rfl
      case hw23 => rfl
      case hy23 => ((intro w hSw; (try dsimp only at hSw); go_simp) <;> (with_reducible rfl))
      case hq23 => exact fun _ _ _ h => h
      simp only [List.set_cons_succ, List.set_cons_zero]
      refine take_at (i := 23) (d := 66) (oi := ?o24) (v := ?v24) ?hi24 ?hd24 (by kernel_rfl) (by kernel_rfl) (by kernel_rfl) ?hw24 ?hy24 ?hq24 (by assumption) ?r24
      case hi24 => (simp only [List.getElem?_toArray, List.getElem?_cons_succ, List.getElem?_cons_zero]; rfl)
      case hd24 => rfl
      case hw24 => rfl
      case hy24 => ((intro w hSw; (try dsimp only at hSw); go_simp) <;> (with_reducible rfl))
      case hq24 => exact fun _ _ _ h => h
      simp only [List.set_cons_succ, List.set_cons_zero]
      refine take_at (i := 24) (d := 67) (oi := ?o25) (v := ?v25) ?hi25 ?hd25 (by kernel_rfl) (by kernel_rfl) (by kernel_rfl) ?hw25 ?hy25 ?hq25 (by assumption) ?r25
      case hi25 => (simp only [List.getElem?_toArray, List.getElem?_cons_succ, List.getElem?_cons_zero]; rfl)
      case hd25 => rfl
      case hw25 => rfl
      case hy25 => ((intro w hSw; (try dsimp only at hSw); go_simp) <;> (with_reducible rfl))
      case hq25 => exact fun _ _ _ h => h
      simp only [List.set_cons_succ, List.set_cons_zero]
      refine take_at (i := 25) (d := 68) (oi := ?o26) (v := ?v26) ?hi26 ?hd26 (by kernel_rfl) (by kernel_rfl) (by kernel_rfl) ?hw26 ?hy26 ?hq26 (by assumption) ?r26
      case hi26 => (simp only [List.getElem?_toArray, List.getElem?_cons_succ, List.getElem?_cons_zero]; rfl)
      case hd26 => rfl
      case hw26 => rfl
      case hy26 => ((intro w hSw; (try dsimp only at hSw); go_simp) <;> (with_reducible rfl))
      case hq26 => exact fun _ _ _ h => h
      simp only [List.set_cons_succ, List.set_cons_zero]
      refine take_at (i := 26) (d := 69) (oi := ?o27) (v := ?v27) ?hi27 ?hd27 (by kernel_rfl) (by kernel_rfl) (by kernel_rfl) ?hw27 ?hy27 ?hq27 (by assumption) ?r27
      case hi27 => (simp only [List.getElem?_toArray, List.getElem?_cons_succ, List.getElem?_cons_zero]; rfl)
      case hd27 => rfl
      case hw27 => rfl
      case hy27 => ((intro w hSw; (try dsimp only at hSw); go_simp) <;> (with_reducible rfl))
      case hq27 => exact fun _ _ _ h => h
      simp only [List.set_cons_succ, List.set_cons_zero]
      refine take_at (i := 29) (d := 72) (oi := ?o28) (v := ?v28) ?hi28 ?hd28 (by kernel_rfl) (by kernel_rfl) (by kernel_rfl) ?hw28 ?hy28 ?hq28 (by assumption) ?r28
      case hi28 => (simp only [List.getElem?_toArray, List.getElem?_cons_succ, List.getElem?_cons_zero]; rfl)
      case hd28 => rfl
      case hw28 => rfl
      case hy28 => ((intro w hSw; (try dsimp only at hSw); go_simp) <;> (with_reducible rfl))
      case hq28 => exact fun _ _ _ h => h
      simp only [List.set_cons_succ, List.set_cons_zero]
      refine wpAnyH_ready (rs := [27]) (by kernel_rfl) (by simp) ?_
      refine br_val (i := 27) (d := 70) (oi := ?o29) (v := (.slice (some ⟨w2.heap.size, 0, none⟩) 3 3)) (w' := (w2.drew.alloc (.cells #[.string T1, .string T2, .string T3] 9))) ?hi29 ?hd29 ?hw29 ?he29 (below_al (below_dr (below_d0 _)) _) ?hc29
      case hi29 => (simp only [List.getElem?_toArray, List.getElem?_cons_succ, List.getElem?_cons_zero]; rfl)
      case hd29 => rfl
      case hw29 => rfl
      case he29 => go_simp
      intro hHeld
      simp only [List.set_cons_succ, List.set_cons_zero]
      refine take_at (i := 28) (d := 71) (oi := ?o30) (v := ?v30) ?hi30 ?hd30 (by kernel_rfl) (by kernel_rfl) (by kernel_rfl) ?hw30 ?hy30 ?hq30 (by assumption) ?r30
      case hi30 => (simp only [List.getElem?_toArray, List.getElem?_cons_succ, List.getElem?_cons_zero]; rfl)
      case hd30 => rfl
      case hw30 => rfl
      case hy30 => ((intro w hSw; (try dsimp only at hSw); go_simp) <;> (with_reducible rfl))
      case hq30 => exact fun _ _ _ h => h
      simp only [List.set_cons_succ, List.set_cons_zero]
      refine wpAnyH_done (by kernel_rfl) ?_ _
      go_wp2_with fail
      go_meet
      exact ⟨w2.heap.size, rfl, rfl, rfl, Row.made (m := 1) (fun s => [strV s]) (by decide) (fun _ => rfl) w2.drew 9 [T1, T2, T3] rfl, hHeld⟩
    case rest =>
      obtain ⟨g, rfl, rfl, rfl, hst, hb3⟩ := hcut
      obtain ⟨w3, rfl⟩ : ∃ w3, w3 = wc := ⟨_, rfl⟩
      have hB3 := below_on HB2.out.1 hb3
      have bx3 := HB2.out.2.below hb3
      have H3 := Lib.hid (⟨hst, hB3, bx3⟩ : _ ∧ _ ∧ _)
      clear hst hb3 hB3 bx3
      go_wp2_with fail
      go_loopw [72] (fun i wr => ∃ (k : Nat), k ≤ 3 ∧ i = .int .i64 k ∧ Below w3.heap.size w3 wr) (fun i _ => 3 - (intOf i).toNat)
      case atStart => exact ⟨0, by omega, rfl, below_d0 _⟩
      case round =>
        obtain ⟨k, hk, rfl, hB⟩ := hrel
        by_cases hlt : k < 3
        · obtain ⟨b', off', t, hbo, hb', ht, hc1⟩ := Strs.get (H3.out.1.on hB (Nat.le_refl _)) hlt
          injection hbo with hbo
          injection hbo with e1 e2 _
          subst e1 e2
          rw [Nat.zero_add] at hc1
          have hsz : t.size ≤ 3000000000 := by
            rcases List.mem_cons.1 (List.mem_of_getElem? ht) with rfl | h
            · exact HS.out.1
            · rcases List.mem_cons.1 h with rfl | h
              · exact HS.out.2.1
              · obtain rfl := List.mem_singleton.1 h
                exact HS.out.2.2
          have hBw := below_on H3.out.2.1 hB
          have bxr := H3.out.2.2.below hB
          clear ht hb'
          go_wp2_with fail
          refine (parse_any t hsz wr (HP.out.1.on hBw)).mono ?_
          rintro e wp ⟨rfl, hbp⟩
          have hBp := below_on hB hbp
          have bxp := bxr.below hbp
          rcases parse_cases t with ⟨u, hu, hMu, hNu⟩ | hu
          · rw [hu]
            clear hu hbp bxr hc1 hBw
            unfold IdP.v
            go_upto_region 12 with fail
            obtain ⟨y, hy⟩ : ∃ y, y = wp.heap.size := ⟨_, rfl⟩
            obtain ⟨wq, hwq⟩ : ∃ wq, wq = wp.alloc (.cells #[.int .u8 u.kind, .int .i64 u.seq, .int .i64 u.fmt] 23) := ⟨_, rfl⟩
            have bg : BoxI wq y u := by rw [hwq, hy]; exact BoxI.new wp u
            have bxq : BoxI wq z x := by rw [hwq]; exact bxp.below (below_al (below_d0 _) _)
            have hBq : Below w3.heap.size w3 wq := by rw [hwq]; exact below_al hBp _
            rw [← hwq, ← hy]
            clear hwq hy hBp bxp
            obtain ⟨c0, c1, c2⟩ := bg.cells
            obtain ⟨d0, d1, d2⟩ := bxq.cells
            by_cases hux : u = x
            · have t1 := names_eq (show t = N by rw [← hNu, HX.out.2, hux])
              have q2 := eql_yes (k := u.kind) (s := u.seq) (f := u.fmt) (k' := x.kind) (s' := x.seq) (f' := x.fmt) (by rw [hux]; exact ⟨rfl, rfl, rfl⟩)
              clear hux hMu hNu
              go_wp2_with fail
              go_roundw
              case rel => exact ⟨k + 1, by omega, by go_num, hBq⟩
              case measure => first | (simp [intOf]; done) | (simp [intOf]; omega)
            · have t1 := names_ne (show ¬ t = N from fun h => hux (name_inj hMu HX.out.1 (by rw [hNu, h, HX.out.2])))
              have q2 := eql_no (k := u.kind) (s := u.seq) (f := u.fmt) (k' := x.kind) (s' := x.seq) (f' := x.fmt) (fun h => hux (IdP.ext_ h.1 h.2.1 h.2.2))
              clear hux hMu hNu
              go_wp2_with fail
              go_roundw
              case rel => exact ⟨k + 1, by omega, by go_num, hBq⟩
              case measure => first | (simp [intOf]; done) | (simp [intOf]; omega)
          · rw [hu]
            clear hu hbp bxr hc1 hBw bxp
            unfold IdP.v
            go_wp2_with fail
            go_roundw
            case rel => exact ⟨k + 1, by omega, by go_num, below_al hBp _⟩
            case measure => first | (simp [intOf]; done) | (simp [intOf]; omega)
        · obtain rfl : k = 3 := by omega
          go_wp2_with fail
          refine (wakes_true wr (HP.out.1.on (below_on H3.out.2.1 hB))).mono ?_
          rintro e ws ⟨rfl, hbs⟩
          go_wp2_with fail
          go_ret
          exact ⟨rfl, below_on (below_on H3.out.2.1 hB) hbs⟩
  · have hE : errP x = 2 := if_neg hM
    obtain ⟨c0, c1, c2⟩ := bx1.cells
    rw [hE]
    go_wp2_with fail
    refine (may_any x w1).mono ?_
    rintro e w2 ⟨rfl, hb2⟩
    rw [decide_eq_false hM]
    have hB2 := below_on hB1 hb2
    clear c0 c1 c2
    go_wp2_with fail
    refine (wakes_true w2 (HP.out.1.on hB2)).mono ?_
    rintro e w3 ⟨rfl, hb3⟩
    go_wp2_with fail
    go_ret
    exact ⟨rfl, below_on hB2 hb3⟩

end Go.Proofs.YtfalbbeehlaccaaDoor
