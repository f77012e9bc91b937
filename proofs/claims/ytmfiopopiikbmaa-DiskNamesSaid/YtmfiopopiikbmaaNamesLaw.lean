/-
  DiskNames: it returns true.
-/
import Derived.Test.YtmfiopopiikbmaaLawKit
import Derived.Test.YtmfiopopiikbmaaNames
import Derived.Test.YtmfiopopiikbmaaOpenD
namespace Go.Proofs.Ytmfiopopiikbmaa
open Go.RowKit Go.Maps

theorem great_not {d : DiskP} (h : false = true ↔ greatP d = true) : greatP d = false := by
  cases hg : greatP d with
  | false => rfl
  | true => exact absurd (h.2 hg) (by decide)
theorem used_top {d : DiskP} (hs : Small d) : usedP d ≤ 4611686018427387904 := size_now hs
theorem cells5 {w : World} {z : Nat} {t : TypeId} {a b c d e : Value} (h : Box5 w z t a b c d e) : w.cell? ⟨z, 0, none⟩ = some a ∧ w.cell? ⟨z, 1, none⟩ = some b ∧ w.cell? ⟨z, 2, none⟩ = some c ∧ w.cell? ⟨z, 3, none⟩ = some d ∧ w.cell? ⟨z, 4, none⟩ = some e := (box5 h).1
/-- What DiskNames asks of its arguments. -/
structure NamesAsk (d : DiskP) (a b : ByteArray) (n m : Nat) : Prop where
  great : greatP d = false
  right : rightP d = true
  dead : d.dead = false
  fuse : ¬ 0 < d.fuse
  ha : ¬ a.toList = []
  hb : ¬ b.toList = []
  hab : a ≠ b
  hn : n ≤ 100
  hm : m ≤ 40
  room : (usedP d : Int) + 100 ≤ d.quota

set_option maxRecDepth 100000 in
set_option maxHeartbeats 8000000 in
theorem names_law (hW : ∀ w : World, Calls Try.prog 9 #[] w fun e w' => e = .returned (.bool true) ∧ Below w.heap.size w w') {w : World} {fl : List FileP} {qu : List OpP} {q u : Int} {dd : Bool} {A : Option Addr} {n c : Nat} {B : Option Addr} {m k : Nat} {a b : ByteArray} {p : Byts}
    (h : DAt w ⟨fl, qu, q, u, dd⟩ A n c B m k) (hn : Nms ⟨fl, qu, q, u, dd⟩) (hu : u ≤ 9223372036854775807) (ha : a.size ≤ maxLen) (hb : b.size ≤ maxLen) (hp : p.Ok w w.heap.size) :
    Calls Try.prog 7 #[.agg #[.slice A n c, .slice B m k, .int .i64 q, .int .i64 u, .bool dd], .string a, .string b, .slice p.A p.n p.c] w fun e w' => e = .returned (.bool true) ∧ Below w.heap.size w w' := by
  have HW := Lib.hid hW
  have Hn := Lib.hid hn
  have Hu := Lib.hid hu
  have Ha := Lib.hid ha
  have Hb := Lib.hid hb
  clear hn hu ha hb hW
  go_enter Try.func7, Try.ntmps7
  go_upto_region 1 with fail
  obtain ⟨z, hz⟩ : ∃ z, z = w.heap.size := ⟨_, rfl⟩
  obtain ⟨w0, hw0⟩ : ∃ w0, w0 = w.alloc (.cells #[.slice A n c, .slice B m k, .int .i64 q, .int .i64 u, .bool dd] 25) := ⟨_, rfl⟩
  have hB0 : Below w.heap.size w w0 := by rw [hw0]; exact (Below.refl _ _).alloc (Nat.le_refl _) _
  have bz0 : Box5 w0 z 25 (.slice A n c) (.slice B m k) (.int .i64 q) (.int .i64 u) (.bool dd) := by rw [hw0, hz]; exact World.alloc_heap_new w _
  rw [← hw0, ← hz]
  have hzw : w.heap.size ≤ z := by omega
  clear hw0 hz
  have Hd := Lib.hid (show ∀ W, Below w0.heap.size w0 W → DAt W ⟨fl, qu, q, u, dd⟩ A n c B m k from fun W hW => (h.on hB0).on hW)
  have hp0 := hp
  have Hp := Lib.hid (show ∀ W, Below w0.heap.size w0 W → p.Ok W W.heap.size from fun W hW => (hp.on hB0 hB0.size).on hW hW.size)
  have HB := Lib.hid hB0
  have Hbz := Lib.hid bz0
  have Hcells := Lib.hid (show ∀ W, Below w0.heap.size w0 W → Below w0.heap.size w0 W ∧ W.cell? ⟨z, 0, none⟩ = some (.slice A n c) ∧ W.cell? ⟨z, 1, none⟩ = some (.slice B m k) ∧ W.cell? ⟨z, 2, none⟩ = some (.int .i64 q) ∧ W.cell? ⟨z, 3, none⟩ = some (.int .i64 u) ∧ W.cell? ⟨z, 4, none⟩ = some (.bool dd) from fun W hW => ⟨hW, cells5 (bz0.below hW)⟩)
  clear h hp hB0 bz0
  go_cut [70] (fun s wx => ∃ bv, s = .bool bv ∧ Below w0.heap.size w0 wx ∧ (bv = false → NamesAsk ⟨fl, qu, q, u, dd⟩ a b p.n m))
  case first =>
    refine wp_region_held_drew (S := (fun W => Below w0.heap.size w0 W ∧ W.cell? ⟨z, 0, none⟩ = some (.slice A n c) ∧ W.cell? ⟨z, 1, none⟩ = some (.slice B m k) ∧ W.cell? ⟨z, 2, none⟩ = some (.int .i64 q) ∧ W.cell? ⟨z, 3, none⟩ = some (.int .i64 u) ∧ W.cell? ⟨z, 4, none⟩ = some (.bool dd))) (by kernel_rfl) (Hcells.out _ (below_dr (below_d0 _))) (fun hHeld => ?_)
    refine take_at (i := 0) (d := 23) (oi := ?o1) (v := ?v1) ?hi1 ?hd1 (by kernel_rfl) (by kernel_rfl) (by kernel_rfl) ?hw1 ?hy1 ?hq1 (by assumption) ?r1
    case hi1 => (simp only [List.getElem?_toArray, List.getElem?_cons_zero]; rfl)
    case hd1 => rfl
    case hw1 => rfl
    case hy1 => ((intro w hSw; (try dsimp only at hSw); go_simp) <;> (with_reducible rfl))
    case hq1 => exact fun _ _ _ h => h
    simp only [List.set_cons_succ, List.set_cons_zero]
    refine call_at (i := 1) (d := 24) (oi := ?o2) (f := ?f2) (args := ?a2) ?hi2 ?hd2 (by kernel_rfl) ?hw2 ?he2 ?hc2
    case hi2 => (simp only [List.getElem?_toArray, List.getElem?_cons_succ, List.getElem?_cons_zero]; rfl)
    case hd2 => rfl
    case hw2 => rfl
    case he2 => (go_simp; constructor <;> with_reducible rfl)
    refine Calls.mono (great_any (Hd.out _ (And.left hHeld))) ?_
    rintro e w1 ⟨⟨bg, rfl, hbg⟩, hb1⟩
    have kb := below_on (And.left hHeld) hb1
    clear hHeld hb1
    refine ⟨_, rfl, Hcells.out _ kb, fun hHeld => ?_⟩
    simp only [List.set_cons_succ, List.set_cons_zero]
    have Hbg := Lib.hid (fun h : bg = false => great_not (h ▸ hbg))
    clear hbg
    refine take_at (i := 2) (d := 25) (oi := ?o3) (v := ?v3) ?hi3 ?hd3 (by kernel_rfl) (by kernel_rfl) (by kernel_rfl) ?hw3 ?hy3 ?hq3 (by assumption) ?r3
    case hi3 => (simp only [List.getElem?_toArray, List.getElem?_cons_succ, List.getElem?_cons_zero]; rfl)
    case hd3 => rfl
    case hw3 => rfl
    case hy3 => ((intro w hSw; (try dsimp only at hSw); go_simp) <;> (with_reducible rfl))
    case hq3 => exact fun _ _ _ h => h
    simp only [List.set_cons_succ, List.set_cons_zero]
    refine join4 (d1 := 26) (d2 := 27) (d3 := 28) (d4 := 29) (L := [3, 4, 5, 6]) (fuel' := 41) (fun _ _ _ y29 _ => ∃ bx : Bool, y29 = .bool bx ∧ (bx = false → (greatP (⟨fl, qu, q, u, dd⟩ : DiskP) = false) ∧ (rightP (⟨fl, qu, q, u, dd⟩ : DiskP) = true))) ?rest1_3 ?first1_3
    case first1_3 =>
      intro hrest
      simp only [List.foldl_cons, List.foldl_nil, List.set_cons_succ, List.set_cons_zero] at hrest
      cases bg
      case false =>
        have F := Lib.hid (Hbg.out rfl)
        clear Hbg
        refine take_at (i := 3) (d := 26) (oi := ?o4) (v := ?v4) ?hi4 ?hd4 (by kernel_rfl) (by kernel_rfl) (by kernel_rfl) ?hw4 ?hy4 ?hq4 (by assumption) ?r4
        case hi4 => (simp only [List.getElem?_toArray, List.getElem?_cons_succ, List.getElem?_cons_zero]; rfl)
        case hd4 => rfl
        case hw4 => rfl
        case hy4 => ((intro w hSw; (try dsimp only at hSw); go_simp) <;> (with_reducible rfl))
        case hq4 => exact fun _ _ _ h => h
        simp only [List.set_cons_succ, List.set_cons_zero]
        have HS := Lib.hid ((Run.of F.out Hn.out Hu.out).small (by omega))
        · skip
          refine call_at (i := 4) (d := 27) (oi := ?o5) (f := ?f5) (args := ?a5) ?hi5 ?hd5 (by kernel_rfl) ?hw5 ?he5 ?hc5
          case hi5 => (simp only [List.getElem?_toArray, List.getElem?_cons_succ, List.getElem?_cons_zero]; rfl)
          case hd5 => rfl
          case hw5 => rfl
          case he5 => (go_simp; constructor <;> with_reducible rfl)
          refine Calls.mono (right_any (d := ⟨fl, qu, q, u, dd⟩) (Hd.out _ (And.left hHeld)) HS.out) ?_
          rintro e w2 ⟨rfl, hb1⟩
          have kb := below_on (And.left hHeld) hb1
          clear hHeld hb1
          obtain ⟨bv, hbv⟩ : ∃ bv, rightP ⟨fl, qu, q, u, dd⟩ = bv := ⟨_, rfl⟩
          rw [hbv]
          have Hbv := Lib.hid hbv
          clear hbv
          refine ⟨_, rfl, Hcells.out _ kb, fun hHeld => ?_⟩
          simp only [List.set_cons_succ, List.set_cons_zero]
          cases bv
          · skip
            refine take_at (i := 5) (d := 28) (oi := ?o6) (v := ?v6) ?hi6 ?hd6 (by kernel_rfl) (by kernel_rfl) (by kernel_rfl) ?hw6 ?hy6 ?hq6 (by assumption) ?r6
            case hi6 => (simp only [List.getElem?_toArray, List.getElem?_cons_succ, List.getElem?_cons_zero]; rfl)
            case hd6 => rfl
            case hw6 => rfl
            case hy6 => ((intro w hSw; (try dsimp only at hSw); go_simp) <;> (with_reducible rfl))
            case hq6 => exact fun _ _ _ h => h
            simp only [List.set_cons_succ, List.set_cons_zero]
            refine take_at (i := 6) (d := 29) (oi := ?o7) (v := ?v7) ?hi7 ?hd7 (by kernel_rfl) (by kernel_rfl) (by kernel_rfl) ?hw7 ?hy7 ?hq7 (by assumption) ?r7
            case hi7 => (simp only [List.getElem?_toArray, List.getElem?_cons_succ, List.getElem?_cons_zero]; rfl)
            case hd7 => rfl
            case hw7 => rfl
            case hy7 => ((intro w hSw; (try dsimp only at hSw); go_simp) <;> (with_reducible rfl))
            case hq7 => exact fun _ _ _ h => h
            simp only [List.set_cons_succ, List.set_cons_zero]
            exact hrest _ _ _ _ _ ⟨true, rfl, fun h => by cases h⟩ (by assumption)
          · skip
            refine take_at (i := 5) (d := 28) (oi := ?o8) (v := ?v8) ?hi8 ?hd8 (by kernel_rfl) (by kernel_rfl) (by kernel_rfl) ?hw8 ?hy8 ?hq8 (by assumption) ?r8
            case hi8 => (simp only [List.getElem?_toArray, List.getElem?_cons_succ, List.getElem?_cons_zero]; rfl)
            case hd8 => rfl
            case hw8 => rfl
            case hy8 => ((intro w hSw; (try dsimp only at hSw); go_simp) <;> (with_reducible rfl))
            case hq8 => exact fun _ _ _ h => h
            simp only [List.set_cons_succ, List.set_cons_zero]
            refine take_at (i := 6) (d := 29) (oi := ?o9) (v := ?v9) ?hi9 ?hd9 (by kernel_rfl) (by kernel_rfl) (by kernel_rfl) ?hw9 ?hy9 ?hq9 (by assumption) ?r9
            case hi9 => (simp only [List.getElem?_toArray, List.getElem?_cons_succ, List.getElem?_cons_zero]; rfl)
            case hd9 => rfl
            case hw9 => rfl
            case hy9 => ((intro w hSw; (try dsimp only at hSw); go_simp) <;> (with_reducible rfl))
            case hq9 => exact fun _ _ _ h => h
            simp only [List.set_cons_succ, List.set_cons_zero]
            exact hrest _ _ _ _ _ ⟨false, rfl, fun _ => ⟨F.out, Hbv.out⟩⟩ (by assumption)
      case true =>
        clear Hbg
        refine skip_at (i := 3) (d := 26) (oi := ?o10) ?hi10 ?hd10 (by kernel_rfl) (by kernel_rfl) (by kernel_rfl) ?hw10 ?hq10 (by assumption) ?r10
        case hi10 => (simp only [List.getElem?_toArray, List.getElem?_cons_succ, List.getElem?_cons_zero]; rfl)
        case hd10 => rfl
        case hw10 => rfl
        case hq10 => exact fun _ _ _ h => h
        simp only [List.set_cons_succ, List.set_cons_zero]
        refine skip_at (i := 4) (d := 27) (oi := ?o11) ?hi11 ?hd11 (by kernel_rfl) (by kernel_rfl) (by kernel_rfl) ?hw11 ?hq11 (by assumption) ?r11
        case hi11 => (simp only [List.getElem?_toArray, List.getElem?_cons_succ, List.getElem?_cons_zero]; rfl)
        case hd11 => rfl
        case hw11 => rfl
        case hq11 => exact fun _ _ _ h => h
        simp only [List.set_cons_succ, List.set_cons_zero]
        refine skip_at (i := 5) (d := 28) (oi := ?o12) ?hi12 ?hd12 (by kernel_rfl) (by kernel_rfl) (by kernel_rfl) ?hw12 ?hq12 (by assumption) ?r12
        case hi12 => (simp only [List.getElem?_toArray, List.getElem?_cons_succ, List.getElem?_cons_zero]; rfl)
        case hd12 => rfl
        case hw12 => rfl
        case hq12 => exact fun _ _ _ h => h
        simp only [List.set_cons_succ, List.set_cons_zero]
        refine take_at (i := 6) (d := 29) (oi := ?o13) (v := ?v13) ?hi13 ?hd13 (by kernel_rfl) (by kernel_rfl) (by kernel_rfl) ?hw13 ?hy13 ?hq13 (by assumption) ?r13
        case hi13 => (simp only [List.getElem?_toArray, List.getElem?_cons_succ, List.getElem?_cons_zero]; rfl)
        case hd13 => rfl
        case hw13 => rfl
        case hy13 => ((intro w hSw; (try dsimp only at hSw); go_simp) <;> (with_reducible rfl))
        case hq13 => exact fun _ _ _ h => h
        simp only [List.set_cons_succ, List.set_cons_zero]
        exact hrest _ _ _ _ _ ⟨true, rfl, fun h => by cases h⟩ (by assumption)
    simp only [List.foldl_cons, List.foldl_nil, List.set_cons_succ, List.set_cons_zero]
    clear hHeld
    rintro y26 y27 y28 _ w1_3 ⟨b1_3, rfl, hf⟩ hHeld
    have Hf1_3 := Lib.hid hf
    clear hf Hbg
    refine take_at (i := 7) (d := 30) (oi := ?o14) (v := ?v14) ?hi14 ?hd14 (by kernel_rfl) (by kernel_rfl) (by kernel_rfl) ?hw14 ?hy14 ?hq14 (by assumption) ?r14
    case hi14 => (simp only [List.getElem?_toArray, List.getElem?_cons_succ, List.getElem?_cons_zero]; rfl)
    case hd14 => rfl
    case hw14 => rfl
    case hy14 => ((intro w hSw; (try dsimp only at hSw); go_simp) <;> (with_reducible rfl))
    case hq14 => exact fun _ _ _ h => h
    simp only [List.set_cons_succ, List.set_cons_zero]
    refine join3 (d1 := 31) (d2 := 32) (d3 := 33) (L := [8, 9, 10]) (fuel' := 37) (fun _ _ y33 _ => ∃ bx : Bool, y33 = .bool bx ∧ (bx = false → ((greatP (⟨fl, qu, q, u, dd⟩ : DiskP) = false) ∧ (rightP (⟨fl, qu, q, u, dd⟩ : DiskP) = true)) ∧ (dd = false))) ?rest2_14 ?first2_14
    case first2_14 =>
      intro hrest
      simp only [List.foldl_cons, List.foldl_nil, List.set_cons_succ, List.set_cons_zero] at hrest
      cases b1_3
      case false =>
        have F := Lib.hid (Hf1_3.out rfl)
        clear Hf1_3
        refine take_at (i := 8) (d := 31) (oi := ?o15) (v := ?v15) ?hi15 ?hd15 (by kernel_rfl) (by kernel_rfl) (by kernel_rfl) ?hw15 ?hy15 ?hq15 (by assumption) ?r15
        case hi15 => (simp only [List.getElem?_toArray, List.getElem?_cons_succ, List.getElem?_cons_zero]; rfl)
        case hd15 => rfl
        case hw15 => rfl
        case hy15 => ((intro w hSw; (try dsimp only at hSw); go_simp) <;> (with_reducible rfl))
        case hq15 => exact fun _ _ _ h => h
        simp only [List.set_cons_succ, List.set_cons_zero]
        cases dd
        · skip
          refine take_at (i := 9) (d := 32) (oi := ?o16) (v := ?v16) ?hi16 ?hd16 (by kernel_rfl) (by kernel_rfl) (by kernel_rfl) ?hw16 ?hy16 ?hq16 (by assumption) ?r16
          case hi16 => (simp only [List.getElem?_toArray, List.getElem?_cons_succ, List.getElem?_cons_zero]; rfl)
          case hd16 => rfl
          case hw16 => rfl
          case hy16 => ((intro w hSw; (try dsimp only at hSw); go_simp) <;> (with_reducible rfl))
          case hq16 => exact fun _ _ _ h => h
          simp only [List.set_cons_succ, List.set_cons_zero]
          refine take_at (i := 10) (d := 33) (oi := ?o17) (v := ?v17) ?hi17 ?hd17 (by kernel_rfl) (by kernel_rfl) (by kernel_rfl) ?hw17 ?hy17 ?hq17 (by assumption) ?r17
          case hi17 => (simp only [List.getElem?_toArray, List.getElem?_cons_succ, List.getElem?_cons_zero]; rfl)
          case hd17 => rfl
          case hw17 => rfl
          case hy17 => ((intro w hSw; (try dsimp only at hSw); go_simp) <;> (with_reducible rfl))
          case hq17 => exact fun _ _ _ h => h
          simp only [List.set_cons_succ, List.set_cons_zero]
          exact hrest _ _ _ _ ⟨false, rfl, fun _ => ⟨F.out, rfl⟩⟩ (by assumption)
        · skip
          refine take_at (i := 9) (d := 32) (oi := ?o18) (v := ?v18) ?hi18 ?hd18 (by kernel_rfl) (by kernel_rfl) (by kernel_rfl) ?hw18 ?hy18 ?hq18 (by assumption) ?r18
          case hi18 => (simp only [List.getElem?_toArray, List.getElem?_cons_succ, List.getElem?_cons_zero]; rfl)
          case hd18 => rfl
          case hw18 => rfl
          case hy18 => ((intro w hSw; (try dsimp only at hSw); go_simp) <;> (with_reducible rfl))
          case hq18 => exact fun _ _ _ h => h
          simp only [List.set_cons_succ, List.set_cons_zero]
          refine take_at (i := 10) (d := 33) (oi := ?o19) (v := ?v19) ?hi19 ?hd19 (by kernel_rfl) (by kernel_rfl) (by kernel_rfl) ?hw19 ?hy19 ?hq19 (by assumption) ?r19
          case hi19 => (simp only [List.getElem?_toArray, List.getElem?_cons_succ, List.getElem?_cons_zero]; rfl)
          case hd19 => rfl
          case hw19 => rfl
          case hy19 => ((intro w hSw; (try dsimp only at hSw); go_simp) <;> (with_reducible rfl))
          case hq19 => exact fun _ _ _ h => h
          simp only [List.set_cons_succ, List.set_cons_zero]
          exact hrest _ _ _ _ ⟨true, rfl, fun h => by cases h⟩ (by assumption)
      case true =>
        clear Hf1_3
        refine skip_at (i := 8) (d := 31) (oi := ?o20) ?hi20 ?hd20 (by kernel_rfl) (by kernel_rfl) (by kernel_rfl) ?hw20 ?hq20 (by assumption) ?r20
        case hi20 => (simp only [List.getElem?_toArray, List.getElem?_cons_succ, List.getElem?_cons_zero]; rfl)
        case hd20 => rfl
        case hw20 => rfl
        case hq20 => exact fun _ _ _ h => h
        simp only [List.set_cons_succ, List.set_cons_zero]
        refine skip_at (i := 9) (d := 32) (oi := ?o21) ?hi21 ?hd21 (by kernel_rfl) (by kernel_rfl) (by kernel_rfl) ?hw21 ?hq21 (by assumption) ?r21
        case hi21 => (simp only [List.getElem?_toArray, List.getElem?_cons_succ, List.getElem?_cons_zero]; rfl)
        case hd21 => rfl
        case hw21 => rfl
        case hq21 => exact fun _ _ _ h => h
        simp only [List.set_cons_succ, List.set_cons_zero]
        refine take_at (i := 10) (d := 33) (oi := ?o22) (v := ?v22) ?hi22 ?hd22 (by kernel_rfl) (by kernel_rfl) (by kernel_rfl) ?hw22 ?hy22 ?hq22 (by assumption) ?r22
        case hi22 => (simp only [List.getElem?_toArray, List.getElem?_cons_succ, List.getElem?_cons_zero]; rfl)
        case hd22 => rfl
        case hw22 => rfl
        case hy22 => ((intro w hSw; (try dsimp only at hSw); go_simp) <;> (with_reducible rfl))
        case hq22 => exact fun _ _ _ h => h
        simp only [List.set_cons_succ, List.set_cons_zero]
        exact hrest _ _ _ _ ⟨true, rfl, fun h => by cases h⟩ (by assumption)
    simp only [List.foldl_cons, List.foldl_nil, List.set_cons_succ, List.set_cons_zero]
    clear hHeld
    rintro y31 y32 _ w2_14 ⟨b2_14, rfl, hf⟩ hHeld
    have Hf2_14 := Lib.hid hf
    clear hf Hf1_3
    refine take_at (i := 11) (d := 34) (oi := ?o23) (v := ?v23) ?hi23 ?hd23 (by kernel_rfl) (by kernel_rfl) (by kernel_rfl) ?hw23 ?hy23 ?hq23 (by assumption) ?r23
    case hi23 => (simp only [List.getElem?_toArray, List.getElem?_cons_succ, List.getElem?_cons_zero]; rfl)
    case hd23 => rfl
    case hw23 => rfl
    case hy23 => ((intro w hSw; (try dsimp only at hSw); go_simp) <;> (with_reducible rfl))
    case hq23 => exact fun _ _ _ h => h
    simp only [List.set_cons_succ, List.set_cons_zero]
    refine join4 (d1 := 35) (d2 := 36) (d3 := 37) (d4 := 38) (L := [12, 13, 14, 15]) (fuel' := 32) (fun _ _ _ y38 _ => ∃ bx : Bool, y38 = .bool bx ∧ (bx = false → (((greatP (⟨fl, qu, q, u, dd⟩ : DiskP) = false) ∧ (rightP (⟨fl, qu, q, u, dd⟩ : DiskP) = true)) ∧ (dd = false)) ∧ (¬ (0 : Int) < u))) ?rest3_23 ?first3_23
    case first3_23 =>
      intro hrest
      simp only [List.foldl_cons, List.foldl_nil, List.set_cons_succ, List.set_cons_zero] at hrest
      cases b2_14
      case false =>
        have F := Lib.hid (Hf2_14.out rfl)
        clear Hf2_14
        refine take_at (i := 12) (d := 35) (oi := ?o24) (v := ?v24) ?hi24 ?hd24 (by kernel_rfl) (by kernel_rfl) (by kernel_rfl) ?hw24 ?hy24 ?hq24 (by assumption) ?r24
        case hi24 => (simp only [List.getElem?_toArray, List.getElem?_cons_succ, List.getElem?_cons_zero]; rfl)
        case hd24 => rfl
        case hw24 => rfl
        case hy24 => ((intro w hSw; (try dsimp only at hSw); go_simp) <;> (with_reducible rfl))
        case hq24 => exact fun _ _ _ h => h
        simp only [List.set_cons_succ, List.set_cons_zero]
        refine take_at (i := 13) (d := 36) (oi := ?o25) (v := ?v25) ?hi25 ?hd25 (by kernel_rfl) (by kernel_rfl) (by kernel_rfl) ?hw25 ?hy25 ?hq25 (by assumption) ?r25
        case hi25 => (simp only [List.getElem?_toArray, List.getElem?_cons_succ, List.getElem?_cons_zero]; rfl)
        case hd25 => rfl
        case hw25 => rfl
        case hy25 => ((intro w hSw; (try dsimp only at hSw); go_simp) <;> (with_reducible rfl))
        case hq25 => exact fun _ _ _ h => h
        simp only [List.set_cons_succ, List.set_cons_zero]
        by_cases ha : (0 : Int) < u
        · have tha : decide ((0 : Int) < u) = true := by simpa using ha
          refine take_at (i := 14) (d := 37) (oi := ?o26) (v := ?v26) ?hi26 ?hd26 (by kernel_rfl) (by kernel_rfl) (by kernel_rfl) ?hw26 ?hy26 ?hq26 (by assumption) ?r26
          case hi26 => (simp only [List.getElem?_toArray, List.getElem?_cons_succ, List.getElem?_cons_zero]; rfl)
          case hd26 => rfl
          case hw26 => rfl
          case hy26 => ((intro w hSw; (try dsimp only at hSw); go_simp) <;> (with_reducible rfl))
          case hq26 => exact fun _ _ _ h => h
          simp only [List.set_cons_succ, List.set_cons_zero]
          refine take_at (i := 15) (d := 38) (oi := ?o27) (v := ?v27) ?hi27 ?hd27 (by kernel_rfl) (by kernel_rfl) (by kernel_rfl) ?hw27 ?hy27 ?hq27 (by assumption) ?r27
          case hi27 => (simp only [List.getElem?_toArray, List.getElem?_cons_succ, List.getElem?_cons_zero]; rfl)
          case hd27 => rfl
          case hw27 => rfl
          case hy27 => ((intro w hSw; (try dsimp only at hSw); go_simp) <;> (with_reducible rfl))
          case hq27 => exact fun _ _ _ h => h
          simp only [List.set_cons_succ, List.set_cons_zero]
          exact hrest _ _ _ _ _ ⟨true, rfl, fun h => by cases h⟩ (by assumption)
        · have tha : decide ((0 : Int) < u) = false := by simpa using ha
          refine take_at (i := 14) (d := 37) (oi := ?o28) (v := ?v28) ?hi28 ?hd28 (by kernel_rfl) (by kernel_rfl) (by kernel_rfl) ?hw28 ?hy28 ?hq28 (by assumption) ?r28
          case hi28 => (simp only [List.getElem?_toArray, List.getElem?_cons_succ, List.getElem?_cons_zero]; rfl)
          case hd28 => rfl
          case hw28 => rfl
          case hy28 => ((intro w hSw; (try dsimp only at hSw); go_simp) <;> (with_reducible rfl))
          case hq28 => exact fun _ _ _ h => h
          simp only [List.set_cons_succ, List.set_cons_zero]
          refine take_at (i := 15) (d := 38) (oi := ?o29) (v := ?v29) ?hi29 ?hd29 (by kernel_rfl) (by kernel_rfl) (by kernel_rfl) ?hw29 ?hy29 ?hq29 (by assumption) ?r29
          case hi29 => (simp only [List.getElem?_toArray, List.getElem?_cons_succ, List.getElem?_cons_zero]; rfl)
          case hd29 => rfl
          case hw29 => rfl
          case hy29 => ((intro w hSw; (try dsimp only at hSw); go_simp) <;> (with_reducible rfl))
          case hq29 => exact fun _ _ _ h => h
          simp only [List.set_cons_succ, List.set_cons_zero]
          exact hrest _ _ _ _ _ ⟨false, rfl, fun _ => ⟨F.out, ha⟩⟩ (by assumption)
      case true =>
        clear Hf2_14
        refine skip_at (i := 12) (d := 35) (oi := ?o30) ?hi30 ?hd30 (by kernel_rfl) (by kernel_rfl) (by kernel_rfl) ?hw30 ?hq30 (by assumption) ?r30
        case hi30 => (simp only [List.getElem?_toArray, List.getElem?_cons_succ, List.getElem?_cons_zero]; rfl)
        case hd30 => rfl
        case hw30 => rfl
        case hq30 => exact fun _ _ _ h => h
        simp only [List.set_cons_succ, List.set_cons_zero]
        refine skip_at (i := 13) (d := 36) (oi := ?o31) ?hi31 ?hd31 (by kernel_rfl) (by kernel_rfl) (by kernel_rfl) ?hw31 ?hq31 (by assumption) ?r31
        case hi31 => (simp only [List.getElem?_toArray, List.getElem?_cons_succ, List.getElem?_cons_zero]; rfl)
        case hd31 => rfl
        case hw31 => rfl
        case hq31 => exact fun _ _ _ h => h
        simp only [List.set_cons_succ, List.set_cons_zero]
        refine skip_at (i := 14) (d := 37) (oi := ?o32) ?hi32 ?hd32 (by kernel_rfl) (by kernel_rfl) (by kernel_rfl) ?hw32 ?hq32 (by assumption) ?r32
        case hi32 => (simp only [List.getElem?_toArray, List.getElem?_cons_succ, List.getElem?_cons_zero]; rfl)
        case hd32 => rfl
        case hw32 => rfl
        case hq32 => exact fun _ _ _ h => h
        simp only [List.set_cons_succ, List.set_cons_zero]
        refine take_at (i := 15) (d := 38) (oi := ?o33) (v := ?v33) ?hi33 ?hd33 (by kernel_rfl) (by kernel_rfl) (by kernel_rfl) ?hw33 ?hy33 ?hq33 (by assumption) ?r33
        case hi33 => (simp only [List.getElem?_toArray, List.getElem?_cons_succ, List.getElem?_cons_zero]; rfl)
        case hd33 => rfl
        case hw33 => rfl
        case hy33 => ((intro w hSw; (try dsimp only at hSw); go_simp) <;> (with_reducible rfl))
        case hq33 => exact fun _ _ _ h => h
        simp only [List.set_cons_succ, List.set_cons_zero]
        exact hrest _ _ _ _ _ ⟨true, rfl, fun h => by cases h⟩ (by assumption)
    simp only [List.foldl_cons, List.foldl_nil, List.set_cons_succ, List.set_cons_zero]
    clear hHeld
    rintro y35 y36 y37 _ w3_23 ⟨b3_23, rfl, hf⟩ hHeld
    have Hf3_23 := Lib.hid hf
    clear hf Hf2_14
    refine take_at (i := 16) (d := 39) (oi := ?o34) (v := ?v34) ?hi34 ?hd34 (by kernel_rfl) (by kernel_rfl) (by kernel_rfl) ?hw34 ?hy34 ?hq34 (by assumption) ?r34
    case hi34 => (simp only [List.getElem?_toArray, List.getElem?_cons_succ, List.getElem?_cons_zero]; rfl)
    case hd34 => rfl
    case hw34 => rfl
    case hy34 => ((intro w hSw; (try dsimp only at hSw); go_simp) <;> (with_reducible rfl))
    case hq34 => exact fun _ _ _ h => h
    simp only [List.set_cons_succ, List.set_cons_zero]
    refine join3 (d1 := 40) (d2 := 41) (d3 := 42) (L := [17, 18, 19]) (fuel' := 28) (fun _ _ y42 _ => ∃ bx : Bool, y42 = .bool bx ∧ (bx = false → ((((greatP (⟨fl, qu, q, u, dd⟩ : DiskP) = false) ∧ (rightP (⟨fl, qu, q, u, dd⟩ : DiskP) = true)) ∧ (dd = false)) ∧ (¬ (0 : Int) < u)) ∧ (¬ a.toList = []))) ?rest4_34 ?first4_34
    case first4_34 =>
      intro hrest
      simp only [List.foldl_cons, List.foldl_nil, List.set_cons_succ, List.set_cons_zero] at hrest
      cases b3_23
      case false =>
        have F := Lib.hid (Hf3_23.out rfl)
        clear Hf3_23
        refine take_at (i := 17) (d := 40) (oi := ?o35) (v := ?v35) ?hi35 ?hd35 (by kernel_rfl) (by kernel_rfl) (by kernel_rfl) ?hw35 ?hy35 ?hq35 (by assumption) ?r35
        case hi35 => (simp only [List.getElem?_toArray, List.getElem?_cons_succ, List.getElem?_cons_zero]; rfl)
        case hd35 => rfl
        case hw35 => rfl
        case hy35 => ((intro w hSw; (try dsimp only at hSw); go_simp) <;> (with_reducible rfl))
        case hq35 => exact fun _ _ _ h => h
        simp only [List.set_cons_succ, List.set_cons_zero]
        by_cases hb : a.toList = []
        · have thb : (a.toList == []) = true := by simpa using hb
          refine take_at (i := 18) (d := 41) (oi := ?o36) (v := ?v36) ?hi36 ?hd36 (by kernel_rfl) (by kernel_rfl) (by kernel_rfl) ?hw36 ?hy36 ?hq36 (by assumption) ?r36
          case hi36 => (simp only [List.getElem?_toArray, List.getElem?_cons_succ, List.getElem?_cons_zero]; rfl)
          case hd36 => rfl
          case hw36 => rfl
          case hy36 => ((intro w hSw; (try dsimp only at hSw); go_simp) <;> (with_reducible rfl))
          case hq36 => exact fun _ _ _ h => h
          simp only [List.set_cons_succ, List.set_cons_zero]
          refine take_at (i := 19) (d := 42) (oi := ?o37) (v := ?v37) ?hi37 ?hd37 (by kernel_rfl) (by kernel_rfl) (by kernel_rfl) ?hw37 ?hy37 ?hq37 (by assumption) ?r37
          case hi37 => (simp only [List.getElem?_toArray, List.getElem?_cons_succ, List.getElem?_cons_zero]; rfl)
          case hd37 => rfl
          case hw37 => rfl
          case hy37 => ((intro w hSw; (try dsimp only at hSw); go_simp) <;> (with_reducible rfl))
          case hq37 => exact fun _ _ _ h => h
          simp only [List.set_cons_succ, List.set_cons_zero]
          exact hrest _ _ _ _ ⟨true, rfl, fun h => by cases h⟩ (by assumption)
        · have thb : (a.toList == []) = false := by simpa using hb
          refine take_at (i := 18) (d := 41) (oi := ?o38) (v := ?v38) ?hi38 ?hd38 (by kernel_rfl) (by kernel_rfl) (by kernel_rfl) ?hw38 ?hy38 ?hq38 (by assumption) ?r38
          case hi38 => (simp only [List.getElem?_toArray, List.getElem?_cons_succ, List.getElem?_cons_zero]; rfl)
          case hd38 => rfl
          case hw38 => rfl
          case hy38 => ((intro w hSw; (try dsimp only at hSw); go_simp) <;> (with_reducible rfl))
          case hq38 => exact fun _ _ _ h => h
          simp only [List.set_cons_succ, List.set_cons_zero]
          refine take_at (i := 19) (d := 42) (oi := ?o39) (v := ?v39) ?hi39 ?hd39 (by kernel_rfl) (by kernel_rfl) (by kernel_rfl) ?hw39 ?hy39 ?hq39 (by assumption) ?r39
          case hi39 => (simp only [List.getElem?_toArray, List.getElem?_cons_succ, List.getElem?_cons_zero]; rfl)
          case hd39 => rfl
          case hw39 => rfl
          case hy39 => ((intro w hSw; (try dsimp only at hSw); go_simp) <;> (with_reducible rfl))
          case hq39 => exact fun _ _ _ h => h
          simp only [List.set_cons_succ, List.set_cons_zero]
          exact hrest _ _ _ _ ⟨false, rfl, fun _ => ⟨F.out, hb⟩⟩ (by assumption)
      case true =>
        clear Hf3_23
        refine skip_at (i := 17) (d := 40) (oi := ?o40) ?hi40 ?hd40 (by kernel_rfl) (by kernel_rfl) (by kernel_rfl) ?hw40 ?hq40 (by assumption) ?r40
        case hi40 => (simp only [List.getElem?_toArray, List.getElem?_cons_succ, List.getElem?_cons_zero]; rfl)
        case hd40 => rfl
        case hw40 => rfl
        case hq40 => exact fun _ _ _ h => h
        simp only [List.set_cons_succ, List.set_cons_zero]
        refine skip_at (i := 18) (d := 41) (oi := ?o41) ?hi41 ?hd41 (by kernel_rfl) (by kernel_rfl) (by kernel_rfl) ?hw41 ?hq41 (by assumption) ?r41
        case hi41 => (simp only [List.getElem?_toArray, List.getElem?_cons_succ, List.getElem?_cons_zero]; rfl)
        case hd41 => rfl
        case hw41 => rfl
        case hq41 => exact fun _ _ _ h => h
        simp only [List.set_cons_succ, List.set_cons_zero]
        refine take_at (i := 19) (d := 42) (oi := ?o42) (v := ?v42) ?hi42 ?hd42 (by kernel_rfl) (by kernel_rfl) (by kernel_rfl) ?hw42 ?hy42 ?hq42 (by assumption) ?r42
        case hi42 => (simp only [List.getElem?_toArray, List.getElem?_cons_succ, List.getElem?_cons_zero]; rfl)
        case hd42 => rfl
        case hw42 => rfl
        case hy42 => ((intro w hSw; (try dsimp only at hSw); go_simp) <;> (with_reducible rfl))
        case hq42 => exact fun _ _ _ h => h
        simp only [List.set_cons_succ, List.set_cons_zero]
        exact hrest _ _ _ _ ⟨true, rfl, fun h => by cases h⟩ (by assumption)
    simp only [List.foldl_cons, List.foldl_nil, List.set_cons_succ, List.set_cons_zero]
    clear hHeld
    rintro y40 y41 _ w4_34 ⟨b4_34, rfl, hf⟩ hHeld
    have Hf4_34 := Lib.hid hf
    clear hf Hf3_23
    refine take_at (i := 20) (d := 43) (oi := ?o43) (v := ?v43) ?hi43 ?hd43 (by kernel_rfl) (by kernel_rfl) (by kernel_rfl) ?hw43 ?hy43 ?hq43 (by assumption) ?r43
    case hi43 => (simp only [List.getElem?_toArray, List.getElem?_cons_succ, List.getElem?_cons_zero]; rfl)
    case hd43 => rfl
    case hw43 => rfl
    case hy43 => ((intro w hSw; (try dsimp only at hSw); go_simp) <;> (with_reducible rfl))
    case hq43 => exact fun _ _ _ h => h
    simp only [List.set_cons_succ, List.set_cons_zero]
    refine join3 (d1 := 44) (d2 := 45) (d3 := 46) (L := [21, 22, 23]) (fuel' := 24) (fun _ _ y46 _ => ∃ bx : Bool, y46 = .bool bx ∧ (bx = false → (((((greatP (⟨fl, qu, q, u, dd⟩ : DiskP) = false) ∧ (rightP (⟨fl, qu, q, u, dd⟩ : DiskP) = true)) ∧ (dd = false)) ∧ (¬ (0 : Int) < u)) ∧ (¬ a.toList = [])) ∧ (¬ b.toList = []))) ?rest5_43 ?first5_43
    case first5_43 =>
      intro hrest
      simp only [List.foldl_cons, List.foldl_nil, List.set_cons_succ, List.set_cons_zero] at hrest
      cases b4_34
      case false =>
        have F := Lib.hid (Hf4_34.out rfl)
        clear Hf4_34
        refine take_at (i := 21) (d := 44) (oi := ?o44) (v := ?v44) ?hi44 ?hd44 (by kernel_rfl) (by kernel_rfl) (by kernel_rfl) ?hw44 ?hy44 ?hq44 (by assumption) ?r44
        case hi44 => (simp only [List.getElem?_toArray, List.getElem?_cons_succ, List.getElem?_cons_zero]; rfl)
        case hd44 => rfl
        case hw44 => rfl
        case hy44 => ((intro w hSw; (try dsimp only at hSw); go_simp) <;> (with_reducible rfl))
        case hq44 => exact fun _ _ _ h => h
        simp only [List.set_cons_succ, List.set_cons_zero]
        by_cases hc : b.toList = []
        · have thc : (b.toList == []) = true := by simpa using hc
          refine take_at (i := 22) (d := 45) (oi := ?o45) (v := ?v45) ?hi45 ?hd45 (by kernel_rfl) (by kernel_rfl) (by kernel_rfl) ?hw45 ?hy45 ?hq45 (by assumption) ?r45
          case hi45 => (simp only [List.getElem?_toArray, List.getElem?_cons_succ, List.getElem?_cons_zero]; rfl)
          case hd45 => rfl
          case hw45 => rfl
          case hy45 => ((intro w hSw; (try dsimp only at hSw); go_simp) <;> (with_reducible rfl))
          case hq45 => exact fun _ _ _ h => h
          simp only [List.set_cons_succ, List.set_cons_zero]
          refine take_at (i := 23) (d := 46) (oi := ?o46) (v := ?v46) ?hi46 ?hd46 (by kernel_rfl) (by kernel_rfl) (by kernel_rfl) ?hw46 ?hy46 ?hq46 (by assumption) ?r46
          case hi46 => (simp only [List.getElem?_toArray, List.getElem?_cons_succ, List.getElem?_cons_zero]; rfl)
          case hd46 => rfl
          case hw46 => rfl
          case hy46 => ((intro w hSw; (try dsimp only at hSw); go_simp) <;> (with_reducible rfl))
          case hq46 => exact fun _ _ _ h => h
          simp only [List.set_cons_succ, List.set_cons_zero]
          exact hrest _ _ _ _ ⟨true, rfl, fun h => by cases h⟩ (by assumption)
        · have thc : (b.toList == []) = false := by simpa using hc
          refine take_at (i := 22) (d := 45) (oi := ?o47) (v := ?v47) ?hi47 ?hd47 (by kernel_rfl) (by kernel_rfl) (by kernel_rfl) ?hw47 ?hy47 ?hq47 (by assumption) ?r47
          case hi47 => (simp only [List.getElem?_toArray, List.getElem?_cons_succ, List.getElem?_cons_zero]; rfl)
          case hd47 => rfl
          case hw47 => rfl
          case hy47 => ((intro w hSw; (try dsimp only at hSw); go_simp) <;> (with_reducible rfl))
          case hq47 => exact fun _ _ _ h => h
          simp only [List.set_cons_succ, List.set_cons_zero]
          refine take_at (i := 23) (d := 46) (oi := ?o48) (v := ?v48) ?hi48 ?hd48 (by kernel_rfl) (by kernel_rfl) (by kernel_rfl) ?hw48 ?hy48 ?hq48 (by assumption) ?r48
          case hi48 => (simp only [List.getElem?_toArray, List.getElem?_cons_succ, List.getElem?_cons_zero]; rfl)
          case hd48 => rfl
          case hw48 => rfl
          case hy48 => ((intro w hSw; (try dsimp only at hSw); go_simp) <;> (with_reducible rfl))
          case hq48 => exact fun _ _ _ h => h
          simp only [List.set_cons_succ, List.set_cons_zero]
          exact hrest _ _ _ _ ⟨false, rfl, fun _ => ⟨F.out, hc⟩⟩ (by assumption)
      case true =>
        clear Hf4_34
        refine skip_at (i := 21) (d := 44) (oi := ?o49) ?hi49 ?hd49 (by kernel_rfl) (by kernel_rfl) (by kernel_rfl) ?hw49 ?hq49 (by assumption) ?r49
        case hi49 => (simp only [List.getElem?_toArray, List.getElem?_cons_succ, List.getElem?_cons_zero]; rfl)
        case hd49 => rfl
        case hw49 => rfl
        case hq49 => exact fun _ _ _ h => h
        simp only [List.set_cons_succ, List.set_cons_zero]
        refine skip_at (i := 22) (d := 45) (oi := ?o50) ?hi50 ?hd50 (by kernel_rfl) (by kernel_rfl) (by kernel_rfl) ?hw50 ?hq50 (by assumption) ?r50
        case hi50 => (simp only [List.getElem?_toArray, List.getElem?_cons_succ, List.getElem?_cons_zero]; rfl)
        case hd50 => rfl
        case hw50 => rfl
        case hq50 => exact fun _ _ _ h => h
        simp only [List.set_cons_succ, List.set_cons_zero]
        refine take_at (i := 23) (d := 46) (oi := ?o51) (v := ?v51) ?hi51 ?hd51 (by kernel_rfl) (by kernel_rfl) (by kernel_rfl) ?hw51 ?hy51 ?hq51 (by assumption) ?r51
        case hi51 => (simp only [List.getElem?_toArray, List.getElem?_cons_succ, List.getElem?_cons_zero]; rfl)
        case hd51 => rfl
        case hw51 => rfl
        case hy51 => ((intro w hSw; (try dsimp only at hSw); go_simp) <;> (with_reducible rfl))
        case hq51 => exact fun _ _ _ h => h
        simp only [List.set_cons_succ, List.set_cons_zero]
        exact hrest _ _ _ _ ⟨true, rfl, fun h => by cases h⟩ (by assumption)
    simp only [List.foldl_cons, List.foldl_nil, List.set_cons_succ, List.set_cons_zero]
    clear hHeld
    rintro y44 y45 _ w5_43 ⟨b5_43, rfl, hf⟩ hHeld
    have Hf5_43 := Lib.hid hf
    clear hf Hf4_34
    refine take_at (i := 24) (d := 47) (oi := ?o52) (v := ?v52) ?hi52 ?hd52 (by kernel_rfl) (by kernel_rfl) (by kernel_rfl) ?hw52 ?hy52 ?hq52 (by assumption) ?r52
    case hi52 => (simp only [List.getElem?_toArray, List.getElem?_cons_succ, List.getElem?_cons_zero]; rfl)
    case hd52 => rfl
    case hw52 => rfl
    case hy52 => ((intro w hSw; (try dsimp only at hSw); go_simp) <;> (with_reducible rfl))
    case hq52 => exact fun _ _ _ h => h
    simp only [List.set_cons_succ, List.set_cons_zero]
    refine join4 (d1 := 48) (d2 := 49) (d3 := 50) (d4 := 51) (L := [25, 26, 27, 28]) (fuel' := 19) (fun _ _ _ y51 _ => ∃ bx : Bool, y51 = .bool bx ∧ (bx = false → ((((((greatP (⟨fl, qu, q, u, dd⟩ : DiskP) = false) ∧ (rightP (⟨fl, qu, q, u, dd⟩ : DiskP) = true)) ∧ (dd = false)) ∧ (¬ (0 : Int) < u)) ∧ (¬ a.toList = [])) ∧ (¬ b.toList = [])) ∧ (a ≠ b))) ?rest6_52 ?first6_52
    case first6_52 =>
      intro hrest
      simp only [List.foldl_cons, List.foldl_nil, List.set_cons_succ, List.set_cons_zero] at hrest
      cases b5_43
      case false =>
        have F := Lib.hid (Hf5_43.out rfl)
        clear Hf5_43
        refine take_at (i := 25) (d := 48) (oi := ?o53) (v := ?v53) ?hi53 ?hd53 (by kernel_rfl) (by kernel_rfl) (by kernel_rfl) ?hw53 ?hy53 ?hq53 (by assumption) ?r53
        case hi53 => (simp only [List.getElem?_toArray, List.getElem?_cons_succ, List.getElem?_cons_zero]; rfl)
        case hd53 => rfl
        case hw53 => rfl
        case hy53 => ((intro w hSw; (try dsimp only at hSw); go_simp) <;> (with_reducible rfl))
        case hq53 => exact fun _ _ _ h => h
        simp only [List.set_cons_succ, List.set_cons_zero]
        refine take_at (i := 26) (d := 49) (oi := ?o54) (v := ?v54) ?hi54 ?hd54 (by kernel_rfl) (by kernel_rfl) (by kernel_rfl) ?hw54 ?hy54 ?hq54 (by assumption) ?r54
        case hi54 => (simp only [List.getElem?_toArray, List.getElem?_cons_succ, List.getElem?_cons_zero]; rfl)
        case hd54 => rfl
        case hw54 => rfl
        case hy54 => ((intro w hSw; (try dsimp only at hSw); go_simp) <;> (with_reducible rfl))
        case hq54 => exact fun _ _ _ h => h
        simp only [List.set_cons_succ, List.set_cons_zero]
        by_cases hd : a = b
        · have td : (a.toList == b.toList) = true := by rw [beq_name, decide_eq_true hd]
          refine take_at (i := 27) (d := 50) (oi := ?o55) (v := ?v55) ?hi55 ?hd55 (by kernel_rfl) (by kernel_rfl) (by kernel_rfl) ?hw55 ?hy55 ?hq55 (by assumption) ?r55
          case hi55 => (simp only [List.getElem?_toArray, List.getElem?_cons_succ, List.getElem?_cons_zero]; rfl)
          case hd55 => rfl
          case hw55 => rfl
          case hy55 => ((intro w hSw; (try dsimp only at hSw); go_simp) <;> (with_reducible rfl))
          case hq55 => exact fun _ _ _ h => h
          simp only [List.set_cons_succ, List.set_cons_zero]
          refine take_at (i := 28) (d := 51) (oi := ?o56) (v := ?v56) ?hi56 ?hd56 (by kernel_rfl) (by kernel_rfl) (by kernel_rfl) ?hw56 ?hy56 ?hq56 (by assumption) ?r56
          case hi56 => (simp only [List.getElem?_toArray, List.getElem?_cons_succ, List.getElem?_cons_zero]; rfl)
          case hd56 => rfl
          case hw56 => rfl
          case hy56 => ((intro w hSw; (try dsimp only at hSw); go_simp) <;> (with_reducible rfl))
          case hq56 => exact fun _ _ _ h => h
          simp only [List.set_cons_succ, List.set_cons_zero]
          exact hrest _ _ _ _ _ ⟨true, rfl, fun h => by cases h⟩ (by assumption)
        · have td : (a.toList == b.toList) = false := by rw [beq_name, decide_eq_false hd]
          refine take_at (i := 27) (d := 50) (oi := ?o57) (v := ?v57) ?hi57 ?hd57 (by kernel_rfl) (by kernel_rfl) (by kernel_rfl) ?hw57 ?hy57 ?hq57 (by assumption) ?r57
          case hi57 => (simp only [List.getElem?_toArray, List.getElem?_cons_succ, List.getElem?_cons_zero]; rfl)
          case hd57 => rfl
          case hw57 => rfl
          case hy57 => ((intro w hSw; (try dsimp only at hSw); go_simp) <;> (with_reducible rfl))
          case hq57 => exact fun _ _ _ h => h
          simp only [List.set_cons_succ, List.set_cons_zero]
          refine take_at (i := 28) (d := 51) (oi := ?o58) (v := ?v58) ?hi58 ?hd58 (by kernel_rfl) (by kernel_rfl) (by kernel_rfl) ?hw58 ?hy58 ?hq58 (by assumption) ?r58
          case hi58 => (simp only [List.getElem?_toArray, List.getElem?_cons_succ, List.getElem?_cons_zero]; rfl)
          case hd58 => rfl
          case hw58 => rfl
          case hy58 => ((intro w hSw; (try dsimp only at hSw); go_simp) <;> (with_reducible rfl))
          case hq58 => exact fun _ _ _ h => h
          simp only [List.set_cons_succ, List.set_cons_zero]
          exact hrest _ _ _ _ _ ⟨false, rfl, fun _ => ⟨F.out, hd⟩⟩ (by assumption)
      case true =>
        clear Hf5_43
        refine skip_at (i := 25) (d := 48) (oi := ?o59) ?hi59 ?hd59 (by kernel_rfl) (by kernel_rfl) (by kernel_rfl) ?hw59 ?hq59 (by assumption) ?r59
        case hi59 => (simp only [List.getElem?_toArray, List.getElem?_cons_succ, List.getElem?_cons_zero]; rfl)
        case hd59 => rfl
        case hw59 => rfl
        case hq59 => exact fun _ _ _ h => h
        simp only [List.set_cons_succ, List.set_cons_zero]
        refine skip_at (i := 26) (d := 49) (oi := ?o60) ?hi60 ?hd60 (by kernel_rfl) (by kernel_rfl) (by kernel_rfl) ?hw60 ?hq60 (by assumption) ?r60
        case hi60 => (simp only [List.getElem?_toArray, List.getElem?_cons_succ, List.getElem?_cons_zero]; rfl)
        case hd60 => rfl
        case hw60 => rfl
        case hq60 => exact fun _ _ _ h => h
        simp only [List.set_cons_succ, List.set_cons_zero]
        refine skip_at (i := 27) (d := 50) (oi := ?o61) ?hi61 ?hd61 (by kernel_rfl) (by kernel_rfl) (by kernel_rfl) ?hw61 ?hq61 (by assumption) ?r61
        case hi61 => (simp only [List.getElem?_toArray, List.getElem?_cons_succ, List.getElem?_cons_zero]; rfl)
        case hd61 => rfl
        case hw61 => rfl
        case hq61 => exact fun _ _ _ h => h
        simp only [List.set_cons_succ, List.set_cons_zero]
        refine take_at (i := 28) (d := 51) (oi := ?o62) (v := ?v62) ?hi62 ?hd62 (by kernel_rfl) (by kernel_rfl) (by kernel_rfl) ?hw62 ?hy62 ?hq62 (by assumption) ?r62
        case hi62 => (simp only [List.getElem?_toArray, List.getElem?_cons_succ, List.getElem?_cons_zero]; rfl)
        case hd62 => rfl
        case hw62 => rfl
        case hy62 => ((intro w hSw; (try dsimp only at hSw); go_simp) <;> (with_reducible rfl))
        case hq62 => exact fun _ _ _ h => h
        simp only [List.set_cons_succ, List.set_cons_zero]
        exact hrest _ _ _ _ _ ⟨true, rfl, fun h => by cases h⟩ (by assumption)
    simp only [List.foldl_cons, List.foldl_nil, List.set_cons_succ, List.set_cons_zero]
    clear hHeld
    rintro y48 y49 y50 _ w6_52 ⟨b6_52, rfl, hf⟩ hHeld
    have Hf6_52 := Lib.hid hf
    clear hf Hf5_43
    refine take_at (i := 29) (d := 52) (oi := ?o63) (v := ?v63) ?hi63 ?hd63 (by kernel_rfl) (by kernel_rfl) (by kernel_rfl) ?hw63 ?hy63 ?hq63 (by assumption) ?r63
    case hi63 => (simp only [List.getElem?_toArray, List.getElem?_cons_succ, List.getElem?_cons_zero]; rfl)
    case hd63 => rfl
    case hw63 => rfl
    case hy63 => ((intro w hSw; (try dsimp only at hSw); go_simp) <;> (with_reducible rfl))
    case hq63 => exact fun _ _ _ h => h
    simp only [List.set_cons_succ, List.set_cons_zero]
    refine join4 (d1 := 53) (d2 := 54) (d3 := 55) (d4 := 56) (L := [30, 31, 32, 33]) (fuel' := 14) (fun _ _ _ y56 _ => ∃ bx : Bool, y56 = .bool bx ∧ (bx = false → (((((((greatP (⟨fl, qu, q, u, dd⟩ : DiskP) = false) ∧ (rightP (⟨fl, qu, q, u, dd⟩ : DiskP) = true)) ∧ (dd = false)) ∧ (¬ (0 : Int) < u)) ∧ (¬ a.toList = [])) ∧ (¬ b.toList = [])) ∧ (a ≠ b)) ∧ (¬ (100 : Int) < (p.n : Int)))) ?rest7_63 ?first7_63
    case first7_63 =>
      intro hrest
      simp only [List.foldl_cons, List.foldl_nil, List.set_cons_succ, List.set_cons_zero] at hrest
      cases b6_52
      case false =>
        have F := Lib.hid (Hf6_52.out rfl)
        clear Hf6_52
        refine take_at (i := 30) (d := 53) (oi := ?o64) (v := ?v64) ?hi64 ?hd64 (by kernel_rfl) (by kernel_rfl) (by kernel_rfl) ?hw64 ?hy64 ?hq64 (by assumption) ?r64
        case hi64 => (simp only [List.getElem?_toArray, List.getElem?_cons_succ, List.getElem?_cons_zero]; rfl)
        case hd64 => rfl
        case hw64 => rfl
        case hy64 => ((intro w hSw; (try dsimp only at hSw); go_simp) <;> (with_reducible rfl))
        case hq64 => exact fun _ _ _ h => h
        simp only [List.set_cons_succ, List.set_cons_zero]
        refine take_at (i := 31) (d := 54) (oi := ?o65) (v := ?v65) ?hi65 ?hd65 (by kernel_rfl) (by kernel_rfl) (by kernel_rfl) ?hw65 ?hy65 ?hq65 (by assumption) ?r65
        case hi65 => (simp only [List.getElem?_toArray, List.getElem?_cons_succ, List.getElem?_cons_zero]; rfl)
        case hd65 => rfl
        case hw65 => rfl
        case hy65 => ((intro w hSw; (try dsimp only at hSw); go_simp) <;> (with_reducible rfl))
        case hq65 => exact fun _ _ _ h => h
        simp only [List.set_cons_succ, List.set_cons_zero]
        by_cases he : (100 : Int) < (p.n : Int)
        · have the : decide ((100 : Int) < (p.n : Int)) = true := by simpa using he
          refine take_at (i := 32) (d := 55) (oi := ?o66) (v := ?v66) ?hi66 ?hd66 (by kernel_rfl) (by kernel_rfl) (by kernel_rfl) ?hw66 ?hy66 ?hq66 (by assumption) ?r66
          case hi66 => (simp only [List.getElem?_toArray, List.getElem?_cons_succ, List.getElem?_cons_zero]; rfl)
          case hd66 => rfl
          case hw66 => rfl
          case hy66 => ((intro w hSw; (try dsimp only at hSw); go_simp) <;> (with_reducible rfl))
          case hq66 => exact fun _ _ _ h => h
          simp only [List.set_cons_succ, List.set_cons_zero]
          refine take_at (i := 33) (d := 56) (oi := ?o67) (v := ?v67) ?hi67 ?hd67 (by kernel_rfl) (by kernel_rfl) (by kernel_rfl) ?hw67 ?hy67 ?hq67 (by assumption) ?r67
          case hi67 => (simp only [List.getElem?_toArray, List.getElem?_cons_succ, List.getElem?_cons_zero]; rfl)
          case hd67 => rfl
          case hw67 => rfl
          case hy67 => ((intro w hSw; (try dsimp only at hSw); go_simp) <;> (with_reducible rfl))
          case hq67 => exact fun _ _ _ h => h
          simp only [List.set_cons_succ, List.set_cons_zero]
          exact hrest _ _ _ _ _ ⟨true, rfl, fun h => by cases h⟩ (by assumption)
        · have the : decide ((100 : Int) < (p.n : Int)) = false := by simpa using he
          refine take_at (i := 32) (d := 55) (oi := ?o68) (v := ?v68) ?hi68 ?hd68 (by kernel_rfl) (by kernel_rfl) (by kernel_rfl) ?hw68 ?hy68 ?hq68 (by assumption) ?r68
          case hi68 => (simp only [List.getElem?_toArray, List.getElem?_cons_succ, List.getElem?_cons_zero]; rfl)
          case hd68 => rfl
          case hw68 => rfl
          case hy68 => ((intro w hSw; (try dsimp only at hSw); go_simp) <;> (with_reducible rfl))
          case hq68 => exact fun _ _ _ h => h
          simp only [List.set_cons_succ, List.set_cons_zero]
          refine take_at (i := 33) (d := 56) (oi := ?o69) (v := ?v69) ?hi69 ?hd69 (by kernel_rfl) (by kernel_rfl) (by kernel_rfl) ?hw69 ?hy69 ?hq69 (by assumption) ?r69
          case hi69 => (simp only [List.getElem?_toArray, List.getElem?_cons_succ, List.getElem?_cons_zero]; rfl)
          case hd69 => rfl
          case hw69 => rfl
          case hy69 => ((intro w hSw; (try dsimp only at hSw); go_simp) <;> (with_reducible rfl))
          case hq69 => exact fun _ _ _ h => h
          simp only [List.set_cons_succ, List.set_cons_zero]
          exact hrest _ _ _ _ _ ⟨false, rfl, fun _ => ⟨F.out, he⟩⟩ (by assumption)
      case true =>
        clear Hf6_52
        refine skip_at (i := 30) (d := 53) (oi := ?o70) ?hi70 ?hd70 (by kernel_rfl) (by kernel_rfl) (by kernel_rfl) ?hw70 ?hq70 (by assumption) ?r70
        case hi70 => (simp only [List.getElem?_toArray, List.getElem?_cons_succ, List.getElem?_cons_zero]; rfl)
        case hd70 => rfl
        case hw70 => rfl
        case hq70 => exact fun _ _ _ h => h
        simp only [List.set_cons_succ, List.set_cons_zero]
        refine skip_at (i := 31) (d := 54) (oi := ?o71) ?hi71 ?hd71 (by kernel_rfl) (by kernel_rfl) (by kernel_rfl) ?hw71 ?hq71 (by assumption) ?r71
        case hi71 => (simp only [List.getElem?_toArray, List.getElem?_cons_succ, List.getElem?_cons_zero]; rfl)
        case hd71 => rfl
        case hw71 => rfl
        case hq71 => exact fun _ _ _ h => h
        simp only [List.set_cons_succ, List.set_cons_zero]
        refine skip_at (i := 32) (d := 55) (oi := ?o72) ?hi72 ?hd72 (by kernel_rfl) (by kernel_rfl) (by kernel_rfl) ?hw72 ?hq72 (by assumption) ?r72
        case hi72 => (simp only [List.getElem?_toArray, List.getElem?_cons_succ, List.getElem?_cons_zero]; rfl)
        case hd72 => rfl
        case hw72 => rfl
        case hq72 => exact fun _ _ _ h => h
        simp only [List.set_cons_succ, List.set_cons_zero]
        refine take_at (i := 33) (d := 56) (oi := ?o73) (v := ?v73) ?hi73 ?hd73 (by kernel_rfl) (by kernel_rfl) (by kernel_rfl) ?hw73 ?hy73 ?hq73 (by assumption) ?r73
        case hi73 => (simp only [List.getElem?_toArray, List.getElem?_cons_succ, List.getElem?_cons_zero]; rfl)
        case hd73 => rfl
        case hw73 => rfl
        case hy73 => ((intro w hSw; (try dsimp only at hSw); go_simp) <;> (with_reducible rfl))
        case hq73 => exact fun _ _ _ h => h
        simp only [List.set_cons_succ, List.set_cons_zero]
        exact hrest _ _ _ _ _ ⟨true, rfl, fun h => by cases h⟩ (by assumption)
    simp only [List.foldl_cons, List.foldl_nil, List.set_cons_succ, List.set_cons_zero]
    clear hHeld
    rintro y53 y54 y55 _ w7_63 ⟨b7_63, rfl, hf⟩ hHeld
    have Hf7_63 := Lib.hid hf
    clear hf Hf6_52
    refine take_at (i := 34) (d := 57) (oi := ?o74) (v := ?v74) ?hi74 ?hd74 (by kernel_rfl) (by kernel_rfl) (by kernel_rfl) ?hw74 ?hy74 ?hq74 (by assumption) ?r74
    case hi74 => (simp only [List.getElem?_toArray, List.getElem?_cons_succ, List.getElem?_cons_zero]; rfl)
    case hd74 => rfl
    case hw74 => rfl
    case hy74 => ((intro w hSw; (try dsimp only at hSw); go_simp) <;> (with_reducible rfl))
    case hq74 => exact fun _ _ _ h => h
    simp only [List.set_cons_succ, List.set_cons_zero]
    refine join5 (d1 := 58) (d2 := 59) (d3 := 60) (d4 := 61) (d5 := 62) (L := [35, 36, 37, 38, 39]) (fuel' := 8) (fun _ _ _ _ y62 _ => ∃ bx : Bool, y62 = .bool bx ∧ (bx = false → ((((((((greatP (⟨fl, qu, q, u, dd⟩ : DiskP) = false) ∧ (rightP (⟨fl, qu, q, u, dd⟩ : DiskP) = true)) ∧ (dd = false)) ∧ (¬ (0 : Int) < u)) ∧ (¬ a.toList = [])) ∧ (¬ b.toList = [])) ∧ (a ≠ b)) ∧ (¬ (100 : Int) < (p.n : Int))) ∧ (¬ (40 : Int) < (m : Int)))) ?rest8_74 ?first8_74
    case first8_74 =>
      intro hrest
      simp only [List.foldl_cons, List.foldl_nil, List.set_cons_succ, List.set_cons_zero] at hrest
      cases b7_63
      case false =>
        have F := Lib.hid (Hf7_63.out rfl)
        clear Hf7_63
        refine take_at (i := 35) (d := 58) (oi := ?o75) (v := ?v75) ?hi75 ?hd75 (by kernel_rfl) (by kernel_rfl) (by kernel_rfl) ?hw75 ?hy75 ?hq75 (by assumption) ?r75
        case hi75 => (simp only [List.getElem?_toArray, List.getElem?_cons_succ, List.getElem?_cons_zero]; rfl)
        case hd75 => rfl
        case hw75 => rfl
        case hy75 => ((intro w hSw; (try dsimp only at hSw); go_simp) <;> (with_reducible rfl))
        case hq75 => exact fun _ _ _ h => h
        simp only [List.set_cons_succ, List.set_cons_zero]
        refine take_at (i := 36) (d := 59) (oi := ?o76) (v := ?v76) ?hi76 ?hd76 (by kernel_rfl) (by kernel_rfl) (by kernel_rfl) ?hw76 ?hy76 ?hq76 (by assumption) ?r76
        case hi76 => (simp only [List.getElem?_toArray, List.getElem?_cons_succ, List.getElem?_cons_zero]; rfl)
        case hd76 => rfl
        case hw76 => rfl
        case hy76 => ((intro w hSw; (try dsimp only at hSw); go_simp) <;> (with_reducible rfl))
        case hq76 => exact fun _ _ _ h => h
        simp only [List.set_cons_succ, List.set_cons_zero]
        refine take_at (i := 37) (d := 60) (oi := ?o77) (v := ?v77) ?hi77 ?hd77 (by kernel_rfl) (by kernel_rfl) (by kernel_rfl) ?hw77 ?hy77 ?hq77 (by assumption) ?r77
        case hi77 => (simp only [List.getElem?_toArray, List.getElem?_cons_succ, List.getElem?_cons_zero]; rfl)
        case hd77 => rfl
        case hw77 => rfl
        case hy77 => ((intro w hSw; (try dsimp only at hSw); go_simp) <;> (with_reducible rfl))
        case hq77 => exact fun _ _ _ h => h
        simp only [List.set_cons_succ, List.set_cons_zero]
        by_cases hf : (40 : Int) < (m : Int)
        · have thf : decide ((40 : Int) < (m : Int)) = true := by simpa using hf
          refine take_at (i := 38) (d := 61) (oi := ?o78) (v := ?v78) ?hi78 ?hd78 (by kernel_rfl) (by kernel_rfl) (by kernel_rfl) ?hw78 ?hy78 ?hq78 (by assumption) ?r78
          case hi78 => (simp only [List.getElem?_toArray, List.getElem?_cons_succ, List.getElem?_cons_zero]; rfl)
          case hd78 => rfl
          case hw78 => rfl
          case hy78 => ((intro w hSw; (try dsimp only at hSw); go_simp) <;> (with_reducible rfl))
          case hq78 => exact fun _ _ _ h => h
          simp only [List.set_cons_succ, List.set_cons_zero]
          refine take_at (i := 39) (d := 62) (oi := ?o79) (v := ?v79) ?hi79 ?hd79 (by kernel_rfl) (by kernel_rfl) (by kernel_rfl) ?hw79 ?hy79 ?hq79 (by assumption) ?r79
          case hi79 => (simp only [List.getElem?_toArray, List.getElem?_cons_succ, List.getElem?_cons_zero]; rfl)
          case hd79 => rfl
          case hw79 => rfl
          case hy79 => ((intro w hSw; (try dsimp only at hSw); go_simp) <;> (with_reducible rfl))
          case hq79 => exact fun _ _ _ h => h
          simp only [List.set_cons_succ, List.set_cons_zero]
          exact hrest _ _ _ _ _ _ ⟨true, rfl, fun h => by cases h⟩ (by assumption)
        · have thf : decide ((40 : Int) < (m : Int)) = false := by simpa using hf
          refine take_at (i := 38) (d := 61) (oi := ?o80) (v := ?v80) ?hi80 ?hd80 (by kernel_rfl) (by kernel_rfl) (by kernel_rfl) ?hw80 ?hy80 ?hq80 (by assumption) ?r80
          case hi80 => (simp only [List.getElem?_toArray, List.getElem?_cons_succ, List.getElem?_cons_zero]; rfl)
          case hd80 => rfl
          case hw80 => rfl
          case hy80 => ((intro w hSw; (try dsimp only at hSw); go_simp) <;> (with_reducible rfl))
          case hq80 => exact fun _ _ _ h => h
          simp only [List.set_cons_succ, List.set_cons_zero]
          refine take_at (i := 39) (d := 62) (oi := ?o81) (v := ?v81) ?hi81 ?hd81 (by kernel_rfl) (by kernel_rfl) (by kernel_rfl) ?hw81 ?hy81 ?hq81 (by assumption) ?r81
          case hi81 => (simp only [List.getElem?_toArray, List.getElem?_cons_succ, List.getElem?_cons_zero]; rfl)
          case hd81 => rfl
          case hw81 => rfl
          case hy81 => ((intro w hSw; (try dsimp only at hSw); go_simp) <;> (with_reducible rfl))
          case hq81 => exact fun _ _ _ h => h
          simp only [List.set_cons_succ, List.set_cons_zero]
          exact hrest _ _ _ _ _ _ ⟨false, rfl, fun _ => ⟨F.out, hf⟩⟩ (by assumption)
      case true =>
        clear Hf7_63
        refine skip_at (i := 35) (d := 58) (oi := ?o82) ?hi82 ?hd82 (by kernel_rfl) (by kernel_rfl) (by kernel_rfl) ?hw82 ?hq82 (by assumption) ?r82
        case hi82 => (simp only [List.getElem?_toArray, List.getElem?_cons_succ, List.getElem?_cons_zero]; rfl)
        case hd82 => rfl
        case hw82 => rfl
        case hq82 => exact fun _ _ _ h => h
        simp only [List.set_cons_succ, List.set_cons_zero]
        refine skip_at (i := 36) (d := 59) (oi := ?o83) ?hi83 ?hd83 (by kernel_rfl) (by kernel_rfl) (by kernel_rfl) ?hw83 ?hq83 (by assumption) ?r83
        case hi83 => (simp only [List.getElem?_toArray, List.getElem?_cons_succ, List.getElem?_cons_zero]; rfl)
        case hd83 => rfl
        case hw83 => rfl
        case hq83 => exact fun _ _ _ h => h
        simp only [List.set_cons_succ, List.set_cons_zero]
        refine skip_at (i := 37) (d := 60) (oi := ?o84) ?hi84 ?hd84 (by kernel_rfl) (by kernel_rfl) (by kernel_rfl) ?hw84 ?hq84 (by assumption) ?r84
        case hi84 => (simp only [List.getElem?_toArray, List.getElem?_cons_succ, List.getElem?_cons_zero]; rfl)
        case hd84 => rfl
        case hw84 => rfl
        case hq84 => exact fun _ _ _ h => h
        simp only [List.set_cons_succ, List.set_cons_zero]
        refine skip_at (i := 38) (d := 61) (oi := ?o85) ?hi85 ?hd85 (by kernel_rfl) (by kernel_rfl) (by kernel_rfl) ?hw85 ?hq85 (by assumption) ?r85
        case hi85 => (simp only [List.getElem?_toArray, List.getElem?_cons_succ, List.getElem?_cons_zero]; rfl)
        case hd85 => rfl
        case hw85 => rfl
        case hq85 => exact fun _ _ _ h => h
        simp only [List.set_cons_succ, List.set_cons_zero]
        refine take_at (i := 39) (d := 62) (oi := ?o86) (v := ?v86) ?hi86 ?hd86 (by kernel_rfl) (by kernel_rfl) (by kernel_rfl) ?hw86 ?hy86 ?hq86 (by assumption) ?r86
        case hi86 => (simp only [List.getElem?_toArray, List.getElem?_cons_succ, List.getElem?_cons_zero]; rfl)
        case hd86 => rfl
        case hw86 => rfl
        case hy86 => ((intro w hSw; (try dsimp only at hSw); go_simp) <;> (with_reducible rfl))
        case hq86 => exact fun _ _ _ h => h
        simp only [List.set_cons_succ, List.set_cons_zero]
        exact hrest _ _ _ _ _ _ ⟨true, rfl, fun h => by cases h⟩ (by assumption)
    simp only [List.foldl_cons, List.foldl_nil, List.set_cons_succ, List.set_cons_zero]
    clear hHeld
    rintro y58 y59 y60 y61 _ w8_74 ⟨b8_74, rfl, hf⟩ hHeld
    have Hf8_74 := Lib.hid hf
    clear hf Hf7_63
    refine take_at (i := 40) (d := 63) (oi := ?o87) (v := ?v87) ?hi87 ?hd87 (by kernel_rfl) (by kernel_rfl) (by kernel_rfl) ?hw87 ?hy87 ?hq87 (by assumption) ?r87
    case hi87 => (simp only [List.getElem?_toArray, List.getElem?_cons_succ, List.getElem?_cons_zero]; rfl)
    case hd87 => rfl
    case hw87 => rfl
    case hy87 => ((intro w hSw; (try dsimp only at hSw); go_simp) <;> (with_reducible rfl))
    case hq87 => exact fun _ _ _ h => h
    simp only [List.set_cons_succ, List.set_cons_zero]
    refine join7 (d1 := 64) (d2 := 67) (d3 := 68) (d4 := 65) (d5 := 66) (d6 := 69) (d7 := 70) (L := [41, 44, 45, 42, 43, 46, 47]) (fuel' := 0) (fun _ _ _ _ _ _ y70 _ => ∃ bx : Bool, y70 = .bool bx ∧ (bx = false → (((((((((greatP (⟨fl, qu, q, u, dd⟩ : DiskP) = false) ∧ (rightP (⟨fl, qu, q, u, dd⟩ : DiskP) = true)) ∧ (dd = false)) ∧ (¬ (0 : Int) < u)) ∧ (¬ a.toList = [])) ∧ (¬ b.toList = [])) ∧ (a ≠ b)) ∧ (¬ (100 : Int) < (p.n : Int))) ∧ (¬ (40 : Int) < (m : Int))) ∧ (((usedP (⟨fl, qu, q, u, dd⟩ : DiskP) : Nat) : Int) + 100 ≤ q))) ?rest9_87 ?first9_87
    case first9_87 =>
      intro hrest
      simp only [List.foldl_cons, List.foldl_nil, List.set_cons_succ, List.set_cons_zero] at hrest
      cases b8_74
      case false =>
        have F := Lib.hid (Hf8_74.out rfl)
        clear Hf8_74
        refine take_at (i := 41) (d := 64) (oi := ?o88) (v := ?v88) ?hi88 ?hd88 (by kernel_rfl) (by kernel_rfl) (by kernel_rfl) ?hw88 ?hy88 ?hq88 (by assumption) ?r88
        case hi88 => (simp only [List.getElem?_toArray, List.getElem?_cons_succ, List.getElem?_cons_zero]; rfl)
        case hd88 => rfl
        case hw88 => rfl
        case hy88 => ((intro w hSw; (try dsimp only at hSw); go_simp) <;> (with_reducible rfl))
        case hq88 => exact fun _ _ _ h => h
        simp only [List.set_cons_succ, List.set_cons_zero]
        refine take_at (i := 44) (d := 67) (oi := ?o89) (v := ?v89) ?hi89 ?hd89 (by kernel_rfl) (by kernel_rfl) (by kernel_rfl) ?hw89 ?hy89 ?hq89 (by assumption) ?r89
        case hi89 => (simp only [List.getElem?_toArray, List.getElem?_cons_succ, List.getElem?_cons_zero]; rfl)
        case hd89 => rfl
        case hw89 => rfl
        case hy89 => ((intro w hSw; (try dsimp only at hSw); go_simp) <;> (with_reducible rfl))
        case hq89 => exact fun _ _ _ h => h
        simp only [List.set_cons_succ, List.set_cons_zero]
        refine take_at (i := 45) (d := 68) (oi := ?o90) (v := ?v90) ?hi90 ?hd90 (by kernel_rfl) (by kernel_rfl) (by kernel_rfl) ?hw90 ?hy90 ?hq90 (by assumption) ?r90
        case hi90 => (simp only [List.getElem?_toArray, List.getElem?_cons_succ, List.getElem?_cons_zero]; rfl)
        case hd90 => rfl
        case hw90 => rfl
        case hy90 => ((intro w hSw; (try dsimp only at hSw); go_simp) <;> (with_reducible rfl))
        case hq90 => exact fun _ _ _ h => h
        simp only [List.set_cons_succ, List.set_cons_zero]
        have HS := Lib.hid ((Run.of F.out.1.1.1.1.1.1.1.1 Hn.out Hu.out).small (by omega))
        · skip
          refine call_at (i := 42) (d := 65) (oi := ?o91) (f := ?f91) (args := ?a91) ?hi91 ?hd91 (by kernel_rfl) ?hw91 ?he91 ?hc91
          case hi91 => (simp only [List.getElem?_toArray, List.getElem?_cons_succ, List.getElem?_cons_zero]; rfl)
          case hd91 => rfl
          case hw91 => rfl
          case he91 => (go_simp; constructor <;> with_reducible rfl)
          refine Calls.mono (used_any (d := ⟨fl, qu, q, u, dd⟩) (Hd.out _ (And.left hHeld)) HS.out) ?_
          rintro e w3 ⟨rfl, hb1⟩
          have kb := below_on (And.left hHeld) hb1
          clear hHeld hb1
          obtain ⟨U, hU⟩ : ∃ U, usedP ⟨fl, qu, q, u, dd⟩ = U := ⟨_, rfl⟩
          rw [hU]
          have hU2 : U ≤ 4611686018427387904 := by rw [← hU]; exact used_top HS.out
          obtain ⟨V, hV⟩ : ∃ V : Int, V = (U : Int) + 100 := ⟨_, rfl⟩
          have tadd : IntKind.i64.wrap ((U : Int) + 100) = V := by rw [IntKind.wrap_i64]; omega
          have HV := Lib.hid hV
          clear hV
          have HU := Lib.hid hU
          clear hU hU2
          refine ⟨_, rfl, Hcells.out _ kb, fun hHeld => ?_⟩
          simp only [List.set_cons_succ, List.set_cons_zero]
          refine take_at (i := 43) (d := 66) (oi := ?o92) (v := ?v92) ?hi92 ?hd92 (by kernel_rfl) (by kernel_rfl) (by kernel_rfl) ?hw92 ?hy92 ?hq92 (by assumption) ?r92
          case hi92 => (simp only [List.getElem?_toArray, List.getElem?_cons_succ, List.getElem?_cons_zero]; rfl)
          case hd92 => rfl
          case hw92 => rfl
          case hy92 => ((intro w hSw; (try dsimp only at hSw); go_simp) <;> (with_reducible rfl))
          case hq92 => exact fun _ _ _ h => h
          simp only [List.set_cons_succ, List.set_cons_zero]
          by_cases hg : q < V
          · have thg : decide (q < V) = true := by simpa using hg
            refine take_at (i := 46) (d := 69) (oi := ?o93) (v := ?v93) ?hi93 ?hd93 (by kernel_rfl) (by kernel_rfl) (by kernel_rfl) ?hw93 ?hy93 ?hq93 (by assumption) ?r93
            case hi93 => (simp only [List.getElem?_toArray, List.getElem?_cons_succ, List.getElem?_cons_zero]; rfl)
            case hd93 => rfl
            case hw93 => rfl
            case hy93 => ((intro w hSw; (try dsimp only at hSw); go_simp) <;> (with_reducible rfl))
            case hq93 => exact fun _ _ _ h => h
            simp only [List.set_cons_succ, List.set_cons_zero]
            refine take_at (i := 47) (d := 70) (oi := ?o94) (v := ?v94) ?hi94 ?hd94 (by kernel_rfl) (by kernel_rfl) (by kernel_rfl) ?hw94 ?hy94 ?hq94 (by assumption) ?r94
            case hi94 => (simp only [List.getElem?_toArray, List.getElem?_cons_succ, List.getElem?_cons_zero]; rfl)
            case hd94 => rfl
            case hw94 => rfl
            case hy94 => ((intro w hSw; (try dsimp only at hSw); go_simp) <;> (with_reducible rfl))
            case hq94 => exact fun _ _ _ h => h
            simp only [List.set_cons_succ, List.set_cons_zero]
            exact hrest _ _ _ _ _ _ _ _ ⟨true, rfl, fun h => by cases h⟩ (by assumption)
          · have thg : decide (q < V) = false := by simpa using hg
            refine take_at (i := 46) (d := 69) (oi := ?o95) (v := ?v95) ?hi95 ?hd95 (by kernel_rfl) (by kernel_rfl) (by kernel_rfl) ?hw95 ?hy95 ?hq95 (by assumption) ?r95
            case hi95 => (simp only [List.getElem?_toArray, List.getElem?_cons_succ, List.getElem?_cons_zero]; rfl)
            case hd95 => rfl
            case hw95 => rfl
            case hy95 => ((intro w hSw; (try dsimp only at hSw); go_simp) <;> (with_reducible rfl))
            case hq95 => exact fun _ _ _ h => h
            simp only [List.set_cons_succ, List.set_cons_zero]
            refine take_at (i := 47) (d := 70) (oi := ?o96) (v := ?v96) ?hi96 ?hd96 (by kernel_rfl) (by kernel_rfl) (by kernel_rfl) ?hw96 ?hy96 ?hq96 (by assumption) ?r96
            case hi96 => (simp only [List.getElem?_toArray, List.getElem?_cons_succ, List.getElem?_cons_zero]; rfl)
            case hd96 => rfl
            case hw96 => rfl
            case hy96 => ((intro w hSw; (try dsimp only at hSw); go_simp) <;> (with_reducible rfl))
            case hq96 => exact fun _ _ _ h => h
            simp only [List.set_cons_succ, List.set_cons_zero]
            exact hrest _ _ _ _ _ _ _ _ ⟨false, rfl, fun _ => ⟨F.out, by have hv := HV.out; rw [HU.out]; clear tadd; omega⟩⟩ (by assumption)
      case true =>
        clear Hf8_74
        refine skip_at (i := 41) (d := 64) (oi := ?o97) ?hi97 ?hd97 (by kernel_rfl) (by kernel_rfl) (by kernel_rfl) ?hw97 ?hq97 (by assumption) ?r97
        case hi97 => (simp only [List.getElem?_toArray, List.getElem?_cons_succ, List.getElem?_cons_zero]; rfl)
        case hd97 => rfl
        case hw97 => rfl
        case hq97 => exact fun _ _ _ h => h
        simp only [List.set_cons_succ, List.set_cons_zero]
        refine skip_at (i := 44) (d := 67) (oi := ?o98) ?hi98 ?hd98 (by kernel_rfl) (by kernel_rfl) (by kernel_rfl) ?hw98 ?hq98 (by assumption) ?r98
        case hi98 => (simp only [List.getElem?_toArray, List.getElem?_cons_succ, List.getElem?_cons_zero]; rfl)
        case hd98 => rfl
        case hw98 => rfl
        case hq98 => exact fun _ _ _ h => h
        simp only [List.set_cons_succ, List.set_cons_zero]
        refine skip_at (i := 45) (d := 68) (oi := ?o99) ?hi99 ?hd99 (by kernel_rfl) (by kernel_rfl) (by kernel_rfl) ?hw99 ?hq99 (by assumption) ?r99
        case hi99 => (simp only [List.getElem?_toArray, List.getElem?_cons_succ, List.getElem?_cons_zero]; rfl)
        case hd99 => rfl
        case hw99 => rfl
        case hq99 => exact fun _ _ _ h => h
        simp only [List.set_cons_succ, List.set_cons_zero]
        refine skip_at (i := 42) (d := 65) (oi := ?o100) ?hi100 ?hd100 (by kernel_rfl) (by kernel_rfl) (by kernel_rfl) ?hw100 ?hq100 (by assumption) ?r100
        case hi100 => (simp only [List.getElem?_toArray, List.getElem?_cons_succ, List.getElem?_cons_zero]; rfl)
        case hd100 => rfl
        case hw100 => rfl
        case hq100 => exact fun _ _ _ h => h
        simp only [List.set_cons_succ, List.set_cons_zero]
        refine skip_at (i := 43) (d := 66) (oi := ?o101) ?hi101 ?hd101 (by kernel_rfl) (by kernel_rfl) (by kernel_rfl) ?hw101 ?hq101 (by assumption) ?r101
        case hi101 => (simp only [List.getElem?_toArray, List.getElem?_cons_succ, List.getElem?_cons_zero]; rfl)
        case hd101 => rfl
        case hw101 => rfl
        case hq101 => exact fun _ _ _ h => h
        simp only [List.set_cons_succ, List.set_cons_zero]
        refine skip_at (i := 46) (d := 69) (oi := ?o102) ?hi102 ?hd102 (by kernel_rfl) (by kernel_rfl) (by kernel_rfl) ?hw102 ?hq102 (by assumption) ?r102
        case hi102 => (simp only [List.getElem?_toArray, List.getElem?_cons_succ, List.getElem?_cons_zero]; rfl)
        case hd102 => rfl
        case hw102 => rfl
        case hq102 => exact fun _ _ _ h => h
        simp only [List.set_cons_succ, List.set_cons_zero]
        refine take_at (i := 47) (d := 70) (oi := ?o103) (v := ?v103) ?hi103 ?hd103 (by kernel_rfl) (by kernel_rfl) (by kernel_rfl) ?hw103 ?hy103 ?hq103 (by assumption) ?r103
        case hi103 => (simp only [List.getElem?_toArray, List.getElem?_cons_succ, List.getElem?_cons_zero]; rfl)
        case hd103 => rfl
        case hw103 => rfl
        case hy103 => ((intro w hSw; (try dsimp only at hSw); go_simp) <;> (with_reducible rfl))
        case hq103 => exact fun _ _ _ h => h
        simp only [List.set_cons_succ, List.set_cons_zero]
        exact hrest _ _ _ _ _ _ _ _ ⟨true, rfl, fun h => by cases h⟩ (by assumption)
    simp only [List.foldl_cons, List.foldl_nil, List.set_cons_succ, List.set_cons_zero]
    clear hHeld
    rintro y64 y67 y68 y65 y66 y69 _ w9_87 ⟨b9_87, rfl, hf⟩ hHeld
    have Hf9_87 := Lib.hid hf
    clear hf Hf8_74
    refine wpAnyH_done (by kernel_rfl) ?_ _
    go_wp2_with fail
    go_meet
    exact ⟨b9_87, rfl, And.left hHeld, fun h => by obtain ⟨⟨⟨⟨⟨⟨⟨⟨⟨a0, a1⟩, a2⟩, a3⟩, a4⟩, a5⟩, a6⟩, a7⟩, a8⟩, a9⟩ := Hf9_87.out h; exact ⟨a0, a1, a2, by simp only; omega, a4, a5, a6, by omega, by omega, a9⟩⟩
  case rest =>
    obtain ⟨bv, rfl, kb, hask⟩ := hcut
    obtain ⟨w1, rfl⟩ : ∃ w1, w1 = wc := ⟨_, rfl⟩
    have hB1 := HB.out.trans (kb.mono HB.out.size)
    have Hask := Lib.hid hask
    clear hask
    cases bv
    case true =>
      go_wp2_with fail
      refine (HW.out w1).mono ?_
      rintro e w2 ⟨rfl, hb2⟩
      go_wp2_with fail
      go_ret
      exact ⟨rfl, hB1.trans (hb2.mono hB1.size)⟩
    case false =>

      have ask := Hask.out rfl
      have hr0 := Run.of ask.great Hn.out Hu.out
      have hu0 : (⟨fl, qu, q, u, dd⟩ : DiskP).fuse = 0 := by have h1 := ((right_iff _).1 ask.right).2.2.2.2.1; have h2 := ask.fuse; omega
      have x1 : DBox w1 z ⟨fl, qu, q, u, dd⟩ A n c B m k := ⟨Hbz.out.below kb, Hd.out _ kb⟩
      have hlen : p.l.length = p.n := hp0.rd.1
      have hna : a ≠ ByteArray.empty := fun e => ask.ha ((nil_name _).2 e)
      have hnb : b ≠ ByteArray.empty := fun e => ask.hb ((nil_name _).2 e)
      have hp100 := ask.hn
      obtain ⟨d1, d2, d3, d4, e1, r1, e2, r2, e3, r3, r4, e4, r5⟩ := names_run (d := ⟨fl, qu, q, u, dd⟩) (a := a) (b := b) (l := p.l) ask.right ask.dead hu0 hna hnb ask.hab (by omega) (by have h1 := x1.2.len.2; have h2 := ask.hm; simp only at *; omega) ask.room
      have hem : ByteArray.empty.size ≤ maxLen := by decide
      have j1 := hr0.step e1 (by simp) ⟨Ha.out, hem⟩
      have j2 := j1.step e2 (by simp only; omega) ⟨Ha.out, hem⟩
      have j3 := j2.step e3 (by simp) ⟨Ha.out, Hb.out⟩
      have j4 := j3.step e4 (by simp) ⟨Hb.out, hem⟩
      have Hp2 := Lib.hid (show ∀ W, Below w.heap.size w W → p.Ok W W.heap.size from fun W hW => hp0.on hW hW.size)
      have HE := Lib.hid (⟨e1, e2, e3, e4⟩ : _ ∧ _ ∧ _ ∧ _)
      have HR := Lib.hid (⟨r1, r2, r3, r4, r5⟩ : _ ∧ _ ∧ _ ∧ _ ∧ _)
      have HJ := Lib.hid (⟨hr0, j1, j2, j3, j4⟩ : _ ∧ _ ∧ _ ∧ _ ∧ _)
      clear e1 e2 e3 e4 r1 r2 r3 r4 r5 hr0 j1 j2 j3 j4 ask hu0 hna hnb Hask Hd Hp Hbz Hcells kb hem hp0
      obtain ⟨⟨k0, k1, k2, k3, k4⟩, _⟩ := box5 x1.1
      go_wp2_with fail
      refine (do_step (D' := d1) (er := 0) ⟨1, a, ByteArray.empty, ⟨none, 0, 0, []⟩⟩ x1.2 HJ.out.1 (by omega) (ok_none _) ⟨by simp, by simp⟩ (by simp) Ha.out HE.out.1).mono ?_
      rintro e w2 ⟨⟨A2, n2, c2, B2, m2, q2, rfl, g2⟩, hb⟩
      have x2 := x1.below hb
      have hB2 := hB1.trans (hb.mono hB1.size)
      clear hb k0 k1 k2 k3 k4
      obtain ⟨⟨k0, k1, k2, k3, k4⟩, s0, s1, s2, s3, s4⟩ := box5 x2.1
      go_upto_region 4 with fail
      obtain ⟨w3, hw⟩ : ∃ w3, w3 = put5 w2 z (.slice A2 n2 c2) (.slice B2 m2 q2) (.int .i64 d1.quota) (.int .i64 d1.fuse) (.bool d1.dead) := ⟨_, rfl⟩
      have x3 : DBox w3 z d1 A2 n2 c2 B2 m2 q2 := by rw [hw]; exact x2.put g2
      have hB3 : Below w.heap.size w w3 := by rw [hw]; exact put5_below hB2 hzw _ _ _ _ _
      have hw2 : w3 = (((((w2.setCell ⟨z, 0, none⟩ (.slice A2 n2 c2)).setCell ⟨z, 1, none⟩ (.slice B2 m2 q2)).setCell ⟨z, 2, none⟩ (.int .i64 d1.quota)).setCell ⟨z, 3, none⟩ (.int .i64 d1.fuse)).setCell ⟨z, 4, none⟩ (.bool d1.dead)) := hw
      rw [← hw2]
      clear hw hw2 k0 k1 k2 k3 k4 s0 s1 s2 s3 s4 x2 hB2 g2
      obtain ⟨⟨k0, k1, k2, k3, k4⟩, _⟩ := box5 x3.1
      go_wp2_with fail
      refine (read_step (er := 0) (l := []) a x3.2 HJ.out.2.1 (by omega) Ha.out HR.out.1).mono ?_
      rintro e w4 ⟨⟨A4, n4, c4, rfl, hc4, rx⟩, hb⟩
      have x4 := x3.below hb
      have hB4 := hB3.trans (hb.mono hB3.size)
      clear hb k0 k1 k2 k3 k4 hc4
      obtain ⟨⟨k0, k1, k2, k3, k4⟩, _⟩ := box5 x4.1
      go_wp2_with fail
      refine (do_step (D' := d2) (er := 0) ⟨2, a, ByteArray.empty, p⟩ x4.2 HJ.out.2.1 (by omega) (Hp2.out _ hB4) ⟨by simp, by simp⟩ (by simp only; omega) Ha.out HE.out.2.1).mono ?_
      rintro e w5 ⟨⟨A5, n5, c5, B5, m5, q5, rfl, g5⟩, hb⟩
      have x5 := x4.below hb
      have hB5 := hB4.trans (hb.mono hB4.size)
      replace rx := rx.on hb hb.size
      clear hb k0 k1 k2 k3 k4
      obtain ⟨⟨k0, k1, k2, k3, k4⟩, s0, s1, s2, s3, s4⟩ := box5 x5.1
      go_upto_region 6 with fail
      obtain ⟨w6, hw⟩ : ∃ w6, w6 = put5 w5 z (.slice A5 n5 c5) (.slice B5 m5 q5) (.int .i64 d2.quota) (.int .i64 d2.fuse) (.bool d2.dead) := ⟨_, rfl⟩
      have x6 : DBox w6 z d2 A5 n5 c5 B5 m5 q5 := by rw [hw]; exact x5.put g5
      have hB6 : Below w.heap.size w w6 := by rw [hw]; exact put5_below hB5 hzw _ _ _ _ _
      replace rx : Rd w6 w6.heap.size .u8 A4 n4 [] := by rw [hw, put5_size]; exact Rd.put5 x5 rx
      have hw2 : w6 = (((((w5.setCell ⟨z, 0, none⟩ (.slice A5 n5 c5)).setCell ⟨z, 1, none⟩ (.slice B5 m5 q5)).setCell ⟨z, 2, none⟩ (.int .i64 d2.quota)).setCell ⟨z, 3, none⟩ (.int .i64 d2.fuse)).setCell ⟨z, 4, none⟩ (.bool d2.dead)) := hw
      rw [← hw2]
      clear hw hw2 k0 k1 k2 k3 k4 s0 s1 s2 s3 s4 x5 hB5 g5
      obtain ⟨⟨k0, k1, k2, k3, k4⟩, _⟩ := box5 x6.1
      go_wp2_with fail
      refine (read_step (er := 0) (l := p.l) a x6.2 HJ.out.2.2.1 (by omega) Ha.out HR.out.2.1).mono ?_
      rintro e w7 ⟨⟨A7, n7, c7, rfl, hc7, ry⟩, hb⟩
      replace rx := rx.on hb hb.size
      have x7 := x6.below hb
      have hB7 := hB6.trans (hb.mono hB6.size)
      clear hb k0 k1 k2 k3 k4 hc7
      obtain ⟨⟨k0, k1, k2, k3, k4⟩, _⟩ := box5 x7.1
      go_wp2_with fail
      refine (do_step (D' := d3) (er := 0) ⟨3, a, b, ⟨none, 0, 0, []⟩⟩ x7.2 HJ.out.2.2.1 (by omega) (ok_none _) ⟨by simp, by simp⟩ (by simp) Ha.out HE.out.2.2.1).mono ?_
      rintro e w8 ⟨⟨A8, n8, c8, B8, m8, q8, rfl, g8⟩, hb⟩
      have x8 := x7.below hb
      have hB8 := hB7.trans (hb.mono hB7.size)
      replace rx := rx.on hb hb.size
      replace ry := ry.on hb hb.size
      clear hb k0 k1 k2 k3 k4
      obtain ⟨⟨k0, k1, k2, k3, k4⟩, s0, s1, s2, s3, s4⟩ := box5 x8.1
      go_upto_region 8 with fail
      obtain ⟨w9, hw⟩ : ∃ w9, w9 = put5 w8 z (.slice A8 n8 c8) (.slice B8 m8 q8) (.int .i64 d3.quota) (.int .i64 d3.fuse) (.bool d3.dead) := ⟨_, rfl⟩
      have x9 : DBox w9 z d3 A8 n8 c8 B8 m8 q8 := by rw [hw]; exact x8.put g8
      have hB9 : Below w.heap.size w w9 := by rw [hw]; exact put5_below hB8 hzw _ _ _ _ _
      replace rx : Rd w9 w9.heap.size .u8 A4 n4 [] := by rw [hw, put5_size]; exact Rd.put5 x8 rx
      replace ry : Rd w9 w9.heap.size .u8 A7 n7 p.l := by rw [hw, put5_size]; exact Rd.put5 x8 ry
      have hw2 : w9 = (((((w8.setCell ⟨z, 0, none⟩ (.slice A8 n8 c8)).setCell ⟨z, 1, none⟩ (.slice B8 m8 q8)).setCell ⟨z, 2, none⟩ (.int .i64 d3.quota)).setCell ⟨z, 3, none⟩ (.int .i64 d3.fuse)).setCell ⟨z, 4, none⟩ (.bool d3.dead)) := hw
      rw [← hw2]
      clear hw hw2 k0 k1 k2 k3 k4 s0 s1 s2 s3 s4 x8 hB8 g8
      obtain ⟨⟨k0, k1, k2, k3, k4⟩, _⟩ := box5 x9.1
      go_wp2_with fail
      refine (read_step (er := 0) (l := p.l) b x9.2 HJ.out.2.2.2.1 (by omega) Hb.out HR.out.2.2.1).mono ?_
      rintro e w10 ⟨⟨A10, n10, c10, rfl, hc10, rz⟩, hb⟩
      replace rx := rx.on hb hb.size
      replace ry := ry.on hb hb.size
      have x10 := x9.below hb
      have hB10 := hB9.trans (hb.mono hB9.size)
      clear hb k0 k1 k2 k3 k4 hc10
      obtain ⟨⟨k0, k1, k2, k3, k4⟩, _⟩ := box5 x10.1
      go_wp2_with fail
      refine (read_step (er := 42) (l := []) a x10.2 HJ.out.2.2.2.1 (by omega) Ha.out HR.out.2.2.2.1).mono ?_
      rintro e w11 ⟨⟨A11, n11, c11, rfl, hc11, ro⟩, hb⟩
      replace rx := rx.on hb hb.size
      replace ry := ry.on hb hb.size
      replace rz := rz.on hb hb.size
      have x11 := x10.below hb
      have hB11 := hB10.trans (hb.mono hB10.size)
      clear hb k0 k1 k2 k3 k4 hc11
      obtain ⟨⟨k0, k1, k2, k3, k4⟩, _⟩ := box5 x11.1
      go_wp2_with fail
      refine (do_step (D' := d4) (er := 0) ⟨4, b, ByteArray.empty, ⟨none, 0, 0, []⟩⟩ x11.2 HJ.out.2.2.2.1 (by omega) (ok_none _) ⟨by simp, by simp⟩ (by simp) Hb.out HE.out.2.2.2).mono ?_
      rintro e w12 ⟨⟨A12, n12, c12, B12, m12, q12, rfl, g12⟩, hb⟩
      have x12 := x11.below hb
      have hB12 := hB11.trans (hb.mono hB11.size)
      replace rx := rx.on hb hb.size
      replace ry := ry.on hb hb.size
      replace rz := rz.on hb hb.size
      replace ro := ro.on hb hb.size
      clear hb k0 k1 k2 k3 k4
      obtain ⟨⟨k0, k1, k2, k3, k4⟩, s0, s1, s2, s3, s4⟩ := box5 x12.1
      go_upto_region 11 with fail
      obtain ⟨w13, hw⟩ : ∃ w13, w13 = put5 w12 z (.slice A12 n12 c12) (.slice B12 m12 q12) (.int .i64 d4.quota) (.int .i64 d4.fuse) (.bool d4.dead) := ⟨_, rfl⟩
      have x13 : DBox w13 z d4 A12 n12 c12 B12 m12 q12 := by rw [hw]; exact x12.put g12
      have hB13 : Below w.heap.size w w13 := by rw [hw]; exact put5_below hB12 hzw _ _ _ _ _
      replace rx : Rd w13 w13.heap.size .u8 A4 n4 [] := by rw [hw, put5_size]; exact Rd.put5 x12 rx
      replace ry : Rd w13 w13.heap.size .u8 A7 n7 p.l := by rw [hw, put5_size]; exact Rd.put5 x12 ry
      replace rz : Rd w13 w13.heap.size .u8 A10 n10 p.l := by rw [hw, put5_size]; exact Rd.put5 x12 rz
      replace ro : Rd w13 w13.heap.size .u8 A11 n11 [] := by rw [hw, put5_size]; exact Rd.put5 x12 ro
      have hw2 : w13 = (((((w12.setCell ⟨z, 0, none⟩ (.slice A12 n12 c12)).setCell ⟨z, 1, none⟩ (.slice B12 m12 q12)).setCell ⟨z, 2, none⟩ (.int .i64 d4.quota)).setCell ⟨z, 3, none⟩ (.int .i64 d4.fuse)).setCell ⟨z, 4, none⟩ (.bool d4.dead)) := hw
      rw [← hw2]
      clear hw hw2 k0 k1 k2 k3 k4 s0 s1 s2 s3 s4 x12 hB12 g12
      obtain ⟨⟨k0, k1, k2, k3, k4⟩, _⟩ := box5 x13.1
      go_wp2_with fail
      refine (read_step (er := 42) (l := []) b x13.2 HJ.out.2.2.2.2 (by omega) Hb.out HR.out.2.2.2.2).mono ?_
      rintro e w14 ⟨⟨A14, n14, c14, rfl, hc14, rq⟩, hb⟩
      replace rx := rx.on hb hb.size
      replace ry := ry.on hb hb.size
      replace rz := rz.on hb hb.size
      replace ro := ro.on hb hb.size
      have x14 := x13.below hb
      have hB14 := hB13.trans (hb.mono hB13.size)
      clear hb k0 k1 k2 k3 k4 hc14
      obtain rfl : n4 = 0 := rx.1.symm
      have hpw := (Hp2.out _ hB14).rd
      have cv0 := run_txt (c := c7) 26 9 5 Try.underlying26 Try.underlying5 Try.underlying9 ry
      have cv1 := run_txt (c := c10) 26 9 5 Try.underlying26 Try.underlying5 Try.underlying9 rz
      have cv2 := run_txt (c := p.c) 26 9 5 Try.underlying26 Try.underlying5 Try.underlying9 hpw
      clear rx ry rz ro rq hpw
      go_wp2_with fail
      refine (HW.out _).mono ?_
      rintro e wz ⟨rfl, hb⟩
      go_wp2_with fail
      go_ret
      exact ⟨by simp, hB14.trans (hb.mono hB14.size)⟩

end Go.Proofs.Ytmfiopopiikbmaa
