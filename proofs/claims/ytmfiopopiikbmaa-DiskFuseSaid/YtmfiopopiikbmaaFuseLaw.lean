/-
  DiskFuse: it returns true.
-/
import Derived.Test.YtmfiopopiikbmaaLawKit2
import Derived.Test.YtmfiopopiikbmaaOpenD
namespace Go.Proofs.Ytmfiopopiikbmaa
open Go.RowKit Go.Maps

theorem great_not {d : DiskP} (h : false = true ↔ greatP d = true) : greatP d = false := by
  cases hg : greatP d with
  | false => rfl
  | true => exact absurd (h.2 hg) (by decide)
theorem cells5 {w : World} {z : Nat} {t : TypeId} {a b c d e : Value} (h : Box5 w z t a b c d e) : w.cell? ⟨z, 0, none⟩ = some a ∧ w.cell? ⟨z, 1, none⟩ = some b ∧ w.cell? ⟨z, 2, none⟩ = some c ∧ w.cell? ⟨z, 3, none⟩ = some d ∧ w.cell? ⟨z, 4, none⟩ = some e := (box5 h).1
/-- What DiskFuse asks of its arguments. -/
structure FuseAsk (d : DiskP) (n : Nat) (f : Int) : Prop where
  great : greatP d = false
  right : rightP d = true
  dead : d.dead = false
  len : n ≤ 30
  low : 1 ≤ f
  high : f ≤ 40
/-- A disk without a fuse, that is small. -/
structure Live (k : Nat) (D : DiskP) : Prop where
  fuse : D.fuse = 0
  dead : D.dead = false
  right : rightP D = true
  run : Run k D

set_option maxRecDepth 100000 in
set_option maxHeartbeats 8000000 in
theorem fuse_law (hW : ∀ w : World, Calls Try.prog 9 #[] w fun e w' => e = .returned (.bool true) ∧ Below w.heap.size w w') {w : World} {fl : List FileP} {qu : List OpP} {q u : Int} {dd : Bool} {A : Option Addr} {n c : Nat} {B : Option Addr} {m k : Nat} {E : Option Addr} {L cl : Nat} {os : List OpM} {f : Int}
    (h : DAt w ⟨fl, qu, q, u, dd⟩ A n c B m k) (hn : Nms ⟨fl, qu, q, u, dd⟩) (hu : u ≤ 9223372036854775807) (ho : Os w w.heap.size E L os) (hon : NmO (os.map OpM.pure)) :
    Calls Try.prog 5 #[.agg #[.slice A n c, .slice B m k, .int .i64 q, .int .i64 u, .bool dd], .slice E L cl, .int .i64 f] w fun e w' => e = .returned (.bool true) ∧ Below w.heap.size w w' := by
  have HW := Lib.hid hW
  have Hn := Lib.hid hn
  have Hu := Lib.hid hu
  have Hon := Lib.hid hon
  clear hn hu hon hW
  go_enter Try.func5, Try.ntmps5
  go_upto_region 1 with fail
  obtain ⟨z, hz⟩ : ∃ z, z = w.heap.size := ⟨_, rfl⟩
  obtain ⟨w0, hw0⟩ : ∃ w0, w0 = w.alloc (.cells #[.slice A n c, .slice B m k, .int .i64 q, .int .i64 u, .bool dd] 25) := ⟨_, rfl⟩
  have hB0 : Below w.heap.size w w0 := by rw [hw0]; exact (Below.refl _ _).alloc (Nat.le_refl _) _
  have bz0 : Box5 w0 z 25 (.slice A n c) (.slice B m k) (.int .i64 q) (.int .i64 u) (.bool dd) := by rw [hw0, hz]; exact World.alloc_heap_new w _
  rw [← hw0, ← hz]
  have hzw : w.heap.size ≤ z := by omega
  clear hw0 hz
  have Hd := Lib.hid (show ∀ W, Below w0.heap.size w0 W → DAt W ⟨fl, qu, q, u, dd⟩ A n c B m k from fun W hW => (h.on hB0).on hW)
  have Ho := Lib.hid (show ∀ W, Below w0.heap.size w0 W → Os W W.heap.size E L os from fun W hW => (ho.on hB0 hB0.size).on hW hW.size)
  have HB := Lib.hid hB0
  have Hbz := Lib.hid bz0
  have Hcells := Lib.hid (show ∀ W, Below w0.heap.size w0 W → Below w0.heap.size w0 W ∧ W.cell? ⟨z, 0, none⟩ = some (.slice A n c) ∧ W.cell? ⟨z, 1, none⟩ = some (.slice B m k) ∧ W.cell? ⟨z, 2, none⟩ = some (.int .i64 q) ∧ W.cell? ⟨z, 3, none⟩ = some (.int .i64 u) ∧ W.cell? ⟨z, 4, none⟩ = some (.bool dd) from fun W hW => ⟨hW, cells5 (bz0.below hW)⟩)
  clear h ho hB0 bz0
  have hcs := Hcells.out _ (below_d0 w0)
  obtain ⟨_, k0, k1, k2, k3, k4⟩ := hcs
  go_wp2_with fail
  refine (great_any (Hd.out _ (below_d0 w0))).mono ?_
  rintro e w1 ⟨⟨bg, rfl, hbg⟩, hb1⟩
  have kb1 := hb1
  have hB1 := HB.out.trans (hb1.mono HB.out.size)
  have Hbg := Lib.hid (fun h : bg = false => great_not (h ▸ hbg))
  clear hb1 k0 k1 k2 k3 k4 hbg
  cases bg
  case true =>
    go_wp2_with fail
    refine (HW.out w1).mono ?_
    rintro e wz ⟨rfl, hbz⟩
    go_wp2_with fail
    go_ret
    exact ⟨rfl, hB1.trans (hbz.mono hB1.size)⟩
  case false =>
    have HG := Lib.hid (Hbg.out rfl)
    clear Hbg
    have HR0 := Lib.hid (Run.of HG.out Hn.out Hu.out)
    have hcs := Hcells.out _ kb1
    obtain ⟨_, k0, k1, k2, k3, k4⟩ := hcs
    go_wp2_with fail
    refine (right_any (d := ⟨fl, qu, q, u, dd⟩) (Hd.out _ kb1) (HR0.out.small (by omega))).mono ?_
    rintro e w1' ⟨rfl, hb2⟩
    have kb := below_on kb1 hb2
    have hB2 := HB.out.trans (kb.mono HB.out.size)
    clear hb2 k0 k1 k2 k3 k4 kb1 hB1
    obtain ⟨bv, hbv⟩ : ∃ bv, rightP ⟨fl, qu, q, u, dd⟩ = bv := ⟨_, rfl⟩
    rw [hbv]
    have Hbv := Lib.hid hbv
    clear hbv
    have hcs := Hcells.out _ kb
    obtain ⟨_, k0, k1, k2, k3, k4⟩ := hcs
    cases bv
    · skip
      go_wp2_with fail
      refine (HW.out w1').mono ?_
      rintro e wz ⟨rfl, hbz⟩
      go_wp2_with fail
      go_ret
      exact ⟨rfl, hB2.trans (hbz.mono hB2.size)⟩
    cases dd
    case true =>
      go_wp2_with fail
      refine (HW.out w1').mono ?_
      rintro e wz ⟨rfl, hbz⟩
      go_wp2_with fail
      go_ret
      exact ⟨rfl, hB2.trans (hbz.mono hB2.size)⟩
    case false =>
    by_cases ha : (30 : Int) < (L : Int)
    · have ta : decide ((30 : Int) < (L : Int)) = true := by simpa using ha
      go_wp2_with fail
      refine (HW.out w1').mono ?_
      rintro e wz ⟨rfl, hbz⟩
      go_wp2_with fail
      go_ret
      exact ⟨rfl, hB2.trans (hbz.mono hB2.size)⟩
    have ta : decide ((30 : Int) < (L : Int)) = false := by simpa using ha
    by_cases hb : f < (1 : Int)
    · have tb : decide (f < (1 : Int)) = true := by simpa using hb
      go_wp2_with fail
      refine (HW.out w1').mono ?_
      rintro e wz ⟨rfl, hbz⟩
      go_wp2_with fail
      go_ret
      exact ⟨rfl, hB2.trans (hbz.mono hB2.size)⟩
    have tb : decide (f < (1 : Int)) = false := by simpa using hb
    by_cases hc : (40 : Int) < f
    · have tc : decide ((40 : Int) < f) = true := by simpa using hc
      go_wp2_with fail
      refine (HW.out w1').mono ?_
      rintro e wz ⟨rfl, hbz⟩
      go_wp2_with fail
      go_ret
      exact ⟨rfl, hB2.trans (hbz.mono hB2.size)⟩
    have tc : decide ((40 : Int) < f) = false := by simpa using hc
    have ask := Lib.hid (show FuseAsk ⟨fl, qu, q, u, false⟩ L f from ⟨HG.out, Hbv.out, rfl, by omega, by omega, by omega⟩)
    have hL : L ≤ 30 := ask.out.len
    have hf1 : 1 ≤ f := ask.out.low
    have hf2 : f ≤ 40 := ask.out.high
    obtain ⟨w1, hw1⟩ : ∃ x, x = w1' := ⟨_, rfl⟩
    rw [← hw1] at hB2 kb k0 k1 k2 k3 k4 ⊢
    clear hw1
    have HR := HR0
    have HB1 := Lib.hid hB2
    have Ho1 := Lib.hid (show ∀ W, Below w1.heap.size w1 W → Os W W.heap.size E L os from fun W hW => (Ho.out _ kb).on hW hW.size)
    have Hd1 := Lib.hid (show ∀ W, Below w1.heap.size w1 W → DAt W ⟨fl, qu, q, u, false⟩ A n c B m k from fun W hW => (Hd.out _ kb).on hW)
    have bz1 := Lib.hid (Hbz.out.below kb)
    clear Ho Hd Hbz Hcells HB kb hB2 HG HR0 Hbv
    have Hcells1 := Lib.hid (show ∀ W, Below w1.heap.size w1 W → Below w1.heap.size w1 W ∧ W.cell? ⟨z, 0, none⟩ = some (.slice A n c) ∧ W.cell? ⟨z, 1, none⟩ = some (.slice B m k) ∧ W.cell? ⟨z, 2, none⟩ = some (.int .i64 q) ∧ W.cell? ⟨z, 3, none⟩ = some (.int .i64 u) ∧ W.cell? ⟨z, 4, none⟩ = some (.bool false) from fun W hW => ⟨hW, cells5 (bz1.out.below hW)⟩)
    go_upto_region 3 with fail
    clear k0 k1 k2 k3 k4 ta tb tc ha hb hc
    go_cut [7, 8] (fun s7 s8 wx => ∃ za zb, s7 = .pointer (some ⟨za, 0, none⟩) ∧ s8 = .pointer (some ⟨zb, 0, none⟩) ∧ za ≠ zb ∧ w1.heap.size ≤ za ∧ w1.heap.size ≤ zb ∧ Holds wx za ⟨fl, qu, q, u, false⟩ ∧ Holds wx zb ⟨fl, qu, q, u, false⟩ ∧ Below w1.heap.size w1 wx)
    case first =>
      refine wp_region_held_drew (S := (fun W => Below w1.heap.size w1 W ∧ W.cell? ⟨z, 0, none⟩ = some (.slice A n c) ∧ W.cell? ⟨z, 1, none⟩ = some (.slice B m k) ∧ W.cell? ⟨z, 2, none⟩ = some (.int .i64 q) ∧ W.cell? ⟨z, 3, none⟩ = some (.int .i64 u) ∧ W.cell? ⟨z, 4, none⟩ = some (.bool false))) (by kernel_rfl) (Hcells1.out _ (below_dr (below_d0 _))) (fun hHeld => ?_)
      have kb : Below w1.heap.size w1 w1.drew := below_dr (below_d0 _)
      obtain ⟨wp1, hW⟩ : ∃ x, x = w1.drew := ⟨_, rfl⟩
      rw [← hW] at kb hHeld ⊢
      clear hW
      refine take_at (i := 0) (d := 44) (oi := ?o1) (v := ?v1) ?hi1 ?hd1 (by kernel_rfl) (by kernel_rfl) (by kernel_rfl) ?hw1 ?hy1 ?hq1 (by assumption) ?r1
      case hi1 => (simp only [List.getElem?_toArray, List.getElem?_cons_zero]; rfl)
      case hd1 => rfl
      case hw1 => rfl
      case hy1 => ((intro w hSw; (try dsimp only at hSw); go_simp) <;> (with_reducible rfl))
      case hq1 => exact fun _ _ _ h => h
      simp only [List.set_cons_succ, List.set_cons_zero]
      refine take_at (i := 2) (d := 46) (oi := ?o2) (v := ?v2) ?hi2 ?hd2 (by kernel_rfl) (by kernel_rfl) (by kernel_rfl) ?hw2 ?hy2 ?hq2 (by assumption) ?r2
      case hi2 => (simp only [List.getElem?_toArray, List.getElem?_cons_succ, List.getElem?_cons_zero]; rfl)
      case hd2 => rfl
      case hw2 => rfl
      case hy2 => ((intro w hSw; (try dsimp only at hSw); go_simp) <;> (with_reducible rfl))
      case hq2 => exact fun _ _ _ h => h
      simp only [List.set_cons_succ, List.set_cons_zero]
      refine wpAnyH_ready (rs := [1, 4, 5]) (by kernel_rfl) (by simp) ?_
      apply two_ready
      · skip
        refine br_call (i := 1) (d := 45) (oi := ?o3) (f := ?f3) (args := ?a3) ?hi3 ?hd3 ?hw3 ?he3 ?hc3
        case hi3 => (simp only [List.getElem?_toArray, List.getElem?_cons_succ, List.getElem?_cons_zero]; rfl)
        case hd3 => rfl
        case hw3 => rfl
        case he3 => (go_simp; constructor <;> with_reducible rfl)
        with_reducible refine Calls.mono (own_step (Hd1.out _ kb) HR.out (by omega)) ?_
        rintro e wp2 ⟨⟨A1, n1, c1, B1, m1, q1, rfl, g1⟩, hb⟩
        replace kb := below_on kb hb
        clear hHeld hb
        refine ⟨_, rfl, (Hcells1.out _ kb), fun hHeld => ?_⟩
        simp only [List.set_cons_succ, List.set_cons_zero]
        refine wpAnyH_ready (rs := [3, 4, 5]) (by kernel_rfl) (by simp) ?_
        apply two_ready
        · skip
          refine br_call (i := 3) (d := 47) (oi := ?o4) (f := ?f4) (args := ?a4) ?hi4 ?hd4 ?hw4 ?he4 ?hc4
          case hi4 => (simp only [List.getElem?_toArray, List.getElem?_cons_succ, List.getElem?_cons_zero]; rfl)
          case hd4 => rfl
          case hw4 => rfl
          case he4 => (go_simp; constructor <;> with_reducible rfl)
          with_reducible refine Calls.mono (own_step (Hd1.out _ kb) HR.out (by omega)) ?_
          rintro e wp3 ⟨⟨A2, n2, c2, B2, m2, q2, rfl, g2⟩, hb⟩
          replace g1 : DAt wp3 ⟨fl, qu, q, u, false⟩ A1 n1 c1 B1 m1 q1 := g1.on hb
          replace kb := below_on kb hb
          clear hHeld hb
          refine ⟨_, rfl, (Hcells1.out _ kb), fun hHeld => ?_⟩
          simp only [List.set_cons_succ, List.set_cons_zero]
          refine wpAnyH_ready (rs := [4, 5]) (by kernel_rfl) (by simp) ?_
          apply two_ready
          · skip
            obtain ⟨z7, hz7⟩ : ∃ z, z = wp3.heap.size := ⟨_, rfl⟩
            obtain ⟨wp4, hWn⟩ : ∃ x, x = wp3.alloc (.cells #[.slice none 0 0, .slice none 0 0, .int .i64 0, .int .i64 0, .bool false] 25) := ⟨_, rfl⟩
            have hb : Below wp3.heap.size wp3 wp4 := by rw [hWn]; exact below_al (below_d0 _) _
            have lo7 : w1.heap.size ≤ z7 := by rw [hz7]; exact kb.size
            have bx7 : Box5 wp4 z7 25 (.slice none 0 0) (.slice none 0 0) (.int .i64 0) (.int .i64 0) (.bool false) := by rw [hWn, hz7]; exact World.alloc_heap_new wp3 _
            refine br_val (i := 4) (d := 7) (oi := ?o5) (v := .pointer (some ⟨z7, 0, none⟩)) (w' := wp4) ?hi5 ?hd5 ?hw5 ?he5 (Hcells1.out _ (below_on kb hb)) ?hc5
            case hi5 => (simp only [List.getElem?_toArray, List.getElem?_cons_succ, List.getElem?_cons_zero]; rfl)
            case hd5 => rfl
            case hw5 => rfl
            case he5 => (rw [hz7, hWn]; go_simp)
            replace kb := below_on kb hb
            clear hHeld
            replace g1 : DAt wp4 ⟨fl, qu, q, u, false⟩ A1 n1 c1 B1 m1 q1 := g1.on hb
            replace g2 : DAt wp4 ⟨fl, qu, q, u, false⟩ A2 n2 c2 B2 m2 q2 := g2.on hb
            clear hb hWn hz7
            intro hHeld
            simp only [List.set_cons_succ, List.set_cons_zero]
            refine wpAnyH_ready (rs := [5]) (by kernel_rfl) (by simp) ?_
            obtain ⟨z8, hz8⟩ : ∃ z, z = wp4.heap.size := ⟨_, rfl⟩
            obtain ⟨wp5, hWn⟩ : ∃ x, x = wp4.alloc (.cells #[.slice none 0 0, .slice none 0 0, .int .i64 0, .int .i64 0, .bool false] 25) := ⟨_, rfl⟩
            have hb : Below wp4.heap.size wp4 wp5 := by rw [hWn]; exact below_al (below_d0 _) _
            have lo8 : w1.heap.size ≤ z8 := by rw [hz8]; exact kb.size
            have bx8 : Box5 wp5 z8 25 (.slice none 0 0) (.slice none 0 0) (.int .i64 0) (.int .i64 0) (.bool false) := by rw [hWn, hz8]; exact World.alloc_heap_new wp4 _
            have ne78 : z7 ≠ z8 := by have h1 := Box5.lt bx7; omega
            refine br_val (i := 5) (d := 8) (oi := ?o6) (v := .pointer (some ⟨z8, 0, none⟩)) (w' := wp5) ?hi6 ?hd6 ?hw6 ?he6 (Hcells1.out _ (below_on kb hb)) ?hc6
            case hi6 => (simp only [List.getElem?_toArray, List.getElem?_cons_succ, List.getElem?_cons_zero]; rfl)
            case hd6 => rfl
            case hw6 => rfl
            case he6 => (rw [hz8, hWn]; go_simp)
            replace kb := below_on kb hb
            clear hHeld
            replace g1 : DAt wp5 ⟨fl, qu, q, u, false⟩ A1 n1 c1 B1 m1 q1 := g1.on hb
            replace g2 : DAt wp5 ⟨fl, qu, q, u, false⟩ A2 n2 c2 B2 m2 q2 := g2.on hb
            replace bx7 : Box5 wp5 z7 25 (.slice none 0 0) (.slice none 0 0) (.int .i64 0) (.int .i64 0) (.bool false) := bx7.below hb
            clear hb hWn hz8
            intro hHeld
            simp only [List.set_cons_succ, List.set_cons_zero]
            refine wpAnyH_ready (rs := [6]) (by kernel_rfl) (by simp) ?_
            obtain ⟨wp6, hWn⟩ : ∃ x, x = put5 wp5 z7 (.slice A1 n1 c1) (.slice B1 m1 q1) (.int .i64 q) (.int .i64 u) (.bool false) := ⟨_, rfl⟩
            have kb2 : Below w1.heap.size w1 wp6 := by rw [hWn]; exact put5_below kb lo7 _ _ _ _ _
            have g1' : DAt wp6 ⟨fl, qu, q, u, false⟩ A1 n1 c1 B1 m1 q1 := by rw [hWn]; exact DAt.put5 bx7 g1
            have g2' : DAt wp6 ⟨fl, qu, q, u, false⟩ A2 n2 c2 B2 m2 q2 := by rw [hWn]; exact DAt.put5 bx7 g2
            have bx8' : Box5 wp6 z8 25 (.slice none 0 0) (.slice none 0 0) (.int .i64 0) (.int .i64 0) (.bool false) := by rw [hWn]; exact put5_other bx8 (by omega) _ _ _ _ _
            have bx7' : Box5 wp6 z7 25 (.slice A1 n1 c1) (.slice B1 m1 q1) (.int .i64 q) (.int .i64 u) (.bool false) := by rw [hWn]; exact put5_box bx7 _ _ _ _ _
            obtain ⟨⟨p0, p1, p2, p3, p4⟩, r0, r1, r2, r3, r4⟩ := box5 bx7
            refine br_store (i := 6) (oi := ?o7) (w' := wp6) ?hi7 ?hd7 ?hw7 ?he7 (Hcells1.out _ kb2) ?hc7
            case hi7 => (simp only [List.getElem?_toArray, List.getElem?_cons_succ, List.getElem?_cons_zero]; rfl)
            case hd7 => rfl
            case hw7 => rfl
            case he7 => (rw [hWn]; go_simp; rfl)
            clear hHeld kb hWn p0 p1 p2 p3 p4 r0 r1 r2 r3 r4 bx7 g1 g2 bx8
            have kb := kb2
            have g1 := g1'
            have g2 := g2'
            have bx8 := bx8'
            have bx7 := bx7'
            clear kb2 g1' g2' bx8' bx7'
            intro hHeld
            refine wpAnyH_ready (rs := [7]) (by kernel_rfl) (by simp) ?_
            obtain ⟨wp7, hWn⟩ : ∃ x, x = put5 wp6 z8 (.slice A2 n2 c2) (.slice B2 m2 q2) (.int .i64 q) (.int .i64 u) (.bool false) := ⟨_, rfl⟩
            have kb2 : Below w1.heap.size w1 wp7 := by rw [hWn]; exact put5_below kb lo8 _ _ _ _ _
            have g1' : DAt wp7 ⟨fl, qu, q, u, false⟩ A1 n1 c1 B1 m1 q1 := by rw [hWn]; exact DAt.put5 bx8 g1
            have g2' : DAt wp7 ⟨fl, qu, q, u, false⟩ A2 n2 c2 B2 m2 q2 := by rw [hWn]; exact DAt.put5 bx8 g2
            have bx7' : Box5 wp7 z7 25 (.slice A1 n1 c1) (.slice B1 m1 q1) (.int .i64 q) (.int .i64 u) (.bool false) := by rw [hWn]; exact put5_other bx7 (by omega) _ _ _ _ _
            have bx8' : Box5 wp7 z8 25 (.slice A2 n2 c2) (.slice B2 m2 q2) (.int .i64 q) (.int .i64 u) (.bool false) := by rw [hWn]; exact put5_box bx8 _ _ _ _ _
            obtain ⟨⟨p0, p1, p2, p3, p4⟩, r0, r1, r2, r3, r4⟩ := box5 bx8
            refine br_store (i := 7) (oi := ?o8) (w' := wp7) ?hi8 ?hd8 ?hw8 ?he8 (Hcells1.out _ kb2) ?hc8
            case hi8 => (simp only [List.getElem?_toArray, List.getElem?_cons_succ, List.getElem?_cons_zero]; rfl)
            case hd8 => rfl
            case hw8 => rfl
            case he8 => (rw [hWn]; go_simp; rfl)
            clear hHeld kb hWn p0 p1 p2 p3 p4 r0 r1 r2 r3 r4 bx8 g1 g2 bx7
            have kb := kb2
            have g1 := g1'
            have g2 := g2'
            have bx7 := bx7'
            have bx8 := bx8'
            clear kb2 g1' g2' bx7' bx8'
            intro hHeld
            refine wpAnyH_done (by kernel_rfl) ?_ _
            go_wp2_with fail
            go_meet
            exact ⟨z7, z8, rfl, rfl, by omega, lo7, lo8, ⟨_, _, _, _, _, _, bx7, g1⟩, ⟨_, _, _, _, _, _, bx8, g2⟩, kb⟩
          obtain ⟨z8, hz8⟩ : ∃ z, z = wp3.heap.size := ⟨_, rfl⟩
          obtain ⟨wp8, hWn⟩ : ∃ x, x = wp3.alloc (.cells #[.slice none 0 0, .slice none 0 0, .int .i64 0, .int .i64 0, .bool false] 25) := ⟨_, rfl⟩
          have hb : Below wp3.heap.size wp3 wp8 := by rw [hWn]; exact below_al (below_d0 _) _
          have lo8 : w1.heap.size ≤ z8 := by rw [hz8]; exact kb.size
          have bx8 : Box5 wp8 z8 25 (.slice none 0 0) (.slice none 0 0) (.int .i64 0) (.int .i64 0) (.bool false) := by rw [hWn, hz8]; exact World.alloc_heap_new wp3 _
          refine br_val (i := 5) (d := 8) (oi := ?o9) (v := .pointer (some ⟨z8, 0, none⟩)) (w' := wp8) ?hi9 ?hd9 ?hw9 ?he9 (Hcells1.out _ (below_on kb hb)) ?hc9
          case hi9 => (simp only [List.getElem?_toArray, List.getElem?_cons_succ, List.getElem?_cons_zero]; rfl)
          case hd9 => rfl
          case hw9 => rfl
          case he9 => (rw [hz8, hWn]; go_simp)
          replace kb := below_on kb hb
          clear hHeld
          replace g1 : DAt wp8 ⟨fl, qu, q, u, false⟩ A1 n1 c1 B1 m1 q1 := g1.on hb
          replace g2 : DAt wp8 ⟨fl, qu, q, u, false⟩ A2 n2 c2 B2 m2 q2 := g2.on hb
          clear hb hWn hz8
          intro hHeld
          simp only [List.set_cons_succ, List.set_cons_zero]
          refine wpAnyH_ready (rs := [4]) (by kernel_rfl) (by simp) ?_
          obtain ⟨z7, hz7⟩ : ∃ z, z = wp8.heap.size := ⟨_, rfl⟩
          obtain ⟨wp9, hWn⟩ : ∃ x, x = wp8.alloc (.cells #[.slice none 0 0, .slice none 0 0, .int .i64 0, .int .i64 0, .bool false] 25) := ⟨_, rfl⟩
          have hb : Below wp8.heap.size wp8 wp9 := by rw [hWn]; exact below_al (below_d0 _) _
          have lo7 : w1.heap.size ≤ z7 := by rw [hz7]; exact kb.size
          have bx7 : Box5 wp9 z7 25 (.slice none 0 0) (.slice none 0 0) (.int .i64 0) (.int .i64 0) (.bool false) := by rw [hWn, hz7]; exact World.alloc_heap_new wp8 _
          have ne87 : z8 ≠ z7 := by have h1 := Box5.lt bx8; omega
          refine br_val (i := 4) (d := 7) (oi := ?o10) (v := .pointer (some ⟨z7, 0, none⟩)) (w' := wp9) ?hi10 ?hd10 ?hw10 ?he10 (Hcells1.out _ (below_on kb hb)) ?hc10
          case hi10 => (simp only [List.getElem?_toArray, List.getElem?_cons_succ, List.getElem?_cons_zero]; rfl)
          case hd10 => rfl
          case hw10 => rfl
          case he10 => (rw [hz7, hWn]; go_simp)
          replace kb := below_on kb hb
          clear hHeld
          replace g1 : DAt wp9 ⟨fl, qu, q, u, false⟩ A1 n1 c1 B1 m1 q1 := g1.on hb
          replace g2 : DAt wp9 ⟨fl, qu, q, u, false⟩ A2 n2 c2 B2 m2 q2 := g2.on hb
          replace bx8 : Box5 wp9 z8 25 (.slice none 0 0) (.slice none 0 0) (.int .i64 0) (.int .i64 0) (.bool false) := bx8.below hb
          clear hb hWn hz7
          intro hHeld
          simp only [List.set_cons_succ, List.set_cons_zero]
          refine wpAnyH_ready (rs := [6]) (by kernel_rfl) (by simp) ?_
          obtain ⟨wp10, hWn⟩ : ∃ x, x = put5 wp9 z7 (.slice A1 n1 c1) (.slice B1 m1 q1) (.int .i64 q) (.int .i64 u) (.bool false) := ⟨_, rfl⟩
          have kb2 : Below w1.heap.size w1 wp10 := by rw [hWn]; exact put5_below kb lo7 _ _ _ _ _
          have g1' : DAt wp10 ⟨fl, qu, q, u, false⟩ A1 n1 c1 B1 m1 q1 := by rw [hWn]; exact DAt.put5 bx7 g1
          have g2' : DAt wp10 ⟨fl, qu, q, u, false⟩ A2 n2 c2 B2 m2 q2 := by rw [hWn]; exact DAt.put5 bx7 g2
          have bx8' : Box5 wp10 z8 25 (.slice none 0 0) (.slice none 0 0) (.int .i64 0) (.int .i64 0) (.bool false) := by rw [hWn]; exact put5_other bx8 (by omega) _ _ _ _ _
          have bx7' : Box5 wp10 z7 25 (.slice A1 n1 c1) (.slice B1 m1 q1) (.int .i64 q) (.int .i64 u) (.bool false) := by rw [hWn]; exact put5_box bx7 _ _ _ _ _
          obtain ⟨⟨p0, p1, p2, p3, p4⟩, r0, r1, r2, r3, r4⟩ := box5 bx7
          refine br_store (i := 6) (oi := ?o11) (w' := wp10) ?hi11 ?hd11 ?hw11 ?he11 (Hcells1.out _ kb2) ?hc11
          case hi11 => (simp only [List.getElem?_toArray, List.getElem?_cons_succ, List.getElem?_cons_zero]; rfl)
          case hd11 => rfl
          case hw11 => rfl
          case he11 => (rw [hWn]; go_simp; rfl)
          clear hHeld kb hWn p0 p1 p2 p3 p4 r0 r1 r2 r3 r4 bx7 g1 g2 bx8
          have kb := kb2
          have g1 := g1'
          have g2 := g2'
          have bx8 := bx8'
          have bx7 := bx7'
          clear kb2 g1' g2' bx8' bx7'
          intro hHeld
          refine wpAnyH_ready (rs := [7]) (by kernel_rfl) (by simp) ?_
          obtain ⟨wp11, hWn⟩ : ∃ x, x = put5 wp10 z8 (.slice A2 n2 c2) (.slice B2 m2 q2) (.int .i64 q) (.int .i64 u) (.bool false) := ⟨_, rfl⟩
          have kb2 : Below w1.heap.size w1 wp11 := by rw [hWn]; exact put5_below kb lo8 _ _ _ _ _
          have g1' : DAt wp11 ⟨fl, qu, q, u, false⟩ A1 n1 c1 B1 m1 q1 := by rw [hWn]; exact DAt.put5 bx8 g1
          have g2' : DAt wp11 ⟨fl, qu, q, u, false⟩ A2 n2 c2 B2 m2 q2 := by rw [hWn]; exact DAt.put5 bx8 g2
          have bx7' : Box5 wp11 z7 25 (.slice A1 n1 c1) (.slice B1 m1 q1) (.int .i64 q) (.int .i64 u) (.bool false) := by rw [hWn]; exact put5_other bx7 (by omega) _ _ _ _ _
          have bx8' : Box5 wp11 z8 25 (.slice A2 n2 c2) (.slice B2 m2 q2) (.int .i64 q) (.int .i64 u) (.bool false) := by rw [hWn]; exact put5_box bx8 _ _ _ _ _
          obtain ⟨⟨p0, p1, p2, p3, p4⟩, r0, r1, r2, r3, r4⟩ := box5 bx8
          refine br_store (i := 7) (oi := ?o12) (w' := wp11) ?hi12 ?hd12 ?hw12 ?he12 (Hcells1.out _ kb2) ?hc12
          case hi12 => (simp only [List.getElem?_toArray, List.getElem?_cons_succ, List.getElem?_cons_zero]; rfl)
          case hd12 => rfl
          case hw12 => rfl
          case he12 => (rw [hWn]; go_simp; rfl)
          clear hHeld kb hWn p0 p1 p2 p3 p4 r0 r1 r2 r3 r4 bx8 g1 g2 bx7
          have kb := kb2
          have g1 := g1'
          have g2 := g2'
          have bx7 := bx7'
          have bx8 := bx8'
          clear kb2 g1' g2' bx7' bx8'
          intro hHeld
          refine wpAnyH_done (by kernel_rfl) ?_ _
          go_wp2_with fail
          go_meet
          exact ⟨z7, z8, rfl, rfl, by omega, lo7, lo8, ⟨_, _, _, _, _, _, bx7, g1⟩, ⟨_, _, _, _, _, _, bx8, g2⟩, kb⟩
        apply two_ready
        · skip
          obtain ⟨z7, hz7⟩ : ∃ z, z = wp2.heap.size := ⟨_, rfl⟩
          obtain ⟨wp12, hWn⟩ : ∃ x, x = wp2.alloc (.cells #[.slice none 0 0, .slice none 0 0, .int .i64 0, .int .i64 0, .bool false] 25) := ⟨_, rfl⟩
          have hb : Below wp2.heap.size wp2 wp12 := by rw [hWn]; exact below_al (below_d0 _) _
          have lo7 : w1.heap.size ≤ z7 := by rw [hz7]; exact kb.size
          have bx7 : Box5 wp12 z7 25 (.slice none 0 0) (.slice none 0 0) (.int .i64 0) (.int .i64 0) (.bool false) := by rw [hWn, hz7]; exact World.alloc_heap_new wp2 _
          refine br_val (i := 4) (d := 7) (oi := ?o13) (v := .pointer (some ⟨z7, 0, none⟩)) (w' := wp12) ?hi13 ?hd13 ?hw13 ?he13 (Hcells1.out _ (below_on kb hb)) ?hc13
          case hi13 => (simp only [List.getElem?_toArray, List.getElem?_cons_succ, List.getElem?_cons_zero]; rfl)
          case hd13 => rfl
          case hw13 => rfl
          case he13 => (rw [hz7, hWn]; go_simp)
          replace kb := below_on kb hb
          clear hHeld
          replace g1 : DAt wp12 ⟨fl, qu, q, u, false⟩ A1 n1 c1 B1 m1 q1 := g1.on hb
          clear hb hWn hz7
          intro hHeld
          simp only [List.set_cons_succ, List.set_cons_zero]
          refine wpAnyH_ready (rs := [3, 5]) (by kernel_rfl) (by simp) ?_
          apply two_ready
          · skip
            refine br_call (i := 3) (d := 47) (oi := ?o14) (f := ?f14) (args := ?a14) ?hi14 ?hd14 ?hw14 ?he14 ?hc14
            case hi14 => (simp only [List.getElem?_toArray, List.getElem?_cons_succ, List.getElem?_cons_zero]; rfl)
            case hd14 => rfl
            case hw14 => rfl
            case he14 => (go_simp; constructor <;> with_reducible rfl)
            with_reducible refine Calls.mono (own_step (Hd1.out _ kb) HR.out (by omega)) ?_
            rintro e wp13 ⟨⟨A2, n2, c2, B2, m2, q2, rfl, g2⟩, hb⟩
            replace g1 : DAt wp13 ⟨fl, qu, q, u, false⟩ A1 n1 c1 B1 m1 q1 := g1.on hb
            replace bx7 : Box5 wp13 z7 25 (.slice none 0 0) (.slice none 0 0) (.int .i64 0) (.int .i64 0) (.bool false) := bx7.below hb
            replace kb := below_on kb hb
            clear hHeld hb
            refine ⟨_, rfl, (Hcells1.out _ kb), fun hHeld => ?_⟩
            simp only [List.set_cons_succ, List.set_cons_zero]
            refine wpAnyH_ready (rs := [5]) (by kernel_rfl) (by simp) ?_
            obtain ⟨z8, hz8⟩ : ∃ z, z = wp13.heap.size := ⟨_, rfl⟩
            obtain ⟨wp14, hWn⟩ : ∃ x, x = wp13.alloc (.cells #[.slice none 0 0, .slice none 0 0, .int .i64 0, .int .i64 0, .bool false] 25) := ⟨_, rfl⟩
            have hb : Below wp13.heap.size wp13 wp14 := by rw [hWn]; exact below_al (below_d0 _) _
            have lo8 : w1.heap.size ≤ z8 := by rw [hz8]; exact kb.size
            have bx8 : Box5 wp14 z8 25 (.slice none 0 0) (.slice none 0 0) (.int .i64 0) (.int .i64 0) (.bool false) := by rw [hWn, hz8]; exact World.alloc_heap_new wp13 _
            have ne78 : z7 ≠ z8 := by have h1 := Box5.lt bx7; omega
            refine br_val (i := 5) (d := 8) (oi := ?o15) (v := .pointer (some ⟨z8, 0, none⟩)) (w' := wp14) ?hi15 ?hd15 ?hw15 ?he15 (Hcells1.out _ (below_on kb hb)) ?hc15
            case hi15 => (simp only [List.getElem?_toArray, List.getElem?_cons_succ, List.getElem?_cons_zero]; rfl)
            case hd15 => rfl
            case hw15 => rfl
            case he15 => (rw [hz8, hWn]; go_simp)
            replace kb := below_on kb hb
            clear hHeld
            replace g1 : DAt wp14 ⟨fl, qu, q, u, false⟩ A1 n1 c1 B1 m1 q1 := g1.on hb
            replace bx7 : Box5 wp14 z7 25 (.slice none 0 0) (.slice none 0 0) (.int .i64 0) (.int .i64 0) (.bool false) := bx7.below hb
            replace g2 : DAt wp14 ⟨fl, qu, q, u, false⟩ A2 n2 c2 B2 m2 q2 := g2.on hb
            clear hb hWn hz8
            intro hHeld
            simp only [List.set_cons_succ, List.set_cons_zero]
            refine wpAnyH_ready (rs := [6]) (by kernel_rfl) (by simp) ?_
            obtain ⟨wp15, hWn⟩ : ∃ x, x = put5 wp14 z7 (.slice A1 n1 c1) (.slice B1 m1 q1) (.int .i64 q) (.int .i64 u) (.bool false) := ⟨_, rfl⟩
            have kb2 : Below w1.heap.size w1 wp15 := by rw [hWn]; exact put5_below kb lo7 _ _ _ _ _
            have g1' : DAt wp15 ⟨fl, qu, q, u, false⟩ A1 n1 c1 B1 m1 q1 := by rw [hWn]; exact DAt.put5 bx7 g1
            have g2' : DAt wp15 ⟨fl, qu, q, u, false⟩ A2 n2 c2 B2 m2 q2 := by rw [hWn]; exact DAt.put5 bx7 g2
            have bx8' : Box5 wp15 z8 25 (.slice none 0 0) (.slice none 0 0) (.int .i64 0) (.int .i64 0) (.bool false) := by rw [hWn]; exact put5_other bx8 (by omega) _ _ _ _ _
            have bx7' : Box5 wp15 z7 25 (.slice A1 n1 c1) (.slice B1 m1 q1) (.int .i64 q) (.int .i64 u) (.bool false) := by rw [hWn]; exact put5_box bx7 _ _ _ _ _
            obtain ⟨⟨p0, p1, p2, p3, p4⟩, r0, r1, r2, r3, r4⟩ := box5 bx7
            refine br_store (i := 6) (oi := ?o16) (w' := wp15) ?hi16 ?hd16 ?hw16 ?he16 (Hcells1.out _ kb2) ?hc16
            case hi16 => (simp only [List.getElem?_toArray, List.getElem?_cons_succ, List.getElem?_cons_zero]; rfl)
            case hd16 => rfl
            case hw16 => rfl
            case he16 => (rw [hWn]; go_simp; rfl)
            clear hHeld kb hWn p0 p1 p2 p3 p4 r0 r1 r2 r3 r4 bx7 g1 g2 bx8
            have kb := kb2
            have g1 := g1'
            have g2 := g2'
            have bx8 := bx8'
            have bx7 := bx7'
            clear kb2 g1' g2' bx8' bx7'
            intro hHeld
            refine wpAnyH_ready (rs := [7]) (by kernel_rfl) (by simp) ?_
            obtain ⟨wp16, hWn⟩ : ∃ x, x = put5 wp15 z8 (.slice A2 n2 c2) (.slice B2 m2 q2) (.int .i64 q) (.int .i64 u) (.bool false) := ⟨_, rfl⟩
            have kb2 : Below w1.heap.size w1 wp16 := by rw [hWn]; exact put5_below kb lo8 _ _ _ _ _
            have g1' : DAt wp16 ⟨fl, qu, q, u, false⟩ A1 n1 c1 B1 m1 q1 := by rw [hWn]; exact DAt.put5 bx8 g1
            have g2' : DAt wp16 ⟨fl, qu, q, u, false⟩ A2 n2 c2 B2 m2 q2 := by rw [hWn]; exact DAt.put5 bx8 g2
            have bx7' : Box5 wp16 z7 25 (.slice A1 n1 c1) (.slice B1 m1 q1) (.int .i64 q) (.int .i64 u) (.bool false) := by rw [hWn]; exact put5_other bx7 (by omega) _ _ _ _ _
            have bx8' : Box5 wp16 z8 25 (.slice A2 n2 c2) (.slice B2 m2 q2) (.int .i64 q) (.int .i64 u) (.bool false) := by rw [hWn]; exact put5_box bx8 _ _ _ _ _
            obtain ⟨⟨p0, p1, p2, p3, p4⟩, r0, r1, r2, r3, r4⟩ := box5 bx8
            refine br_store (i := 7) (oi := ?o17) (w' := wp16) ?hi17 ?hd17 ?hw17 ?he17 (Hcells1.out _ kb2) ?hc17
            case hi17 => (simp only [List.getElem?_toArray, List.getElem?_cons_succ, List.getElem?_cons_zero]; rfl)
            case hd17 => rfl
            case hw17 => rfl
            case he17 => (rw [hWn]; go_simp; rfl)
            clear hHeld kb hWn p0 p1 p2 p3 p4 r0 r1 r2 r3 r4 bx8 g1 g2 bx7
            have kb := kb2
            have g1 := g1'
            have g2 := g2'
            have bx7 := bx7'
            have bx8 := bx8'
            clear kb2 g1' g2' bx7' bx8'
            intro hHeld
            refine wpAnyH_done (by kernel_rfl) ?_ _
            go_wp2_with fail
            go_meet
            exact ⟨z7, z8, rfl, rfl, by omega, lo7, lo8, ⟨_, _, _, _, _, _, bx7, g1⟩, ⟨_, _, _, _, _, _, bx8, g2⟩, kb⟩
          obtain ⟨z8, hz8⟩ : ∃ z, z = wp12.heap.size := ⟨_, rfl⟩
          obtain ⟨wp17, hWn⟩ : ∃ x, x = wp12.alloc (.cells #[.slice none 0 0, .slice none 0 0, .int .i64 0, .int .i64 0, .bool false] 25) := ⟨_, rfl⟩
          have hb : Below wp12.heap.size wp12 wp17 := by rw [hWn]; exact below_al (below_d0 _) _
          have lo8 : w1.heap.size ≤ z8 := by rw [hz8]; exact kb.size
          have bx8 : Box5 wp17 z8 25 (.slice none 0 0) (.slice none 0 0) (.int .i64 0) (.int .i64 0) (.bool false) := by rw [hWn, hz8]; exact World.alloc_heap_new wp12 _
          have ne78 : z7 ≠ z8 := by have h1 := Box5.lt bx7; omega
          refine br_val (i := 5) (d := 8) (oi := ?o18) (v := .pointer (some ⟨z8, 0, none⟩)) (w' := wp17) ?hi18 ?hd18 ?hw18 ?he18 (Hcells1.out _ (below_on kb hb)) ?hc18
          case hi18 => (simp only [List.getElem?_toArray, List.getElem?_cons_succ, List.getElem?_cons_zero]; rfl)
          case hd18 => rfl
          case hw18 => rfl
          case he18 => (rw [hz8, hWn]; go_simp)
          replace kb := below_on kb hb
          clear hHeld
          replace g1 : DAt wp17 ⟨fl, qu, q, u, false⟩ A1 n1 c1 B1 m1 q1 := g1.on hb
          replace bx7 : Box5 wp17 z7 25 (.slice none 0 0) (.slice none 0 0) (.int .i64 0) (.int .i64 0) (.bool false) := bx7.below hb
          clear hb hWn hz8
          intro hHeld
          simp only [List.set_cons_succ, List.set_cons_zero]
          refine wpAnyH_ready (rs := [3]) (by kernel_rfl) (by simp) ?_
          refine br_call (i := 3) (d := 47) (oi := ?o19) (f := ?f19) (args := ?a19) ?hi19 ?hd19 ?hw19 ?he19 ?hc19
          case hi19 => (simp only [List.getElem?_toArray, List.getElem?_cons_succ, List.getElem?_cons_zero]; rfl)
          case hd19 => rfl
          case hw19 => rfl
          case he19 => (go_simp; constructor <;> with_reducible rfl)
          with_reducible refine Calls.mono (own_step (Hd1.out _ kb) HR.out (by omega)) ?_
          rintro e wp18 ⟨⟨A2, n2, c2, B2, m2, q2, rfl, g2⟩, hb⟩
          replace g1 : DAt wp18 ⟨fl, qu, q, u, false⟩ A1 n1 c1 B1 m1 q1 := g1.on hb
          replace bx7 : Box5 wp18 z7 25 (.slice none 0 0) (.slice none 0 0) (.int .i64 0) (.int .i64 0) (.bool false) := bx7.below hb
          replace bx8 : Box5 wp18 z8 25 (.slice none 0 0) (.slice none 0 0) (.int .i64 0) (.int .i64 0) (.bool false) := bx8.below hb
          replace kb := below_on kb hb
          clear hHeld hb
          refine ⟨_, rfl, (Hcells1.out _ kb), fun hHeld => ?_⟩
          simp only [List.set_cons_succ, List.set_cons_zero]
          refine wpAnyH_ready (rs := [6]) (by kernel_rfl) (by simp) ?_
          obtain ⟨wp19, hWn⟩ : ∃ x, x = put5 wp18 z7 (.slice A1 n1 c1) (.slice B1 m1 q1) (.int .i64 q) (.int .i64 u) (.bool false) := ⟨_, rfl⟩
          have kb2 : Below w1.heap.size w1 wp19 := by rw [hWn]; exact put5_below kb lo7 _ _ _ _ _
          have g1' : DAt wp19 ⟨fl, qu, q, u, false⟩ A1 n1 c1 B1 m1 q1 := by rw [hWn]; exact DAt.put5 bx7 g1
          have bx8' : Box5 wp19 z8 25 (.slice none 0 0) (.slice none 0 0) (.int .i64 0) (.int .i64 0) (.bool false) := by rw [hWn]; exact put5_other bx8 (by omega) _ _ _ _ _
          have g2' : DAt wp19 ⟨fl, qu, q, u, false⟩ A2 n2 c2 B2 m2 q2 := by rw [hWn]; exact DAt.put5 bx7 g2
          have bx7' : Box5 wp19 z7 25 (.slice A1 n1 c1) (.slice B1 m1 q1) (.int .i64 q) (.int .i64 u) (.bool false) := by rw [hWn]; exact put5_box bx7 _ _ _ _ _
          obtain ⟨⟨p0, p1, p2, p3, p4⟩, r0, r1, r2, r3, r4⟩ := box5 bx7
          refine br_store (i := 6) (oi := ?o20) (w' := wp19) ?hi20 ?hd20 ?hw20 ?he20 (Hcells1.out _ kb2) ?hc20
          case hi20 => (simp only [List.getElem?_toArray, List.getElem?_cons_succ, List.getElem?_cons_zero]; rfl)
          case hd20 => rfl
          case hw20 => rfl
          case he20 => (rw [hWn]; go_simp; rfl)
          clear hHeld kb hWn p0 p1 p2 p3 p4 r0 r1 r2 r3 r4 bx7 g1 bx8 g2
          have kb := kb2
          have g1 := g1'
          have bx8 := bx8'
          have g2 := g2'
          have bx7 := bx7'
          clear kb2 g1' bx8' g2' bx7'
          intro hHeld
          refine wpAnyH_ready (rs := [7]) (by kernel_rfl) (by simp) ?_
          obtain ⟨wp20, hWn⟩ : ∃ x, x = put5 wp19 z8 (.slice A2 n2 c2) (.slice B2 m2 q2) (.int .i64 q) (.int .i64 u) (.bool false) := ⟨_, rfl⟩
          have kb2 : Below w1.heap.size w1 wp20 := by rw [hWn]; exact put5_below kb lo8 _ _ _ _ _
          have g1' : DAt wp20 ⟨fl, qu, q, u, false⟩ A1 n1 c1 B1 m1 q1 := by rw [hWn]; exact DAt.put5 bx8 g1
          have g2' : DAt wp20 ⟨fl, qu, q, u, false⟩ A2 n2 c2 B2 m2 q2 := by rw [hWn]; exact DAt.put5 bx8 g2
          have bx7' : Box5 wp20 z7 25 (.slice A1 n1 c1) (.slice B1 m1 q1) (.int .i64 q) (.int .i64 u) (.bool false) := by rw [hWn]; exact put5_other bx7 (by omega) _ _ _ _ _
          have bx8' : Box5 wp20 z8 25 (.slice A2 n2 c2) (.slice B2 m2 q2) (.int .i64 q) (.int .i64 u) (.bool false) := by rw [hWn]; exact put5_box bx8 _ _ _ _ _
          obtain ⟨⟨p0, p1, p2, p3, p4⟩, r0, r1, r2, r3, r4⟩ := box5 bx8
          refine br_store (i := 7) (oi := ?o21) (w' := wp20) ?hi21 ?hd21 ?hw21 ?he21 (Hcells1.out _ kb2) ?hc21
          case hi21 => (simp only [List.getElem?_toArray, List.getElem?_cons_succ, List.getElem?_cons_zero]; rfl)
          case hd21 => rfl
          case hw21 => rfl
          case he21 => (rw [hWn]; go_simp; rfl)
          clear hHeld kb hWn p0 p1 p2 p3 p4 r0 r1 r2 r3 r4 bx8 g1 g2 bx7
          have kb := kb2
          have g1 := g1'
          have g2 := g2'
          have bx7 := bx7'
          have bx8 := bx8'
          clear kb2 g1' g2' bx7' bx8'
          intro hHeld
          refine wpAnyH_done (by kernel_rfl) ?_ _
          go_wp2_with fail
          go_meet
          exact ⟨z7, z8, rfl, rfl, by omega, lo7, lo8, ⟨_, _, _, _, _, _, bx7, g1⟩, ⟨_, _, _, _, _, _, bx8, g2⟩, kb⟩
        obtain ⟨z8, hz8⟩ : ∃ z, z = wp2.heap.size := ⟨_, rfl⟩
        obtain ⟨wp21, hWn⟩ : ∃ x, x = wp2.alloc (.cells #[.slice none 0 0, .slice none 0 0, .int .i64 0, .int .i64 0, .bool false] 25) := ⟨_, rfl⟩
        have hb : Below wp2.heap.size wp2 wp21 := by rw [hWn]; exact below_al (below_d0 _) _
        have lo8 : w1.heap.size ≤ z8 := by rw [hz8]; exact kb.size
        have bx8 : Box5 wp21 z8 25 (.slice none 0 0) (.slice none 0 0) (.int .i64 0) (.int .i64 0) (.bool false) := by rw [hWn, hz8]; exact World.alloc_heap_new wp2 _
        refine br_val (i := 5) (d := 8) (oi := ?o22) (v := .pointer (some ⟨z8, 0, none⟩)) (w' := wp21) ?hi22 ?hd22 ?hw22 ?he22 (Hcells1.out _ (below_on kb hb)) ?hc22
        case hi22 => (simp only [List.getElem?_toArray, List.getElem?_cons_succ, List.getElem?_cons_zero]; rfl)
        case hd22 => rfl
        case hw22 => rfl
        case he22 => (rw [hz8, hWn]; go_simp)
        replace kb := below_on kb hb
        clear hHeld
        replace g1 : DAt wp21 ⟨fl, qu, q, u, false⟩ A1 n1 c1 B1 m1 q1 := g1.on hb
        clear hb hWn hz8
        intro hHeld
        simp only [List.set_cons_succ, List.set_cons_zero]
        refine wpAnyH_ready (rs := [3, 4]) (by kernel_rfl) (by simp) ?_
        apply two_ready
        · skip
          refine br_call (i := 3) (d := 47) (oi := ?o23) (f := ?f23) (args := ?a23) ?hi23 ?hd23 ?hw23 ?he23 ?hc23
          case hi23 => (simp only [List.getElem?_toArray, List.getElem?_cons_succ, List.getElem?_cons_zero]; rfl)
          case hd23 => rfl
          case hw23 => rfl
          case he23 => (go_simp; constructor <;> with_reducible rfl)
          with_reducible refine Calls.mono (own_step (Hd1.out _ kb) HR.out (by omega)) ?_
          rintro e wp22 ⟨⟨A2, n2, c2, B2, m2, q2, rfl, g2⟩, hb⟩
          replace g1 : DAt wp22 ⟨fl, qu, q, u, false⟩ A1 n1 c1 B1 m1 q1 := g1.on hb
          replace bx8 : Box5 wp22 z8 25 (.slice none 0 0) (.slice none 0 0) (.int .i64 0) (.int .i64 0) (.bool false) := bx8.below hb
          replace kb := below_on kb hb
          clear hHeld hb
          refine ⟨_, rfl, (Hcells1.out _ kb), fun hHeld => ?_⟩
          simp only [List.set_cons_succ, List.set_cons_zero]
          refine wpAnyH_ready (rs := [4]) (by kernel_rfl) (by simp) ?_
          obtain ⟨z7, hz7⟩ : ∃ z, z = wp22.heap.size := ⟨_, rfl⟩
          obtain ⟨wp23, hWn⟩ : ∃ x, x = wp22.alloc (.cells #[.slice none 0 0, .slice none 0 0, .int .i64 0, .int .i64 0, .bool false] 25) := ⟨_, rfl⟩
          have hb : Below wp22.heap.size wp22 wp23 := by rw [hWn]; exact below_al (below_d0 _) _
          have lo7 : w1.heap.size ≤ z7 := by rw [hz7]; exact kb.size
          have bx7 : Box5 wp23 z7 25 (.slice none 0 0) (.slice none 0 0) (.int .i64 0) (.int .i64 0) (.bool false) := by rw [hWn, hz7]; exact World.alloc_heap_new wp22 _
          have ne87 : z8 ≠ z7 := by have h1 := Box5.lt bx8; omega
          refine br_val (i := 4) (d := 7) (oi := ?o24) (v := .pointer (some ⟨z7, 0, none⟩)) (w' := wp23) ?hi24 ?hd24 ?hw24 ?he24 (Hcells1.out _ (below_on kb hb)) ?hc24
          case hi24 => (simp only [List.getElem?_toArray, List.getElem?_cons_succ, List.getElem?_cons_zero]; rfl)
          case hd24 => rfl
          case hw24 => rfl
          case he24 => (rw [hz7, hWn]; go_simp)
          replace kb := below_on kb hb
          clear hHeld
          replace g1 : DAt wp23 ⟨fl, qu, q, u, false⟩ A1 n1 c1 B1 m1 q1 := g1.on hb
          replace bx8 : Box5 wp23 z8 25 (.slice none 0 0) (.slice none 0 0) (.int .i64 0) (.int .i64 0) (.bool false) := bx8.below hb
          replace g2 : DAt wp23 ⟨fl, qu, q, u, false⟩ A2 n2 c2 B2 m2 q2 := g2.on hb
          clear hb hWn hz7
          intro hHeld
          simp only [List.set_cons_succ, List.set_cons_zero]
          refine wpAnyH_ready (rs := [6]) (by kernel_rfl) (by simp) ?_
          obtain ⟨wp24, hWn⟩ : ∃ x, x = put5 wp23 z7 (.slice A1 n1 c1) (.slice B1 m1 q1) (.int .i64 q) (.int .i64 u) (.bool false) := ⟨_, rfl⟩
          have kb2 : Below w1.heap.size w1 wp24 := by rw [hWn]; exact put5_below kb lo7 _ _ _ _ _
          have g1' : DAt wp24 ⟨fl, qu, q, u, false⟩ A1 n1 c1 B1 m1 q1 := by rw [hWn]; exact DAt.put5 bx7 g1
          have bx8' : Box5 wp24 z8 25 (.slice none 0 0) (.slice none 0 0) (.int .i64 0) (.int .i64 0) (.bool false) := by rw [hWn]; exact put5_other bx8 (by omega) _ _ _ _ _
          have g2' : DAt wp24 ⟨fl, qu, q, u, false⟩ A2 n2 c2 B2 m2 q2 := by rw [hWn]; exact DAt.put5 bx7 g2
          have bx7' : Box5 wp24 z7 25 (.slice A1 n1 c1) (.slice B1 m1 q1) (.int .i64 q) (.int .i64 u) (.bool false) := by rw [hWn]; exact put5_box bx7 _ _ _ _ _
          obtain ⟨⟨p0, p1, p2, p3, p4⟩, r0, r1, r2, r3, r4⟩ := box5 bx7
          refine br_store (i := 6) (oi := ?o25) (w' := wp24) ?hi25 ?hd25 ?hw25 ?he25 (Hcells1.out _ kb2) ?hc25
          case hi25 => (simp only [List.getElem?_toArray, List.getElem?_cons_succ, List.getElem?_cons_zero]; rfl)
          case hd25 => rfl
          case hw25 => rfl
          case he25 => (rw [hWn]; go_simp; rfl)
          clear hHeld kb hWn p0 p1 p2 p3 p4 r0 r1 r2 r3 r4 bx7 g1 bx8 g2
          have kb := kb2
          have g1 := g1'
          have bx8 := bx8'
          have g2 := g2'
          have bx7 := bx7'
          clear kb2 g1' bx8' g2' bx7'
          intro hHeld
          refine wpAnyH_ready (rs := [7]) (by kernel_rfl) (by simp) ?_
          obtain ⟨wp25, hWn⟩ : ∃ x, x = put5 wp24 z8 (.slice A2 n2 c2) (.slice B2 m2 q2) (.int .i64 q) (.int .i64 u) (.bool false) := ⟨_, rfl⟩
          have kb2 : Below w1.heap.size w1 wp25 := by rw [hWn]; exact put5_below kb lo8 _ _ _ _ _
          have g1' : DAt wp25 ⟨fl, qu, q, u, false⟩ A1 n1 c1 B1 m1 q1 := by rw [hWn]; exact DAt.put5 bx8 g1
          have g2' : DAt wp25 ⟨fl, qu, q, u, false⟩ A2 n2 c2 B2 m2 q2 := by rw [hWn]; exact DAt.put5 bx8 g2
          have bx7' : Box5 wp25 z7 25 (.slice A1 n1 c1) (.slice B1 m1 q1) (.int .i64 q) (.int .i64 u) (.bool false) := by rw [hWn]; exact put5_other bx7 (by omega) _ _ _ _ _
          have bx8' : Box5 wp25 z8 25 (.slice A2 n2 c2) (.slice B2 m2 q2) (.int .i64 q) (.int .i64 u) (.bool false) := by rw [hWn]; exact put5_box bx8 _ _ _ _ _
          obtain ⟨⟨p0, p1, p2, p3, p4⟩, r0, r1, r2, r3, r4⟩ := box5 bx8
          refine br_store (i := 7) (oi := ?o26) (w' := wp25) ?hi26 ?hd26 ?hw26 ?he26 (Hcells1.out _ kb2) ?hc26
          case hi26 => (simp only [List.getElem?_toArray, List.getElem?_cons_succ, List.getElem?_cons_zero]; rfl)
          case hd26 => rfl
          case hw26 => rfl
          case he26 => (rw [hWn]; go_simp; rfl)
          clear hHeld kb hWn p0 p1 p2 p3 p4 r0 r1 r2 r3 r4 bx8 g1 g2 bx7
          have kb := kb2
          have g1 := g1'
          have g2 := g2'
          have bx7 := bx7'
          have bx8 := bx8'
          clear kb2 g1' g2' bx7' bx8'
          intro hHeld
          refine wpAnyH_done (by kernel_rfl) ?_ _
          go_wp2_with fail
          go_meet
          exact ⟨z7, z8, rfl, rfl, by omega, lo7, lo8, ⟨_, _, _, _, _, _, bx7, g1⟩, ⟨_, _, _, _, _, _, bx8, g2⟩, kb⟩
        obtain ⟨z7, hz7⟩ : ∃ z, z = wp21.heap.size := ⟨_, rfl⟩
        obtain ⟨wp26, hWn⟩ : ∃ x, x = wp21.alloc (.cells #[.slice none 0 0, .slice none 0 0, .int .i64 0, .int .i64 0, .bool false] 25) := ⟨_, rfl⟩
        have hb : Below wp21.heap.size wp21 wp26 := by rw [hWn]; exact below_al (below_d0 _) _
        have lo7 : w1.heap.size ≤ z7 := by rw [hz7]; exact kb.size
        have bx7 : Box5 wp26 z7 25 (.slice none 0 0) (.slice none 0 0) (.int .i64 0) (.int .i64 0) (.bool false) := by rw [hWn, hz7]; exact World.alloc_heap_new wp21 _
        have ne87 : z8 ≠ z7 := by have h1 := Box5.lt bx8; omega
        refine br_val (i := 4) (d := 7) (oi := ?o27) (v := .pointer (some ⟨z7, 0, none⟩)) (w' := wp26) ?hi27 ?hd27 ?hw27 ?he27 (Hcells1.out _ (below_on kb hb)) ?hc27
        case hi27 => (simp only [List.getElem?_toArray, List.getElem?_cons_succ, List.getElem?_cons_zero]; rfl)
        case hd27 => rfl
        case hw27 => rfl
        case he27 => (rw [hz7, hWn]; go_simp)
        replace kb := below_on kb hb
        clear hHeld
        replace g1 : DAt wp26 ⟨fl, qu, q, u, false⟩ A1 n1 c1 B1 m1 q1 := g1.on hb
        replace bx8 : Box5 wp26 z8 25 (.slice none 0 0) (.slice none 0 0) (.int .i64 0) (.int .i64 0) (.bool false) := bx8.below hb
        clear hb hWn hz7
        intro hHeld
        simp only [List.set_cons_succ, List.set_cons_zero]
        refine wpAnyH_ready (rs := [3]) (by kernel_rfl) (by simp) ?_
        refine br_call (i := 3) (d := 47) (oi := ?o28) (f := ?f28) (args := ?a28) ?hi28 ?hd28 ?hw28 ?he28 ?hc28
        case hi28 => (simp only [List.getElem?_toArray, List.getElem?_cons_succ, List.getElem?_cons_zero]; rfl)
        case hd28 => rfl
        case hw28 => rfl
        case he28 => (go_simp; constructor <;> with_reducible rfl)
        with_reducible refine Calls.mono (own_step (Hd1.out _ kb) HR.out (by omega)) ?_
        rintro e wp27 ⟨⟨A2, n2, c2, B2, m2, q2, rfl, g2⟩, hb⟩
        replace g1 : DAt wp27 ⟨fl, qu, q, u, false⟩ A1 n1 c1 B1 m1 q1 := g1.on hb
        replace bx8 : Box5 wp27 z8 25 (.slice none 0 0) (.slice none 0 0) (.int .i64 0) (.int .i64 0) (.bool false) := bx8.below hb
        replace bx7 : Box5 wp27 z7 25 (.slice none 0 0) (.slice none 0 0) (.int .i64 0) (.int .i64 0) (.bool false) := bx7.below hb
        replace kb := below_on kb hb
        clear hHeld hb
        refine ⟨_, rfl, (Hcells1.out _ kb), fun hHeld => ?_⟩
        simp only [List.set_cons_succ, List.set_cons_zero]
        refine wpAnyH_ready (rs := [6]) (by kernel_rfl) (by simp) ?_
        obtain ⟨wp28, hWn⟩ : ∃ x, x = put5 wp27 z7 (.slice A1 n1 c1) (.slice B1 m1 q1) (.int .i64 q) (.int .i64 u) (.bool false) := ⟨_, rfl⟩
        have kb2 : Below w1.heap.size w1 wp28 := by rw [hWn]; exact put5_below kb lo7 _ _ _ _ _
        have g1' : DAt wp28 ⟨fl, qu, q, u, false⟩ A1 n1 c1 B1 m1 q1 := by rw [hWn]; exact DAt.put5 bx7 g1
        have bx8' : Box5 wp28 z8 25 (.slice none 0 0) (.slice none 0 0) (.int .i64 0) (.int .i64 0) (.bool false) := by rw [hWn]; exact put5_other bx8 (by omega) _ _ _ _ _
        have g2' : DAt wp28 ⟨fl, qu, q, u, false⟩ A2 n2 c2 B2 m2 q2 := by rw [hWn]; exact DAt.put5 bx7 g2
        have bx7' : Box5 wp28 z7 25 (.slice A1 n1 c1) (.slice B1 m1 q1) (.int .i64 q) (.int .i64 u) (.bool false) := by rw [hWn]; exact put5_box bx7 _ _ _ _ _
        obtain ⟨⟨p0, p1, p2, p3, p4⟩, r0, r1, r2, r3, r4⟩ := box5 bx7
        refine br_store (i := 6) (oi := ?o29) (w' := wp28) ?hi29 ?hd29 ?hw29 ?he29 (Hcells1.out _ kb2) ?hc29
        case hi29 => (simp only [List.getElem?_toArray, List.getElem?_cons_succ, List.getElem?_cons_zero]; rfl)
        case hd29 => rfl
        case hw29 => rfl
        case he29 => (rw [hWn]; go_simp; rfl)
        clear hHeld kb hWn p0 p1 p2 p3 p4 r0 r1 r2 r3 r4 bx7 g1 bx8 g2
        have kb := kb2
        have g1 := g1'
        have bx8 := bx8'
        have g2 := g2'
        have bx7 := bx7'
        clear kb2 g1' bx8' g2' bx7'
        intro hHeld
        refine wpAnyH_ready (rs := [7]) (by kernel_rfl) (by simp) ?_
        obtain ⟨wp29, hWn⟩ : ∃ x, x = put5 wp28 z8 (.slice A2 n2 c2) (.slice B2 m2 q2) (.int .i64 q) (.int .i64 u) (.bool false) := ⟨_, rfl⟩
        have kb2 : Below w1.heap.size w1 wp29 := by rw [hWn]; exact put5_below kb lo8 _ _ _ _ _
        have g1' : DAt wp29 ⟨fl, qu, q, u, false⟩ A1 n1 c1 B1 m1 q1 := by rw [hWn]; exact DAt.put5 bx8 g1
        have g2' : DAt wp29 ⟨fl, qu, q, u, false⟩ A2 n2 c2 B2 m2 q2 := by rw [hWn]; exact DAt.put5 bx8 g2
        have bx7' : Box5 wp29 z7 25 (.slice A1 n1 c1) (.slice B1 m1 q1) (.int .i64 q) (.int .i64 u) (.bool false) := by rw [hWn]; exact put5_other bx7 (by omega) _ _ _ _ _
        have bx8' : Box5 wp29 z8 25 (.slice A2 n2 c2) (.slice B2 m2 q2) (.int .i64 q) (.int .i64 u) (.bool false) := by rw [hWn]; exact put5_box bx8 _ _ _ _ _
        obtain ⟨⟨p0, p1, p2, p3, p4⟩, r0, r1, r2, r3, r4⟩ := box5 bx8
        refine br_store (i := 7) (oi := ?o30) (w' := wp29) ?hi30 ?hd30 ?hw30 ?he30 (Hcells1.out _ kb2) ?hc30
        case hi30 => (simp only [List.getElem?_toArray, List.getElem?_cons_succ, List.getElem?_cons_zero]; rfl)
        case hd30 => rfl
        case hw30 => rfl
        case he30 => (rw [hWn]; go_simp; rfl)
        clear hHeld kb hWn p0 p1 p2 p3 p4 r0 r1 r2 r3 r4 bx8 g1 g2 bx7
        have kb := kb2
        have g1 := g1'
        have g2 := g2'
        have bx7 := bx7'
        have bx8 := bx8'
        clear kb2 g1' g2' bx7' bx8'
        intro hHeld
        refine wpAnyH_done (by kernel_rfl) ?_ _
        go_wp2_with fail
        go_meet
        exact ⟨z7, z8, rfl, rfl, by omega, lo7, lo8, ⟨_, _, _, _, _, _, bx7, g1⟩, ⟨_, _, _, _, _, _, bx8, g2⟩, kb⟩
      apply two_ready
      · skip
        obtain ⟨z7, hz7⟩ : ∃ z, z = wp1.heap.size := ⟨_, rfl⟩
        obtain ⟨wp30, hWn⟩ : ∃ x, x = wp1.alloc (.cells #[.slice none 0 0, .slice none 0 0, .int .i64 0, .int .i64 0, .bool false] 25) := ⟨_, rfl⟩
        have hb : Below wp1.heap.size wp1 wp30 := by rw [hWn]; exact below_al (below_d0 _) _
        have lo7 : w1.heap.size ≤ z7 := by rw [hz7]; exact kb.size
        have bx7 : Box5 wp30 z7 25 (.slice none 0 0) (.slice none 0 0) (.int .i64 0) (.int .i64 0) (.bool false) := by rw [hWn, hz7]; exact World.alloc_heap_new wp1 _
        refine br_val (i := 4) (d := 7) (oi := ?o31) (v := .pointer (some ⟨z7, 0, none⟩)) (w' := wp30) ?hi31 ?hd31 ?hw31 ?he31 (Hcells1.out _ (below_on kb hb)) ?hc31
        case hi31 => (simp only [List.getElem?_toArray, List.getElem?_cons_succ, List.getElem?_cons_zero]; rfl)
        case hd31 => rfl
        case hw31 => rfl
        case he31 => (rw [hz7, hWn]; go_simp)
        replace kb := below_on kb hb
        clear hHeld
        clear hb hWn hz7
        intro hHeld
        simp only [List.set_cons_succ, List.set_cons_zero]
        refine wpAnyH_ready (rs := [1, 5]) (by kernel_rfl) (by simp) ?_
        apply two_ready
        · skip
          refine br_call (i := 1) (d := 45) (oi := ?o32) (f := ?f32) (args := ?a32) ?hi32 ?hd32 ?hw32 ?he32 ?hc32
          case hi32 => (simp only [List.getElem?_toArray, List.getElem?_cons_succ, List.getElem?_cons_zero]; rfl)
          case hd32 => rfl
          case hw32 => rfl
          case he32 => (go_simp; constructor <;> with_reducible rfl)
          with_reducible refine Calls.mono (own_step (Hd1.out _ kb) HR.out (by omega)) ?_
          rintro e wp31 ⟨⟨A1, n1, c1, B1, m1, q1, rfl, g1⟩, hb⟩
          replace bx7 : Box5 wp31 z7 25 (.slice none 0 0) (.slice none 0 0) (.int .i64 0) (.int .i64 0) (.bool false) := bx7.below hb
          replace kb := below_on kb hb
          clear hHeld hb
          refine ⟨_, rfl, (Hcells1.out _ kb), fun hHeld => ?_⟩
          simp only [List.set_cons_succ, List.set_cons_zero]
          refine wpAnyH_ready (rs := [3, 5]) (by kernel_rfl) (by simp) ?_
          apply two_ready
          · skip
            refine br_call (i := 3) (d := 47) (oi := ?o33) (f := ?f33) (args := ?a33) ?hi33 ?hd33 ?hw33 ?he33 ?hc33
            case hi33 => (simp only [List.getElem?_toArray, List.getElem?_cons_succ, List.getElem?_cons_zero]; rfl)
            case hd33 => rfl
            case hw33 => rfl
            case he33 => (go_simp; constructor <;> with_reducible rfl)
            with_reducible refine Calls.mono (own_step (Hd1.out _ kb) HR.out (by omega)) ?_
            rintro e wp32 ⟨⟨A2, n2, c2, B2, m2, q2, rfl, g2⟩, hb⟩
            replace bx7 : Box5 wp32 z7 25 (.slice none 0 0) (.slice none 0 0) (.int .i64 0) (.int .i64 0) (.bool false) := bx7.below hb
            replace g1 : DAt wp32 ⟨fl, qu, q, u, false⟩ A1 n1 c1 B1 m1 q1 := g1.on hb
            replace kb := below_on kb hb
            clear hHeld hb
            refine ⟨_, rfl, (Hcells1.out _ kb), fun hHeld => ?_⟩
            simp only [List.set_cons_succ, List.set_cons_zero]
            refine wpAnyH_ready (rs := [5]) (by kernel_rfl) (by simp) ?_
            obtain ⟨z8, hz8⟩ : ∃ z, z = wp32.heap.size := ⟨_, rfl⟩
            obtain ⟨wp33, hWn⟩ : ∃ x, x = wp32.alloc (.cells #[.slice none 0 0, .slice none 0 0, .int .i64 0, .int .i64 0, .bool false] 25) := ⟨_, rfl⟩
            have hb : Below wp32.heap.size wp32 wp33 := by rw [hWn]; exact below_al (below_d0 _) _
            have lo8 : w1.heap.size ≤ z8 := by rw [hz8]; exact kb.size
            have bx8 : Box5 wp33 z8 25 (.slice none 0 0) (.slice none 0 0) (.int .i64 0) (.int .i64 0) (.bool false) := by rw [hWn, hz8]; exact World.alloc_heap_new wp32 _
            have ne78 : z7 ≠ z8 := by have h1 := Box5.lt bx7; omega
            refine br_val (i := 5) (d := 8) (oi := ?o34) (v := .pointer (some ⟨z8, 0, none⟩)) (w' := wp33) ?hi34 ?hd34 ?hw34 ?he34 (Hcells1.out _ (below_on kb hb)) ?hc34
            case hi34 => (simp only [List.getElem?_toArray, List.getElem?_cons_succ, List.getElem?_cons_zero]; rfl)
            case hd34 => rfl
            case hw34 => rfl
            case he34 => (rw [hz8, hWn]; go_simp)
            replace kb := below_on kb hb
            clear hHeld
            replace bx7 : Box5 wp33 z7 25 (.slice none 0 0) (.slice none 0 0) (.int .i64 0) (.int .i64 0) (.bool false) := bx7.below hb
            replace g1 : DAt wp33 ⟨fl, qu, q, u, false⟩ A1 n1 c1 B1 m1 q1 := g1.on hb
            replace g2 : DAt wp33 ⟨fl, qu, q, u, false⟩ A2 n2 c2 B2 m2 q2 := g2.on hb
            clear hb hWn hz8
            intro hHeld
            simp only [List.set_cons_succ, List.set_cons_zero]
            refine wpAnyH_ready (rs := [6]) (by kernel_rfl) (by simp) ?_
            obtain ⟨wp34, hWn⟩ : ∃ x, x = put5 wp33 z7 (.slice A1 n1 c1) (.slice B1 m1 q1) (.int .i64 q) (.int .i64 u) (.bool false) := ⟨_, rfl⟩
            have kb2 : Below w1.heap.size w1 wp34 := by rw [hWn]; exact put5_below kb lo7 _ _ _ _ _
            have g1' : DAt wp34 ⟨fl, qu, q, u, false⟩ A1 n1 c1 B1 m1 q1 := by rw [hWn]; exact DAt.put5 bx7 g1
            have g2' : DAt wp34 ⟨fl, qu, q, u, false⟩ A2 n2 c2 B2 m2 q2 := by rw [hWn]; exact DAt.put5 bx7 g2
            have bx8' : Box5 wp34 z8 25 (.slice none 0 0) (.slice none 0 0) (.int .i64 0) (.int .i64 0) (.bool false) := by rw [hWn]; exact put5_other bx8 (by omega) _ _ _ _ _
            have bx7' : Box5 wp34 z7 25 (.slice A1 n1 c1) (.slice B1 m1 q1) (.int .i64 q) (.int .i64 u) (.bool false) := by rw [hWn]; exact put5_box bx7 _ _ _ _ _
            obtain ⟨⟨p0, p1, p2, p3, p4⟩, r0, r1, r2, r3, r4⟩ := box5 bx7
            refine br_store (i := 6) (oi := ?o35) (w' := wp34) ?hi35 ?hd35 ?hw35 ?he35 (Hcells1.out _ kb2) ?hc35
            case hi35 => (simp only [List.getElem?_toArray, List.getElem?_cons_succ, List.getElem?_cons_zero]; rfl)
            case hd35 => rfl
            case hw35 => rfl
            case he35 => (rw [hWn]; go_simp; rfl)
            clear hHeld kb hWn p0 p1 p2 p3 p4 r0 r1 r2 r3 r4 bx7 g1 g2 bx8
            have kb := kb2
            have g1 := g1'
            have g2 := g2'
            have bx8 := bx8'
            have bx7 := bx7'
            clear kb2 g1' g2' bx8' bx7'
            intro hHeld
            refine wpAnyH_ready (rs := [7]) (by kernel_rfl) (by simp) ?_
            obtain ⟨wp35, hWn⟩ : ∃ x, x = put5 wp34 z8 (.slice A2 n2 c2) (.slice B2 m2 q2) (.int .i64 q) (.int .i64 u) (.bool false) := ⟨_, rfl⟩
            have kb2 : Below w1.heap.size w1 wp35 := by rw [hWn]; exact put5_below kb lo8 _ _ _ _ _
            have g1' : DAt wp35 ⟨fl, qu, q, u, false⟩ A1 n1 c1 B1 m1 q1 := by rw [hWn]; exact DAt.put5 bx8 g1
            have g2' : DAt wp35 ⟨fl, qu, q, u, false⟩ A2 n2 c2 B2 m2 q2 := by rw [hWn]; exact DAt.put5 bx8 g2
            have bx7' : Box5 wp35 z7 25 (.slice A1 n1 c1) (.slice B1 m1 q1) (.int .i64 q) (.int .i64 u) (.bool false) := by rw [hWn]; exact put5_other bx7 (by omega) _ _ _ _ _
            have bx8' : Box5 wp35 z8 25 (.slice A2 n2 c2) (.slice B2 m2 q2) (.int .i64 q) (.int .i64 u) (.bool false) := by rw [hWn]; exact put5_box bx8 _ _ _ _ _
            obtain ⟨⟨p0, p1, p2, p3, p4⟩, r0, r1, r2, r3, r4⟩ := box5 bx8
            refine br_store (i := 7) (oi := ?o36) (w' := wp35) ?hi36 ?hd36 ?hw36 ?he36 (Hcells1.out _ kb2) ?hc36
            case hi36 => (simp only [List.getElem?_toArray, List.getElem?_cons_succ, List.getElem?_cons_zero]; rfl)
            case hd36 => rfl
            case hw36 => rfl
            case he36 => (rw [hWn]; go_simp; rfl)
            clear hHeld kb hWn p0 p1 p2 p3 p4 r0 r1 r2 r3 r4 bx8 g1 g2 bx7
            have kb := kb2
            have g1 := g1'
            have g2 := g2'
            have bx7 := bx7'
            have bx8 := bx8'
            clear kb2 g1' g2' bx7' bx8'
            intro hHeld
            refine wpAnyH_done (by kernel_rfl) ?_ _
            go_wp2_with fail
            go_meet
            exact ⟨z7, z8, rfl, rfl, by omega, lo7, lo8, ⟨_, _, _, _, _, _, bx7, g1⟩, ⟨_, _, _, _, _, _, bx8, g2⟩, kb⟩
          obtain ⟨z8, hz8⟩ : ∃ z, z = wp31.heap.size := ⟨_, rfl⟩
          obtain ⟨wp36, hWn⟩ : ∃ x, x = wp31.alloc (.cells #[.slice none 0 0, .slice none 0 0, .int .i64 0, .int .i64 0, .bool false] 25) := ⟨_, rfl⟩
          have hb : Below wp31.heap.size wp31 wp36 := by rw [hWn]; exact below_al (below_d0 _) _
          have lo8 : w1.heap.size ≤ z8 := by rw [hz8]; exact kb.size
          have bx8 : Box5 wp36 z8 25 (.slice none 0 0) (.slice none 0 0) (.int .i64 0) (.int .i64 0) (.bool false) := by rw [hWn, hz8]; exact World.alloc_heap_new wp31 _
          have ne78 : z7 ≠ z8 := by have h1 := Box5.lt bx7; omega
          refine br_val (i := 5) (d := 8) (oi := ?o37) (v := .pointer (some ⟨z8, 0, none⟩)) (w' := wp36) ?hi37 ?hd37 ?hw37 ?he37 (Hcells1.out _ (below_on kb hb)) ?hc37
          case hi37 => (simp only [List.getElem?_toArray, List.getElem?_cons_succ, List.getElem?_cons_zero]; rfl)
          case hd37 => rfl
          case hw37 => rfl
          case he37 => (rw [hz8, hWn]; go_simp)
          replace kb := below_on kb hb
          clear hHeld
          replace bx7 : Box5 wp36 z7 25 (.slice none 0 0) (.slice none 0 0) (.int .i64 0) (.int .i64 0) (.bool false) := bx7.below hb
          replace g1 : DAt wp36 ⟨fl, qu, q, u, false⟩ A1 n1 c1 B1 m1 q1 := g1.on hb
          clear hb hWn hz8
          intro hHeld
          simp only [List.set_cons_succ, List.set_cons_zero]
          refine wpAnyH_ready (rs := [3]) (by kernel_rfl) (by simp) ?_
          refine br_call (i := 3) (d := 47) (oi := ?o38) (f := ?f38) (args := ?a38) ?hi38 ?hd38 ?hw38 ?he38 ?hc38
          case hi38 => (simp only [List.getElem?_toArray, List.getElem?_cons_succ, List.getElem?_cons_zero]; rfl)
          case hd38 => rfl
          case hw38 => rfl
          case he38 => (go_simp; constructor <;> with_reducible rfl)
          with_reducible refine Calls.mono (own_step (Hd1.out _ kb) HR.out (by omega)) ?_
          rintro e wp37 ⟨⟨A2, n2, c2, B2, m2, q2, rfl, g2⟩, hb⟩
          replace bx7 : Box5 wp37 z7 25 (.slice none 0 0) (.slice none 0 0) (.int .i64 0) (.int .i64 0) (.bool false) := bx7.below hb
          replace g1 : DAt wp37 ⟨fl, qu, q, u, false⟩ A1 n1 c1 B1 m1 q1 := g1.on hb
          replace bx8 : Box5 wp37 z8 25 (.slice none 0 0) (.slice none 0 0) (.int .i64 0) (.int .i64 0) (.bool false) := bx8.below hb
          replace kb := below_on kb hb
          clear hHeld hb
          refine ⟨_, rfl, (Hcells1.out _ kb), fun hHeld => ?_⟩
          simp only [List.set_cons_succ, List.set_cons_zero]
          refine wpAnyH_ready (rs := [6]) (by kernel_rfl) (by simp) ?_
          obtain ⟨wp38, hWn⟩ : ∃ x, x = put5 wp37 z7 (.slice A1 n1 c1) (.slice B1 m1 q1) (.int .i64 q) (.int .i64 u) (.bool false) := ⟨_, rfl⟩
          have kb2 : Below w1.heap.size w1 wp38 := by rw [hWn]; exact put5_below kb lo7 _ _ _ _ _
          have g1' : DAt wp38 ⟨fl, qu, q, u, false⟩ A1 n1 c1 B1 m1 q1 := by rw [hWn]; exact DAt.put5 bx7 g1
          have bx8' : Box5 wp38 z8 25 (.slice none 0 0) (.slice none 0 0) (.int .i64 0) (.int .i64 0) (.bool false) := by rw [hWn]; exact put5_other bx8 (by omega) _ _ _ _ _
          have g2' : DAt wp38 ⟨fl, qu, q, u, false⟩ A2 n2 c2 B2 m2 q2 := by rw [hWn]; exact DAt.put5 bx7 g2
          have bx7' : Box5 wp38 z7 25 (.slice A1 n1 c1) (.slice B1 m1 q1) (.int .i64 q) (.int .i64 u) (.bool false) := by rw [hWn]; exact put5_box bx7 _ _ _ _ _
          obtain ⟨⟨p0, p1, p2, p3, p4⟩, r0, r1, r2, r3, r4⟩ := box5 bx7
          refine br_store (i := 6) (oi := ?o39) (w' := wp38) ?hi39 ?hd39 ?hw39 ?he39 (Hcells1.out _ kb2) ?hc39
          case hi39 => (simp only [List.getElem?_toArray, List.getElem?_cons_succ, List.getElem?_cons_zero]; rfl)
          case hd39 => rfl
          case hw39 => rfl
          case he39 => (rw [hWn]; go_simp; rfl)
          clear hHeld kb hWn p0 p1 p2 p3 p4 r0 r1 r2 r3 r4 bx7 g1 bx8 g2
          have kb := kb2
          have g1 := g1'
          have bx8 := bx8'
          have g2 := g2'
          have bx7 := bx7'
          clear kb2 g1' bx8' g2' bx7'
          intro hHeld
          refine wpAnyH_ready (rs := [7]) (by kernel_rfl) (by simp) ?_
          obtain ⟨wp39, hWn⟩ : ∃ x, x = put5 wp38 z8 (.slice A2 n2 c2) (.slice B2 m2 q2) (.int .i64 q) (.int .i64 u) (.bool false) := ⟨_, rfl⟩
          have kb2 : Below w1.heap.size w1 wp39 := by rw [hWn]; exact put5_below kb lo8 _ _ _ _ _
          have g1' : DAt wp39 ⟨fl, qu, q, u, false⟩ A1 n1 c1 B1 m1 q1 := by rw [hWn]; exact DAt.put5 bx8 g1
          have g2' : DAt wp39 ⟨fl, qu, q, u, false⟩ A2 n2 c2 B2 m2 q2 := by rw [hWn]; exact DAt.put5 bx8 g2
          have bx7' : Box5 wp39 z7 25 (.slice A1 n1 c1) (.slice B1 m1 q1) (.int .i64 q) (.int .i64 u) (.bool false) := by rw [hWn]; exact put5_other bx7 (by omega) _ _ _ _ _
          have bx8' : Box5 wp39 z8 25 (.slice A2 n2 c2) (.slice B2 m2 q2) (.int .i64 q) (.int .i64 u) (.bool false) := by rw [hWn]; exact put5_box bx8 _ _ _ _ _
          obtain ⟨⟨p0, p1, p2, p3, p4⟩, r0, r1, r2, r3, r4⟩ := box5 bx8
          refine br_store (i := 7) (oi := ?o40) (w' := wp39) ?hi40 ?hd40 ?hw40 ?he40 (Hcells1.out _ kb2) ?hc40
          case hi40 => (simp only [List.getElem?_toArray, List.getElem?_cons_succ, List.getElem?_cons_zero]; rfl)
          case hd40 => rfl
          case hw40 => rfl
          case he40 => (rw [hWn]; go_simp; rfl)
          clear hHeld kb hWn p0 p1 p2 p3 p4 r0 r1 r2 r3 r4 bx8 g1 g2 bx7
          have kb := kb2
          have g1 := g1'
          have g2 := g2'
          have bx7 := bx7'
          have bx8 := bx8'
          clear kb2 g1' g2' bx7' bx8'
          intro hHeld
          refine wpAnyH_done (by kernel_rfl) ?_ _
          go_wp2_with fail
          go_meet
          exact ⟨z7, z8, rfl, rfl, by omega, lo7, lo8, ⟨_, _, _, _, _, _, bx7, g1⟩, ⟨_, _, _, _, _, _, bx8, g2⟩, kb⟩
        obtain ⟨z8, hz8⟩ : ∃ z, z = wp30.heap.size := ⟨_, rfl⟩
        obtain ⟨wp40, hWn⟩ : ∃ x, x = wp30.alloc (.cells #[.slice none 0 0, .slice none 0 0, .int .i64 0, .int .i64 0, .bool false] 25) := ⟨_, rfl⟩
        have hb : Below wp30.heap.size wp30 wp40 := by rw [hWn]; exact below_al (below_d0 _) _
        have lo8 : w1.heap.size ≤ z8 := by rw [hz8]; exact kb.size
        have bx8 : Box5 wp40 z8 25 (.slice none 0 0) (.slice none 0 0) (.int .i64 0) (.int .i64 0) (.bool false) := by rw [hWn, hz8]; exact World.alloc_heap_new wp30 _
        have ne78 : z7 ≠ z8 := by have h1 := Box5.lt bx7; omega
        refine br_val (i := 5) (d := 8) (oi := ?o41) (v := .pointer (some ⟨z8, 0, none⟩)) (w' := wp40) ?hi41 ?hd41 ?hw41 ?he41 (Hcells1.out _ (below_on kb hb)) ?hc41
        case hi41 => (simp only [List.getElem?_toArray, List.getElem?_cons_succ, List.getElem?_cons_zero]; rfl)
        case hd41 => rfl
        case hw41 => rfl
        case he41 => (rw [hz8, hWn]; go_simp)
        replace kb := below_on kb hb
        clear hHeld
        replace bx7 : Box5 wp40 z7 25 (.slice none 0 0) (.slice none 0 0) (.int .i64 0) (.int .i64 0) (.bool false) := bx7.below hb
        clear hb hWn hz8
        intro hHeld
        simp only [List.set_cons_succ, List.set_cons_zero]
        refine wpAnyH_ready (rs := [1]) (by kernel_rfl) (by simp) ?_
        refine br_call (i := 1) (d := 45) (oi := ?o42) (f := ?f42) (args := ?a42) ?hi42 ?hd42 ?hw42 ?he42 ?hc42
        case hi42 => (simp only [List.getElem?_toArray, List.getElem?_cons_succ, List.getElem?_cons_zero]; rfl)
        case hd42 => rfl
        case hw42 => rfl
        case he42 => (go_simp; constructor <;> with_reducible rfl)
        with_reducible refine Calls.mono (own_step (Hd1.out _ kb) HR.out (by omega)) ?_
        rintro e wp41 ⟨⟨A1, n1, c1, B1, m1, q1, rfl, g1⟩, hb⟩
        replace bx7 : Box5 wp41 z7 25 (.slice none 0 0) (.slice none 0 0) (.int .i64 0) (.int .i64 0) (.bool false) := bx7.below hb
        replace bx8 : Box5 wp41 z8 25 (.slice none 0 0) (.slice none 0 0) (.int .i64 0) (.int .i64 0) (.bool false) := bx8.below hb
        replace kb := below_on kb hb
        clear hHeld hb
        refine ⟨_, rfl, (Hcells1.out _ kb), fun hHeld => ?_⟩
        simp only [List.set_cons_succ, List.set_cons_zero]
        refine wpAnyH_ready (rs := [3]) (by kernel_rfl) (by simp) ?_
        refine br_call (i := 3) (d := 47) (oi := ?o43) (f := ?f43) (args := ?a43) ?hi43 ?hd43 ?hw43 ?he43 ?hc43
        case hi43 => (simp only [List.getElem?_toArray, List.getElem?_cons_succ, List.getElem?_cons_zero]; rfl)
        case hd43 => rfl
        case hw43 => rfl
        case he43 => (go_simp; constructor <;> with_reducible rfl)
        with_reducible refine Calls.mono (own_step (Hd1.out _ kb) HR.out (by omega)) ?_
        rintro e wp42 ⟨⟨A2, n2, c2, B2, m2, q2, rfl, g2⟩, hb⟩
        replace bx7 : Box5 wp42 z7 25 (.slice none 0 0) (.slice none 0 0) (.int .i64 0) (.int .i64 0) (.bool false) := bx7.below hb
        replace bx8 : Box5 wp42 z8 25 (.slice none 0 0) (.slice none 0 0) (.int .i64 0) (.int .i64 0) (.bool false) := bx8.below hb
        replace g1 : DAt wp42 ⟨fl, qu, q, u, false⟩ A1 n1 c1 B1 m1 q1 := g1.on hb
        replace kb := below_on kb hb
        clear hHeld hb
        refine ⟨_, rfl, (Hcells1.out _ kb), fun hHeld => ?_⟩
        simp only [List.set_cons_succ, List.set_cons_zero]
        refine wpAnyH_ready (rs := [6]) (by kernel_rfl) (by simp) ?_
        obtain ⟨wp43, hWn⟩ : ∃ x, x = put5 wp42 z7 (.slice A1 n1 c1) (.slice B1 m1 q1) (.int .i64 q) (.int .i64 u) (.bool false) := ⟨_, rfl⟩
        have kb2 : Below w1.heap.size w1 wp43 := by rw [hWn]; exact put5_below kb lo7 _ _ _ _ _
        have bx8' : Box5 wp43 z8 25 (.slice none 0 0) (.slice none 0 0) (.int .i64 0) (.int .i64 0) (.bool false) := by rw [hWn]; exact put5_other bx8 (by omega) _ _ _ _ _
        have g1' : DAt wp43 ⟨fl, qu, q, u, false⟩ A1 n1 c1 B1 m1 q1 := by rw [hWn]; exact DAt.put5 bx7 g1
        have g2' : DAt wp43 ⟨fl, qu, q, u, false⟩ A2 n2 c2 B2 m2 q2 := by rw [hWn]; exact DAt.put5 bx7 g2
        have bx7' : Box5 wp43 z7 25 (.slice A1 n1 c1) (.slice B1 m1 q1) (.int .i64 q) (.int .i64 u) (.bool false) := by rw [hWn]; exact put5_box bx7 _ _ _ _ _
        obtain ⟨⟨p0, p1, p2, p3, p4⟩, r0, r1, r2, r3, r4⟩ := box5 bx7
        refine br_store (i := 6) (oi := ?o44) (w' := wp43) ?hi44 ?hd44 ?hw44 ?he44 (Hcells1.out _ kb2) ?hc44
        case hi44 => (simp only [List.getElem?_toArray, List.getElem?_cons_succ, List.getElem?_cons_zero]; rfl)
        case hd44 => rfl
        case hw44 => rfl
        case he44 => (rw [hWn]; go_simp; rfl)
        clear hHeld kb hWn p0 p1 p2 p3 p4 r0 r1 r2 r3 r4 bx7 bx8 g1 g2
        have kb := kb2
        have bx8 := bx8'
        have g1 := g1'
        have g2 := g2'
        have bx7 := bx7'
        clear kb2 bx8' g1' g2' bx7'
        intro hHeld
        refine wpAnyH_ready (rs := [7]) (by kernel_rfl) (by simp) ?_
        obtain ⟨wp44, hWn⟩ : ∃ x, x = put5 wp43 z8 (.slice A2 n2 c2) (.slice B2 m2 q2) (.int .i64 q) (.int .i64 u) (.bool false) := ⟨_, rfl⟩
        have kb2 : Below w1.heap.size w1 wp44 := by rw [hWn]; exact put5_below kb lo8 _ _ _ _ _
        have g1' : DAt wp44 ⟨fl, qu, q, u, false⟩ A1 n1 c1 B1 m1 q1 := by rw [hWn]; exact DAt.put5 bx8 g1
        have g2' : DAt wp44 ⟨fl, qu, q, u, false⟩ A2 n2 c2 B2 m2 q2 := by rw [hWn]; exact DAt.put5 bx8 g2
        have bx7' : Box5 wp44 z7 25 (.slice A1 n1 c1) (.slice B1 m1 q1) (.int .i64 q) (.int .i64 u) (.bool false) := by rw [hWn]; exact put5_other bx7 (by omega) _ _ _ _ _
        have bx8' : Box5 wp44 z8 25 (.slice A2 n2 c2) (.slice B2 m2 q2) (.int .i64 q) (.int .i64 u) (.bool false) := by rw [hWn]; exact put5_box bx8 _ _ _ _ _
        obtain ⟨⟨p0, p1, p2, p3, p4⟩, r0, r1, r2, r3, r4⟩ := box5 bx8
        refine br_store (i := 7) (oi := ?o45) (w' := wp44) ?hi45 ?hd45 ?hw45 ?he45 (Hcells1.out _ kb2) ?hc45
        case hi45 => (simp only [List.getElem?_toArray, List.getElem?_cons_succ, List.getElem?_cons_zero]; rfl)
        case hd45 => rfl
        case hw45 => rfl
        case he45 => (rw [hWn]; go_simp; rfl)
        clear hHeld kb hWn p0 p1 p2 p3 p4 r0 r1 r2 r3 r4 bx8 g1 g2 bx7
        have kb := kb2
        have g1 := g1'
        have g2 := g2'
        have bx7 := bx7'
        have bx8 := bx8'
        clear kb2 g1' g2' bx7' bx8'
        intro hHeld
        refine wpAnyH_done (by kernel_rfl) ?_ _
        go_wp2_with fail
        go_meet
        exact ⟨z7, z8, rfl, rfl, by omega, lo7, lo8, ⟨_, _, _, _, _, _, bx7, g1⟩, ⟨_, _, _, _, _, _, bx8, g2⟩, kb⟩
      obtain ⟨z8, hz8⟩ : ∃ z, z = wp1.heap.size := ⟨_, rfl⟩
      obtain ⟨wp45, hWn⟩ : ∃ x, x = wp1.alloc (.cells #[.slice none 0 0, .slice none 0 0, .int .i64 0, .int .i64 0, .bool false] 25) := ⟨_, rfl⟩
      have hb : Below wp1.heap.size wp1 wp45 := by rw [hWn]; exact below_al (below_d0 _) _
      have lo8 : w1.heap.size ≤ z8 := by rw [hz8]; exact kb.size
      have bx8 : Box5 wp45 z8 25 (.slice none 0 0) (.slice none 0 0) (.int .i64 0) (.int .i64 0) (.bool false) := by rw [hWn, hz8]; exact World.alloc_heap_new wp1 _
      refine br_val (i := 5) (d := 8) (oi := ?o46) (v := .pointer (some ⟨z8, 0, none⟩)) (w' := wp45) ?hi46 ?hd46 ?hw46 ?he46 (Hcells1.out _ (below_on kb hb)) ?hc46
      case hi46 => (simp only [List.getElem?_toArray, List.getElem?_cons_succ, List.getElem?_cons_zero]; rfl)
      case hd46 => rfl
      case hw46 => rfl
      case he46 => (rw [hz8, hWn]; go_simp)
      replace kb := below_on kb hb
      clear hHeld
      clear hb hWn hz8
      intro hHeld
      simp only [List.set_cons_succ, List.set_cons_zero]
      refine wpAnyH_ready (rs := [1, 4]) (by kernel_rfl) (by simp) ?_
      apply two_ready
      · skip
        refine br_call (i := 1) (d := 45) (oi := ?o47) (f := ?f47) (args := ?a47) ?hi47 ?hd47 ?hw47 ?he47 ?hc47
        case hi47 => (simp only [List.getElem?_toArray, List.getElem?_cons_succ, List.getElem?_cons_zero]; rfl)
        case hd47 => rfl
        case hw47 => rfl
        case he47 => (go_simp; constructor <;> with_reducible rfl)
        with_reducible refine Calls.mono (own_step (Hd1.out _ kb) HR.out (by omega)) ?_
        rintro e wp46 ⟨⟨A1, n1, c1, B1, m1, q1, rfl, g1⟩, hb⟩
        replace bx8 : Box5 wp46 z8 25 (.slice none 0 0) (.slice none 0 0) (.int .i64 0) (.int .i64 0) (.bool false) := bx8.below hb
        replace kb := below_on kb hb
        clear hHeld hb
        refine ⟨_, rfl, (Hcells1.out _ kb), fun hHeld => ?_⟩
        simp only [List.set_cons_succ, List.set_cons_zero]
        refine wpAnyH_ready (rs := [3, 4]) (by kernel_rfl) (by simp) ?_
        apply two_ready
        · skip
          refine br_call (i := 3) (d := 47) (oi := ?o48) (f := ?f48) (args := ?a48) ?hi48 ?hd48 ?hw48 ?he48 ?hc48
          case hi48 => (simp only [List.getElem?_toArray, List.getElem?_cons_succ, List.getElem?_cons_zero]; rfl)
          case hd48 => rfl
          case hw48 => rfl
          case he48 => (go_simp; constructor <;> with_reducible rfl)
          with_reducible refine Calls.mono (own_step (Hd1.out _ kb) HR.out (by omega)) ?_
          rintro e wp47 ⟨⟨A2, n2, c2, B2, m2, q2, rfl, g2⟩, hb⟩
          replace bx8 : Box5 wp47 z8 25 (.slice none 0 0) (.slice none 0 0) (.int .i64 0) (.int .i64 0) (.bool false) := bx8.below hb
          replace g1 : DAt wp47 ⟨fl, qu, q, u, false⟩ A1 n1 c1 B1 m1 q1 := g1.on hb
          replace kb := below_on kb hb
          clear hHeld hb
          refine ⟨_, rfl, (Hcells1.out _ kb), fun hHeld => ?_⟩
          simp only [List.set_cons_succ, List.set_cons_zero]
          refine wpAnyH_ready (rs := [4]) (by kernel_rfl) (by simp) ?_
          obtain ⟨z7, hz7⟩ : ∃ z, z = wp47.heap.size := ⟨_, rfl⟩
          obtain ⟨wp48, hWn⟩ : ∃ x, x = wp47.alloc (.cells #[.slice none 0 0, .slice none 0 0, .int .i64 0, .int .i64 0, .bool false] 25) := ⟨_, rfl⟩
          have hb : Below wp47.heap.size wp47 wp48 := by rw [hWn]; exact below_al (below_d0 _) _
          have lo7 : w1.heap.size ≤ z7 := by rw [hz7]; exact kb.size
          have bx7 : Box5 wp48 z7 25 (.slice none 0 0) (.slice none 0 0) (.int .i64 0) (.int .i64 0) (.bool false) := by rw [hWn, hz7]; exact World.alloc_heap_new wp47 _
          have ne87 : z8 ≠ z7 := by have h1 := Box5.lt bx8; omega
          refine br_val (i := 4) (d := 7) (oi := ?o49) (v := .pointer (some ⟨z7, 0, none⟩)) (w' := wp48) ?hi49 ?hd49 ?hw49 ?he49 (Hcells1.out _ (below_on kb hb)) ?hc49
          case hi49 => (simp only [List.getElem?_toArray, List.getElem?_cons_succ, List.getElem?_cons_zero]; rfl)
          case hd49 => rfl
          case hw49 => rfl
          case he49 => (rw [hz7, hWn]; go_simp)
          replace kb := below_on kb hb
          clear hHeld
          replace bx8 : Box5 wp48 z8 25 (.slice none 0 0) (.slice none 0 0) (.int .i64 0) (.int .i64 0) (.bool false) := bx8.below hb
          replace g1 : DAt wp48 ⟨fl, qu, q, u, false⟩ A1 n1 c1 B1 m1 q1 := g1.on hb
          replace g2 : DAt wp48 ⟨fl, qu, q, u, false⟩ A2 n2 c2 B2 m2 q2 := g2.on hb
          clear hb hWn hz7
          intro hHeld
          simp only [List.set_cons_succ, List.set_cons_zero]
          refine wpAnyH_ready (rs := [6]) (by kernel_rfl) (by simp) ?_
          obtain ⟨wp49, hWn⟩ : ∃ x, x = put5 wp48 z7 (.slice A1 n1 c1) (.slice B1 m1 q1) (.int .i64 q) (.int .i64 u) (.bool false) := ⟨_, rfl⟩
          have kb2 : Below w1.heap.size w1 wp49 := by rw [hWn]; exact put5_below kb lo7 _ _ _ _ _
          have bx8' : Box5 wp49 z8 25 (.slice none 0 0) (.slice none 0 0) (.int .i64 0) (.int .i64 0) (.bool false) := by rw [hWn]; exact put5_other bx8 (by omega) _ _ _ _ _
          have g1' : DAt wp49 ⟨fl, qu, q, u, false⟩ A1 n1 c1 B1 m1 q1 := by rw [hWn]; exact DAt.put5 bx7 g1
          have g2' : DAt wp49 ⟨fl, qu, q, u, false⟩ A2 n2 c2 B2 m2 q2 := by rw [hWn]; exact DAt.put5 bx7 g2
          have bx7' : Box5 wp49 z7 25 (.slice A1 n1 c1) (.slice B1 m1 q1) (.int .i64 q) (.int .i64 u) (.bool false) := by rw [hWn]; exact put5_box bx7 _ _ _ _ _
          obtain ⟨⟨p0, p1, p2, p3, p4⟩, r0, r1, r2, r3, r4⟩ := box5 bx7
          refine br_store (i := 6) (oi := ?o50) (w' := wp49) ?hi50 ?hd50 ?hw50 ?he50 (Hcells1.out _ kb2) ?hc50
          case hi50 => (simp only [List.getElem?_toArray, List.getElem?_cons_succ, List.getElem?_cons_zero]; rfl)
          case hd50 => rfl
          case hw50 => rfl
          case he50 => (rw [hWn]; go_simp; rfl)
          clear hHeld kb hWn p0 p1 p2 p3 p4 r0 r1 r2 r3 r4 bx7 bx8 g1 g2
          have kb := kb2
          have bx8 := bx8'
          have g1 := g1'
          have g2 := g2'
          have bx7 := bx7'
          clear kb2 bx8' g1' g2' bx7'
          intro hHeld
          refine wpAnyH_ready (rs := [7]) (by kernel_rfl) (by simp) ?_
          obtain ⟨wp50, hWn⟩ : ∃ x, x = put5 wp49 z8 (.slice A2 n2 c2) (.slice B2 m2 q2) (.int .i64 q) (.int .i64 u) (.bool false) := ⟨_, rfl⟩
          have kb2 : Below w1.heap.size w1 wp50 := by rw [hWn]; exact put5_below kb lo8 _ _ _ _ _
          have g1' : DAt wp50 ⟨fl, qu, q, u, false⟩ A1 n1 c1 B1 m1 q1 := by rw [hWn]; exact DAt.put5 bx8 g1
          have g2' : DAt wp50 ⟨fl, qu, q, u, false⟩ A2 n2 c2 B2 m2 q2 := by rw [hWn]; exact DAt.put5 bx8 g2
          have bx7' : Box5 wp50 z7 25 (.slice A1 n1 c1) (.slice B1 m1 q1) (.int .i64 q) (.int .i64 u) (.bool false) := by rw [hWn]; exact put5_other bx7 (by omega) _ _ _ _ _
          have bx8' : Box5 wp50 z8 25 (.slice A2 n2 c2) (.slice B2 m2 q2) (.int .i64 q) (.int .i64 u) (.bool false) := by rw [hWn]; exact put5_box bx8 _ _ _ _ _
          obtain ⟨⟨p0, p1, p2, p3, p4⟩, r0, r1, r2, r3, r4⟩ := box5 bx8
          refine br_store (i := 7) (oi := ?o51) (w' := wp50) ?hi51 ?hd51 ?hw51 ?he51 (Hcells1.out _ kb2) ?hc51
          case hi51 => (simp only [List.getElem?_toArray, List.getElem?_cons_succ, List.getElem?_cons_zero]; rfl)
          case hd51 => rfl
          case hw51 => rfl
          case he51 => (rw [hWn]; go_simp; rfl)
          clear hHeld kb hWn p0 p1 p2 p3 p4 r0 r1 r2 r3 r4 bx8 g1 g2 bx7
          have kb := kb2
          have g1 := g1'
          have g2 := g2'
          have bx7 := bx7'
          have bx8 := bx8'
          clear kb2 g1' g2' bx7' bx8'
          intro hHeld
          refine wpAnyH_done (by kernel_rfl) ?_ _
          go_wp2_with fail
          go_meet
          exact ⟨z7, z8, rfl, rfl, by omega, lo7, lo8, ⟨_, _, _, _, _, _, bx7, g1⟩, ⟨_, _, _, _, _, _, bx8, g2⟩, kb⟩
        obtain ⟨z7, hz7⟩ : ∃ z, z = wp46.heap.size := ⟨_, rfl⟩
        obtain ⟨wp51, hWn⟩ : ∃ x, x = wp46.alloc (.cells #[.slice none 0 0, .slice none 0 0, .int .i64 0, .int .i64 0, .bool false] 25) := ⟨_, rfl⟩
        have hb : Below wp46.heap.size wp46 wp51 := by rw [hWn]; exact below_al (below_d0 _) _
        have lo7 : w1.heap.size ≤ z7 := by rw [hz7]; exact kb.size
        have bx7 : Box5 wp51 z7 25 (.slice none 0 0) (.slice none 0 0) (.int .i64 0) (.int .i64 0) (.bool false) := by rw [hWn, hz7]; exact World.alloc_heap_new wp46 _
        have ne87 : z8 ≠ z7 := by have h1 := Box5.lt bx8; omega
        refine br_val (i := 4) (d := 7) (oi := ?o52) (v := .pointer (some ⟨z7, 0, none⟩)) (w' := wp51) ?hi52 ?hd52 ?hw52 ?he52 (Hcells1.out _ (below_on kb hb)) ?hc52
        case hi52 => (simp only [List.getElem?_toArray, List.getElem?_cons_succ, List.getElem?_cons_zero]; rfl)
        case hd52 => rfl
        case hw52 => rfl
        case he52 => (rw [hz7, hWn]; go_simp)
        replace kb := below_on kb hb
        clear hHeld
        replace bx8 : Box5 wp51 z8 25 (.slice none 0 0) (.slice none 0 0) (.int .i64 0) (.int .i64 0) (.bool false) := bx8.below hb
        replace g1 : DAt wp51 ⟨fl, qu, q, u, false⟩ A1 n1 c1 B1 m1 q1 := g1.on hb
        clear hb hWn hz7
        intro hHeld
        simp only [List.set_cons_succ, List.set_cons_zero]
        refine wpAnyH_ready (rs := [3]) (by kernel_rfl) (by simp) ?_
        refine br_call (i := 3) (d := 47) (oi := ?o53) (f := ?f53) (args := ?a53) ?hi53 ?hd53 ?hw53 ?he53 ?hc53
        case hi53 => (simp only [List.getElem?_toArray, List.getElem?_cons_succ, List.getElem?_cons_zero]; rfl)
        case hd53 => rfl
        case hw53 => rfl
        case he53 => (go_simp; constructor <;> with_reducible rfl)
        with_reducible refine Calls.mono (own_step (Hd1.out _ kb) HR.out (by omega)) ?_
        rintro e wp52 ⟨⟨A2, n2, c2, B2, m2, q2, rfl, g2⟩, hb⟩
        replace bx8 : Box5 wp52 z8 25 (.slice none 0 0) (.slice none 0 0) (.int .i64 0) (.int .i64 0) (.bool false) := bx8.below hb
        replace g1 : DAt wp52 ⟨fl, qu, q, u, false⟩ A1 n1 c1 B1 m1 q1 := g1.on hb
        replace bx7 : Box5 wp52 z7 25 (.slice none 0 0) (.slice none 0 0) (.int .i64 0) (.int .i64 0) (.bool false) := bx7.below hb
        replace kb := below_on kb hb
        clear hHeld hb
        refine ⟨_, rfl, (Hcells1.out _ kb), fun hHeld => ?_⟩
        simp only [List.set_cons_succ, List.set_cons_zero]
        refine wpAnyH_ready (rs := [6]) (by kernel_rfl) (by simp) ?_
        obtain ⟨wp53, hWn⟩ : ∃ x, x = put5 wp52 z7 (.slice A1 n1 c1) (.slice B1 m1 q1) (.int .i64 q) (.int .i64 u) (.bool false) := ⟨_, rfl⟩
        have kb2 : Below w1.heap.size w1 wp53 := by rw [hWn]; exact put5_below kb lo7 _ _ _ _ _
        have bx8' : Box5 wp53 z8 25 (.slice none 0 0) (.slice none 0 0) (.int .i64 0) (.int .i64 0) (.bool false) := by rw [hWn]; exact put5_other bx8 (by omega) _ _ _ _ _
        have g1' : DAt wp53 ⟨fl, qu, q, u, false⟩ A1 n1 c1 B1 m1 q1 := by rw [hWn]; exact DAt.put5 bx7 g1
        have g2' : DAt wp53 ⟨fl, qu, q, u, false⟩ A2 n2 c2 B2 m2 q2 := by rw [hWn]; exact DAt.put5 bx7 g2
        have bx7' : Box5 wp53 z7 25 (.slice A1 n1 c1) (.slice B1 m1 q1) (.int .i64 q) (.int .i64 u) (.bool false) := by rw [hWn]; exact put5_box bx7 _ _ _ _ _
        obtain ⟨⟨p0, p1, p2, p3, p4⟩, r0, r1, r2, r3, r4⟩ := box5 bx7
        refine br_store (i := 6) (oi := ?o54) (w' := wp53) ?hi54 ?hd54 ?hw54 ?he54 (Hcells1.out _ kb2) ?hc54
        case hi54 => (simp only [List.getElem?_toArray, List.getElem?_cons_succ, List.getElem?_cons_zero]; rfl)
        case hd54 => rfl
        case hw54 => rfl
        case he54 => (rw [hWn]; go_simp; rfl)
        clear hHeld kb hWn p0 p1 p2 p3 p4 r0 r1 r2 r3 r4 bx7 bx8 g1 g2
        have kb := kb2
        have bx8 := bx8'
        have g1 := g1'
        have g2 := g2'
        have bx7 := bx7'
        clear kb2 bx8' g1' g2' bx7'
        intro hHeld
        refine wpAnyH_ready (rs := [7]) (by kernel_rfl) (by simp) ?_
        obtain ⟨wp54, hWn⟩ : ∃ x, x = put5 wp53 z8 (.slice A2 n2 c2) (.slice B2 m2 q2) (.int .i64 q) (.int .i64 u) (.bool false) := ⟨_, rfl⟩
        have kb2 : Below w1.heap.size w1 wp54 := by rw [hWn]; exact put5_below kb lo8 _ _ _ _ _
        have g1' : DAt wp54 ⟨fl, qu, q, u, false⟩ A1 n1 c1 B1 m1 q1 := by rw [hWn]; exact DAt.put5 bx8 g1
        have g2' : DAt wp54 ⟨fl, qu, q, u, false⟩ A2 n2 c2 B2 m2 q2 := by rw [hWn]; exact DAt.put5 bx8 g2
        have bx7' : Box5 wp54 z7 25 (.slice A1 n1 c1) (.slice B1 m1 q1) (.int .i64 q) (.int .i64 u) (.bool false) := by rw [hWn]; exact put5_other bx7 (by omega) _ _ _ _ _
        have bx8' : Box5 wp54 z8 25 (.slice A2 n2 c2) (.slice B2 m2 q2) (.int .i64 q) (.int .i64 u) (.bool false) := by rw [hWn]; exact put5_box bx8 _ _ _ _ _
        obtain ⟨⟨p0, p1, p2, p3, p4⟩, r0, r1, r2, r3, r4⟩ := box5 bx8
        refine br_store (i := 7) (oi := ?o55) (w' := wp54) ?hi55 ?hd55 ?hw55 ?he55 (Hcells1.out _ kb2) ?hc55
        case hi55 => (simp only [List.getElem?_toArray, List.getElem?_cons_succ, List.getElem?_cons_zero]; rfl)
        case hd55 => rfl
        case hw55 => rfl
        case he55 => (rw [hWn]; go_simp; rfl)
        clear hHeld kb hWn p0 p1 p2 p3 p4 r0 r1 r2 r3 r4 bx8 g1 g2 bx7
        have kb := kb2
        have g1 := g1'
        have g2 := g2'
        have bx7 := bx7'
        have bx8 := bx8'
        clear kb2 g1' g2' bx7' bx8'
        intro hHeld
        refine wpAnyH_done (by kernel_rfl) ?_ _
        go_wp2_with fail
        go_meet
        exact ⟨z7, z8, rfl, rfl, by omega, lo7, lo8, ⟨_, _, _, _, _, _, bx7, g1⟩, ⟨_, _, _, _, _, _, bx8, g2⟩, kb⟩
      obtain ⟨z7, hz7⟩ : ∃ z, z = wp45.heap.size := ⟨_, rfl⟩
      obtain ⟨wp55, hWn⟩ : ∃ x, x = wp45.alloc (.cells #[.slice none 0 0, .slice none 0 0, .int .i64 0, .int .i64 0, .bool false] 25) := ⟨_, rfl⟩
      have hb : Below wp45.heap.size wp45 wp55 := by rw [hWn]; exact below_al (below_d0 _) _
      have lo7 : w1.heap.size ≤ z7 := by rw [hz7]; exact kb.size
      have bx7 : Box5 wp55 z7 25 (.slice none 0 0) (.slice none 0 0) (.int .i64 0) (.int .i64 0) (.bool false) := by rw [hWn, hz7]; exact World.alloc_heap_new wp45 _
      have ne87 : z8 ≠ z7 := by have h1 := Box5.lt bx8; omega
      refine br_val (i := 4) (d := 7) (oi := ?o56) (v := .pointer (some ⟨z7, 0, none⟩)) (w' := wp55) ?hi56 ?hd56 ?hw56 ?he56 (Hcells1.out _ (below_on kb hb)) ?hc56
      case hi56 => (simp only [List.getElem?_toArray, List.getElem?_cons_succ, List.getElem?_cons_zero]; rfl)
      case hd56 => rfl
      case hw56 => rfl
      case he56 => (rw [hz7, hWn]; go_simp)
      replace kb := below_on kb hb
      clear hHeld
      replace bx8 : Box5 wp55 z8 25 (.slice none 0 0) (.slice none 0 0) (.int .i64 0) (.int .i64 0) (.bool false) := bx8.below hb
      clear hb hWn hz7
      intro hHeld
      simp only [List.set_cons_succ, List.set_cons_zero]
      refine wpAnyH_ready (rs := [1]) (by kernel_rfl) (by simp) ?_
      refine br_call (i := 1) (d := 45) (oi := ?o57) (f := ?f57) (args := ?a57) ?hi57 ?hd57 ?hw57 ?he57 ?hc57
      case hi57 => (simp only [List.getElem?_toArray, List.getElem?_cons_succ, List.getElem?_cons_zero]; rfl)
      case hd57 => rfl
      case hw57 => rfl
      case he57 => (go_simp; constructor <;> with_reducible rfl)
      with_reducible refine Calls.mono (own_step (Hd1.out _ kb) HR.out (by omega)) ?_
      rintro e wp56 ⟨⟨A1, n1, c1, B1, m1, q1, rfl, g1⟩, hb⟩
      replace bx8 : Box5 wp56 z8 25 (.slice none 0 0) (.slice none 0 0) (.int .i64 0) (.int .i64 0) (.bool false) := bx8.below hb
      replace bx7 : Box5 wp56 z7 25 (.slice none 0 0) (.slice none 0 0) (.int .i64 0) (.int .i64 0) (.bool false) := bx7.below hb
      replace kb := below_on kb hb
      clear hHeld hb
      refine ⟨_, rfl, (Hcells1.out _ kb), fun hHeld => ?_⟩
      simp only [List.set_cons_succ, List.set_cons_zero]
      refine wpAnyH_ready (rs := [3]) (by kernel_rfl) (by simp) ?_
      refine br_call (i := 3) (d := 47) (oi := ?o58) (f := ?f58) (args := ?a58) ?hi58 ?hd58 ?hw58 ?he58 ?hc58
      case hi58 => (simp only [List.getElem?_toArray, List.getElem?_cons_succ, List.getElem?_cons_zero]; rfl)
      case hd58 => rfl
      case hw58 => rfl
      case he58 => (go_simp; constructor <;> with_reducible rfl)
      with_reducible refine Calls.mono (own_step (Hd1.out _ kb) HR.out (by omega)) ?_
      rintro e wp57 ⟨⟨A2, n2, c2, B2, m2, q2, rfl, g2⟩, hb⟩
      replace bx8 : Box5 wp57 z8 25 (.slice none 0 0) (.slice none 0 0) (.int .i64 0) (.int .i64 0) (.bool false) := bx8.below hb
      replace bx7 : Box5 wp57 z7 25 (.slice none 0 0) (.slice none 0 0) (.int .i64 0) (.int .i64 0) (.bool false) := bx7.below hb
      replace g1 : DAt wp57 ⟨fl, qu, q, u, false⟩ A1 n1 c1 B1 m1 q1 := g1.on hb
      replace kb := below_on kb hb
      clear hHeld hb
      refine ⟨_, rfl, (Hcells1.out _ kb), fun hHeld => ?_⟩
      simp only [List.set_cons_succ, List.set_cons_zero]
      refine wpAnyH_ready (rs := [6]) (by kernel_rfl) (by simp) ?_
      obtain ⟨wp58, hWn⟩ : ∃ x, x = put5 wp57 z7 (.slice A1 n1 c1) (.slice B1 m1 q1) (.int .i64 q) (.int .i64 u) (.bool false) := ⟨_, rfl⟩
      have kb2 : Below w1.heap.size w1 wp58 := by rw [hWn]; exact put5_below kb lo7 _ _ _ _ _
      have bx8' : Box5 wp58 z8 25 (.slice none 0 0) (.slice none 0 0) (.int .i64 0) (.int .i64 0) (.bool false) := by rw [hWn]; exact put5_other bx8 (by omega) _ _ _ _ _
      have g1' : DAt wp58 ⟨fl, qu, q, u, false⟩ A1 n1 c1 B1 m1 q1 := by rw [hWn]; exact DAt.put5 bx7 g1
      have g2' : DAt wp58 ⟨fl, qu, q, u, false⟩ A2 n2 c2 B2 m2 q2 := by rw [hWn]; exact DAt.put5 bx7 g2
      have bx7' : Box5 wp58 z7 25 (.slice A1 n1 c1) (.slice B1 m1 q1) (.int .i64 q) (.int .i64 u) (.bool false) := by rw [hWn]; exact put5_box bx7 _ _ _ _ _
      obtain ⟨⟨p0, p1, p2, p3, p4⟩, r0, r1, r2, r3, r4⟩ := box5 bx7
      refine br_store (i := 6) (oi := ?o59) (w' := wp58) ?hi59 ?hd59 ?hw59 ?he59 (Hcells1.out _ kb2) ?hc59
      case hi59 => (simp only [List.getElem?_toArray, List.getElem?_cons_succ, List.getElem?_cons_zero]; rfl)
      case hd59 => rfl
      case hw59 => rfl
      case he59 => (rw [hWn]; go_simp; rfl)
      clear hHeld kb hWn p0 p1 p2 p3 p4 r0 r1 r2 r3 r4 bx7 bx8 g1 g2
      have kb := kb2
      have bx8 := bx8'
      have g1 := g1'
      have g2 := g2'
      have bx7 := bx7'
      clear kb2 bx8' g1' g2' bx7'
      intro hHeld
      refine wpAnyH_ready (rs := [7]) (by kernel_rfl) (by simp) ?_
      obtain ⟨wp59, hWn⟩ : ∃ x, x = put5 wp58 z8 (.slice A2 n2 c2) (.slice B2 m2 q2) (.int .i64 q) (.int .i64 u) (.bool false) := ⟨_, rfl⟩
      have kb2 : Below w1.heap.size w1 wp59 := by rw [hWn]; exact put5_below kb lo8 _ _ _ _ _
      have g1' : DAt wp59 ⟨fl, qu, q, u, false⟩ A1 n1 c1 B1 m1 q1 := by rw [hWn]; exact DAt.put5 bx8 g1
      have g2' : DAt wp59 ⟨fl, qu, q, u, false⟩ A2 n2 c2 B2 m2 q2 := by rw [hWn]; exact DAt.put5 bx8 g2
      have bx7' : Box5 wp59 z7 25 (.slice A1 n1 c1) (.slice B1 m1 q1) (.int .i64 q) (.int .i64 u) (.bool false) := by rw [hWn]; exact put5_other bx7 (by omega) _ _ _ _ _
      have bx8' : Box5 wp59 z8 25 (.slice A2 n2 c2) (.slice B2 m2 q2) (.int .i64 q) (.int .i64 u) (.bool false) := by rw [hWn]; exact put5_box bx8 _ _ _ _ _
      obtain ⟨⟨p0, p1, p2, p3, p4⟩, r0, r1, r2, r3, r4⟩ := box5 bx8
      refine br_store (i := 7) (oi := ?o60) (w' := wp59) ?hi60 ?hd60 ?hw60 ?he60 (Hcells1.out _ kb2) ?hc60
      case hi60 => (simp only [List.getElem?_toArray, List.getElem?_cons_succ, List.getElem?_cons_zero]; rfl)
      case hd60 => rfl
      case hw60 => rfl
      case he60 => (rw [hWn]; go_simp; rfl)
      clear hHeld kb hWn p0 p1 p2 p3 p4 r0 r1 r2 r3 r4 bx8 g1 g2 bx7
      have kb := kb2
      have g1 := g1'
      have g2 := g2'
      have bx7 := bx7'
      have bx8 := bx8'
      clear kb2 g1' g2' bx7' bx8'
      intro hHeld
      refine wpAnyH_done (by kernel_rfl) ?_ _
      go_wp2_with fail
      go_meet
      exact ⟨z7, z8, rfl, rfl, by omega, lo7, lo8, ⟨_, _, _, _, _, _, bx7, g1⟩, ⟨_, _, _, _, _, _, bx8, g2⟩, kb⟩
    case rest =>
        obtain ⟨za, zb, rfl, rfl, hne, hla, hlb, ⟨Aa, na, ca, Ba, ma, ka, xa⟩, ⟨Ab, nb, cb, Bb, mb, kbb, xb⟩, kb⟩ := hcut
        obtain ⟨w2, rfl⟩ : ∃ w2, w2 = wc := ⟨_, rfl⟩
        have hB2 := HB1.out.trans (kb.mono HB1.out.size)
        have hza : w.heap.size ≤ za := Nat.le_trans HB1.out.size hla
        have hzb : w.heap.size ≤ zb := Nat.le_trans HB1.out.size hlb
        have hall := xa.1.lt
        have halb := xb.1.lt
        obtain ⟨⟨k0, k1, k2, k3, k4⟩, s0, s1, s2, s3, s4⟩ := box5 xa.1
        obtain ⟨⟨l0, l1, l2, l3, l4⟩, t0, t1, t2, t3, t4⟩ := box5 xb.1
        go_upto_region 5 with fail
        have xa1 := xa.fused 0
        have xb1 := xb.fused_other xa (Ne.symm hne) 0
        have xa2 := xa1.fused_other xb1 hne f
        have xb2 := xb1.fused f
        obtain ⟨w3, hw3⟩ : ∃ w3, w3 = ((w2.setCell ⟨za, 3, none⟩ (.int .i64 0)).setCell ⟨zb, 3, none⟩ (.int .i64 f)) := ⟨_, rfl⟩
        have hk3 : Below w1.heap.size w1 w3 := by rw [hw3]; exact (kb.setCell (p := ⟨za, 3, none⟩) hla _).setCell (p := ⟨zb, 3, none⟩) hlb _
        rw [← hw3] at xa2 xb2 ⊢
        have HA := Lib.hid (show Holds w3 za ⟨fl, qu, q, 0, false⟩ from ⟨_, _, _, _, _, _, xa2⟩)
        have HZ := Lib.hid (show Holds w3 zb (Dfu ⟨fl, qu, q, 0, false⟩ f) from ⟨_, _, _, _, _, _, by
          have e : Dfu ⟨fl, qu, q, 0, false⟩ f = ⟨fl, qu, q, f, false⟩ := by
            have h0 : decide (f = 0) = false := by simp; omega
            show (⟨fl, qu, q, f, decide (f = 0)⟩ : DiskP) = _
            rw [h0]
          rw [e]
          exact xb2⟩)
        have hr0 : rightP ⟨fl, qu, q, 0, false⟩ = true := by
          have h1 := right_fuse ⟨fl, qu, q, u, false⟩ (f := 0) false (Int.le_refl 0) ((right_iff _).1 ask.out.right).2.2.2.2.1
          exact h1.trans ask.out.right
        have HD := Lib.hid (show Live (60 + 0) ⟨fl, qu, q, 0, false⟩ from ⟨rfl, rfl, hr0, HR.out.files, HR.out.queue, HR.out.fb, HR.out.ob, ⟨HR.out.nms.files, HR.out.nms.queue⟩, (show (0 : Int) ≤ 9223372036854775807 by decide)⟩)
        have HK := Lib.hid hk3
        clear hw3 hk3 hr0 xa1 xb1 xa2 xb2 kb hB2 k0 k1 k2 k3 k4 s0 s1 s2 s3 s4 l0 l1 l2 l3 l4 t0 t1 t2 t3 t4 xa xb HR Hd1 Hcells1 ask hall halb Hn Hu
        go_wp2_with fail
        go_loopw [9, 10] (fun s9 s10 wr => ∃ (j N : Nat) (D : DiskP), j ≤ L ∧ s9 = .int .i64 N ∧ s10 = .int .i64 j ∧ N ≤ j ∧ (N : Int) ≤ f ∧ Hid (Live (60 + j) D) ∧
          Hid (Holds wr za D) ∧ Hid (Holds wr zb (Dfu D (f - N))) ∧ Hid (Below w1.heap.size w1 wr)) (fun _ i _ => L - (intOf i).toNat)
        case atStart =>
          have e : f - ((0 : Nat) : Int) = f := by omega
          have HZ' : Hid (Holds w3 zb (Dfu ⟨fl, qu, q, 0, false⟩ (f - ((0 : Nat) : Int)))) := by rw [e]; exact HZ
          exact ⟨0, 0, _, by omega, rfl, rfl, by omega, by omega, HD, HA, HZ', HK⟩
        case round =>
          clear HA HZ HD HK
          obtain ⟨j, N, D, hj, rfl, rfl, hNj, hNf, HD, HA, HZ, HK⟩ := hrel
          by_cases hlt : j < L
          · have hj2 : (0 : Int) ≤ (j : Int) := by omega
            have hj3 : (j : Int) < (L : Int) := by omega
            have hw1 : IntKind.i64.wrap ((j : Int) + 1) = ((j + 1 : Nat) : Int) := by rw [IntKind.wrap_i64]; omega
            have ho' := Ho1.out _ HK.out
            obtain ⟨b, off, o, rfl, hbl, hoK, o0, o1, o2, o3, hok, hk0, hk1⟩ := ho'.at_ hlt
            have Hnm := Lib.hid (Hon.out o.pure (List.mem_map_of_mem (List.mem_of_getElem? hoK)))
            by_cases hln : (100 : Int) < (o.p.n : Int)
            · have tln : decide ((100 : Int) < (o.p.n : Int)) = true := by simpa using hln
              go_wp2_with fail
              refine (HW.out wr).mono ?_
              rintro e w5 ⟨rfl, hb⟩
              go_wp2_with fail
              go_ret
              exact ⟨rfl, HB1.out.trans ((below_on HK.out hb).mono HB1.out.size)⟩
            have tln : decide ((100 : Int) < (o.p.n : Int)) = false := by simpa using hln
            have hos : o.name.size ≤ maxLen := Hnm.out.1
            have hpn : o.p.n ≤ 1000 := by omega
            have hpn2 : o.p.n ≤ 1048576 := by omega
            have Hpl := Lib.hid (show o.pure.bytes.length = o.p.n from hok.rd.1)
            have Hop := Lib.hid (show ∀ W, Below wr.heap.size wr W → W.cell? ⟨b, off + j * 4, none⟩ = some (.int .u8 o.kind) ∧ W.cell? ⟨b, off + j * 4 + 1, none⟩ = some (.string o.name) ∧ W.cell? ⟨b, off + j * 4 + 2, none⟩ = some (.string o.to) ∧ W.cell? ⟨b, off + j * 4 + 3, none⟩ = some (.slice o.p.A o.p.n o.p.c) from fun W hW =>
              ⟨(cells_below hW hbl).1.trans o0, (cells_below hW hbl).1.trans o1, (cells_below hW hbl).1.trans o2, (cells_below hW hbl).1.trans o3⟩)
            have Hok := Lib.hid (show ∀ W, Below wr.heap.size wr W → o.p.Ok W W.heap.size from fun W hW => hok.on hW hW.size)
            obtain ⟨Aa, na, ca, Ba, ma, ka, xa⟩ := HA.out
            obtain ⟨Ab, nb, cb, Bb, mb, kbb, xb⟩ := HZ.out
            have hza2 := xa.1.lt
            have hzb2 := xb.1.lt
            have Hxa := Lib.hid xa
            have Hxb := Lib.hid xb
            have HDx := Lib.hid (show Run (60 + j) D from HD.out.run)
            have HDz := Lib.hid (show Run (60 + j) (Dfu D (f - N)) from Dfu.run HD.out.run (by omega))
            by_cases hNF : (N : Int) = f
            · subst hNF
              have hzero : (N : Int) - (N : Int) = 0 := by omega
              go_upto_region 12 with fail
              clear HA HZ xa xb hok ho' o0 o1 o2 o3 hoK
              rw [hzero] at Hxb HDz
              have hrz : rightP (Dfu D 0) = true := Dfu.right HD.out.right (Int.le_refl 0)
              have HE := Lib.hid (show doP (Dfu D 0) o.pure = (Dfu D 0, 40) ∧ syncP (Dfu D 0) = (Dfu D 0, 40) from ⟨do_dead hrz rfl, sync_dead hrz rfl⟩)
              have Hzero := Lib.hid hzero
              clear hrz hzero
              have Hcells := Lib.hid (show ∀ W, Below wr.heap.size wr W → Below wr.heap.size wr W ∧ W.cell? ⟨zb, 0, none⟩ = some (.slice Ab nb cb) ∧ W.cell? ⟨zb, 1, none⟩ = some (.slice Bb mb kbb) ∧ W.cell? ⟨zb, 2, none⟩ = some (.int .i64 (Dfu D 0).quota) ∧ W.cell? ⟨zb, 3, none⟩ = some (.int .i64 (Dfu D 0).fuse) ∧ W.cell? ⟨zb, 4, none⟩ = some (.bool (Dfu D 0).dead) ∧ W.cell? ⟨b, off + j * 4, none⟩ = some (.int .u8 o.kind) ∧ W.cell? ⟨b, off + j * 4 + 1, none⟩ = some (.string o.name) ∧ W.cell? ⟨b, off + j * 4 + 2, none⟩ = some (.string o.to) ∧ W.cell? ⟨b, off + j * 4 + 3, none⟩ = some (.slice o.p.A o.p.n o.p.c) from fun W hW => by
                obtain ⟨a0, a1, a2, a3, a4⟩ := (Hxb.out.below hW).cells
                exact ⟨hW, a0, a1, a2, a3, a4, Hop.out W hW⟩)
              go_cut [11, 12] (fun s11 s12 wx => ∃ x, s11 = .pointer (some ⟨x, 0, none⟩) ∧ s12 = .int .i64 40 ∧ wr.heap.size ≤ x ∧ Holds wx x (Dfu D 0) ∧ Below wr.heap.size wr wx)
              case first =>
                refine wp_region_held_drew (S := (fun W => Below wr.heap.size wr W ∧ W.cell? ⟨zb, 0, none⟩ = some (.slice Ab nb cb) ∧ W.cell? ⟨zb, 1, none⟩ = some (.slice Bb mb kbb) ∧ W.cell? ⟨zb, 2, none⟩ = some (.int .i64 (Dfu D 0).quota) ∧ W.cell? ⟨zb, 3, none⟩ = some (.int .i64 (Dfu D 0).fuse) ∧ W.cell? ⟨zb, 4, none⟩ = some (.bool (Dfu D 0).dead) ∧ W.cell? ⟨b, off + j * 4, none⟩ = some (.int .u8 o.kind) ∧ W.cell? ⟨b, off + j * 4 + 1, none⟩ = some (.string o.name) ∧ W.cell? ⟨b, off + j * 4 + 2, none⟩ = some (.string o.to) ∧ W.cell? ⟨b, off + j * 4 + 3, none⟩ = some (.slice o.p.A o.p.n o.p.c))) (by kernel_rfl) (Hcells.out _ (below_dr (below_d0 _))) (fun hHeld => ?_)
                have kb : Below wr.heap.size wr wr.drew := below_dr (below_d0 _)
                obtain ⟨wp1, hW⟩ : ∃ x, x = wr.drew := ⟨_, rfl⟩
                rw [← hW] at kb hHeld ⊢
                clear hW
                refine take_at (i := 0) (d := 69) (oi := ?o61) (v := ?v61) ?hi61 ?hd61 (by kernel_rfl) (by kernel_rfl) (by kernel_rfl) ?hw61 ?hy61 ?hq61 (by assumption) ?r61
                case hi61 => (simp only [List.getElem?_toArray, List.getElem?_cons_zero]; rfl)
                case hd61 => rfl
                case hw61 => rfl
                case hy61 => ((intro w hSw; (try dsimp only at hSw); go_simp) <;> (with_reducible rfl))
                case hq61 => exact fun _ _ _ h => h
                simp only [List.set_cons_succ, List.set_cons_zero]
                refine take_at (i := 1) (d := 70) (oi := ?o62) (v := ?v62) ?hi62 ?hd62 (by kernel_rfl) (by kernel_rfl) (by kernel_rfl) ?hw62 ?hy62 ?hq62 (by assumption) ?r62
                case hi62 => (simp only [List.getElem?_toArray, List.getElem?_cons_succ, List.getElem?_cons_zero]; rfl)
                case hd62 => rfl
                case hw62 => rfl
                case hy62 => ((intro w hSw; (try dsimp only at hSw); go_simp) <;> (with_reducible rfl))
                case hq62 => exact fun _ _ _ h => h
                simp only [List.set_cons_succ, List.set_cons_zero]
                refine take_at (i := 2) (d := 71) (oi := ?o63) (v := ?v63) ?hi63 ?hd63 (by kernel_rfl) (by kernel_rfl) (by kernel_rfl) ?hw63 ?hy63 ?hq63 (by assumption) ?r63
                case hi63 => (simp only [List.getElem?_toArray, List.getElem?_cons_succ, List.getElem?_cons_zero]; rfl)
                case hd63 => rfl
                case hw63 => rfl
                case hy63 => ((intro w hSw; (try dsimp only at hSw); go_simp) <;> (with_reducible rfl))
                case hq63 => exact fun _ _ _ h => h
                simp only [List.set_cons_succ, List.set_cons_zero]
                refine take_at (i := 3) (d := 72) (oi := ?o64) (v := ?v64) ?hi64 ?hd64 (by kernel_rfl) (by kernel_rfl) (by kernel_rfl) ?hw64 ?hy64 ?hq64 (by assumption) ?r64
                case hi64 => (simp only [List.getElem?_toArray, List.getElem?_cons_succ, List.getElem?_cons_zero]; rfl)
                case hd64 => rfl
                case hw64 => rfl
                case hy64 => ((intro w hSw; (try dsimp only at hSw); go_simp) <;> (with_reducible rfl))
                case hq64 => exact fun _ _ _ h => h
                simp only [List.set_cons_succ, List.set_cons_zero]
                refine take_at (i := 4) (d := 73) (oi := ?o65) (v := ?v65) ?hi65 ?hd65 (by kernel_rfl) (by kernel_rfl) (by kernel_rfl) ?hw65 ?hy65 ?hq65 (by assumption) ?r65
                case hi65 => (simp only [List.getElem?_toArray, List.getElem?_cons_succ, List.getElem?_cons_zero]; rfl)
                case hd65 => rfl
                case hw65 => rfl
                case hy65 => ((intro w hSw; (try dsimp only at hSw); go_simp) <;> (with_reducible rfl))
                case hq65 => exact fun _ _ _ h => h
                simp only [List.set_cons_succ, List.set_cons_zero]
                refine wpAnyH_ready (rs := [5, 9]) (by kernel_rfl) (by simp) ?_
                apply two_ready
                · skip
                  refine br_call (i := 5) (d := 74) (oi := ?o66) (f := ?f66) (args := ?a66) ?hi66 ?hd66 ?hw66 ?he66 ?hc66
                  case hi66 => (simp only [List.getElem?_toArray, List.getElem?_cons_succ, List.getElem?_cons_zero]; rfl)
                  case hd66 => rfl
                  case hw66 => rfl
                  case he66 => (go_simp; constructor <;> with_reducible rfl)
                  with_reducible refine Calls.mono (do_step (D' := (Dfu D 0)) (er := 40) o (Hxb.out.below kb).dat HDz.out (by omega) (Hok.out _ kb) ⟨hk0, hk1⟩ hpn2 hos HE.out.1) ?_
                  rintro e wp2 ⟨⟨A4, n4, c4, B4, m4, q4, rfl, g4⟩, hb⟩
                  replace kb := below_on kb hb
                  clear hHeld hb
                  refine ⟨_, rfl, (Hcells.out _ kb), fun hHeld => ?_⟩
                  simp only [List.set_cons_succ, List.set_cons_zero]
                  refine take_at (i := 6) (d := 68) (oi := ?o67) (v := ?v67) ?hi67 ?hd67 (by kernel_rfl) (by kernel_rfl) (by kernel_rfl) ?hw67 ?hy67 ?hq67 (by assumption) ?r67
                  case hi67 => (simp only [List.getElem?_toArray, List.getElem?_cons_succ, List.getElem?_cons_zero]; rfl)
                  case hd67 => rfl
                  case hw67 => rfl
                  case hy67 => ((intro w hSw; (try dsimp only at hSw); go_simp) <;> (with_reducible rfl))
                  case hq67 => exact fun _ _ _ h => h
                  simp only [List.set_cons_succ, List.set_cons_zero]
                  refine take_at (i := 7) (d := 75) (oi := ?o68) (v := ?v68) ?hi68 ?hd68 (by kernel_rfl) (by kernel_rfl) (by kernel_rfl) ?hw68 ?hy68 ?hq68 (by assumption) ?r68
                  case hi68 => (simp only [List.getElem?_toArray, List.getElem?_cons_succ, List.getElem?_cons_zero]; rfl)
                  case hd68 => rfl
                  case hw68 => rfl
                  case hy68 => ((intro w hSw; (try dsimp only at hSw); go_simp) <;> (with_reducible rfl))
                  case hq68 => exact fun _ _ _ h => h
                  simp only [List.set_cons_succ, List.set_cons_zero]
                  refine take_at (i := 8) (d := 76) (oi := ?o69) (v := ?v69) ?hi69 ?hd69 (by kernel_rfl) (by kernel_rfl) (by kernel_rfl) ?hw69 ?hy69 ?hq69 (by assumption) ?r69
                  case hi69 => (simp only [List.getElem?_toArray, List.getElem?_cons_succ, List.getElem?_cons_zero]; rfl)
                  case hd69 => rfl
                  case hw69 => rfl
                  case hy69 => ((intro w hSw; (try dsimp only at hSw); go_simp) <;> (with_reducible rfl))
                  case hq69 => exact fun _ _ _ h => h
                  simp only [List.set_cons_succ, List.set_cons_zero]
                  refine wpAnyH_ready (rs := [9]) (by kernel_rfl) (by simp) ?_
                  obtain ⟨zx, hzx⟩ : ∃ z, z = wp2.heap.size := ⟨_, rfl⟩
                  obtain ⟨wp3, hWn⟩ : ∃ x, x = wp2.alloc (.cells #[.slice none 0 0, .slice none 0 0, .int .i64 0, .int .i64 0, .bool false] 25) := ⟨_, rfl⟩
                  have hb : Below wp2.heap.size wp2 wp3 := by rw [hWn]; exact below_al (below_d0 _) _
                  have lox : wr.heap.size ≤ zx := by rw [hzx]; exact kb.size
                  have bxx : Box5 wp3 zx 25 (.slice none 0 0) (.slice none 0 0) (.int .i64 0) (.int .i64 0) (.bool false) := by rw [hWn, hzx]; exact World.alloc_heap_new wp2 _
                  refine br_val (i := 9) (d := 11) (oi := ?o70) (v := .pointer (some ⟨zx, 0, none⟩)) (w' := wp3) ?hi70 ?hd70 ?hw70 ?he70 (Hcells.out _ (below_on kb hb)) ?hc70
                  case hi70 => (simp only [List.getElem?_toArray, List.getElem?_cons_succ, List.getElem?_cons_zero]; rfl)
                  case hd70 => rfl
                  case hw70 => rfl
                  case he70 => (rw [hzx, hWn]; go_simp)
                  replace kb := below_on kb hb
                  clear hHeld
                  replace g4 : DAt wp3 (Dfu D 0) A4 n4 c4 B4 m4 q4 := g4.on hb
                  clear hb hWn hzx
                  intro hHeld
                  simp only [List.set_cons_succ, List.set_cons_zero]
                  refine wpAnyH_ready (rs := [10]) (by kernel_rfl) (by simp) ?_
                  obtain ⟨wp4, hWn⟩ : ∃ x, x = put5 wp3 zx (.slice A4 n4 c4) (.slice B4 m4 q4) (.int .i64 (Dfu D 0).quota) (.int .i64 (Dfu D 0).fuse) (.bool (Dfu D 0).dead) := ⟨_, rfl⟩
                  have kb2 : Below wr.heap.size wr wp4 := by rw [hWn]; exact put5_below kb lox _ _ _ _ _
                  have g4' : DAt wp4 (Dfu D 0) A4 n4 c4 B4 m4 q4 := by rw [hWn]; exact DAt.put5 bxx g4
                  have bxx' : Box5 wp4 zx 25 (.slice A4 n4 c4) (.slice B4 m4 q4) (.int .i64 (Dfu D 0).quota) (.int .i64 (Dfu D 0).fuse) (.bool (Dfu D 0).dead) := by rw [hWn]; exact put5_box bxx _ _ _ _ _
                  obtain ⟨⟨p0, p1, p2, p3, p4⟩, r0, r1, r2, r3, r4⟩ := box5 bxx
                  refine br_store (i := 10) (oi := ?o71) (w' := wp4) ?hi71 ?hd71 ?hw71 ?he71 (Hcells.out _ kb2) ?hc71
                  case hi71 => (simp only [List.getElem?_toArray, List.getElem?_cons_succ, List.getElem?_cons_zero]; rfl)
                  case hd71 => rfl
                  case hw71 => rfl
                  case he71 => (rw [hWn]; go_simp; rfl)
                  clear hHeld kb hWn p0 p1 p2 p3 p4 r0 r1 r2 r3 r4 bxx g4
                  have kb := kb2
                  have g4 := g4'
                  have bxx := bxx'
                  clear kb2 g4' bxx'
                  intro hHeld
                  refine take_at (i := 11) (d := 12) (oi := ?o72) (v := ?v72) ?hi72 ?hd72 (by kernel_rfl) (by kernel_rfl) (by kernel_rfl) ?hw72 ?hy72 ?hq72 (by assumption) ?r72
                  case hi72 => (simp only [List.getElem?_toArray, List.getElem?_cons_succ, List.getElem?_cons_zero]; rfl)
                  case hd72 => rfl
                  case hw72 => rfl
                  case hy72 => ((intro w hSw; (try dsimp only at hSw); go_simp) <;> (with_reducible rfl))
                  case hq72 => exact fun _ _ _ h => h
                  simp only [List.set_cons_succ, List.set_cons_zero]
                  refine wpAnyH_done (by kernel_rfl) ?_ _
                  go_wp2_with fail
                  go_meet
                  exact ⟨zx, rfl, rfl, lox, ⟨_, _, _, _, _, _, bxx, g4⟩, kb⟩
                obtain ⟨zx, hzx⟩ : ∃ z, z = wp1.heap.size := ⟨_, rfl⟩
                obtain ⟨wp5, hWn⟩ : ∃ x, x = wp1.alloc (.cells #[.slice none 0 0, .slice none 0 0, .int .i64 0, .int .i64 0, .bool false] 25) := ⟨_, rfl⟩
                have hb : Below wp1.heap.size wp1 wp5 := by rw [hWn]; exact below_al (below_d0 _) _
                have lox : wr.heap.size ≤ zx := by rw [hzx]; exact kb.size
                have bxx : Box5 wp5 zx 25 (.slice none 0 0) (.slice none 0 0) (.int .i64 0) (.int .i64 0) (.bool false) := by rw [hWn, hzx]; exact World.alloc_heap_new wp1 _
                refine br_val (i := 9) (d := 11) (oi := ?o73) (v := .pointer (some ⟨zx, 0, none⟩)) (w' := wp5) ?hi73 ?hd73 ?hw73 ?he73 (Hcells.out _ (below_on kb hb)) ?hc73
                case hi73 => (simp only [List.getElem?_toArray, List.getElem?_cons_succ, List.getElem?_cons_zero]; rfl)
                case hd73 => rfl
                case hw73 => rfl
                case he73 => (rw [hzx, hWn]; go_simp)
                replace kb := below_on kb hb
                clear hHeld
                clear hb hWn hzx
                intro hHeld
                simp only [List.set_cons_succ, List.set_cons_zero]
                refine wpAnyH_ready (rs := [5]) (by kernel_rfl) (by simp) ?_
                refine br_call (i := 5) (d := 74) (oi := ?o74) (f := ?f74) (args := ?a74) ?hi74 ?hd74 ?hw74 ?he74 ?hc74
                case hi74 => (simp only [List.getElem?_toArray, List.getElem?_cons_succ, List.getElem?_cons_zero]; rfl)
                case hd74 => rfl
                case hw74 => rfl
                case he74 => (go_simp; constructor <;> with_reducible rfl)
                with_reducible refine Calls.mono (do_step (D' := (Dfu D 0)) (er := 40) o (Hxb.out.below kb).dat HDz.out (by omega) (Hok.out _ kb) ⟨hk0, hk1⟩ hpn2 hos HE.out.1) ?_
                rintro e wp6 ⟨⟨A4, n4, c4, B4, m4, q4, rfl, g4⟩, hb⟩
                replace bxx : Box5 wp6 zx 25 (.slice none 0 0) (.slice none 0 0) (.int .i64 0) (.int .i64 0) (.bool false) := bxx.below hb
                replace kb := below_on kb hb
                clear hHeld hb
                refine ⟨_, rfl, (Hcells.out _ kb), fun hHeld => ?_⟩
                simp only [List.set_cons_succ, List.set_cons_zero]
                refine take_at (i := 6) (d := 68) (oi := ?o75) (v := ?v75) ?hi75 ?hd75 (by kernel_rfl) (by kernel_rfl) (by kernel_rfl) ?hw75 ?hy75 ?hq75 (by assumption) ?r75
                case hi75 => (simp only [List.getElem?_toArray, List.getElem?_cons_succ, List.getElem?_cons_zero]; rfl)
                case hd75 => rfl
                case hw75 => rfl
                case hy75 => ((intro w hSw; (try dsimp only at hSw); go_simp) <;> (with_reducible rfl))
                case hq75 => exact fun _ _ _ h => h
                simp only [List.set_cons_succ, List.set_cons_zero]
                refine take_at (i := 7) (d := 75) (oi := ?o76) (v := ?v76) ?hi76 ?hd76 (by kernel_rfl) (by kernel_rfl) (by kernel_rfl) ?hw76 ?hy76 ?hq76 (by assumption) ?r76
                case hi76 => (simp only [List.getElem?_toArray, List.getElem?_cons_succ, List.getElem?_cons_zero]; rfl)
                case hd76 => rfl
                case hw76 => rfl
                case hy76 => ((intro w hSw; (try dsimp only at hSw); go_simp) <;> (with_reducible rfl))
                case hq76 => exact fun _ _ _ h => h
                simp only [List.set_cons_succ, List.set_cons_zero]
                refine take_at (i := 8) (d := 76) (oi := ?o77) (v := ?v77) ?hi77 ?hd77 (by kernel_rfl) (by kernel_rfl) (by kernel_rfl) ?hw77 ?hy77 ?hq77 (by assumption) ?r77
                case hi77 => (simp only [List.getElem?_toArray, List.getElem?_cons_succ, List.getElem?_cons_zero]; rfl)
                case hd77 => rfl
                case hw77 => rfl
                case hy77 => ((intro w hSw; (try dsimp only at hSw); go_simp) <;> (with_reducible rfl))
                case hq77 => exact fun _ _ _ h => h
                simp only [List.set_cons_succ, List.set_cons_zero]
                refine wpAnyH_ready (rs := [10]) (by kernel_rfl) (by simp) ?_
                obtain ⟨wp7, hWn⟩ : ∃ x, x = put5 wp6 zx (.slice A4 n4 c4) (.slice B4 m4 q4) (.int .i64 (Dfu D 0).quota) (.int .i64 (Dfu D 0).fuse) (.bool (Dfu D 0).dead) := ⟨_, rfl⟩
                have kb2 : Below wr.heap.size wr wp7 := by rw [hWn]; exact put5_below kb lox _ _ _ _ _
                have g4' : DAt wp7 (Dfu D 0) A4 n4 c4 B4 m4 q4 := by rw [hWn]; exact DAt.put5 bxx g4
                have bxx' : Box5 wp7 zx 25 (.slice A4 n4 c4) (.slice B4 m4 q4) (.int .i64 (Dfu D 0).quota) (.int .i64 (Dfu D 0).fuse) (.bool (Dfu D 0).dead) := by rw [hWn]; exact put5_box bxx _ _ _ _ _
                obtain ⟨⟨p0, p1, p2, p3, p4⟩, r0, r1, r2, r3, r4⟩ := box5 bxx
                refine br_store (i := 10) (oi := ?o78) (w' := wp7) ?hi78 ?hd78 ?hw78 ?he78 (Hcells.out _ kb2) ?hc78
                case hi78 => (simp only [List.getElem?_toArray, List.getElem?_cons_succ, List.getElem?_cons_zero]; rfl)
                case hd78 => rfl
                case hw78 => rfl
                case he78 => (rw [hWn]; go_simp; rfl)
                clear hHeld kb hWn p0 p1 p2 p3 p4 r0 r1 r2 r3 r4 bxx g4
                have kb := kb2
                have g4 := g4'
                have bxx := bxx'
                clear kb2 g4' bxx'
                intro hHeld
                refine take_at (i := 11) (d := 12) (oi := ?o79) (v := ?v79) ?hi79 ?hd79 (by kernel_rfl) (by kernel_rfl) (by kernel_rfl) ?hw79 ?hy79 ?hq79 (by assumption) ?r79
                case hi79 => (simp only [List.getElem?_toArray, List.getElem?_cons_succ, List.getElem?_cons_zero]; rfl)
                case hd79 => rfl
                case hw79 => rfl
                case hy79 => ((intro w hSw; (try dsimp only at hSw); go_simp) <;> (with_reducible rfl))
                case hq79 => exact fun _ _ _ h => h
                simp only [List.set_cons_succ, List.set_cons_zero]
                refine wpAnyH_done (by kernel_rfl) ?_ _
                go_wp2_with fail
                go_meet
                exact ⟨zx, rfl, rfl, lox, ⟨_, _, _, _, _, _, bxx, g4⟩, kb⟩
              case rest =>
                obtain ⟨x, rfl, rfl, hx, ⟨A4, n4, c4, B4, m4, k4, x4⟩, kb4⟩ := hcut
                obtain ⟨w4, rfl⟩ : ∃ w4, w4 = wc := ⟨_, rfl⟩
                have xb4 := Hxb.out.below kb4
                clear Hcells
                obtain ⟨⟨k0, k1, k2, k3, k4⟩, _⟩ := box5 xb4.1
                go_wp2_with fail
                refine (sync_step xb4.2 HDz.out (by omega) HE.out.2).mono ?_
                rintro e w5 ⟨⟨A5, n5, c5, B5, m5, k5, rfl, g5⟩, hb⟩
                replace xb4 := xb4.below hb
                replace x4 := x4.below hb
                have kb5 := below_on kb4 hb
                clear hb k0 k1 k2 k3 k4 kb4
                go_upto_region 14 with fail
                obtain ⟨w6, hw⟩ : ∃ w6, w6 = fresh5 w5 (.slice A5 n5 c5) (.slice B5 m5 k5) (.int .i64 (Dfu D 0).quota) (.int .i64 (Dfu D 0).fuse) (.bool (Dfu D 0).dead) := ⟨_, rfl⟩
                have hb6 : Below w5.heap.size w5 w6 := by rw [hw]; exact fresh5_below _ _ _ _ _ _
                have xb7 := xb4.below hb6
                have x7 := x4.below hb6
                have kb7 := below_on kb5 hb6
                have hw2 : w6 = w5.alloc (.cells #[.slice A5 n5 c5, .slice B5 m5 k5, .int .i64 (Dfu D 0).quota, .int .i64 (Dfu D 0).fuse, .bool (Dfu D 0).dead] 25) := hw
                rw [← hw2]
                clear hw hw2 xb4 x4 kb5 hb6 g5
                obtain ⟨⟨k0, k1, k2, k3, k4⟩, _⟩ := box5 xb7.1
                obtain ⟨⟨l0, l1, l2, l3, l4⟩, _⟩ := box5 x7.1
                go_wp2_with fail
                refine (same_yes xb7.2 x7.2 HDz.out (by omega)).mono ?_
                rintro e w8 ⟨rfl, hb⟩
                replace xb7 := xb7.below hb
                have kb8 := below_on kb7 hb
                clear hb kb7 x7 k0 k1 k2 k3 k4 l0 l1 l2 l3 l4
                obtain ⟨⟨k0, k1, k2, k3, k4⟩, _⟩ := box5 xb7.1
                have k5 : w8.cell? ⟨zb, 4, none⟩ = some (.bool true) := k4
                clear k4
                have HD' : Hid (Live (60 + (j + 1)) D) := Lib.hid ⟨HD.out.fuse, HD.out.dead, HD.out.right, HD.out.run.files, by have := HD.out.run.queue; omega, HD.out.run.fb, HD.out.run.ob, HD.out.run.nms, HD.out.run.fuse⟩
                go_wp2_with fail
                have HZ0 : Holds w8 zb (Dfu D 0) := ⟨_, _, _, _, _, _, Hxb.out.below kb8⟩
                have HZ' : Hid (Holds w8 zb (Dfu D ((N : Int) - (N : Int)))) := by rw [Hzero.out]; exact Lib.hid HZ0
                have HA' : Hid (Holds w8 za D) := Lib.hid ⟨_, _, _, _, _, _, Hxa.out.below kb8⟩
                have HK' : Hid (Below w1.heap.size w1 w8) := Lib.hid (HK.out.trans (kb8.mono HK.out.size))
                refine ⟨⟨j + 1, N, D, by omega, rfl, rfl, by omega, hNf, HD', HA', ?_, HK'⟩, ?_⟩
                · first | exact HZ' | exact Lib.hid HZ0
                · simp only [intOf]
                  omega
            · obtain ⟨D1, er, f', e1, e2, e3, e4, e5, e6⟩ := fuse_round D o.pure (f := f - (N : Int)) HD.out.fuse HD.out.dead HD.out.right (by omega)
              have HR1 := Lib.hid (show Run (60 + j + 1) D1 from HDx.out.step e1 (by rw [Hpl.out]; exact hpn) Hnm.out)
              have hf' : f' ≤ 9223372036854775807 := by omega
              have HR2 := Lib.hid (show Run (60 + j + 1) (Dfu D1 f') from Dfu.run HR1.out hf')
              have HE := Lib.hid (show doP D o.pure = (D1, er) ∧ doP (Dfu D (f - N)) o.pure = (Dfu D1 f', er) ∧ D1.fuse = 0 ∧ D1.dead = false ∧ rightP D1 = true from ⟨e1, e2, e3, e4, e5⟩)
              clear e1 e2 e3 e4 e5
              go_upto_region 16 with fail
              clear HA HZ xa xb hok ho' o0 o1 o2 o3 hoK
              have Hca := Lib.hid (show ∀ W, Below wr.heap.size wr W → Below wr.heap.size wr W ∧ W.cell? ⟨za, 0, none⟩ = some (.slice Aa na ca) ∧ W.cell? ⟨za, 1, none⟩ = some (.slice Ba ma ka) ∧ W.cell? ⟨za, 2, none⟩ = some (.int .i64 D.quota) ∧ W.cell? ⟨za, 3, none⟩ = some (.int .i64 D.fuse) ∧ W.cell? ⟨za, 4, none⟩ = some (.bool D.dead) ∧ W.cell? ⟨b, off + j * 4, none⟩ = some (.int .u8 o.kind) ∧ W.cell? ⟨b, off + j * 4 + 1, none⟩ = some (.string o.name) ∧ W.cell? ⟨b, off + j * 4 + 2, none⟩ = some (.string o.to) ∧ W.cell? ⟨b, off + j * 4 + 3, none⟩ = some (.slice o.p.A o.p.n o.p.c) from fun W hW => by
                obtain ⟨a0, a1, a2, a3, a4⟩ := (Hxa.out.below hW).cells
                exact ⟨hW, a0, a1, a2, a3, a4, Hop.out W hW⟩)
              go_cut [15, 16] (fun s11 s12 wx => ∃ x, s11 = .pointer (some ⟨x, 0, none⟩) ∧ s12 = .int .i64 er ∧ wr.heap.size ≤ x ∧ Holds wx x D1 ∧ Below wr.heap.size wr wx)
              case first =>
                refine wp_region_held_drew (S := (fun W => Below wr.heap.size wr W ∧ W.cell? ⟨za, 0, none⟩ = some (.slice Aa na ca) ∧ W.cell? ⟨za, 1, none⟩ = some (.slice Ba ma ka) ∧ W.cell? ⟨za, 2, none⟩ = some (.int .i64 D.quota) ∧ W.cell? ⟨za, 3, none⟩ = some (.int .i64 D.fuse) ∧ W.cell? ⟨za, 4, none⟩ = some (.bool D.dead) ∧ W.cell? ⟨b, off + j * 4, none⟩ = some (.int .u8 o.kind) ∧ W.cell? ⟨b, off + j * 4 + 1, none⟩ = some (.string o.name) ∧ W.cell? ⟨b, off + j * 4 + 2, none⟩ = some (.string o.to) ∧ W.cell? ⟨b, off + j * 4 + 3, none⟩ = some (.slice o.p.A o.p.n o.p.c))) (by kernel_rfl) (Hca.out _ (below_dr (below_d0 _))) (fun hHeld => ?_)
                have kb : Below wr.heap.size wr wr.drew := below_dr (below_d0 _)
                obtain ⟨wp1, hW⟩ : ∃ x, x = wr.drew := ⟨_, rfl⟩
                rw [← hW] at kb hHeld ⊢
                clear hW
                refine take_at (i := 0) (d := 100) (oi := ?o80) (v := ?v80) ?hi80 ?hd80 (by kernel_rfl) (by kernel_rfl) (by kernel_rfl) ?hw80 ?hy80 ?hq80 (by assumption) ?r80
                case hi80 => (simp only [List.getElem?_toArray, List.getElem?_cons_zero]; rfl)
                case hd80 => rfl
                case hw80 => rfl
                case hy80 => ((intro w hSw; (try dsimp only at hSw); go_simp) <;> (with_reducible rfl))
                case hq80 => exact fun _ _ _ h => h
                simp only [List.set_cons_succ, List.set_cons_zero]
                refine take_at (i := 1) (d := 101) (oi := ?o81) (v := ?v81) ?hi81 ?hd81 (by kernel_rfl) (by kernel_rfl) (by kernel_rfl) ?hw81 ?hy81 ?hq81 (by assumption) ?r81
                case hi81 => (simp only [List.getElem?_toArray, List.getElem?_cons_succ, List.getElem?_cons_zero]; rfl)
                case hd81 => rfl
                case hw81 => rfl
                case hy81 => ((intro w hSw; (try dsimp only at hSw); go_simp) <;> (with_reducible rfl))
                case hq81 => exact fun _ _ _ h => h
                simp only [List.set_cons_succ, List.set_cons_zero]
                refine take_at (i := 2) (d := 102) (oi := ?o82) (v := ?v82) ?hi82 ?hd82 (by kernel_rfl) (by kernel_rfl) (by kernel_rfl) ?hw82 ?hy82 ?hq82 (by assumption) ?r82
                case hi82 => (simp only [List.getElem?_toArray, List.getElem?_cons_succ, List.getElem?_cons_zero]; rfl)
                case hd82 => rfl
                case hw82 => rfl
                case hy82 => ((intro w hSw; (try dsimp only at hSw); go_simp) <;> (with_reducible rfl))
                case hq82 => exact fun _ _ _ h => h
                simp only [List.set_cons_succ, List.set_cons_zero]
                refine take_at (i := 3) (d := 103) (oi := ?o83) (v := ?v83) ?hi83 ?hd83 (by kernel_rfl) (by kernel_rfl) (by kernel_rfl) ?hw83 ?hy83 ?hq83 (by assumption) ?r83
                case hi83 => (simp only [List.getElem?_toArray, List.getElem?_cons_succ, List.getElem?_cons_zero]; rfl)
                case hd83 => rfl
                case hw83 => rfl
                case hy83 => ((intro w hSw; (try dsimp only at hSw); go_simp) <;> (with_reducible rfl))
                case hq83 => exact fun _ _ _ h => h
                simp only [List.set_cons_succ, List.set_cons_zero]
                refine take_at (i := 4) (d := 104) (oi := ?o84) (v := ?v84) ?hi84 ?hd84 (by kernel_rfl) (by kernel_rfl) (by kernel_rfl) ?hw84 ?hy84 ?hq84 (by assumption) ?r84
                case hi84 => (simp only [List.getElem?_toArray, List.getElem?_cons_succ, List.getElem?_cons_zero]; rfl)
                case hd84 => rfl
                case hw84 => rfl
                case hy84 => ((intro w hSw; (try dsimp only at hSw); go_simp) <;> (with_reducible rfl))
                case hq84 => exact fun _ _ _ h => h
                simp only [List.set_cons_succ, List.set_cons_zero]
                refine wpAnyH_ready (rs := [5, 9]) (by kernel_rfl) (by simp) ?_
                apply two_ready
                · skip
                  refine br_call (i := 5) (d := 105) (oi := ?o85) (f := ?f85) (args := ?a85) ?hi85 ?hd85 ?hw85 ?he85 ?hc85
                  case hi85 => (simp only [List.getElem?_toArray, List.getElem?_cons_succ, List.getElem?_cons_zero]; rfl)
                  case hd85 => rfl
                  case hw85 => rfl
                  case he85 => (go_simp; constructor <;> with_reducible rfl)
                  with_reducible refine Calls.mono (do_step (D' := D1) (er := er) o (Hxa.out.below kb).dat HDx.out (by omega) (Hok.out _ kb) ⟨hk0, hk1⟩ hpn2 hos HE.out.1) ?_
                  rintro e wp2 ⟨⟨A4, n4, c4, B4, m4, q4, rfl, g4⟩, hb⟩
                  replace kb := below_on kb hb
                  clear hHeld hb
                  refine ⟨_, rfl, (Hca.out _ kb), fun hHeld => ?_⟩
                  simp only [List.set_cons_succ, List.set_cons_zero]
                  refine take_at (i := 6) (d := 99) (oi := ?o86) (v := ?v86) ?hi86 ?hd86 (by kernel_rfl) (by kernel_rfl) (by kernel_rfl) ?hw86 ?hy86 ?hq86 (by assumption) ?r86
                  case hi86 => (simp only [List.getElem?_toArray, List.getElem?_cons_succ, List.getElem?_cons_zero]; rfl)
                  case hd86 => rfl
                  case hw86 => rfl
                  case hy86 => ((intro w hSw; (try dsimp only at hSw); go_simp) <;> (with_reducible rfl))
                  case hq86 => exact fun _ _ _ h => h
                  simp only [List.set_cons_succ, List.set_cons_zero]
                  refine take_at (i := 7) (d := 106) (oi := ?o87) (v := ?v87) ?hi87 ?hd87 (by kernel_rfl) (by kernel_rfl) (by kernel_rfl) ?hw87 ?hy87 ?hq87 (by assumption) ?r87
                  case hi87 => (simp only [List.getElem?_toArray, List.getElem?_cons_succ, List.getElem?_cons_zero]; rfl)
                  case hd87 => rfl
                  case hw87 => rfl
                  case hy87 => ((intro w hSw; (try dsimp only at hSw); go_simp) <;> (with_reducible rfl))
                  case hq87 => exact fun _ _ _ h => h
                  simp only [List.set_cons_succ, List.set_cons_zero]
                  refine take_at (i := 8) (d := 107) (oi := ?o88) (v := ?v88) ?hi88 ?hd88 (by kernel_rfl) (by kernel_rfl) (by kernel_rfl) ?hw88 ?hy88 ?hq88 (by assumption) ?r88
                  case hi88 => (simp only [List.getElem?_toArray, List.getElem?_cons_succ, List.getElem?_cons_zero]; rfl)
                  case hd88 => rfl
                  case hw88 => rfl
                  case hy88 => ((intro w hSw; (try dsimp only at hSw); go_simp) <;> (with_reducible rfl))
                  case hq88 => exact fun _ _ _ h => h
                  simp only [List.set_cons_succ, List.set_cons_zero]
                  refine wpAnyH_ready (rs := [9]) (by kernel_rfl) (by simp) ?_
                  obtain ⟨zx, hzx⟩ : ∃ z, z = wp2.heap.size := ⟨_, rfl⟩
                  obtain ⟨wp3, hWn⟩ : ∃ x, x = wp2.alloc (.cells #[.slice none 0 0, .slice none 0 0, .int .i64 0, .int .i64 0, .bool false] 25) := ⟨_, rfl⟩
                  have hb : Below wp2.heap.size wp2 wp3 := by rw [hWn]; exact below_al (below_d0 _) _
                  have lox : wr.heap.size ≤ zx := by rw [hzx]; exact kb.size
                  have bxx : Box5 wp3 zx 25 (.slice none 0 0) (.slice none 0 0) (.int .i64 0) (.int .i64 0) (.bool false) := by rw [hWn, hzx]; exact World.alloc_heap_new wp2 _
                  refine br_val (i := 9) (d := 15) (oi := ?o89) (v := .pointer (some ⟨zx, 0, none⟩)) (w' := wp3) ?hi89 ?hd89 ?hw89 ?he89 (Hca.out _ (below_on kb hb)) ?hc89
                  case hi89 => (simp only [List.getElem?_toArray, List.getElem?_cons_succ, List.getElem?_cons_zero]; rfl)
                  case hd89 => rfl
                  case hw89 => rfl
                  case he89 => (rw [hzx, hWn]; go_simp)
                  replace kb := below_on kb hb
                  clear hHeld
                  replace g4 : DAt wp3 D1 A4 n4 c4 B4 m4 q4 := g4.on hb
                  clear hb hWn hzx
                  intro hHeld
                  simp only [List.set_cons_succ, List.set_cons_zero]
                  refine wpAnyH_ready (rs := [10]) (by kernel_rfl) (by simp) ?_
                  obtain ⟨wp4, hWn⟩ : ∃ x, x = put5 wp3 zx (.slice A4 n4 c4) (.slice B4 m4 q4) (.int .i64 D1.quota) (.int .i64 D1.fuse) (.bool D1.dead) := ⟨_, rfl⟩
                  have kb2 : Below wr.heap.size wr wp4 := by rw [hWn]; exact put5_below kb lox _ _ _ _ _
                  have g4' : DAt wp4 D1 A4 n4 c4 B4 m4 q4 := by rw [hWn]; exact DAt.put5 bxx g4
                  have bxx' : Box5 wp4 zx 25 (.slice A4 n4 c4) (.slice B4 m4 q4) (.int .i64 D1.quota) (.int .i64 D1.fuse) (.bool D1.dead) := by rw [hWn]; exact put5_box bxx _ _ _ _ _
                  obtain ⟨⟨p0, p1, p2, p3, p4⟩, r0, r1, r2, r3, r4⟩ := box5 bxx
                  refine br_store (i := 10) (oi := ?o90) (w' := wp4) ?hi90 ?hd90 ?hw90 ?he90 (Hca.out _ kb2) ?hc90
                  case hi90 => (simp only [List.getElem?_toArray, List.getElem?_cons_succ, List.getElem?_cons_zero]; rfl)
                  case hd90 => rfl
                  case hw90 => rfl
                  case he90 => (rw [hWn]; go_simp; rfl)
                  clear hHeld kb hWn p0 p1 p2 p3 p4 r0 r1 r2 r3 r4 bxx g4
                  have kb := kb2
                  have g4 := g4'
                  have bxx := bxx'
                  clear kb2 g4' bxx'
                  intro hHeld
                  refine take_at (i := 11) (d := 16) (oi := ?o91) (v := ?v91) ?hi91 ?hd91 (by kernel_rfl) (by kernel_rfl) (by kernel_rfl) ?hw91 ?hy91 ?hq91 (by assumption) ?r91
                  case hi91 => (simp only [List.getElem?_toArray, List.getElem?_cons_succ, List.getElem?_cons_zero]; rfl)
                  case hd91 => rfl
                  case hw91 => rfl
                  case hy91 => ((intro w hSw; (try dsimp only at hSw); go_simp) <;> (with_reducible rfl))
                  case hq91 => exact fun _ _ _ h => h
                  simp only [List.set_cons_succ, List.set_cons_zero]
                  refine wpAnyH_done (by kernel_rfl) ?_ _
                  go_wp2_with fail
                  go_meet
                  exact ⟨zx, rfl, rfl, lox, ⟨_, _, _, _, _, _, bxx, g4⟩, kb⟩
                obtain ⟨zx, hzx⟩ : ∃ z, z = wp1.heap.size := ⟨_, rfl⟩
                obtain ⟨wp5, hWn⟩ : ∃ x, x = wp1.alloc (.cells #[.slice none 0 0, .slice none 0 0, .int .i64 0, .int .i64 0, .bool false] 25) := ⟨_, rfl⟩
                have hb : Below wp1.heap.size wp1 wp5 := by rw [hWn]; exact below_al (below_d0 _) _
                have lox : wr.heap.size ≤ zx := by rw [hzx]; exact kb.size
                have bxx : Box5 wp5 zx 25 (.slice none 0 0) (.slice none 0 0) (.int .i64 0) (.int .i64 0) (.bool false) := by rw [hWn, hzx]; exact World.alloc_heap_new wp1 _
                refine br_val (i := 9) (d := 15) (oi := ?o92) (v := .pointer (some ⟨zx, 0, none⟩)) (w' := wp5) ?hi92 ?hd92 ?hw92 ?he92 (Hca.out _ (below_on kb hb)) ?hc92
                case hi92 => (simp only [List.getElem?_toArray, List.getElem?_cons_succ, List.getElem?_cons_zero]; rfl)
                case hd92 => rfl
                case hw92 => rfl
                case he92 => (rw [hzx, hWn]; go_simp)
                replace kb := below_on kb hb
                clear hHeld
                clear hb hWn hzx
                intro hHeld
                simp only [List.set_cons_succ, List.set_cons_zero]
                refine wpAnyH_ready (rs := [5]) (by kernel_rfl) (by simp) ?_
                refine br_call (i := 5) (d := 105) (oi := ?o93) (f := ?f93) (args := ?a93) ?hi93 ?hd93 ?hw93 ?he93 ?hc93
                case hi93 => (simp only [List.getElem?_toArray, List.getElem?_cons_succ, List.getElem?_cons_zero]; rfl)
                case hd93 => rfl
                case hw93 => rfl
                case he93 => (go_simp; constructor <;> with_reducible rfl)
                with_reducible refine Calls.mono (do_step (D' := D1) (er := er) o (Hxa.out.below kb).dat HDx.out (by omega) (Hok.out _ kb) ⟨hk0, hk1⟩ hpn2 hos HE.out.1) ?_
                rintro e wp6 ⟨⟨A4, n4, c4, B4, m4, q4, rfl, g4⟩, hb⟩
                replace bxx : Box5 wp6 zx 25 (.slice none 0 0) (.slice none 0 0) (.int .i64 0) (.int .i64 0) (.bool false) := bxx.below hb
                replace kb := below_on kb hb
                clear hHeld hb
                refine ⟨_, rfl, (Hca.out _ kb), fun hHeld => ?_⟩
                simp only [List.set_cons_succ, List.set_cons_zero]
                refine take_at (i := 6) (d := 99) (oi := ?o94) (v := ?v94) ?hi94 ?hd94 (by kernel_rfl) (by kernel_rfl) (by kernel_rfl) ?hw94 ?hy94 ?hq94 (by assumption) ?r94
                case hi94 => (simp only [List.getElem?_toArray, List.getElem?_cons_succ, List.getElem?_cons_zero]; rfl)
                case hd94 => rfl
                case hw94 => rfl
                case hy94 => ((intro w hSw; (try dsimp only at hSw); go_simp) <;> (with_reducible rfl))
                case hq94 => exact fun _ _ _ h => h
                simp only [List.set_cons_succ, List.set_cons_zero]
                refine take_at (i := 7) (d := 106) (oi := ?o95) (v := ?v95) ?hi95 ?hd95 (by kernel_rfl) (by kernel_rfl) (by kernel_rfl) ?hw95 ?hy95 ?hq95 (by assumption) ?r95
                case hi95 => (simp only [List.getElem?_toArray, List.getElem?_cons_succ, List.getElem?_cons_zero]; rfl)
                case hd95 => rfl
                case hw95 => rfl
                case hy95 => ((intro w hSw; (try dsimp only at hSw); go_simp) <;> (with_reducible rfl))
                case hq95 => exact fun _ _ _ h => h
                simp only [List.set_cons_succ, List.set_cons_zero]
                refine take_at (i := 8) (d := 107) (oi := ?o96) (v := ?v96) ?hi96 ?hd96 (by kernel_rfl) (by kernel_rfl) (by kernel_rfl) ?hw96 ?hy96 ?hq96 (by assumption) ?r96
                case hi96 => (simp only [List.getElem?_toArray, List.getElem?_cons_succ, List.getElem?_cons_zero]; rfl)
                case hd96 => rfl
                case hw96 => rfl
                case hy96 => ((intro w hSw; (try dsimp only at hSw); go_simp) <;> (with_reducible rfl))
                case hq96 => exact fun _ _ _ h => h
                simp only [List.set_cons_succ, List.set_cons_zero]
                refine wpAnyH_ready (rs := [10]) (by kernel_rfl) (by simp) ?_
                obtain ⟨wp7, hWn⟩ : ∃ x, x = put5 wp6 zx (.slice A4 n4 c4) (.slice B4 m4 q4) (.int .i64 D1.quota) (.int .i64 D1.fuse) (.bool D1.dead) := ⟨_, rfl⟩
                have kb2 : Below wr.heap.size wr wp7 := by rw [hWn]; exact put5_below kb lox _ _ _ _ _
                have g4' : DAt wp7 D1 A4 n4 c4 B4 m4 q4 := by rw [hWn]; exact DAt.put5 bxx g4
                have bxx' : Box5 wp7 zx 25 (.slice A4 n4 c4) (.slice B4 m4 q4) (.int .i64 D1.quota) (.int .i64 D1.fuse) (.bool D1.dead) := by rw [hWn]; exact put5_box bxx _ _ _ _ _
                obtain ⟨⟨p0, p1, p2, p3, p4⟩, r0, r1, r2, r3, r4⟩ := box5 bxx
                refine br_store (i := 10) (oi := ?o97) (w' := wp7) ?hi97 ?hd97 ?hw97 ?he97 (Hca.out _ kb2) ?hc97
                case hi97 => (simp only [List.getElem?_toArray, List.getElem?_cons_succ, List.getElem?_cons_zero]; rfl)
                case hd97 => rfl
                case hw97 => rfl
                case he97 => (rw [hWn]; go_simp; rfl)
                clear hHeld kb hWn p0 p1 p2 p3 p4 r0 r1 r2 r3 r4 bxx g4
                have kb := kb2
                have g4 := g4'
                have bxx := bxx'
                clear kb2 g4' bxx'
                intro hHeld
                refine take_at (i := 11) (d := 16) (oi := ?o98) (v := ?v98) ?hi98 ?hd98 (by kernel_rfl) (by kernel_rfl) (by kernel_rfl) ?hw98 ?hy98 ?hq98 (by assumption) ?r98
                case hi98 => (simp only [List.getElem?_toArray, List.getElem?_cons_succ, List.getElem?_cons_zero]; rfl)
                case hd98 => rfl
                case hw98 => rfl
                case hy98 => ((intro w hSw; (try dsimp only at hSw); go_simp) <;> (with_reducible rfl))
                case hq98 => exact fun _ _ _ h => h
                simp only [List.set_cons_succ, List.set_cons_zero]
                refine wpAnyH_done (by kernel_rfl) ?_ _
                go_wp2_with fail
                go_meet
                exact ⟨zx, rfl, rfl, lox, ⟨_, _, _, _, _, _, bxx, g4⟩, kb⟩
              case rest =>
                obtain ⟨zX, rfl, rfl, hx, HX, kb4⟩ := hcut
                obtain ⟨w4, rfl⟩ : ∃ w4, w4 = wc := ⟨_, rfl⟩
                have HX := Lib.hid HX
                have Hxb4 := Lib.hid (Hxb.out.below kb4)
                have Hop4 := Lib.hid (show ∀ W, Below w4.heap.size w4 W → W.cell? ⟨b, off + j * 4, none⟩ = some (.int .u8 o.kind) ∧ W.cell? ⟨b, off + j * 4 + 1, none⟩ = some (.string o.name) ∧ W.cell? ⟨b, off + j * 4 + 2, none⟩ = some (.string o.to) ∧ W.cell? ⟨b, off + j * 4 + 3, none⟩ = some (.slice o.p.A o.p.n o.p.c) from fun W hW => Hop.out W (below_on kb4 hW))
                have Hok4 := Lib.hid (show ∀ W, Below w4.heap.size w4 W → o.p.Ok W W.heap.size from fun W hW => Hok.out W (below_on kb4 hW))
                have Hcb := Lib.hid (show ∀ W, Below w4.heap.size w4 W → Below w4.heap.size w4 W ∧ W.cell? ⟨zb, 0, none⟩ = some (.slice Ab nb cb) ∧ W.cell? ⟨zb, 1, none⟩ = some (.slice Bb mb kbb) ∧ W.cell? ⟨zb, 2, none⟩ = some (.int .i64 (Dfu D (f - N)).quota) ∧ W.cell? ⟨zb, 3, none⟩ = some (.int .i64 (Dfu D (f - N)).fuse) ∧ W.cell? ⟨zb, 4, none⟩ = some (.bool (Dfu D (f - N)).dead) ∧ W.cell? ⟨b, off + j * 4, none⟩ = some (.int .u8 o.kind) ∧ W.cell? ⟨b, off + j * 4 + 1, none⟩ = some (.string o.name) ∧ W.cell? ⟨b, off + j * 4 + 2, none⟩ = some (.string o.to) ∧ W.cell? ⟨b, off + j * 4 + 3, none⟩ = some (.slice o.p.A o.p.n o.p.c) from fun W hW => by
                  obtain ⟨a0, a1, a2, a3, a4⟩ := (Hxb4.out.below hW).cells
                  exact ⟨hW, a0, a1, a2, a3, a4, Hop4.out W hW⟩)
                clear Hca
                go_upto_region 17 with fail
                go_cut [17, 18] (fun s11 s12 wx => ∃ x, s11 = .pointer (some ⟨x, 0, none⟩) ∧ s12 = .int .i64 er ∧ w4.heap.size ≤ x ∧ Holds wx x (Dfu D1 f') ∧ Below w4.heap.size w4 wx)
                case first =>
                  refine wp_region_held_drew (S := (fun W => Below w4.heap.size w4 W ∧ W.cell? ⟨zb, 0, none⟩ = some (.slice Ab nb cb) ∧ W.cell? ⟨zb, 1, none⟩ = some (.slice Bb mb kbb) ∧ W.cell? ⟨zb, 2, none⟩ = some (.int .i64 (Dfu D (f - N)).quota) ∧ W.cell? ⟨zb, 3, none⟩ = some (.int .i64 (Dfu D (f - N)).fuse) ∧ W.cell? ⟨zb, 4, none⟩ = some (.bool (Dfu D (f - N)).dead) ∧ W.cell? ⟨b, off + j * 4, none⟩ = some (.int .u8 o.kind) ∧ W.cell? ⟨b, off + j * 4 + 1, none⟩ = some (.string o.name) ∧ W.cell? ⟨b, off + j * 4 + 2, none⟩ = some (.string o.to) ∧ W.cell? ⟨b, off + j * 4 + 3, none⟩ = some (.slice o.p.A o.p.n o.p.c))) (by kernel_rfl) (Hcb.out _ (below_dr (below_d0 _))) (fun hHeld => ?_)
                  have kb : Below w4.heap.size w4 w4.drew := below_dr (below_d0 _)
                  obtain ⟨wp1, hW⟩ : ∃ x, x = w4.drew := ⟨_, rfl⟩
                  rw [← hW] at kb hHeld ⊢
                  clear hW
                  refine take_at (i := 0) (d := 109) (oi := ?o99) (v := ?v99) ?hi99 ?hd99 (by kernel_rfl) (by kernel_rfl) (by kernel_rfl) ?hw99 ?hy99 ?hq99 (by assumption) ?r99
                  case hi99 => (simp only [List.getElem?_toArray, List.getElem?_cons_zero]; rfl)
                  case hd99 => rfl
                  case hw99 => rfl
                  case hy99 => ((intro w hSw; (try dsimp only at hSw); go_simp) <;> (with_reducible rfl))
                  case hq99 => exact fun _ _ _ h => h
                  simp only [List.set_cons_succ, List.set_cons_zero]
                  refine take_at (i := 1) (d := 110) (oi := ?o100) (v := ?v100) ?hi100 ?hd100 (by kernel_rfl) (by kernel_rfl) (by kernel_rfl) ?hw100 ?hy100 ?hq100 (by assumption) ?r100
                  case hi100 => (simp only [List.getElem?_toArray, List.getElem?_cons_succ, List.getElem?_cons_zero]; rfl)
                  case hd100 => rfl
                  case hw100 => rfl
                  case hy100 => ((intro w hSw; (try dsimp only at hSw); go_simp) <;> (with_reducible rfl))
                  case hq100 => exact fun _ _ _ h => h
                  simp only [List.set_cons_succ, List.set_cons_zero]
                  refine take_at (i := 2) (d := 111) (oi := ?o101) (v := ?v101) ?hi101 ?hd101 (by kernel_rfl) (by kernel_rfl) (by kernel_rfl) ?hw101 ?hy101 ?hq101 (by assumption) ?r101
                  case hi101 => (simp only [List.getElem?_toArray, List.getElem?_cons_succ, List.getElem?_cons_zero]; rfl)
                  case hd101 => rfl
                  case hw101 => rfl
                  case hy101 => ((intro w hSw; (try dsimp only at hSw); go_simp) <;> (with_reducible rfl))
                  case hq101 => exact fun _ _ _ h => h
                  simp only [List.set_cons_succ, List.set_cons_zero]
                  refine take_at (i := 3) (d := 112) (oi := ?o102) (v := ?v102) ?hi102 ?hd102 (by kernel_rfl) (by kernel_rfl) (by kernel_rfl) ?hw102 ?hy102 ?hq102 (by assumption) ?r102
                  case hi102 => (simp only [List.getElem?_toArray, List.getElem?_cons_succ, List.getElem?_cons_zero]; rfl)
                  case hd102 => rfl
                  case hw102 => rfl
                  case hy102 => ((intro w hSw; (try dsimp only at hSw); go_simp) <;> (with_reducible rfl))
                  case hq102 => exact fun _ _ _ h => h
                  simp only [List.set_cons_succ, List.set_cons_zero]
                  refine take_at (i := 4) (d := 113) (oi := ?o103) (v := ?v103) ?hi103 ?hd103 (by kernel_rfl) (by kernel_rfl) (by kernel_rfl) ?hw103 ?hy103 ?hq103 (by assumption) ?r103
                  case hi103 => (simp only [List.getElem?_toArray, List.getElem?_cons_succ, List.getElem?_cons_zero]; rfl)
                  case hd103 => rfl
                  case hw103 => rfl
                  case hy103 => ((intro w hSw; (try dsimp only at hSw); go_simp) <;> (with_reducible rfl))
                  case hq103 => exact fun _ _ _ h => h
                  simp only [List.set_cons_succ, List.set_cons_zero]
                  refine wpAnyH_ready (rs := [5, 9]) (by kernel_rfl) (by simp) ?_
                  apply two_ready
                  · skip
                    refine br_call (i := 5) (d := 114) (oi := ?o104) (f := ?f104) (args := ?a104) ?hi104 ?hd104 ?hw104 ?he104 ?hc104
                    case hi104 => (simp only [List.getElem?_toArray, List.getElem?_cons_succ, List.getElem?_cons_zero]; rfl)
                    case hd104 => rfl
                    case hw104 => rfl
                    case he104 => (go_simp; constructor <;> with_reducible rfl)
                    with_reducible refine Calls.mono (do_step (D' := (Dfu D1 f')) (er := er) o (Hxb4.out.below kb).dat HDz.out (by omega) (Hok4.out _ kb) ⟨hk0, hk1⟩ hpn2 hos HE.out.2.1) ?_
                    rintro e wp2 ⟨⟨A4, n4, c4, B4, m4, q4, rfl, g4⟩, hb⟩
                    replace kb := below_on kb hb
                    clear hHeld hb
                    refine ⟨_, rfl, (Hcb.out _ kb), fun hHeld => ?_⟩
                    simp only [List.set_cons_succ, List.set_cons_zero]
                    refine take_at (i := 6) (d := 108) (oi := ?o105) (v := ?v105) ?hi105 ?hd105 (by kernel_rfl) (by kernel_rfl) (by kernel_rfl) ?hw105 ?hy105 ?hq105 (by assumption) ?r105
                    case hi105 => (simp only [List.getElem?_toArray, List.getElem?_cons_succ, List.getElem?_cons_zero]; rfl)
                    case hd105 => rfl
                    case hw105 => rfl
                    case hy105 => ((intro w hSw; (try dsimp only at hSw); go_simp) <;> (with_reducible rfl))
                    case hq105 => exact fun _ _ _ h => h
                    simp only [List.set_cons_succ, List.set_cons_zero]
                    refine take_at (i := 7) (d := 115) (oi := ?o106) (v := ?v106) ?hi106 ?hd106 (by kernel_rfl) (by kernel_rfl) (by kernel_rfl) ?hw106 ?hy106 ?hq106 (by assumption) ?r106
                    case hi106 => (simp only [List.getElem?_toArray, List.getElem?_cons_succ, List.getElem?_cons_zero]; rfl)
                    case hd106 => rfl
                    case hw106 => rfl
                    case hy106 => ((intro w hSw; (try dsimp only at hSw); go_simp) <;> (with_reducible rfl))
                    case hq106 => exact fun _ _ _ h => h
                    simp only [List.set_cons_succ, List.set_cons_zero]
                    refine take_at (i := 8) (d := 116) (oi := ?o107) (v := ?v107) ?hi107 ?hd107 (by kernel_rfl) (by kernel_rfl) (by kernel_rfl) ?hw107 ?hy107 ?hq107 (by assumption) ?r107
                    case hi107 => (simp only [List.getElem?_toArray, List.getElem?_cons_succ, List.getElem?_cons_zero]; rfl)
                    case hd107 => rfl
                    case hw107 => rfl
                    case hy107 => ((intro w hSw; (try dsimp only at hSw); go_simp) <;> (with_reducible rfl))
                    case hq107 => exact fun _ _ _ h => h
                    simp only [List.set_cons_succ, List.set_cons_zero]
                    refine wpAnyH_ready (rs := [9]) (by kernel_rfl) (by simp) ?_
                    obtain ⟨zx, hzx⟩ : ∃ z, z = wp2.heap.size := ⟨_, rfl⟩
                    obtain ⟨wp3, hWn⟩ : ∃ x, x = wp2.alloc (.cells #[.slice none 0 0, .slice none 0 0, .int .i64 0, .int .i64 0, .bool false] 25) := ⟨_, rfl⟩
                    have hb : Below wp2.heap.size wp2 wp3 := by rw [hWn]; exact below_al (below_d0 _) _
                    have lox : w4.heap.size ≤ zx := by rw [hzx]; exact kb.size
                    have bxx : Box5 wp3 zx 25 (.slice none 0 0) (.slice none 0 0) (.int .i64 0) (.int .i64 0) (.bool false) := by rw [hWn, hzx]; exact World.alloc_heap_new wp2 _
                    refine br_val (i := 9) (d := 17) (oi := ?o108) (v := .pointer (some ⟨zx, 0, none⟩)) (w' := wp3) ?hi108 ?hd108 ?hw108 ?he108 (Hcb.out _ (below_on kb hb)) ?hc108
                    case hi108 => (simp only [List.getElem?_toArray, List.getElem?_cons_succ, List.getElem?_cons_zero]; rfl)
                    case hd108 => rfl
                    case hw108 => rfl
                    case he108 => (rw [hzx, hWn]; go_simp)
                    replace kb := below_on kb hb
                    clear hHeld
                    replace g4 : DAt wp3 (Dfu D1 f') A4 n4 c4 B4 m4 q4 := g4.on hb
                    clear hb hWn hzx
                    intro hHeld
                    simp only [List.set_cons_succ, List.set_cons_zero]
                    refine wpAnyH_ready (rs := [10]) (by kernel_rfl) (by simp) ?_
                    obtain ⟨wp4, hWn⟩ : ∃ x, x = put5 wp3 zx (.slice A4 n4 c4) (.slice B4 m4 q4) (.int .i64 (Dfu D1 f').quota) (.int .i64 (Dfu D1 f').fuse) (.bool (Dfu D1 f').dead) := ⟨_, rfl⟩
                    have kb2 : Below w4.heap.size w4 wp4 := by rw [hWn]; exact put5_below kb lox _ _ _ _ _
                    have g4' : DAt wp4 (Dfu D1 f') A4 n4 c4 B4 m4 q4 := by rw [hWn]; exact DAt.put5 bxx g4
                    have bxx' : Box5 wp4 zx 25 (.slice A4 n4 c4) (.slice B4 m4 q4) (.int .i64 (Dfu D1 f').quota) (.int .i64 (Dfu D1 f').fuse) (.bool (Dfu D1 f').dead) := by rw [hWn]; exact put5_box bxx _ _ _ _ _
                    obtain ⟨⟨p0, p1, p2, p3, p4⟩, r0, r1, r2, r3, r4⟩ := box5 bxx
                    refine br_store (i := 10) (oi := ?o109) (w' := wp4) ?hi109 ?hd109 ?hw109 ?he109 (Hcb.out _ kb2) ?hc109
                    case hi109 => (simp only [List.getElem?_toArray, List.getElem?_cons_succ, List.getElem?_cons_zero]; rfl)
                    case hd109 => rfl
                    case hw109 => rfl
                    case he109 => (rw [hWn]; go_simp; rfl)
                    clear hHeld kb hWn p0 p1 p2 p3 p4 r0 r1 r2 r3 r4 bxx g4
                    have kb := kb2
                    have g4 := g4'
                    have bxx := bxx'
                    clear kb2 g4' bxx'
                    intro hHeld
                    refine take_at (i := 11) (d := 18) (oi := ?o110) (v := ?v110) ?hi110 ?hd110 (by kernel_rfl) (by kernel_rfl) (by kernel_rfl) ?hw110 ?hy110 ?hq110 (by assumption) ?r110
                    case hi110 => (simp only [List.getElem?_toArray, List.getElem?_cons_succ, List.getElem?_cons_zero]; rfl)
                    case hd110 => rfl
                    case hw110 => rfl
                    case hy110 => ((intro w hSw; (try dsimp only at hSw); go_simp) <;> (with_reducible rfl))
                    case hq110 => exact fun _ _ _ h => h
                    simp only [List.set_cons_succ, List.set_cons_zero]
                    refine wpAnyH_done (by kernel_rfl) ?_ _
                    go_wp2_with fail
                    go_meet
                    exact ⟨zx, rfl, rfl, lox, ⟨_, _, _, _, _, _, bxx, g4⟩, kb⟩
                  obtain ⟨zx, hzx⟩ : ∃ z, z = wp1.heap.size := ⟨_, rfl⟩
                  obtain ⟨wp5, hWn⟩ : ∃ x, x = wp1.alloc (.cells #[.slice none 0 0, .slice none 0 0, .int .i64 0, .int .i64 0, .bool false] 25) := ⟨_, rfl⟩
                  have hb : Below wp1.heap.size wp1 wp5 := by rw [hWn]; exact below_al (below_d0 _) _
                  have lox : w4.heap.size ≤ zx := by rw [hzx]; exact kb.size
                  have bxx : Box5 wp5 zx 25 (.slice none 0 0) (.slice none 0 0) (.int .i64 0) (.int .i64 0) (.bool false) := by rw [hWn, hzx]; exact World.alloc_heap_new wp1 _
                  refine br_val (i := 9) (d := 17) (oi := ?o111) (v := .pointer (some ⟨zx, 0, none⟩)) (w' := wp5) ?hi111 ?hd111 ?hw111 ?he111 (Hcb.out _ (below_on kb hb)) ?hc111
                  case hi111 => (simp only [List.getElem?_toArray, List.getElem?_cons_succ, List.getElem?_cons_zero]; rfl)
                  case hd111 => rfl
                  case hw111 => rfl
                  case he111 => (rw [hzx, hWn]; go_simp)
                  replace kb := below_on kb hb
                  clear hHeld
                  clear hb hWn hzx
                  intro hHeld
                  simp only [List.set_cons_succ, List.set_cons_zero]
                  refine wpAnyH_ready (rs := [5]) (by kernel_rfl) (by simp) ?_
                  refine br_call (i := 5) (d := 114) (oi := ?o112) (f := ?f112) (args := ?a112) ?hi112 ?hd112 ?hw112 ?he112 ?hc112
                  case hi112 => (simp only [List.getElem?_toArray, List.getElem?_cons_succ, List.getElem?_cons_zero]; rfl)
                  case hd112 => rfl
                  case hw112 => rfl
                  case he112 => (go_simp; constructor <;> with_reducible rfl)
                  with_reducible refine Calls.mono (do_step (D' := (Dfu D1 f')) (er := er) o (Hxb4.out.below kb).dat HDz.out (by omega) (Hok4.out _ kb) ⟨hk0, hk1⟩ hpn2 hos HE.out.2.1) ?_
                  rintro e wp6 ⟨⟨A4, n4, c4, B4, m4, q4, rfl, g4⟩, hb⟩
                  replace bxx : Box5 wp6 zx 25 (.slice none 0 0) (.slice none 0 0) (.int .i64 0) (.int .i64 0) (.bool false) := bxx.below hb
                  replace kb := below_on kb hb
                  clear hHeld hb
                  refine ⟨_, rfl, (Hcb.out _ kb), fun hHeld => ?_⟩
                  simp only [List.set_cons_succ, List.set_cons_zero]
                  refine take_at (i := 6) (d := 108) (oi := ?o113) (v := ?v113) ?hi113 ?hd113 (by kernel_rfl) (by kernel_rfl) (by kernel_rfl) ?hw113 ?hy113 ?hq113 (by assumption) ?r113
                  case hi113 => (simp only [List.getElem?_toArray, List.getElem?_cons_succ, List.getElem?_cons_zero]; rfl)
                  case hd113 => rfl
                  case hw113 => rfl
                  case hy113 => ((intro w hSw; (try dsimp only at hSw); go_simp) <;> (with_reducible rfl))
                  case hq113 => exact fun _ _ _ h => h
                  simp only [List.set_cons_succ, List.set_cons_zero]
                  refine take_at (i := 7) (d := 115) (oi := ?o114) (v := ?v114) ?hi114 ?hd114 (by kernel_rfl) (by kernel_rfl) (by kernel_rfl) ?hw114 ?hy114 ?hq114 (by assumption) ?r114
                  case hi114 => (simp only [List.getElem?_toArray, List.getElem?_cons_succ, List.getElem?_cons_zero]; rfl)
                  case hd114 => rfl
                  case hw114 => rfl
                  case hy114 => ((intro w hSw; (try dsimp only at hSw); go_simp) <;> (with_reducible rfl))
                  case hq114 => exact fun _ _ _ h => h
                  simp only [List.set_cons_succ, List.set_cons_zero]
                  refine take_at (i := 8) (d := 116) (oi := ?o115) (v := ?v115) ?hi115 ?hd115 (by kernel_rfl) (by kernel_rfl) (by kernel_rfl) ?hw115 ?hy115 ?hq115 (by assumption) ?r115
                  case hi115 => (simp only [List.getElem?_toArray, List.getElem?_cons_succ, List.getElem?_cons_zero]; rfl)
                  case hd115 => rfl
                  case hw115 => rfl
                  case hy115 => ((intro w hSw; (try dsimp only at hSw); go_simp) <;> (with_reducible rfl))
                  case hq115 => exact fun _ _ _ h => h
                  simp only [List.set_cons_succ, List.set_cons_zero]
                  refine wpAnyH_ready (rs := [10]) (by kernel_rfl) (by simp) ?_
                  obtain ⟨wp7, hWn⟩ : ∃ x, x = put5 wp6 zx (.slice A4 n4 c4) (.slice B4 m4 q4) (.int .i64 (Dfu D1 f').quota) (.int .i64 (Dfu D1 f').fuse) (.bool (Dfu D1 f').dead) := ⟨_, rfl⟩
                  have kb2 : Below w4.heap.size w4 wp7 := by rw [hWn]; exact put5_below kb lox _ _ _ _ _
                  have g4' : DAt wp7 (Dfu D1 f') A4 n4 c4 B4 m4 q4 := by rw [hWn]; exact DAt.put5 bxx g4
                  have bxx' : Box5 wp7 zx 25 (.slice A4 n4 c4) (.slice B4 m4 q4) (.int .i64 (Dfu D1 f').quota) (.int .i64 (Dfu D1 f').fuse) (.bool (Dfu D1 f').dead) := by rw [hWn]; exact put5_box bxx _ _ _ _ _
                  obtain ⟨⟨p0, p1, p2, p3, p4⟩, r0, r1, r2, r3, r4⟩ := box5 bxx
                  refine br_store (i := 10) (oi := ?o116) (w' := wp7) ?hi116 ?hd116 ?hw116 ?he116 (Hcb.out _ kb2) ?hc116
                  case hi116 => (simp only [List.getElem?_toArray, List.getElem?_cons_succ, List.getElem?_cons_zero]; rfl)
                  case hd116 => rfl
                  case hw116 => rfl
                  case he116 => (rw [hWn]; go_simp; rfl)
                  clear hHeld kb hWn p0 p1 p2 p3 p4 r0 r1 r2 r3 r4 bxx g4
                  have kb := kb2
                  have g4 := g4'
                  have bxx := bxx'
                  clear kb2 g4' bxx'
                  intro hHeld
                  refine take_at (i := 11) (d := 18) (oi := ?o117) (v := ?v117) ?hi117 ?hd117 (by kernel_rfl) (by kernel_rfl) (by kernel_rfl) ?hw117 ?hy117 ?hq117 (by assumption) ?r117
                  case hi117 => (simp only [List.getElem?_toArray, List.getElem?_cons_succ, List.getElem?_cons_zero]; rfl)
                  case hd117 => rfl
                  case hw117 => rfl
                  case hy117 => ((intro w hSw; (try dsimp only at hSw); go_simp) <;> (with_reducible rfl))
                  case hq117 => exact fun _ _ _ h => h
                  simp only [List.set_cons_succ, List.set_cons_zero]
                  refine wpAnyH_done (by kernel_rfl) ?_ _
                  go_wp2_with fail
                  go_meet
                  exact ⟨zx, rfl, rfl, lox, ⟨_, _, _, _, _, _, bxx, g4⟩, kb⟩
                case rest =>
                  obtain ⟨zY, rfl, rfl, hy, ⟨AY, nY, cY, BY, mY, kY, xY⟩, kb5⟩ := hcut
                  obtain ⟨w5, rfl⟩ : ∃ w5, w5 = wc := ⟨_, rfl⟩
                  obtain ⟨AX, nX, cX, BX, mX, kX, xX⟩ := HX.out.below kb5
                  have hX4 : zX < w4.heap.size := by
                    obtain ⟨_, _, _, _, _, _, x0⟩ := HX.out
                    exact x0.1.lt
                  have HxX := Lib.hid xX
                  have HxY := Lib.hid xY
                  have kb5' := Lib.hid (below_on kb4 kb5)
                  clear Hcb HX xX xY
                  have Hcx := Lib.hid (show ∀ W, Below w5.heap.size w5 W → Below w5.heap.size w5 W ∧ W.cell? ⟨zX, 0, none⟩ = some (.slice AX nX cX) ∧ W.cell? ⟨zX, 1, none⟩ = some (.slice BX mX kX) ∧ W.cell? ⟨zX, 2, none⟩ = some (.int .i64 D1.quota) ∧ W.cell? ⟨zX, 3, none⟩ = some (.int .i64 D1.fuse) ∧ W.cell? ⟨zX, 4, none⟩ = some (.bool D1.dead) ∧ W.cell? ⟨zY, 0, none⟩ = some (.slice AY nY cY) ∧ W.cell? ⟨zY, 1, none⟩ = some (.slice BY mY kY) ∧ W.cell? ⟨zY, 2, none⟩ = some (.int .i64 (Dfu D1 f').quota) ∧ W.cell? ⟨zY, 3, none⟩ = some (.int .i64 (Dfu D1 f').fuse) ∧ W.cell? ⟨zY, 4, none⟩ = some (.bool (Dfu D1 f').dead) from fun W hW => by
                    obtain ⟨a0, a1, a2, a3, a4⟩ := (HxX.out.below hW).cells
                    exact ⟨hW, a0, a1, a2, a3, a4, (HxY.out.below hW).cells⟩)
                  go_upto_region 18 with fail
                  go_cut [127] (fun s wx => s = .bool false ∧ Below w5.heap.size w5 wx)
                  case first =>
                    refine wp_region_held_drew (S := (fun W => Below w5.heap.size w5 W ∧ W.cell? ⟨zX, 0, none⟩ = some (.slice AX nX cX) ∧ W.cell? ⟨zX, 1, none⟩ = some (.slice BX mX kX) ∧ W.cell? ⟨zX, 2, none⟩ = some (.int .i64 D1.quota) ∧ W.cell? ⟨zX, 3, none⟩ = some (.int .i64 D1.fuse) ∧ W.cell? ⟨zX, 4, none⟩ = some (.bool D1.dead) ∧ W.cell? ⟨zY, 0, none⟩ = some (.slice AY nY cY) ∧ W.cell? ⟨zY, 1, none⟩ = some (.slice BY mY kY) ∧ W.cell? ⟨zY, 2, none⟩ = some (.int .i64 (Dfu D1 f').quota) ∧ W.cell? ⟨zY, 3, none⟩ = some (.int .i64 (Dfu D1 f').fuse) ∧ W.cell? ⟨zY, 4, none⟩ = some (.bool (Dfu D1 f').dead))) (by kernel_rfl) (Hcx.out _ (below_dr (below_d0 _))) (fun hHeld => ?_)
                    refine take_at (i := 0) (d := 117) (oi := ?o118) (v := ?v118) ?hi118 ?hd118 (by kernel_rfl) (by kernel_rfl) (by kernel_rfl) ?hw118 ?hy118 ?hq118 (by assumption) ?r118
                    case hi118 => (simp only [List.getElem?_toArray, List.getElem?_cons_zero]; rfl)
                    case hd118 => rfl
                    case hw118 => rfl
                    case hy118 => ((intro w hSw; (try dsimp only at hSw); go_simp) <;> (with_reducible rfl))
                    case hq118 => exact fun _ _ _ h => h
                    simp only [List.set_cons_succ, List.set_cons_zero]
                    refine take_at (i := 1) (d := 118) (oi := ?o119) (v := ?v119) ?hi119 ?hd119 (by kernel_rfl) (by kernel_rfl) (by kernel_rfl) ?hw119 ?hy119 ?hq119 (by assumption) ?r119
                    case hi119 => (simp only [List.getElem?_toArray, List.getElem?_cons_succ, List.getElem?_cons_zero]; rfl)
                    case hd119 => rfl
                    case hw119 => rfl
                    case hy119 => ((intro w hSw; (try dsimp only at hSw); go_simp) <;> (with_reducible rfl))
                    case hq119 => exact fun _ _ _ h => h
                    simp only [List.set_cons_succ, List.set_cons_zero]
                    refine take_at (i := 2) (d := 119) (oi := ?o120) (v := ?v120) ?hi120 ?hd120 (by kernel_rfl) (by kernel_rfl) (by kernel_rfl) ?hw120 ?hy120 ?hq120 (by assumption) ?r120
                    case hi120 => (simp only [List.getElem?_toArray, List.getElem?_cons_succ, List.getElem?_cons_zero]; rfl)
                    case hd120 => rfl
                    case hw120 => rfl
                    case hy120 => ((intro w hSw; (try dsimp only at hSw); go_simp) <;> (with_reducible rfl))
                    case hq120 => exact fun _ _ _ h => h
                    simp only [List.set_cons_succ, List.set_cons_zero]
                    refine take_at (i := 3) (d := 120) (oi := ?o121) (v := ?v121) ?hi121 ?hd121 (by kernel_rfl) (by kernel_rfl) (by kernel_rfl) ?hw121 ?hy121 ?hq121 (by assumption) ?r121
                    case hi121 => (simp only [List.getElem?_toArray, List.getElem?_cons_succ, List.getElem?_cons_zero]; rfl)
                    case hd121 => rfl
                    case hw121 => rfl
                    case hy121 => ((intro w hSw; (try dsimp only at hSw); go_simp) <;> (with_reducible rfl))
                    case hq121 => exact fun _ _ _ h => h
                    simp only [List.set_cons_succ, List.set_cons_zero]
                    refine take_at (i := 4) (d := 121) (oi := ?o122) (v := ?v122) ?hi122 ?hd122 (by kernel_rfl) (by kernel_rfl) (by kernel_rfl) ?hw122 ?hy122 ?hq122 (by assumption) ?r122
                    case hi122 => (simp only [List.getElem?_toArray, List.getElem?_cons_succ, List.getElem?_cons_zero]; rfl)
                    case hd122 => rfl
                    case hw122 => rfl
                    case hy122 => ((intro w hSw; (try dsimp only at hSw); go_simp) <;> (with_reducible rfl))
                    case hq122 => exact fun _ _ _ h => h
                    simp only [List.set_cons_succ, List.set_cons_zero]
                    refine take_at (i := 6) (d := 123) (oi := ?o123) (v := ?v123) ?hi123 ?hd123 (by kernel_rfl) (by kernel_rfl) (by kernel_rfl) ?hw123 ?hy123 ?hq123 (by assumption) ?r123
                    case hi123 => (simp only [List.getElem?_toArray, List.getElem?_cons_succ, List.getElem?_cons_zero]; rfl)
                    case hd123 => rfl
                    case hw123 => rfl
                    case hy123 => ((intro w hSw; (try dsimp only at hSw); go_simp) <;> (with_reducible rfl))
                    case hq123 => exact fun _ _ _ h => h
                    simp only [List.set_cons_succ, List.set_cons_zero]
                    refine call_at (i := 5) (d := 122) (oi := ?o124) (f := ?f124) (args := ?a124) ?hi124 ?hd124 (by kernel_rfl) ?hw124 ?he124 ?hc124
                    case hi124 => (simp only [List.getElem?_toArray, List.getElem?_cons_succ, List.getElem?_cons_zero]; rfl)
                    case hd124 => rfl
                    case hw124 => rfl
                    case he124 => (go_simp; constructor <;> with_reducible rfl)
                    refine Calls.mono (now_step (HxX.out.below (And.left hHeld)).dat HR1.out (by omega)) ?_
                    rintro e wa ⟨⟨A6, n6, c6, f6, rfl, hc6, r6, p6⟩, hb1⟩
                    have kb := below_on (And.left hHeld) hb1
                    clear hHeld hb1
                    refine ⟨_, rfl, Hcx.out _ kb, fun hHeld => ?_⟩
                    simp only [List.set_cons_succ, List.set_cons_zero]
                    refine call_at (i := 7) (d := 124) (oi := ?o125) (f := ?f125) (args := ?a125) ?hi125 ?hd125 (by kernel_rfl) ?hw125 ?he125 ?hc125
                    case hi125 => (simp only [List.getElem?_toArray, List.getElem?_cons_succ, List.getElem?_cons_zero]; rfl)
                    case hd125 => rfl
                    case hw125 => rfl
                    case he125 => (go_simp; constructor <;> with_reducible rfl)
                    refine Calls.mono (now_step (HxY.out.below (And.left hHeld)).dat HR2.out (by omega)) ?_
                    rintro e wb ⟨⟨A7, n7, c7, f7, rfl, hc7, r7, p7⟩, hb1⟩
                    replace r6 := r6.on hb1 hb1.size
                    have kb := below_on (And.left hHeld) hb1
                    clear hHeld hb1
                    refine ⟨_, rfl, Hcx.out _ kb, fun hHeld => ?_⟩
                    simp only [List.set_cons_succ, List.set_cons_zero]
                    refine call_at (i := 8) (d := 125) (oi := ?o126) (f := ?f126) (args := ?a126) ?hi126 ?hd126 (by kernel_rfl) ?hw126 ?he126 ?hc126
                    case hi126 => (simp only [List.getElem?_toArray, List.getElem?_cons_succ, List.getElem?_cons_zero]; rfl)
                    case hd126 => rfl
                    case hw126 => rfl
                    case he126 => (go_simp; constructor <;> with_reducible rfl)
                    refine Calls.mono (files_yes r6 r7 (by rw [← r6.len]; exact fm_length p6 (HR1.out.small (by omega))) (p6.trans p7.symm)) ?_
                    rintro e wd ⟨rfl, hb1⟩
                    have kb := below_on (And.left hHeld) hb1
                    clear hHeld hb1
                    refine ⟨_, rfl, Hcx.out _ kb, fun hHeld => ?_⟩
                    simp only [List.set_cons_succ, List.set_cons_zero]
                    refine take_at (i := 9) (d := 126) (oi := ?o127) (v := ?v127) ?hi127 ?hd127 (by kernel_rfl) (by kernel_rfl) (by kernel_rfl) ?hw127 ?hy127 ?hq127 (by assumption) ?r127
                    case hi127 => (simp only [List.getElem?_toArray, List.getElem?_cons_succ, List.getElem?_cons_zero]; rfl)
                    case hd127 => rfl
                    case hw127 => rfl
                    case hy127 => ((intro w hSw; (try dsimp only at hSw); go_simp) <;> (with_reducible rfl))
                    case hq127 => exact fun _ _ _ h => h
                    simp only [List.set_cons_succ, List.set_cons_zero]
                    refine take_at (i := 10) (d := 127) (oi := ?o128) (v := ?v128) ?hi128 ?hd128 (by kernel_rfl) (by kernel_rfl) (by kernel_rfl) ?hw128 ?hy128 ?hq128 (by assumption) ?r128
                    case hi128 => (simp only [List.getElem?_toArray, List.getElem?_cons_succ, List.getElem?_cons_zero]; rfl)
                    case hd128 => rfl
                    case hw128 => rfl
                    case hy128 => ((intro w hSw; (try dsimp only at hSw); go_simp) <;> (with_reducible rfl))
                    case hq128 => exact fun _ _ _ h => h
                    simp only [List.set_cons_succ, List.set_cons_zero]
                    refine wpAnyH_done (by kernel_rfl) ?_ _
                    go_wp2_with fail
                    go_meet
                    exact ⟨rfl, And.left hHeld⟩
                  case rest =>
                    obtain ⟨rfl, kb6⟩ := hcut
                    obtain ⟨w6, rfl⟩ : ∃ w6, w6 = wc := ⟨_, rfl⟩
                    clear Hcx
                    have kw6 := Lib.hid (show Below w1.heap.size w1 w6 from HK.out.trans ((kb5'.out.trans (kb6.mono kb5'.out.size)).mono HK.out.size))
                    have xA6 := (Hxa.out.below kb5'.out).below kb6
                    have xB6 := (Hxb.out.below kb5'.out).below kb6
                    have xX6 := HxX.out.below kb6
                    have xY6 := HxY.out.below kb6
                    have hs6 := kb6.size
                    have hs5 := kb5.size
                    have hs4 := kb4.size
                    have Hstep := Lib.hid (show ∃ N' : Nat, N' ≤ j + 1 ∧ (N' : Int) ≤ f ∧ f' = f - (N' : Int) ∧ (er = 0 ∧ N' = N + 1 ∨ er ≠ 0 ∧ N' = N) from by
                      rcases e6 with ⟨a, b⟩ | ⟨a, b⟩
                      · exact ⟨N + 1, by omega, by omega, by omega, .inl ⟨a, rfl⟩⟩
                      · exact ⟨N, by omega, by omega, by omega, .inr ⟨a, rfl⟩⟩)
                    have hw2 : IntKind.i64.wrap ((N : Int) + 1) = ((N + 1 : Nat) : Int) := by rw [IntKind.wrap_i64]; omega
                    obtain ⟨N', hN1, hN2, hN3, hN4⟩ := Hstep.out
                    have hw3 : IntKind.i64.wrap (f - (N' : Int)) = f - (N' : Int) := by rw [IntKind.wrap_i64]; omega
                    have Hxs := Lib.hid (⟨xA6, xB6, xX6, xY6⟩ : _ ∧ _ ∧ _ ∧ _)
                    clear xA6 xB6 xX6 xY6 e6 Hstep kb4 kb5 kb6 Hxa Hxb HxX HxY Hxb4
                    subst hN3
                    rcases hN4 with ⟨h1, h2⟩ | ⟨h1, h2⟩
                    · have hw4 : IntKind.i64.wrap ((N : Int) + 1) = (N' : Int) := by rw [hw2, h2]
                      subst h1
                      clear hw2 h2
                      obtain ⟨⟨bxa, _⟩, ⟨bxb, _⟩, ⟨bxX, gX⟩, ⟨bxY, gY⟩⟩ := Hxs.out
                      clear Hxs
                      have loa := hla
                      have lob := hlb
                      go_upto_region 22 with fail
                      go_cut [9] (fun s9 wx => s9 = .int .i64 (N' : Int) ∧ DBox wx za D1 AX nX cX BX mX kX ∧ DBox wx zb (Dfu D1 (f - (N' : Int))) AY nY cY BY mY kY ∧ Below w1.heap.size w1 wx)
                      case first =>
                          refine wp_region_held_drew (S := (fun W => Below w1.heap.size w1 W ∧ (W.cell? ⟨zX, 0, none⟩ = some (.slice AX nX cX) ∧ W.cell? ⟨zX, 1, none⟩ = some (.slice BX mX kX) ∧ W.cell? ⟨zX, 2, none⟩ = some (.int .i64 D1.quota) ∧ W.cell? ⟨zX, 3, none⟩ = some (.int .i64 D1.fuse) ∧ W.cell? ⟨zX, 4, none⟩ = some (.bool D1.dead)) ∧ W.cell? ⟨zY, 0, none⟩ = some (.slice AY nY cY) ∧ W.cell? ⟨zY, 1, none⟩ = some (.slice BY mY kY) ∧ W.cell? ⟨zY, 2, none⟩ = some (.int .i64 (Dfu D1 (f - (N' : Int))).quota) ∧ W.cell? ⟨zY, 3, none⟩ = some (.int .i64 (Dfu D1 (f - (N' : Int))).fuse) ∧ W.cell? ⟨zY, 4, none⟩ = some (.bool (Dfu D1 (f - (N' : Int))).dead))) (by kernel_rfl) ⟨(below_dr kw6.out), cells5 bxX, cells5 bxY⟩ (fun hHeld => ?_)
                          have kb : Below w1.heap.size w1 w6.drew := below_dr kw6.out
                          replace bxa : Box5 w6.drew za 25 (.slice Aa na ca) (.slice Ba ma ka) (.int .i64 D.quota) (.int .i64 D.fuse) (.bool D.dead) := bxa.below (below_dr (below_d0 _))
                          replace bxb : Box5 w6.drew zb 25 (.slice Ab nb cb) (.slice Bb mb kbb) (.int .i64 (Dfu D (f - (N : Int))).quota) (.int .i64 (Dfu D (f - (N : Int))).fuse) (.bool (Dfu D (f - (N : Int))).dead) := bxb.below (below_dr (below_d0 _))
                          replace bxX : Box5 w6.drew zX 25 (.slice AX nX cX) (.slice BX mX kX) (.int .i64 D1.quota) (.int .i64 D1.fuse) (.bool D1.dead) := bxX.below (below_dr (below_d0 _))
                          replace bxY : Box5 w6.drew zY 25 (.slice AY nY cY) (.slice BY mY kY) (.int .i64 (Dfu D1 (f - (N' : Int))).quota) (.int .i64 (Dfu D1 (f - (N' : Int))).fuse) (.bool (Dfu D1 (f - (N' : Int))).dead) := bxY.below (below_dr (below_d0 _))
                          replace gX : DAt w6.drew D1 AX nX cX BX mX kX := gX.on (below_dr (below_d0 _))
                          replace gY : DAt w6.drew (Dfu D1 (f - (N' : Int))) AY nY cY BY mY kY := gY.on (below_dr (below_d0 _))
                          obtain ⟨wp1, hW⟩ : ∃ x, x = w6.drew := ⟨_, rfl⟩
                          rw [← hW] at kb hHeld bxa bxb bxX bxY gX gY ⊢
                          clear hW
                          refine take_at (i := 0) (d := 132) (oi := ?o129) (v := ?v129) ?hi129 ?hd129 (by kernel_rfl) (by kernel_rfl) (by kernel_rfl) ?hw129 ?hy129 ?hq129 (by assumption) ?r129
                          case hi129 => (simp only [List.getElem?_toArray, List.getElem?_cons_zero]; rfl)
                          case hd129 => rfl
                          case hw129 => rfl
                          case hy129 => ((intro w hSw; (try dsimp only at hSw); go_simp) <;> (with_reducible rfl))
                          case hq129 => exact fun _ _ _ h => h
                          simp only [List.set_cons_succ, List.set_cons_zero]
                          refine take_at (i := 1) (d := 133) (oi := ?o130) (v := ?v130) ?hi130 ?hd130 (by kernel_rfl) (by kernel_rfl) (by kernel_rfl) ?hw130 ?hy130 ?hq130 (by assumption) ?r130
                          case hi130 => (simp only [List.getElem?_toArray, List.getElem?_cons_succ, List.getElem?_cons_zero]; rfl)
                          case hd130 => rfl
                          case hw130 => rfl
                          case hy130 => ((intro w hSw; (try dsimp only at hSw); go_simp) <;> (with_reducible rfl))
                          case hq130 => exact fun _ _ _ h => h
                          simp only [List.set_cons_succ, List.set_cons_zero]
                          refine wpAnyH_ready (rs := [2]) (by kernel_rfl) (by simp) ?_
                          obtain ⟨wp2, hWn⟩ : ∃ x, x = put5 wp1 za (.slice AX nX cX) (.slice BX mX kX) (.int .i64 D1.quota) (.int .i64 D1.fuse) (.bool D1.dead) := ⟨_, rfl⟩
                          have kb2 : Below w1.heap.size w1 wp2 := by rw [hWn]; exact put5_below kb loa _ _ _ _ _
                          have bxb' : Box5 wp2 zb 25 (.slice Ab nb cb) (.slice Bb mb kbb) (.int .i64 (Dfu D (f - (N : Int))).quota) (.int .i64 (Dfu D (f - (N : Int))).fuse) (.bool (Dfu D (f - (N : Int))).dead) := by rw [hWn]; exact put5_other bxb (by omega) _ _ _ _ _
                          have bxX' : Box5 wp2 zX 25 (.slice AX nX cX) (.slice BX mX kX) (.int .i64 D1.quota) (.int .i64 D1.fuse) (.bool D1.dead) := by rw [hWn]; exact put5_other bxX (by omega) _ _ _ _ _
                          have bxY' : Box5 wp2 zY 25 (.slice AY nY cY) (.slice BY mY kY) (.int .i64 (Dfu D1 (f - (N' : Int))).quota) (.int .i64 (Dfu D1 (f - (N' : Int))).fuse) (.bool (Dfu D1 (f - (N' : Int))).dead) := by rw [hWn]; exact put5_other bxY (by omega) _ _ _ _ _
                          have gX' : DAt wp2 D1 AX nX cX BX mX kX := by rw [hWn]; exact DAt.put5 bxa gX
                          have gY' : DAt wp2 (Dfu D1 (f - (N' : Int))) AY nY cY BY mY kY := by rw [hWn]; exact DAt.put5 bxa gY
                          have bxa' : Box5 wp2 za 25 (.slice AX nX cX) (.slice BX mX kX) (.int .i64 D1.quota) (.int .i64 D1.fuse) (.bool D1.dead) := by rw [hWn]; exact put5_box bxa _ _ _ _ _
                          obtain ⟨⟨p0, p1, p2, p3, p4⟩, r0, r1, r2, r3, r4⟩ := box5 bxa
                          refine br_store (i := 2) (oi := ?o131) (w' := wp2) ?hi131 ?hd131 ?hw131 ?he131 ⟨kb2, cells5 bxX', cells5 bxY'⟩ ?hc131
                          case hi131 => (simp only [List.getElem?_toArray, List.getElem?_cons_succ, List.getElem?_cons_zero]; rfl)
                          case hd131 => rfl
                          case hw131 => rfl
                          case he131 => (rw [hWn]; go_simp; rfl)
                          clear hHeld kb hWn p0 p1 p2 p3 p4 r0 r1 r2 r3 r4 bxa bxb bxX bxY gX gY
                          have kb := kb2
                          have bxb := bxb'
                          have bxX := bxX'
                          have bxY := bxY'
                          have gX := gX'
                          have gY := gY'
                          have bxa := bxa'
                          clear kb2 bxb' bxX' bxY' gX' gY' bxa'
                          intro hHeld
                          refine wpAnyH_ready (rs := [3]) (by kernel_rfl) (by simp) ?_
                          obtain ⟨wp3, hWn⟩ : ∃ x, x = put5 wp2 zb (.slice AY nY cY) (.slice BY mY kY) (.int .i64 (Dfu D1 (f - (N' : Int))).quota) (.int .i64 (Dfu D1 (f - (N' : Int))).fuse) (.bool (Dfu D1 (f - (N' : Int))).dead) := ⟨_, rfl⟩
                          have kb2 : Below w1.heap.size w1 wp3 := by rw [hWn]; exact put5_below kb lob _ _ _ _ _
                          have bxX' : Box5 wp3 zX 25 (.slice AX nX cX) (.slice BX mX kX) (.int .i64 D1.quota) (.int .i64 D1.fuse) (.bool D1.dead) := by rw [hWn]; exact put5_other bxX (by omega) _ _ _ _ _
                          have bxY' : Box5 wp3 zY 25 (.slice AY nY cY) (.slice BY mY kY) (.int .i64 (Dfu D1 (f - (N' : Int))).quota) (.int .i64 (Dfu D1 (f - (N' : Int))).fuse) (.bool (Dfu D1 (f - (N' : Int))).dead) := by rw [hWn]; exact put5_other bxY (by omega) _ _ _ _ _
                          have gX' : DAt wp3 D1 AX nX cX BX mX kX := by rw [hWn]; exact DAt.put5 bxb gX
                          have gY' : DAt wp3 (Dfu D1 (f - (N' : Int))) AY nY cY BY mY kY := by rw [hWn]; exact DAt.put5 bxb gY
                          have bxa' : Box5 wp3 za 25 (.slice AX nX cX) (.slice BX mX kX) (.int .i64 D1.quota) (.int .i64 D1.fuse) (.bool D1.dead) := by rw [hWn]; exact put5_other bxa (by omega) _ _ _ _ _
                          have bxb' : Box5 wp3 zb 25 (.slice AY nY cY) (.slice BY mY kY) (.int .i64 (Dfu D1 (f - (N' : Int))).quota) (.int .i64 (Dfu D1 (f - (N' : Int))).fuse) (.bool (Dfu D1 (f - (N' : Int))).dead) := by rw [hWn]; exact put5_box bxb _ _ _ _ _
                          obtain ⟨⟨p0, p1, p2, p3, p4⟩, r0, r1, r2, r3, r4⟩ := box5 bxb
                          refine br_store (i := 3) (oi := ?o132) (w' := wp3) ?hi132 ?hd132 ?hw132 ?he132 ⟨kb2, cells5 bxX', cells5 bxY'⟩ ?hc132
                          case hi132 => (simp only [List.getElem?_toArray, List.getElem?_cons_succ, List.getElem?_cons_zero]; rfl)
                          case hd132 => rfl
                          case hw132 => rfl
                          case he132 => (rw [hWn]; go_simp; rfl)
                          clear hHeld kb hWn p0 p1 p2 p3 p4 r0 r1 r2 r3 r4 bxb bxX bxY gX gY bxa
                          have kb := kb2
                          have bxX := bxX'
                          have bxY := bxY'
                          have gX := gX'
                          have gY := gY'
                          have bxa := bxa'
                          have bxb := bxb'
                          clear kb2 bxX' bxY' gX' gY' bxa' bxb'
                          intro hHeld
                          refine wpAnyH_done (by kernel_rfl) ?_ _
                          go_wp2_with fail
                          go_meet
                          exact ⟨rfl, ⟨bxa, gX⟩, ⟨bxb, gY⟩, kb⟩
                      case rest =>
                        obtain ⟨rfl, ya, yb, kb7⟩ := hcut
                        obtain ⟨w7, rfl⟩ : ∃ w7, w7 = wc := ⟨_, rfl⟩
                        clear bxa bxb bxX bxY gX gY
                        have yb3 : w7.cell? ⟨zb, 3, none⟩ = some (.int .i64 (f - (N' : Int))) := yb.cells.2.2.2.1
                        have Hya := Lib.hid ya
                        have Hyb := Lib.hid yb
                        have HD' := Lib.hid (show Live (60 + (j + 1)) D1 from ⟨HE.out.2.2.1, HE.out.2.2.2.1, HE.out.2.2.2.2, HR1.out⟩)
                        have hm : L - (j + 1) < L - j := by omega
                        by_cases hq : (N' : Int) = f
                        · have yb4 : w7.cell? ⟨zb, 4, none⟩ = some (.bool true) := by
                            have h1 : w7.cell? ⟨zb, 4, none⟩ = some (.bool (decide (f - (N' : Int) = 0))) := yb.cells.2.2.2.2
                            rw [h1, decide_eq_true (by omega)]
                          clear ya yb
                          go_wp2_with fail
                          exact ⟨⟨j + 1, N', D1, by omega, rfl, rfl, by omega, hN2, HD', Lib.hid ⟨_, _, _, _, _, _, Hya.out⟩, Lib.hid ⟨_, _, _, _, _, _, Hyb.out⟩, Lib.hid kb7⟩, by simp only [intOf]; omega⟩
                        · have yb4 : w7.cell? ⟨zb, 4, none⟩ = some (.bool false) := by
                            have h1 : w7.cell? ⟨zb, 4, none⟩ = some (.bool (decide (f - (N' : Int) = 0))) := yb.cells.2.2.2.2
                            rw [h1, decide_eq_false (by omega)]
                          clear ya yb
                          go_wp2_with fail
                          exact ⟨⟨j + 1, N', D1, by omega, rfl, rfl, by omega, hN2, HD', Lib.hid ⟨_, _, _, _, _, _, Hya.out⟩, Lib.hid ⟨_, _, _, _, _, _, Hyb.out⟩, Lib.hid kb7⟩, by simp only [intOf]; omega⟩
                    · subst h2
                      obtain ⟨⟨bxa, _⟩, ⟨bxb, _⟩, ⟨bxX, gX⟩, ⟨bxY, gY⟩⟩ := Hxs.out
                      clear Hxs
                      have loa := hla
                      have lob := hlb
                      go_upto_region 22 with fail
                      go_cut [9] (fun s9 wx => s9 = .int .i64 (N' : Int) ∧ DBox wx za D1 AX nX cX BX mX kX ∧ DBox wx zb (Dfu D1 (f - (N' : Int))) AY nY cY BY mY kY ∧ Below w1.heap.size w1 wx)
                      case first =>
                          refine wp_region_held_drew (S := (fun W => Below w1.heap.size w1 W ∧ (W.cell? ⟨zX, 0, none⟩ = some (.slice AX nX cX) ∧ W.cell? ⟨zX, 1, none⟩ = some (.slice BX mX kX) ∧ W.cell? ⟨zX, 2, none⟩ = some (.int .i64 D1.quota) ∧ W.cell? ⟨zX, 3, none⟩ = some (.int .i64 D1.fuse) ∧ W.cell? ⟨zX, 4, none⟩ = some (.bool D1.dead)) ∧ W.cell? ⟨zY, 0, none⟩ = some (.slice AY nY cY) ∧ W.cell? ⟨zY, 1, none⟩ = some (.slice BY mY kY) ∧ W.cell? ⟨zY, 2, none⟩ = some (.int .i64 (Dfu D1 (f - (N' : Int))).quota) ∧ W.cell? ⟨zY, 3, none⟩ = some (.int .i64 (Dfu D1 (f - (N' : Int))).fuse) ∧ W.cell? ⟨zY, 4, none⟩ = some (.bool (Dfu D1 (f - (N' : Int))).dead))) (by kernel_rfl) ⟨(below_dr kw6.out), cells5 bxX, cells5 bxY⟩ (fun hHeld => ?_)
                          have kb : Below w1.heap.size w1 w6.drew := below_dr kw6.out
                          replace bxa : Box5 w6.drew za 25 (.slice Aa na ca) (.slice Ba ma ka) (.int .i64 D.quota) (.int .i64 D.fuse) (.bool D.dead) := bxa.below (below_dr (below_d0 _))
                          replace bxb : Box5 w6.drew zb 25 (.slice Ab nb cb) (.slice Bb mb kbb) (.int .i64 (Dfu D (f - (N' : Int))).quota) (.int .i64 (Dfu D (f - (N' : Int))).fuse) (.bool (Dfu D (f - (N' : Int))).dead) := bxb.below (below_dr (below_d0 _))
                          replace bxX : Box5 w6.drew zX 25 (.slice AX nX cX) (.slice BX mX kX) (.int .i64 D1.quota) (.int .i64 D1.fuse) (.bool D1.dead) := bxX.below (below_dr (below_d0 _))
                          replace bxY : Box5 w6.drew zY 25 (.slice AY nY cY) (.slice BY mY kY) (.int .i64 (Dfu D1 (f - (N' : Int))).quota) (.int .i64 (Dfu D1 (f - (N' : Int))).fuse) (.bool (Dfu D1 (f - (N' : Int))).dead) := bxY.below (below_dr (below_d0 _))
                          replace gX : DAt w6.drew D1 AX nX cX BX mX kX := gX.on (below_dr (below_d0 _))
                          replace gY : DAt w6.drew (Dfu D1 (f - (N' : Int))) AY nY cY BY mY kY := gY.on (below_dr (below_d0 _))
                          obtain ⟨wp4, hW⟩ : ∃ x, x = w6.drew := ⟨_, rfl⟩
                          rw [← hW] at kb hHeld bxa bxb bxX bxY gX gY ⊢
                          clear hW
                          refine take_at (i := 0) (d := 132) (oi := ?o133) (v := ?v133) ?hi133 ?hd133 (by kernel_rfl) (by kernel_rfl) (by kernel_rfl) ?hw133 ?hy133 ?hq133 (by assumption) ?r133
                          case hi133 => (simp only [List.getElem?_toArray, List.getElem?_cons_zero]; rfl)
                          case hd133 => rfl
                          case hw133 => rfl
                          case hy133 => ((intro w hSw; (try dsimp only at hSw); go_simp) <;> (with_reducible rfl))
                          case hq133 => exact fun _ _ _ h => h
                          simp only [List.set_cons_succ, List.set_cons_zero]
                          refine take_at (i := 1) (d := 133) (oi := ?o134) (v := ?v134) ?hi134 ?hd134 (by kernel_rfl) (by kernel_rfl) (by kernel_rfl) ?hw134 ?hy134 ?hq134 (by assumption) ?r134
                          case hi134 => (simp only [List.getElem?_toArray, List.getElem?_cons_succ, List.getElem?_cons_zero]; rfl)
                          case hd134 => rfl
                          case hw134 => rfl
                          case hy134 => ((intro w hSw; (try dsimp only at hSw); go_simp) <;> (with_reducible rfl))
                          case hq134 => exact fun _ _ _ h => h
                          simp only [List.set_cons_succ, List.set_cons_zero]
                          refine wpAnyH_ready (rs := [2]) (by kernel_rfl) (by simp) ?_
                          obtain ⟨wp5, hWn⟩ : ∃ x, x = put5 wp4 za (.slice AX nX cX) (.slice BX mX kX) (.int .i64 D1.quota) (.int .i64 D1.fuse) (.bool D1.dead) := ⟨_, rfl⟩
                          have kb2 : Below w1.heap.size w1 wp5 := by rw [hWn]; exact put5_below kb loa _ _ _ _ _
                          have bxb' : Box5 wp5 zb 25 (.slice Ab nb cb) (.slice Bb mb kbb) (.int .i64 (Dfu D (f - (N' : Int))).quota) (.int .i64 (Dfu D (f - (N' : Int))).fuse) (.bool (Dfu D (f - (N' : Int))).dead) := by rw [hWn]; exact put5_other bxb (by omega) _ _ _ _ _
                          have bxX' : Box5 wp5 zX 25 (.slice AX nX cX) (.slice BX mX kX) (.int .i64 D1.quota) (.int .i64 D1.fuse) (.bool D1.dead) := by rw [hWn]; exact put5_other bxX (by omega) _ _ _ _ _
                          have bxY' : Box5 wp5 zY 25 (.slice AY nY cY) (.slice BY mY kY) (.int .i64 (Dfu D1 (f - (N' : Int))).quota) (.int .i64 (Dfu D1 (f - (N' : Int))).fuse) (.bool (Dfu D1 (f - (N' : Int))).dead) := by rw [hWn]; exact put5_other bxY (by omega) _ _ _ _ _
                          have gX' : DAt wp5 D1 AX nX cX BX mX kX := by rw [hWn]; exact DAt.put5 bxa gX
                          have gY' : DAt wp5 (Dfu D1 (f - (N' : Int))) AY nY cY BY mY kY := by rw [hWn]; exact DAt.put5 bxa gY
                          have bxa' : Box5 wp5 za 25 (.slice AX nX cX) (.slice BX mX kX) (.int .i64 D1.quota) (.int .i64 D1.fuse) (.bool D1.dead) := by rw [hWn]; exact put5_box bxa _ _ _ _ _
                          obtain ⟨⟨p0, p1, p2, p3, p4⟩, r0, r1, r2, r3, r4⟩ := box5 bxa
                          refine br_store (i := 2) (oi := ?o135) (w' := wp5) ?hi135 ?hd135 ?hw135 ?he135 ⟨kb2, cells5 bxX', cells5 bxY'⟩ ?hc135
                          case hi135 => (simp only [List.getElem?_toArray, List.getElem?_cons_succ, List.getElem?_cons_zero]; rfl)
                          case hd135 => rfl
                          case hw135 => rfl
                          case he135 => (rw [hWn]; go_simp; rfl)
                          clear hHeld kb hWn p0 p1 p2 p3 p4 r0 r1 r2 r3 r4 bxa bxb bxX bxY gX gY
                          have kb := kb2
                          have bxb := bxb'
                          have bxX := bxX'
                          have bxY := bxY'
                          have gX := gX'
                          have gY := gY'
                          have bxa := bxa'
                          clear kb2 bxb' bxX' bxY' gX' gY' bxa'
                          intro hHeld
                          refine wpAnyH_ready (rs := [3]) (by kernel_rfl) (by simp) ?_
                          obtain ⟨wp6, hWn⟩ : ∃ x, x = put5 wp5 zb (.slice AY nY cY) (.slice BY mY kY) (.int .i64 (Dfu D1 (f - (N' : Int))).quota) (.int .i64 (Dfu D1 (f - (N' : Int))).fuse) (.bool (Dfu D1 (f - (N' : Int))).dead) := ⟨_, rfl⟩
                          have kb2 : Below w1.heap.size w1 wp6 := by rw [hWn]; exact put5_below kb lob _ _ _ _ _
                          have bxX' : Box5 wp6 zX 25 (.slice AX nX cX) (.slice BX mX kX) (.int .i64 D1.quota) (.int .i64 D1.fuse) (.bool D1.dead) := by rw [hWn]; exact put5_other bxX (by omega) _ _ _ _ _
                          have bxY' : Box5 wp6 zY 25 (.slice AY nY cY) (.slice BY mY kY) (.int .i64 (Dfu D1 (f - (N' : Int))).quota) (.int .i64 (Dfu D1 (f - (N' : Int))).fuse) (.bool (Dfu D1 (f - (N' : Int))).dead) := by rw [hWn]; exact put5_other bxY (by omega) _ _ _ _ _
                          have gX' : DAt wp6 D1 AX nX cX BX mX kX := by rw [hWn]; exact DAt.put5 bxb gX
                          have gY' : DAt wp6 (Dfu D1 (f - (N' : Int))) AY nY cY BY mY kY := by rw [hWn]; exact DAt.put5 bxb gY
                          have bxa' : Box5 wp6 za 25 (.slice AX nX cX) (.slice BX mX kX) (.int .i64 D1.quota) (.int .i64 D1.fuse) (.bool D1.dead) := by rw [hWn]; exact put5_other bxa (by omega) _ _ _ _ _
                          have bxb' : Box5 wp6 zb 25 (.slice AY nY cY) (.slice BY mY kY) (.int .i64 (Dfu D1 (f - (N' : Int))).quota) (.int .i64 (Dfu D1 (f - (N' : Int))).fuse) (.bool (Dfu D1 (f - (N' : Int))).dead) := by rw [hWn]; exact put5_box bxb _ _ _ _ _
                          obtain ⟨⟨p0, p1, p2, p3, p4⟩, r0, r1, r2, r3, r4⟩ := box5 bxb
                          refine br_store (i := 3) (oi := ?o136) (w' := wp6) ?hi136 ?hd136 ?hw136 ?he136 ⟨kb2, cells5 bxX', cells5 bxY'⟩ ?hc136
                          case hi136 => (simp only [List.getElem?_toArray, List.getElem?_cons_succ, List.getElem?_cons_zero]; rfl)
                          case hd136 => rfl
                          case hw136 => rfl
                          case he136 => (rw [hWn]; go_simp; rfl)
                          clear hHeld kb hWn p0 p1 p2 p3 p4 r0 r1 r2 r3 r4 bxb bxX bxY gX gY bxa
                          have kb := kb2
                          have bxX := bxX'
                          have bxY := bxY'
                          have gX := gX'
                          have gY := gY'
                          have bxa := bxa'
                          have bxb := bxb'
                          clear kb2 bxX' bxY' gX' gY' bxa' bxb'
                          intro hHeld
                          refine wpAnyH_done (by kernel_rfl) ?_ _
                          go_wp2_with fail
                          go_meet
                          exact ⟨rfl, ⟨bxa, gX⟩, ⟨bxb, gY⟩, kb⟩
                      case rest =>
                        obtain ⟨rfl, ya, yb, kb7⟩ := hcut
                        obtain ⟨w7, rfl⟩ : ∃ w7, w7 = wc := ⟨_, rfl⟩
                        clear bxa bxb bxX bxY gX gY
                        have yb3 : w7.cell? ⟨zb, 3, none⟩ = some (.int .i64 (f - (N' : Int))) := yb.cells.2.2.2.1
                        have Hya := Lib.hid ya
                        have Hyb := Lib.hid yb
                        have HD' := Lib.hid (show Live (60 + (j + 1)) D1 from ⟨HE.out.2.2.1, HE.out.2.2.2.1, HE.out.2.2.2.2, HR1.out⟩)
                        have hm : L - (j + 1) < L - j := by omega
                        by_cases hq : (N' : Int) = f
                        · exact absurd hq hNF
                        · have yb4 : w7.cell? ⟨zb, 4, none⟩ = some (.bool false) := by
                            have h1 : w7.cell? ⟨zb, 4, none⟩ = some (.bool (decide (f - (N' : Int) = 0))) := yb.cells.2.2.2.2
                            rw [h1, decide_eq_false (by omega)]
                          clear ya yb
                          go_wp2_with fail
                          exact ⟨⟨j + 1, N', D1, by omega, rfl, rfl, by omega, hN2, HD', Lib.hid ⟨_, _, _, _, _, _, Hya.out⟩, Lib.hid ⟨_, _, _, _, _, _, Hyb.out⟩, Lib.hid kb7⟩, by simp only [intOf]; omega⟩
          · have hje : j = L := by omega
            subst hje
            have HK' := HK.out
            go_wp2_with fail
            refine (HW.out wr).mono ?_
            rintro e w5 ⟨rfl, hb⟩
            go_wp2_with fail
            go_ret
            exact ⟨rfl, HB1.out.trans ((below_on HK' hb).mono HB1.out.size)⟩
end Go.Proofs.Ytmfiopopiikbmaa
