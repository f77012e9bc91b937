/-
  moultref08.fine, moultref08.Block: their contracts.
-/
import Derived.Test.YtlojkbmoaifkaaaPl8
namespace Go.Proofs.Ytlojkbmoaifkaaa
open Go.RowKit
set_option linter.unusedVariables false
set_option linter.unusedSimpArgs false

set_option maxRecDepth 100000 in
set_option maxHeartbeats 1000000 in
theorem fine_any (A : Option Addr) (n c : Nat) (l : List EnP) (w : World) (hl : Es w w.heap.size A n l) (hn : n ≤ 1000000) :
    Calls Try.prog 31 #[.slice A n c] w fun e w' => e = .returned (.bool (allR l)) ∧ Below w.heap.size w w' := by
  have Hl := Lib.hid (⟨hl, hl.len⟩ : _ ∧ _)
  clear hl
  go_enter Try.func31, Try.ntmps31
  go_wp2_with fail
  go_loopw [3] (fun i wr => ∃ k : Nat, k ≤ n ∧ i = .int .i64 k ∧ allR (l.take k) = true ∧ Below w.heap.size w wr) (fun i _ => n - (intOf i).toNat)
  case atStart => exact ⟨0, Nat.zero_le _, rfl, rfl, Below.refl _ _⟩
  obtain ⟨k, hk, rfl, hak, hB⟩ := hrel
  have HB := Lib.hid (⟨hB, hak⟩ : _ ∧ _)
  by_cases hlt : k < n
  · obtain ⟨b, off, e, hAe, hbl, he, c0, c1, c2⟩ := (Hl.out.1.on hB hB.size).at_ hlt
    subst hAe
    have HE := Lib.hid he
    clear hB hak he
    cases hre : rightB e
    · have hno := Lib.hid (allR_no HE.out hre)
      go_wp2_with fail
      refine (rright_any e _).mono ?_
      rintro r w1 ⟨rfl, hb1⟩
      rw [hre]
      have H1 := Lib.hid (HB.out.1.trans (hb1.mono HB.out.1.size))
      clear hb1 c0 c1 c2 hre
      go_wp2_with fail
      go_ret
      exact ⟨ret_bool (by rw [hno.out]), H1.out⟩
    · have Hr := Lib.hid hre
      go_wp2_with fail
      refine (rright_any e _).mono ?_
      rintro r w1 ⟨rfl, hb1⟩
      rw [hre]
      have H1 := Lib.hid (HB.out.1.trans (hb1.mono HB.out.1.size))
      clear hb1 c0 c1 c2 hre
      go_wp2_with fail
      go_roundw
      case rel => exact ⟨k + 1, by omega, by go_num, by rw [take_succ HE.out, allR_append, HB.out.2]; simp [allR, Hr.out], H1.out⟩
      case measure => simp [intOf]; omega
  obtain rfl : n = k := by omega
  have ha : allR l = true := by have h := HB.out.2; rwa [List.take_of_length_le (by rw [Hl.out.2]; exact Nat.le_refl _)] at h
  have Ha := Lib.hid ha
  clear ha hB hak
  go_wp2_with fail
  go_ret
  exact ⟨ret_bool (by rw [Ha.out]), HB.out.1⟩

theorem rchain_one {x y : Nat} {p : Int × Int} {A : Option Addr} {n c : Nat} {l : List Int} (w : World) (g : Nat) (t : TypeId) (hg : g = w.heap.size) (hp : Ga.From x y p) (hr : Rd w w.heap.size .u8 A n l) (hb : Byt l) (hn : n ≤ 140737488355328) :
    Calls Try.prog 32 #[.complex .f64 x y, .slice (some ⟨g, 0, none⟩) 1 1] (w.alloc (.cells #[.slice A n c] t)) fun e w' => Ga.ChainOut (Ga.chainP p l) e ∧ Below w.heap.size w w' := by
  have h := Ga.rchain_any 1 (ps := [⟨A, n, c, l⟩]) _ hp (Rds.made w t [⟨A, n, c, l⟩] hg (fun q hq => by
    obtain rfl := List.mem_singleton.1 hq
    exact ⟨hr, hb, hn⟩)) (by simp)
  rw [flat_cons, flat_nil, List.append_nil] at h
  exact h.mono fun e w' ⟨he, hB⟩ => ⟨he, hB ▸ (Below.refl _ w).alloc (Nat.le_refl _) _⟩

set_option maxRecDepth 100000 in
set_option maxHeartbeats 4000000 in
theorem rblock_any {x y : Nat} {p : Int × Int} (A : Option Addr) (n c : Nat) (l : List EnP) (w : World) (hp : Ga.From x y p) (hl : Es w w.heap.size A n l) (hn : n ≤ 1000000) :
    Calls Try.prog 13 #[.complex .f64 x y, .slice A n c] w (BlkT w p l) := by
  obtain ⟨i0, hi, hz0, hz1, hz2⟩ := info_parts Ga.info_u8
  have Hl := Lib.hid (⟨hl, hl.len, hp⟩ : _ ∧ _ ∧ _)
  clear hl hp
  by_cases h1 : n < 1
  · have t0 : decide ((n : Int) < 1) = true := by simp; omega
    have hno : ¬ GoodC l := fun h => by have := h.1; rw [Hl.out.2.1] at this; omega
    have HN := Lib.hid hno
    clear hno
    go_enter Try.func13, Try.ntmps13
    go_wp2_with fail
    go_ret3
    exact ⟨.inr ⟨HN.out, rfl⟩, Below.refl _ _⟩
  have t0 : decide ((n : Int) < 1) = false := by simp; omega
  have t0' : ¬ ((n : Int) < 1) := by omega
  by_cases h2 : 4 < n
  · have t1 : decide ((4 : Int) < (n : Int)) = true := by simp; omega
    have hno : ¬ GoodC l := fun h => by have := h.2.1; rw [Hl.out.2.1] at this; omega
    have HN := Lib.hid hno
    clear hno
    go_enter Try.func13, Try.ntmps13
    go_wp2_with fail
    go_ret3
    exact ⟨.inr ⟨HN.out, rfl⟩, Below.refl _ _⟩
  have t1 : decide ((4 : Int) < (n : Int)) = false := by simp; omega
  cases ha : allR l
  · have hno : ¬ GoodC l := fun h => by have := h.2.2; rw [ha] at this; cases this
    have HN := Lib.hid hno
    clear hno
    go_enter Try.func13, Try.ntmps13
    go_wp2_with fail
    refine (fine_any A n c l w Hl.out.1 hn).mono ?_
    rintro e w1 ⟨rfl, hb1⟩
    rw [ha]
    go_wp2_with fail
    go_ret3
    exact ⟨.inr ⟨HN.out, rfl⟩, hb1⟩
  have hg : GoodC l := ⟨by rw [Hl.out.2.1]; omega, by rw [Hl.out.2.1]; omega, ha⟩
  have Hg := Lib.hid hg
  go_enter Try.func13, Try.ntmps13
  go_wp2_with fail
  refine (fine_any A n c l w Hl.out.1 hn).mono ?_
  rintro e w1 ⟨rfl, hb1⟩
  rw [ha]
  obtain ⟨w2, hw2⟩ : ∃ x, x = w1.alloc (.cells #[.int .u8 (n : Int)] 5) := ⟨_, rfl⟩
  have own2 : w2.ownsRow w.heap.size 5 1 (.slice (some ⟨w1.heap.size, 0, none⟩) 1 1) 1 ((soFar l 0).map (Value.int .u8)) := by
    have h := own_lit w1 (base := w.heap.size) (g := w1.heap.size) (e := 5) [Value.int .u8 (n : Int)] rfl hb1.size (by simp [maxLen])
    rw [hw2, soFar_zero, Hl.out.2.1]
    exact h
  have hconv : IntKind.u8.wrap (n : Int) = (n : Int) := by rw [IntKind.wrap_u8]; omega
  have B2 : Below w.heap.size w w2 := by rw [hw2]; exact hb1.alloc hb1.size _
  have HS := Lib.hid (⟨hw2, own2, B2⟩ : _ ∧ _ ∧ _)
  clear hg ha hb1 own2 B2 hw2
  go_wp2_with fail
  rw [← HS.out.1]
  go_loopw [7, 8] (fun v i wr => ∃ k m : Nat, k ≤ n ∧ i = .int .i64 k ∧ (soFar l k).length = m ∧ m ≤ 100 ∧ wr.ownsRow w.heap.size 5 1 v m ((soFar l k).map (Value.int .u8)) ∧ Below w.heap.size w wr) (fun _ i _ => n - (intOf i).toNat)
  case atStart => exact ⟨0, 1, Nat.zero_le _, rfl, rfl, by omega, HS.out.2.1, HS.out.2.2⟩
  obtain ⟨k, m, hk, rfl, hm, hm9, hown, hB⟩ := hrel
  by_cases hlt : k < n
  · obtain ⟨b, off, e, hAe, hbl, he, c0, c1, c2⟩ := (Hl.out.1.on hB hB.size).at_ hlt
    subst hAe
    have hre : rightB e = true := List.all_eq_true.1 Hg.out.2.2 e (List.mem_of_getElem? he)
    have hsn := soFar_next he
    obtain ⟨R, hR⟩ : ∃ R, Nu.shortsOf [e.tm, e.kd, e.vl] = R := ⟨_, rfl⟩
    obtain ⟨q, hq⟩ : ∃ q, R.length = q := ⟨_, rfl⟩
    have hq15 : q ≤ 15 := by
      have h5 := Nu.shortsOf_length (right_nums hre)
      rw [show Nu.shortsOf (nums e) = R from hR, hq] at h5
      simp [nums] at h5
      omega
    have hmn : m + q ≤ 100 := by
      have h5 := soFar_length (allR_take Hg.out.2.2 (k + 1))
      rw [hsn, List.length_append, hm, show Nu.shortsOf (nums e) = R from hR, hq, Hl.out.2.1] at h5
      omega
    obtain ⟨A4, c4, rfl, _⟩ := own_slice hown
    have HB := Lib.hid (⟨hown, hB, hm, hsn, hre, hR, hq⟩ : _ ∧ _ ∧ _ ∧ _ ∧ _ ∧ _ ∧ _)
    have HC := Lib.hid (⟨c0, c1, c2⟩ : wr.drew.cell? _ = _ ∧ wr.drew.cell? _ = _ ∧ wr.drew.cell? _ = _)
    have HQ := Lib.hid hq
    clear hown hB hm hsn hre hR hq he
    go_wp2_with fail
    refine wp_region_held_drew (S := (fun W => Below wr.heap.size wr W)) (by kernel_rfl) (below_dr (below_d0 _)) (fun hHeld => ?_)
    refine take_at (i := 0) (d := 36) (oi := ?o1) (v := ?v1) ?hi1 ?hd1 (by kernel_rfl) (by kernel_rfl) (by kernel_rfl) ?hw1 ?hy1 ?hq1 (by assumption) ?r1
    case hi1 => (simp only [List.getElem?_toArray, List.getElem?_cons_zero]; rfl)
    case hd1 => rfl
    case hw1 => rfl
    case hy1 => ((intro w hSw; (try dsimp only at hSw); go_simp) <;> (with_reducible rfl))
    case hq1 => exact fun _ _ _ h => h
    simp only [List.set_cons_succ, List.set_cons_zero]
    refine take_at (i := 1) (d := 37) (oi := ?o2) (v := ?v2) ?hi2 ?hd2 (by kernel_rfl) (by kernel_rfl) (by kernel_rfl) ?hw2 ?hy2 ?hq2 (by assumption) ?r2
    case hi2 => (simp only [List.getElem?_toArray, List.getElem?_cons_succ, List.getElem?_cons_zero]; rfl)
    case hd2 => rfl
    case hw2 => rfl
    case hy2 => ((intro w hSw; (try dsimp only at hSw); go_simp) <;> (with_reducible rfl))
    case hq2 => exact fun _ _ _ h => h
    simp only [List.set_cons_succ, List.set_cons_zero]
    refine take_at (i := 2) (d := 38) (oi := ?o3) (v := ?v3) ?hi3 ?hd3 (by kernel_rfl) (by kernel_rfl) (by kernel_rfl) ?hw3 ?hy3 ?hq3 (by assumption) ?r3
    case hi3 => (simp only [List.getElem?_toArray, List.getElem?_cons_succ, List.getElem?_cons_zero]; rfl)
    case hd3 => rfl
    case hw3 => rfl
    case hy3 => ((intro w hSw; (try dsimp only at hSw); go_simp) <;> (with_reducible rfl))
    case hq3 => exact fun _ _ _ h => h
    simp only [List.set_cons_succ, List.set_cons_zero]
    refine take_at (i := 3) (d := 39) (oi := ?o4) (v := ?v4) ?hi4 ?hd4 (by kernel_rfl) (by kernel_rfl) (by kernel_rfl) ?hw4 ?hy4 ?hq4 (by assumption) ?r4
    case hi4 => (simp only [List.getElem?_toArray, List.getElem?_cons_succ, List.getElem?_cons_zero]; rfl)
    case hd4 => rfl
    case hw4 => rfl
    case hy4 => ((intro w hSw; (try dsimp only at hSw); go_simp) <;> (with_reducible rfl))
    case hq4 => exact fun _ _ _ h => h
    simp only [List.set_cons_succ, List.set_cons_zero]
    refine take_at (i := 4) (d := 40) (oi := ?o5) (v := ?v5) ?hi5 ?hd5 (by kernel_rfl) (by kernel_rfl) (by kernel_rfl) ?hw5 ?hy5 ?hq5 (by assumption) ?r5
    case hi5 => (simp only [List.getElem?_toArray, List.getElem?_cons_succ, List.getElem?_cons_zero]; rfl)
    case hd5 => rfl
    case hw5 => rfl
    case hy5 => ((intro w hSw; (try dsimp only at hSw); have k0 := (Below.cell hSw (p := ⟨b, off + k * 3, none⟩) hbl).trans c0; have k1 := (Below.cell hSw (p := ⟨b, off + k * 3 + 1, none⟩) hbl).trans c1; have k2 := (Below.cell hSw (p := ⟨b, off + k * 3 + 2, none⟩) hbl).trans c2; clear hSw; go_simp) <;> (with_reducible rfl))
    case hq5 => exact fun _ _ _ h => h
    simp only [List.set_cons_succ, List.set_cons_zero]
    refine take_at (i := 5) (d := 41) (oi := ?o6) (v := ?v6) ?hi6 ?hd6 (by kernel_rfl) (by kernel_rfl) (by kernel_rfl) ?hw6 ?hy6 ?hq6 (by assumption) ?r6
    case hi6 => (simp only [List.getElem?_toArray, List.getElem?_cons_succ, List.getElem?_cons_zero]; rfl)
    case hd6 => rfl
    case hw6 => rfl
    case hy6 => ((intro w hSw; (try dsimp only at hSw); go_simp) <;> (with_reducible rfl))
    case hq6 => exact fun _ _ _ h => h
    simp only [List.set_cons_succ, List.set_cons_zero]
    refine take_at (i := 6) (d := 42) (oi := ?o7) (v := ?v7) ?hi7 ?hd7 (by kernel_rfl) (by kernel_rfl) (by kernel_rfl) ?hw7 ?hy7 ?hq7 (by assumption) ?r7
    case hi7 => (simp only [List.getElem?_toArray, List.getElem?_cons_succ, List.getElem?_cons_zero]; rfl)
    case hd7 => rfl
    case hw7 => rfl
    case hy7 => ((intro w hSw; (try dsimp only at hSw); go_simp) <;> (with_reducible rfl))
    case hq7 => exact fun _ _ _ h => h
    simp only [List.set_cons_succ, List.set_cons_zero]
    refine take_at (i := 7) (d := 43) (oi := ?o8) (v := ?v8) ?hi8 ?hd8 (by kernel_rfl) (by kernel_rfl) (by kernel_rfl) ?hw8 ?hy8 ?hq8 (by assumption) ?r8
    case hi8 => (simp only [List.getElem?_toArray, List.getElem?_cons_succ, List.getElem?_cons_zero]; rfl)
    case hd8 => rfl
    case hw8 => rfl
    case hy8 => ((intro w hSw; (try dsimp only at hSw); go_simp) <;> (with_reducible rfl))
    case hq8 => exact fun _ _ _ h => h
    simp only [List.set_cons_succ, List.set_cons_zero]
    refine take_at (i := 8) (d := 44) (oi := ?o9) (v := ?v9) ?hi9 ?hd9 (by kernel_rfl) (by kernel_rfl) (by kernel_rfl) ?hw9 ?hy9 ?hq9 (by assumption) ?r9
    case hi9 => (simp only [List.getElem?_toArray, List.getElem?_cons_succ, List.getElem?_cons_zero]; rfl)
    case hd9 => rfl
    case hw9 => rfl
    case hy9 => ((intro w hSw; (try dsimp only at hSw); go_simp) <;> (with_reducible rfl))
    case hq9 => exact fun _ _ _ h => h
    simp only [List.set_cons_succ, List.set_cons_zero]
    refine take_at (i := 9) (d := 45) (oi := ?o10) (v := ?v10) ?hi10 ?hd10 (by kernel_rfl) (by kernel_rfl) (by kernel_rfl) ?hw10 ?hy10 ?hq10 (by assumption) ?r10
    case hi10 => (simp only [List.getElem?_toArray, List.getElem?_cons_succ, List.getElem?_cons_zero]; rfl)
    case hd10 => rfl
    case hw10 => rfl
    case hy10 => ((intro w hSw; (try dsimp only at hSw); have k0 := (Below.cell hSw (p := ⟨b, off + k * 3, none⟩) hbl).trans c0; have k1 := (Below.cell hSw (p := ⟨b, off + k * 3 + 1, none⟩) hbl).trans c1; have k2 := (Below.cell hSw (p := ⟨b, off + k * 3 + 2, none⟩) hbl).trans c2; clear hSw; go_simp) <;> (with_reducible rfl))
    case hq10 => exact fun _ _ _ h => h
    simp only [List.set_cons_succ, List.set_cons_zero]
    refine take_at (i := 10) (d := 46) (oi := ?o11) (v := ?v11) ?hi11 ?hd11 (by kernel_rfl) (by kernel_rfl) (by kernel_rfl) ?hw11 ?hy11 ?hq11 (by assumption) ?r11
    case hi11 => (simp only [List.getElem?_toArray, List.getElem?_cons_succ, List.getElem?_cons_zero]; rfl)
    case hd11 => rfl
    case hw11 => rfl
    case hy11 => ((intro w hSw; (try dsimp only at hSw); go_simp) <;> (with_reducible rfl))
    case hq11 => exact fun _ _ _ h => h
    simp only [List.set_cons_succ, List.set_cons_zero]
    refine take_at (i := 11) (d := 47) (oi := ?o12) (v := ?v12) ?hi12 ?hd12 (by kernel_rfl) (by kernel_rfl) (by kernel_rfl) ?hw12 ?hy12 ?hq12 (by assumption) ?r12
    case hi12 => (simp only [List.getElem?_toArray, List.getElem?_cons_succ, List.getElem?_cons_zero]; rfl)
    case hd12 => rfl
    case hw12 => rfl
    case hy12 => ((intro w hSw; (try dsimp only at hSw); go_simp) <;> (with_reducible rfl))
    case hq12 => exact fun _ _ _ h => h
    simp only [List.set_cons_succ, List.set_cons_zero]
    refine take_at (i := 12) (d := 48) (oi := ?o13) (v := ?v13) ?hi13 ?hd13 (by kernel_rfl) (by kernel_rfl) (by kernel_rfl) ?hw13 ?hy13 ?hq13 (by assumption) ?r13
    case hi13 => (simp only [List.getElem?_toArray, List.getElem?_cons_succ, List.getElem?_cons_zero]; rfl)
    case hd13 => rfl
    case hw13 => rfl
    case hy13 => ((intro w hSw; (try dsimp only at hSw); go_simp) <;> (with_reducible rfl))
    case hq13 => exact fun _ _ _ h => h
    simp only [List.set_cons_succ, List.set_cons_zero]
    refine take_at (i := 13) (d := 49) (oi := ?o14) (v := ?v14) ?hi14 ?hd14 (by kernel_rfl) (by kernel_rfl) (by kernel_rfl) ?hw14 ?hy14 ?hq14 (by assumption) ?r14
    case hi14 => (simp only [List.getElem?_toArray, List.getElem?_cons_succ, List.getElem?_cons_zero]; rfl)
    case hd14 => rfl
    case hw14 => rfl
    case hy14 => ((intro w hSw; (try dsimp only at hSw); go_simp) <;> (with_reducible rfl))
    case hq14 => exact fun _ _ _ h => h
    simp only [List.set_cons_succ, List.set_cons_zero]
    refine take_at (i := 14) (d := 50) (oi := ?o15) (v := ?v15) ?hi15 ?hd15 (by kernel_rfl) (by kernel_rfl) (by kernel_rfl) ?hw15 ?hy15 ?hq15 (by assumption) ?r15
    case hi15 => (simp only [List.getElem?_toArray, List.getElem?_cons_succ, List.getElem?_cons_zero]; rfl)
    case hd15 => rfl
    case hw15 => rfl
    case hy15 => ((intro w hSw; (try dsimp only at hSw); have k0 := (Below.cell hSw (p := ⟨b, off + k * 3, none⟩) hbl).trans c0; have k1 := (Below.cell hSw (p := ⟨b, off + k * 3 + 1, none⟩) hbl).trans c1; have k2 := (Below.cell hSw (p := ⟨b, off + k * 3 + 2, none⟩) hbl).trans c2; clear hSw; go_simp) <;> (with_reducible rfl))
    case hq15 => exact fun _ _ _ h => h
    simp only [List.set_cons_succ, List.set_cons_zero]
    obtain ⟨wv, hwv⟩ : ∃ x, x = wr.drew.alloc (.cells #[.int .i64 e.tm, .int .i64 e.kd, .int .i64 e.vl] 3) := ⟨_, rfl⟩
    have hSv : Below wr.heap.size wr wv := by rw [hwv]; exact below_al (below_dr (below_d0 wr)) _
    have hrv : Rd wv wv.heap.size .i64 (some ⟨wr.heap.size, 0, none⟩) 3 [e.tm, e.kd, e.vl] := by rw [hwv]; exact Rd.made wr.drew .i64 3 [e.tm, e.kd, e.vl] rfl
    refine wpAnyH_ready (rs := [15]) (by kernel_rfl) (by simp) ?_
    refine br_val (i := 15) (d := 51) (oi := ?o16) (v := (.slice (some ⟨wr.heap.size, 0, none⟩) 3 3)) (w' := wv) ?hi16 ?hd16 ?hw16 ?he16 hSv ?hc16
    case hi16 => (simp only [List.getElem?_toArray, List.getElem?_cons_succ, List.getElem?_cons_zero]; rfl)
    case hd16 => rfl
    case hw16 => rfl
    case he16 => (rw [hwv]; clear hwv; go_simp; try rfl)
    intro hHeld
    simp only [List.set_cons_succ, List.set_cons_zero]
    refine call_at (i := 16) (d := 52) (oi := ?o17) (f := ?f17) (args := ?a17) ?hi17 ?hd17 (by kernel_rfl) ?hw17 ?he17 ?hc17
    case hi17 => (simp only [List.getElem?_toArray, List.getElem?_cons_succ, List.getElem?_cons_zero]; rfl)
    case hd17 => rfl
    case hw17 => rfl
    case he17 => (go_simp; constructor <;> with_reducible rfl)
    have hsc := rshort_yes _ 3 3 [e.tm, e.kd, e.vl] wv hrv (by omega) (right_nums HB.out.2.2.2.2.1) HB.out.2.2.2.2.2.1 HB.out.2.2.2.2.2.2
    refine hsc.mono ?_
    rintro r wz ⟨A5, c5, rfl, hrow, hbz⟩
    have kb : Below wr.heap.size wr wz := hSv.trans (hbz.mono hSv.size)
    refine ⟨_, rfl, kb, fun hHeld => ?_⟩
    simp only [List.set_cons_succ, List.set_cons_zero]
    refine take_at (i := 17) (d := 35) (oi := ?o18) (v := ?v18) ?hi18 ?hd18 (by kernel_rfl) (by kernel_rfl) (by kernel_rfl) ?hw18 ?hy18 ?hq18 (by assumption) ?r18
    case hi18 => (simp only [List.getElem?_toArray, List.getElem?_cons_succ, List.getElem?_cons_zero]; rfl)
    case hd18 => rfl
    case hw18 => rfl
    case hy18 => ((intro w hSw; (try dsimp only at hSw); go_simp) <;> (with_reducible rfl))
    case hq18 => exact fun _ _ _ h => h
    simp only [List.set_cons_succ, List.set_cons_zero]
    refine take_at (i := 18) (d := 53) (oi := ?o19) (v := ?v19) ?hi19 ?hd19 (by kernel_rfl) (by kernel_rfl) (by kernel_rfl) ?hw19 ?hy19 ?hq19 (by assumption) ?r19
    case hi19 => (simp only [List.getElem?_toArray, List.getElem?_cons_succ, List.getElem?_cons_zero]; rfl)
    case hd19 => rfl
    case hw19 => rfl
    case hy19 => ((intro w hSw; (try dsimp only at hSw); go_simp) <;> (with_reducible rfl))
    case hq19 => exact fun _ _ _ h => h
    simp only [List.set_cons_succ, List.set_cons_zero]
    refine take_at (i := 19) (d := 54) (oi := ?o20) (v := ?v20) ?hi20 ?hd20 (by kernel_rfl) (by kernel_rfl) (by kernel_rfl) ?hw20 ?hy20 ?hq20 (by assumption) ?r20
    case hi20 => (simp only [List.getElem?_toArray, List.getElem?_cons_succ, List.getElem?_cons_zero]; rfl)
    case hd20 => rfl
    case hw20 => rfl
    case hy20 => ((intro w hSw; (try dsimp only at hSw); go_simp) <;> (with_reducible rfl))
    case hq20 => exact fun _ _ _ h => h
    simp only [List.set_cons_succ, List.set_cons_zero]
    refine take_at (i := 20) (d := 9) (oi := ?o21) (v := ?v21) ?hi21 ?hd21 (by kernel_rfl) (by kernel_rfl) (by kernel_rfl) ?hw21 ?hy21 ?hq21 (by assumption) ?r21
    case hi21 => (simp only [List.getElem?_toArray, List.getElem?_cons_succ, List.getElem?_cons_zero]; rfl)
    case hd21 => rfl
    case hw21 => rfl
    case hy21 => ((intro w hSw; (try dsimp only at hSw); go_simp) <;> (with_reducible rfl))
    case hq21 => exact fun _ _ _ h => h
    simp only [List.set_cons_succ, List.set_cons_zero]
    refine take_at (i := 21) (d := 10) (oi := ?o22) (v := ?v22) ?hi22 ?hd22 (by kernel_rfl) (by kernel_rfl) (by kernel_rfl) ?hw22 ?hy22 ?hq22 (by assumption) ?r22
    case hi22 => (simp only [List.getElem?_toArray, List.getElem?_cons_succ, List.getElem?_cons_zero]; rfl)
    case hd22 => rfl
    case hw22 => rfl
    case hy22 => ((intro w hSw; (try dsimp only at hSw); go_simp) <;> (with_reducible rfl))
    case hq22 => exact fun _ _ _ h => h
    simp only [List.set_cons_succ, List.set_cons_zero]
    refine wpAnyH_done (by kernel_rfl) ?_ _
    have r5 := hrow.2
    have ownw := own_keep HB.out.1 hHeld
    have Bw := HB.out.2.1.trans (hHeld.mono HB.out.2.1.size)
    have HR := Lib.hid (⟨HB.out.2.2.1, HB.out.2.2.2.1, HB.out.2.2.2.2.2.1, Bw, (fun g hg => (HB.out.1.lt g hg).1 : ∀ g, (Value.slice A4 m c4).ownBlock = some g → w.heap.size ≤ g)⟩ : _ ∧ _ ∧ _ ∧ _ ∧ _)
    clear hrow hsc hbz kb hSv hrv hwv c0 c1 c2 hHeld HB HC Bw
    go_wp2_with (at_builtin; refine hold ?_)
    refine unhold (wpList_append (.tmp 55) (.tmp 56) 24 Try.underlying24 hi hz0 hz1 hz2 Nu.byte_cells (by decide) ownw (Source.rd r5) (by unfold maxLen; omega) (by omega) HR.out.2.2.2.1.size rfl rfl rfl rfl ?_)
    intro v6 w6 L6
    obtain ⟨A6, c6, rfl, hc6, own6, b6, n6⟩ := Longer.more HR.out.2.2.2.1 HR.out.2.2.2.1.size HR.out.2.2.2.2 L6
    clear L6 n6 ownw r5
    rw [← List.map_append] at own6
    have e6 : soFar l (k + 1) = soFar l k ++ R := by rw [HR.out.2.1, ← HR.out.2.2.1]; rfl
    have H6 := Lib.hid (⟨own6, b6, e6⟩ : _ ∧ _ ∧ _)
    clear own6 b6 e6
    go_wp2_with fail
    go_roundw
    case rel => exact ⟨k + 1, m + q, by omega, by go_num, by rw [H6.out.2.2, List.length_append, HR.out.1, HQ.out], hmn, by rw [H6.out.2.2]; exact H6.out.1, H6.out.2.1⟩
    case measure => simp [intOf]; omega
  obtain rfl : n = k := by omega
  obtain ⟨A4, c4, rfl, _⟩ := own_slice hown
  have hbody : soFar l n = bodyL l := soFar_all (by rw [Hl.out.2.1]; exact Nat.le_refl _)
  rw [hbody] at hm hown
  have rb := Rd.of_own hown
  have hch := rchain_one (c := c4) wr wr.heap.size 24 rfl Hl.out.2.2 rb (body_byt Hg.out) (by omega)
  have HB := Lib.hid (⟨hown, hB, hm⟩ : _ ∧ _ ∧ _)
  clear hown hB hm rb hbody
  go_wp2_with fail
  refine hch.mono ?_
  rintro e w3 ⟨⟨xe, ye, rfl, hpe⟩, hb3⟩
  obtain ⟨f1, f2, f3, f4, hf4⟩ : ∃ f1 f2 f3 f4, Ga.bytesP (endP p l) = [f1, f2, f3, f4] := ⟨_, _, _, _, rfl⟩
  have Hp := Lib.hid (⟨hpe, hf4, hb3⟩ : _ ∧ _ ∧ _)
  have hby := Ga.rbytes_out w3 hpe hf4
  clear hpe hf4 hb3 hch
  go_wp2_with fail
  refine hby.mono ?_
  rintro e w4 ⟨rfl, hb4⟩
  have hbw : Below wr.heap.size wr w4 := Hp.out.2.2.trans (hb4.mono Hp.out.2.2.size)
  clear hby hb4
  obtain ⟨w5, hw5⟩ : ∃ x, x = w4.alloc (.cells #[.int .u8 f1, .int .u8 f2, .int .u8 f3, .int .u8 f4] 50) := ⟨_, rfl⟩
  obtain ⟨w6, hw6⟩ : ∃ x, x = w5.alloc (.cells #[.int .u8 f1, .int .u8 f2, .int .u8 f3, .int .u8 f4] 5) := ⟨_, rfl⟩
  have r6 : Rd w6 w6.heap.size .u8 (some ⟨w5.heap.size, 0, none⟩) 4 [f1, f2, f3, f4] := by rw [hw6]; exact Rd.made _ .u8 5 [f1, f2, f3, f4] rfl
  have b6 : Below w4.heap.size w4 w6 := by rw [hw6, hw5]; exact below_al (below_al (below_d0 _) _) _
  have hs5 : w4.heap.size + 1 = w5.heap.size := by rw [hw5]; simp
  have own6 := own_keep (own_keep HB.out.1 hbw) b6
  have lo6 := (HB.out.2.1.trans (hbw.mono HB.out.2.1.size)).trans (b6.mono (Nat.le_trans HB.out.2.1.size hbw.size))
  have hlo : ∀ g, (Value.slice A4 m c4).ownBlock = some g → w.heap.size ≤ g := fun g hg => (HB.out.1.lt g hg).1
  have H6 := Lib.hid (⟨hw5, hw6, hs5, lo6⟩ : _ ∧ _ ∧ _ ∧ _)
  clear hw5 hw6 hs5 lo6 b6 hbw
  go_wp2_with (at_builtin; refine hold ?_)
  rw [← H6.out.1, H6.out.2.2.1, ← H6.out.2.1]
  refine unhold (wpList_append (.tmp 64) (.tmp 73) 24 Try.underlying24 hi hz0 hz1 hz2 Nu.byte_cells (by decide) own6 (Source.rd r6) (by unfold maxLen; omega) (by omega) H6.out.2.2.2.size rfl rfl rfl rfl ?_)
  intro v7 w7 L7
  obtain ⟨A7, c7, rfl, hc7, own7, b7, n7⟩ := Longer.more H6.out.2.2.2 H6.out.2.2.2.size hlo L7
  have r7 := own_bytes (m := 0) own7
  have H7 := Lib.hid (⟨r7, b7⟩ : _ ∧ _)
  clear L7 n7 own7 own6 r6 r7 b7 hlo
  go_wp2_with fail
  go_ret3
  refine ⟨.inl ⟨Hg.out, A7, c7, m + 4, xe, ye, rfl, ?_, ?_, Hp.out.1, hc7⟩, H7.out.2⟩
  · rw [blockL, List.length_append, HB.out.2.2, bytesP_len]
  · rw [blockL, Hp.out.2.1]; exact H7.out.1

end Go.Proofs.Ytlojkbmoaifkaaa
