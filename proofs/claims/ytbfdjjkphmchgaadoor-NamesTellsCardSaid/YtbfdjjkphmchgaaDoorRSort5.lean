/-
  moultref05.Sort: its contract.
-/
import Derived.Test.YtbfdjjkphmchgaaDoorInsP
import Derived.Test.YtbfdjjkphmchgaaDoorRefR5
import Derived.Test.YtbfdjjkphmchgaaDoorOrderLaw
import Derived.Deep.CutBlock
namespace Go.Proofs.YtbfdjjkphmchgaaDoor
open Go.RowKit
set_option linter.unusedVariables false
set_option linter.unusedSimpArgs false

set_option maxRecDepth 100000 in
set_option maxHeartbeats 8000000 in
theorem rsort_any (A : Option Addr) (n c : Nat) (l : List IdP) (w : World) (hl : Ids w w.heap.size A n l) (hn : n ≤ 40) :
    Calls Tryd.prog 20 #[.slice A n c] w fun e w' => SortOut l n e w' ∧ Below w.heap.size w w' := by
  have HL := Lib.hid hl
  have L1 := Lib.hid hl.1
  clear hl
  obtain ⟨i0, hi0, hz0, hz1, hz2⟩ := info_partsV info_ident
  go_enter Tryd.func20, Tryd.ntmps20
  go_wp2_with fail
  go_loopw [3, 4] (fun s3 s4 wr => ∃ (i : Nat) (r : List IdP), i ≤ n ∧ s4 = .int .i64 i ∧ wr.ownsRow w.heap.size 23 3 s3 i (r.flatMap IdP.cs) ∧ Sym.Ord LEo r ∧ r.Perm (l.take i) ∧ Below w.heap.size w wr) (fun _ s _ => n - (intOf s).toNat)
  case atStart => exact ⟨0, [], Nat.zero_le _, rfl, own_nil _ _ _ _, Sym.Ord.nil, by simp, below_d0 _⟩
  obtain ⟨i, r, hi, rfl, hrow, hord, hperm, hB⟩ := hrel
  obtain ⟨C, d, rfl, hCd⟩ := own_slice hrow
  by_cases hlt : i < n
  · obtain ⟨b, off, z, rfl, hb, hz, -⟩ := Ids.get HL.out hlt
    have hR : Ids wr wr.heap.size C i r := Row.of_own (by omega) IdP.len hrow
    obtain ⟨w3, hw3⟩ : ∃ w3, w3 = wr := ⟨_, rfl⟩
    subst hw3
    have HI := Lib.hid (⟨hz, hb, hord, hperm, hB, hR⟩ : _ ∧ _ ∧ _ ∧ _ ∧ _ ∧ _)
    clear hz hb hord hperm hB hR hrow
    go_upto_block 2 with fail
    go_cut [5] from 14 to 29 (fun s5 wx => ∃ k : Nat, s5 = .int .i64 k ∧ k ≤ i ∧ (k = i ∨ ∃ y, r[k]? = some y ∧ LessP z y) ∧ (k = 0 ∨ ∃ y, r[k - 1]? = some y ∧ ¬ LessP z y) ∧ Below w3.heap.size w3 wx)
    case first => as_aux_lemma =>
      go_wp2_with fail
      go_loopw [5] (fun s5 wq => ∃ (k : Nat), k ≤ i ∧ s5 = .int .i64 k ∧ (k = i ∨ ∃ y, r[k]? = some y ∧ LessP z y) ∧ Below w3.heap.size w3 wq) (fun s _ => (intOf s).toNat)
      case atStart => exact ⟨i, Nat.le_refl _, rfl, .inl rfl, below_d0 _⟩
      obtain ⟨k, hk, rfl, hnb, hBq⟩ := hrel
      by_cases hk0 : k = 0
      · have ti : decide ((0 : Int) < (k : Int)) = false := by simp; omega
        have ti' : decide (0 < k) = false := by simp; omega
        have tj : ¬ ((0 : Int) < (k : Int)) := by omega
        have HS := Lib.hid (⟨hBq, hnb, hk0⟩ : _ ∧ _ ∧ _)
        clear hBq hnb hk0
        go_wp2_with fail
        refine wp_region_held_drew (S := (fun W => Below wr.heap.size wr W)) (by kernel_rfl) (below_dr (below_d0 _)) (fun hHeld => ?_)
        refine take_at (i := 0) (d := 14) (oi := ?o1) (v := ?v1) ?hi1 ?hd1 (by kernel_rfl) (by kernel_rfl) (by kernel_rfl) ?hw1 ?hy1 ?hq1 (by assumption) ?r1
        case hi1 => (simp only [List.getElem?_toArray, List.getElem?_cons_zero]; rfl)
        case hd1 => rfl
        case hw1 => rfl
        case hy1 => ((intro w hSw; (try dsimp only at hSw); go_simp) <;> (with_reducible rfl))
        case hq1 => exact fun _ _ _ h => h
        simp only [List.set_cons_succ, List.set_cons_zero]
        refine take_at (i := 1) (d := 15) (oi := ?o2) (v := ?v2) ?hi2 ?hd2 (by kernel_rfl) (by kernel_rfl) (by kernel_rfl) ?hw2 ?hy2 ?hq2 (by assumption) ?r2
        case hi2 => (simp only [List.getElem?_toArray, List.getElem?_cons_succ, List.getElem?_cons_zero]; rfl)
        case hd2 => rfl
        case hw2 => rfl
        case hy2 => ((intro w hSw; (try dsimp only at hSw); go_simp) <;> (with_reducible rfl))
        case hq2 => exact fun _ _ _ h => h
        simp only [List.set_cons_succ, List.set_cons_zero]
        refine take_at (i := 2) (d := 16) (oi := ?o3) (v := ?v3) ?hi3 ?hd3 (by kernel_rfl) (by kernel_rfl) (by kernel_rfl) ?hw3 ?hy3 ?hq3 (by assumption) ?r3
        case hi3 => (simp only [List.getElem?_toArray, List.getElem?_cons_succ, List.getElem?_cons_zero]; rfl)
        case hd3 => rfl
        case hw3 => rfl
        case hy3 => ((intro w hSw; (try dsimp only at hSw); go_simp) <;> (with_reducible rfl))
        case hq3 => exact fun _ _ _ h => h
        simp only [List.set_cons_succ, List.set_cons_zero]
        refine skip_at (i := 3) (d := 17) (oi := ?o4) ?hi4 ?hd4 (by kernel_rfl) (by kernel_rfl) (by kernel_rfl) ?hw4 ?hq4 (by assumption) ?r4
        case hi4 => (simp only [List.getElem?_toArray, List.getElem?_cons_succ, List.getElem?_cons_zero]; rfl)
        case hd4 => rfl
        case hw4 => rfl
        case hq4 => exact fun _ _ _ h => h
        simp only [List.set_cons_succ, List.set_cons_zero]
        refine skip_at (i := 4) (d := 18) (oi := ?o5) ?hi5 ?hd5 (by kernel_rfl) (by kernel_rfl) (by kernel_rfl) ?hw5 ?hq5 (by assumption) ?r5
        case hi5 => (simp only [List.getElem?_toArray, List.getElem?_cons_succ, List.getElem?_cons_zero]; rfl)
        case hd5 => rfl
        case hw5 => rfl
        case hq5 => exact fun _ _ _ h => h
        simp only [List.set_cons_succ, List.set_cons_zero]
        refine skip_at (i := 5) (d := 19) (oi := ?o6) ?hi6 ?hd6 (by kernel_rfl) (by kernel_rfl) (by kernel_rfl) ?hw6 ?hq6 (by assumption) ?r6
        case hi6 => (simp only [List.getElem?_toArray, List.getElem?_cons_succ, List.getElem?_cons_zero]; rfl)
        case hd6 => rfl
        case hw6 => rfl
        case hq6 => exact fun _ _ _ h => h
        simp only [List.set_cons_succ, List.set_cons_zero]
        refine skip_at (i := 6) (d := 20) (oi := ?o7) ?hi7 ?hd7 (by kernel_rfl) (by kernel_rfl) (by kernel_rfl) ?hw7 ?hq7 (by assumption) ?r7
        case hi7 => (simp only [List.getElem?_toArray, List.getElem?_cons_succ, List.getElem?_cons_zero]; rfl)
        case hd7 => rfl
        case hw7 => rfl
        case hq7 => exact fun _ _ _ h => h
        simp only [List.set_cons_succ, List.set_cons_zero]
        refine skip_at (i := 7) (d := 21) (oi := ?o8) ?hi8 ?hd8 (by kernel_rfl) (by kernel_rfl) (by kernel_rfl) ?hw8 ?hq8 (by assumption) ?r8
        case hi8 => (simp only [List.getElem?_toArray, List.getElem?_cons_succ, List.getElem?_cons_zero]; rfl)
        case hd8 => rfl
        case hw8 => rfl
        case hq8 => exact fun _ _ _ h => h
        simp only [List.set_cons_succ, List.set_cons_zero]
        refine skip_at (i := 8) (d := 22) (oi := ?o9) ?hi9 ?hd9 (by kernel_rfl) (by kernel_rfl) (by kernel_rfl) ?hw9 ?hq9 (by assumption) ?r9
        case hi9 => (simp only [List.getElem?_toArray, List.getElem?_cons_succ, List.getElem?_cons_zero]; rfl)
        case hd9 => rfl
        case hw9 => rfl
        case hq9 => exact fun _ _ _ h => h
        simp only [List.set_cons_succ, List.set_cons_zero]
        refine skip_at (i := 9) (d := 23) (oi := ?o10) ?hi10 ?hd10 (by kernel_rfl) (by kernel_rfl) (by kernel_rfl) ?hw10 ?hq10 (by assumption) ?r10
        case hi10 => (simp only [List.getElem?_toArray, List.getElem?_cons_succ, List.getElem?_cons_zero]; rfl)
        case hd10 => rfl
        case hw10 => rfl
        case hq10 => exact fun _ _ _ h => h
        simp only [List.set_cons_succ, List.set_cons_zero]
        refine skip_at (i := 10) (d := 24) (oi := ?o11) ?hi11 ?hd11 (by kernel_rfl) (by kernel_rfl) (by kernel_rfl) ?hw11 ?hq11 (by assumption) ?r11
        case hi11 => (simp only [List.getElem?_toArray, List.getElem?_cons_succ, List.getElem?_cons_zero]; rfl)
        case hd11 => rfl
        case hw11 => rfl
        case hq11 => exact fun _ _ _ h => h
        simp only [List.set_cons_succ, List.set_cons_zero]
        refine skip_at (i := 11) (d := 25) (oi := ?o12) ?hi12 ?hd12 (by kernel_rfl) (by kernel_rfl) (by kernel_rfl) ?hw12 ?hq12 (by assumption) ?r12
        case hi12 => (simp only [List.getElem?_toArray, List.getElem?_cons_succ, List.getElem?_cons_zero]; rfl)
        case hd12 => rfl
        case hw12 => rfl
        case hq12 => exact fun _ _ _ h => h
        simp only [List.set_cons_succ, List.set_cons_zero]
        refine skip_at (i := 12) (d := 26) (oi := ?o13) ?hi13 ?hd13 (by kernel_rfl) (by kernel_rfl) (by kernel_rfl) ?hw13 ?hq13 (by assumption) ?r13
        case hi13 => (simp only [List.getElem?_toArray, List.getElem?_cons_succ, List.getElem?_cons_zero]; rfl)
        case hd13 => rfl
        case hw13 => rfl
        case hq13 => exact fun _ _ _ h => h
        simp only [List.set_cons_succ, List.set_cons_zero]
        refine take_at (i := 13) (d := 27) (oi := ?o14) (v := ?v14) ?hi14 ?hd14 (by kernel_rfl) (by kernel_rfl) (by kernel_rfl) ?hw14 ?hy14 ?hq14 (by assumption) ?r14
        case hi14 => (simp only [List.getElem?_toArray, List.getElem?_cons_succ, List.getElem?_cons_zero]; rfl)
        case hd14 => rfl
        case hw14 => rfl
        case hy14 => ((intro w hSw; (try dsimp only at hSw); go_simp) <;> (with_reducible rfl))
        case hq14 => exact fun _ _ _ h => h
        simp only [List.set_cons_succ, List.set_cons_zero]
        refine wpAnyH_done (by kernel_rfl) ?_ _
        have HZ := Lib.hid (below_on HS.out.1 hHeld)
        go_wp2_with fail
        go_meet
        exact ⟨k, rfl, hk, HS.out.2.1, .inl HS.out.2.2, HZ.out⟩
      obtain ⟨k1, hk1⟩ : ∃ k1, k1 + 1 = k := ⟨k - 1, by omega⟩
      obtain ⟨y, hy⟩ : ∃ y, r[k1]? = some y := ⟨_, List.getElem?_eq_getElem (by rw [HI.out.2.2.2.2.2.1]; omega)⟩
      have ti : decide ((0 : Int) < (k : Int)) = true := by simp; omega
      have ti' : decide (0 < k) = true := by simp; omega
      have tj : (0 : Int) < (k : Int) := by omega
      have a4 : IntKind.i64.wrap ((k : Int) - 1) = (k1 : Int) := by rw [IntKind.wrap_i64] <;> omega
      have hk1i : k1 < i := by omega
      have hBw := below_on HI.out.2.2.2.2.1 hBq
      obtain ⟨-, k0, k1', k2⟩ := Ids.cells (HL.out.on hBw hBw.size) HI.out.1
      have hgl : b < wr.heap.size := by have := HI.out.2.1; have := hBw.size; omega
      obtain ⟨b2, off2, y', rfl, hb2, hy2, -⟩ := Ids.get (HI.out.2.2.2.2.2.on hBq hBq.size) hk1i
      obtain rfl : y = y' := by rw [hy] at hy2; injection hy2
      obtain ⟨-, m0, m1, m2⟩ := Ids.cells (HI.out.2.2.2.2.2.on hBq hBq.size) hy
      by_cases hless : LessP z y
      · have HS := Lib.hid (⟨hBq, hy, hless, hk1⟩ : _ ∧ _ ∧ _ ∧ _)
        clear hBq hBw hnb hk0 hy hy2 hless hk1
        go_wp2_with fail
        refine wp_region_held_drew (S := (fun W => Below wr.heap.size wr W)) (by kernel_rfl) (below_dr (below_d0 _)) (fun hHeld => ?_)
        refine take_at (i := 0) (d := 14) (oi := ?o15) (v := ?v15) ?hi15 ?hd15 (by kernel_rfl) (by kernel_rfl) (by kernel_rfl) ?hw15 ?hy15 ?hq15 (by assumption) ?r15
        case hi15 => (simp only [List.getElem?_toArray, List.getElem?_cons_zero]; rfl)
        case hd15 => rfl
        case hw15 => rfl
        case hy15 => ((intro w hSw; (try dsimp only at hSw); go_simp) <;> (with_reducible rfl))
        case hq15 => exact fun _ _ _ h => h
        simp only [List.set_cons_succ, List.set_cons_zero]
        refine take_at (i := 1) (d := 15) (oi := ?o16) (v := ?v16) ?hi16 ?hd16 (by kernel_rfl) (by kernel_rfl) (by kernel_rfl) ?hw16 ?hy16 ?hq16 (by assumption) ?r16
        case hi16 => (simp only [List.getElem?_toArray, List.getElem?_cons_succ, List.getElem?_cons_zero]; rfl)
        case hd16 => rfl
        case hw16 => rfl
        case hy16 => ((intro w hSw; (try dsimp only at hSw); go_simp) <;> (with_reducible rfl))
        case hq16 => exact fun _ _ _ h => h
        simp only [List.set_cons_succ, List.set_cons_zero]
        refine take_at (i := 2) (d := 16) (oi := ?o17) (v := ?v17) ?hi17 ?hd17 (by kernel_rfl) (by kernel_rfl) (by kernel_rfl) ?hw17 ?hy17 ?hq17 (by assumption) ?r17
        case hi17 => (simp only [List.getElem?_toArray, List.getElem?_cons_succ, List.getElem?_cons_zero]; rfl)
        case hd17 => rfl
        case hw17 => rfl
        case hy17 => ((intro w hSw; (try dsimp only at hSw); go_simp) <;> (with_reducible rfl))
        case hq17 => exact fun _ _ _ h => h
        simp only [List.set_cons_succ, List.set_cons_zero]
        refine take_at (i := 3) (d := 17) (oi := ?o18) (v := ?v18) ?hi18 ?hd18 (by kernel_rfl) (by kernel_rfl) (by kernel_rfl) ?hw18 ?hy18 ?hq18 (by assumption) ?r18
        case hi18 => (simp only [List.getElem?_toArray, List.getElem?_cons_succ, List.getElem?_cons_zero]; rfl)
        case hd18 => rfl
        case hw18 => rfl
        case hy18 => ((intro w hSw; (try dsimp only at hSw); go_simp) <;> (with_reducible rfl))
        case hq18 => exact fun _ _ _ h => h
        simp only [List.set_cons_succ, List.set_cons_zero]
        refine take_at (i := 4) (d := 18) (oi := ?o19) (v := ?v19) ?hi19 ?hd19 (by kernel_rfl) (by kernel_rfl) (by kernel_rfl) ?hw19 ?hy19 ?hq19 (by assumption) ?r19
        case hi19 => (simp only [List.getElem?_toArray, List.getElem?_cons_succ, List.getElem?_cons_zero]; rfl)
        case hd19 => rfl
        case hw19 => rfl
        case hy19 => ((intro w hSw; (try dsimp only at hSw); go_simp) <;> (with_reducible rfl))
        case hq19 => exact fun _ _ _ h => h
        simp only [List.set_cons_succ, List.set_cons_zero]
        refine take_at (i := 5) (d := 19) (oi := ?o20) (v := ?v20) ?hi20 ?hd20 (by kernel_rfl) (by kernel_rfl) (by kernel_rfl) ?hw20 ?hy20 ?hq20 (by assumption) ?r20
        case hi20 => (simp only [List.getElem?_toArray, List.getElem?_cons_succ, List.getElem?_cons_zero]; rfl)
        case hd20 => rfl
        case hw20 => rfl
        case hy20 => ((intro w hSw; (try dsimp only at hSw); go_simp) <;> (with_reducible rfl))
        case hq20 => exact fun _ _ _ h => h
        simp only [List.set_cons_succ, List.set_cons_zero]
        refine take_at (i := 6) (d := 20) (oi := ?o21) (v := ?v21) ?hi21 ?hd21 (by kernel_rfl) (by kernel_rfl) (by kernel_rfl) ?hw21 ?hy21 ?hq21 (by assumption) ?r21
        case hi21 => (simp only [List.getElem?_toArray, List.getElem?_cons_succ, List.getElem?_cons_zero]; rfl)
        case hd21 => rfl
        case hw21 => rfl
        case hy21 => ((intro w hSw; (try dsimp only at hSw); have q0 := (Below.cell hSw (p := ⟨b, off + i * 3, none⟩) hgl).trans k0; have q1 := (Below.cell hSw (p := ⟨b, off + i * 3 + 1, none⟩) hgl).trans k1'; have q2 := (Below.cell hSw (p := ⟨b, off + i * 3 + 2, none⟩) hgl).trans k2; clear hSw; go_simp) <;> (with_reducible rfl))
        case hq21 => exact fun _ _ _ h => h
        simp only [List.set_cons_succ, List.set_cons_zero]
        refine take_at (i := 7) (d := 21) (oi := ?o22) (v := ?v22) ?hi22 ?hd22 (by kernel_rfl) (by kernel_rfl) (by kernel_rfl) ?hw22 ?hy22 ?hq22 (by assumption) ?r22
        case hi22 => (simp only [List.getElem?_toArray, List.getElem?_cons_succ, List.getElem?_cons_zero]; rfl)
        case hd22 => rfl
        case hw22 => rfl
        case hy22 => ((intro w hSw; (try dsimp only at hSw); go_simp) <;> (with_reducible rfl))
        case hq22 => exact fun _ _ _ h => h
        simp only [List.set_cons_succ, List.set_cons_zero]
        refine take_at (i := 8) (d := 22) (oi := ?o23) (v := ?v23) ?hi23 ?hd23 (by kernel_rfl) (by kernel_rfl) (by kernel_rfl) ?hw23 ?hy23 ?hq23 (by assumption) ?r23
        case hi23 => (simp only [List.getElem?_toArray, List.getElem?_cons_succ, List.getElem?_cons_zero]; rfl)
        case hd23 => rfl
        case hw23 => rfl
        case hy23 => ((intro w hSw; (try dsimp only at hSw); go_simp) <;> (with_reducible rfl))
        case hq23 => exact fun _ _ _ h => h
        simp only [List.set_cons_succ, List.set_cons_zero]
        refine take_at (i := 9) (d := 23) (oi := ?o24) (v := ?v24) ?hi24 ?hd24 (by kernel_rfl) (by kernel_rfl) (by kernel_rfl) ?hw24 ?hy24 ?hq24 (by assumption) ?r24
        case hi24 => (simp only [List.getElem?_toArray, List.getElem?_cons_succ, List.getElem?_cons_zero]; rfl)
        case hd24 => rfl
        case hw24 => rfl
        case hy24 => ((intro w hSw; (try dsimp only at hSw); go_simp) <;> (with_reducible rfl))
        case hq24 => exact fun _ _ _ h => h
        simp only [List.set_cons_succ, List.set_cons_zero]
        refine take_at (i := 10) (d := 24) (oi := ?o25) (v := ?v25) ?hi25 ?hd25 (by kernel_rfl) (by kernel_rfl) (by kernel_rfl) ?hw25 ?hy25 ?hq25 (by assumption) ?r25
        case hi25 => (simp only [List.getElem?_toArray, List.getElem?_cons_succ, List.getElem?_cons_zero]; rfl)
        case hd25 => rfl
        case hw25 => rfl
        case hy25 => ((intro w hSw; (try dsimp only at hSw); go_simp) <;> (with_reducible rfl))
        case hq25 => exact fun _ _ _ h => h
        simp only [List.set_cons_succ, List.set_cons_zero]
        refine take_at (i := 11) (d := 25) (oi := ?o26) (v := ?v26) ?hi26 ?hd26 (by kernel_rfl) (by kernel_rfl) (by kernel_rfl) ?hw26 ?hy26 ?hq26 (by assumption) ?r26
        case hi26 => (simp only [List.getElem?_toArray, List.getElem?_cons_succ, List.getElem?_cons_zero]; rfl)
        case hd26 => rfl
        case hw26 => rfl
        case hy26 => ((intro w hSw; (try dsimp only at hSw); have q0 := (Below.cell hSw (p := ⟨b2, off2 + k1 * 3, none⟩) hb2).trans m0; have q1 := (Below.cell hSw (p := ⟨b2, off2 + k1 * 3 + 1, none⟩) hb2).trans m1; have q2 := (Below.cell hSw (p := ⟨b2, off2 + k1 * 3 + 2, none⟩) hb2).trans m2; clear hSw; go_simp) <;> (with_reducible rfl))
        case hq26 => exact fun _ _ _ h => h
        simp only [List.set_cons_succ, List.set_cons_zero]
        refine call_at (i := 12) (d := 26) (oi := ?o27) (f := ?f27) (args := ?a27) ?hi27 ?hd27 (by kernel_rfl) ?hw27 ?he27 ?hc27
        case hi27 => (simp only [List.getElem?_toArray, List.getElem?_cons_succ, List.getElem?_cons_zero]; rfl)
        case hd27 => rfl
        case hw27 => rfl
        case he27 => (go_simp; constructor <;> with_reducible rfl)
        refine (rless_any z y _).mono ?_
        rintro e wv ⟨rfl, hb1⟩
        rw [show decide (LessP z y) = true from decide_eq_true HS.out.2.2.1]
        have kb : Below wr.heap.size wr wv := hHeld.trans (hb1.mono hHeld.size)
        refine ⟨_, rfl, kb, fun hHeld => ?_⟩
        simp only [List.set_cons_succ, List.set_cons_zero]
        refine take_at (i := 13) (d := 27) (oi := ?o28) (v := ?v28) ?hi28 ?hd28 (by kernel_rfl) (by kernel_rfl) (by kernel_rfl) ?hw28 ?hy28 ?hq28 (by assumption) ?r28
        case hi28 => (simp only [List.getElem?_toArray, List.getElem?_cons_succ, List.getElem?_cons_zero]; rfl)
        case hd28 => rfl
        case hw28 => rfl
        case hy28 => ((intro w hSw; (try dsimp only at hSw); go_simp) <;> (with_reducible rfl))
        case hq28 => exact fun _ _ _ h => h
        simp only [List.set_cons_succ, List.set_cons_zero]
        refine wpAnyH_done (by kernel_rfl) ?_ _
        have HZ := Lib.hid (below_on HS.out.1 hHeld)
        have hk1k := HS.out.2.2.2
        clear k0 k1' k2 m0 m1 m2 hHeld
        go_wp2_with fail
        go_roundw
        case rel => exact ⟨k1, by omega, rfl, .inr ⟨y, HS.out.2.1, HS.out.2.2.1⟩, HZ.out⟩
        case measure => simp [intOf]; omega
      · have HS := Lib.hid (⟨hBq, hnb, hy, hless, hk1⟩ : _ ∧ _ ∧ _ ∧ _ ∧ _)
        clear hBq hBw hnb hk0 hy hy2 hless hk1
        go_wp2_with fail
        refine wp_region_held_drew (S := (fun W => Below wr.heap.size wr W)) (by kernel_rfl) (below_dr (below_d0 _)) (fun hHeld => ?_)
        refine take_at (i := 0) (d := 14) (oi := ?o29) (v := ?v29) ?hi29 ?hd29 (by kernel_rfl) (by kernel_rfl) (by kernel_rfl) ?hw29 ?hy29 ?hq29 (by assumption) ?r29
        case hi29 => (simp only [List.getElem?_toArray, List.getElem?_cons_zero]; rfl)
        case hd29 => rfl
        case hw29 => rfl
        case hy29 => ((intro w hSw; (try dsimp only at hSw); go_simp) <;> (with_reducible rfl))
        case hq29 => exact fun _ _ _ h => h
        simp only [List.set_cons_succ, List.set_cons_zero]
        refine take_at (i := 1) (d := 15) (oi := ?o30) (v := ?v30) ?hi30 ?hd30 (by kernel_rfl) (by kernel_rfl) (by kernel_rfl) ?hw30 ?hy30 ?hq30 (by assumption) ?r30
        case hi30 => (simp only [List.getElem?_toArray, List.getElem?_cons_succ, List.getElem?_cons_zero]; rfl)
        case hd30 => rfl
        case hw30 => rfl
        case hy30 => ((intro w hSw; (try dsimp only at hSw); go_simp) <;> (with_reducible rfl))
        case hq30 => exact fun _ _ _ h => h
        simp only [List.set_cons_succ, List.set_cons_zero]
        refine take_at (i := 2) (d := 16) (oi := ?o31) (v := ?v31) ?hi31 ?hd31 (by kernel_rfl) (by kernel_rfl) (by kernel_rfl) ?hw31 ?hy31 ?hq31 (by assumption) ?r31
        case hi31 => (simp only [List.getElem?_toArray, List.getElem?_cons_succ, List.getElem?_cons_zero]; rfl)
        case hd31 => rfl
        case hw31 => rfl
        case hy31 => ((intro w hSw; (try dsimp only at hSw); go_simp) <;> (with_reducible rfl))
        case hq31 => exact fun _ _ _ h => h
        simp only [List.set_cons_succ, List.set_cons_zero]
        refine take_at (i := 3) (d := 17) (oi := ?o32) (v := ?v32) ?hi32 ?hd32 (by kernel_rfl) (by kernel_rfl) (by kernel_rfl) ?hw32 ?hy32 ?hq32 (by assumption) ?r32
        case hi32 => (simp only [List.getElem?_toArray, List.getElem?_cons_succ, List.getElem?_cons_zero]; rfl)
        case hd32 => rfl
        case hw32 => rfl
        case hy32 => ((intro w hSw; (try dsimp only at hSw); go_simp) <;> (with_reducible rfl))
        case hq32 => exact fun _ _ _ h => h
        simp only [List.set_cons_succ, List.set_cons_zero]
        refine take_at (i := 4) (d := 18) (oi := ?o33) (v := ?v33) ?hi33 ?hd33 (by kernel_rfl) (by kernel_rfl) (by kernel_rfl) ?hw33 ?hy33 ?hq33 (by assumption) ?r33
        case hi33 => (simp only [List.getElem?_toArray, List.getElem?_cons_succ, List.getElem?_cons_zero]; rfl)
        case hd33 => rfl
        case hw33 => rfl
        case hy33 => ((intro w hSw; (try dsimp only at hSw); go_simp) <;> (with_reducible rfl))
        case hq33 => exact fun _ _ _ h => h
        simp only [List.set_cons_succ, List.set_cons_zero]
        refine take_at (i := 5) (d := 19) (oi := ?o34) (v := ?v34) ?hi34 ?hd34 (by kernel_rfl) (by kernel_rfl) (by kernel_rfl) ?hw34 ?hy34 ?hq34 (by assumption) ?r34
        case hi34 => (simp only [List.getElem?_toArray, List.getElem?_cons_succ, List.getElem?_cons_zero]; rfl)
        case hd34 => rfl
        case hw34 => rfl
        case hy34 => ((intro w hSw; (try dsimp only at hSw); go_simp) <;> (with_reducible rfl))
        case hq34 => exact fun _ _ _ h => h
        simp only [List.set_cons_succ, List.set_cons_zero]
        refine take_at (i := 6) (d := 20) (oi := ?o35) (v := ?v35) ?hi35 ?hd35 (by kernel_rfl) (by kernel_rfl) (by kernel_rfl) ?hw35 ?hy35 ?hq35 (by assumption) ?r35
        case hi35 => (simp only [List.getElem?_toArray, List.getElem?_cons_succ, List.getElem?_cons_zero]; rfl)
        case hd35 => rfl
        case hw35 => rfl
        case hy35 => ((intro w hSw; (try dsimp only at hSw); have q0 := (Below.cell hSw (p := ⟨b, off + i * 3, none⟩) hgl).trans k0; have q1 := (Below.cell hSw (p := ⟨b, off + i * 3 + 1, none⟩) hgl).trans k1'; have q2 := (Below.cell hSw (p := ⟨b, off + i * 3 + 2, none⟩) hgl).trans k2; clear hSw; go_simp) <;> (with_reducible rfl))
        case hq35 => exact fun _ _ _ h => h
        simp only [List.set_cons_succ, List.set_cons_zero]
        refine take_at (i := 7) (d := 21) (oi := ?o36) (v := ?v36) ?hi36 ?hd36 (by kernel_rfl) (by kernel_rfl) (by kernel_rfl) ?hw36 ?hy36 ?hq36 (by assumption) ?r36
        case hi36 => (simp only [List.getElem?_toArray, List.getElem?_cons_succ, List.getElem?_cons_zero]; rfl)
        case hd36 => rfl
        case hw36 => rfl
        case hy36 => ((intro w hSw; (try dsimp only at hSw); go_simp) <;> (with_reducible rfl))
        case hq36 => exact fun _ _ _ h => h
        simp only [List.set_cons_succ, List.set_cons_zero]
        refine take_at (i := 8) (d := 22) (oi := ?o37) (v := ?v37) ?hi37 ?hd37 (by kernel_rfl) (by kernel_rfl) (by kernel_rfl) ?hw37 ?hy37 ?hq37 (by assumption) ?r37
        case hi37 => (simp only [List.getElem?_toArray, List.getElem?_cons_succ, List.getElem?_cons_zero]; rfl)
        case hd37 => rfl
        case hw37 => rfl
        case hy37 => ((intro w hSw; (try dsimp only at hSw); go_simp) <;> (with_reducible rfl))
        case hq37 => exact fun _ _ _ h => h
        simp only [List.set_cons_succ, List.set_cons_zero]
        refine take_at (i := 9) (d := 23) (oi := ?o38) (v := ?v38) ?hi38 ?hd38 (by kernel_rfl) (by kernel_rfl) (by kernel_rfl) ?hw38 ?hy38 ?hq38 (by assumption) ?r38
        case hi38 => (simp only [List.getElem?_toArray, List.getElem?_cons_succ, List.getElem?_cons_zero]; rfl)
        case hd38 => rfl
        case hw38 => rfl
        case hy38 => ((intro w hSw; (try dsimp only at hSw); go_simp) <;> (with_reducible rfl))
        case hq38 => exact fun _ _ _ h => h
        simp only [List.set_cons_succ, List.set_cons_zero]
        refine take_at (i := 10) (d := 24) (oi := ?o39) (v := ?v39) ?hi39 ?hd39 (by kernel_rfl) (by kernel_rfl) (by kernel_rfl) ?hw39 ?hy39 ?hq39 (by assumption) ?r39
        case hi39 => (simp only [List.getElem?_toArray, List.getElem?_cons_succ, List.getElem?_cons_zero]; rfl)
        case hd39 => rfl
        case hw39 => rfl
        case hy39 => ((intro w hSw; (try dsimp only at hSw); go_simp) <;> (with_reducible rfl))
        case hq39 => exact fun _ _ _ h => h
        simp only [List.set_cons_succ, List.set_cons_zero]
        refine take_at (i := 11) (d := 25) (oi := ?o40) (v := ?v40) ?hi40 ?hd40 (by kernel_rfl) (by kernel_rfl) (by kernel_rfl) ?hw40 ?hy40 ?hq40 (by assumption) ?r40
        case hi40 => (simp only [List.getElem?_toArray, List.getElem?_cons_succ, List.getElem?_cons_zero]; rfl)
        case hd40 => rfl
        case hw40 => rfl
        case hy40 => ((intro w hSw; (try dsimp only at hSw); have q0 := (Below.cell hSw (p := ⟨b2, off2 + k1 * 3, none⟩) hb2).trans m0; have q1 := (Below.cell hSw (p := ⟨b2, off2 + k1 * 3 + 1, none⟩) hb2).trans m1; have q2 := (Below.cell hSw (p := ⟨b2, off2 + k1 * 3 + 2, none⟩) hb2).trans m2; clear hSw; go_simp) <;> (with_reducible rfl))
        case hq40 => exact fun _ _ _ h => h
        simp only [List.set_cons_succ, List.set_cons_zero]
        refine call_at (i := 12) (d := 26) (oi := ?o41) (f := ?f41) (args := ?a41) ?hi41 ?hd41 (by kernel_rfl) ?hw41 ?he41 ?hc41
        case hi41 => (simp only [List.getElem?_toArray, List.getElem?_cons_succ, List.getElem?_cons_zero]; rfl)
        case hd41 => rfl
        case hw41 => rfl
        case he41 => (go_simp; constructor <;> with_reducible rfl)
        refine (rless_any z y _).mono ?_
        rintro e wv ⟨rfl, hb1⟩
        rw [show decide (LessP z y) = false from decide_eq_false HS.out.2.2.2.1]
        have kb : Below wr.heap.size wr wv := hHeld.trans (hb1.mono hHeld.size)
        refine ⟨_, rfl, kb, fun hHeld => ?_⟩
        simp only [List.set_cons_succ, List.set_cons_zero]
        refine take_at (i := 13) (d := 27) (oi := ?o42) (v := ?v42) ?hi42 ?hd42 (by kernel_rfl) (by kernel_rfl) (by kernel_rfl) ?hw42 ?hy42 ?hq42 (by assumption) ?r42
        case hi42 => (simp only [List.getElem?_toArray, List.getElem?_cons_succ, List.getElem?_cons_zero]; rfl)
        case hd42 => rfl
        case hw42 => rfl
        case hy42 => ((intro w hSw; (try dsimp only at hSw); go_simp) <;> (with_reducible rfl))
        case hq42 => exact fun _ _ _ h => h
        simp only [List.set_cons_succ, List.set_cons_zero]
        refine wpAnyH_done (by kernel_rfl) ?_ _
        have HZ := Lib.hid (below_on HS.out.1 hHeld)
        clear k0 k1' k2 m0 m1 m2 hHeld
        go_wp2_with fail
        go_meet
        exact ⟨k, rfl, hk, HS.out.2.1, .inr ⟨y, by rw [show k - 1 = k1 by have := HS.out.2.2.2.2; omega]; exact HS.out.2.2.1, HS.out.2.2.2.1⟩, HZ.out⟩
    obtain ⟨k, rfl, hk, hnb, hst, hBc⟩ := hcut
    have hrl := HI.out.2.2.2.2.2.1
    obtain ⟨hord', hperm'⟩ := ins_next HI.out.2.2.1 (by omega) (by rw [hrl]; exact hnb) hst
    have hBw := below_on HI.out.2.2.2.2.1 hBc
    have hRc := HI.out.2.2.2.2.2.on hBc hBc.size
    obtain ⟨-, k0, k1', k2⟩ := Ids.cells (HL.out.on hBw hBw.size) HI.out.1
    have hgl : b < wc.heap.size := by have := HI.out.2.1; have := hBw.size; omega
    have hcf := cut_firstI C i d k (by omega)
    obtain ⟨C2, hcr, hC2⟩ := cut_restI C i d k hk hCd
    have lo : w.heap.size ≤ wc.heap.size := hBw.size
    have HS := Lib.hid (⟨hord', ins_perm HI.out.2.2.2.1 HI.out.1 hperm', hBw, hRc, hrl⟩ : _ ∧ _ ∧ _ ∧ _ ∧ _)
    have HC2 := Lib.hid (show ∀ (W : World) (B : Nat) (r : List IdP), Ids W B C i r → Ids W B C2 (i - k) (r.drop k) from fun W B r h => hC2 h)
    clear hnb hst hBc hord' hperm' hBw hRc hrl hC2
    go_wp2_with fail
    refine wp_region_held_drew (S := (fun W => Below wc.heap.size wc W)) (by kernel_rfl) (below_dr (below_d0 _)) (fun hHeld => ?_)
    have kb : Below wc.heap.size wc wc.drew := below_dr (below_d0 _)
    obtain ⟨wp1, hW⟩ : ∃ x, x = wc.drew := ⟨_, rfl⟩
    rw [← hW] at kb hHeld ⊢
    clear hW
    refine take_at (i := 1) (d := 31) (oi := ?o43) (v := ?v43) ?hi43 ?hd43 (by kernel_rfl) (by kernel_rfl) (by kernel_rfl) ?hw43 ?hy43 ?hq43 (by assumption) ?r43
    case hi43 => (simp only [List.getElem?_toArray, List.getElem?_cons_succ, List.getElem?_cons_zero]; rfl)
    case hd43 => rfl
    case hw43 => rfl
    case hy43 => ((intro w hSw; (try dsimp only at hSw); go_simp) <;> (with_reducible rfl))
    case hq43 => exact fun _ _ _ h => h
    simp only [List.set_cons_succ, List.set_cons_zero]
    refine take_at (i := 2) (d := 32) (oi := ?o44) (v := ?v44) ?hi44 ?hd44 (by kernel_rfl) (by kernel_rfl) (by kernel_rfl) ?hw44 ?hy44 ?hq44 (by assumption) ?r44
    case hi44 => (simp only [List.getElem?_toArray, List.getElem?_cons_succ, List.getElem?_cons_zero]; rfl)
    case hd44 => rfl
    case hw44 => rfl
    case hy44 => ((intro w hSw; (try dsimp only at hSw); go_simp) <;> (with_reducible rfl))
    case hq44 => exact fun _ _ _ h => h
    simp only [List.set_cons_succ, List.set_cons_zero]
    refine take_at (i := 3) (d := 33) (oi := ?o45) (v := ?v45) ?hi45 ?hd45 (by kernel_rfl) (by kernel_rfl) (by kernel_rfl) ?hw45 ?hy45 ?hq45 (by assumption) ?r45
    case hi45 => (simp only [List.getElem?_toArray, List.getElem?_cons_succ, List.getElem?_cons_zero]; rfl)
    case hd45 => rfl
    case hw45 => rfl
    case hy45 => ((intro w hSw; (try dsimp only at hSw); go_simp) <;> (with_reducible rfl))
    case hq45 => exact fun _ _ _ h => h
    simp only [List.set_cons_succ, List.set_cons_zero]
    refine take_at (i := 5) (d := 35) (oi := ?o46) (v := ?v46) ?hi46 ?hd46 (by kernel_rfl) (by kernel_rfl) (by kernel_rfl) ?hw46 ?hy46 ?hq46 (by assumption) ?r46
    case hi46 => (simp only [List.getElem?_toArray, List.getElem?_cons_succ, List.getElem?_cons_zero]; rfl)
    case hd46 => rfl
    case hw46 => rfl
    case hy46 => ((intro w hSw; (try dsimp only at hSw); go_simp) <;> (with_reducible rfl))
    case hq46 => exact fun _ _ _ h => h
    simp only [List.set_cons_succ, List.set_cons_zero]
    refine take_at (i := 6) (d := 36) (oi := ?o47) (v := ?v47) ?hi47 ?hd47 (by kernel_rfl) (by kernel_rfl) (by kernel_rfl) ?hw47 ?hy47 ?hq47 (by assumption) ?r47
    case hi47 => (simp only [List.getElem?_toArray, List.getElem?_cons_succ, List.getElem?_cons_zero]; rfl)
    case hd47 => rfl
    case hw47 => rfl
    case hy47 => ((intro w hSw; (try dsimp only at hSw); go_simp) <;> (with_reducible rfl))
    case hq47 => exact fun _ _ _ h => h
    simp only [List.set_cons_succ, List.set_cons_zero]
    refine take_at (i := 7) (d := 37) (oi := ?o48) (v := ?v48) ?hi48 ?hd48 (by kernel_rfl) (by kernel_rfl) (by kernel_rfl) ?hw48 ?hy48 ?hq48 (by assumption) ?r48
    case hi48 => (simp only [List.getElem?_toArray, List.getElem?_cons_succ, List.getElem?_cons_zero]; rfl)
    case hd48 => rfl
    case hw48 => rfl
    case hy48 => ((intro w hSw; (try dsimp only at hSw); go_simp) <;> (with_reducible rfl))
    case hq48 => exact fun _ _ _ h => h
    simp only [List.set_cons_succ, List.set_cons_zero]
    refine take_at (i := 8) (d := 38) (oi := ?o49) (v := ?v49) ?hi49 ?hd49 (by kernel_rfl) (by kernel_rfl) (by kernel_rfl) ?hw49 ?hy49 ?hq49 (by assumption) ?r49
    case hi49 => (simp only [List.getElem?_toArray, List.getElem?_cons_succ, List.getElem?_cons_zero]; rfl)
    case hd49 => rfl
    case hw49 => rfl
    case hy49 => ((intro w hSw; (try dsimp only at hSw); have q0 := (Below.cell hSw (p := ⟨b, off + i * 3, none⟩) hgl).trans k0; have q1 := (Below.cell hSw (p := ⟨b, off + i * 3 + 1, none⟩) hgl).trans k1'; have q2 := (Below.cell hSw (p := ⟨b, off + i * 3 + 2, none⟩) hgl).trans k2; clear hSw; go_simp) <;> (with_reducible rfl))
    case hq49 => exact fun _ _ _ h => h
    simp only [List.set_cons_succ, List.set_cons_zero]
    refine take_at (i := 11) (d := 41) (oi := ?o50) (v := ?v50) ?hi50 ?hd50 (by kernel_rfl) (by kernel_rfl) (by kernel_rfl) ?hw50 ?hy50 ?hq50 (by assumption) ?r50
    case hi50 => (simp only [List.getElem?_toArray, List.getElem?_cons_succ, List.getElem?_cons_zero]; rfl)
    case hd50 => rfl
    case hw50 => rfl
    case hy50 => ((intro w hSw; (try dsimp only at hSw); go_simp) <;> (with_reducible rfl))
    case hq50 => exact fun _ _ _ h => h
    simp only [List.set_cons_succ, List.set_cons_zero]
    refine take_at (i := 12) (d := 42) (oi := ?o51) (v := ?v51) ?hi51 ?hd51 (by kernel_rfl) (by kernel_rfl) (by kernel_rfl) ?hw51 ?hy51 ?hq51 (by assumption) ?r51
    case hi51 => (simp only [List.getElem?_toArray, List.getElem?_cons_succ, List.getElem?_cons_zero]; rfl)
    case hd51 => rfl
    case hw51 => rfl
    case hy51 => ((intro w hSw; (try dsimp only at hSw); go_simp) <;> (with_reducible rfl))
    case hq51 => exact fun _ _ _ h => h
    simp only [List.set_cons_succ, List.set_cons_zero]
    refine take_at (i := 13) (d := 43) (oi := ?o52) (v := ?v52) ?hi52 ?hd52 (by kernel_rfl) (by kernel_rfl) (by kernel_rfl) ?hw52 ?hy52 ?hq52 (by assumption) ?r52
    case hi52 => (simp only [List.getElem?_toArray, List.getElem?_cons_succ, List.getElem?_cons_zero]; rfl)
    case hd52 => rfl
    case hw52 => rfl
    case hy52 => ((intro w hSw; (try dsimp only at hSw); go_simp) <;> (with_reducible rfl))
    case hq52 => exact fun _ _ _ h => h
    simp only [List.set_cons_succ, List.set_cons_zero]
    refine wpAnyH_ready (rs := [0, 9]) (by kernel_rfl) (by simp) ?_
    apply two_ready
    · skip
      obtain ⟨g0, hg0⟩ : ∃ g, g = wp1.heap.size := ⟨_, rfl⟩
      obtain ⟨wp2, hWn⟩ : ∃ x, x = wp1.alloc (.cells #[] 23) := ⟨_, rfl⟩
      have hb : Below wp1.heap.size wp1 wp2 := by rw [hWn]; exact below_al (below_d0 _) _
      have log0 : wc.heap.size ≤ g0 := by rw [hg0]; exact kb.size
      have upg0 : g0 < wp2.heap.size := by rw [hWn, hg0]; simp
      have kbn : Below wc.heap.size wc wp2 := below_on kb hb
      have own0 : wp2.ownsRow w.heap.size 23 3 (.slice (some ⟨g0, 0, none⟩) 0 0) 0 [] := by rw [hWn]; exact own_emptyG hg0 (by have := kb.size; omega)
      refine br_val (i := 0) (d := 30) (oi := ?o53) (v := (.slice (some ⟨g0, 0, none⟩) 0 0)) (w' := wp2) ?hi53 ?hd53 ?hw53 ?he53 kbn ?hc53
      case hi53 => (simp only [List.getElem?_toArray, List.getElem?_cons_zero]; rfl)
      case hd53 => rfl
      case hw53 => rfl
      case he53 => (rw [hg0, hWn]; go_simp)
      clear hHeld kb hb hWn hg0
      have kb := kbn
      clear kbn
      intro hHeld
      simp only [List.set_cons_succ, List.set_cons_zero]
      refine wpAnyH_ready (rs := [4, 9]) (by kernel_rfl) (by simp) ?_
      apply two_ready
      · skip
        obtain ⟨vA, wp3, hrunA, LA⟩ := run_append (P := Tryd.prog) (t := 25) (ty := 25) (c := d) Tryd.underlying25 hi0 hz0 hz1 hz2 ident_cells (by omega) own0 (((HS.out.2.2.2.1.on kb kb.size).first hk).source (by omega) IdP.len IdP.one) (by unfold maxLen; omega) (by omega) (by have := kb.size; omega)
        have kbn : Below wc.heap.size wc wp3 := LA.below kb kb.size (fun g hg => by simp [Value.ownBlock] at hg; omega)
        have newA : ∀ g, vA.ownBlock = some g → wc.heap.size ≤ g := LA.new (fun g hg => by simp [Value.ownBlock] at hg; omega) kb.size
        have ownA := LA.1
        rw [Nat.zero_add, List.nil_append] at ownA
        refine br_val (i := 4) (d := 34) (oi := ?o54) (v := vA) (w' := wp3) ?hi54 ?hd54 ?hw54 ?he54 kbn ?hc54
        case hi54 => (simp only [List.getElem?_toArray, List.getElem?_cons_succ, List.getElem?_cons_zero]; rfl)
        case hd54 => rfl
        case hw54 => rfl
        case he54 => (exact exec_append rfl rfl rfl hrunA)
        clear hHeld kb hrunA LA own0
        have kb := kbn
        clear kbn
        intro hHeld
        simp only [List.set_cons_succ, List.set_cons_zero]
        refine wpAnyH_ready (rs := [9]) (by kernel_rfl) (by simp) ?_
        obtain ⟨g9, hg9⟩ : ∃ g, g = wp3.heap.size := ⟨_, rfl⟩
        obtain ⟨wp4, hWn⟩ : ∃ x, x = wp3.alloc (.cells #[.int .u8 z.kind, .int .i64 z.seq, .int .i64 z.fmt] 23) := ⟨_, rfl⟩
        have hb : Below wp3.heap.size wp3 wp4 := by rw [hWn]; exact below_al (below_d0 _) _
        have log9 : wc.heap.size ≤ g9 := by rw [hg9]; exact kb.size
        have upg9 : g9 < wp4.heap.size := by rw [hWn, hg9]; simp
        have kbn : Below wc.heap.size wc wp4 := below_on kb hb
        have src : Source wp4 3 (some ⟨g9, 0, none⟩) 1 z.cs := by rw [hWn]; exact Source.one (cs := z.cs) rfl (IdP.one z) hg9
        replace ownA := own_on ownA hb
        refine br_val (i := 9) (d := 39) (oi := ?o55) (v := (.slice (some ⟨g9, 0, none⟩) 1 1)) (w' := wp4) ?hi55 ?hd55 ?hw55 ?he55 kbn ?hc55
        case hi55 => (simp only [List.getElem?_toArray, List.getElem?_cons_succ, List.getElem?_cons_zero]; rfl)
        case hd55 => rfl
        case hw55 => rfl
        case he55 => (rw [hg9, hWn]; go_simp)
        clear hHeld kb hb hWn hg9
        have kb := kbn
        clear kbn
        intro hHeld
        simp only [List.set_cons_succ, List.set_cons_zero]
        refine wpAnyH_ready (rs := [10]) (by kernel_rfl) (by simp) ?_
        obtain ⟨vB, wp5, hrunB, LB⟩ := run_append (P := Tryd.prog) (t := 25) (ty := 25) (c := 1) Tryd.underlying25 hi0 hz0 hz1 hz2 ident_cells (by omega) ownA (src) (by unfold maxLen; omega) (by omega) (by have := kb.size; omega)
        have kbn : Below wc.heap.size wc wp5 := LB.below kb kb.size newA
        have newB : ∀ g, vB.ownBlock = some g → wc.heap.size ≤ g := LB.new newA kb.size
        have ownB := LB.1
        refine br_val (i := 10) (d := 40) (oi := ?o56) (v := vB) (w' := wp5) ?hi56 ?hd56 ?hw56 ?he56 kbn ?hc56
        case hi56 => (simp only [List.getElem?_toArray, List.getElem?_cons_succ, List.getElem?_cons_zero]; rfl)
        case hd56 => rfl
        case hw56 => rfl
        case he56 => (exact exec_append rfl rfl rfl hrunB)
        clear hHeld kb hrunB LB ownA
        have kb := kbn
        clear kbn
        intro hHeld
        simp only [List.set_cons_succ, List.set_cons_zero]
        refine wpAnyH_ready (rs := [14]) (by kernel_rfl) (by simp) ?_
        obtain ⟨vC, wp6, hrunC, LC⟩ := run_append (P := Tryd.prog) (t := 25) (ty := 25) (c := (d - k)) Tryd.underlying25 hi0 hz0 hz1 hz2 ident_cells (by omega) ownB ((HC2.out _ _ _ (HS.out.2.2.2.1.on kb kb.size)).source (by omega) IdP.len IdP.one) (by unfold maxLen; omega) (by omega) (by have := kb.size; omega)
        have kbn : Below wc.heap.size wc wp6 := LC.below kb kb.size newB
        have newC : ∀ g, vC.ownBlock = some g → wc.heap.size ≤ g := LC.new newB kb.size
        have ownC := LC.1
        refine br_val (i := 14) (d := 44) (oi := ?o57) (v := vC) (w' := wp6) ?hi57 ?hd57 ?hw57 ?he57 kbn ?hc57
        case hi57 => (simp only [List.getElem?_toArray, List.getElem?_cons_succ, List.getElem?_cons_zero]; rfl)
        case hd57 => rfl
        case hw57 => rfl
        case he57 => (exact exec_append rfl rfl rfl hrunC)
        clear hHeld kb hrunC LC ownB
        have kb := kbn
        clear kbn
        intro hHeld
        simp only [List.set_cons_succ, List.set_cons_zero]
        refine take_at (i := 15) (d := 3) (oi := ?o58) (v := ?v58) ?hi58 ?hd58 (by kernel_rfl) (by kernel_rfl) (by kernel_rfl) ?hw58 ?hy58 ?hq58 (by assumption) ?r58
        case hi58 => (simp only [List.getElem?_toArray, List.getElem?_cons_succ, List.getElem?_cons_zero]; rfl)
        case hd58 => rfl
        case hw58 => rfl
        case hy58 => ((intro w hSw; (try dsimp only at hSw); go_simp) <;> (with_reducible rfl))
        case hq58 => exact fun _ _ _ h => h
        simp only [List.set_cons_succ, List.set_cons_zero]
        refine wpAnyH_done (by kernel_rfl) ?_ _
        have own' : wp6.ownsRow w.heap.size 23 3 vC (i + 1) ((r.take k ++ ([z] ++ r.drop k)).flatMap IdP.cs) := by
          have h := ownC
          rw [show k + 1 + (i - k) = i + 1 by omega] at h
          simpa [List.flatMap_append, List.append_assoc] using h
        have HE := Lib.hid (⟨own', below_on HS.out.2.2.1 kb⟩ : _ ∧ _)
        clear own' ownC kb hHeld k0 k1' k2 hcf hcr
        go_wp2_with fail
        go_roundw
        case rel => exact ⟨i + 1, _, by omega, by go_num, HE.out.1, HS.out.1, HS.out.2.1, HE.out.2⟩
        case measure => simp [intOf]; omega
      obtain ⟨g9, hg9⟩ : ∃ g, g = wp2.heap.size := ⟨_, rfl⟩
      obtain ⟨wp7, hWn⟩ : ∃ x, x = wp2.alloc (.cells #[.int .u8 z.kind, .int .i64 z.seq, .int .i64 z.fmt] 23) := ⟨_, rfl⟩
      have hb : Below wp2.heap.size wp2 wp7 := by rw [hWn]; exact below_al (below_d0 _) _
      have log9 : wc.heap.size ≤ g9 := by rw [hg9]; exact kb.size
      have upg9 : g9 < wp7.heap.size := by rw [hWn, hg9]; simp
      have kbn : Below wc.heap.size wc wp7 := below_on kb hb
      have src : Source wp7 3 (some ⟨g9, 0, none⟩) 1 z.cs := by rw [hWn]; exact Source.one (cs := z.cs) rfl (IdP.one z) hg9
      have ne9 : g0 ≠ g9 := by have := upg0; omega
      replace own0 := own_on own0 hb
      clear upg0
      refine br_val (i := 9) (d := 39) (oi := ?o59) (v := (.slice (some ⟨g9, 0, none⟩) 1 1)) (w' := wp7) ?hi59 ?hd59 ?hw59 ?he59 kbn ?hc59
      case hi59 => (simp only [List.getElem?_toArray, List.getElem?_cons_succ, List.getElem?_cons_zero]; rfl)
      case hd59 => rfl
      case hw59 => rfl
      case he59 => (rw [hg9, hWn]; go_simp)
      clear hHeld kb hb hWn hg9
      have kb := kbn
      clear kbn
      intro hHeld
      simp only [List.set_cons_succ, List.set_cons_zero]
      refine wpAnyH_ready (rs := [4]) (by kernel_rfl) (by simp) ?_
      obtain ⟨vA, wp8, hrunA, LA⟩ := run_append (P := Tryd.prog) (t := 25) (ty := 25) (c := d) Tryd.underlying25 hi0 hz0 hz1 hz2 ident_cells (by omega) own0 (((HS.out.2.2.2.1.on kb kb.size).first hk).source (by omega) IdP.len IdP.one) (by unfold maxLen; omega) (by omega) (by have := kb.size; omega)
      have kbn : Below wc.heap.size wc wp8 := LA.below kb kb.size (fun g hg => by simp [Value.ownBlock] at hg; omega)
      have newA : ∀ g, vA.ownBlock = some g → wc.heap.size ≤ g := LA.new (fun g hg => by simp [Value.ownBlock] at hg; omega) kb.size
      have ownA := LA.1
      rw [Nat.zero_add, List.nil_append] at ownA
      replace src := src.grown LA.2.1 (by simp [Value.ownBlock]; omega)
      refine br_val (i := 4) (d := 34) (oi := ?o60) (v := vA) (w' := wp8) ?hi60 ?hd60 ?hw60 ?he60 kbn ?hc60
      case hi60 => (simp only [List.getElem?_toArray, List.getElem?_cons_succ, List.getElem?_cons_zero]; rfl)
      case hd60 => rfl
      case hw60 => rfl
      case he60 => (exact exec_append rfl rfl rfl hrunA)
      clear hHeld kb hrunA LA own0
      have kb := kbn
      clear kbn
      intro hHeld
      simp only [List.set_cons_succ, List.set_cons_zero]
      refine wpAnyH_ready (rs := [10]) (by kernel_rfl) (by simp) ?_
      obtain ⟨vB, wp9, hrunB, LB⟩ := run_append (P := Tryd.prog) (t := 25) (ty := 25) (c := 1) Tryd.underlying25 hi0 hz0 hz1 hz2 ident_cells (by omega) ownA (src) (by unfold maxLen; omega) (by omega) (by have := kb.size; omega)
      have kbn : Below wc.heap.size wc wp9 := LB.below kb kb.size newA
      have newB : ∀ g, vB.ownBlock = some g → wc.heap.size ≤ g := LB.new newA kb.size
      have ownB := LB.1
      refine br_val (i := 10) (d := 40) (oi := ?o61) (v := vB) (w' := wp9) ?hi61 ?hd61 ?hw61 ?he61 kbn ?hc61
      case hi61 => (simp only [List.getElem?_toArray, List.getElem?_cons_succ, List.getElem?_cons_zero]; rfl)
      case hd61 => rfl
      case hw61 => rfl
      case he61 => (exact exec_append rfl rfl rfl hrunB)
      clear hHeld kb hrunB LB ownA
      have kb := kbn
      clear kbn
      intro hHeld
      simp only [List.set_cons_succ, List.set_cons_zero]
      refine wpAnyH_ready (rs := [14]) (by kernel_rfl) (by simp) ?_
      obtain ⟨vC, wp10, hrunC, LC⟩ := run_append (P := Tryd.prog) (t := 25) (ty := 25) (c := (d - k)) Tryd.underlying25 hi0 hz0 hz1 hz2 ident_cells (by omega) ownB ((HC2.out _ _ _ (HS.out.2.2.2.1.on kb kb.size)).source (by omega) IdP.len IdP.one) (by unfold maxLen; omega) (by omega) (by have := kb.size; omega)
      have kbn : Below wc.heap.size wc wp10 := LC.below kb kb.size newB
      have newC : ∀ g, vC.ownBlock = some g → wc.heap.size ≤ g := LC.new newB kb.size
      have ownC := LC.1
      refine br_val (i := 14) (d := 44) (oi := ?o62) (v := vC) (w' := wp10) ?hi62 ?hd62 ?hw62 ?he62 kbn ?hc62
      case hi62 => (simp only [List.getElem?_toArray, List.getElem?_cons_succ, List.getElem?_cons_zero]; rfl)
      case hd62 => rfl
      case hw62 => rfl
      case he62 => (exact exec_append rfl rfl rfl hrunC)
      clear hHeld kb hrunC LC ownB
      have kb := kbn
      clear kbn
      intro hHeld
      simp only [List.set_cons_succ, List.set_cons_zero]
      refine take_at (i := 15) (d := 3) (oi := ?o63) (v := ?v63) ?hi63 ?hd63 (by kernel_rfl) (by kernel_rfl) (by kernel_rfl) ?hw63 ?hy63 ?hq63 (by assumption) ?r63
      case hi63 => (simp only [List.getElem?_toArray, List.getElem?_cons_succ, List.getElem?_cons_zero]; rfl)
      case hd63 => rfl
      case hw63 => rfl
      case hy63 => ((intro w hSw; (try dsimp only at hSw); go_simp) <;> (with_reducible rfl))
      case hq63 => exact fun _ _ _ h => h
      simp only [List.set_cons_succ, List.set_cons_zero]
      refine wpAnyH_done (by kernel_rfl) ?_ _
      have own' : wp10.ownsRow w.heap.size 23 3 vC (i + 1) ((r.take k ++ ([z] ++ r.drop k)).flatMap IdP.cs) := by
        have h := ownC
        rw [show k + 1 + (i - k) = i + 1 by omega] at h
        simpa [List.flatMap_append, List.append_assoc] using h
      have HE := Lib.hid (⟨own', below_on HS.out.2.2.1 kb⟩ : _ ∧ _)
      clear own' ownC kb hHeld k0 k1' k2 hcf hcr
      go_wp2_with fail
      go_roundw
      case rel => exact ⟨i + 1, _, by omega, by go_num, HE.out.1, HS.out.1, HS.out.2.1, HE.out.2⟩
      case measure => simp [intOf]; omega
    obtain ⟨g9, hg9⟩ : ∃ g, g = wp1.heap.size := ⟨_, rfl⟩
    obtain ⟨wp11, hWn⟩ : ∃ x, x = wp1.alloc (.cells #[.int .u8 z.kind, .int .i64 z.seq, .int .i64 z.fmt] 23) := ⟨_, rfl⟩
    have hb : Below wp1.heap.size wp1 wp11 := by rw [hWn]; exact below_al (below_d0 _) _
    have log9 : wc.heap.size ≤ g9 := by rw [hg9]; exact kb.size
    have upg9 : g9 < wp11.heap.size := by rw [hWn, hg9]; simp
    have kbn : Below wc.heap.size wc wp11 := below_on kb hb
    have src : Source wp11 3 (some ⟨g9, 0, none⟩) 1 z.cs := by rw [hWn]; exact Source.one (cs := z.cs) rfl (IdP.one z) hg9
    refine br_val (i := 9) (d := 39) (oi := ?o64) (v := (.slice (some ⟨g9, 0, none⟩) 1 1)) (w' := wp11) ?hi64 ?hd64 ?hw64 ?he64 kbn ?hc64
    case hi64 => (simp only [List.getElem?_toArray, List.getElem?_cons_succ, List.getElem?_cons_zero]; rfl)
    case hd64 => rfl
    case hw64 => rfl
    case he64 => (rw [hg9, hWn]; go_simp)
    clear hHeld kb hb hWn hg9
    have kb := kbn
    clear kbn
    intro hHeld
    simp only [List.set_cons_succ, List.set_cons_zero]
    refine wpAnyH_ready (rs := [0]) (by kernel_rfl) (by simp) ?_
    obtain ⟨g0, hg0⟩ : ∃ g, g = wp11.heap.size := ⟨_, rfl⟩
    obtain ⟨wp12, hWn⟩ : ∃ x, x = wp11.alloc (.cells #[] 23) := ⟨_, rfl⟩
    have hb : Below wp11.heap.size wp11 wp12 := by rw [hWn]; exact below_al (below_d0 _) _
    have log0 : wc.heap.size ≤ g0 := by rw [hg0]; exact kb.size
    have upg0 : g0 < wp12.heap.size := by rw [hWn, hg0]; simp
    have kbn : Below wc.heap.size wc wp12 := below_on kb hb
    have own0 : wp12.ownsRow w.heap.size 23 3 (.slice (some ⟨g0, 0, none⟩) 0 0) 0 [] := by rw [hWn]; exact own_emptyG hg0 (by have := kb.size; omega)
    have ne9 : g0 ≠ g9 := by have := upg9; omega
    replace src := src.on hb
    clear upg9
    refine br_val (i := 0) (d := 30) (oi := ?o65) (v := (.slice (some ⟨g0, 0, none⟩) 0 0)) (w' := wp12) ?hi65 ?hd65 ?hw65 ?he65 kbn ?hc65
    case hi65 => (simp only [List.getElem?_toArray, List.getElem?_cons_zero]; rfl)
    case hd65 => rfl
    case hw65 => rfl
    case he65 => (rw [hg0, hWn]; go_simp)
    clear hHeld kb hb hWn hg0
    have kb := kbn
    clear kbn
    intro hHeld
    simp only [List.set_cons_succ, List.set_cons_zero]
    refine wpAnyH_ready (rs := [4]) (by kernel_rfl) (by simp) ?_
    obtain ⟨vA, wp13, hrunA, LA⟩ := run_append (P := Tryd.prog) (t := 25) (ty := 25) (c := d) Tryd.underlying25 hi0 hz0 hz1 hz2 ident_cells (by omega) own0 (((HS.out.2.2.2.1.on kb kb.size).first hk).source (by omega) IdP.len IdP.one) (by unfold maxLen; omega) (by omega) (by have := kb.size; omega)
    have kbn : Below wc.heap.size wc wp13 := LA.below kb kb.size (fun g hg => by simp [Value.ownBlock] at hg; omega)
    have newA : ∀ g, vA.ownBlock = some g → wc.heap.size ≤ g := LA.new (fun g hg => by simp [Value.ownBlock] at hg; omega) kb.size
    have ownA := LA.1
    rw [Nat.zero_add, List.nil_append] at ownA
    replace src := src.grown LA.2.1 (by simp [Value.ownBlock]; omega)
    refine br_val (i := 4) (d := 34) (oi := ?o66) (v := vA) (w' := wp13) ?hi66 ?hd66 ?hw66 ?he66 kbn ?hc66
    case hi66 => (simp only [List.getElem?_toArray, List.getElem?_cons_succ, List.getElem?_cons_zero]; rfl)
    case hd66 => rfl
    case hw66 => rfl
    case he66 => (exact exec_append rfl rfl rfl hrunA)
    clear hHeld kb hrunA LA own0
    have kb := kbn
    clear kbn
    intro hHeld
    simp only [List.set_cons_succ, List.set_cons_zero]
    refine wpAnyH_ready (rs := [10]) (by kernel_rfl) (by simp) ?_
    obtain ⟨vB, wp14, hrunB, LB⟩ := run_append (P := Tryd.prog) (t := 25) (ty := 25) (c := 1) Tryd.underlying25 hi0 hz0 hz1 hz2 ident_cells (by omega) ownA (src) (by unfold maxLen; omega) (by omega) (by have := kb.size; omega)
    have kbn : Below wc.heap.size wc wp14 := LB.below kb kb.size newA
    have newB : ∀ g, vB.ownBlock = some g → wc.heap.size ≤ g := LB.new newA kb.size
    have ownB := LB.1
    refine br_val (i := 10) (d := 40) (oi := ?o67) (v := vB) (w' := wp14) ?hi67 ?hd67 ?hw67 ?he67 kbn ?hc67
    case hi67 => (simp only [List.getElem?_toArray, List.getElem?_cons_succ, List.getElem?_cons_zero]; rfl)
    case hd67 => rfl
    case hw67 => rfl
    case he67 => (exact exec_append rfl rfl rfl hrunB)
    clear hHeld kb hrunB LB ownA
    have kb := kbn
    clear kbn
    intro hHeld
    simp only [List.set_cons_succ, List.set_cons_zero]
    refine wpAnyH_ready (rs := [14]) (by kernel_rfl) (by simp) ?_
    obtain ⟨vC, wp15, hrunC, LC⟩ := run_append (P := Tryd.prog) (t := 25) (ty := 25) (c := (d - k)) Tryd.underlying25 hi0 hz0 hz1 hz2 ident_cells (by omega) ownB ((HC2.out _ _ _ (HS.out.2.2.2.1.on kb kb.size)).source (by omega) IdP.len IdP.one) (by unfold maxLen; omega) (by omega) (by have := kb.size; omega)
    have kbn : Below wc.heap.size wc wp15 := LC.below kb kb.size newB
    have newC : ∀ g, vC.ownBlock = some g → wc.heap.size ≤ g := LC.new newB kb.size
    have ownC := LC.1
    refine br_val (i := 14) (d := 44) (oi := ?o68) (v := vC) (w' := wp15) ?hi68 ?hd68 ?hw68 ?he68 kbn ?hc68
    case hi68 => (simp only [List.getElem?_toArray, List.getElem?_cons_succ, List.getElem?_cons_zero]; rfl)
    case hd68 => rfl
    case hw68 => rfl
    case he68 => (exact exec_append rfl rfl rfl hrunC)
    clear hHeld kb hrunC LC ownB
    have kb := kbn
    clear kbn
    intro hHeld
    simp only [List.set_cons_succ, List.set_cons_zero]
    refine take_at (i := 15) (d := 3) (oi := ?o69) (v := ?v69) ?hi69 ?hd69 (by kernel_rfl) (by kernel_rfl) (by kernel_rfl) ?hw69 ?hy69 ?hq69 (by assumption) ?r69
    case hi69 => (simp only [List.getElem?_toArray, List.getElem?_cons_succ, List.getElem?_cons_zero]; rfl)
    case hd69 => rfl
    case hw69 => rfl
    case hy69 => ((intro w hSw; (try dsimp only at hSw); go_simp) <;> (with_reducible rfl))
    case hq69 => exact fun _ _ _ h => h
    simp only [List.set_cons_succ, List.set_cons_zero]
    refine wpAnyH_done (by kernel_rfl) ?_ _
    have own' : wp15.ownsRow w.heap.size 23 3 vC (i + 1) ((r.take k ++ ([z] ++ r.drop k)).flatMap IdP.cs) := by
      have h := ownC
      rw [show k + 1 + (i - k) = i + 1 by omega] at h
      simpa [List.flatMap_append, List.append_assoc] using h
    have HE := Lib.hid (⟨own', below_on HS.out.2.2.1 kb⟩ : _ ∧ _)
    clear own' ownC kb hHeld k0 k1' k2 hcf hcr
    go_wp2_with fail
    go_roundw
    case rel => exact ⟨i + 1, _, by omega, by go_num, HE.out.1, HS.out.1, HS.out.2.1, HE.out.2⟩
    case measure => simp [intOf]; omega
  · obtain rfl : i = n := by omega
    rw [List.take_of_length_le (by rw [L1.out]; exact Nat.le_refl _)] at hperm
    have HI := Lib.hid (⟨hrow, hord, hperm, hB, hCd⟩ : _ ∧ _ ∧ _ ∧ _ ∧ _)
    clear hrow hord hperm hB hCd
    go_wp2_with fail
    go_ret
    exact ⟨⟨C, d, r, rfl, HI.out.2.2.2.2, Row.of_own (by omega) IdP.len HI.out.1, HI.out.2.1, HI.out.2.2.1⟩, HI.out.2.2.2.1⟩

end Go.Proofs.YtbfdjjkphmchgaaDoor
