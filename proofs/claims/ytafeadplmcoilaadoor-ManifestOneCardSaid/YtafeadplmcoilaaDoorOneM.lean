/-
  ManifestOne: the main way.
-/
import Derived.Test.YtafeadplmcoilaaDoorWakesM
import Derived.Test.YtafeadplmcoilaaDoorManK
import Derived.Test.YtafeadplmcoilaaDoorOneA
import Derived.Deep.DeepCutAuto
namespace Go.Proofs.YtafeadplmcoilaaDoor
open Go.RowKit
set_option linter.unusedVariables false
set_option linter.unusedSimpArgs false
set_option maxRecDepth 100000 in
set_option maxHeartbeats 8000000 in
theorem one_main (m : ManP) (A : Option Addr) (n c : Nat) (at_ k : Int) (w : World) (hT : Cr.Tab w) (hS : Sg w w.heap.size A n m.sg) (hg : n ≤ 59) (hM : May m) (hk : 1 ≤ k) (hk2 : k ≤ 1073741824) :
    Calls Tryd.prog 7 #[manV m (.slice A n c), .int .i64 at_, .int .i64 k] w fun e w' => e = .returned (.bool true) ∧ Below w.heap.size w w' := by
  have HT := Lib.hid hT
  clear hT
  have t0 : decide ((59 : Int) < (n : Int)) = false := by simp; omega
  have t1 : decide (k < (1 : Int)) = false := by simp; omega
  have t2 : decide ((1073741824 : Int) < k) = false := by simp; omega
  have HM := Lib.hid (⟨hM, hk, hk2⟩ : _ ∧ _ ∧ _)
  clear hM
  obtain ⟨z1, hz1⟩ : ∃ z, z = w.heap.size := ⟨_, rfl⟩
  obtain ⟨w1, hw1⟩ : ∃ x, x = w.alloc (.cells #[.int .i64 m.nx, .int .i64 m.tm, .int .i64 m.vt, .int .i64 m.ss, .int .i64 m.sf, .slice A n c] 26) := ⟨_, rfl⟩
  have bb : Below w.heap.size w w1 := by rw [hw1]; exact below_al (below_d0 _) _
  have bz : BoxM w1 z1 m (.slice A n c) := by rw [hw1, hz1]; exact BoxM.new w m _
  replace hS := hS.on bb bb.size
  have B1 := bb
  clear bb
  have HE := Lib.hid (⟨hw1, hz1⟩ : _ ∧ _)
  clear hw1 hz1
  unfold manV
  go_enter Tryd.func7, Tryd.ntmps7
  go_wp2_with fail
  rw [← HE.out.1, ← HE.out.2]
  clear HE
  refine Calls.mono (show Calls Tryd.prog 19 #[.agg #[.int .i64 m.nx, .int .i64 m.tm, .int .i64 m.vt, .int .i64 m.ss, .int .i64 m.sf, .slice A n c]] w1 (fun e w' => (∃ r, CheckIs m r ∧ e = .returned (.int .i64 r)) ∧ Below w1.heap.size w1 w') from rcheck_any m A n c w1 hS (by omega)) ?_
  intro e w2 hh
  obtain ⟨⟨r, hr, rfl⟩, bb⟩ := hh
  (try clear hh)
  replace bz := bz.below bb
  replace hS := hS.on bb bb.size
  have B2 := B1.trans (bb.mono B1.size)
  clear bb B1
  obtain rfl := hr.same (.inl ⟨HM.out.1, rfl⟩)
  clear hr
  go_wp2_with fail
  clear t0 t1 t2
  have HZ := Lib.hid (fun (W : World) (hW : Below w2.heap.size w2 W) => (bz.below hW).cells)
  have HOwn := Lib.hid (fun (W : World) (hW : Below w2.heap.size w2 W) => (show Calls Tryd.prog 28 #[.agg #[.int .i64 m.nx, .int .i64 m.tm, .int .i64 m.vt, .int .i64 m.ss, .int .i64 m.sf, .slice A n c]] W (fun e w' => (∃ A' c', e = .returned (manV m (.slice A' n c')) ∧ n ≤ c' ∧ OwnS w' W.heap.size (.slice A' n c') n m.sg) ∧ Below W.heap.size W w') from rown_any m A n c W (hS.on hW hW.size) (by omega)))
  have HS0 := Lib.hid (⟨hS, bz, B2⟩ : _ ∧ _ ∧ _)
  clear hS bz B2
  refine wp_region_held_drew (S := (fun W => Below w2.heap.size w2 W)) (by kernel_rfl) ((Below.refl _ _).drew) (fun hHeld => ?_)
  refine take_at (i := 0) (d := 32) (oi := ?o1) (v := ?v1) ?hi1 ?hd1 (by kernel_rfl) (by kernel_rfl) (by kernel_rfl) ?hw1 ?hy1 ?hq1 (by assumption) ?r1
  case hi1 => (simp only [List.getElem?_toArray, List.getElem?_cons_zero]; rfl)
  case hd1 => rfl
  case hw1 => rfl
  case hy1 => ((intro w hSw; (try dsimp only at hSw); obtain ⟨s0, s1, s2, s3, s4, s5⟩ := HZ.out w hSw; go_simp) <;> (with_reducible rfl))
  case hq1 => exact fun _ _ _ h => h
  simp only [List.set_cons_succ, List.set_cons_zero]
  refine take_at (i := 2) (d := 34) (oi := ?o2) (v := ?v2) ?hi2 ?hd2 (by kernel_rfl) (by kernel_rfl) (by kernel_rfl) ?hw2 ?hy2 ?hq2 (by assumption) ?r2
  case hi2 => (simp only [List.getElem?_toArray, List.getElem?_cons_succ, List.getElem?_cons_zero]; rfl)
  case hd2 => rfl
  case hw2 => rfl
  case hy2 => ((intro w hSw; (try dsimp only at hSw); obtain ⟨s0, s1, s2, s3, s4, s5⟩ := HZ.out w hSw; go_simp) <;> (with_reducible rfl))
  case hq2 => exact fun _ _ _ h => h
  simp only [List.set_cons_succ, List.set_cons_zero]
  refine take_at (i := 4) (d := 36) (oi := ?o3) (v := ?v3) ?hi3 ?hd3 (by kernel_rfl) (by kernel_rfl) (by kernel_rfl) ?hw3 ?hy3 ?hq3 (by assumption) ?r3
  case hi3 => (simp only [List.getElem?_toArray, List.getElem?_cons_succ, List.getElem?_cons_zero]; rfl)
  case hd3 => rfl
  case hw3 => rfl
  case hy3 => ((intro w hSw; (try dsimp only at hSw); obtain ⟨s0, s1, s2, s3, s4, s5⟩ := HZ.out w hSw; go_simp) <;> (with_reducible rfl))
  case hq3 => exact fun _ _ _ h => h
  simp only [List.set_cons_succ, List.set_cons_zero]
  refine take_at (i := 6) (d := 38) (oi := ?o4) (v := ?v4) ?hi4 ?hd4 (by kernel_rfl) (by kernel_rfl) (by kernel_rfl) ?hw4 ?hy4 ?hq4 (by assumption) ?r4
  case hi4 => (simp only [List.getElem?_toArray, List.getElem?_cons_succ, List.getElem?_cons_zero]; rfl)
  case hd4 => rfl
  case hw4 => rfl
  case hy4 => ((intro w hSw; (try dsimp only at hSw); obtain ⟨s0, s1, s2, s3, s4, s5⟩ := HZ.out w hSw; go_simp) <;> (with_reducible rfl))
  case hq4 => exact fun _ _ _ h => h
  simp only [List.set_cons_succ, List.set_cons_zero]
  refine name_lst (l' := lst 0 false false false false) (by kernel_rfl) ?_
  refine name_ops fun ops hops => ?_
  have HT3 := Lib.hid (show tbl3 ops = true by rw [hops]; kernel_rfl)
  generalize hQ : Exit.then _ _ = QQ
  suffices rest : ∀ (u7 u8 u9 u10 u33 u35 u37 u39 : Value) (W : World), R3 m n w2.heap.size 4 true true true true u7 u8 u9 u10 u33 u35 u37 u39 W → Below w2.heap.size w2 W → wpAnyH Tryd.prog .any ops QQ (fun W => Below w2.heap.size w2 W) 4 (lst 4 true true true true) ⟨(.agg #[.int .i64 m.nx, .int .i64 m.tm, .int .i64 m.vt, .int .i64 m.ss, .int .i64 m.sf, .slice A n c] :: .int .i64 at_ :: .int .i64 k :: .pointer (some ⟨z1, 0, none⟩) :: undef :: undef :: .bool false :: u7 :: u8 :: u9 :: u10 :: undef :: undef :: undef :: .pointer (some ⟨z1, 5, none⟩) :: .slice A n c :: .int .i64 n :: .bool false :: .bool false :: .agg #[.int .i64 m.nx, .int .i64 m.tm, .int .i64 m.vt, .int .i64 m.ss, .int .i64 m.sf, .slice A n c] :: .int .i64 0 :: .bool false :: .bool false :: .bool false :: .int .i64 k :: .bool false :: .bool false :: .bool false :: .int .i64 k :: .bool false :: .bool false :: undef :: .agg #[.int .i64 m.nx, .int .i64 m.tm, .int .i64 m.vt, .int .i64 m.ss, .int .i64 m.sf, .slice A n c] :: u33 :: .agg #[.int .i64 m.nx, .int .i64 m.tm, .int .i64 m.vt, .int .i64 m.ss, .int .i64 m.sf, .slice A n c] :: u35 :: .agg #[.int .i64 m.nx, .int .i64 m.tm, .int .i64 m.vt, .int .i64 m.ss, .int .i64 m.sf, .slice A n c] :: u37 :: .agg #[.int .i64 m.nx, .int .i64 m.tm, .int .i64 m.vt, .int .i64 m.ss, .int .i64 m.sf, .slice A n c] :: u39 :: undef :: undef :: undef :: undef :: undef :: undef :: undef :: undef :: undef :: undef :: undef :: undef :: undef :: undef :: undef :: undef :: undef :: undef :: undef :: undef :: undef :: undef :: undef :: undef :: undef :: undef :: undef :: undef :: undef :: undef :: undef :: undef :: undef :: undef :: undef :: undef :: undef :: undef :: undef :: undef :: undef :: undef :: undef :: undef :: undef :: undef :: undef :: undef :: undef :: undef :: undef :: undef :: undef :: undef :: undef :: undef :: undef :: undef :: undef :: undef :: undef :: undef :: undef :: undef :: undef :: undef :: undef :: undef :: undef :: undef :: undef :: undef :: undef :: undef :: undef :: undef :: undef :: undef :: undef :: undef :: undef :: undef :: undef :: undef :: undef :: undef :: undef :: undef :: undef :: undef :: undef :: undef :: undef :: undef :: undef :: undef :: undef :: undef :: undef :: undef :: undef :: undef :: undef :: undef :: undef :: undef :: undef :: undef :: undef :: undef :: undef :: undef :: undef :: undef :: undef :: undef :: undef :: undef :: undef :: undef :: undef :: undef :: undef :: undef :: undef :: undef :: undef :: []).toArray, []⟩ W by
    have key : ∀ (q c1 : Nat) (a b d e : Bool) (u7 u8 u9 u10 u33 u35 u37 u39 : Value) (W : World), R3 m n w2.heap.size c1 a b d e u7 u8 u9 u10 u33 u35 u37 u39 W → c1 ≤ 4 → (4 - c1) + (1 - a.toNat) + (1 - b.toNat) + (1 - d.toNat) + (1 - e.toNat) = q → Below w2.heap.size w2 W → wpAnyH Tryd.prog .any ops QQ (fun W => Below w2.heap.size w2 W) (q + 4) (lst c1 a b d e) ⟨(.agg #[.int .i64 m.nx, .int .i64 m.tm, .int .i64 m.vt, .int .i64 m.ss, .int .i64 m.sf, .slice A n c] :: .int .i64 at_ :: .int .i64 k :: .pointer (some ⟨z1, 0, none⟩) :: undef :: undef :: .bool false :: u7 :: u8 :: u9 :: u10 :: undef :: undef :: undef :: .pointer (some ⟨z1, 5, none⟩) :: .slice A n c :: .int .i64 n :: .bool false :: .bool false :: .agg #[.int .i64 m.nx, .int .i64 m.tm, .int .i64 m.vt, .int .i64 m.ss, .int .i64 m.sf, .slice A n c] :: .int .i64 0 :: .bool false :: .bool false :: .bool false :: .int .i64 k :: .bool false :: .bool false :: .bool false :: .int .i64 k :: .bool false :: .bool false :: undef :: .agg #[.int .i64 m.nx, .int .i64 m.tm, .int .i64 m.vt, .int .i64 m.ss, .int .i64 m.sf, .slice A n c] :: u33 :: .agg #[.int .i64 m.nx, .int .i64 m.tm, .int .i64 m.vt, .int .i64 m.ss, .int .i64 m.sf, .slice A n c] :: u35 :: .agg #[.int .i64 m.nx, .int .i64 m.tm, .int .i64 m.vt, .int .i64 m.ss, .int .i64 m.sf, .slice A n c] :: u37 :: .agg #[.int .i64 m.nx, .int .i64 m.tm, .int .i64 m.vt, .int .i64 m.ss, .int .i64 m.sf, .slice A n c] :: u39 :: undef :: undef :: undef :: undef :: undef :: undef :: undef :: undef :: undef :: undef :: undef :: undef :: undef :: undef :: undef :: undef :: undef :: undef :: undef :: undef :: undef :: undef :: undef :: undef :: undef :: undef :: undef :: undef :: undef :: undef :: undef :: undef :: undef :: undef :: undef :: undef :: undef :: undef :: undef :: undef :: undef :: undef :: undef :: undef :: undef :: undef :: undef :: undef :: undef :: undef :: undef :: undef :: undef :: undef :: undef :: undef :: undef :: undef :: undef :: undef :: undef :: undef :: undef :: undef :: undef :: undef :: undef :: undef :: undef :: undef :: undef :: undef :: undef :: undef :: undef :: undef :: undef :: undef :: undef :: undef :: undef :: undef :: undef :: undef :: undef :: undef :: undef :: undef :: undef :: undef :: undef :: undef :: undef :: undef :: undef :: undef :: undef :: undef :: undef :: undef :: undef :: undef :: undef :: undef :: undef :: undef :: undef :: undef :: undef :: undef :: undef :: undef :: undef :: undef :: undef :: undef :: undef :: undef :: undef :: undef :: undef :: undef :: undef :: undef :: undef :: undef :: undef :: []).toArray, []⟩ W := by
      intro q
      induction q with
      | zero =>
        intro c1 a b d e u7 u8 u9 u10 u33 u35 u37 u39 W hR hc hq hB
        obtain rfl : c1 = 4 := by omega
        cases a <;> cases b <;> cases d <;> cases e <;> simp at hq
        exact rest _ _ _ _ _ _ _ _ W hR hB
      | succ q ih =>
        intro c1 a b d e u7 u8 u9 u10 u33 u35 u37 u39 W hR hc hq hB
        refine wpAnyH_ready (fuel := q + 4) rfl (tbl3_at HT3.out hc a b d e).1 (all_each fun i hi => ?_)
        have hok := (tbl3_at HT3.out hc a b d e).2 i hi
        clear hi
        simp only [ok3, Bool.or_eq_true, Bool.and_eq_true, beq_iff_eq, Bool.not_eq_true', or_assoc, and_assoc] at hok
        rcases hok with ⟨rfl, rfl⟩ | ⟨rfl, rfl⟩ | ⟨rfl, rfl⟩ | ⟨rfl, rfl⟩ | ⟨rfl, rfl⟩ | ⟨rfl, rfl⟩ | ⟨rfl, rfl⟩ | ⟨rfl, rfl⟩ | ⟨rfl, rfl, rfl, rfl, rfl, rfl⟩
        · refine br_call (i := 1) (d := 33) (oi := ?o5) (f := ?f5) (args := ?a5) ?hi5 ?hd5 ?hw5 ?he5 ?hc5
          case hi5 => (rw [hops]; (simp only [List.getElem?_toArray, List.getElem?_cons_succ, List.getElem?_cons_zero]; rfl))
          case hd5 => rfl
          case hw5 => rfl
          case he5 => (go_simp; constructor <;> with_reducible rfl)
          with_reducible refine Calls.mono (HOwn.out W hB) ?_
          rintro e' W' ⟨⟨A', c', rfl, -, own⟩, hb⟩
          refine ⟨_, rfl, below_on hB hb, fun hHeld => ?_⟩
          simp only [List.set_cons_succ, List.set_cons_zero]
          exact ih 1 a b d e u7 u8 u9 u10 (manV m (.slice A' n c')) u35 u37 u39 W' ((hR.on hb).call1 ⟨A', c', rfl, own_low own hB.size⟩) (by omega) (by omega) hHeld
        · refine br_call (i := 3) (d := 35) (oi := ?o6) (f := ?f6) (args := ?a6) ?hi6 ?hd6 ?hw6 ?he6 ?hc6
          case hi6 => (rw [hops]; (simp only [List.getElem?_toArray, List.getElem?_cons_succ, List.getElem?_cons_zero]; rfl))
          case hd6 => rfl
          case hw6 => rfl
          case he6 => (go_simp; constructor <;> with_reducible rfl)
          with_reducible refine Calls.mono (HOwn.out W hB) ?_
          rintro e' W' ⟨⟨A', c', rfl, -, own⟩, hb⟩
          refine ⟨_, rfl, below_on hB hb, fun hHeld => ?_⟩
          simp only [List.set_cons_succ, List.set_cons_zero]
          exact ih 2 a b d e u7 u8 u9 u10 u33 (manV m (.slice A' n c')) u37 u39 W' ((hR.on hb).call2 ⟨A', c', rfl, own_low own hB.size⟩) (by omega) (by omega) hHeld
        · refine br_call (i := 5) (d := 37) (oi := ?o7) (f := ?f7) (args := ?a7) ?hi7 ?hd7 ?hw7 ?he7 ?hc7
          case hi7 => (rw [hops]; (simp only [List.getElem?_toArray, List.getElem?_cons_succ, List.getElem?_cons_zero]; rfl))
          case hd7 => rfl
          case hw7 => rfl
          case he7 => (go_simp; constructor <;> with_reducible rfl)
          with_reducible refine Calls.mono (HOwn.out W hB) ?_
          rintro e' W' ⟨⟨A', c', rfl, -, own⟩, hb⟩
          refine ⟨_, rfl, below_on hB hb, fun hHeld => ?_⟩
          simp only [List.set_cons_succ, List.set_cons_zero]
          exact ih 3 a b d e u7 u8 u9 u10 u33 u35 (manV m (.slice A' n c')) u39 W' ((hR.on hb).call3 ⟨A', c', rfl, own_low own hB.size⟩) (by omega) (by omega) hHeld
        · refine br_call (i := 7) (d := 39) (oi := ?o8) (f := ?f8) (args := ?a8) ?hi8 ?hd8 ?hw8 ?he8 ?hc8
          case hi8 => (rw [hops]; (simp only [List.getElem?_toArray, List.getElem?_cons_succ, List.getElem?_cons_zero]; rfl))
          case hd8 => rfl
          case hw8 => rfl
          case he8 => (go_simp; constructor <;> with_reducible rfl)
          with_reducible refine Calls.mono (HOwn.out W hB) ?_
          rintro e' W' ⟨⟨A', c', rfl, -, own⟩, hb⟩
          refine ⟨_, rfl, below_on hB hb, fun hHeld => ?_⟩
          simp only [List.set_cons_succ, List.set_cons_zero]
          exact ih 4 a b d e u7 u8 u9 u10 u33 u35 u37 (manV m (.slice A' n c')) W' ((hR.on hb).call4 ⟨A', c', rfl, own_low own hB.size⟩) (by omega) (by omega) hHeld
        · obtain ⟨z, hz⟩ : ∃ z, z = W.heap.size := ⟨_, rfl⟩
          obtain ⟨W', hW'⟩ : ∃ x, x = W.alloc (.cells #[.int .i64 0, .int .i64 0, .int .i64 0, .int .i64 0, .int .i64 0, .slice none 0 0] 26) := ⟨_, rfl⟩
          have hb : Below W.heap.size W W' := by rw [hW']; exact below_al (below_d0 _) _
          refine br_val (i := 8) (d := 7) (oi := ?o9) (v := .pointer (some ⟨z, 0, none⟩)) (w' := W') ?hi9 ?hd9 ?hw9 ?he9 (below_on hB hb) ?hc9
          case hi9 => (rw [hops]; (simp only [List.getElem?_toArray, List.getElem?_cons_succ, List.getElem?_cons_zero]; rfl))
          case hd9 => rfl
          case hw9 => rfl
          case he9 => (rw [hz, hW']; go_simp <;> with_reducible rfl)
          intro hHeld
          simp only [List.set_cons_succ, List.set_cons_zero]
          exact ih c1 true b d e (.pointer (some ⟨z, 0, none⟩)) u8 u9 u10 u33 u35 u37 u39 W' (hR.box1 hb hz (BoxV.new hz hB.size hW')) hc (by simp at hq ⊢; omega) hHeld
        · obtain ⟨z, hz⟩ : ∃ z, z = W.heap.size := ⟨_, rfl⟩
          obtain ⟨W', hW'⟩ : ∃ x, x = W.alloc (.cells #[.int .i64 0, .int .i64 0, .int .i64 0, .int .i64 0, .int .i64 0, .slice none 0 0] 26) := ⟨_, rfl⟩
          have hb : Below W.heap.size W W' := by rw [hW']; exact below_al (below_d0 _) _
          refine br_val (i := 9) (d := 8) (oi := ?o10) (v := .pointer (some ⟨z, 0, none⟩)) (w' := W') ?hi10 ?hd10 ?hw10 ?he10 (below_on hB hb) ?hc10
          case hi10 => (rw [hops]; (simp only [List.getElem?_toArray, List.getElem?_cons_succ, List.getElem?_cons_zero]; rfl))
          case hd10 => rfl
          case hw10 => rfl
          case he10 => (rw [hz, hW']; go_simp <;> with_reducible rfl)
          intro hHeld
          simp only [List.set_cons_succ, List.set_cons_zero]
          exact ih c1 a true d e u7 (.pointer (some ⟨z, 0, none⟩)) u9 u10 u33 u35 u37 u39 W' (hR.box2 hb hz (BoxV.new hz hB.size hW')) hc (by simp at hq ⊢; omega) hHeld
        · obtain ⟨z, hz⟩ : ∃ z, z = W.heap.size := ⟨_, rfl⟩
          obtain ⟨W', hW'⟩ : ∃ x, x = W.alloc (.cells #[.int .i64 0, .int .i64 0, .int .i64 0, .int .i64 0, .int .i64 0, .slice none 0 0] 26) := ⟨_, rfl⟩
          have hb : Below W.heap.size W W' := by rw [hW']; exact below_al (below_d0 _) _
          refine br_val (i := 10) (d := 9) (oi := ?o11) (v := .pointer (some ⟨z, 0, none⟩)) (w' := W') ?hi11 ?hd11 ?hw11 ?he11 (below_on hB hb) ?hc11
          case hi11 => (rw [hops]; (simp only [List.getElem?_toArray, List.getElem?_cons_succ, List.getElem?_cons_zero]; rfl))
          case hd11 => rfl
          case hw11 => rfl
          case he11 => (rw [hz, hW']; go_simp <;> with_reducible rfl)
          intro hHeld
          simp only [List.set_cons_succ, List.set_cons_zero]
          exact ih c1 a b true e u7 u8 (.pointer (some ⟨z, 0, none⟩)) u10 u33 u35 u37 u39 W' (hR.box3 hb hz (BoxV.new hz hB.size hW')) hc (by simp at hq ⊢; omega) hHeld
        · obtain ⟨z, hz⟩ : ∃ z, z = W.heap.size := ⟨_, rfl⟩
          obtain ⟨W', hW'⟩ : ∃ x, x = W.alloc (.cells #[.int .i64 0, .int .i64 0, .int .i64 0, .int .i64 0, .int .i64 0, .slice none 0 0] 26) := ⟨_, rfl⟩
          have hb : Below W.heap.size W W' := by rw [hW']; exact below_al (below_d0 _) _
          refine br_val (i := 11) (d := 10) (oi := ?o12) (v := .pointer (some ⟨z, 0, none⟩)) (w' := W') ?hi12 ?hd12 ?hw12 ?he12 (below_on hB hb) ?hc12
          case hi12 => (rw [hops]; (simp only [List.getElem?_toArray, List.getElem?_cons_succ, List.getElem?_cons_zero]; rfl))
          case hd12 => rfl
          case hw12 => rfl
          case he12 => (rw [hz, hW']; go_simp <;> with_reducible rfl)
          intro hHeld
          simp only [List.set_cons_succ, List.set_cons_zero]
          exact ih c1 a b d true u7 u8 u9 (.pointer (some ⟨z, 0, none⟩)) u33 u35 u37 u39 W' (hR.box4 hb hz (BoxV.new hz hB.size hW')) hc (by simp at hq ⊢; omega) hHeld
        · (simp at hq)
    exact key 8 0 false false false false undef undef undef undef undef undef undef undef _ R3.first (by omega) (by simp) hHeld
  subst hQ
  clear HT3
  intro u7 u8 u9 u10 u33 u35 u37 u39 W hR hB
  obtain ⟨A1, c1, rfl, r1⟩ := hR.o1 (by omega)
  obtain ⟨A2, c2, rfl, r2⟩ := hR.o2 (by omega)
  obtain ⟨A3, c3, rfl, r3⟩ := hR.o3 (by omega)
  obtain ⟨A4, c4, rfl, r4⟩ := hR.o4 (by omega)
  obtain ⟨y1, rfl, l1, x1⟩ := hR.b1 rfl
  obtain ⟨y2, rfl, l2, x2⟩ := hR.b2 rfl
  obtain ⟨y3, rfl, l3, x3⟩ := hR.b3 rfl
  obtain ⟨y4, rfl, l4, x4⟩ := hR.b4 rfl
  have n12 : y1 ≠ y2 := fun h => hR.n12 rfl rfl (by rw [h])
  have n13 : y1 ≠ y3 := fun h => hR.n13 rfl rfl (by rw [h])
  have n14 : y1 ≠ y4 := fun h => hR.n14 rfl rfl (by rw [h])
  have n23 : y2 ≠ y3 := fun h => hR.n23 rfl rfl (by rw [h])
  have n24 : y2 ≠ y4 := fun h => hR.n24 rfl rfl (by rw [h])
  have n34 : y3 ≠ y4 := fun h => hR.n34 rfl rfl (by rw [h])
  clear hR
  unfold manV
  obtain ⟨W1, hW1⟩ : ∃ x, x = putM W y1 m (.slice A1 n c1) := ⟨_, rfl⟩
  have hB1 : Below w2.heap.size w2 W1 := by rw [hW1]; exact putM_below l1 _ _ hB
  obtain ⟨p0, p1, p2, p3, p4, p5⟩ := x1.cells
  have f0 := x1.frozen 0
  have f1 := x1.frozen 1
  have f2 := x1.frozen 2
  have f3 := x1.frozen 3
  have f4 := x1.frozen 4
  have f5 := x1.frozen 5
  have eW1 : W1 = ((((((W.setCell ⟨y1, 0, none⟩ (.int .i64 m.nx)).setCell ⟨y1, 1, none⟩ (.int .i64 m.tm)).setCell ⟨y1, 2, none⟩ (.int .i64 m.vt)).setCell ⟨y1, 3, none⟩ (.int .i64 m.ss)).setCell ⟨y1, 4, none⟩ (.int .i64 m.sf)).setCell ⟨y1, 5, none⟩ (.slice A1 n c1)) := hW1
  refine wpAnyH_ready (rs := [12]) (by rw [hops]; kernel_rfl) (by simp) ?_
  refine br_store (i := 12) (oi := ?o13) (w' := W1) ?hi13 ?hd13 ?hw13 ?he13 hB1 ?hc13
  case hi13 => (rw [hops]; (simp only [List.getElem?_toArray, List.getElem?_cons_succ, List.getElem?_cons_zero]; rfl))
  case hd13 => rfl
  case hw13 => rfl
  case he13 => (rw [eW1]; go_simp <;> with_reducible rfl)
  intro hHeld
  clear hHeld eW1 p0 p1 p2 p3 p4 p5 f0 f1 f2 f3 f4 f5
  replace r1 := putM_own (m := m) (x := .slice A1 n c1) x1 r1
  rw [← hW1] at r1
  replace r2 := putM_own (m := m) (x := .slice A1 n c1) x1 r2
  rw [← hW1] at r2
  replace r3 := putM_own (m := m) (x := .slice A1 n c1) x1 r3
  rw [← hW1] at r3
  replace r4 := putM_own (m := m) (x := .slice A1 n c1) x1 r4
  rw [← hW1] at r4
  replace x2 := putM_boxes (z := y1) (m := m) (x := .slice A1 n c1) x2 n12.symm
  rw [← hW1] at x2
  replace x3 := putM_boxes (z := y1) (m := m) (x := .slice A1 n c1) x3 n13.symm
  rw [← hW1] at x3
  replace x4 := putM_boxes (z := y1) (m := m) (x := .slice A1 n c1) x4 n14.symm
  rw [← hW1] at x4
  replace x1 := putM_box x1 m (.slice A1 n c1)
  rw [← hW1] at x1
  clear hW1
  obtain ⟨W2, hW2⟩ : ∃ x, x = putM W1 y2 m (.slice A2 n c2) := ⟨_, rfl⟩
  have hB2 : Below w2.heap.size w2 W2 := by rw [hW2]; exact putM_below l2 _ _ hB1
  obtain ⟨p0, p1, p2, p3, p4, p5⟩ := x2.cells
  have f0 := x2.frozen 0
  have f1 := x2.frozen 1
  have f2 := x2.frozen 2
  have f3 := x2.frozen 3
  have f4 := x2.frozen 4
  have f5 := x2.frozen 5
  have eW2 : W2 = ((((((W1.setCell ⟨y2, 0, none⟩ (.int .i64 m.nx)).setCell ⟨y2, 1, none⟩ (.int .i64 m.tm)).setCell ⟨y2, 2, none⟩ (.int .i64 m.vt)).setCell ⟨y2, 3, none⟩ (.int .i64 m.ss)).setCell ⟨y2, 4, none⟩ (.int .i64 m.sf)).setCell ⟨y2, 5, none⟩ (.slice A2 n c2)) := hW2
  refine wpAnyH_ready (rs := [13]) (by rw [hops]; kernel_rfl) (by simp) ?_
  refine br_store (i := 13) (oi := ?o14) (w' := W2) ?hi14 ?hd14 ?hw14 ?he14 hB2 ?hc14
  case hi14 => (rw [hops]; (simp only [List.getElem?_toArray, List.getElem?_cons_succ, List.getElem?_cons_zero]; rfl))
  case hd14 => rfl
  case hw14 => rfl
  case he14 => (rw [eW2]; go_simp <;> with_reducible rfl)
  intro hHeld
  clear hHeld eW2 p0 p1 p2 p3 p4 p5 f0 f1 f2 f3 f4 f5
  replace r1 := putM_own (m := m) (x := .slice A2 n c2) x2 r1
  rw [← hW2] at r1
  replace r2 := putM_own (m := m) (x := .slice A2 n c2) x2 r2
  rw [← hW2] at r2
  replace r3 := putM_own (m := m) (x := .slice A2 n c2) x2 r3
  rw [← hW2] at r3
  replace r4 := putM_own (m := m) (x := .slice A2 n c2) x2 r4
  rw [← hW2] at r4
  replace x1 := putM_boxes (z := y2) (m := m) (x := .slice A2 n c2) x1 n12
  rw [← hW2] at x1
  replace x3 := putM_boxes (z := y2) (m := m) (x := .slice A2 n c2) x3 n23.symm
  rw [← hW2] at x3
  replace x4 := putM_boxes (z := y2) (m := m) (x := .slice A2 n c2) x4 n24.symm
  rw [← hW2] at x4
  replace x2 := putM_box x2 m (.slice A2 n c2)
  rw [← hW2] at x2
  clear hW2
  obtain ⟨W3, hW3⟩ : ∃ x, x = putM W2 y3 m (.slice A3 n c3) := ⟨_, rfl⟩
  have hB3 : Below w2.heap.size w2 W3 := by rw [hW3]; exact putM_below l3 _ _ hB2
  obtain ⟨p0, p1, p2, p3, p4, p5⟩ := x3.cells
  have f0 := x3.frozen 0
  have f1 := x3.frozen 1
  have f2 := x3.frozen 2
  have f3 := x3.frozen 3
  have f4 := x3.frozen 4
  have f5 := x3.frozen 5
  have eW3 : W3 = ((((((W2.setCell ⟨y3, 0, none⟩ (.int .i64 m.nx)).setCell ⟨y3, 1, none⟩ (.int .i64 m.tm)).setCell ⟨y3, 2, none⟩ (.int .i64 m.vt)).setCell ⟨y3, 3, none⟩ (.int .i64 m.ss)).setCell ⟨y3, 4, none⟩ (.int .i64 m.sf)).setCell ⟨y3, 5, none⟩ (.slice A3 n c3)) := hW3
  refine wpAnyH_ready (rs := [14]) (by rw [hops]; kernel_rfl) (by simp) ?_
  refine br_store (i := 14) (oi := ?o15) (w' := W3) ?hi15 ?hd15 ?hw15 ?he15 hB3 ?hc15
  case hi15 => (rw [hops]; (simp only [List.getElem?_toArray, List.getElem?_cons_succ, List.getElem?_cons_zero]; rfl))
  case hd15 => rfl
  case hw15 => rfl
  case he15 => (rw [eW3]; go_simp <;> with_reducible rfl)
  intro hHeld
  clear hHeld eW3 p0 p1 p2 p3 p4 p5 f0 f1 f2 f3 f4 f5
  replace r1 := putM_own (m := m) (x := .slice A3 n c3) x3 r1
  rw [← hW3] at r1
  replace r2 := putM_own (m := m) (x := .slice A3 n c3) x3 r2
  rw [← hW3] at r2
  replace r3 := putM_own (m := m) (x := .slice A3 n c3) x3 r3
  rw [← hW3] at r3
  replace r4 := putM_own (m := m) (x := .slice A3 n c3) x3 r4
  rw [← hW3] at r4
  replace x1 := putM_boxes (z := y3) (m := m) (x := .slice A3 n c3) x1 n13
  rw [← hW3] at x1
  replace x2 := putM_boxes (z := y3) (m := m) (x := .slice A3 n c3) x2 n23
  rw [← hW3] at x2
  replace x4 := putM_boxes (z := y3) (m := m) (x := .slice A3 n c3) x4 n34.symm
  rw [← hW3] at x4
  replace x3 := putM_box x3 m (.slice A3 n c3)
  rw [← hW3] at x3
  clear hW3
  obtain ⟨W4, hW4⟩ : ∃ x, x = putM W3 y4 m (.slice A4 n c4) := ⟨_, rfl⟩
  have hB4 : Below w2.heap.size w2 W4 := by rw [hW4]; exact putM_below l4 _ _ hB3
  obtain ⟨p0, p1, p2, p3, p4, p5⟩ := x4.cells
  have f0 := x4.frozen 0
  have f1 := x4.frozen 1
  have f2 := x4.frozen 2
  have f3 := x4.frozen 3
  have f4 := x4.frozen 4
  have f5 := x4.frozen 5
  have eW4 : W4 = ((((((W3.setCell ⟨y4, 0, none⟩ (.int .i64 m.nx)).setCell ⟨y4, 1, none⟩ (.int .i64 m.tm)).setCell ⟨y4, 2, none⟩ (.int .i64 m.vt)).setCell ⟨y4, 3, none⟩ (.int .i64 m.ss)).setCell ⟨y4, 4, none⟩ (.int .i64 m.sf)).setCell ⟨y4, 5, none⟩ (.slice A4 n c4)) := hW4
  refine wpAnyH_ready (rs := [15]) (by rw [hops]; kernel_rfl) (by simp) ?_
  refine br_store (i := 15) (oi := ?o16) (w' := W4) ?hi16 ?hd16 ?hw16 ?he16 hB4 ?hc16
  case hi16 => (rw [hops]; (simp only [List.getElem?_toArray, List.getElem?_cons_succ, List.getElem?_cons_zero]; rfl))
  case hd16 => rfl
  case hw16 => rfl
  case he16 => (rw [eW4]; go_simp <;> with_reducible rfl)
  intro hHeld
  clear hHeld eW4 p0 p1 p2 p3 p4 p5 f0 f1 f2 f3 f4 f5
  replace r1 := putM_own (m := m) (x := .slice A4 n c4) x4 r1
  rw [← hW4] at r1
  replace r2 := putM_own (m := m) (x := .slice A4 n c4) x4 r2
  rw [← hW4] at r2
  replace r3 := putM_own (m := m) (x := .slice A4 n c4) x4 r3
  rw [← hW4] at r3
  replace r4 := putM_own (m := m) (x := .slice A4 n c4) x4 r4
  rw [← hW4] at r4
  replace x1 := putM_boxes (z := y4) (m := m) (x := .slice A4 n c4) x1 n14
  rw [← hW4] at x1
  replace x2 := putM_boxes (z := y4) (m := m) (x := .slice A4 n c4) x2 n24
  rw [← hW4] at x2
  replace x3 := putM_boxes (z := y4) (m := m) (x := .slice A4 n c4) x3 n34
  rw [← hW4] at x3
  replace x4 := putM_box x4 m (.slice A4 n c4)
  rw [← hW4] at x4
  clear hW4
  refine wpAnyH_done (by rw [hops]; kernel_rfl) ?_ _
  clear hops ops
  have hkM : May m ∧ 1 ≤ k ∧ k ≤ 1073741824 := HM.out
  have hnx := hkM.1.nx
  have q1 : IntKind.i64.wrap (-k) = -k := by rw [IntKind.wrap_i64]; omega
  have q2 : IntKind.i64.wrap (5 + k) = 5 + k := by rw [IntKind.wrap_i64]; omega
  have q3 : IntKind.i64.wrap (m.nx - 1) = m.nx - 1 := by rw [IntKind.wrap_i64]; omega
  have q4 : IntKind.i64.wrap (m.nx - 1 + k) = m.nx - 1 + k := by rw [IntKind.wrap_i64]; omega
  clear hkM hnx hB hB1 hB2 hB3
  obtain ⟨V0, hV0⟩ : ∃ x, x = W4.drew := ⟨_, rfl⟩
  have kB : Below w2.heap.size w2 V0 := by rw [hV0]; exact hB4.drew
  clear hB4
  replace x1 : BoxM V0 y1 m (.slice A1 n c1) := by rw [hV0]; exact x1
  replace r1 : OwnS V0 w2.heap.size (.slice A1 n c1) n m.sg := by rw [hV0]; exact r1
  replace x2 : BoxM V0 y2 m (.slice A2 n c2) := by rw [hV0]; exact x2
  replace r2 : OwnS V0 w2.heap.size (.slice A2 n c2) n m.sg := by rw [hV0]; exact r2
  replace x3 : BoxM V0 y3 m (.slice A3 n c3) := by rw [hV0]; exact x3
  replace r3 : OwnS V0 w2.heap.size (.slice A3 n c3) n m.sg := by rw [hV0]; exact r3
  replace x4 : BoxM V0 y4 m (.slice A4 n c4) := by rw [hV0]; exact x4
  replace r4 : OwnS V0 w2.heap.size (.slice A4 n c4) n m.sg := by rw [hV0]; exact r4
  have HV0 := Lib.hid hV0
  clear hV0
  have HXR := Lib.hid (⟨x1, x2, x3, x4, r1, r2, r3, r4⟩ : _ ∧ _ ∧ _ ∧ _ ∧ _ ∧ _ ∧ _ ∧ _)
  clear x1 x2 x3 x4 r1 r2 r3 r4
  go_wp2_with fail
  refine wp_region_held_drew (S := (fun W => Below w2.heap.size w2 W)) (by kernel_rfl) (by rw [← HV0.out]; exact kB) (fun hHeld => ?_)
  rw [← HV0.out] at hHeld ⊢
  clear hHeld
  have hHeld : Below w2.heap.size w2 V0 := kB
  refine take_at (i := 0) (d := 40) (oi := ?o17) (v := ?v17) ?hi17 ?hd17 (by kernel_rfl) (by kernel_rfl) (by kernel_rfl) ?hw17 ?hy17 ?hq17 (by assumption) ?r17
  case hi17 => (simp only [List.getElem?_toArray, List.getElem?_cons_zero]; rfl)
  case hd17 => rfl
  case hw17 => rfl
  case hy17 => ((intro w hSw; (try dsimp only at hSw); obtain ⟨s0, s1, s2, s3, s4, s5⟩ := HZ.out w hSw; go_simp) <;> (with_reducible rfl))
  case hq17 => exact fun _ _ _ h => h
  simp only [List.set_cons_succ, List.set_cons_zero]
  refine take_at (i := 1) (d := 41) (oi := ?o18) (v := ?v18) ?hi18 ?hd18 (by kernel_rfl) (by kernel_rfl) (by kernel_rfl) ?hw18 ?hy18 ?hq18 (by assumption) ?r18
  case hi18 => (simp only [List.getElem?_toArray, List.getElem?_cons_succ, List.getElem?_cons_zero]; rfl)
  case hd18 => rfl
  case hw18 => rfl
  case hy18 => ((intro w hSw; (try dsimp only at hSw); obtain ⟨s0, s1, s2, s3, s4, s5⟩ := HZ.out w hSw; go_simp) <;> (with_reducible rfl))
  case hq18 => exact fun _ _ _ h => h
  simp only [List.set_cons_succ, List.set_cons_zero]
  refine take_at (i := 2) (d := 42) (oi := ?o19) (v := ?v19) ?hi19 ?hd19 (by kernel_rfl) (by kernel_rfl) (by kernel_rfl) ?hw19 ?hy19 ?hq19 (by assumption) ?r19
  case hi19 => (simp only [List.getElem?_toArray, List.getElem?_cons_succ, List.getElem?_cons_zero]; rfl)
  case hd19 => rfl
  case hw19 => rfl
  case hy19 => ((intro w hSw; (try dsimp only at hSw); obtain ⟨s0, s1, s2, s3, s4, s5⟩ := HZ.out w hSw; go_simp) <;> (with_reducible rfl))
  case hq19 => exact fun _ _ _ h => h
  simp only [List.set_cons_succ, List.set_cons_zero]
  refine take_at (i := 3) (d := 43) (oi := ?o20) (v := ?v20) ?hi20 ?hd20 (by kernel_rfl) (by kernel_rfl) (by kernel_rfl) ?hw20 ?hy20 ?hq20 (by assumption) ?r20
  case hi20 => (simp only [List.getElem?_toArray, List.getElem?_cons_succ, List.getElem?_cons_zero]; rfl)
  case hd20 => rfl
  case hw20 => rfl
  case hy20 => ((intro w hSw; (try dsimp only at hSw); obtain ⟨s0, s1, s2, s3, s4, s5⟩ := HZ.out w hSw; go_simp) <;> (with_reducible rfl))
  case hq20 => exact fun _ _ _ h => h
  simp only [List.set_cons_succ, List.set_cons_zero]
  refine take_at (i := 4) (d := 44) (oi := ?o21) (v := ?v21) ?hi21 ?hd21 (by kernel_rfl) (by kernel_rfl) (by kernel_rfl) ?hw21 ?hy21 ?hq21 (by assumption) ?r21
  case hi21 => (simp only [List.getElem?_toArray, List.getElem?_cons_succ, List.getElem?_cons_zero]; rfl)
  case hd21 => rfl
  case hw21 => rfl
  case hy21 => ((intro w hSw; (try dsimp only at hSw); obtain ⟨s0, s1, s2, s3, s4, s5⟩ := HZ.out w hSw; go_simp) <;> (with_reducible rfl))
  case hq21 => exact fun _ _ _ h => h
  simp only [List.set_cons_succ, List.set_cons_zero]
  refine take_at (i := 5) (d := 45) (oi := ?o22) (v := ?v22) ?hi22 ?hd22 (by kernel_rfl) (by kernel_rfl) (by kernel_rfl) ?hw22 ?hy22 ?hq22 (by assumption) ?r22
  case hi22 => (simp only [List.getElem?_toArray, List.getElem?_cons_succ, List.getElem?_cons_zero]; rfl)
  case hd22 => rfl
  case hw22 => rfl
  case hy22 => ((intro w hSw; (try dsimp only at hSw); obtain ⟨s0, s1, s2, s3, s4, s5⟩ := HZ.out w hSw; go_simp) <;> (with_reducible rfl))
  case hq22 => exact fun _ _ _ h => h
  simp only [List.set_cons_succ, List.set_cons_zero]
  refine take_at (i := 6) (d := 46) (oi := ?o23) (v := ?v23) ?hi23 ?hd23 (by kernel_rfl) (by kernel_rfl) (by kernel_rfl) ?hw23 ?hy23 ?hq23 (by assumption) ?r23
  case hi23 => (simp only [List.getElem?_toArray, List.getElem?_cons_succ, List.getElem?_cons_zero]; rfl)
  case hd23 => rfl
  case hw23 => rfl
  case hy23 => ((intro w hSw; (try dsimp only at hSw); obtain ⟨s0, s1, s2, s3, s4, s5⟩ := HZ.out w hSw; go_simp) <;> (with_reducible rfl))
  case hq23 => exact fun _ _ _ h => h
  simp only [List.set_cons_succ, List.set_cons_zero]
  refine take_at (i := 7) (d := 47) (oi := ?o24) (v := ?v24) ?hi24 ?hd24 (by kernel_rfl) (by kernel_rfl) (by kernel_rfl) ?hw24 ?hy24 ?hq24 (by assumption) ?r24
  case hi24 => (simp only [List.getElem?_toArray, List.getElem?_cons_succ, List.getElem?_cons_zero]; rfl)
  case hd24 => rfl
  case hw24 => rfl
  case hy24 => ((intro w hSw; (try dsimp only at hSw); obtain ⟨s0, s1, s2, s3, s4, s5⟩ := HZ.out w hSw; go_simp) <;> (with_reducible rfl))
  case hq24 => exact fun _ _ _ h => h
  simp only [List.set_cons_succ, List.set_cons_zero]
  refine take_at (i := 8) (d := 48) (oi := ?o25) (v := ?v25) ?hi25 ?hd25 (by kernel_rfl) (by kernel_rfl) (by kernel_rfl) ?hw25 ?hy25 ?hq25 (by assumption) ?r25
  case hi25 => (simp only [List.getElem?_toArray, List.getElem?_cons_succ, List.getElem?_cons_zero]; rfl)
  case hd25 => rfl
  case hw25 => rfl
  case hy25 => ((intro w hSw; (try dsimp only at hSw); obtain ⟨s0, s1, s2, s3, s4, s5⟩ := HZ.out w hSw; go_simp) <;> (with_reducible rfl))
  case hq25 => exact fun _ _ _ h => h
  simp only [List.set_cons_succ, List.set_cons_zero]
  refine take_at (i := 9) (d := 49) (oi := ?o26) (v := ?v26) ?hi26 ?hd26 (by kernel_rfl) (by kernel_rfl) (by kernel_rfl) ?hw26 ?hy26 ?hq26 (by assumption) ?r26
  case hi26 => (simp only [List.getElem?_toArray, List.getElem?_cons_succ, List.getElem?_cons_zero]; rfl)
  case hd26 => rfl
  case hw26 => rfl
  case hy26 => ((intro w hSw; (try dsimp only at hSw); obtain ⟨s0, s1, s2, s3, s4, s5⟩ := HZ.out w hSw; go_simp) <;> (with_reducible rfl))
  case hq26 => exact fun _ _ _ h => h
  simp only [List.set_cons_succ, List.set_cons_zero]
  refine take_at (i := 10) (d := 50) (oi := ?o27) (v := ?v27) ?hi27 ?hd27 (by kernel_rfl) (by kernel_rfl) (by kernel_rfl) ?hw27 ?hy27 ?hq27 (by assumption) ?r27
  case hi27 => (simp only [List.getElem?_toArray, List.getElem?_cons_succ, List.getElem?_cons_zero]; rfl)
  case hd27 => rfl
  case hw27 => rfl
  case hy27 => ((intro w hSw; (try dsimp only at hSw); obtain ⟨s0, s1, s2, s3, s4, s5⟩ := HZ.out w hSw; go_simp) <;> (with_reducible rfl))
  case hq27 => exact fun _ _ _ h => h
  simp only [List.set_cons_succ, List.set_cons_zero]
  refine take_at (i := 11) (d := 51) (oi := ?o28) (v := ?v28) ?hi28 ?hd28 (by kernel_rfl) (by kernel_rfl) (by kernel_rfl) ?hw28 ?hy28 ?hq28 (by assumption) ?r28
  case hi28 => (simp only [List.getElem?_toArray, List.getElem?_cons_succ, List.getElem?_cons_zero]; rfl)
  case hd28 => rfl
  case hw28 => rfl
  case hy28 => ((intro w hSw; (try dsimp only at hSw); obtain ⟨s0, s1, s2, s3, s4, s5⟩ := HZ.out w hSw; go_simp) <;> (with_reducible rfl))
  case hq28 => exact fun _ _ _ h => h
  simp only [List.set_cons_succ, List.set_cons_zero]
  refine take_at (i := 12) (d := 52) (oi := ?o29) (v := ?v29) ?hi29 ?hd29 (by kernel_rfl) (by kernel_rfl) (by kernel_rfl) ?hw29 ?hy29 ?hq29 (by assumption) ?r29
  case hi29 => (simp only [List.getElem?_toArray, List.getElem?_cons_succ, List.getElem?_cons_zero]; rfl)
  case hd29 => rfl
  case hw29 => rfl
  case hy29 => ((intro w hSw; (try dsimp only at hSw); obtain ⟨s0, s1, s2, s3, s4, s5⟩ := HZ.out w hSw; go_simp) <;> (with_reducible rfl))
  case hq29 => exact fun _ _ _ h => h
  simp only [List.set_cons_succ, List.set_cons_zero]
  obtain ⟨x1, x2, x3, x4, r1, r2, r3, r4⟩ := HXR.out
  clear HXR
  obtain ⟨V1, hV1⟩ : ∃ x, x = (V0.setCell ⟨y1, 0, none⟩ (.int .i64 (-k))) := ⟨_, rfl⟩
  have kB1 : Below w2.heap.size w2 V1 := by rw [hV1]; exact (kB.setCell (p := ⟨y1, 0, none⟩) l1 _)
  obtain ⟨p0, p1, p2, p3, p4, p5⟩ := x1.cells
  have f0 := x1.frozen 0
  have f1 := x1.frozen 1
  have f2 := x1.frozen 2
  have f3 := x1.frozen 3
  have f4 := x1.frozen 4
  refine wpAnyH_ready (rs := [13]) (by kernel_rfl) (by simp) ?_
  refine br_store (i := 13) (oi := ?o30) (w' := V1) ?hi30 ?hd30 ?hw30 ?he30 kB1 ?hc30
  case hi30 => (simp only [List.getElem?_toArray, List.getElem?_cons_succ, List.getElem?_cons_zero]; rfl)
  case hd30 => rfl
  case hw30 => rfl
  case he30 => (rw [hV1]; go_simp <;> with_reducible rfl)
  intro hHeld
  clear kB p0 p1 p2 p3 p4 p5 f0 f1 f2 f3 f4
  have kB := kB1
  clear kB1
  replace r1 : OwnS V1 w2.heap.size (.slice A1 n c1) n m.sg := by rw [hV1]; exact set_own x1 r1
  replace r2 : OwnS V1 w2.heap.size (.slice A2 n c2) n m.sg := by rw [hV1]; exact set_own x1 r2
  replace r3 : OwnS V1 w2.heap.size (.slice A3 n c3) n m.sg := by rw [hV1]; exact set_own x1 r3
  replace r4 : OwnS V1 w2.heap.size (.slice A4 n c4) n m.sg := by rw [hV1]; exact set_own x1 r4
  replace x2 : BoxM V1 y2 m (.slice A2 n c2) := by rw [hV1]; exact set_boxes (x2) n12.symm
  replace x3 : BoxM V1 y3 m (.slice A3 n c3) := by rw [hV1]; exact set_boxes (x3) n13.symm
  replace x4 : BoxM V1 y4 m (.slice A4 n c4) := by rw [hV1]; exact set_boxes (x4) n14.symm
  replace x1 : BoxM V1 y1 { m with nx := -k } (.slice A1 n c1) := by rw [hV1]; exact heap_setM (x1) _
  clear hV1
  obtain ⟨V2, hV2⟩ : ∃ x, x = (V1.setCell ⟨y2, 1, none⟩ (.int .i64 (-k))) := ⟨_, rfl⟩
  have kB2 : Below w2.heap.size w2 V2 := by rw [hV2]; exact (kB.setCell (p := ⟨y2, 1, none⟩) l2 _)
  obtain ⟨p0, p1, p2, p3, p4, p5⟩ := x2.cells
  have f0 := x2.frozen 0
  have f1 := x2.frozen 1
  have f2 := x2.frozen 2
  have f3 := x2.frozen 3
  have f4 := x2.frozen 4
  refine take_at (i := 14) (d := 53) (oi := ?o31) (v := ?v31) ?hi31 ?hd31 (by kernel_rfl) (by kernel_rfl) (by kernel_rfl) ?hw31 ?hy31 ?hq31 (by assumption) ?r31
  case hi31 => (simp only [List.getElem?_toArray, List.getElem?_cons_succ, List.getElem?_cons_zero]; rfl)
  case hd31 => rfl
  case hw31 => rfl
  case hy31 => ((intro w hSw; (try dsimp only at hSw); obtain ⟨s0, s1, s2, s3, s4, s5⟩ := HZ.out w hSw; go_simp) <;> (with_reducible rfl))
  case hq31 => exact fun _ _ _ h => h
  simp only [List.set_cons_succ, List.set_cons_zero]
  refine wpAnyH_ready (rs := [15]) (by kernel_rfl) (by simp) ?_
  refine br_store (i := 15) (oi := ?o32) (w' := V2) ?hi32 ?hd32 ?hw32 ?he32 kB2 ?hc32
  case hi32 => (simp only [List.getElem?_toArray, List.getElem?_cons_succ, List.getElem?_cons_zero]; rfl)
  case hd32 => rfl
  case hw32 => rfl
  case he32 => (rw [hV2]; go_simp <;> with_reducible rfl)
  intro hHeld
  clear kB p0 p1 p2 p3 p4 p5 f0 f1 f2 f3 f4
  have kB := kB2
  clear kB2
  replace r1 : OwnS V2 w2.heap.size (.slice A1 n c1) n m.sg := by rw [hV2]; exact set_own x2 r1
  replace r2 : OwnS V2 w2.heap.size (.slice A2 n c2) n m.sg := by rw [hV2]; exact set_own x2 r2
  replace r3 : OwnS V2 w2.heap.size (.slice A3 n c3) n m.sg := by rw [hV2]; exact set_own x2 r3
  replace r4 : OwnS V2 w2.heap.size (.slice A4 n c4) n m.sg := by rw [hV2]; exact set_own x2 r4
  replace x1 : BoxM V2 y1 { m with nx := -k } (.slice A1 n c1) := by rw [hV2]; exact set_boxes (x1) n12
  replace x3 : BoxM V2 y3 m (.slice A3 n c3) := by rw [hV2]; exact set_boxes (x3) n23.symm
  replace x4 : BoxM V2 y4 m (.slice A4 n c4) := by rw [hV2]; exact set_boxes (x4) n24.symm
  replace x2 : BoxM V2 y2 { m with tm := -k } (.slice A2 n c2) := by rw [hV2]; exact heap_setM (x2) _
  clear hV2
  obtain ⟨V3, hV3⟩ : ∃ x, x = (V2.setCell ⟨y3, 2, none⟩ (.int .i64 (5 + k))) := ⟨_, rfl⟩
  have kB3 : Below w2.heap.size w2 V3 := by rw [hV3]; exact (kB.setCell (p := ⟨y3, 2, none⟩) l3 _)
  obtain ⟨p0, p1, p2, p3, p4, p5⟩ := x3.cells
  have f0 := x3.frozen 0
  have f1 := x3.frozen 1
  have f2 := x3.frozen 2
  have f3 := x3.frozen 3
  have f4 := x3.frozen 4
  refine take_at (i := 16) (d := 54) (oi := ?o33) (v := ?v33) ?hi33 ?hd33 (by kernel_rfl) (by kernel_rfl) (by kernel_rfl) ?hw33 ?hy33 ?hq33 (by assumption) ?r33
  case hi33 => (simp only [List.getElem?_toArray, List.getElem?_cons_succ, List.getElem?_cons_zero]; rfl)
  case hd33 => rfl
  case hw33 => rfl
  case hy33 => ((intro w hSw; (try dsimp only at hSw); obtain ⟨s0, s1, s2, s3, s4, s5⟩ := HZ.out w hSw; go_simp) <;> (with_reducible rfl))
  case hq33 => exact fun _ _ _ h => h
  simp only [List.set_cons_succ, List.set_cons_zero]
  refine wpAnyH_ready (rs := [17]) (by kernel_rfl) (by simp) ?_
  refine br_store (i := 17) (oi := ?o34) (w' := V3) ?hi34 ?hd34 ?hw34 ?he34 kB3 ?hc34
  case hi34 => (simp only [List.getElem?_toArray, List.getElem?_cons_succ, List.getElem?_cons_zero]; rfl)
  case hd34 => rfl
  case hw34 => rfl
  case he34 => (rw [hV3]; go_simp <;> with_reducible rfl)
  intro hHeld
  clear kB p0 p1 p2 p3 p4 p5 f0 f1 f2 f3 f4
  have kB := kB3
  clear kB3
  replace r1 : OwnS V3 w2.heap.size (.slice A1 n c1) n m.sg := by rw [hV3]; exact set_own x3 r1
  replace r2 : OwnS V3 w2.heap.size (.slice A2 n c2) n m.sg := by rw [hV3]; exact set_own x3 r2
  replace r3 : OwnS V3 w2.heap.size (.slice A3 n c3) n m.sg := by rw [hV3]; exact set_own x3 r3
  replace r4 : OwnS V3 w2.heap.size (.slice A4 n c4) n m.sg := by rw [hV3]; exact set_own x3 r4
  replace x1 : BoxM V3 y1 { m with nx := -k } (.slice A1 n c1) := by rw [hV3]; exact set_boxes (x1) n13
  replace x2 : BoxM V3 y2 { m with tm := -k } (.slice A2 n c2) := by rw [hV3]; exact set_boxes (x2) n23
  replace x4 : BoxM V3 y4 m (.slice A4 n c4) := by rw [hV3]; exact set_boxes (x4) n34.symm
  replace x3 : BoxM V3 y3 { m with vt := 5 + k } (.slice A3 n c3) := by rw [hV3]; exact heap_setM (x3) _
  clear hV3
  obtain ⟨w4, hw4⟩ : ∃ x, x = ((V3.setCell ⟨y4, 3, none⟩ (.int .i64 (m.nx - 1 + k))).setCell ⟨y4, 4, none⟩ (.int .i64 1)) := ⟨_, rfl⟩
  have kB4 : Below w2.heap.size w2 w4 := by rw [hw4]; exact ((kB.setCell (p := ⟨y4, 3, none⟩) l4 _).setCell (p := ⟨y4, 4, none⟩) l4 _)
  obtain ⟨p0, p1, p2, p3, p4, p5⟩ := x4.cells
  have f0 := x4.frozen 0
  have f1 := x4.frozen 1
  have f2 := x4.frozen 2
  have f3 := x4.frozen 3
  have f4 := x4.frozen 4
  refine take_at (i := 18) (d := 55) (oi := ?o35) (v := ?v35) ?hi35 ?hd35 (by kernel_rfl) (by kernel_rfl) (by kernel_rfl) ?hw35 ?hy35 ?hq35 (by assumption) ?r35
  case hi35 => (simp only [List.getElem?_toArray, List.getElem?_cons_succ, List.getElem?_cons_zero]; rfl)
  case hd35 => rfl
  case hw35 => rfl
  case hy35 => ((intro w hSw; (try dsimp only at hSw); obtain ⟨s0, s1, s2, s3, s4, s5⟩ := HZ.out w hSw; go_simp) <;> (with_reducible rfl))
  case hq35 => exact fun _ _ _ h => h
  simp only [List.set_cons_succ, List.set_cons_zero]
  refine wpAnyH_ready (rs := [19]) (by kernel_rfl) (by simp) ?_
  refine br_store (i := 19) (oi := ?o36) (w' := w4) ?hi36 ?hd36 ?hw36 ?he36 kB4 ?hc36
  case hi36 => (simp only [List.getElem?_toArray, List.getElem?_cons_succ, List.getElem?_cons_zero]; rfl)
  case hd36 => rfl
  case hw36 => rfl
  case he36 => (rw [hw4]; go_simp <;> with_reducible rfl)
  intro hHeld
  clear kB p0 p1 p2 p3 p4 p5 f0 f1 f2 f3 f4
  have kB := kB4
  clear kB4
  replace r1 : OwnS w4 w2.heap.size (.slice A1 n c1) n m.sg := by rw [hw4]; exact set_own (t := { m with ss := m.nx - 1 + k }) (u := .slice A4 n c4) (heap_setM x4 _) (set_own x4 r1)
  replace r2 : OwnS w4 w2.heap.size (.slice A2 n c2) n m.sg := by rw [hw4]; exact set_own (t := { m with ss := m.nx - 1 + k }) (u := .slice A4 n c4) (heap_setM x4 _) (set_own x4 r2)
  replace r3 : OwnS w4 w2.heap.size (.slice A3 n c3) n m.sg := by rw [hw4]; exact set_own (t := { m with ss := m.nx - 1 + k }) (u := .slice A4 n c4) (heap_setM x4 _) (set_own x4 r3)
  replace r4 : OwnS w4 w2.heap.size (.slice A4 n c4) n m.sg := by rw [hw4]; exact set_own (t := { m with ss := m.nx - 1 + k }) (u := .slice A4 n c4) (heap_setM x4 _) (set_own x4 r4)
  replace x1 : BoxM w4 y1 { m with nx := -k } (.slice A1 n c1) := by rw [hw4]; exact set_boxes (set_boxes (x1) n14) n14
  replace x2 : BoxM w4 y2 { m with tm := -k } (.slice A2 n c2) := by rw [hw4]; exact set_boxes (set_boxes (x2) n24) n24
  replace x3 : BoxM w4 y3 { m with vt := 5 + k } (.slice A3 n c3) := by rw [hw4]; exact set_boxes (set_boxes (x3) n34) n34
  replace x4 : BoxM w4 y4 { m with ss := m.nx - 1 + k, sf := 1 } (.slice A4 n c4) := by rw [hw4]; exact heap_setM (heap_setM (x4) _) _
  clear hw4
  refine wpAnyH_done (by kernel_rfl) ?_ _
  obtain ⟨hS, bz, B2⟩ := HS0.out
  replace bz := bz.below kB
  replace hS := hS.on kB kB.size
  have B4 := B2.trans (kB.mono B2.size)
  clear B2 kB HS0 HZ HOwn
  have S1 := r1.sg
  have S2 := r2.sg
  have S3 := r3.sg
  have S4 := r4.sg
  clear r1 r2 r3 r4 n12 n13 n14 n23 n24 n34 q1 q2 q3 q4 l1 l2 l3 l4
  obtain ⟨k0, k1, k2, k3, k4, k5⟩ := x1.cells
  go_wp2_with fail
  clear k0 k1 k2 k3 k4 k5
  refine Calls.mono (show Calls Tryd.prog 18 #[.agg #[.int .i64 (-k), .int .i64 m.tm, .int .i64 m.vt, .int .i64 m.ss, .int .i64 m.sf, .slice A1 n c1]] w4 (fun e w' => (∃ r, CheckIs ({ m with nx := -k }) r ∧ e = .returned (.int .i64 r)) ∧ Below w4.heap.size w4 w') from check_any ({ m with nx := -k }) A1 n c1 w4 S1 (by omega) (mok_nx HM.out.1 _)) ?_
  intro e w5 hh
  obtain ⟨⟨r, hr, rfl⟩, bb⟩ := hh
  (try clear hh)
  replace bz := bz.below bb
  replace x1 := x1.below bb
  replace x2 := x2.below bb
  replace x3 := x3.below bb
  replace x4 := x4.below bb
  replace hS := hS.on bb bb.size
  replace S1 := S1.on bb bb.size
  replace S2 := S2.on bb bb.size
  replace S3 := S3.on bb bb.size
  replace S4 := S4.on bb bb.size
  have B5 := B4.trans (bb.mono B4.size)
  clear bb B4
  obtain rfl := hr.same (.inr ⟨one_next HM.out.2.1, rfl⟩)
  clear hr
  clear S1 x1
  obtain ⟨k0, k1, k2, k3, k4, k5⟩ := x2.cells
  go_wp2_with fail
  clear k0 k1 k2 k3 k4 k5
  refine Calls.mono (show Calls Tryd.prog 18 #[.agg #[.int .i64 m.nx, .int .i64 (-k), .int .i64 m.vt, .int .i64 m.ss, .int .i64 m.sf, .slice A2 n c2]] w5 (fun e w' => (∃ r, CheckIs ({ m with tm := -k }) r ∧ e = .returned (.int .i64 r)) ∧ Below w5.heap.size w5 w') from check_any ({ m with tm := -k }) A2 n c2 w5 S2 (by omega) (mok_tm HM.out.1 _)) ?_
  intro e w6 hh
  obtain ⟨⟨r, hr, rfl⟩, bb⟩ := hh
  (try clear hh)
  replace bz := bz.below bb
  replace x2 := x2.below bb
  replace x3 := x3.below bb
  replace x4 := x4.below bb
  replace hS := hS.on bb bb.size
  replace S2 := S2.on bb bb.size
  replace S3 := S3.on bb bb.size
  replace S4 := S4.on bb bb.size
  have B6 := B5.trans (bb.mono B5.size)
  clear bb B5
  obtain rfl := hr.same (.inr ⟨one_term HM.out.2.1, rfl⟩)
  clear hr
  clear S2 x2
  obtain ⟨k0, k1, k2, k3, k4, k5⟩ := x3.cells
  go_wp2_with fail
  clear k0 k1 k2 k3 k4 k5
  refine Calls.mono (show Calls Tryd.prog 18 #[.agg #[.int .i64 m.nx, .int .i64 m.tm, .int .i64 (5 + k), .int .i64 m.ss, .int .i64 m.sf, .slice A3 n c3]] w6 (fun e w' => (∃ r, CheckIs ({ m with vt := 5 + k }) r ∧ e = .returned (.int .i64 r)) ∧ Below w6.heap.size w6 w') from check_any ({ m with vt := 5 + k }) A3 n c3 w6 S3 (by omega) (mok_vt HM.out.1 _)) ?_
  intro e w7 hh
  obtain ⟨⟨r, hr, rfl⟩, bb⟩ := hh
  (try clear hh)
  replace bz := bz.below bb
  replace x3 := x3.below bb
  replace x4 := x4.below bb
  replace hS := hS.on bb bb.size
  replace S3 := S3.on bb bb.size
  replace S4 := S4.on bb bb.size
  have B7 := B6.trans (bb.mono B6.size)
  clear bb B6
  obtain rfl := hr.same (.inr ⟨one_vote HM.out.2.1, rfl⟩)
  clear hr
  clear S3 x3
  obtain ⟨k0, k1, k2, k3, k4, k5⟩ := x4.cells
  go_wp2_with fail
  clear k0 k1 k2 k3 k4 k5
  refine Calls.mono (show Calls Tryd.prog 18 #[.agg #[.int .i64 m.nx, .int .i64 m.tm, .int .i64 m.vt, .int .i64 (m.nx - 1 + k), .int .i64 1, .slice A4 n c4]] w7 (fun e w' => (∃ r, CheckIs ({ m with ss := m.nx - 1 + k, sf := 1 }) r ∧ e = .returned (.int .i64 r)) ∧ Below w7.heap.size w7 w') from check_any ({ m with ss := m.nx - 1 + k, sf := 1 }) A4 n c4 w7 S4 (by omega) (mok_ss HM.out.1 HM.out.2 _)) ?_
  intro e w8 hh
  obtain ⟨⟨r, hr, rfl⟩, bb⟩ := hh
  (try clear hh)
  replace bz := bz.below bb
  replace x4 := x4.below bb
  replace hS := hS.on bb bb.size
  replace S4 := S4.on bb bb.size
  have B8 := B7.trans (bb.mono B7.size)
  clear bb B7
  obtain rfl := hr.same (.inr ⟨one_snap HM.out.2.1, rfl⟩)
  clear hr
  clear S4 x4
  clear hHeld
  obtain ⟨k0, k1, k2, k3, k4, k5⟩ := bz.cells
  by_cases hn0 : n = 0
  · have z0 : ((n : Int) == 0) = true := by simpa using hn0
    go_wp2_with fail
    clear k0 k1 k2 k3 k4 k5
    refine Calls.mono (wakes_true w8 (HT.out.on B8)) ?_
    rintro e w9 ⟨rfl, bb⟩
    replace bz := bz.below bb
    replace hS := hS.on bb bb.size
    have B9 := B8.trans (bb.mono B8.size)
    clear bb B8
    go_wp2_with fail
    go_ret
    exact ⟨rfl, B9⟩
  have z0 : ((n : Int) == 0) = false := by simpa using hn0
  obtain ⟨t, p, pl0, pl1, pl2, pl3, hpn⟩ := place_two (n := n) (by omega) (by omega) at_
  have pl4 : IntKind.i64.wrap (t + (n : Int)) = t + (n : Int) := by rw [IntKind.wrap_i64]; unfold wrap64 at pl1; omega
  have HZ := Lib.hid (fun (X : World) (hX : Below w8.heap.size w8 X) => (bz.below hX).cells)
  go_wp2_with fail
  clear k0 k1 k2 k3 k4 k5
  refine wp_region_held_drew (S := (fun X => Below w8.heap.size w8 X)) (by kernel_rfl) ((Below.refl _ _).drew) (fun hHeld => ?_)
  refine take_at (i := 0) (d := 79) (oi := ?o37) (v := ?v37) ?hi37 ?hd37 (by kernel_rfl) (by kernel_rfl) (by kernel_rfl) ?hw37 ?hy37 ?hq37 (by assumption) ?r37
  case hi37 => (simp only [List.getElem?_toArray, List.getElem?_cons_zero]; rfl)
  case hd37 => rfl
  case hw37 => rfl
  case hy37 => ((intro w hSw; (try dsimp only at hSw); obtain ⟨s0, s1, s2, s3, s4, s5⟩ := HZ.out w hSw; go_simp) <;> (with_reducible rfl))
  case hq37 => exact fun _ _ _ h => h
  simp only [List.set_cons_succ, List.set_cons_zero]
  refine take_at (i := 1) (d := 80) (oi := ?o38) (v := ?v38) ?hi38 ?hd38 (by kernel_rfl) (by kernel_rfl) (by kernel_rfl) ?hw38 ?hy38 ?hq38 (by assumption) ?r38
  case hi38 => (simp only [List.getElem?_toArray, List.getElem?_cons_succ, List.getElem?_cons_zero]; rfl)
  case hd38 => rfl
  case hw38 => rfl
  case hy38 => ((intro w hSw; (try dsimp only at hSw); obtain ⟨s0, s1, s2, s3, s4, s5⟩ := HZ.out w hSw; go_simp) <;> (with_reducible rfl))
  case hq38 => exact fun _ _ _ h => h
  simp only [List.set_cons_succ, List.set_cons_zero]
  refine take_at (i := 2) (d := 81) (oi := ?o39) (v := ?v39) ?hi39 ?hd39 (by kernel_rfl) (by kernel_rfl) (by kernel_rfl) ?hw39 ?hy39 ?hq39 (by assumption) ?r39
  case hi39 => (simp only [List.getElem?_toArray, List.getElem?_cons_succ, List.getElem?_cons_zero]; rfl)
  case hd39 => rfl
  case hw39 => rfl
  case hy39 => ((intro w hSw; (try dsimp only at hSw); obtain ⟨s0, s1, s2, s3, s4, s5⟩ := HZ.out w hSw; go_simp) <;> (with_reducible rfl))
  case hq39 => exact fun _ _ _ h => h
  simp only [List.set_cons_succ, List.set_cons_zero]
  refine take_at (i := 3) (d := 82) (oi := ?o40) (v := ?v40) ?hi40 ?hd40 (by kernel_rfl) (by kernel_rfl) (by kernel_rfl) ?hw40 ?hy40 ?hq40 (by assumption) ?r40
  case hi40 => (simp only [List.getElem?_toArray, List.getElem?_cons_succ, List.getElem?_cons_zero]; rfl)
  case hd40 => rfl
  case hw40 => rfl
  case hy40 => ((intro w hSw; (try dsimp only at hSw); obtain ⟨s0, s1, s2, s3, s4, s5⟩ := HZ.out w hSw; go_simp) <;> (with_reducible rfl))
  case hq40 => exact fun _ _ _ h => h
  simp only [List.set_cons_succ, List.set_cons_zero]
  refine take_at (i := 4) (d := 83) (oi := ?o41) (v := ?v41) ?hi41 ?hd41 (by kernel_rfl) (by kernel_rfl) (by kernel_rfl) ?hw41 ?hy41 ?hq41 (by assumption) ?r41
  case hi41 => (simp only [List.getElem?_toArray, List.getElem?_cons_succ, List.getElem?_cons_zero]; rfl)
  case hd41 => rfl
  case hw41 => rfl
  case hy41 => ((intro w hSw; (try dsimp only at hSw); obtain ⟨s0, s1, s2, s3, s4, s5⟩ := HZ.out w hSw; go_simp) <;> (with_reducible rfl))
  case hq41 => exact fun _ _ _ h => h
  simp only [List.set_cons_succ, List.set_cons_zero]
  refine take_at (i := 5) (d := 84) (oi := ?o42) (v := ?v42) ?hi42 ?hd42 (by kernel_rfl) (by kernel_rfl) (by kernel_rfl) ?hw42 ?hy42 ?hq42 (by assumption) ?r42
  case hi42 => (simp only [List.getElem?_toArray, List.getElem?_cons_succ, List.getElem?_cons_zero]; rfl)
  case hd42 => rfl
  case hw42 => rfl
  case hy42 => ((intro w hSw; (try dsimp only at hSw); obtain ⟨s0, s1, s2, s3, s4, s5⟩ := HZ.out w hSw; go_simp) <;> (with_reducible rfl))
  case hq42 => exact fun _ _ _ h => h
  simp only [List.set_cons_succ, List.set_cons_zero]
  refine take_at (i := 6) (d := 85) (oi := ?o43) (v := ?v43) ?hi43 ?hd43 (by kernel_rfl) (by kernel_rfl) (by kernel_rfl) ?hw43 ?hy43 ?hq43 (by assumption) ?r43
  case hi43 => (simp only [List.getElem?_toArray, List.getElem?_cons_succ, List.getElem?_cons_zero]; rfl)
  case hd43 => rfl
  case hw43 => rfl
  case hy43 => ((intro w hSw; (try dsimp only at hSw); obtain ⟨s0, s1, s2, s3, s4, s5⟩ := HZ.out w hSw; go_simp) <;> (with_reducible rfl))
  case hq43 => exact fun _ _ _ h => h
  simp only [List.set_cons_succ, List.set_cons_zero]
  refine take_at (i := 7) (d := 86) (oi := ?o44) (v := ?v44) ?hi44 ?hd44 (by kernel_rfl) (by kernel_rfl) (by kernel_rfl) ?hw44 ?hy44 ?hq44 (by assumption) ?r44
  case hi44 => (simp only [List.getElem?_toArray, List.getElem?_cons_succ, List.getElem?_cons_zero]; rfl)
  case hd44 => rfl
  case hw44 => rfl
  case hy44 => ((intro w hSw; (try dsimp only at hSw); obtain ⟨s0, s1, s2, s3, s4, s5⟩ := HZ.out w hSw; go_simp) <;> (with_reducible rfl))
  case hq44 => exact fun _ _ _ h => h
  simp only [List.set_cons_succ, List.set_cons_zero]
  refine take_at (i := 8) (d := 87) (oi := ?o45) (v := ?v45) ?hi45 ?hd45 (by kernel_rfl) (by kernel_rfl) (by kernel_rfl) ?hw45 ?hy45 ?hq45 (by assumption) ?r45
  case hi45 => (simp only [List.getElem?_toArray, List.getElem?_cons_succ, List.getElem?_cons_zero]; rfl)
  case hd45 => rfl
  case hw45 => rfl
  case hy45 => ((intro w hSw; (try dsimp only at hSw); obtain ⟨s0, s1, s2, s3, s4, s5⟩ := HZ.out w hSw; go_simp) <;> (with_reducible rfl))
  case hq45 => exact fun _ _ _ h => h
  simp only [List.set_cons_succ, List.set_cons_zero]
  refine take_at (i := 9) (d := 88) (oi := ?o46) (v := ?v46) ?hi46 ?hd46 (by kernel_rfl) (by kernel_rfl) (by kernel_rfl) ?hw46 ?hy46 ?hq46 (by assumption) ?r46
  case hi46 => (simp only [List.getElem?_toArray, List.getElem?_cons_succ, List.getElem?_cons_zero]; rfl)
  case hd46 => rfl
  case hw46 => rfl
  case hy46 => ((intro w hSw; (try dsimp only at hSw); obtain ⟨s0, s1, s2, s3, s4, s5⟩ := HZ.out w hSw; go_simp) <;> (with_reducible rfl))
  case hq46 => exact fun _ _ _ h => h
  simp only [List.set_cons_succ, List.set_cons_zero]
  refine take_at (i := 10) (d := 89) (oi := ?o47) (v := ?v47) ?hi47 ?hd47 (by kernel_rfl) (by kernel_rfl) (by kernel_rfl) ?hw47 ?hy47 ?hq47 (by assumption) ?r47
  case hi47 => (simp only [List.getElem?_toArray, List.getElem?_cons_succ, List.getElem?_cons_zero]; rfl)
  case hd47 => rfl
  case hw47 => rfl
  case hy47 => ((intro w hSw; (try dsimp only at hSw); obtain ⟨s0, s1, s2, s3, s4, s5⟩ := HZ.out w hSw; go_simp) <;> (with_reducible rfl))
  case hq47 => exact fun _ _ _ h => h
  simp only [List.set_cons_succ, List.set_cons_zero]
  refine take_at (i := 11) (d := 90) (oi := ?o48) (v := ?v48) ?hi48 ?hd48 (by kernel_rfl) (by kernel_rfl) (by kernel_rfl) ?hw48 ?hy48 ?hq48 (by assumption) ?r48
  case hi48 => (simp only [List.getElem?_toArray, List.getElem?_cons_succ, List.getElem?_cons_zero]; rfl)
  case hd48 => rfl
  case hw48 => rfl
  case hy48 => ((intro w hSw; (try dsimp only at hSw); obtain ⟨s0, s1, s2, s3, s4, s5⟩ := HZ.out w hSw; go_simp) <;> (with_reducible rfl))
  case hq48 => exact fun _ _ _ h => h
  simp only [List.set_cons_succ, List.set_cons_zero]
  refine take_at (i := 12) (d := 91) (oi := ?o49) (v := ?v49) ?hi49 ?hd49 (by kernel_rfl) (by kernel_rfl) (by kernel_rfl) ?hw49 ?hy49 ?hq49 (by assumption) ?r49
  case hi49 => (simp only [List.getElem?_toArray, List.getElem?_cons_succ, List.getElem?_cons_zero]; rfl)
  case hd49 => rfl
  case hw49 => rfl
  case hy49 => ((intro w hSw; (try dsimp only at hSw); obtain ⟨s0, s1, s2, s3, s4, s5⟩ := HZ.out w hSw; go_simp) <;> (with_reducible rfl))
  case hq49 => exact fun _ _ _ h => h
  simp only [List.set_cons_succ, List.set_cons_zero]
  refine take_at (i := 13) (d := 1) (oi := ?o50) (v := ?v50) ?hi50 ?hd50 (by kernel_rfl) (by kernel_rfl) (by kernel_rfl) ?hw50 ?hy50 ?hq50 (by assumption) ?r50
  case hi50 => (simp only [List.getElem?_toArray, List.getElem?_cons_succ, List.getElem?_cons_zero]; rfl)
  case hd50 => rfl
  case hw50 => rfl
  case hy50 => ((intro w hSw; (try dsimp only at hSw); obtain ⟨s0, s1, s2, s3, s4, s5⟩ := HZ.out w hSw; go_simp) <;> (with_reducible rfl))
  case hq50 => exact fun _ _ _ h => h
  simp only [List.set_cons_succ, List.set_cons_zero]
  refine wpAnyH_done (by kernel_rfl) ?_ _
  clear hHeld pl0 pl1 pl2 pl3 pl4 z0 HZ
  obtain ⟨w9, hw9⟩ : ∃ x, x = w8.drew := ⟨_, rfl⟩
  have bb : Below w8.heap.size w8 w9 := by rw [hw9]; exact (Below.refl _ _).drew
  rw [← hw9]
  clear hw9
  replace bz := bz.below bb
  replace hS := hS.on bb bb.size
  have B9 := B8.trans (bb.mono B8.size)
  clear bb B8
  obtain ⟨sp, hsp⟩ : ∃ s, m.sg[p]? = some s := ⟨_, List.getElem?_eq_getElem (by rw [hS.len]; exact hpn)⟩
  have HSP := Lib.hid hsp
  clear hsp
  have HZ := Lib.hid (⟨bz, hS, B9⟩ : _ ∧ _ ∧ _)
  clear bz hS B9
  go_wp2_with fail
  go_loopw [11] (fun v wr => ∃ i : Nat, i ≤ 6 ∧ v = .int .i64 i ∧ Below w9.heap.size w9 wr) (fun v _ => 6 - (intOf v).toNat)
  case atStart => exact ⟨0, Nat.zero_le _, rfl, Below.refl _ _⟩
  obtain ⟨i, hi6, rfl, hB⟩ := hrel
  obtain ⟨bz, hS, B9⟩ := HZ.out
  replace bz := bz.below hB
  replace hS := hS.on hB hB.size
  by_cases hlt : i < 6
  · have t6 : decide ((i : Int) < 6) = true := by simp; omega
    have t6' : decide (i < 6) = true := by simpa using hlt
    obtain ⟨k0, k1, k2, k3, k4, k5⟩ := bz.cells
    go_wp2_with fail
    clear k0 k1 k2 k3 k4 k5
    clear t6 t6'
    refine Calls.mono (show Calls Tryd.prog 28 #[.agg #[.int .i64 m.nx, .int .i64 m.tm, .int .i64 m.vt, .int .i64 m.ss, .int .i64 m.sf, .slice A n c]] wr (fun e w' => (∃ A' c', e = .returned (manV m (.slice A' n c')) ∧ n ≤ c' ∧ OwnS w' wr.heap.size (.slice A' n c') n m.sg) ∧ Below wr.heap.size wr w') from rown_any m A n c wr hS (by omega)) ?_
    intro e w1 hh
    obtain ⟨⟨A', c', rfl, hc', own⟩, bb⟩ := hh
    (try clear hh)
    replace bz := bz.below bb
    replace hS := hS.on bb bb.size
    have B1 := bb
    clear bb
    obtain ⟨g, cap, hv⟩ := own_some own (by omega)
    obtain ⟨rfl, rfl⟩ : A' = some ⟨g, 0, none⟩ ∧ c' = cap := by simpa using hv
    clear hv
    unfold manV
    obtain ⟨z2, hz2⟩ : ∃ z, z = w1.heap.size := ⟨_, rfl⟩
    obtain ⟨w2, hw2⟩ : ∃ x, x = w1.alloc (.cells #[.int .i64 m.nx, .int .i64 m.tm, .int .i64 m.vt, .int .i64 m.ss, .int .i64 m.sf, (.slice (some ⟨g, 0, none⟩) n c')] 26) := ⟨_, rfl⟩
    have bb : Below w1.heap.size w1 w2 := by rw [hw2]; exact below_al (below_d0 _) _
    have bo : BoxM w2 z2 m (.slice (some ⟨g, 0, none⟩) n c') := by rw [hw2, hz2]; exact BoxM.new w1 m _
    replace own : OwnS w2 wr.heap.size (.slice (some ⟨g, 0, none⟩) n c') n m.sg := own_keep own bb
    have hgl : wr.heap.size ≤ g := (own.lt g rfl).1
    have hgz : g ≠ z2 := own_box bo own g rfl
    have HZL := Lib.hid (show wr.heap.size ≤ z2 by rw [hz2]; exact B1.size)
    replace bz := bz.below bb
    replace hS := hS.on bb bb.size
    have B2 := B1.trans (bb.mono B1.size)
    clear bb B1
    have HE := Lib.hid (⟨hw2, hz2⟩ : _ ∧ _)
    clear hw2 hz2
    go_upto_region 14 with fail
    rw [← HE.out.1, ← HE.out.2]
    clear HE
    have hkM : May m ∧ 1 ≤ k ∧ k ≤ 1073741824 := HM.out
    have hnx := hkM.1.nx
    have hsqs := may_sq hkM.1 sp (List.mem_of_getElem? HSP.out)
    have HB := Lib.hid (⟨hnx, hsqs⟩ : _ ∧ _)
    clear hkM hnx hsqs
    have hpi : (0 : Int) ≤ (p : Int) ∧ (p : Int) < (n : Int) := by omega
    have hcase : i = 0 ∨ i = 1 ∨ i = 2 ∨ i = 3 ∨ i = 4 ∨ i = 5 := by omega
    obtain ⟨d0, d1, d2, d3⟩ := seg_cellsP own hpn HSP.out
    rcases hcase with hi | hi | hi | hi | hi | hi
    · have s0 : ((i : Int) == 0) = true := by rw [hi]; rfl
      have s1 : ((i : Int) == 1) = false := by rw [hi]; rfl
      have s2 : ((i : Int) == 2) = false := by rw [hi]; rfl
      have s3 : ((i : Int) == 3) = false := by rw [hi]; rfl
      have s4 : ((i : Int) == 4) = false := by rw [hi]; rfl
      have s5 : ((i : Int) == 5) = false := by rw [hi]; rfl
      have HI := Lib.hid hi
      clear hi
      have q1 : IntKind.i64.wrap (m.nx - 1) = m.nx - 1 := by rw [IntKind.wrap_i64]; have := HB.out.1; omega
      have q1x : wrap64 (m.nx - 1) = m.nx - 1 := by have := HB.out.1; unfold wrap64; omega
      have q2 : IntKind.i64.wrap (m.nx - 1 + k) = m.nx - 1 + k := by rw [IntKind.wrap_i64]; have := HB.out.1; omega
      have q2x : wrap64 (m.nx - 1 + k) = m.nx - 1 + k := by have := HB.out.1; unfold wrap64; omega
      have fz : w2.frozen? ⟨g, p * 4, none⟩ = false := seg_frozen (f := 0) own hpn
      obtain ⟨k0, k1, k2, k3, k4, k5⟩ := bz.cells
      obtain ⟨b0, b1, b2, b3, b4, b5⟩ := bo.cells
      go_upto_region 28 with fail
      clear k0 k1 k2 k3 k4 k5
      clear b0 b1 b2 b3 b4 b5
      clear d0 d1 d2 d3 fz s0 s1 s2 s3 s4 s5 q1 q1x q2 q2x
      obtain ⟨w3, hw3⟩ : ∃ x, x = w2.setCell ⟨g, p * 4, none⟩ (.int .i64 (m.nx - 1 + k)) := ⟨_, rfl⟩
      obtain ⟨s', hs'⟩ : ∃ s : SegP, s = { sp with sq := m.nx - 1 + k } := ⟨_, rfl⟩
      have hSet : Sg w3 w3.heap.size (some ⟨g, 0, none⟩) n (setM m p s').sg := by
        rw [hw3]
        exact seg_set (f := 0) own hpn HSP.out (by omega) fun j hj => by rw [hs']; rcases j with _ | _ | _ | _ | j <;> first | rfl | omega
      have bo3 : BoxM w3 z2 m (.slice (some ⟨g, 0, none⟩) n c') := by rw [hw3]; exact set_boxes bo hgz.symm
      have b3 : Below wr.heap.size wr w3 := by rw [hw3]; exact B2.setCell (p := ⟨g, p * 4, none⟩) hgl _
      rw [← hw3]
      clear hw3 bo own hgz hgl hc' bz hS B2
      have bz := HZ.out.1.below (hB.trans (b3.mono hB.size))
      have hS := HZ.out.2.1.on (hB.trans (b3.mono hB.size)) (hB.trans (b3.mono hB.size)).size
      have hno := one_0 HM.out.1 HSP.out HM.out.2.1
      rw [← hs'] at hno
      have hmk : MOk (setM m p s') := mok_set HM.out.1 p s' (by rw [hs']; have h1 := HB.out.1; have h2 := HB.out.2; dsimp only; omega)
      have HN := Lib.hid (⟨hno, hmk, hs'⟩ : _ ∧ _ ∧ _)
      clear hno hmk hs'
      have B3 := b3
      clear b3
      obtain ⟨b0, b1, b2, b3, b4, b5⟩ := bo3.cells
      go_wp2_with fail
      clear b0 b1 b2 b3 b4 b5
      refine Calls.mono (show Calls Tryd.prog 18 #[.agg #[.int .i64 m.nx, .int .i64 m.tm, .int .i64 m.vt, .int .i64 m.ss, .int .i64 m.sf, (.slice (some ⟨g, 0, none⟩) n c')]] w3 (fun e w' => (∃ r, CheckIs (setM m p s') r ∧ e = .returned (.int .i64 r)) ∧ Below w3.heap.size w3 w') from check_any (setM m p s') (some ⟨g, 0, none⟩) n c' w3 hSet (by omega) HN.out.2.1) ?_
      intro e w4 hh
      obtain ⟨⟨r, hr, rfl⟩, bb⟩ := hh
      (try clear hh)
      replace bz := bz.below bb
      replace bo3 := bo3.below bb
      replace hS := hS.on bb bb.size
      replace hSet := hSet.on bb bb.size
      have B4 := B3.trans (bb.mono B3.size)
      clear bb B3
      obtain rfl := hr.same (.inr ⟨HN.out.1.1, rfl⟩)
      clear hr
      obtain ⟨b0, b1, b2, b3, b4, b5⟩ := bo3.cells
      obtain ⟨k0, k1, k2, k3, k4, k5⟩ := bz.cells
      go_wp2_with fail
      clear k0 k1 k2 k3 k4 k5
      clear b0 b1 b2 b3 b4 b5
      refine Calls.mono (show Calls Tryd.prog 25 #[.agg #[.int .i64 m.nx, .int .i64 m.tm, .int .i64 m.vt, .int .i64 m.ss, .int .i64 m.sf, (.slice (some ⟨g, 0, none⟩) n c')], .agg #[.int .i64 m.nx, .int .i64 m.tm, .int .i64 m.vt, .int .i64 m.ss, .int .i64 m.sf, .slice A n c]] w4 (fun e w' => (∃ b, SameM (setM m p s') m b ∧ e = .returned (.bool b)) ∧ Below w4.heap.size w4 w') from sameM_any (setM m p s') m (some ⟨g, 0, none⟩) A n n c' c w4 hSet hS (by omega) (by omega)) ?_
      intro e w5 hh
      obtain ⟨⟨b, hsm, rfl⟩, bb⟩ := hh
      (try clear hh)
      replace bz := bz.below bb
      replace bo3 := bo3.below bb
      replace hS := hS.on bb bb.size
      replace hSet := hSet.on bb bb.size
      have B5 := B4.trans (bb.mono B4.size)
      clear bb B4
      obtain rfl := hsm.same (SameM.no HN.out.1.2)
      clear hsm
      go_wp2_with fail
      go_roundw
      case rel => exact ⟨i + 1, by omega, by go_num, hB.trans (B5.mono hB.size)⟩
      case measure => simp [intOf]; omega
    · have s0 : ((i : Int) == 0) = false := by rw [hi]; rfl
      have s1 : ((i : Int) == 1) = true := by rw [hi]; rfl
      have s2 : ((i : Int) == 2) = false := by rw [hi]; rfl
      have s3 : ((i : Int) == 3) = false := by rw [hi]; rfl
      have s4 : ((i : Int) == 4) = false := by rw [hi]; rfl
      have s5 : ((i : Int) == 5) = false := by rw [hi]; rfl
      have HI := Lib.hid hi
      clear hi
      have q1 : IntKind.i64.wrap (2 + k) = 2 + k := by rw [IntKind.wrap_i64]; have := HB.out.1; omega
      have q1x : wrap64 (2 + k) = 2 + k := by have := HB.out.1; unfold wrap64; omega
      have fz : w2.frozen? ⟨g, p * 4 + 1, none⟩ = false := seg_frozen (f := 1) own hpn
      obtain ⟨k0, k1, k2, k3, k4, k5⟩ := bz.cells
      obtain ⟨b0, b1, b2, b3, b4, b5⟩ := bo.cells
      go_upto_region 28 with fail
      clear k0 k1 k2 k3 k4 k5
      clear b0 b1 b2 b3 b4 b5
      clear d0 d1 d2 d3 fz s0 s1 s2 s3 s4 s5 q1 q1x
      obtain ⟨w3, hw3⟩ : ∃ x, x = w2.setCell ⟨g, p * 4 + 1, none⟩ (.int .i64 (2 + k)) := ⟨_, rfl⟩
      obtain ⟨s', hs'⟩ : ∃ s : SegP, s = { sp with fm := 2 + k } := ⟨_, rfl⟩
      have hSet : Sg w3 w3.heap.size (some ⟨g, 0, none⟩) n (setM m p s').sg := by
        rw [hw3]
        exact seg_set (f := 1) own hpn HSP.out (by omega) fun j hj => by rw [hs']; rcases j with _ | _ | _ | _ | j <;> first | rfl | omega
      have bo3 : BoxM w3 z2 m (.slice (some ⟨g, 0, none⟩) n c') := by rw [hw3]; exact set_boxes bo hgz.symm
      have b3 : Below wr.heap.size wr w3 := by rw [hw3]; exact B2.setCell (p := ⟨g, p * 4 + 1, none⟩) hgl _
      rw [← hw3]
      clear hw3 bo own hgz hgl hc' bz hS B2
      have bz := HZ.out.1.below (hB.trans (b3.mono hB.size))
      have hS := HZ.out.2.1.on (hB.trans (b3.mono hB.size)) (hB.trans (b3.mono hB.size)).size
      have hno := one_1 HM.out.1 HSP.out HM.out.2.1
      rw [← hs'] at hno
      have hmk : MOk (setM m p s') := mok_set HM.out.1 p s' (by rw [hs']; have h1 := HB.out.1; have h2 := HB.out.2; dsimp only; omega)
      have HN := Lib.hid (⟨hno, hmk, hs'⟩ : _ ∧ _ ∧ _)
      clear hno hmk hs'
      have B3 := b3
      clear b3
      obtain ⟨b0, b1, b2, b3, b4, b5⟩ := bo3.cells
      go_wp2_with fail
      clear b0 b1 b2 b3 b4 b5
      refine Calls.mono (show Calls Tryd.prog 18 #[.agg #[.int .i64 m.nx, .int .i64 m.tm, .int .i64 m.vt, .int .i64 m.ss, .int .i64 m.sf, (.slice (some ⟨g, 0, none⟩) n c')]] w3 (fun e w' => (∃ r, CheckIs (setM m p s') r ∧ e = .returned (.int .i64 r)) ∧ Below w3.heap.size w3 w') from check_any (setM m p s') (some ⟨g, 0, none⟩) n c' w3 hSet (by omega) HN.out.2.1) ?_
      intro e w4 hh
      obtain ⟨⟨r, hr, rfl⟩, bb⟩ := hh
      (try clear hh)
      replace bz := bz.below bb
      replace bo3 := bo3.below bb
      replace hS := hS.on bb bb.size
      replace hSet := hSet.on bb bb.size
      have B4 := B3.trans (bb.mono B3.size)
      clear bb B3
      obtain rfl := hr.same (.inr ⟨HN.out.1.1, rfl⟩)
      clear hr
      obtain ⟨b0, b1, b2, b3, b4, b5⟩ := bo3.cells
      obtain ⟨k0, k1, k2, k3, k4, k5⟩ := bz.cells
      go_wp2_with fail
      clear k0 k1 k2 k3 k4 k5
      clear b0 b1 b2 b3 b4 b5
      refine Calls.mono (show Calls Tryd.prog 25 #[.agg #[.int .i64 m.nx, .int .i64 m.tm, .int .i64 m.vt, .int .i64 m.ss, .int .i64 m.sf, (.slice (some ⟨g, 0, none⟩) n c')], .agg #[.int .i64 m.nx, .int .i64 m.tm, .int .i64 m.vt, .int .i64 m.ss, .int .i64 m.sf, .slice A n c]] w4 (fun e w' => (∃ b, SameM (setM m p s') m b ∧ e = .returned (.bool b)) ∧ Below w4.heap.size w4 w') from sameM_any (setM m p s') m (some ⟨g, 0, none⟩) A n n c' c w4 hSet hS (by omega) (by omega)) ?_
      intro e w5 hh
      obtain ⟨⟨b, hsm, rfl⟩, bb⟩ := hh
      (try clear hh)
      replace bz := bz.below bb
      replace bo3 := bo3.below bb
      replace hS := hS.on bb bb.size
      replace hSet := hSet.on bb bb.size
      have B5 := B4.trans (bb.mono B4.size)
      clear bb B4
      obtain rfl := hsm.same (SameM.no HN.out.1.2)
      clear hsm
      go_wp2_with fail
      go_roundw
      case rel => exact ⟨i + 1, by omega, by go_num, hB.trans (B5.mono hB.size)⟩
      case measure => simp [intOf]; omega
    · have s0 : ((i : Int) == 0) = false := by rw [hi]; rfl
      have s1 : ((i : Int) == 1) = false := by rw [hi]; rfl
      have s2 : ((i : Int) == 2) = true := by rw [hi]; rfl
      have s3 : ((i : Int) == 3) = false := by rw [hi]; rfl
      have s4 : ((i : Int) == 4) = false := by rw [hi]; rfl
      have s5 : ((i : Int) == 5) = false := by rw [hi]; rfl
      have HI := Lib.hid hi
      clear hi
      have q1 : IntKind.i64.wrap (-k) = -k := by rw [IntKind.wrap_i64]; have := HB.out.1; omega
      have q1x : wrap64 (-k) = -k := by have := HB.out.1; unfold wrap64; omega
      have fz : w2.frozen? ⟨g, p * 4 + 2, none⟩ = false := seg_frozen (f := 2) own hpn
      obtain ⟨k0, k1, k2, k3, k4, k5⟩ := bz.cells
      obtain ⟨b0, b1, b2, b3, b4, b5⟩ := bo.cells
      go_upto_region 28 with fail
      clear k0 k1 k2 k3 k4 k5
      clear b0 b1 b2 b3 b4 b5
      clear d0 d1 d2 d3 fz s0 s1 s2 s3 s4 s5 q1 q1x
      obtain ⟨w3, hw3⟩ : ∃ x, x = w2.setCell ⟨g, p * 4 + 2, none⟩ (.int .i64 (-k)) := ⟨_, rfl⟩
      obtain ⟨s', hs'⟩ : ∃ s : SegP, s = { sp with fi := -k } := ⟨_, rfl⟩
      have hSet : Sg w3 w3.heap.size (some ⟨g, 0, none⟩) n (setM m p s').sg := by
        rw [hw3]
        exact seg_set (f := 2) own hpn HSP.out (by omega) fun j hj => by rw [hs']; rcases j with _ | _ | _ | _ | j <;> first | rfl | omega
      have bo3 : BoxM w3 z2 m (.slice (some ⟨g, 0, none⟩) n c') := by rw [hw3]; exact set_boxes bo hgz.symm
      have b3 : Below wr.heap.size wr w3 := by rw [hw3]; exact B2.setCell (p := ⟨g, p * 4 + 2, none⟩) hgl _
      rw [← hw3]
      clear hw3 bo own hgz hgl hc' bz hS B2
      have bz := HZ.out.1.below (hB.trans (b3.mono hB.size))
      have hS := HZ.out.2.1.on (hB.trans (b3.mono hB.size)) (hB.trans (b3.mono hB.size)).size
      have hno := one_2 HM.out.1 HSP.out HM.out.2.1
      rw [← hs'] at hno
      have hmk : MOk (setM m p s') := mok_set HM.out.1 p s' (by rw [hs']; have h1 := HB.out.1; have h2 := HB.out.2; dsimp only; omega)
      have HN := Lib.hid (⟨hno, hmk, hs'⟩ : _ ∧ _ ∧ _)
      clear hno hmk hs'
      have B3 := b3
      clear b3
      obtain ⟨b0, b1, b2, b3, b4, b5⟩ := bo3.cells
      go_wp2_with fail
      clear b0 b1 b2 b3 b4 b5
      refine Calls.mono (show Calls Tryd.prog 18 #[.agg #[.int .i64 m.nx, .int .i64 m.tm, .int .i64 m.vt, .int .i64 m.ss, .int .i64 m.sf, (.slice (some ⟨g, 0, none⟩) n c')]] w3 (fun e w' => (∃ r, CheckIs (setM m p s') r ∧ e = .returned (.int .i64 r)) ∧ Below w3.heap.size w3 w') from check_any (setM m p s') (some ⟨g, 0, none⟩) n c' w3 hSet (by omega) HN.out.2.1) ?_
      intro e w4 hh
      obtain ⟨⟨r, hr, rfl⟩, bb⟩ := hh
      (try clear hh)
      replace bz := bz.below bb
      replace bo3 := bo3.below bb
      replace hS := hS.on bb bb.size
      replace hSet := hSet.on bb bb.size
      have B4 := B3.trans (bb.mono B3.size)
      clear bb B3
      obtain rfl := hr.same (.inr ⟨HN.out.1.1, rfl⟩)
      clear hr
      obtain ⟨b0, b1, b2, b3, b4, b5⟩ := bo3.cells
      obtain ⟨k0, k1, k2, k3, k4, k5⟩ := bz.cells
      go_wp2_with fail
      clear k0 k1 k2 k3 k4 k5
      clear b0 b1 b2 b3 b4 b5
      refine Calls.mono (show Calls Tryd.prog 25 #[.agg #[.int .i64 m.nx, .int .i64 m.tm, .int .i64 m.vt, .int .i64 m.ss, .int .i64 m.sf, (.slice (some ⟨g, 0, none⟩) n c')], .agg #[.int .i64 m.nx, .int .i64 m.tm, .int .i64 m.vt, .int .i64 m.ss, .int .i64 m.sf, .slice A n c]] w4 (fun e w' => (∃ b, SameM (setM m p s') m b ∧ e = .returned (.bool b)) ∧ Below w4.heap.size w4 w') from sameM_any (setM m p s') m (some ⟨g, 0, none⟩) A n n c' c w4 hSet hS (by omega) (by omega)) ?_
      intro e w5 hh
      obtain ⟨⟨b, hsm, rfl⟩, bb⟩ := hh
      (try clear hh)
      replace bz := bz.below bb
      replace bo3 := bo3.below bb
      replace hS := hS.on bb bb.size
      replace hSet := hSet.on bb bb.size
      have B5 := B4.trans (bb.mono B4.size)
      clear bb B4
      obtain rfl := hsm.same (SameM.no HN.out.1.2)
      clear hsm
      go_wp2_with fail
      go_roundw
      case rel => exact ⟨i + 1, by omega, by go_num, hB.trans (B5.mono hB.size)⟩
      case measure => simp [intOf]; omega
    · have s0 : ((i : Int) == 0) = false := by rw [hi]; rfl
      have s1 : ((i : Int) == 1) = false := by rw [hi]; rfl
      have s2 : ((i : Int) == 2) = false := by rw [hi]; rfl
      have s3 : ((i : Int) == 3) = true := by rw [hi]; rfl
      have s4 : ((i : Int) == 4) = false := by rw [hi]; rfl
      have s5 : ((i : Int) == 5) = false := by rw [hi]; rfl
      have HI := Lib.hid hi
      clear hi
      have q1 : IntKind.i64.wrap (4 + k) = 4 + k := by rw [IntKind.wrap_i64]; have := HB.out.1; omega
      have q1x : wrap64 (4 + k) = 4 + k := by have := HB.out.1; unfold wrap64; omega
      have fz : w2.frozen? ⟨g, p * 4 + 3, none⟩ = false := seg_frozen (f := 3) own hpn
      obtain ⟨k0, k1, k2, k3, k4, k5⟩ := bz.cells
      obtain ⟨b0, b1, b2, b3, b4, b5⟩ := bo.cells
      go_upto_region 28 with fail
      clear k0 k1 k2 k3 k4 k5
      clear b0 b1 b2 b3 b4 b5
      clear d0 d1 d2 d3 fz s0 s1 s2 s3 s4 s5 q1 q1x
      obtain ⟨w3, hw3⟩ : ∃ x, x = w2.setCell ⟨g, p * 4 + 3, none⟩ (.int .i64 (4 + k)) := ⟨_, rfl⟩
      obtain ⟨s', hs'⟩ : ∃ s : SegP, s = { sp with ct := 4 + k } := ⟨_, rfl⟩
      have hSet : Sg w3 w3.heap.size (some ⟨g, 0, none⟩) n (setM m p s').sg := by
        rw [hw3]
        exact seg_set (f := 3) own hpn HSP.out (by omega) fun j hj => by rw [hs']; rcases j with _ | _ | _ | _ | j <;> first | rfl | omega
      have bo3 : BoxM w3 z2 m (.slice (some ⟨g, 0, none⟩) n c') := by rw [hw3]; exact set_boxes bo hgz.symm
      have b3 : Below wr.heap.size wr w3 := by rw [hw3]; exact B2.setCell (p := ⟨g, p * 4 + 3, none⟩) hgl _
      rw [← hw3]
      clear hw3 bo own hgz hgl hc' bz hS B2
      have bz := HZ.out.1.below (hB.trans (b3.mono hB.size))
      have hS := HZ.out.2.1.on (hB.trans (b3.mono hB.size)) (hB.trans (b3.mono hB.size)).size
      have hno := one_3 HM.out.1 HSP.out HM.out.2.1
      rw [← hs'] at hno
      have hmk : MOk (setM m p s') := mok_set HM.out.1 p s' (by rw [hs']; have h1 := HB.out.1; have h2 := HB.out.2; dsimp only; omega)
      have HN := Lib.hid (⟨hno, hmk, hs'⟩ : _ ∧ _ ∧ _)
      clear hno hmk hs'
      have B3 := b3
      clear b3
      obtain ⟨b0, b1, b2, b3, b4, b5⟩ := bo3.cells
      go_wp2_with fail
      clear b0 b1 b2 b3 b4 b5
      refine Calls.mono (show Calls Tryd.prog 18 #[.agg #[.int .i64 m.nx, .int .i64 m.tm, .int .i64 m.vt, .int .i64 m.ss, .int .i64 m.sf, (.slice (some ⟨g, 0, none⟩) n c')]] w3 (fun e w' => (∃ r, CheckIs (setM m p s') r ∧ e = .returned (.int .i64 r)) ∧ Below w3.heap.size w3 w') from check_any (setM m p s') (some ⟨g, 0, none⟩) n c' w3 hSet (by omega) HN.out.2.1) ?_
      intro e w4 hh
      obtain ⟨⟨r, hr, rfl⟩, bb⟩ := hh
      (try clear hh)
      replace bz := bz.below bb
      replace bo3 := bo3.below bb
      replace hS := hS.on bb bb.size
      replace hSet := hSet.on bb bb.size
      have B4 := B3.trans (bb.mono B3.size)
      clear bb B3
      obtain rfl := hr.same (.inr ⟨HN.out.1.1, rfl⟩)
      clear hr
      obtain ⟨b0, b1, b2, b3, b4, b5⟩ := bo3.cells
      obtain ⟨k0, k1, k2, k3, k4, k5⟩ := bz.cells
      go_wp2_with fail
      clear k0 k1 k2 k3 k4 k5
      clear b0 b1 b2 b3 b4 b5
      refine Calls.mono (show Calls Tryd.prog 25 #[.agg #[.int .i64 m.nx, .int .i64 m.tm, .int .i64 m.vt, .int .i64 m.ss, .int .i64 m.sf, (.slice (some ⟨g, 0, none⟩) n c')], .agg #[.int .i64 m.nx, .int .i64 m.tm, .int .i64 m.vt, .int .i64 m.ss, .int .i64 m.sf, .slice A n c]] w4 (fun e w' => (∃ b, SameM (setM m p s') m b ∧ e = .returned (.bool b)) ∧ Below w4.heap.size w4 w') from sameM_any (setM m p s') m (some ⟨g, 0, none⟩) A n n c' c w4 hSet hS (by omega) (by omega)) ?_
      intro e w5 hh
      obtain ⟨⟨b, hsm, rfl⟩, bb⟩ := hh
      (try clear hh)
      replace bz := bz.below bb
      replace bo3 := bo3.below bb
      replace hS := hS.on bb bb.size
      replace hSet := hSet.on bb bb.size
      have B5 := B4.trans (bb.mono B4.size)
      clear bb B4
      obtain rfl := hsm.same (SameM.no HN.out.1.2)
      clear hsm
      go_wp2_with fail
      go_roundw
      case rel => exact ⟨i + 1, by omega, by go_num, hB.trans (B5.mono hB.size)⟩
      case measure => simp [intOf]; omega
    · have s0 : ((i : Int) == 0) = false := by rw [hi]; rfl
      have s1 : ((i : Int) == 1) = false := by rw [hi]; rfl
      have s2 : ((i : Int) == 2) = false := by rw [hi]; rfl
      have s3 : ((i : Int) == 3) = false := by rw [hi]; rfl
      have s4 : ((i : Int) == 4) = true := by rw [hi]; rfl
      have s5 : ((i : Int) == 5) = false := by rw [hi]; rfl
      have HI := Lib.hid hi
      clear hi
      have q1 : IntKind.i64.wrap (-1 - k) = -1 - k := by rw [IntKind.wrap_i64]; have := HB.out.1; omega
      have q1x : wrap64 (-1 - k) = -1 - k := by have := HB.out.1; unfold wrap64; omega
      have fz : w2.frozen? ⟨g, p * 4 + 3, none⟩ = false := seg_frozen (f := 3) own hpn
      obtain ⟨k0, k1, k2, k3, k4, k5⟩ := bz.cells
      obtain ⟨b0, b1, b2, b3, b4, b5⟩ := bo.cells
      go_upto_region 28 with fail
      clear k0 k1 k2 k3 k4 k5
      clear b0 b1 b2 b3 b4 b5
      clear d0 d1 d2 d3 fz s0 s1 s2 s3 s4 s5 q1 q1x
      obtain ⟨w3, hw3⟩ : ∃ x, x = w2.setCell ⟨g, p * 4 + 3, none⟩ (.int .i64 (-1 - k)) := ⟨_, rfl⟩
      obtain ⟨s', hs'⟩ : ∃ s : SegP, s = { sp with ct := -1 - k } := ⟨_, rfl⟩
      have hSet : Sg w3 w3.heap.size (some ⟨g, 0, none⟩) n (setM m p s').sg := by
        rw [hw3]
        exact seg_set (f := 3) own hpn HSP.out (by omega) fun j hj => by rw [hs']; rcases j with _ | _ | _ | _ | j <;> first | rfl | omega
      have bo3 : BoxM w3 z2 m (.slice (some ⟨g, 0, none⟩) n c') := by rw [hw3]; exact set_boxes bo hgz.symm
      have b3 : Below wr.heap.size wr w3 := by rw [hw3]; exact B2.setCell (p := ⟨g, p * 4 + 3, none⟩) hgl _
      rw [← hw3]
      clear hw3 bo own hgz hgl hc' bz hS B2
      have bz := HZ.out.1.below (hB.trans (b3.mono hB.size))
      have hS := HZ.out.2.1.on (hB.trans (b3.mono hB.size)) (hB.trans (b3.mono hB.size)).size
      have hno := one_4 HM.out.1 HSP.out HM.out.2.1
      rw [← hs'] at hno
      have hmk : MOk (setM m p s') := mok_set HM.out.1 p s' (by rw [hs']; have h1 := HB.out.1; have h2 := HB.out.2; dsimp only; omega)
      have HN := Lib.hid (⟨hno, hmk, hs'⟩ : _ ∧ _ ∧ _)
      clear hno hmk hs'
      have B3 := b3
      clear b3
      obtain ⟨b0, b1, b2, b3, b4, b5⟩ := bo3.cells
      go_wp2_with fail
      clear b0 b1 b2 b3 b4 b5
      refine Calls.mono (show Calls Tryd.prog 18 #[.agg #[.int .i64 m.nx, .int .i64 m.tm, .int .i64 m.vt, .int .i64 m.ss, .int .i64 m.sf, (.slice (some ⟨g, 0, none⟩) n c')]] w3 (fun e w' => (∃ r, CheckIs (setM m p s') r ∧ e = .returned (.int .i64 r)) ∧ Below w3.heap.size w3 w') from check_any (setM m p s') (some ⟨g, 0, none⟩) n c' w3 hSet (by omega) HN.out.2.1) ?_
      intro e w4 hh
      obtain ⟨⟨r, hr, rfl⟩, bb⟩ := hh
      (try clear hh)
      replace bz := bz.below bb
      replace bo3 := bo3.below bb
      replace hS := hS.on bb bb.size
      replace hSet := hSet.on bb bb.size
      have B4 := B3.trans (bb.mono B3.size)
      clear bb B3
      obtain rfl := hr.same (.inr ⟨HN.out.1.1, rfl⟩)
      clear hr
      obtain ⟨b0, b1, b2, b3, b4, b5⟩ := bo3.cells
      obtain ⟨k0, k1, k2, k3, k4, k5⟩ := bz.cells
      go_wp2_with fail
      clear k0 k1 k2 k3 k4 k5
      clear b0 b1 b2 b3 b4 b5
      refine Calls.mono (show Calls Tryd.prog 25 #[.agg #[.int .i64 m.nx, .int .i64 m.tm, .int .i64 m.vt, .int .i64 m.ss, .int .i64 m.sf, (.slice (some ⟨g, 0, none⟩) n c')], .agg #[.int .i64 m.nx, .int .i64 m.tm, .int .i64 m.vt, .int .i64 m.ss, .int .i64 m.sf, .slice A n c]] w4 (fun e w' => (∃ b, SameM (setM m p s') m b ∧ e = .returned (.bool b)) ∧ Below w4.heap.size w4 w') from sameM_any (setM m p s') m (some ⟨g, 0, none⟩) A n n c' c w4 hSet hS (by omega) (by omega)) ?_
      intro e w5 hh
      obtain ⟨⟨b, hsm, rfl⟩, bb⟩ := hh
      (try clear hh)
      replace bz := bz.below bb
      replace bo3 := bo3.below bb
      replace hS := hS.on bb bb.size
      replace hSet := hSet.on bb bb.size
      have B5 := B4.trans (bb.mono B4.size)
      clear bb B4
      obtain rfl := hsm.same (SameM.no HN.out.1.2)
      clear hsm
      go_wp2_with fail
      go_roundw
      case rel => exact ⟨i + 1, by omega, by go_num, hB.trans (B5.mono hB.size)⟩
      case measure => simp [intOf]; omega
    · have s0 : ((i : Int) == 0) = false := by rw [hi]; rfl
      have s1 : ((i : Int) == 1) = false := by rw [hi]; rfl
      have s2 : ((i : Int) == 2) = false := by rw [hi]; rfl
      have s3 : ((i : Int) == 3) = false := by rw [hi]; rfl
      have s4 : ((i : Int) == 4) = false := by rw [hi]; rfl
      have s5 : ((i : Int) == 5) = true := by rw [hi]; rfl
      have HI := Lib.hid hi
      clear hi
      obtain ⟨k0, k1, k2, k3, k4, k5⟩ := bz.cells
      obtain ⟨b0, b1, b2, b3, b4, b5⟩ := bo.cells
      go_upto_region 27 with fail
      clear k0 k1 k2 k3 k4 k5
      clear b0 b1 b2 b3 b4 b5
      clear d0 d1 d2 d3 s0 s1 s2 s3 s4 s5
      obtain ⟨i0, hi, hz0, hz1, hz2⟩ := info_partsV info_seg
      obtain ⟨wd, hwd⟩ : ∃ x, x = w2.drew := ⟨_, rfl⟩
      have bb : Below w2.heap.size w2 wd := by rw [hwd]; exact (Below.refl _ _).drew
      have bo := bo.below bb
      have own := own_keep own bb
      have B3 := B2.trans (bb.mono B2.size)
      clear bb B2
      obtain ⟨y, hy⟩ : ∃ y, y = wd.heap.size := ⟨_, rfl⟩
      obtain ⟨W1, hW1⟩ : ∃ x, x = wd.alloc (.cells #[.int .i64 sp.sq, .int .i64 sp.fm, .int .i64 sp.fi, .int .i64 sp.ct] 51) := ⟨_, rfl⟩
      have b1 : Below wd.heap.size wd W1 := by rw [hW1]; exact below_al (below_d0 _) _
      have bo1 := bo.below b1
      have own1 := own_keep own b1
      have B4 := B3.trans (b1.mono B3.size)
      have src : Source W1 4 (some ⟨y, 0, none⟩) 1 (SegP.cs sp) := by
        have h := Row.source (by omega) SegP.len SegP.one (show Sg W1 W1.heap.size (some ⟨y, 0, none⟩) 1 [sp] from sg_lit1 hy hW1)
        simpa using h
      have hml : n + 1 ≤ maxLen := by unfold maxLen; omega
      have hm8 : (n + 1) * 32 ≤ 140737488355328 := by omega
      obtain ⟨d0, d1, d2, d3⟩ := seg_cellsP own hpn HSP.out
      obtain ⟨x0, x1, x2, x3⟩ := seg_cellsP own1 hpn HSP.out
      have b5 : wd.cell? ⟨z2, 5, none⟩ = some (.slice (some ⟨g, 0, none⟩) n c') := bo.cells.2.2.2.2.2
      have y5 : W1.cell? ⟨z2, 5, none⟩ = some (.slice (some ⟨g, 0, none⟩) n c') := bo1.cells.2.2.2.2.2
      have HA := Lib.hid (⟨own1, src, hml, hm8, (show wr.heap.size ≤ W1.heap.size from B4.size), bo1, B4⟩ : _ ∧ _ ∧ _ ∧ _ ∧ _ ∧ _ ∧ _)
      clear own1 src hml hm8 bo1 B4 bo own B3 b1 hc' bz hS
      refine wp_region_held_drew (S := (fun _ => True)) (by kernel_rfl) trivial (fun hHeld => ?_)
      rw [← hwd]
      clear hwd
      refine take_at (i := 0) (d := 143) (oi := ?o51) (v := ?v51) ?hi51 ?hd51 (by kernel_rfl) (by kernel_rfl) (by kernel_rfl) ?hw51 ?hy51 ?hq51 (by assumption) ?r51
      case hi51 => (simp only [List.getElem?_toArray, List.getElem?_cons_zero]; rfl)
      case hd51 => rfl
      case hw51 => rfl
      case hy51 => ((intro w hSw; go_simp) <;> (with_reducible rfl))
      case hq51 => exact fun _ _ _ h => h
      simp only [List.set_cons_succ, List.set_cons_zero]
      refine take_at (i := 2) (d := 145) (oi := ?o52) (v := ?v52) ?hi52 ?hd52 (by kernel_rfl) (by kernel_rfl) (by kernel_rfl) ?hw52 ?hy52 ?hq52 (by assumption) ?r52
      case hi52 => (simp only [List.getElem?_toArray, List.getElem?_cons_succ, List.getElem?_cons_zero]; rfl)
      case hd52 => rfl
      case hw52 => rfl
      case hy52 => ((intro w hSw; go_simp) <;> (with_reducible rfl))
      case hq52 => exact fun _ _ _ h => h
      simp only [List.set_cons_succ, List.set_cons_zero]
      refine take_at (i := 4) (d := 147) (oi := ?o53) (v := ?v53) ?hi53 ?hd53 (by kernel_rfl) (by kernel_rfl) (by kernel_rfl) ?hw53 ?hy53 ?hq53 (by assumption) ?r53
      case hi53 => (simp only [List.getElem?_toArray, List.getElem?_cons_succ, List.getElem?_cons_zero]; rfl)
      case hd53 => rfl
      case hw53 => rfl
      case hy53 => ((intro w hSw; go_simp) <;> (with_reducible rfl))
      case hq53 => exact fun _ _ _ h => h
      simp only [List.set_cons_succ, List.set_cons_zero]
      refine name_lst (l' := #[true, false, true, false, true, false, false, false, false, false, false]) (by kernel_rfl) ?_
      refine join5 (d1 := 144) (d2 := 146) (d3 := 148) (d4 := 149) (d5 := 150) (L := [1, 3, 5, 6, 7]) (fuel' := 3) (fun v1 v2 v3 v4 v5 W' => v1 = (.slice (some ⟨g, 0, none⟩) n c') ∧ v2 = (.slice (some ⟨g, 0, none⟩) n c') ∧ v3 = .pointer (some ⟨g, p * 4, none⟩) ∧ v4 = .agg #[.int .i64 sp.sq, .int .i64 sp.fm, .int .i64 sp.fi, .int .i64 sp.ct] ∧ v5 = .slice (some ⟨y, 0, none⟩) 1 1 ∧ W' = W1) ?rest ?first
      case first =>
        intro H
        replace H := H _ _ _ _ _ _ ⟨rfl, rfl, rfl, rfl, rfl, rfl⟩ trivial
        simp only [List.set_cons_succ, List.set_cons_zero] at H
        refine wpAnyH_ready (rs := [1, 3]) (by kernel_rfl) (by simp) ?_
        refine two_ready ?_ ?_
        · refine br_val (i := 1) (d := 144) (oi := ?o54) (v := (.slice (some ⟨g, 0, none⟩) n c')) (w' := wd) ?hi54 ?hd54 ?hw54 ?he54 trivial ?hc54
          case hi54 => (simp only [List.getElem?_toArray, List.getElem?_cons_succ, List.getElem?_cons_zero]; rfl)
          case hd54 => rfl
          case hw54 => rfl
          case he54 => (go_simp <;> with_reducible rfl)
          intro _
          simp only [List.set_cons_succ, List.set_cons_zero]
          refine wpAnyH_ready (rs := [3]) (by kernel_rfl) (by simp) ?_
          refine br_val (i := 3) (d := 146) (oi := ?o55) (v := (.slice (some ⟨g, 0, none⟩) n c')) (w' := wd) ?hi55 ?hd55 ?hw55 ?he55 trivial ?hc55
          case hi55 => (simp only [List.getElem?_toArray, List.getElem?_cons_succ, List.getElem?_cons_zero]; rfl)
          case hd55 => rfl
          case hw55 => rfl
          case he55 => (go_simp <;> with_reducible rfl)
          intro _
          simp only [List.set_cons_succ, List.set_cons_zero]
          refine take_at (i := 5) (d := 148) (oi := ?o56) (v := ?v56) ?hi56 ?hd56 (by kernel_rfl) (by kernel_rfl) (by kernel_rfl) ?hw56 ?hy56 ?hq56 (by assumption) ?r56
          case hi56 => (simp only [List.getElem?_toArray, List.getElem?_cons_succ, List.getElem?_cons_zero]; rfl)
          case hd56 => rfl
          case hw56 => rfl
          case hy56 => ((intro w hSw; go_simp) <;> (with_reducible rfl))
          case hq56 => exact fun _ _ _ h => h
          simp only [List.set_cons_succ, List.set_cons_zero]
          refine wpAnyH_ready (rs := [6]) (by kernel_rfl) (by simp) ?_
          refine br_val (i := 6) (d := 149) (oi := ?o57) (v := (.agg #[.int .i64 sp.sq, .int .i64 sp.fm, .int .i64 sp.fi, .int .i64 sp.ct])) (w' := wd) ?hi57 ?hd57 ?hw57 ?he57 trivial ?hc57
          case hi57 => (simp only [List.getElem?_toArray, List.getElem?_cons_succ, List.getElem?_cons_zero]; rfl)
          case hd57 => rfl
          case hw57 => rfl
          case he57 => (go_simp <;> with_reducible rfl)
          intro _
          simp only [List.set_cons_succ, List.set_cons_zero]
          refine wpAnyH_ready (rs := [7]) (by kernel_rfl) (by simp) ?_
          refine br_val (i := 7) (d := 150) (oi := ?o58) (v := (.slice (some ⟨y, 0, none⟩) 1 1)) (w' := W1) ?hi58 ?hd58 ?hw58 ?he58 trivial ?hc58
          case hi58 => (simp only [List.getElem?_toArray, List.getElem?_cons_succ, List.getElem?_cons_zero]; rfl)
          case hd58 => rfl
          case hw58 => rfl
          case he58 => (rw [hW1, hy]; go_simp <;> with_reducible rfl)
          intro _
          simp only [List.set_cons_succ, List.set_cons_zero]
          clear hW1 hy
          exact name_lst (l' := [1, 3, 5, 6, 7].foldl (fun l i => l.setIfInBounds i true) #[true, false, true, false, true, false, false, false, false, false, false]) (by kernel_rfl) H
        refine br_val (i := 3) (d := 146) (oi := ?o59) (v := (.slice (some ⟨g, 0, none⟩) n c')) (w' := wd) ?hi59 ?hd59 ?hw59 ?he59 trivial ?hc59
        case hi59 => (simp only [List.getElem?_toArray, List.getElem?_cons_succ, List.getElem?_cons_zero]; rfl)
        case hd59 => rfl
        case hw59 => rfl
        case he59 => (go_simp <;> with_reducible rfl)
        intro _
        simp only [List.set_cons_succ, List.set_cons_zero]
        refine take_at (i := 5) (d := 148) (oi := ?o60) (v := ?v60) ?hi60 ?hd60 (by kernel_rfl) (by kernel_rfl) (by kernel_rfl) ?hw60 ?hy60 ?hq60 (by assumption) ?r60
        case hi60 => (simp only [List.getElem?_toArray, List.getElem?_cons_succ, List.getElem?_cons_zero]; rfl)
        case hd60 => rfl
        case hw60 => rfl
        case hy60 => ((intro w hSw; go_simp) <;> (with_reducible rfl))
        case hq60 => exact fun _ _ _ h => h
        simp only [List.set_cons_succ, List.set_cons_zero]
        refine wpAnyH_ready (rs := [1, 6]) (by kernel_rfl) (by simp) ?_
        refine two_ready ?_ ?_
        · refine br_val (i := 1) (d := 144) (oi := ?o61) (v := (.slice (some ⟨g, 0, none⟩) n c')) (w' := wd) ?hi61 ?hd61 ?hw61 ?he61 trivial ?hc61
          case hi61 => (simp only [List.getElem?_toArray, List.getElem?_cons_succ, List.getElem?_cons_zero]; rfl)
          case hd61 => rfl
          case hw61 => rfl
          case he61 => (go_simp <;> with_reducible rfl)
          intro _
          simp only [List.set_cons_succ, List.set_cons_zero]
          refine wpAnyH_ready (rs := [6]) (by kernel_rfl) (by simp) ?_
          refine br_val (i := 6) (d := 149) (oi := ?o62) (v := (.agg #[.int .i64 sp.sq, .int .i64 sp.fm, .int .i64 sp.fi, .int .i64 sp.ct])) (w' := wd) ?hi62 ?hd62 ?hw62 ?he62 trivial ?hc62
          case hi62 => (simp only [List.getElem?_toArray, List.getElem?_cons_succ, List.getElem?_cons_zero]; rfl)
          case hd62 => rfl
          case hw62 => rfl
          case he62 => (go_simp <;> with_reducible rfl)
          intro _
          simp only [List.set_cons_succ, List.set_cons_zero]
          refine wpAnyH_ready (rs := [7]) (by kernel_rfl) (by simp) ?_
          refine br_val (i := 7) (d := 150) (oi := ?o63) (v := (.slice (some ⟨y, 0, none⟩) 1 1)) (w' := W1) ?hi63 ?hd63 ?hw63 ?he63 trivial ?hc63
          case hi63 => (simp only [List.getElem?_toArray, List.getElem?_cons_succ, List.getElem?_cons_zero]; rfl)
          case hd63 => rfl
          case hw63 => rfl
          case he63 => (rw [hW1, hy]; go_simp <;> with_reducible rfl)
          intro _
          simp only [List.set_cons_succ, List.set_cons_zero]
          clear hW1 hy
          exact name_lst (l' := [1, 3, 5, 6, 7].foldl (fun l i => l.setIfInBounds i true) #[true, false, true, false, true, false, false, false, false, false, false]) (by kernel_rfl) H
        refine br_val (i := 6) (d := 149) (oi := ?o64) (v := (.agg #[.int .i64 sp.sq, .int .i64 sp.fm, .int .i64 sp.fi, .int .i64 sp.ct])) (w' := wd) ?hi64 ?hd64 ?hw64 ?he64 trivial ?hc64
        case hi64 => (simp only [List.getElem?_toArray, List.getElem?_cons_succ, List.getElem?_cons_zero]; rfl)
        case hd64 => rfl
        case hw64 => rfl
        case he64 => (go_simp <;> with_reducible rfl)
        intro _
        simp only [List.set_cons_succ, List.set_cons_zero]
        refine wpAnyH_ready (rs := [1, 7]) (by kernel_rfl) (by simp) ?_
        refine two_ready ?_ ?_
        · refine br_val (i := 1) (d := 144) (oi := ?o65) (v := (.slice (some ⟨g, 0, none⟩) n c')) (w' := wd) ?hi65 ?hd65 ?hw65 ?he65 trivial ?hc65
          case hi65 => (simp only [List.getElem?_toArray, List.getElem?_cons_succ, List.getElem?_cons_zero]; rfl)
          case hd65 => rfl
          case hw65 => rfl
          case he65 => (go_simp <;> with_reducible rfl)
          intro _
          simp only [List.set_cons_succ, List.set_cons_zero]
          refine wpAnyH_ready (rs := [7]) (by kernel_rfl) (by simp) ?_
          refine br_val (i := 7) (d := 150) (oi := ?o66) (v := (.slice (some ⟨y, 0, none⟩) 1 1)) (w' := W1) ?hi66 ?hd66 ?hw66 ?he66 trivial ?hc66
          case hi66 => (simp only [List.getElem?_toArray, List.getElem?_cons_succ, List.getElem?_cons_zero]; rfl)
          case hd66 => rfl
          case hw66 => rfl
          case he66 => (rw [hW1, hy]; go_simp <;> with_reducible rfl)
          intro _
          simp only [List.set_cons_succ, List.set_cons_zero]
          clear hW1 hy
          exact name_lst (l' := [1, 3, 5, 6, 7].foldl (fun l i => l.setIfInBounds i true) #[true, false, true, false, true, false, false, false, false, false, false]) (by kernel_rfl) H
        refine br_val (i := 7) (d := 150) (oi := ?o67) (v := (.slice (some ⟨y, 0, none⟩) 1 1)) (w' := W1) ?hi67 ?hd67 ?hw67 ?he67 trivial ?hc67
        case hi67 => (simp only [List.getElem?_toArray, List.getElem?_cons_succ, List.getElem?_cons_zero]; rfl)
        case hd67 => rfl
        case hw67 => rfl
        case he67 => (rw [hW1, hy]; go_simp <;> with_reducible rfl)
        intro _
        simp only [List.set_cons_succ, List.set_cons_zero]
        clear hW1 hy
        refine wpAnyH_ready (rs := [1]) (by kernel_rfl) (by simp) ?_
        refine br_val (i := 1) (d := 144) (oi := ?o68) (v := (.slice (some ⟨g, 0, none⟩) n c')) (w' := W1) ?hi68 ?hd68 ?hw68 ?he68 trivial ?hc68
        case hi68 => (simp only [List.getElem?_toArray, List.getElem?_cons_succ, List.getElem?_cons_zero]; rfl)
        case hd68 => rfl
        case hw68 => rfl
        case he68 => (go_simp <;> with_reducible rfl)
        intro _
        simp only [List.set_cons_succ, List.set_cons_zero]
        exact name_lst (l' := [1, 3, 5, 6, 7].foldl (fun l i => l.setIfInBounds i true) #[true, false, true, false, true, false, false, false, false, false, false]) (by kernel_rfl) H
      case rest =>
        rintro v1 v2 v3 v4 v5 W' ⟨rfl, rfl, rfl, rfl, rfl, rfl⟩ _
        simp only [List.set_cons_succ, List.set_cons_zero]
        clear d0 d1 d2 d3 x0 x1 x2 x3 b5 y5 hW1 hy
        refine wpAnyH_ready (rs := [8]) (by kernel_rfl) (by simp) ?_
        refine br_append (i := 8) (d := 151) (oi := ?o69) (t := 24) (c := 1) (.tmp 144) (.tmp 150) Tryd.underlying24 hi hz0 hz1 hz2 seg_cells (by omega) HA.out.1 HA.out.2.1 HA.out.2.2.1 HA.out.2.2.2.1 HA.out.2.2.2.2.1 ?hi69 ?hd69 ?hw69 ?ho69 ?hs69 ?hx69 ?hc69
        case hi69 => (simp only [List.getElem?_toArray, List.getElem?_cons_succ, List.getElem?_cons_zero]; rfl)
        case hd69 => rfl
        case hw69 => rfl
        case ho69 => rfl
        case hs69 => rfl
        case hx69 => rfl
        intro v' w7 L7
        obtain ⟨A5, e5, hv5, -⟩ := own_slice L7.1
        subst hv5
        have bo1 := HA.out.2.2.2.2.2.1
        have bo7 : BoxM w7 z2 m (.slice (some ⟨g, 0, none⟩) n c') := (L7.2.1.block z2 bo1.lt (fun e => hgz (by simpa [Value.ownBlock] using e.symm))).trans bo1
        have own7 : OwnS w7 wr.heap.size (.slice A5 (n + 1) e5) (n + 1) (m.sg ++ [sp]) := by
          unfold OwnS
          rw [List.flatMap_append]
          simpa using L7.1
        have B7 : Below wr.heap.size wr w7 := L7.below HA.out.2.2.2.2.2.2 HA.out.2.2.2.2.1 (fun q hq => by obtain rfl : g = q := by simpa [Value.ownBlock] using hq
                                                                                                           exact hgl)
        have hz2' : wr.heap.size ≤ z2 := HZL.out
        refine ⟨trivial, fun _ => ?_⟩
        simp only [List.set_cons_succ, List.set_cons_zero]
        refine take_at (i := 9) (d := 152) (oi := ?o70) (v := ?v70) ?hi70 ?hd70 (by kernel_rfl) (by kernel_rfl) (by kernel_rfl) ?hw70 ?hy70 ?hq70 (by assumption) ?r70
        case hi70 => (simp only [List.getElem?_toArray, List.getElem?_cons_succ, List.getElem?_cons_zero]; rfl)
        case hd70 => rfl
        case hw70 => rfl
        case hy70 => ((intro w hSw; go_simp) <;> (with_reducible rfl))
        case hq70 => exact fun _ _ _ h => h
        simp only [List.set_cons_succ, List.set_cons_zero]
        obtain ⟨w3, hw3⟩ : ∃ x, x = w7.setCell ⟨z2, 5, none⟩ (.slice A5 (n + 1) e5) := ⟨_, rfl⟩
        have c5 : w7.cell? ⟨z2, 5, none⟩ = some (.slice (some ⟨g, 0, none⟩) n c') := bo7.cells.2.2.2.2.2
        have f5 := bo7.frozen 5
        refine wpAnyH_ready (rs := [10]) (by kernel_rfl) (by simp) ?_
        refine br_store (i := 10) (oi := ?o71) (w' := w3) ?hi71 ?hd71 ?hw71 ?he71 trivial ?hc71
        case hi71 => (simp only [List.getElem?_toArray, List.getElem?_cons_succ, List.getElem?_cons_zero]; rfl)
        case hd71 => rfl
        case hw71 => rfl
        case he71 => (rw [hw3]; go_simp <;> with_reducible rfl)
        intro _
        refine wpAnyH_done (by kernel_rfl) ?_ _
        have bo3 : BoxM w3 z2 m (.slice A5 (n + 1) e5) := by rw [hw3]; exact heap_setM bo7 _
        have own3 : OwnS w3 wr.heap.size (.slice A5 (n + 1) e5) (n + 1) (m.sg ++ [sp]) := by rw [hw3]; exact set_own bo7 own7
        have B3 : Below wr.heap.size wr w3 := by rw [hw3]; exact B7.setCell (p := ⟨z2, 5, none⟩) hz2' _
        obtain ⟨M, hM⟩ : ∃ M : ManP, M = { m with sg := m.sg ++ [sp] } := ⟨_, rfl⟩
        have hSet : Sg w3 w3.heap.size A5 (n + 1) M.sg := by rw [hM]; exact own3.sg
        have bz := HZ.out.1.below (hB.trans (B3.mono hB.size))
        have hS := HZ.out.2.1.on (hB.trans (B3.mono hB.size)) (hB.trans (B3.mono hB.size)).size
        have hno := one_5 HSP.out
        have hmk := mok_app HM.out.1 (List.mem_of_getElem? HSP.out)
        rw [← hM] at hno hmk
        have HN := Lib.hid (⟨hno, hmk, hM⟩ : _ ∧ _ ∧ _)
        have e0 : m.nx = M.nx := by rw [hM]
        have e1 : m.tm = M.tm := by rw [hM]
        have e2 : m.vt = M.vt := by rw [hM]
        have e3 : m.ss = M.ss := by rw [hM]
        have e4 : m.sf = M.sf := by rw [hM]
        have HEM := Lib.hid (⟨e0, e1, e2, e3, e4⟩ : _ ∧ _ ∧ _ ∧ _ ∧ _)
        clear hno hmk hM e0 e1 e2 e3 e4 c5 f5 hw3 own3 own7 bo7 bo1 B7 L7 HA hz2' hgz hgl HZL hi hz0 hz1 hz2
        obtain ⟨b0, b1, b2, b3, b4, b5⟩ := bo3.cells
        go_wp2_with fail
        clear b0 b1 b2 b3 b4 b5
        refine Calls.mono (show Calls Tryd.prog 18 #[.agg #[.int .i64 m.nx, .int .i64 m.tm, .int .i64 m.vt, .int .i64 m.ss, .int .i64 m.sf, (.slice A5 (n + 1) e5)]] w3 (fun e w' => (∃ r, CheckIs M r ∧ e = .returned (.int .i64 r)) ∧ Below w3.heap.size w3 w') from by rw [HEM.out.1, HEM.out.2.1, HEM.out.2.2.1, HEM.out.2.2.2.1, HEM.out.2.2.2.2]; exact check_any M A5 (n + 1) e5 w3 hSet (by omega) HN.out.2.1) ?_
        intro e w4 hh
        obtain ⟨⟨r, hr, rfl⟩, bb⟩ := hh
        (try clear hh)
        replace bz := bz.below bb
        replace bo3 := bo3.below bb
        replace hS := hS.on bb bb.size
        replace hSet := hSet.on bb bb.size
        have B4 := B3.trans (bb.mono B3.size)
        clear bb B3
        obtain rfl := hr.same (.inr ⟨HN.out.1.1, rfl⟩)
        clear hr
        obtain ⟨b0, b1, b2, b3, b4, b5⟩ := bo3.cells
        obtain ⟨k0, k1, k2, k3, k4, k5⟩ := bz.cells
        go_wp2_with fail
        clear k0 k1 k2 k3 k4 k5
        clear b0 b1 b2 b3 b4 b5
        refine Calls.mono (show Calls Tryd.prog 25 #[.agg #[.int .i64 m.nx, .int .i64 m.tm, .int .i64 m.vt, .int .i64 m.ss, .int .i64 m.sf, (.slice A5 (n + 1) e5)], .agg #[.int .i64 m.nx, .int .i64 m.tm, .int .i64 m.vt, .int .i64 m.ss, .int .i64 m.sf, .slice A n c]] w4 (fun e w' => (∃ b, SameM M m b ∧ e = .returned (.bool b)) ∧ Below w4.heap.size w4 w') from (by have h := sameM_any M m A5 A (n + 1) n e5 c w4 hSet hS (by omega) (by omega); unfold manV at h; rw [← HEM.out.1, ← HEM.out.2.1, ← HEM.out.2.2.1, ← HEM.out.2.2.2.1, ← HEM.out.2.2.2.2] at h; exact h)) ?_
        intro e w5 hh
        obtain ⟨⟨b, hsm, rfl⟩, bb⟩ := hh
        (try clear hh)
        replace bz := bz.below bb
        replace bo3 := bo3.below bb
        replace hS := hS.on bb bb.size
        replace hSet := hSet.on bb bb.size
        have B5 := B4.trans (bb.mono B4.size)
        clear bb B4
        obtain rfl := hsm.same (SameM.no HN.out.1.2)
        clear hsm
        go_wp2_with fail
        go_roundw
        case rel => exact ⟨i + 1, by omega, by go_num, hB.trans (B5.mono hB.size)⟩
        case measure => simp [intOf]; omega
  · obtain rfl : i = 6 := by omega
    have B0 := B9.trans (hB.mono B9.size)
    clear HZ hB B9
    obtain ⟨k0, k1, k2, k3, k4, k5⟩ := bz.cells
    go_wp2_with fail
    clear k0 k1 k2 k3 k4 k5
    have B1 := B0
    clear B0
    refine Calls.mono (show Calls Tryd.prog 25 #[.agg #[.int .i64 m.nx, .int .i64 m.tm, .int .i64 m.vt, .int .i64 m.ss, .int .i64 m.sf, .slice A n c], .agg #[.int .i64 m.nx, .int .i64 m.tm, .int .i64 m.vt, .int .i64 m.ss, .int .i64 m.sf, .slice A n c]] wr (fun e w' => (∃ b, SameM m m b ∧ e = .returned (.bool b)) ∧ Below wr.heap.size wr w') from sameM_any m m A A n n c c wr hS hS (by omega) (by omega)) ?_
    rintro e w11 ⟨⟨b, hsm, rfl⟩, bb⟩
    obtain rfl := hsm.same (SameM.yes rfl)
    clear hsm
    have B11 := B1.trans (bb.mono B1.size)
    go_wp2_with fail
    refine Calls.mono (wakes_true w11 (HT.out.on B11)) ?_
    rintro e w12 ⟨rfl, bb2⟩
    have B12 := B11.trans (bb2.mono B11.size)
    go_wp2_with fail
    go_ret
    exact ⟨rfl, B12⟩

theorem one_all (m : ManP) (A : Option Addr) (n c : Nat) (at_ k : Int) (w : World) (hT : Cr.Tab w) (hS : Sg w w.heap.size A n m.sg) :
    Calls Tryd.prog 7 #[manV m (.slice A n c), .int .i64 at_, .int .i64 k] w fun e w' => e = .returned (.bool true) ∧ Below w.heap.size w w' := by
  by_cases hg : 59 < n
  · exact one_great m A n c at_ k w hT hS hg
  by_cases hM : May m
  · by_cases hk : k < 1
    · exact one_small m A n c at_ k w hT hS (by omega) hM hk
    by_cases hk2 : 1073741824 < k
    · exact one_big m A n c at_ k w hT hS (by omega) hM (by omega) hk2
    exact one_main m A n c at_ k w hT hS (by omega) hM (by omega) (by omega)
  · exact one_no m A n c at_ k w hT hS (by omega) hM
end Go.Proofs.YtafeadplmcoilaaDoor
