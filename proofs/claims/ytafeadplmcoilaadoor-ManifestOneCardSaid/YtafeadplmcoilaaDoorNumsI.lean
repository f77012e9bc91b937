/-
  manifest.numbers and its iterator: their contracts.
-/
import Derived.Test.YtafeadplmcoilaaDoorFilesM
import Derived.Test.YtafeadplmcoilaaDoorManP
namespace Go.Proofs.YtafeadplmcoilaaDoor
open Go.RowKit Go.Shelf
set_option linter.unusedVariables false
set_option linter.unusedSimpArgs false

attribute [local go_sem] Oper.semAt_some

abbrev encN (x : Int) : Array Value := #[.int .i64 x]
theorem pre_of {P a b l L : List Int} {x : Int} (h : P ++ l <+: L) (e : l = a ++ [x] ++ b) : (P ++ a) ++ [x] <+: L := by
  obtain ⟨r, hr⟩ := h
  exact ⟨b ++ r, by rw [← hr, e]; simp⟩
theorem segs_pre {m : ManP} {k : Nat} {s : SegP} (h : m.sg[k]? = some s) : (headN m ++ (m.sg.take k).flatMap segN) ++ segN s <+: numsM m := by
  have hk := (List.getElem?_eq_some_iff.1 h).1
  refine ⟨(m.sg.drop (k + 1)).flatMap segN, ?_⟩
  have e : m.sg = m.sg.take k ++ s :: m.sg.drop (k + 1) := by
    have e1 := List.drop_eq_getElem_cons hk
    rw [List.getElem?_eq_getElem hk] at h
    rw [Option.some.inj h] at e1
    rw [← e1, List.take_append_drop]
  unfold numsM
  conv => rhs; rw [e]
  simp
theorem segs_succ {m : ManP} {k : Nat} {s : SegP} (h : m.sg[k]? = some s) : headN m ++ (m.sg.take (k + 1)).flatMap segN = (headN m ++ (m.sg.take k).flatMap segN) ++ segN s := by
  rw [List.take_add_one, h]
  simp

theorem idx6_0 (a b c d f g : Int) (w : World) : (Instr.index 79 (.agg #[.int .i64 a, .int .i64 b, .int .i64 c, .int .i64 d, .int .i64 f, .int .i64 g]) (.int .i64 0)).run Tryd.prog w = .ok (.int .i64 a) w := by kernel_rfl
theorem idx6_1 (a b c d f g : Int) (w : World) : (Instr.index 79 (.agg #[.int .i64 a, .int .i64 b, .int .i64 c, .int .i64 d, .int .i64 f, .int .i64 g]) (.int .i64 1)).run Tryd.prog w = .ok (.int .i64 b) w := by kernel_rfl
theorem idx6_2 (a b c d f g : Int) (w : World) : (Instr.index 79 (.agg #[.int .i64 a, .int .i64 b, .int .i64 c, .int .i64 d, .int .i64 f, .int .i64 g]) (.int .i64 2)).run Tryd.prog w = .ok (.int .i64 c) w := by kernel_rfl
theorem idx6_3 (a b c d f g : Int) (w : World) : (Instr.index 79 (.agg #[.int .i64 a, .int .i64 b, .int .i64 c, .int .i64 d, .int .i64 f, .int .i64 g]) (.int .i64 3)).run Tryd.prog w = .ok (.int .i64 d) w := by kernel_rfl
theorem idx6_4 (a b c d f g : Int) (w : World) : (Instr.index 79 (.agg #[.int .i64 a, .int .i64 b, .int .i64 c, .int .i64 d, .int .i64 f, .int .i64 g]) (.int .i64 4)).run Tryd.prog w = .ok (.int .i64 f) w := by kernel_rfl
theorem idx6_5 (a b c d f g : Int) (w : World) : (Instr.index 79 (.agg #[.int .i64 a, .int .i64 b, .int .i64 c, .int .i64 d, .int .i64 f, .int .i64 g]) (.int .i64 5)).run Tryd.prog w = .ok (.int .i64 g) w := by kernel_rfl
theorem idx4_0 (a b c d : Int) (w : World) : (Instr.index 80 (.agg #[.int .i64 a, .int .i64 b, .int .i64 c, .int .i64 d]) (.int .i64 0)).run Tryd.prog w = .ok (.int .i64 a) w := by kernel_rfl
theorem idx4_1 (a b c d : Int) (w : World) : (Instr.index 80 (.agg #[.int .i64 a, .int .i64 b, .int .i64 c, .int .i64 d]) (.int .i64 1)).run Tryd.prog w = .ok (.int .i64 b) w := by kernel_rfl
theorem idx4_2 (a b c d : Int) (w : World) : (Instr.index 80 (.agg #[.int .i64 a, .int .i64 b, .int .i64 c, .int .i64 d]) (.int .i64 2)).run Tryd.prog w = .ok (.int .i64 c) w := by kernel_rfl
theorem idx4_3 (a b c d : Int) (w : World) : (Instr.index 80 (.agg #[.int .i64 a, .int .i64 b, .int .i64 c, .int .i64 d]) (.int .i64 3)).run Tryd.prog w = .ok (.int .i64 d) w := by kernel_rfl
set_option maxRecDepth 100000 in
set_option maxHeartbeats 8000000 in
theorem numbers_in {tt : TypeId} (l0 D B0 : Nat) {A : Option Addr} {n c : Nat} {m : ManP} (hM : May m) (J Jx : List Int → World → Prop) (W : World) (hJ : StaysT tt W.heap.size J)
    (hY : ∀ pre x W1, J pre W1 → pre ++ [x] <+: numsM m → YieldAt Fence.wide 2 Tryd.prog l0 (encN x) W1 fun e W' =>
      (e = .returned (.bool true) ∧ J (pre ++ [x]) W' ∧ KpF B0 D W1 W') ∨ (e = .returned (.bool false) ∧ Jx (pre ++ [x]) W'))
    (hb : BoxM W D m (.slice A n c)) (hr : Sg W B0 A n m.sg) (hB0 : B0 ≤ W.heap.size) (h0 : J [] W) :
    CallsIn Fence.wide 3 Tryd.prog 50 #[.func (.yield l0) #[] #[], .pointer (some ⟨D, 0, none⟩)] W fun e W' => (∃ v, e = .returned v) ∧
      ((∃ ys, ys = numsM m ∧ J ys W') ∨ (∃ pre, Jx pre W')) := by
  have Hr := Lib.hid (⟨hr, hb, hB0, hr.len, hM⟩ : _ ∧ _ ∧ _ ∧ _ ∧ _)
  have HJ := Lib.hid hJ
  have HY := Lib.hid hY
  have hh : headN m = [m.nx, m.tm, m.vt, m.ss, m.sf, (n : Int)] := by rw [headN, hr.len]
  have Hh := Lib.hid hh
  obtain ⟨x0, x1, x2, x3, x4, x5⟩ := hb.cells
  have hn : n ≤ 60 := by have := hM.few; rw [hr.len] at this; exact this
  clear hr hJ hY hb hh hM
  refine callsIn_of_wp Tryd.func50 rfl trivial ?_ rfl
  simp only [Tryd.ntmps50, List.size_toArray, List.length_cons, List.length_nil, Nat.reduceAdd, Nat.reduceSub, Array.replicate_succ, Array.replicate_zero, List.push_toArray, List.append_toArray, List.nil_append, List.cons_append]
  gi_wp2_with fail
  clear x0 x1 x2 x3 x4 x5
  gi_loopw [25] (fun i wr => ∃ (k : Nat), k ≤ 6 ∧ i = .int .i64 k ∧ J ((headN m).take k) wr ∧ KpF B0 D W wr) (fun i _ => 6 - (intOf i).toNat)
  case atStart => exact ⟨0, by omega, rfl, h0, KpF.refl _ _ _⟩
  case round =>
    obtain ⟨k, hk, rfl, hj, hB⟩ := hrel
    by_cases hlt : k < 6
    · rcases (by omega : k = 0 ∨ k = 1 ∨ k = 2 ∨ k = 3 ∨ k = 4 ∨ k = 5) with rfl | rfl | rfl | rfl | rfl | rfl
      · have hi := idx6_0 m.nx m.tm m.vt m.ss m.sf (n : Int) wr
        obtain ⟨fn, tmps, assign, body, hy, hR⟩ := HY.out [] m.nx wr (by have h := hj; rw [Hh.out] at h; exact h) ⟨[m.tm, m.vt, m.ss, m.sf, (n : Int)] ++ m.sg.flatMap segN, by rw [numsM, Hh.out]; rfl⟩
        dsimp only [encN] at hy
        have HB := Lib.hid hB
        clear hj hB hlt hk h0
        gi_wp2_with fail
        refine hR.mono ?_
        rintro e W3 (⟨rfl, hJ3, hk3⟩ | ⟨rfl, hJx3⟩)
        · gi_wp2_with fail
          go_roundw
          case rel => exact ⟨1, by omega, by go_num, by rw [Hh.out]; exact hJ3, HB.out.trans hk3⟩
          case measure => simp [intOf]
        · gi_wp2_with fail
          refine bodyPost_ret (results_none rfl _ _ _) rfl ?_
          exact ⟨⟨_, rfl⟩, .inr ⟨_, hJx3⟩⟩
      · have hi := idx6_1 m.nx m.tm m.vt m.ss m.sf (n : Int) wr
        obtain ⟨fn, tmps, assign, body, hy, hR⟩ := HY.out [m.nx] m.tm wr (by have h := hj; rw [Hh.out] at h; exact h) ⟨[m.vt, m.ss, m.sf, (n : Int)] ++ m.sg.flatMap segN, by rw [numsM, Hh.out]; rfl⟩
        dsimp only [encN] at hy
        have HB := Lib.hid hB
        clear hj hB hlt hk h0
        gi_wp2_with fail
        refine hR.mono ?_
        rintro e W3 (⟨rfl, hJ3, hk3⟩ | ⟨rfl, hJx3⟩)
        · gi_wp2_with fail
          go_roundw
          case rel => exact ⟨2, by omega, by go_num, by rw [Hh.out]; exact hJ3, HB.out.trans hk3⟩
          case measure => simp [intOf]
        · gi_wp2_with fail
          refine bodyPost_ret (results_none rfl _ _ _) rfl ?_
          exact ⟨⟨_, rfl⟩, .inr ⟨_, hJx3⟩⟩
      · have hi := idx6_2 m.nx m.tm m.vt m.ss m.sf (n : Int) wr
        obtain ⟨fn, tmps, assign, body, hy, hR⟩ := HY.out [m.nx, m.tm] m.vt wr (by have h := hj; rw [Hh.out] at h; exact h) ⟨[m.ss, m.sf, (n : Int)] ++ m.sg.flatMap segN, by rw [numsM, Hh.out]; rfl⟩
        dsimp only [encN] at hy
        have HB := Lib.hid hB
        clear hj hB hlt hk h0
        gi_wp2_with fail
        refine hR.mono ?_
        rintro e W3 (⟨rfl, hJ3, hk3⟩ | ⟨rfl, hJx3⟩)
        · gi_wp2_with fail
          go_roundw
          case rel => exact ⟨3, by omega, by go_num, by rw [Hh.out]; exact hJ3, HB.out.trans hk3⟩
          case measure => simp [intOf]
        · gi_wp2_with fail
          refine bodyPost_ret (results_none rfl _ _ _) rfl ?_
          exact ⟨⟨_, rfl⟩, .inr ⟨_, hJx3⟩⟩
      · have hi := idx6_3 m.nx m.tm m.vt m.ss m.sf (n : Int) wr
        obtain ⟨fn, tmps, assign, body, hy, hR⟩ := HY.out [m.nx, m.tm, m.vt] m.ss wr (by have h := hj; rw [Hh.out] at h; exact h) ⟨[m.sf, (n : Int)] ++ m.sg.flatMap segN, by rw [numsM, Hh.out]; rfl⟩
        dsimp only [encN] at hy
        have HB := Lib.hid hB
        clear hj hB hlt hk h0
        gi_wp2_with fail
        refine hR.mono ?_
        rintro e W3 (⟨rfl, hJ3, hk3⟩ | ⟨rfl, hJx3⟩)
        · gi_wp2_with fail
          go_roundw
          case rel => exact ⟨4, by omega, by go_num, by rw [Hh.out]; exact hJ3, HB.out.trans hk3⟩
          case measure => simp [intOf]
        · gi_wp2_with fail
          refine bodyPost_ret (results_none rfl _ _ _) rfl ?_
          exact ⟨⟨_, rfl⟩, .inr ⟨_, hJx3⟩⟩
      · have hi := idx6_4 m.nx m.tm m.vt m.ss m.sf (n : Int) wr
        obtain ⟨fn, tmps, assign, body, hy, hR⟩ := HY.out [m.nx, m.tm, m.vt, m.ss] m.sf wr (by have h := hj; rw [Hh.out] at h; exact h) ⟨[(n : Int)] ++ m.sg.flatMap segN, by rw [numsM, Hh.out]; rfl⟩
        dsimp only [encN] at hy
        have HB := Lib.hid hB
        clear hj hB hlt hk h0
        gi_wp2_with fail
        refine hR.mono ?_
        rintro e W3 (⟨rfl, hJ3, hk3⟩ | ⟨rfl, hJx3⟩)
        · gi_wp2_with fail
          go_roundw
          case rel => exact ⟨5, by omega, by go_num, by rw [Hh.out]; exact hJ3, HB.out.trans hk3⟩
          case measure => simp [intOf]
        · gi_wp2_with fail
          refine bodyPost_ret (results_none rfl _ _ _) rfl ?_
          exact ⟨⟨_, rfl⟩, .inr ⟨_, hJx3⟩⟩
      · have hi := idx6_5 m.nx m.tm m.vt m.ss m.sf (n : Int) wr
        obtain ⟨fn, tmps, assign, body, hy, hR⟩ := HY.out [m.nx, m.tm, m.vt, m.ss, m.sf] (n : Int) wr (by have h := hj; rw [Hh.out] at h; exact h) ⟨[] ++ m.sg.flatMap segN, by rw [numsM, Hh.out]; rfl⟩
        dsimp only [encN] at hy
        have HB := Lib.hid hB
        clear hj hB hlt hk h0
        gi_wp2_with fail
        refine hR.mono ?_
        rintro e W3 (⟨rfl, hJ3, hk3⟩ | ⟨rfl, hJx3⟩)
        · gi_wp2_with fail
          go_roundw
          case rel => exact ⟨6, by omega, by go_num, by rw [Hh.out]; exact hJ3, HB.out.trans hk3⟩
          case measure => simp [intOf]
        · gi_wp2_with fail
          refine bodyPost_ret (results_none rfl _ _ _) rfl ?_
          exact ⟨⟨_, rfl⟩, .inr ⟨_, hJx3⟩⟩
    · obtain rfl : k = 6 := by omega
      have hb3 : BoxM wr D m (.slice A n c) := hB.2.1.trans Hr.out.2.1
      obtain ⟨y0, y1, y2, y3, y4, y5⟩ := hb3.cells
      have H0 := Lib.hid (show J (headN m) wr ∧ KpF B0 D W wr from ⟨by have h := hj; rw [Hh.out] at h ⊢; exact h, hB⟩)
      clear hj hB hb3 y0 y1 y2 y3 y4 h0 hlt hk
      gi_wp2_with fail
      clear y5
      gi_loopw [36] (fun i wr => ∃ (k : Nat), k ≤ n ∧ i = .int .i64 k ∧ J (headN m ++ (m.sg.take k).flatMap segN) wr ∧ KpF B0 D W wr) (fun i _ => n - (intOf i).toNat)
      case atStart => exact ⟨0, Nat.zero_le _, rfl, by rw [List.take_zero, List.flatMap_nil, List.append_nil]; exact H0.out.1, H0.out.2⟩
      case round =>
        obtain ⟨k, hk, rfl, hj, hB⟩ := hrel
        by_cases hlt : k < n
        · obtain ⟨b, off, s, hA, hbb, hf, c0, c1, c2, c3⟩ := Sg.at_ (show Sg wr B0 A n m.sg from Row.low Hr.out.1 hB.1) hlt
          subst hA
          obtain ⟨w2, hw2⟩ : ∃ w2, w2 = wr.alloc (.cells #[.int .i64 s.sq, .int .i64 s.fm, .int .i64 s.fi, .int .i64 s.ct] 51) := ⟨_, rfl⟩
          obtain ⟨P, hP⟩ : ∃ P, P = headN m ++ (m.sg.take k).flatMap segN := ⟨_, rfl⟩
          rw [← hP] at hj
          have hj2 : J P w2 := by rw [hw2]; exact HJ.out _ wr _ none hj (World.grownBy_alloc wr _ none) (fun r e => by cases e)
          have hB2 : KpF B0 D W w2 := hB.trans (by rw [hw2]; exact KpF.below ((Below.refl _ _).alloc (Nat.le_refl _) _) (by have := Hr.out.2.2.1; have := hB.2.2; omega) (by have := Hr.out.2.1.lt; have := hB.2.2; omega))
          obtain ⟨q, hq⟩ : ∃ q, q = s.ct + 1 := ⟨_, rfl⟩
          have hct := (Hr.out.2.2.2.2.segs k s hf).count
          have a1 : wrap64 (s.ct + 1) = q := by unfold wrap64; omega
          have a2 : IntKind.i64.wrap (s.ct + 1) = q := by rw [IntKind.wrap_i64]; omega
          have HS := Lib.hid (show P ++ segN s <+: numsM m ∧ headN m ++ (m.sg.take (k + 1)).flatMap segN = P ++ segN s ∧ segN s = [s.sq, s.fm, s.fi, q] from ⟨hP ▸ segs_pre hf, hP ▸ segs_succ hf, by rw [hq]; rfl⟩)
          have H2 := Lib.hid (⟨hj2, hB2, hw2⟩ : _ ∧ _ ∧ _)
          clear hf hB2 hj hj2 hB hq hct hP
          gi_wp2_with fail
          rw [← H2.out.2.2]
          clear c0 c1 c2 c3 a1 a2
          gi_loopw [50] (fun i wq => ∃ (j : Nat), j ≤ 4 ∧ i = .int .i64 j ∧ J (P ++ [s.sq, s.fm, s.fi, q].take j) wq ∧ KpF B0 D W wq) (fun i _ => 4 - (intOf i).toNat)
          case atStart => exact ⟨0, by omega, rfl, by rw [List.take_zero, List.append_nil]; exact H2.out.1, H2.out.2.1⟩
          case round =>
            obtain ⟨j, hjj, rfl, hj, hB⟩ := hrel
            by_cases hlt4 : j < 4
            · rcases (by omega : j = 0 ∨ j = 1 ∨ j = 2 ∨ j = 3) with rfl | rfl | rfl | rfl
              · have hi := idx4_0 s.sq s.fm s.fi q wr
                obtain ⟨fn, tmps, assign, body, hy, hR⟩ := HY.out (P ++ []) s.sq wr hj (pre_of HS.out.1 (b := [s.fm, s.fi, q]) (by rw [HS.out.2.2]; rfl))
                dsimp only [encN] at hy
                have HB := Lib.hid hB
                clear hj hB hlt4 hjj
                gi_wp2_with fail
                refine hR.mono ?_
                rintro e W3 (⟨rfl, hJ3, hk3⟩ | ⟨rfl, hJx3⟩)
                · gi_wp2_with fail
                  go_roundw
                  case rel => exact ⟨_, _, _, _, _, _, _, _, _, ⟨1, by omega, by go_num, by have h := hJ3; rw [List.append_assoc] at h; exact h, HB.out.trans hk3⟩, rfl⟩
                  case measure => simp [intOf]
                · gi_wp2_with fail
                  refine bodyPost_ret (results_none rfl _ _ _) rfl ?_
                  exact ⟨⟨_, rfl⟩, .inr ⟨_, hJx3⟩⟩
              · have hi := idx4_1 s.sq s.fm s.fi q wr
                obtain ⟨fn, tmps, assign, body, hy, hR⟩ := HY.out (P ++ [s.sq]) s.fm wr hj (pre_of HS.out.1 (b := [s.fi, q]) (by rw [HS.out.2.2]; rfl))
                dsimp only [encN] at hy
                have HB := Lib.hid hB
                clear hj hB hlt4 hjj
                gi_wp2_with fail
                refine hR.mono ?_
                rintro e W3 (⟨rfl, hJ3, hk3⟩ | ⟨rfl, hJx3⟩)
                · gi_wp2_with fail
                  go_roundw
                  case rel => exact ⟨_, _, _, _, _, _, _, _, _, ⟨2, by omega, by go_num, by have h := hJ3; rw [List.append_assoc] at h; exact h, HB.out.trans hk3⟩, rfl⟩
                  case measure => simp [intOf]
                · gi_wp2_with fail
                  refine bodyPost_ret (results_none rfl _ _ _) rfl ?_
                  exact ⟨⟨_, rfl⟩, .inr ⟨_, hJx3⟩⟩
              · have hi := idx4_2 s.sq s.fm s.fi q wr
                obtain ⟨fn, tmps, assign, body, hy, hR⟩ := HY.out (P ++ [s.sq, s.fm]) s.fi wr hj (pre_of HS.out.1 (b := [q]) (by rw [HS.out.2.2]; rfl))
                dsimp only [encN] at hy
                have HB := Lib.hid hB
                clear hj hB hlt4 hjj
                gi_wp2_with fail
                refine hR.mono ?_
                rintro e W3 (⟨rfl, hJ3, hk3⟩ | ⟨rfl, hJx3⟩)
                · gi_wp2_with fail
                  go_roundw
                  case rel => exact ⟨_, _, _, _, _, _, _, _, _, ⟨3, by omega, by go_num, by have h := hJ3; rw [List.append_assoc] at h; exact h, HB.out.trans hk3⟩, rfl⟩
                  case measure => simp [intOf]
                · gi_wp2_with fail
                  refine bodyPost_ret (results_none rfl _ _ _) rfl ?_
                  exact ⟨⟨_, rfl⟩, .inr ⟨_, hJx3⟩⟩
              · have hi := idx4_3 s.sq s.fm s.fi q wr
                obtain ⟨fn, tmps, assign, body, hy, hR⟩ := HY.out (P ++ [s.sq, s.fm, s.fi]) q wr hj (pre_of HS.out.1 (b := []) (by rw [HS.out.2.2]; rfl))
                dsimp only [encN] at hy
                have HB := Lib.hid hB
                clear hj hB hlt4 hjj
                gi_wp2_with fail
                refine hR.mono ?_
                rintro e W3 (⟨rfl, hJ3, hk3⟩ | ⟨rfl, hJx3⟩)
                · gi_wp2_with fail
                  go_roundw
                  case rel => exact ⟨_, _, _, _, _, _, _, _, _, ⟨4, by omega, by go_num, by have h := hJ3; rw [List.append_assoc] at h; exact h, HB.out.trans hk3⟩, rfl⟩
                  case measure => simp [intOf]
                · gi_wp2_with fail
                  refine bodyPost_ret (results_none rfl _ _ _) rfl ?_
                  exact ⟨⟨_, rfl⟩, .inr ⟨_, hJx3⟩⟩
            · obtain rfl : j = 4 := by omega
              have H4 := Lib.hid (show J (headN m ++ (m.sg.take (k + 1)).flatMap segN) wr ∧ KpF B0 D W wr from ⟨by rw [HS.out.2.1, HS.out.2.2]; exact hj, hB⟩)
              clear hj hB hlt4 hjj
              gi_wp2_with fail
              go_roundw
              case rel => exact ⟨k + 1, by omega, by go_num, H4.out.1, H4.out.2⟩
              case measure => simp [intOf]; omega
        · obtain rfl : k = n := by omega
          rw [List.take_of_length_le (show m.sg.length ≤ k by rw [Hr.out.2.2.2.1]; exact Nat.le_refl _)] at hj
          have Hj := Lib.hid hj
          clear hj hB
          gi_wp2_with fail
          go_end0
          exact ⟨⟨_, rfl⟩, .inl ⟨_, rfl, Hj.out⟩⟩

/-- The iterator's contract. -/
theorem numbers_seq {tt : TypeId} (D B0 : Nat) {A : Option Addr} {n c : Nat} {m : ManP} (hM : May m) (w : World) (hB : B0 ≤ w.heap.size) (hb : BoxM w D m (.slice A n c)) (hr : Sg w B0 A n m.sg) :
    SeqP tt Fence.wide 3 Tryd.prog 50 #[.pointer (some ⟨D, 0, none⟩)] encN (KpF B0 D) (fun ys => ys = numsM m) (fun pre => pre <+: numsM m) w := fun l0 J Jx W hW hJ _ hY h0 =>
  numbers_in l0 D B0 hM J Jx W hJ hY (hb.below hW) (Row.low hr fun k hk => hW.block k (by omega)) (Nat.le_trans hB hW.size) h0

/-- What numbers answers. -/
def NumbersOut (m : ManP) (v : Value) (w : World) (e : Ending) (w' : World) : Prop :=
  e = .returned (.func (.func 50) #[] #[.pointer (some ⟨w.heap.size, 0, none⟩)]) ∧ BoxM w' w.heap.size m v ∧ w'.heap.size = w.heap.size + 1 ∧ Below w.heap.size w w'
set_option maxRecDepth 100000 in
set_option maxHeartbeats 400000 in
theorem numbers_any (m : ManP) (v : Value) (w : World) : Calls Tryd.prog 29 #[manV m v] w (NumbersOut m v w) := by
  unfold manV
  go_enter Tryd.func29, Tryd.ntmps29
  go_wp2
  go_ret
  exact ⟨rfl, BoxM.new w _ _, by simp, (Below.refl _ w).alloc (Nat.le_refl _) _⟩

end Go.Proofs.YtafeadplmcoilaaDoor
