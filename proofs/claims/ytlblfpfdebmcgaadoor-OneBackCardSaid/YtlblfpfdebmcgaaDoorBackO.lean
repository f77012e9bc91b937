/-
  OneBack: it returns true.
-/
import Derived.Test.YtlblfpfdebmcgaaDoorWakesO
namespace Go.Proofs.YtlblfpfdebmcgaaDoor
open Go.RowKit
set_option linter.unusedVariables false
set_option linter.unusedSimpArgs false

/-- A place, as the law reckons it. -/
theorem place_one {n : Nat} (hn : n ≤ 100000) (a : Int) : ∃ (q : Int) (k : Nat), Int.tmod a ((n : Int) + 1) = q ∧ wrap64 (q + (n : Int)) = q + (n : Int) ∧ wrap64 (q + (n : Int) + 1) = q + (n : Int) + 1 ∧ Int.tmod (q + (n : Int) + 1) ((n : Int) + 1) = (k : Int) ∧ (q + (n : Int) + 1) % ((n : Int) + 1) = (k : Int) ∧ k ≤ n := by
  have h0 : (0 : Int) < (n : Int) + 1 := by omega
  have h1 := Int.lt_tmod_of_pos a h0
  have h1' := Int.tmod_lt_of_pos a h0
  have h2 := Int.tmod_nonneg ((n : Int) + 1) (show 0 ≤ Int.tmod a ((n : Int) + 1) + (n : Int) + 1 by omega)
  have h3 := Int.tmod_lt_of_pos (Int.tmod a ((n : Int) + 1) + (n : Int) + 1) h0
  have h4 : Int.tmod (Int.tmod a ((n : Int) + 1) + (n : Int) + 1) ((n : Int) + 1) = (Int.tmod a ((n : Int) + 1) + (n : Int) + 1) % ((n : Int) + 1) := Int.tmod_eq_emod_of_nonneg (by omega)
  exact ⟨_, (Int.tmod (Int.tmod a ((n : Int) + 1) + (n : Int) + 1) ((n : Int) + 1)).toNat, rfl, by unfold wrap64; omega, by unfold wrap64; omega, by omega, by omega, by omega⟩
theorem place_two {n : Nat} (hn : n ≤ 100000) (h : 0 < n) (a : Int) : ∃ (q : Int) (k : Nat), Int.tmod a (n : Int) = q ∧ wrap64 (q + (n : Int)) = q + (n : Int) ∧ Int.tmod (q + (n : Int)) (n : Int) = (k : Int) ∧ (q + (n : Int)) % (n : Int) = (k : Int) ∧ k < n := by
  have h0 : (0 : Int) < (n : Int) := by omega
  have h1 := Int.lt_tmod_of_pos a h0
  have h1' := Int.tmod_lt_of_pos a h0
  have h2 := Int.tmod_nonneg (n : Int) (show 0 ≤ Int.tmod a (n : Int) + (n : Int) by omega)
  have h3 := Int.tmod_lt_of_pos (Int.tmod a (n : Int) + (n : Int)) h0
  have h4 : Int.tmod (Int.tmod a (n : Int) + (n : Int)) (n : Int) = (Int.tmod a (n : Int) + (n : Int)) % (n : Int) := Int.tmod_eq_emod_of_nonneg (by omega)
  exact ⟨_, (Int.tmod (Int.tmod a (n : Int) + (n : Int)) (n : Int)).toNat, rfl, by unfold wrap64; omega, by omega, by omega, by omega⟩
theorem cut_firstE {P : Program} {t e : TypeId} {i : TypeInfo} (ht : P.underlying t = some (.slice e)) (hi : P.info? e = some i) (A : Option Addr) (n c k : Nat) (hk : k ≤ c) (W : World) :
    (Instr.slice t (.slice A n c) none (some (.int .i64 (k : Int))) none).run P W = .ok (.slice A k c) W := by
  have he : P.elem t = e := by simp [Program.elem, ht]
  have hu : P.underlying t = some (.slice (P.elem t)) := by rw [he]; exact ht
  rw [run_slice_h W t A n c hu .i64 (k : Int) (by omega) (by omega), he]
  simp [sizeOf, run_typeInfo, hi, sliced, go_sem]
/-- A row of the call's own that isn't empty. -/
theorem own_some {w : World} {base size n : Nat} {e : TypeId} {v : Value} {xs : List Value} (h : w.ownsRow base e size v n xs) (hn : 0 < n) : ∃ g cap, v = .slice (some ⟨g, 0, none⟩) n cap := by
  rcases h.2 with ⟨_, h0⟩ | ⟨g, cap, cur, rfl, _⟩
  · omega
  · exact ⟨g, cap, rfl⟩
theorem byt_getD {F : List Int} (h : Byt F) (p : Nat) : 0 ≤ F[p]?.getD 0 ∧ F[p]?.getD 0 ≤ 255 := by
  cases hp : F[p]? with
  | none => simp
  | some x => exact h x (List.mem_of_getElem? hp)
theorem byt_set {F : List Int} (h : Byt F) (p : Nat) {x : Int} (hx : 0 ≤ x ∧ x ≤ 255) : Byt (F.set p x) := fun y hy => by
  rcases List.mem_or_eq_of_mem_set hy with h1 | rfl
  · exact h y h1
  · exact hx
/-- What is left of a segment that is cut, as the law asks it. -/
theorem cut_back {F : List Int} {first : Int} {l : List EnP} {p k : Nat} (hF : F = headL first ++ recsL l) (hf : IdxP first) (hl : AllR l) (hk : l.length = k) (hp : p ≤ 6 + 15 * k) :
    ∃ f6 l6 u6 e6 m, scanP (F.take p) = (f6, l6, u6, e6) ∧ l6.length = m ∧ (p < 6 → l6 = [] ∧ m = 0 ∧ e6 = 11) ∧ (¬ p < 6 → first = f6 ∧ e6 = 0 ∧ l6 = l.take m ∧ u6 = 6 + 15 * (m : Int) ∧ m ≤ k ∧ m = (p - 6) / 15) := by
  by_cases h : p < 6
  · exact ⟨0, [], 0, 11, 0, scanP_none (headO_short (by rw [List.length_take]; omega)), rfl, fun _ => ⟨rfl, rfl, rfl⟩, fun h' => absurd h h'⟩
  · refine ⟨first, l.take ((p - 6) / 15), _, 0, (p - 6) / 15, ?_, by rw [List.length_take]; omega, fun h' => absurd h' h, fun _ => ⟨rfl, rfl, rfl, rfl, by omega, rfl⟩⟩
    rw [hF]
    exact scan_cut hf hl (by omega) (by rw [hk]; omega)
/-- The place of the byte that is turned. -/
theorem place_back {Q k : Nat} (hQ : Q = 6 + 15 * k) (hk : k ≠ 0) (hk' : k ≤ 40) (a : Int) : ∃ (P : Nat) (q2 : Int) (k2 p2 : Nat), P = 15 * k ∧ IntKind.i64.wrap ((Q : Int) - 6) = (P : Int) ∧ wrap64 (P : Int) = (P : Int) ∧ ((P : Int) == 0) = false ∧ ¬ (P : Int) = 0 ∧ Int.tmod a (P : Int) = q2 ∧ wrap64 (q2 + (P : Int)) = q2 + (P : Int) ∧ Int.tmod (q2 + (P : Int)) (P : Int) = (k2 : Int) ∧ (q2 + (P : Int)) % (P : Int) = (k2 : Int) ∧ k2 < P ∧ p2 = 6 + k2 ∧ (6 : Int) + (k2 : Int) = (p2 : Int) ∧ p2 < Q ∧ wrap64 (p2 : Int) = (p2 : Int) := by
  obtain ⟨q2, k2, h1, h2, h3, h4, h5⟩ := place_two (n := 15 * k) (by omega) (by omega) a
  exact ⟨15 * k, q2, k2, 6 + k2, rfl, by rw [IntKind.wrap_i64] <;> omega, by unfold wrap64; omega, by simp; omega, by omega, h1, h2, h3, h4, h5, rfl, by omega, by omega, by unfold wrap64; omega⟩
theorem arith_cut {p m Q k : Nat} (h : ¬ p < 6) (hm : m = (p - 6) / 15) (hmk : m ≤ k) (hk : k ≤ 40) (hpn : p ≤ Q) (hQ : Q ≤ 606) : ∃ j : Nat, (p : Int) - 6 = (j : Int) ∧ IntKind.i64.wrap ((p : Int) - 6) = (j : Int) ∧ Int.tdiv (j : Int) 15 = (m : Int) ∧ (j : Int) / 15 = (m : Int) ∧ wrap64 (m : Int) = (m : Int) ∧ wrap64 (15 * (m : Int)) = 15 * (m : Int) ∧ wrap64 (6 + 15 * (m : Int)) = 6 + 15 * (m : Int) ∧ IntKind.i64.wrap (15 * (m : Int)) = 15 * (m : Int) ∧ IntKind.i64.wrap (6 + 15 * (m : Int)) = 6 + 15 * (m : Int) := by
  refine ⟨p - 6, by omega, by rw [IntKind.wrap_i64] <;> omega, by rw [Int.tdiv_eq_ediv_of_nonneg (by omega)]; omega, by omega, by unfold wrap64; omega, by unfold wrap64; omega, by unfold wrap64; omega, by rw [IntKind.wrap_i64] <;> omega, by rw [IntKind.wrap_i64] <;> omega⟩
theorem append_fits {Q : Nat} (h : Q ≤ 606) : 0 + Q ≤ maxLen ∧ (0 + Q) * 1 ≤ 140737488355328 := ⟨by unfold maxLen; omega, by omega⟩
theorem quo_back {k2 P k : Nat} (hP : P = 15 * k) (h : k2 < P) (hk : k ≤ 40) : ∃ j2 : Nat, j2 = k2 / 15 ∧ j2 ≤ k ∧ j2 ≤ 1000000000 ∧ (Int.tdiv (k2 : Int) 15 = (j2 : Int) ∧ (k2 : Int) / 15 = (j2 : Int) ∧ wrap64 (j2 : Int) = (j2 : Int) ∧ IntKind.i64.wrap ((j2 : Int) * 15) = 15 * (j2 : Int) ∧ IntKind.i64.wrap (6 + 15 * (j2 : Int)) = 6 + 15 * (j2 : Int) ∧ IntKind.i64.wrap (j2 : Int) = (j2 : Int)) := by
  refine ⟨k2 / 15, rfl, by omega, by omega, by rw [Int.tdiv_eq_ediv_of_nonneg (by omega)]; omega, by omega, by unfold wrap64; omega, by rw [IntKind.wrap_i64] <;> omega, by rw [IntKind.wrap_i64] <;> omega, by rw [IntKind.wrap_i64] <;> omega⟩
/-- All of them may be. -/
def allRB (l : List EnP) : Bool := decide (AllR l)

set_option maxRecDepth 100000 in
set_option maxHeartbeats 16000000 in
theorem back_law (first : Int) (A : Option Addr) (n c : Nat) (l : List EnP) (left at0 y : Int) (w : World) (hT : Cr.Tab w) (hl : Es w w.heap.size A n l) (hnc : n ≤ c) (hy : 0 ≤ y ∧ y ≤ 255) :
    Calls Tryd.prog 4 #[.int .i64 first, .slice A n c, .int .i64 left, .int .i64 at0, .int .u8 y] w fun e w' => e = .returned (.bool true) ∧ Below w.heap.size w w' := by
  obtain ⟨i0, hi, hz0, hz1, hz2⟩ := info_parts Cr.info_u8
  obtain ⟨j0, hj, hy0, hy1, hy2⟩ := info_partsV info_entry
  have HL := Lib.hid (⟨hT, hl, hl.len, hy⟩ : _ ∧ _ ∧ _ ∧ _)
  clear hT hl hy
  by_cases h1 : 40 < n
  · have t0 : decide ((40 : Int) < (n : Int)) = true := by simp; omega
    go_enter Tryd.func4, Tryd.ntmps4
    go_wp2_with fail
    refine (wakes_true w HL.out.1).mono ?_
    rintro e w1 ⟨rfl, hb1⟩
    go_wp2_with fail
    go_ret
    exact ⟨rfl, hb1⟩
  have t0 : decide ((40 : Int) < (n : Int)) = false := by simp; omega
  by_cases hf : IdxP first
  case neg =>
    have HN := Lib.hid (if_neg (fun h => hf h.1) : fileP first l = ([], 2))
    by_cases f1 : (1 : Int) ≤ first
    · have f2 : (1073741824 : Int) < first := by unfold IdxP at hf; omega
      have f3 : ¬ first ≤ (1073741824 : Int) := by omega
      clear hf
      go_enter Tryd.func4, Tryd.ntmps4
      go_wp2_with fail
      go_loopw [11, 12] (fun fv i wr => ∃ k : Nat, k ≤ n ∧ i = .int .i64 k ∧ fv = .bool false ∧ Below w.heap.size w wr) (fun _ i _ => n - (intOf i).toNat)
      case atStart => exact ⟨0, Nat.zero_le _, rfl, rfl, Below.refl _ _⟩
      case round =>
        obtain ⟨k, hk, rfl, rfl, hB⟩ := hrel
        by_cases hlt : k < n
        · have HB := Lib.hid hB
          clear hB
          go_wp2_with fail
          go_roundw
          case rel => exact ⟨k + 1, by omega, by go_num, rfl, HB.out⟩
          case measure => simp [intOf]; omega
        · obtain rfl : k = n := by omega
          have HB := Lib.hid hB
          have hsz := hB.size
          clear hB
          go_wp2_with fail
          refine (file_any first A k c l wr (HL.out.1.on HB.out) (HL.out.2.1.on HB.out HB.out.size) (by omega)).mono ?_
          intro e wb hb
          obtain ⟨Ab, cb, rfl, -, -, -, bb⟩ := hb.out HN.out (q := 0) rfl
          have Bb := HB.out.trans (bb.mono HB.out.size)
          clear hb bb
          go_wp2_with fail
          refine (wakes_true wb (HL.out.1.on Bb)).mono ?_
          rintro e wb2 ⟨rfl, bb2⟩
          go_wp2_with fail
          go_ret
          exact ⟨rfl, Bb.trans (bb2.mono Bb.size)⟩
    · have f2 : first < (1 : Int) := by omega
      clear hf
      go_enter Tryd.func4, Tryd.ntmps4
      go_wp2_with fail
      go_loopw [11, 12] (fun fv i wr => ∃ k : Nat, k ≤ n ∧ i = .int .i64 k ∧ fv = .bool false ∧ Below w.heap.size w wr) (fun _ i _ => n - (intOf i).toNat)
      case atStart => exact ⟨0, Nat.zero_le _, rfl, rfl, Below.refl _ _⟩
      case round =>
        obtain ⟨k, hk, rfl, rfl, hB⟩ := hrel
        by_cases hlt : k < n
        · have HB := Lib.hid hB
          clear hB
          go_wp2_with fail
          go_roundw
          case rel => exact ⟨k + 1, by omega, by go_num, rfl, HB.out⟩
          case measure => simp [intOf]; omega
        · obtain rfl : k = n := by omega
          have HB := Lib.hid hB
          have hsz := hB.size
          clear hB
          go_wp2_with fail
          refine (file_any first A k c l wr (HL.out.1.on HB.out) (HL.out.2.1.on HB.out HB.out.size) (by omega)).mono ?_
          intro e wb hb
          obtain ⟨Ab, cb, rfl, -, -, -, bb⟩ := hb.out HN.out (q := 0) rfl
          have Bb := HB.out.trans (bb.mono HB.out.size)
          clear hb bb
          go_wp2_with fail
          refine (wakes_true wb (HL.out.1.on Bb)).mono ?_
          rintro e wb2 ⟨rfl, bb2⟩
          go_wp2_with fail
          go_ret
          exact ⟨rfl, Bb.trans (bb2.mono Bb.size)⟩
  have f1 : (1 : Int) ≤ first := hf.1
  have f2 : first ≤ (1073741824 : Int) := hf.2
  have Hf := Lib.hid hf
  clear hf
  go_enter Tryd.func4, Tryd.ntmps4
  go_wp2_with fail
  go_loopw [11, 12] (fun fv i wr => ∃ k : Nat, k ≤ n ∧ i = .int .i64 k ∧ fv = .bool (allRB (l.take k)) ∧ Below w.heap.size w wr) (fun _ i _ => n - (intOf i).toNat)
  case atStart => exact ⟨0, Nat.zero_le _, rfl, by unfold allRB; rw [decide_eq_true (show AllR (l.take 0) from AllR.nil)], Below.refl _ _⟩
  case round =>
    obtain ⟨k, hk, rfl, rfl, hB⟩ := hrel
    by_cases hlt : k < n
    · obtain ⟨b, off, e, rfl, hbl, he, c0, c1, c2⟩ := (HL.out.2.1.on hB hB.size).at_ hlt
      have hsz := hB.size
      cases hfb : allRB (l.take k)
      · have HB := Lib.hid (⟨hB, (show allRB (l.take (k + 1)) = false from decide_eq_false (fun h => by rw [take_succ he] at h; have h1 := of_decide_eq_false hfb; exact h1 (all_snoc_r.1 h).1))⟩ : _ ∧ _)
        clear hB hfb he
        go_wp2_with fail
        go_roundw
        case rel => exact ⟨k + 1, by omega, by go_num, by rw [HB.out.2], HB.out.1⟩
        case measure => simp [intOf]; omega
      · have HB := Lib.hid (⟨hB, (show allRB (l.take (k + 1)) = rightB e from by
          have h1 : AllR (l.take k) := of_decide_eq_true hfb
          rw [Bool.eq_iff_iff, rightB_iff]
          unfold allRB
          rw [decide_eq_true_iff, take_succ he, all_snoc_r]
          exact ⟨fun h => h.2, fun h => ⟨h1, h⟩⟩)⟩ : _ ∧ _)
        clear hB hfb he
        go_wp2_with fail
        refine (rright_any e _).mono ?_
        rintro r w1 ⟨rfl, hb1⟩
        rw [← HB.out.2]
        have H1 := Lib.hid (HB.out.1.trans (hb1.mono HB.out.1.size))
        clear hb1 c0 c1 c2
        go_wp2_with fail
        go_roundw
        case rel => exact ⟨k + 1, by omega, by go_num, rfl, H1.out⟩
        case measure => simp [intOf]; omega
    · obtain rfl : k = n := by omega
      have hfull : l.take k = l := List.take_of_length_le (by rw [HL.out.2.2.1]; exact Nat.le_refl _)
      rw [hfull]
      have HB := Lib.hid hB
      have hsz := hB.size
      clear hB hfull
      cases hfb : allRB l
      · have HN := Lib.hid (if_neg (fun h => (of_decide_eq_false hfb) h.2) : fileP first l = ([], 2))
        clear hfb
        go_wp2_with fail
        refine (file_any first A k c l wr (HL.out.1.on HB.out) (HL.out.2.1.on HB.out HB.out.size) (by omega)).mono ?_
        intro e wb hb
        obtain ⟨Ab, cb, rfl, -, -, -, bb⟩ := hb.out HN.out (q := 0) rfl
        have Bb := HB.out.trans (bb.mono HB.out.size)
        clear hb bb
        go_wp2_with fail
        refine (wakes_true wb (HL.out.1.on Bb)).mono ?_
        rintro e wb2 ⟨rfl, bb2⟩
        go_wp2_with fail
        go_ret
        exact ⟨rfl, Bb.trans (bb2.mono Bb.size)⟩
      · have hal : AllR l := of_decide_eq_true hfb
        obtain ⟨F, hF⟩ : ∃ F, F = headL first ++ recsL l := ⟨_, rfl⟩
        obtain ⟨Q, hQ⟩ : ∃ Q : Nat, Q = 6 + 15 * k := ⟨_, rfl⟩
        have hFl : F.length = Q := by rw [hF, List.length_append, headL_length, recsL_length, HL.out.2.2.1, hQ]
        have hFb : Byt F := by rw [hF]; exact (headL_byt first).append (recsL_byt l)
        have hfile : fileP first l = (F, 0) := by rw [hF]; exact if_pos ⟨Hf.out, hal⟩
        have hscan : scanP F = (first, l, (Q : Int), 0) := by rw [hF, scan_file Hf.out hal, HL.out.2.2.1, show 6 + 15 * (k : Int) = (Q : Int) by omega]
        have hszP : sizeP (k : Int) = (Q : Int) := by unfold sizeP; omega
        have HF := Lib.hid (⟨hF, hFl, hFb, hfile, hscan, hszP, hal, hQ⟩ : _ ∧ _ ∧ _ ∧ _ ∧ _ ∧ _ ∧ _ ∧ _)
        have hQ1 : Q ≤ 606 ∧ 6 ≤ Q := by omega
        have d6 : decide ((Q : Int) < 6) = false := by simp; omega
        obtain ⟨q, p, hq0, hq1, hq2, hp, hp', hpn⟩ := place_one (n := Q) (by omega) left
        have hne : ((Q : Int) + 1 == 0) = false := by simp; omega
        have hne' : ¬ ((Q : Int) + 1 = 0) := by omega
        clear hF hFl hFb hfile hscan hszP hal hQ hfb
        go_wp2_with fail
        refine (file_any first A k c l wr (HL.out.1.on HB.out) (HL.out.2.1.on HB.out HB.out.size) (by omega)).mono ?_
        intro e w1 h1
        obtain ⟨A1, c1, rfl, hc1, r1, -, b1⟩ := h1.out HF.out.2.2.2.1 HF.out.2.1
        have B1 := HB.out.trans (b1.mono HB.out.size)
        clear h1 b1
        go_wp2_with fail
        refine (scan_any A1 Q c1 F w1 (HL.out.1.on B1) r1 HF.out.2.2.1 hc1 (by omega)).mono ?_
        intro e w2 h2
        obtain ⟨A2, c2, rfl, -, s2, b2⟩ := h2.out HF.out.2.2.2.2.1 HL.out.2.2.1
        have B2 := B1.trans (b2.mono B1.size)
        have r2 := r1.on b2 b2.size
        clear h2 b2 r1 B1
        obtain ⟨w3, hw3⟩ : ∃ w3, w3 = w2.alloc (.cells #[.int .i64 first, .slice A2 k c2, .int .i64 (Q : Int)] 33) := ⟨_, rfl⟩
        obtain ⟨z3, hz3⟩ : ∃ z, z = w2.heap.size := ⟨_, rfl⟩
        have b3 : Below w2.heap.size w2 w3 := by rw [hw3]; exact (Below.refl _ _).alloc (Nat.le_refl _) _
        have bz3 : BoxC w3 z3 first (.slice A2 k c2) (Q : Int) := by rw [hw3, hz3]; exact BoxC.new _ _ _ _
        have B3 := B2.trans (b3.mono B2.size)
        have r3 := r2.on b3 b3.size
        have s3 := s2.on b3 b3.size
        obtain ⟨d0, d1, d2⟩ := bz3.cells
        have H3 := Lib.hid (⟨hw3, hz3, B3, r3, s3, bz3⟩ : _ ∧ _ ∧ _ ∧ _ ∧ _ ∧ _)
        rw [hw3, hz3] at d0 d1 d2
        clear hw3 hz3 b3 bz3 B3 r3 s3 r2 s2 B2
        go_wp2_with fail
        rw [← H3.out.1, ← H3.out.2.1]
        clear d0 d1 d2
        obtain ⟨d0, d1, d2⟩ := H3.out.2.2.2.2.2.cells
        have em := ents_any A2 A k k c2 c l l w3 H3.out.2.2.2.2.1 (HL.out.2.1.on H3.out.2.2.1 H3.out.2.2.1.size) (by omega) (by omega)
        rw [eqE_true rfl] at em
        refine em.mono ?_
        rintro e w4 ⟨rfl, b4⟩
        have B4 := H3.out.2.2.1.trans (b4.mono H3.out.2.2.1.size)
        have r4 := H3.out.2.2.2.1.on b4 b4.size
        clear em d0 d1 d2 b4
        go_wp2_with fail
        have sm := fun W => size_any (k : Int) W
        rw [HF.out.2.2.2.2.2.1] at sm
        refine (sm _).mono ?_
        rintro e w5 ⟨rfl, rfl⟩
        have hcut0 := Cr.cut_first Tryd.underlying23 hi hz1 A1 Q c1 p (by omega)
        have rp := r4.first (m := p) hpn
        clear sm
        go_wp2_with fail
        obtain ⟨f6, l6, u6, e6, m, hS6, hm6, hno6, hys6⟩ := cut_back (F := F) (first := first) (l := l) (p := p) (k := k) HF.out.1 Hf.out HF.out.2.2.2.2.2.2.1 HL.out.2.2.1 (by have := HF.out.2.2.2.2.2.2.2; omega)
        refine (scan_any A1 p c1 (F.take p) w5 (HL.out.1.on B4) rp (HF.out.2.2.1.take p) (by omega) (by omega)).mono ?_
        intro e w6 h6
        obtain ⟨A6, c6, rfl, hc6, s6, b6⟩ := h6.out hS6 hm6
        have B6 := B4.trans (b6.mono B4.size)
        have r6 := r4.on b6 b6.size
        clear h6 b6 rp
        obtain ⟨w7, hw7⟩ : ∃ w7, w7 = w6.alloc (.cells #[.int .i64 f6, .slice A6 m c6, .int .i64 u6] 33) := ⟨_, rfl⟩
        obtain ⟨z7, hz7⟩ : ∃ z, z = w6.heap.size := ⟨_, rfl⟩
        have b7 : Below w6.heap.size w6 w7 := by rw [hw7]; exact (Below.refl _ _).alloc (Nat.le_refl _) _
        have bz7 : BoxC w7 z7 f6 (.slice A6 m c6) u6 := by rw [hw7, hz7]; exact BoxC.new _ _ _ _
        have H7 := Lib.hid (⟨hw7, hz7, B6.trans (b7.mono B6.size), r6.on b7 b7.size, s6.on b7 b7.size, bz7⟩ : _ ∧ _ ∧ _ ∧ _ ∧ _ ∧ _)
        have HS := Lib.hid (⟨hno6, hys6, hm6⟩ : _ ∧ _ ∧ _)
        clear hw7 hz7 b7 bz7 B6 r6 s6 B4 r4 hcut0 hne hne' hq0 hq1 hq2 hp hp' hno6 hys6 hm6 hS6 hc6 d6
        go_upto_if 131 with fail
        rw [← H7.out.1, ← H7.out.2.1]
        go_cut [] (fun wx => Below w7.heap.size w7 wx)
        case first => as_aux_lemma =>
          by_cases hp6 : p < 6
          · obtain ⟨rfl, rfl, rfl⟩ := HS.out.1 hp6
            have t6 : decide ((p : Int) < 6) = true := by simp; omega
            obtain ⟨d0, d1, d2⟩ := H7.out.2.2.2.2.2.cells
            go_wp2_with fail
            go_meet
            exact Below.refl _ _
          · obtain ⟨rfl, rfl, rfl, rfl, hmk, hm⟩ := HS.out.2.1 hp6
            have t6 : decide ((p : Int) < 6) = false := by simp; omega
            obtain ⟨j, hsub, hw1, hdiv, hdiv', hwm, hwa, hwb, hwa', hwb'⟩ := arith_cut hp6 hm hmk (by omega) hpn hQ1.1
            have hcutE := cut_firstE Tryd.underlying22 hj A k c m (Nat.le_trans hmk hnc)
            have HM := Lib.hid (⟨hmk, Nat.le_trans hmk (Nat.le_trans (Nat.not_lt.1 h1) (by decide))⟩ : _ ∧ m ≤ 1000000000)
            have X0 := Lib.hid (show ∀ W, Below w7.heap.size w7 W → BoxC W z7 first (.slice A6 m c6) (6 + 15 * (m : Int)) from fun W hW => H7.out.2.2.2.2.2.below hW)
            clear hmk hm hsub
            go_wp2_with fail
            refine wp_region_held_drew (S := (fun W => Below w7.heap.size w7 W)) (by kernel_rfl) (below_dr (below_d0 _)) (fun hHeld => ?_)
            refine take_at (i := 0) (d := 143) (oi := ?o1) (v := ?v1) ?hi1 ?hd1 (by kernel_rfl) (by kernel_rfl) (by kernel_rfl) ?hw1 ?hy1 ?hq1 (by assumption) ?r1
            case hi1 => (simp only [List.getElem?_toArray, List.getElem?_cons_zero]; rfl)
            case hd1 => rfl
            case hw1 => rfl
            case hy1 => ((intro w hSw; (try dsimp only at hSw); go_simp) <;> (with_reducible rfl))
            case hq1 => exact fun _ _ _ h => h
            simp only [List.set_cons_succ, List.set_cons_zero]
            refine take_at (i := 1) (d := 144) (oi := ?o2) (v := ?v2) ?hi2 ?hd2 (by kernel_rfl) (by kernel_rfl) (by kernel_rfl) ?hw2 ?hy2 ?hq2 (by assumption) ?r2
            case hi2 => (simp only [List.getElem?_toArray, List.getElem?_cons_succ, List.getElem?_cons_zero]; rfl)
            case hd2 => rfl
            case hw2 => rfl
            case hy2 => ((intro w hSw; (try dsimp only at hSw); go_simp) <;> (with_reducible rfl))
            case hq2 => exact fun _ _ _ h => h
            simp only [List.set_cons_succ, List.set_cons_zero]
            refine take_at (i := 2) (d := 145) (oi := ?o3) (v := ?v3) ?hi3 ?hd3 (by kernel_rfl) (by kernel_rfl) (by kernel_rfl) ?hw3 ?hy3 ?hq3 (by assumption) ?r3
            case hi3 => (simp only [List.getElem?_toArray, List.getElem?_cons_succ, List.getElem?_cons_zero]; rfl)
            case hd3 => rfl
            case hw3 => rfl
            case hy3 => ((intro w hSw; (try dsimp only at hSw); go_simp) <;> (with_reducible rfl))
            case hq3 => exact fun _ _ _ h => h
            simp only [List.set_cons_succ, List.set_cons_zero]
            refine take_at (i := 3) (d := 146) (oi := ?o4) (v := ?v4) ?hi4 ?hd4 (by kernel_rfl) (by kernel_rfl) (by kernel_rfl) ?hw4 ?hy4 ?hq4 (by assumption) ?r4
            case hi4 => (simp only [List.getElem?_toArray, List.getElem?_cons_succ, List.getElem?_cons_zero]; rfl)
            case hd4 => rfl
            case hw4 => rfl
            case hy4 => ((intro w hSw; (try dsimp only at hSw); go_simp) <;> (with_reducible rfl))
            case hq4 => exact fun _ _ _ h => h
            simp only [List.set_cons_succ, List.set_cons_zero]
            refine take_at (i := 4) (d := 147) (oi := ?o5) (v := ?v5) ?hi5 ?hd5 (by kernel_rfl) (by kernel_rfl) (by kernel_rfl) ?hw5 ?hy5 ?hq5 (by assumption) ?r5
            case hi5 => (simp only [List.getElem?_toArray, List.getElem?_cons_succ, List.getElem?_cons_zero]; rfl)
            case hd5 => rfl
            case hw5 => rfl
            case hy5 => ((intro w hSw; (try dsimp only at hSw); obtain ⟨k0, k1, k2⟩ := (X0.out _ hSw).cells; go_simp) <;> (with_reducible rfl))
            case hq5 => exact fun _ _ _ h => h
            simp only [List.set_cons_succ, List.set_cons_zero]
            refine take_at (i := 5) (d := 148) (oi := ?o6) (v := ?v6) ?hi6 ?hd6 (by kernel_rfl) (by kernel_rfl) (by kernel_rfl) ?hw6 ?hy6 ?hq6 (by assumption) ?r6
            case hi6 => (simp only [List.getElem?_toArray, List.getElem?_cons_succ, List.getElem?_cons_zero]; rfl)
            case hd6 => rfl
            case hw6 => rfl
            case hy6 => ((intro w hSw; (try dsimp only at hSw); go_simp) <;> (with_reducible rfl))
            case hq6 => exact fun _ _ _ h => h
            simp only [List.set_cons_succ, List.set_cons_zero]
            refine take_at (i := 6) (d := 149) (oi := ?o7) (v := ?v7) ?hi7 ?hd7 (by kernel_rfl) (by kernel_rfl) (by kernel_rfl) ?hw7 ?hy7 ?hq7 (by assumption) ?r7
            case hi7 => (simp only [List.getElem?_toArray, List.getElem?_cons_succ, List.getElem?_cons_zero]; rfl)
            case hd7 => rfl
            case hw7 => rfl
            case hy7 => ((intro w hSw; (try dsimp only at hSw); go_simp) <;> (with_reducible rfl))
            case hq7 => exact fun _ _ _ h => h
            simp only [List.set_cons_succ, List.set_cons_zero]
            refine take_at (i := 7) (d := 150) (oi := ?o8) (v := ?v8) ?hi8 ?hd8 (by kernel_rfl) (by kernel_rfl) (by kernel_rfl) ?hw8 ?hy8 ?hq8 (by assumption) ?r8
            case hi8 => (simp only [List.getElem?_toArray, List.getElem?_cons_succ, List.getElem?_cons_zero]; rfl)
            case hd8 => rfl
            case hw8 => rfl
            case hy8 => ((intro w hSw; (try dsimp only at hSw); go_simp) <;> (with_reducible rfl))
            case hq8 => exact fun _ _ _ h => h
            simp only [List.set_cons_succ, List.set_cons_zero]
            refine call_at (i := 8) (d := 151) (oi := ?o9) (f := ?f9) (args := ?a9) ?hi9 ?hd9 (by kernel_rfl) ?hw9 ?he9 ?hc9
            case hi9 => (simp only [List.getElem?_toArray, List.getElem?_cons_succ, List.getElem?_cons_zero]; rfl)
            case hd9 => rfl
            case hw9 => rfl
            case he9 => (go_simp; constructor <;> with_reducible rfl)
            have em := ents_any A6 A m m c6 c (l.take m) (l.take m) _ (H7.out.2.2.2.2.1.on hHeld hHeld.size) ((Row.first HL.out.2.1 HM.out.1).on (H7.out.2.2.1.trans (hHeld.mono H7.out.2.2.1.size)) (H7.out.2.2.1.trans (hHeld.mono H7.out.2.2.1.size)).size) HM.out.2 HM.out.2
            rw [eqE_true rfl] at em
            refine em.mono ?_
            rintro r wv ⟨rfl, hb1⟩
            have kb : Below w7.heap.size w7 wv := hHeld.trans (hb1.mono hHeld.size)
            clear em
            refine ⟨_, rfl, kb, fun hHeld => ?_⟩
            simp only [List.set_cons_succ, List.set_cons_zero]
            refine take_at (i := 9) (d := 152) (oi := ?o10) (v := ?v10) ?hi10 ?hd10 (by kernel_rfl) (by kernel_rfl) (by kernel_rfl) ?hw10 ?hy10 ?hq10 (by assumption) ?r10
            case hi10 => (simp only [List.getElem?_toArray, List.getElem?_cons_succ, List.getElem?_cons_zero]; rfl)
            case hd10 => rfl
            case hw10 => rfl
            case hy10 => ((intro w hSw; (try dsimp only at hSw); go_simp) <;> (with_reducible rfl))
            case hq10 => exact fun _ _ _ h => h
            simp only [List.set_cons_succ, List.set_cons_zero]
            refine take_at (i := 10) (d := 153) (oi := ?o11) (v := ?v11) ?hi11 ?hd11 (by kernel_rfl) (by kernel_rfl) (by kernel_rfl) ?hw11 ?hy11 ?hq11 (by assumption) ?r11
            case hi11 => (simp only [List.getElem?_toArray, List.getElem?_cons_succ, List.getElem?_cons_zero]; rfl)
            case hd11 => rfl
            case hw11 => rfl
            case hy11 => ((intro w hSw; (try dsimp only at hSw); go_simp) <;> (with_reducible rfl))
            case hq11 => exact fun _ _ _ h => h
            simp only [List.set_cons_succ, List.set_cons_zero]
            refine take_at (i := 11) (d := 154) (oi := ?o12) (v := ?v12) ?hi12 ?hd12 (by kernel_rfl) (by kernel_rfl) (by kernel_rfl) ?hw12 ?hy12 ?hq12 (by assumption) ?r12
            case hi12 => (simp only [List.getElem?_toArray, List.getElem?_cons_succ, List.getElem?_cons_zero]; rfl)
            case hd12 => rfl
            case hw12 => rfl
            case hy12 => ((intro w hSw; (try dsimp only at hSw); go_simp) <;> (with_reducible rfl))
            case hq12 => exact fun _ _ _ h => h
            simp only [List.set_cons_succ, List.set_cons_zero]
            refine take_at (i := 12) (d := 155) (oi := ?o13) (v := ?v13) ?hi13 ?hd13 (by kernel_rfl) (by kernel_rfl) (by kernel_rfl) ?hw13 ?hy13 ?hq13 (by assumption) ?r13
            case hi13 => (simp only [List.getElem?_toArray, List.getElem?_cons_succ, List.getElem?_cons_zero]; rfl)
            case hd13 => rfl
            case hw13 => rfl
            case hy13 => ((intro w hSw; (try dsimp only at hSw); go_simp) <;> (with_reducible rfl))
            case hq13 => exact fun _ _ _ h => h
            simp only [List.set_cons_succ, List.set_cons_zero]
            refine take_at (i := 13) (d := 156) (oi := ?o14) (v := ?v14) ?hi14 ?hd14 (by kernel_rfl) (by kernel_rfl) (by kernel_rfl) ?hw14 ?hy14 ?hq14 (by assumption) ?r14
            case hi14 => (simp only [List.getElem?_toArray, List.getElem?_cons_succ, List.getElem?_cons_zero]; rfl)
            case hd14 => rfl
            case hw14 => rfl
            case hy14 => ((intro w hSw; (try dsimp only at hSw); obtain ⟨k0, k1, k2⟩ := (X0.out _ hSw).cells; go_simp) <;> (with_reducible rfl))
            case hq14 => exact fun _ _ _ h => h
            simp only [List.set_cons_succ, List.set_cons_zero]
            refine take_at (i := 14) (d := 157) (oi := ?o15) (v := ?v15) ?hi15 ?hd15 (by kernel_rfl) (by kernel_rfl) (by kernel_rfl) ?hw15 ?hy15 ?hq15 (by assumption) ?r15
            case hi15 => (simp only [List.getElem?_toArray, List.getElem?_cons_succ, List.getElem?_cons_zero]; rfl)
            case hd15 => rfl
            case hw15 => rfl
            case hy15 => ((intro w hSw; (try dsimp only at hSw); go_simp) <;> (with_reducible rfl))
            case hq15 => exact fun _ _ _ h => h
            simp only [List.set_cons_succ, List.set_cons_zero]
            refine take_at (i := 15) (d := 158) (oi := ?o16) (v := ?v16) ?hi16 ?hd16 (by kernel_rfl) (by kernel_rfl) (by kernel_rfl) ?hw16 ?hy16 ?hq16 (by assumption) ?r16
            case hi16 => (simp only [List.getElem?_toArray, List.getElem?_cons_succ, List.getElem?_cons_zero]; rfl)
            case hd16 => rfl
            case hw16 => rfl
            case hy16 => ((intro w hSw; (try dsimp only at hSw); go_simp) <;> (with_reducible rfl))
            case hq16 => exact fun _ _ _ h => h
            simp only [List.set_cons_succ, List.set_cons_zero]
            refine take_at (i := 16) (d := 159) (oi := ?o17) (v := ?v17) ?hi17 ?hd17 (by kernel_rfl) (by kernel_rfl) (by kernel_rfl) ?hw17 ?hy17 ?hq17 (by assumption) ?r17
            case hi17 => (simp only [List.getElem?_toArray, List.getElem?_cons_succ, List.getElem?_cons_zero]; rfl)
            case hd17 => rfl
            case hw17 => rfl
            case hy17 => ((intro w hSw; (try dsimp only at hSw); go_simp) <;> (with_reducible rfl))
            case hq17 => exact fun _ _ _ h => h
            simp only [List.set_cons_succ, List.set_cons_zero]
            refine take_at (i := 17) (d := 160) (oi := ?o18) (v := ?v18) ?hi18 ?hd18 (by kernel_rfl) (by kernel_rfl) (by kernel_rfl) ?hw18 ?hy18 ?hq18 (by assumption) ?r18
            case hi18 => (simp only [List.getElem?_toArray, List.getElem?_cons_succ, List.getElem?_cons_zero]; rfl)
            case hd18 => rfl
            case hw18 => rfl
            case hy18 => ((intro w hSw; (try dsimp only at hSw); go_simp) <;> (with_reducible rfl))
            case hq18 => exact fun _ _ _ h => h
            simp only [List.set_cons_succ, List.set_cons_zero]
            refine take_at (i := 18) (d := 161) (oi := ?o19) (v := ?v19) ?hi19 ?hd19 (by kernel_rfl) (by kernel_rfl) (by kernel_rfl) ?hw19 ?hy19 ?hq19 (by assumption) ?r19
            case hi19 => (simp only [List.getElem?_toArray, List.getElem?_cons_succ, List.getElem?_cons_zero]; rfl)
            case hd19 => rfl
            case hw19 => rfl
            case hy19 => ((intro w hSw; (try dsimp only at hSw); go_simp) <;> (with_reducible rfl))
            case hq19 => exact fun _ _ _ h => h
            simp only [List.set_cons_succ, List.set_cons_zero]
            refine wpAnyH_done (by kernel_rfl) ?_ _
            go_wp2_with fail
            go_meet
            exact hHeld
        case rest => as_aux_lemma =>
          have Bx := H7.out.2.2.1.trans (hcut.mono H7.out.2.2.1.size)
          have rx := H7.out.2.2.2.1.on hcut hcut.size
          clear HS H7 hcut H3 hpn
          by_cases hk0 : k = 0
          · have hkb : ((k : Int) == 0) = true := by simp [hk0]
            go_wp2_with fail
            refine (wakes_true wc (HL.out.1.on Bx)).mono ?_
            rintro e wz ⟨rfl, bz⟩
            go_wp2_with fail
            go_ret
            exact ⟨rfl, Bx.trans (bz.mono Bx.size)⟩
          have hkb : ((k : Int) == 0) = false := by simp [hk0]
          by_cases hy0' : y = 0
          · have hyb : (y == 0) = true := by simp [hy0']
            go_wp2_with fail
            refine (wakes_true wc (HL.out.1.on Bx)).mono ?_
            rintro e wz ⟨rfl, bz⟩
            go_wp2_with fail
            go_ret
            exact ⟨rfl, Bx.trans (bz.mono Bx.size)⟩
          have hyb : (y == 0) = false := by simp [hy0']
          obtain ⟨P, q2, k2, p2, hP, hPs, hPw, hPb, hPn, hq0, hq1, hk, hk', hkP, hp2, hp2s, hp2Q, hpw⟩ := place_back (Q := Q) (k := k) (by have := HF.out.2.2.2.2.2.2.2; omega) (by omega) (by omega) at0
          have Hn := Lib.hid (append_fits hQ1.1)
          have hQ0 : 0 < Q := Nat.lt_of_lt_of_le (by decide) hQ1.2
          have Hk := Lib.hid (⟨hk0, hy0', hkP, hP, hp2⟩ : _ ∧ _ ∧ _ ∧ _ ∧ _)
          clear hk0 hy0' hkP hP hp2 hPw hpw
          go_wp2_with (at_builtin; refine hold ?_)
          refine unhold (Cr.wpList_append_rd (.tmp 180) (.tmp 181) 23 Tryd.underlying23 hi hz0 hz1 hz2 Cr.byte_cells (own_empty wc w.heap.size 5 1 Bx.size) (rx.below ((Below.refl _ wc).alloc (Nat.le_refl _) _)) Hn.out.1 Hn.out.2 (Bx.alloc Bx.size _).size rfl rfl rfl rfl ?_)
          intro v8 w8 L8
          have B8 : Below w.heap.size w w8 := L8.below (Bx.alloc Bx.size _) (Bx.alloc Bx.size _).size (fun g hg => by simp [Value.ownBlock] at hg; exact hg ▸ Bx.size)
          have own8 := L8.1
          rw [Nat.zero_add, List.nil_append] at own8
          obtain ⟨g, c8, rfl⟩ := own_some own8 hQ0
          have hg := (own8.lt g rfl).1
          clear L8 Bx rx
          obtain ⟨x, hx⟩ : ∃ x, F[p2]?.getD 0 = x := ⟨_, rfl⟩
          have hcd : w8.cell? ⟨g, p2, none⟩ = some (.int .u8 x) := by
            have hFl := HF.out.2.1
            rw [own8.cellAt p2 (by rw [Nat.mul_one]; exact hp2Q), List.getElem?_map, ← hx, List.getElem?_eq_getElem (by rw [hFl]; exact hp2Q)]
            rfl
          obtain ⟨own9, hg9⟩ := own8.stored p2 (.int .u8 (bits .xor .u8 x y))
          rw [← List.map_set] at own9
          have hfj := own8.frozenAt p2
          have hS9 : scanP (F.set p2 (bits .xor .u8 x y)) = (first, l.take (k2 / 15), 6 + 15 * ((k2 / 15 : Nat) : Int), 0) := by
            rw [← hx, HF.out.1, Hk.out.2.2.2.2]
            exact scan_harm Hf.out HF.out.2.2.2.2.2.2.1 (by rw [HL.out.2.2.1, ← Hk.out.2.2.2.1]; exact Hk.out.2.2.1) HL.out.2.2.2 Hk.out.2.1
          have hb9 : Byt (F.set p2 (bits .xor .u8 x y)) := by
            refine byt_set HF.out.2.2.1 p2 ?_
            have hxb : 0 ≤ x ∧ x ≤ 255 := by rw [← hx]; exact byt_getD HF.out.2.2.1 p2
            rw [Cr.xor_int hxb HL.out.2.2.2]
            exact Cr.xor_int_range x y hxb HL.out.2.2.2
          have B9 : Below w.heap.size w (w8.setCell ⟨g, p2, none⟩ (.int .u8 (bits .xor .u8 x y))) := B8.setCell hg _
          obtain ⟨j2, hj2, hj2k, hj2m, hquo⟩ := quo_back Hk.out.2.2.2.1 Hk.out.2.2.1 (Nat.not_lt.1 h1)
          have HQ := Lib.hid hquo
          have hjl : (l.take j2).length = j2 := by rw [List.length_take, HL.out.2.2.1]; exact Nat.min_eq_left hj2k
          obtain ⟨w9, hw9⟩ : ∃ w9, w9 = w8.setCell ⟨g, p2, none⟩ (.int .u8 (bits .xor .u8 x y)) := ⟨_, rfl⟩
          obtain ⟨F9, hF9⟩ : ∃ F9, F9 = F.set p2 (bits .xor .u8 x y) := ⟨_, rfl⟩
          rw [← hF9, ← hj2] at hS9
          rw [← hF9] at hb9
          rw [← hF9, ← hw9] at own9
          rw [← hw9] at B9
          obtain ⟨A9, c9, he9, hc9, r9⟩ := own_rd own9
          cases he9
          have H9 := Lib.hid (⟨hw9, r9, hS9, hb9, B9, hc9, hjl⟩ : _ ∧ _ ∧ _ ∧ _ ∧ _ ∧ _ ∧ _)
          have HJ := Lib.hid (⟨hj2k, hj2m⟩ : _ ∧ _)
          clear own8 own9 hg9 hg hx hS9 hb9 B8 B9 hw9 hF9 hc9 r9 hjl hj2 hj2k hj2m hquo
          go_wp2_with fail
          rw [← H9.out.1]
          clear hPs hPb hPn hq0 hq1 hk hk' hp2s hp2Q hQ0 hcd hfj hkb hyb
          refine (scan_any (some ⟨g, 0, none⟩) Q c8 F9 w9 (HL.out.1.on H9.out.2.2.2.2.1) H9.out.2.1 H9.out.2.2.2.1 H9.out.2.2.2.2.2.1 (by have := hQ1.1; omega)).mono ?_
          intro e wa ha
          obtain ⟨Aa, ca, rfl, hca, sa, ba⟩ := ha.out H9.out.2.2.1 H9.out.2.2.2.2.2.2
          have Ba := H9.out.2.2.2.2.1.trans (ba.mono H9.out.2.2.2.2.1.size)
          clear ha ba hca
          obtain ⟨wb, hwb⟩ : ∃ wb, wb = wa.alloc (.cells #[.int .i64 first, .slice Aa j2 ca, .int .i64 (6 + 15 * (j2 : Int))] 33) := ⟨_, rfl⟩
          obtain ⟨zb, hzb⟩ : ∃ z, z = wa.heap.size := ⟨_, rfl⟩
          have bb : Below wa.heap.size wa wb := by rw [hwb]; exact (Below.refl _ _).alloc (Nat.le_refl _) _
          have bzb : BoxC wb zb first (.slice Aa j2 ca) (6 + 15 * (j2 : Int)) := by rw [hwb, hzb]; exact BoxC.new _ _ _ _
          have HW := Lib.hid (⟨hwb, hzb, Ba.trans (bb.mono Ba.size), sa.on bb bb.size, bzb⟩ : _ ∧ _ ∧ _ ∧ _ ∧ _)
          clear hwb hzb bb bzb Ba sa
          go_wp2_with fail
          rw [← HW.out.1, ← HW.out.2.1]
          obtain ⟨hj2k, hj2m⟩ := HJ.out
          obtain ⟨hqd, hqd', hqw, hqA, hqB, hqC⟩ := HQ.out
          have hcutF := cut_firstE Tryd.underlying22 hj A k c j2 (Nat.le_trans hj2k hnc)
          have X0 := Lib.hid (show ∀ W, Below wb.heap.size wb W → BoxC W zb first (.slice Aa j2 ca) (6 + 15 * (j2 : Int)) from fun W hW => HW.out.2.2.2.2.below hW)
          clear hj2k hj2m hQ1 t0 h1 H9
          refine wp_region_held_drew (S := (fun W => Below wb.heap.size wb W)) (by kernel_rfl) (below_dr (below_d0 _)) (fun hHeld => ?_)
          refine take_at (i := 0) (d := 199) (oi := ?o20) (v := ?v20) ?hi20 ?hd20 (by kernel_rfl) (by kernel_rfl) (by kernel_rfl) ?hw20 ?hy20 ?hq20 (by assumption) ?r20
          case hi20 => (simp only [List.getElem?_toArray, List.getElem?_cons_zero]; rfl)
          case hd20 => rfl
          case hw20 => rfl
          case hy20 => ((intro w hSw; (try dsimp only at hSw); go_simp) <;> (with_reducible rfl))
          case hq20 => exact fun _ _ _ h => h
          simp only [List.set_cons_succ, List.set_cons_zero]
          refine take_at (i := 1) (d := 200) (oi := ?o21) (v := ?v21) ?hi21 ?hd21 (by kernel_rfl) (by kernel_rfl) (by kernel_rfl) ?hw21 ?hy21 ?hq21 (by assumption) ?r21
          case hi21 => (simp only [List.getElem?_toArray, List.getElem?_cons_succ, List.getElem?_cons_zero]; rfl)
          case hd21 => rfl
          case hw21 => rfl
          case hy21 => ((intro w hSw; (try dsimp only at hSw); go_simp) <;> (with_reducible rfl))
          case hq21 => exact fun _ _ _ h => h
          simp only [List.set_cons_succ, List.set_cons_zero]
          refine take_at (i := 2) (d := 201) (oi := ?o22) (v := ?v22) ?hi22 ?hd22 (by kernel_rfl) (by kernel_rfl) (by kernel_rfl) ?hw22 ?hy22 ?hq22 (by assumption) ?r22
          case hi22 => (simp only [List.getElem?_toArray, List.getElem?_cons_succ, List.getElem?_cons_zero]; rfl)
          case hd22 => rfl
          case hw22 => rfl
          case hy22 => ((intro w hSw; (try dsimp only at hSw); go_simp) <;> (with_reducible rfl))
          case hq22 => exact fun _ _ _ h => h
          simp only [List.set_cons_succ, List.set_cons_zero]
          refine take_at (i := 3) (d := 202) (oi := ?o23) (v := ?v23) ?hi23 ?hd23 (by kernel_rfl) (by kernel_rfl) (by kernel_rfl) ?hw23 ?hy23 ?hq23 (by assumption) ?r23
          case hi23 => (simp only [List.getElem?_toArray, List.getElem?_cons_succ, List.getElem?_cons_zero]; rfl)
          case hd23 => rfl
          case hw23 => rfl
          case hy23 => ((intro w hSw; (try dsimp only at hSw); go_simp) <;> (with_reducible rfl))
          case hq23 => exact fun _ _ _ h => h
          simp only [List.set_cons_succ, List.set_cons_zero]
          refine take_at (i := 4) (d := 203) (oi := ?o24) (v := ?v24) ?hi24 ?hd24 (by kernel_rfl) (by kernel_rfl) (by kernel_rfl) ?hw24 ?hy24 ?hq24 (by assumption) ?r24
          case hi24 => (simp only [List.getElem?_toArray, List.getElem?_cons_succ, List.getElem?_cons_zero]; rfl)
          case hd24 => rfl
          case hw24 => rfl
          case hy24 => ((intro w hSw; (try dsimp only at hSw); obtain ⟨k0, k1, k2⟩ := (X0.out _ hSw).cells; go_simp) <;> (with_reducible rfl))
          case hq24 => exact fun _ _ _ h => h
          simp only [List.set_cons_succ, List.set_cons_zero]
          refine take_at (i := 5) (d := 204) (oi := ?o25) (v := ?v25) ?hi25 ?hd25 (by kernel_rfl) (by kernel_rfl) (by kernel_rfl) ?hw25 ?hy25 ?hq25 (by assumption) ?r25
          case hi25 => (simp only [List.getElem?_toArray, List.getElem?_cons_succ, List.getElem?_cons_zero]; rfl)
          case hd25 => rfl
          case hw25 => rfl
          case hy25 => ((intro w hSw; (try dsimp only at hSw); go_simp) <;> (with_reducible rfl))
          case hq25 => exact fun _ _ _ h => h
          simp only [List.set_cons_succ, List.set_cons_zero]
          refine take_at (i := 6) (d := 205) (oi := ?o26) (v := ?v26) ?hi26 ?hd26 (by kernel_rfl) (by kernel_rfl) (by kernel_rfl) ?hw26 ?hy26 ?hq26 (by assumption) ?r26
          case hi26 => (simp only [List.getElem?_toArray, List.getElem?_cons_succ, List.getElem?_cons_zero]; rfl)
          case hd26 => rfl
          case hw26 => rfl
          case hy26 => ((intro w hSw; (try dsimp only at hSw); go_simp) <;> (with_reducible rfl))
          case hq26 => exact fun _ _ _ h => h
          simp only [List.set_cons_succ, List.set_cons_zero]
          refine take_at (i := 7) (d := 206) (oi := ?o27) (v := ?v27) ?hi27 ?hd27 (by kernel_rfl) (by kernel_rfl) (by kernel_rfl) ?hw27 ?hy27 ?hq27 (by assumption) ?r27
          case hi27 => (simp only [List.getElem?_toArray, List.getElem?_cons_succ, List.getElem?_cons_zero]; rfl)
          case hd27 => rfl
          case hw27 => rfl
          case hy27 => ((intro w hSw; (try dsimp only at hSw); go_simp) <;> (with_reducible rfl))
          case hq27 => exact fun _ _ _ h => h
          simp only [List.set_cons_succ, List.set_cons_zero]
          refine take_at (i := 8) (d := 207) (oi := ?o28) (v := ?v28) ?hi28 ?hd28 (by kernel_rfl) (by kernel_rfl) (by kernel_rfl) ?hw28 ?hy28 ?hq28 (by assumption) ?r28
          case hi28 => (simp only [List.getElem?_toArray, List.getElem?_cons_succ, List.getElem?_cons_zero]; rfl)
          case hd28 => rfl
          case hw28 => rfl
          case hy28 => ((intro w hSw; (try dsimp only at hSw); go_simp) <;> (with_reducible rfl))
          case hq28 => exact fun _ _ _ h => h
          simp only [List.set_cons_succ, List.set_cons_zero]
          refine call_at (i := 9) (d := 208) (oi := ?o29) (f := ?f29) (args := ?a29) ?hi29 ?hd29 (by kernel_rfl) ?hw29 ?he29 ?hc29
          case hi29 => (simp only [List.getElem?_toArray, List.getElem?_cons_succ, List.getElem?_cons_zero]; rfl)
          case hd29 => rfl
          case hw29 => rfl
          case he29 => (go_simp; constructor <;> with_reducible rfl)
          have em := ents_any Aa A j2 j2 ca c (l.take j2) (l.take j2) _ (HW.out.2.2.2.1.on hHeld hHeld.size) ((Row.first HL.out.2.1 HJ.out.1).on (HW.out.2.2.1.trans (hHeld.mono HW.out.2.2.1.size)) (HW.out.2.2.1.trans (hHeld.mono HW.out.2.2.1.size)).size) HJ.out.2 HJ.out.2
          rw [eqE_true rfl] at em
          refine em.mono ?_
          rintro r wv ⟨rfl, hb1⟩
          have kb : Below wb.heap.size wb wv := hHeld.trans (hb1.mono hHeld.size)
          clear em
          refine ⟨_, rfl, kb, fun hHeld => ?_⟩
          simp only [List.set_cons_succ, List.set_cons_zero]
          refine take_at (i := 10) (d := 209) (oi := ?o30) (v := ?v30) ?hi30 ?hd30 (by kernel_rfl) (by kernel_rfl) (by kernel_rfl) ?hw30 ?hy30 ?hq30 (by assumption) ?r30
          case hi30 => (simp only [List.getElem?_toArray, List.getElem?_cons_succ, List.getElem?_cons_zero]; rfl)
          case hd30 => rfl
          case hw30 => rfl
          case hy30 => ((intro w hSw; (try dsimp only at hSw); go_simp) <;> (with_reducible rfl))
          case hq30 => exact fun _ _ _ h => h
          simp only [List.set_cons_succ, List.set_cons_zero]
          refine take_at (i := 11) (d := 210) (oi := ?o31) (v := ?v31) ?hi31 ?hd31 (by kernel_rfl) (by kernel_rfl) (by kernel_rfl) ?hw31 ?hy31 ?hq31 (by assumption) ?r31
          case hi31 => (simp only [List.getElem?_toArray, List.getElem?_cons_succ, List.getElem?_cons_zero]; rfl)
          case hd31 => rfl
          case hw31 => rfl
          case hy31 => ((intro w hSw; (try dsimp only at hSw); go_simp) <;> (with_reducible rfl))
          case hq31 => exact fun _ _ _ h => h
          simp only [List.set_cons_succ, List.set_cons_zero]
          refine take_at (i := 12) (d := 211) (oi := ?o32) (v := ?v32) ?hi32 ?hd32 (by kernel_rfl) (by kernel_rfl) (by kernel_rfl) ?hw32 ?hy32 ?hq32 (by assumption) ?r32
          case hi32 => (simp only [List.getElem?_toArray, List.getElem?_cons_succ, List.getElem?_cons_zero]; rfl)
          case hd32 => rfl
          case hw32 => rfl
          case hy32 => ((intro w hSw; (try dsimp only at hSw); go_simp) <;> (with_reducible rfl))
          case hq32 => exact fun _ _ _ h => h
          simp only [List.set_cons_succ, List.set_cons_zero]
          refine take_at (i := 13) (d := 212) (oi := ?o33) (v := ?v33) ?hi33 ?hd33 (by kernel_rfl) (by kernel_rfl) (by kernel_rfl) ?hw33 ?hy33 ?hq33 (by assumption) ?r33
          case hi33 => (simp only [List.getElem?_toArray, List.getElem?_cons_succ, List.getElem?_cons_zero]; rfl)
          case hd33 => rfl
          case hw33 => rfl
          case hy33 => ((intro w hSw; (try dsimp only at hSw); obtain ⟨k0, k1, k2⟩ := (X0.out _ hSw).cells; go_simp) <;> (with_reducible rfl))
          case hq33 => exact fun _ _ _ h => h
          simp only [List.set_cons_succ, List.set_cons_zero]
          refine take_at (i := 14) (d := 213) (oi := ?o34) (v := ?v34) ?hi34 ?hd34 (by kernel_rfl) (by kernel_rfl) (by kernel_rfl) ?hw34 ?hy34 ?hq34 (by assumption) ?r34
          case hi34 => (simp only [List.getElem?_toArray, List.getElem?_cons_succ, List.getElem?_cons_zero]; rfl)
          case hd34 => rfl
          case hw34 => rfl
          case hy34 => ((intro w hSw; (try dsimp only at hSw); go_simp) <;> (with_reducible rfl))
          case hq34 => exact fun _ _ _ h => h
          simp only [List.set_cons_succ, List.set_cons_zero]
          refine take_at (i := 15) (d := 214) (oi := ?o35) (v := ?v35) ?hi35 ?hd35 (by kernel_rfl) (by kernel_rfl) (by kernel_rfl) ?hw35 ?hy35 ?hq35 (by assumption) ?r35
          case hi35 => (simp only [List.getElem?_toArray, List.getElem?_cons_succ, List.getElem?_cons_zero]; rfl)
          case hd35 => rfl
          case hw35 => rfl
          case hy35 => ((intro w hSw; (try dsimp only at hSw); go_simp) <;> (with_reducible rfl))
          case hq35 => exact fun _ _ _ h => h
          simp only [List.set_cons_succ, List.set_cons_zero]
          refine take_at (i := 16) (d := 215) (oi := ?o36) (v := ?v36) ?hi36 ?hd36 (by kernel_rfl) (by kernel_rfl) (by kernel_rfl) ?hw36 ?hy36 ?hq36 (by assumption) ?r36
          case hi36 => (simp only [List.getElem?_toArray, List.getElem?_cons_succ, List.getElem?_cons_zero]; rfl)
          case hd36 => rfl
          case hw36 => rfl
          case hy36 => ((intro w hSw; (try dsimp only at hSw); go_simp) <;> (with_reducible rfl))
          case hq36 => exact fun _ _ _ h => h
          simp only [List.set_cons_succ, List.set_cons_zero]
          refine take_at (i := 17) (d := 216) (oi := ?o37) (v := ?v37) ?hi37 ?hd37 (by kernel_rfl) (by kernel_rfl) (by kernel_rfl) ?hw37 ?hy37 ?hq37 (by assumption) ?r37
          case hi37 => (simp only [List.getElem?_toArray, List.getElem?_cons_succ, List.getElem?_cons_zero]; rfl)
          case hd37 => rfl
          case hw37 => rfl
          case hy37 => ((intro w hSw; (try dsimp only at hSw); go_simp) <;> (with_reducible rfl))
          case hq37 => exact fun _ _ _ h => h
          simp only [List.set_cons_succ, List.set_cons_zero]
          refine take_at (i := 18) (d := 217) (oi := ?o38) (v := ?v38) ?hi38 ?hd38 (by kernel_rfl) (by kernel_rfl) (by kernel_rfl) ?hw38 ?hy38 ?hq38 (by assumption) ?r38
          case hi38 => (simp only [List.getElem?_toArray, List.getElem?_cons_succ, List.getElem?_cons_zero]; rfl)
          case hd38 => rfl
          case hw38 => rfl
          case hy38 => ((intro w hSw; (try dsimp only at hSw); go_simp) <;> (with_reducible rfl))
          case hq38 => exact fun _ _ _ h => h
          simp only [List.set_cons_succ, List.set_cons_zero]
          refine take_at (i := 19) (d := 218) (oi := ?o39) (v := ?v39) ?hi39 ?hd39 (by kernel_rfl) (by kernel_rfl) (by kernel_rfl) ?hw39 ?hy39 ?hq39 (by assumption) ?r39
          case hi39 => (simp only [List.getElem?_toArray, List.getElem?_cons_succ, List.getElem?_cons_zero]; rfl)
          case hd39 => rfl
          case hw39 => rfl
          case hy39 => ((intro w hSw; (try dsimp only at hSw); go_simp) <;> (with_reducible rfl))
          case hq39 => exact fun _ _ _ h => h
          simp only [List.set_cons_succ, List.set_cons_zero]
          refine take_at (i := 20) (d := 219) (oi := ?o40) (v := ?v40) ?hi40 ?hd40 (by kernel_rfl) (by kernel_rfl) (by kernel_rfl) ?hw40 ?hy40 ?hq40 (by assumption) ?r40
          case hi40 => (simp only [List.getElem?_toArray, List.getElem?_cons_succ, List.getElem?_cons_zero]; rfl)
          case hd40 => rfl
          case hw40 => rfl
          case hy40 => ((intro w hSw; (try dsimp only at hSw); go_simp) <;> (with_reducible rfl))
          case hq40 => exact fun _ _ _ h => h
          simp only [List.set_cons_succ, List.set_cons_zero]
          refine call_at (i := 21) (d := 220) (oi := ?o41) (f := ?f41) (args := ?a41) ?hi41 ?hd41 (by kernel_rfl) ?hw41 ?he41 ?hc41
          case hi41 => (simp only [List.getElem?_toArray, List.getElem?_cons_succ, List.getElem?_cons_zero]; rfl)
          case hd41 => rfl
          case hw41 => rfl
          case he41 => (go_simp; constructor <;> with_reducible rfl)
          refine (wakes_true _ (HL.out.1.on (HW.out.2.2.1.trans (hHeld.mono HW.out.2.2.1.size)))).mono ?_
          rintro r wv ⟨rfl, hb1⟩
          have kb : Below wb.heap.size wb wv := hHeld.trans (hb1.mono hHeld.size)
          refine ⟨_, rfl, kb, fun hHeld => ?_⟩
          simp only [List.set_cons_succ, List.set_cons_zero]
          refine take_at (i := 22) (d := 221) (oi := ?o42) (v := ?v42) ?hi42 ?hd42 (by kernel_rfl) (by kernel_rfl) (by kernel_rfl) ?hw42 ?hy42 ?hq42 (by assumption) ?r42
          case hi42 => (simp only [List.getElem?_toArray, List.getElem?_cons_succ, List.getElem?_cons_zero]; rfl)
          case hd42 => rfl
          case hw42 => rfl
          case hy42 => ((intro w hSw; (try dsimp only at hSw); go_simp) <;> (with_reducible rfl))
          case hq42 => exact fun _ _ _ h => h
          simp only [List.set_cons_succ, List.set_cons_zero]
          refine take_at (i := 23) (d := 10) (oi := ?o43) (v := ?v43) ?hi43 ?hd43 (by kernel_rfl) (by kernel_rfl) (by kernel_rfl) ?hw43 ?hy43 ?hq43 (by assumption) ?r43
          case hi43 => (simp only [List.getElem?_toArray, List.getElem?_cons_succ, List.getElem?_cons_zero]; rfl)
          case hd43 => rfl
          case hw43 => rfl
          case hy43 => ((intro w hSw; (try dsimp only at hSw); go_simp) <;> (with_reducible rfl))
          case hq43 => exact fun _ _ _ h => h
          simp only [List.set_cons_succ, List.set_cons_zero]
          refine wpAnyH_done (by kernel_rfl) ?_ _
          go_wp2_with fail
          go_ret
          exact ⟨rfl, HW.out.2.2.1.trans (hHeld.mono HW.out.2.2.1.size)⟩

end Go.Proofs.YtlblfpfdebmcgaaDoor
