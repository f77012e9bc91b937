/-
  TwoHarm: it returns true.
-/
import Derived.Test.YtlojkbmoaifkaaaBack8
import Derived.Test.YtlojkbmoaifkaaaHarmP
namespace Go.Proofs.Ytlojkbmoaifkaaa
open Go.RowKit
set_option linter.unusedVariables false
set_option linter.unusedSimpArgs false

theorem chunks_num {α : Type} (l : List α) : (chunks 4 l).length = (l.length + 3) / 4 := by
  refine chunks_ind (k := 4) (by omega) (M := fun l => (chunks 4 l).length = (l.length + 3) / 4) (by simp [chunks_nil]) (fun l hl ih => ?_) l
  rw [chunks_cons hl (by omega), List.length_cons, ih, List.length_drop]
  have : 0 < l.length := List.length_pos_iff.2 hl
  omega
/-- What the law's loop has found so far. -/
def HarmI (f : Int) (l : List EnP) (p ah st K : Nat) : Prop :=
  ∃ a i, ah = 4 * a ∧ st = posOf f (chunks 4 l) a ∧ K = 4 * (i + 1) ∧ a ≤ i ∧ i < (chunks 4 l).length ∧ st ≤ p ∧ (a < i → p < posOf f (chunks 4 l) (a + 1))
theorem HarmI.start {f : Int} {l : List EnP} {p h n : Nat} (hn : l.length = n) (h0 : n ≠ 0) (hh : (headL f).length = h) (hp : h ≤ p) : HarmI f l p 0 h 4 := by
  have h1 := chunks_num l
  exact ⟨0, 0, rfl, by rw [posOf_zero, hh], rfl, Nat.le_refl _, by omega, hp, fun h => absurd h (by omega)⟩
theorem HarmI.file {f : Int} {l : List EnP} {p ah st K n : Nat} (h : HarmI f l p ah st K) (hn : l.length = n) (hK : K < n) (hf : Num f) (ha : allR l = true) :
    ∃ F m, fileP f (l.take K) = (F, 0) ∧ F.length = m ∧ (m ≤ p → HarmI f l p K m (K + 4)) ∧ (¬ m ≤ p → HarmI f l p ah st (K + 4)) := by
  obtain ⟨a, i, rfl, rfl, rfl, h1, h2, h3, h4⟩ := h
  have hc := chunks_num l
  obtain ⟨t1, t2⟩ := chunks_take (k := 4) (by omega) l (i + 1) (by omega)
  refine ⟨_, _, fileP_yes hf (allR_take ha _), rfl, fun hm => ?_, fun hm => ?_⟩
  · have e : (headL f ++ blksL (headE f) (chunks 4 (l.take (4 * (i + 1))))).length = posOf f (chunks 4 l) (i + 1) := by
      rw [Nat.mul_comm, t2]; rfl
    rw [e] at hm ⊢
    exact ⟨i + 1, i + 1, rfl, rfl, by omega, Nat.le_refl _, by omega, hm, fun h => absurd h (by omega)⟩
  · have e : (headL f ++ blksL (headE f) (chunks 4 (l.take (4 * (i + 1))))).length = posOf f (chunks 4 l) (i + 1) := by
      rw [Nat.mul_comm, t2]; rfl
    rw [e] at hm
    refine ⟨a, i + 1, rfl, rfl, by omega, by omega, by omega, h3, fun _ => ?_⟩
    by_cases hai : a < i
    · exact h4 hai
    · obtain rfl : a = i := by omega
      omega
theorem HarmI.fin {f : Int} {l : List EnP} {p ah st K n q : Nat} (h : HarmI f l p ah st K) (hn : l.length = n) (hK : ¬ K < n) (hf : Num f) (ha : allR l = true) {B : List Int} (hB : B = headL f ++ blksL (headE f) (chunks 4 l)) (hq : B.length = q) (hp : p < q) (hps : ¬ p = st)
    {x : Int} (hx : 0 ≤ x ∧ x ≤ 255) (hne : x ≠ B[p]?.getD 0) (hlow : low x = low (B[p]?.getD 0)) :
    ∃ ds r, ScanIs (B.set p x) f ds r ∧ ds.flatten = l.take ah ∧ (l.take ah).length = ah ∧ ah ≤ n ∧ (headL f ++ blksL (headE f) ds).length = st := by
  obtain ⟨a, i, rfl, rfl, rfl, h1, h2, h3, h4⟩ := h
  have hc := chunks_num l
  have hal : a < (chunks 4 l).length := by omega
  have hp2 : p < posOf f (chunks 4 l) (a + 1) := by
    by_cases hai : a < i
    · exact h4 hai
    · rw [posOf_all (by omega), ← hB, hq]; exact hp
  obtain ⟨r, hr⟩ := harm_scan hf (chunks_good ha) hal (by omega) hp2 hB hx hne hlow
  obtain ⟨t1, t2⟩ := chunks_take (k := 4) (by omega) l a (by omega)
  refine ⟨_, r, hr, by rw [t1, Nat.mul_comm], by rw [List.length_take]; omega, by omega, rfl⟩
theorem own_some {w : World} {base size n : Nat} {e : TypeId} {v : Value} {xs : List Value} (h : w.ownsRow base e size v n xs) (hn : 0 < n) : ∃ g cap, v = .slice (some ⟨g, 0, none⟩) n cap := by
  rcases h.2 with ⟨_, h0⟩ | ⟨g, cap, cur, rfl, _⟩
  · omega
  · exact ⟨g, cap, rfl⟩
theorem byt_getD {F : List Int} (h : Byt F) (p : Nat) : 0 ≤ F[p]?.getD 0 ∧ F[p]?.getD 0 ≤ 255 := by
  cases hp : F[p]? with
  | none => simp
  | some x => exact h x (List.mem_of_getElem? hp)
theorem byt_set {F : List Int} (h : Byt F) (p : Nat) {x : Int} (hx : 0 ≤ x ∧ x ≤ 255) : Byt (F.set p x) := fun y hy => by
  rcases List.mem_or_eq_of_mem_set hy with h1 | rfl
  · exact h y h1
  · exact hx
theorem place_two {n : Nat} (hn : n ≤ 100000) (h : 0 < n) (a : Int) : ∃ (q : Int) (k : Nat), Int.tmod a (n : Int) = q ∧ wrap64 (q + (n : Int)) = q + (n : Int) ∧ Int.tmod (q + (n : Int)) (n : Int) = (k : Int) ∧ (q + (n : Int)) % (n : Int) = (k : Int) ∧ k < n := by
  have h0 : (0 : Int) < (n : Int) := by omega
  have h1 := Int.lt_tmod_of_pos a h0
  have h1' := Int.tmod_lt_of_pos a h0
  have h2 := Int.tmod_nonneg (n : Int) (show 0 ≤ Int.tmod a (n : Int) + (n : Int) by omega)
  have h3 := Int.tmod_lt_of_pos (Int.tmod a (n : Int) + (n : Int)) h0
  have h4 : Int.tmod (Int.tmod a (n : Int) + (n : Int)) (n : Int) = (Int.tmod a (n : Int) + (n : Int)) % (n : Int) := Int.tmod_eq_emod_of_nonneg (by omega)
  exact ⟨_, (Int.tmod (Int.tmod a (n : Int) + (n : Int)) (n : Int)).toNat, rfl, by unfold wrap64; omega, by omega, by omega, by omega⟩

set_option maxRecDepth 100000 in
set_option maxHeartbeats 8000000 in
theorem harm_law (first : Int) (A : Option Addr) (n c : Nat) (l : List EnP) (at0 y : Int) (w : World) (hl : Es w w.heap.size A n l) (hnc : n ≤ c) (hy : 0 ≤ y ∧ y ≤ 255) :
    Calls Try.prog 6 #[.int .i64 first, .slice A n c, .int .i64 at0, .int .u8 y] w fun e w' => e = .returned (.bool true) ∧ Below w.heap.size w w' := by
  obtain ⟨i0, hi, hz0, hz1, hz2⟩ := info_parts Ga.info_u8
  obtain ⟨j0, hj, hy0, hy1, hy2⟩ := info_partsV info_entry
  have B0 := Below.refl w.heap.size w
  have HL := Lib.hid (⟨hl.len, hl⟩ : _ ∧ _)
  by_cases hc0 : first < (1 : Int)
  · have t0 : decide (first < (1 : Int)) = true := by simp; omega
    go_enter Try.func6, Try.ntmps6
    go_wp2_with fail
    refine (wakes_true w).mono ?_
    rintro e w1 ⟨rfl, hb1⟩
    go_wp2_with fail
    go_ret
    exact ⟨rfl, hb1⟩
  have t0 : decide (first < (1 : Int)) = false := by simp; omega
  have t0n : (1 : Int) ≤ first := by omega
  clear hc0
  by_cases hc0 : (1073741824 : Int) < first
  · have t1 : decide ((1073741824 : Int) < first) = true := by simp; omega
    go_enter Try.func6, Try.ntmps6
    go_wp2_with fail
    refine (wakes_true w).mono ?_
    rintro e w1 ⟨rfl, hb1⟩
    go_wp2_with fail
    go_ret
    exact ⟨rfl, hb1⟩
  have t1 : decide ((1073741824 : Int) < first) = false := by simp; omega
  have t1n : first ≤ (1073741824 : Int) := by omega
  clear hc0
  by_cases hc0 : n = 0
  · have t3 : ((n : Int) == 0) = true := by simp; omega
    go_enter Try.func6, Try.ntmps6
    go_wp2_with fail
    refine (wakes_true w).mono ?_
    rintro e w1 ⟨rfl, hb1⟩
    go_wp2_with fail
    go_ret
    exact ⟨rfl, hb1⟩
  have t3 : ((n : Int) == 0) = false := by simp; omega
  have t3n : ¬ ((n : Int) = 0) := by omega
  clear hc0
  by_cases hc0 : 20 < n
  · have t2 : decide ((20 : Int) < (n : Int)) = true := by simp; omega
    go_enter Try.func6, Try.ntmps6
    go_wp2_with fail
    refine (wakes_true w).mono ?_
    rintro e w1 ⟨rfl, hb1⟩
    go_wp2_with fail
    go_ret
    exact ⟨rfl, hb1⟩
  have t2 : decide ((20 : Int) < (n : Int)) = false := by simp; omega
  have t2n : n ≤ 20 := by omega
  clear hc0
  by_cases hc0 : y = 0
  · have t5 : (y == 0) = true := by simp; omega
    go_enter Try.func6, Try.ntmps6
    go_wp2_with fail
    refine (wakes_true w).mono ?_
    rintro e w1 ⟨rfl, hb1⟩
    go_wp2_with fail
    go_ret
    exact ⟨rfl, hb1⟩
  have t5 : (y == 0) = false := by simp; omega
  have t5n : ¬ (y = 0) := by omega
  clear hc0
  by_cases hc0 : (127 : Int) < y
  · have t6 : decide ((127 : Int) < y) = true := by simp; omega
    go_enter Try.func6, Try.ntmps6
    go_wp2_with fail
    refine (wakes_true w).mono ?_
    rintro e w1 ⟨rfl, hb1⟩
    go_wp2_with fail
    go_ret
    exact ⟨rfl, hb1⟩
  have t6 : decide ((127 : Int) < y) = false := by simp; omega
  have t6n : y ≤ (127 : Int) := by omega
  clear hc0
  have hf : Num first := ⟨t0n, t1n⟩
  have Hf := Lib.hid (⟨hf, (show 1 ≤ y ∧ y ≤ 127 by omega)⟩ : _ ∧ _)
  clear hf
  go_enter Try.func6, Try.ntmps6
  have Hes := Lib.hid (⟨hl, hl.len⟩ : _ ∧ _)
  clear hl
  go_wp2_with fail
  go_loopw [9] (fun i wr => ∃ k : Nat, k ≤ n ∧ i = .int .i64 k ∧ allR ((l).take k) = true ∧ Below w.heap.size w wr) (fun i _ => (n) - (intOf i).toNat)
  case atStart => exact ⟨0, Nat.zero_le _, rfl, rfl, Below.refl _ _⟩
  obtain ⟨k, hk, rfl, hak, hB⟩ := hrel
  have HB := Lib.hid (⟨hB, hak⟩ : _ ∧ _)
  by_cases hlt : k < n
  · obtain ⟨b, off, e, hAe, hbl, he, c0, c1, c2⟩ := (Hes.out.1.on hB hB.size).at_ hlt
    subst hAe
    have HE := Lib.hid he
    clear hB hak he
    cases hre : rightB e
    · go_wp2_with fail
      refine (rright_any e _).mono ?_
      rintro r w1 ⟨rfl, hb1⟩
      rw [hre]
      have H1 := Lib.hid (B0.trans ((HB.out.1.trans (hb1.mono HB.out.1.size)).mono B0.size))
      clear hb1 c0 c1 c2 hre
      go_wp2_with fail
      refine (wakes_true w1).mono ?_
      rintro e w2 ⟨rfl, hb2⟩
      go_wp2_with fail
      go_ret
      exact ⟨rfl, H1.out.trans (hb2.mono H1.out.size)⟩
    · have Hr := Lib.hid hre
      go_wp2_with fail
      refine (rright_any e _).mono ?_
      rintro r w1 ⟨rfl, hb1⟩
      rw [hre]
      have H1 := Lib.hid (HB.out.1.trans (hb1.mono HB.out.1.size))
      clear hb1 c0 c1 c2 hre
      go_wp2_with fail
      go_roundw
      case rel => exact ⟨k + 1, by omega, by go_num, by rw [take_succ HE.out, allR_append, HB.out.2]; simp [allR, Hr.out], H1.out⟩
      case measure => simp [intOf]; omega
  obtain rfl : n = k := by omega
  have ha : allR (l) = true := by have h := HB.out.2; rwa [List.take_of_length_le (by rw [Hes.out.2]; exact Nat.le_refl _)] at h
  replace Hes := Hes.out.1
  have bb := HB.out.1
  clear hlt hk hak hB HB
  replace Hes := Hes.on bb bb.size
  have B1 := B0.trans (bb.mono B0.size)
  clear bb B0
  obtain ⟨B, hB⟩ : ∃ B, B = headL first ++ blksL (headE first) (chunks 4 l) := ⟨_, rfl⟩
  obtain ⟨q, hq⟩ : ∃ q, B.length = q := ⟨_, rfl⟩
  obtain ⟨h, hh⟩ : ∃ h, (headL first).length = h := ⟨_, rfl⟩
  have hh2 := head_length Hf.out.1
  rw [hh] at hh2
  have hqb : h < q ∧ q ≤ 10000 := by
    have h1 := blks_le (p := headE first) (chunks_good ha)
    have h2 := blks_ge (p := headE first) (chunks_good ha)
    have h3 := chunks_num l
    rw [HL.out.1] at h3
    rw [← hq, hB, List.length_append, hh]
    omega
  obtain ⟨N, hN⟩ : ∃ N, N = q - h := ⟨_, rfl⟩
  have hPB := file_byt Hf.out.1 (chunks_good ha)
  rw [← hB] at hPB
  have hfile := fileP_yes Hf.out.1 ha
  rw [← hB] at hfile
  have hNe : (N : Int) = (q : Int) - (h : Int) := by omega
  have hleq : decide ((q : Int) ≤ (h : Int)) = false := by simp; omega
  have hleq' : ¬ (q ≤ h) := by omega
  have hNn : ((N : Int) == 0) = false := by simp; omega
  have hNn' : ¬ ((N : Int) = 0) := by omega
  have hnz : n ≠ 0 := by omega
  have hN0 : N ≤ 100000 ∧ 0 < N := by omega
  have hadd0 : ∀ k2 : Nat, k2 < N → ∃ p : Nat, wrap64 ((h : Int) + (k2 : Int)) = (p : Int) ∧ IntKind.i64.wrap ((h : Int) + (k2 : Int)) = (p : Int) ∧ h ≤ p ∧ p < q := fun k2 hk => ⟨h + k2, by unfold wrap64; omega, by rw [IntKind.wrap_i64] <;> omega, by omega, by omega⟩
  obtain ⟨qq, k2, hq0, hq1, hq2, hq3, hk2⟩ := place_two (n := N) hN0.1 hN0.2 at0
  obtain ⟨p, hadd, haddK, hph, hpq⟩ := hadd0 k2 hk2
  rw [hNe] at hq0 hq1 hq2 hq3 hNn hNn'
  have hst : HarmI first l p 0 h 4 := HarmI.start HL.out.1 hnz hh hph
  have HP := Lib.hid (⟨hB, hq, hh, hPB, hfile, ha, hst⟩ : _ ∧ _ ∧ _ ∧ _ ∧ _ ∧ _ ∧ _)
  have hn0 : n ≤ 20 := t2n
  have Hnn := Lib.hid (⟨hnc, t2n⟩ : _ ∧ _)
  clear hB hq hh hPB hfile ha hst t0 t1 t2 t3 t3n t5 t5n t6 t6n t0n t1n t2n hk2 hN hadd0 hph hnz hN0 hNe
  go_wp2_with fail
  refine (file_any first A n c l wr Hes hnc (Nat.le_trans Hnn.out.2 (by decide))).mono ?_
  intro e w2 hh
  obtain ⟨A5, c5, rfl, hc5, r5, -, bb⟩ := hh.out HP.out.2.2.2.2.1 HP.out.2.1
  clear hh
  replace Hes := Hes.on bb bb.size
  have B2 := B1.trans (bb.mono B1.size)
  clear bb B1
  go_wp2_with fail
  refine (head_any first w2).mono ?_
  intro e w3 hh
  obtain ⟨A6, c6, rfl, hc6, r6, -, bb⟩ := hh.out (headP_yes Hf.out.1) HP.out.2.2.1
  clear hh
  replace Hes := Hes.on bb bb.size
  replace r5 := r5.on bb bb.size
  have B3 := B2.trans (bb.mono B2.size)
  clear bb B2
  clear r6
  go_wp2_with fail
  have HW := Lib.hid (⟨Hes, r5, B3⟩ : _ ∧ _ ∧ _)
  clear Hes r5 B3 hadd haddK hleq hleq' hNn hNn' hq0 hq1 hq2 hq3
  go_loopw [15, 16, 17] (fun u15 u16 u17 wr => ∃ ah st K : Nat, u15 = .int .i64 ah ∧ u16 = .int .i64 st ∧ u17 = .int .i64 K ∧ HarmI first l p ah st K ∧ Below w3.heap.size w3 wr) (fun _ _ u17 _ => (n + 8) - (intOf u17).toNat)
  case atStart => exact ⟨0, h, 4, rfl, rfl, rfl, HP.out.2.2.2.2.2.2, Below.refl _ _⟩
  obtain ⟨ah, st, K, rfl, rfl, rfl, hI, hB⟩ := hrel
  have HI := Lib.hid (⟨hI, hB⟩ : _ ∧ _)
  clear hI hB
  by_cases hK : K < n
  · obtain ⟨F, m, hF, hFm, hyes, hno⟩ := HI.out.1.file HL.out.1 hK Hf.out.1 HP.out.2.2.2.2.2.1
    have HF := Lib.hid (⟨hF, hFm, hyes, hno⟩ : _ ∧ _ ∧ _ ∧ _)
    have hcutE := cut_firstE Try.underlying23 hj A n c K (by omega)
    clear hF hFm hyes hno
    go_wp2_with fail
    have Bx := HW.out.2.2.trans (HI.out.2.mono HW.out.2.2.size)
    refine (file_any first A K c (l.take K) wr ((Row.first HL.out.2 (by omega)).on Bx Bx.size) (by omega) (by omega)).mono ?_
    intro e wz hh
    obtain ⟨Az, cz, rfl, hcz, rz, -, bz⟩ := hh.out HF.out.1 HF.out.2.1
    have HZ := Lib.hid (HI.out.2.trans (bz.mono HI.out.2.size))
    clear hh bz rz Bx hcutE
    by_cases hmp : m ≤ p
    · have v1 : decide ((m : Int) ≤ (p : Int)) = true := by simp; omega
      go_wp2_with fail
      go_roundw
      case rel => exact ⟨K, m, K + 4, rfl, rfl, by go_num, HF.out.2.2.1 hmp, HZ.out⟩
      case measure => simp [intOf]; omega
    · have v1 : decide ((m : Int) ≤ (p : Int)) = false := by simp; omega
      go_wp2_with fail
      go_roundw
      case rel => exact ⟨ah, st, K + 4, rfl, rfl, by go_num, HF.out.2.2.2 hmp, HZ.out⟩
      case measure => simp [intOf]; omega
  have B20 := HW.out.2.2.trans (HI.out.2.mono HW.out.2.2.size)
  have r5 := HW.out.2.1.on HI.out.2 HI.out.2.size
  by_cases hps : p = st
  · have v1 : ((p : Int) == (st : Int)) = true := by simp; omega
    subst hps
    go_wp2_with fail
    refine (wakes_true wr).mono ?_
    rintro e wg ⟨rfl, bg⟩
    go_wp2_with fail
    go_ret
    exact ⟨rfl, B20.trans (bg.mono B20.size)⟩
  have v1 : ((p : Int) == (st : Int)) = false := by simp; omega
  have v1' : ¬ ((p : Int) = (st : Int)) := by omega
  have v1'' : ¬ (p = st) := hps
  go_wp2_with (at_builtin; refine hold ?_)
  refine unhold (wpList_append (.tmp 129) (.tmp 130) 24 Try.underlying24 hi hz0 hz1 hz2 Nu.byte_cells (by decide) (own_empty wr wr.heap.size 5 1 (Nat.le_refl _)) ((Source.rd r5).alloc _) (by unfold maxLen; omega) (by omega) (by simp) rfl rfl rfl rfl ?_)
  intro va w8 La
  obtain ⟨A8, c8, rfl, hc8, own8, b8, n8⟩ := La.made
  clear La r5
  obtain ⟨g, cap8, he8⟩ := own_some own8 (Nat.lt_of_le_of_lt (Nat.zero_le _) hpq)
  cases he8
  have hg := n8 g rfl
  obtain ⟨x, hx⟩ : ∃ x, B[p]?.getD 0 = x := ⟨_, rfl⟩
  have hcd : w8.cell? ⟨g, p, none⟩ = some (.int .u8 x) := by
    have hFl := HP.out.2.1
    rw [own8.cellAt p (by rw [Nat.mul_one]; exact hpq), List.getElem?_map, ← hx, List.getElem?_eq_getElem (by rw [hFl]; exact hpq)]
    rfl
  obtain ⟨own9, hg9⟩ := own8.stored p (.int .u8 (bits .xor .u8 x y))
  rw [← List.map_set] at own9
  have hfj := own8.frozenAt p
  have hxb : 0 ≤ x ∧ x ≤ 255 := by rw [← hx]; exact byt_getD HP.out.2.2.2.1 p
  obtain ⟨hx1, hx2, hx3⟩ := xor_turn hxb Hf.out.2
  have hfin := HI.out.1.fin HL.out.1 hK Hf.out.1 HP.out.2.2.2.2.2.1 HP.out.1 HP.out.2.1 hpq hps hx1 (by rw [hx]; exact hx2) (by rw [hx]; exact hx3)
  obtain ⟨ds, r9, hs9, hfl9, hln9, hahn, hu9⟩ := hfin
  have hb9 := byt_set HP.out.2.2.2.1 p hx1
  have B9 : Below w.heap.size w (w8.setCell ⟨g, p, none⟩ (.int .u8 (bits .xor .u8 x y))) := (B20.trans (b8.mono B20.size)).setCell (Nat.le_trans B20.size hg) _
  obtain ⟨w9, hw9⟩ : ∃ w9, w9 = w8.setCell ⟨g, p, none⟩ (.int .u8 (bits .xor .u8 x y)) := ⟨_, rfl⟩
  obtain ⟨F9, hF9⟩ : ∃ F9, F9 = B.set p (bits .xor .u8 x y) := ⟨_, rfl⟩
  rw [← hF9] at hs9 hb9 own9
  rw [← hw9] at B9 own9
  have rd9 := Rd.of_own own9
  have H9 := Lib.hid (⟨hw9, rd9, hs9, hb9, B9, hfl9, hln9, hu9⟩ : _ ∧ _ ∧ _ ∧ _ ∧ _ ∧ _ ∧ _ ∧ _)
  clear own8 own9 hg9 hg hx hs9 hb9 B9 hw9 hF9 rd9 hfl9 hln9 hu9 n8 b8 hx1 hx2 hx3 hxb B20 hK
  go_wp2_with fail
  rw [← H9.out.1]
  clear hcd hfj
  refine (Scan_any (some ⟨g, 0, none⟩) q c8 F9 w9 H9.out.2.1 H9.out.2.2.2.1 hc8 (by omega)).mono ?_
  intro e w30 hh
  obtain ⟨Aa, ca, rfl, hca, sa, bb⟩ := hh.yes H9.out.2.2.1 (q := ah) (by rw [H9.out.2.2.2.2.2.1]; exact H9.out.2.2.2.2.2.2.1) H9.out.2.2.2.2.2.2.2
  clear hh
  have B30 := H9.out.2.2.2.2.1.trans (bb.mono H9.out.2.2.2.2.1.size)
  clear bb
  rw [H9.out.2.2.2.2.2.1] at sa
  obtain ⟨w31, hw31⟩ : ∃ x, x = w30.alloc (.cells #[.int .i64 first, .slice Aa ah ca, .int .i64 (st : Int)] 36) := ⟨_, rfl⟩
  obtain ⟨zb, hzb⟩ : ∃ x, x = w30.heap.size := ⟨_, rfl⟩
  have bb : Below w30.heap.size w30 w31 := by rw [hw31]; exact (Below.refl _ _).alloc (Nat.le_refl _) _
  have zbb : BoxC w31 zb first (.slice Aa ah ca) (st : Int) := by rw [hw31, hzb]; exact BoxC.new _ _ _ _
  have szb : zb + 1 = w31.heap.size := by rw [hw31, hzb]; simp
  go_wp2_with fail
  rw [← hw31, ← hzb]
  clear hw31 hzb
  replace sa := sa.on bb bb.size
  have B31 := B30.trans (bb.mono B30.size)
  clear bb B30
  have hcutF := cut_firstE Try.underlying23 hj A n c ah (Nat.le_trans hahn hnc)
  have X0 := Lib.hid (show ∀ W, Below w31.heap.size w31 W → BoxC W zb first (.slice Aa ah ca) (st : Int) from fun W hW => zbb.below hW)
  have HX := Lib.hid (⟨sa, (Row.first HL.out.2 hahn).on B31 B31.size, B31⟩ : _ ∧ _ ∧ _)
  have hah9 : ah ≤ 1000000000 := by omega
  clear sa B31 zbb szb v1 v1' v1'' hps
  refine wp_region_held_drew (S := (fun W => Below w31.heap.size w31 W)) (by kernel_rfl) (below_dr (below_d0 _)) (fun hHeld => ?_)
  refine take_at (i := 0) (d := 146) (oi := ?o1) (v := ?v1) ?hi1 ?hd1 (by kernel_rfl) (by kernel_rfl) (by kernel_rfl) ?hw1 ?hy1 ?hq1 (by assumption) ?r1
  case hi1 => (simp only [List.getElem?_toArray, List.getElem?_cons_zero]; rfl)
  case hd1 => rfl
  case hw1 => rfl
  case hy1 => ((intro w hSw; (try dsimp only at hSw); go_simp) <;> (with_reducible rfl))
  case hq1 => exact fun _ _ _ h => h
  simp only [List.set_cons_succ, List.set_cons_zero]
  refine take_at (i := 1) (d := 147) (oi := ?o2) (v := ?v2) ?hi2 ?hd2 (by kernel_rfl) (by kernel_rfl) (by kernel_rfl) ?hw2 ?hy2 ?hq2 (by assumption) ?r2
  case hi2 => (simp only [List.getElem?_toArray, List.getElem?_cons_succ, List.getElem?_cons_zero]; rfl)
  case hd2 => rfl
  case hw2 => rfl
  case hy2 => ((intro w hSw; (try dsimp only at hSw); go_simp) <;> (with_reducible rfl))
  case hq2 => exact fun _ _ _ h => h
  simp only [List.set_cons_succ, List.set_cons_zero]
  refine take_at (i := 2) (d := 148) (oi := ?o3) (v := ?v3) ?hi3 ?hd3 (by kernel_rfl) (by kernel_rfl) (by kernel_rfl) ?hw3 ?hy3 ?hq3 (by assumption) ?r3
  case hi3 => (simp only [List.getElem?_toArray, List.getElem?_cons_succ, List.getElem?_cons_zero]; rfl)
  case hd3 => rfl
  case hw3 => rfl
  case hy3 => ((intro w hSw; (try dsimp only at hSw); go_simp) <;> (with_reducible rfl))
  case hq3 => exact fun _ _ _ h => h
  simp only [List.set_cons_succ, List.set_cons_zero]
  refine take_at (i := 3) (d := 149) (oi := ?o4) (v := ?v4) ?hi4 ?hd4 (by kernel_rfl) (by kernel_rfl) (by kernel_rfl) ?hw4 ?hy4 ?hq4 (by assumption) ?r4
  case hi4 => (simp only [List.getElem?_toArray, List.getElem?_cons_succ, List.getElem?_cons_zero]; rfl)
  case hd4 => rfl
  case hw4 => rfl
  case hy4 => ((intro w hSw; (try dsimp only at hSw); go_simp) <;> (with_reducible rfl))
  case hq4 => exact fun _ _ _ h => h
  simp only [List.set_cons_succ, List.set_cons_zero]
  refine take_at (i := 4) (d := 150) (oi := ?o5) (v := ?v5) ?hi5 ?hd5 (by kernel_rfl) (by kernel_rfl) (by kernel_rfl) ?hw5 ?hy5 ?hq5 (by assumption) ?r5
  case hi5 => (simp only [List.getElem?_toArray, List.getElem?_cons_succ, List.getElem?_cons_zero]; rfl)
  case hd5 => rfl
  case hw5 => rfl
  case hy5 => ((intro w hSw; (try dsimp only at hSw); obtain ⟨k0, k1, k2⟩ := (X0.out _ hSw).cells; go_simp) <;> (with_reducible rfl))
  case hq5 => exact fun _ _ _ h => h
  simp only [List.set_cons_succ, List.set_cons_zero]
  refine take_at (i := 5) (d := 151) (oi := ?o6) (v := ?v6) ?hi6 ?hd6 (by kernel_rfl) (by kernel_rfl) (by kernel_rfl) ?hw6 ?hy6 ?hq6 (by assumption) ?r6
  case hi6 => (simp only [List.getElem?_toArray, List.getElem?_cons_succ, List.getElem?_cons_zero]; rfl)
  case hd6 => rfl
  case hw6 => rfl
  case hy6 => ((intro w hSw; (try dsimp only at hSw); go_simp) <;> (with_reducible rfl))
  case hq6 => exact fun _ _ _ h => h
  simp only [List.set_cons_succ, List.set_cons_zero]
  refine take_at (i := 6) (d := 152) (oi := ?o7) (v := ?v7) ?hi7 ?hd7 (by kernel_rfl) (by kernel_rfl) (by kernel_rfl) ?hw7 ?hy7 ?hq7 (by assumption) ?r7
  case hi7 => (simp only [List.getElem?_toArray, List.getElem?_cons_succ, List.getElem?_cons_zero]; rfl)
  case hd7 => rfl
  case hw7 => rfl
  case hy7 => ((intro w hSw; (try dsimp only at hSw); go_simp) <;> (with_reducible rfl))
  case hq7 => exact fun _ _ _ h => h
  simp only [List.set_cons_succ, List.set_cons_zero]
  refine take_at (i := 7) (d := 153) (oi := ?o8) (v := ?v8) ?hi8 ?hd8 (by kernel_rfl) (by kernel_rfl) (by kernel_rfl) ?hw8 ?hy8 ?hq8 (by assumption) ?r8
  case hi8 => (simp only [List.getElem?_toArray, List.getElem?_cons_succ, List.getElem?_cons_zero]; rfl)
  case hd8 => rfl
  case hw8 => rfl
  case hy8 => ((intro w hSw; (try dsimp only at hSw); go_simp) <;> (with_reducible rfl))
  case hq8 => exact fun _ _ _ h => h
  simp only [List.set_cons_succ, List.set_cons_zero]
  refine take_at (i := 8) (d := 154) (oi := ?o9) (v := ?v9) ?hi9 ?hd9 (by kernel_rfl) (by kernel_rfl) (by kernel_rfl) ?hw9 ?hy9 ?hq9 (by assumption) ?r9
  case hi9 => (simp only [List.getElem?_toArray, List.getElem?_cons_succ, List.getElem?_cons_zero]; rfl)
  case hd9 => rfl
  case hw9 => rfl
  case hy9 => ((intro w hSw; (try dsimp only at hSw); go_simp) <;> (with_reducible rfl))
  case hq9 => exact fun _ _ _ h => h
  simp only [List.set_cons_succ, List.set_cons_zero]
  refine take_at (i := 9) (d := 155) (oi := ?o10) (v := ?v10) ?hi10 ?hd10 (by kernel_rfl) (by kernel_rfl) (by kernel_rfl) ?hw10 ?hy10 ?hq10 (by assumption) ?r10
  case hi10 => (simp only [List.getElem?_toArray, List.getElem?_cons_succ, List.getElem?_cons_zero]; rfl)
  case hd10 => rfl
  case hw10 => rfl
  case hy10 => ((intro w hSw; (try dsimp only at hSw); go_simp) <;> (with_reducible rfl))
  case hq10 => exact fun _ _ _ h => h
  simp only [List.set_cons_succ, List.set_cons_zero]
  refine take_at (i := 10) (d := 156) (oi := ?o11) (v := ?v11) ?hi11 ?hd11 (by kernel_rfl) (by kernel_rfl) (by kernel_rfl) ?hw11 ?hy11 ?hq11 (by assumption) ?r11
  case hi11 => (simp only [List.getElem?_toArray, List.getElem?_cons_succ, List.getElem?_cons_zero]; rfl)
  case hd11 => rfl
  case hw11 => rfl
  case hy11 => ((intro w hSw; (try dsimp only at hSw); obtain ⟨k0, k1, k2⟩ := (X0.out _ hSw).cells; go_simp) <;> (with_reducible rfl))
  case hq11 => exact fun _ _ _ h => h
  simp only [List.set_cons_succ, List.set_cons_zero]
  refine take_at (i := 11) (d := 157) (oi := ?o12) (v := ?v12) ?hi12 ?hd12 (by kernel_rfl) (by kernel_rfl) (by kernel_rfl) ?hw12 ?hy12 ?hq12 (by assumption) ?r12
  case hi12 => (simp only [List.getElem?_toArray, List.getElem?_cons_succ, List.getElem?_cons_zero]; rfl)
  case hd12 => rfl
  case hw12 => rfl
  case hy12 => ((intro w hSw; (try dsimp only at hSw); go_simp) <;> (with_reducible rfl))
  case hq12 => exact fun _ _ _ h => h
  simp only [List.set_cons_succ, List.set_cons_zero]
  refine take_at (i := 12) (d := 158) (oi := ?o13) (v := ?v13) ?hi13 ?hd13 (by kernel_rfl) (by kernel_rfl) (by kernel_rfl) ?hw13 ?hy13 ?hq13 (by assumption) ?r13
  case hi13 => (simp only [List.getElem?_toArray, List.getElem?_cons_succ, List.getElem?_cons_zero]; rfl)
  case hd13 => rfl
  case hw13 => rfl
  case hy13 => ((intro w hSw; (try dsimp only at hSw); go_simp) <;> (with_reducible rfl))
  case hq13 => exact fun _ _ _ h => h
  simp only [List.set_cons_succ, List.set_cons_zero]
  refine take_at (i := 13) (d := 159) (oi := ?o14) (v := ?v14) ?hi14 ?hd14 (by kernel_rfl) (by kernel_rfl) (by kernel_rfl) ?hw14 ?hy14 ?hq14 (by assumption) ?r14
  case hi14 => (simp only [List.getElem?_toArray, List.getElem?_cons_succ, List.getElem?_cons_zero]; rfl)
  case hd14 => rfl
  case hw14 => rfl
  case hy14 => ((intro w hSw; (try dsimp only at hSw); go_simp) <;> (with_reducible rfl))
  case hq14 => exact fun _ _ _ h => h
  simp only [List.set_cons_succ, List.set_cons_zero]
  refine take_at (i := 14) (d := 160) (oi := ?o15) (v := ?v15) ?hi15 ?hd15 (by kernel_rfl) (by kernel_rfl) (by kernel_rfl) ?hw15 ?hy15 ?hq15 (by assumption) ?r15
  case hi15 => (simp only [List.getElem?_toArray, List.getElem?_cons_succ, List.getElem?_cons_zero]; rfl)
  case hd15 => rfl
  case hw15 => rfl
  case hy15 => ((intro w hSw; (try dsimp only at hSw); go_simp) <;> (with_reducible rfl))
  case hq15 => exact fun _ _ _ h => h
  simp only [List.set_cons_succ, List.set_cons_zero]
  refine take_at (i := 15) (d := 161) (oi := ?o16) (v := ?v16) ?hi16 ?hd16 (by kernel_rfl) (by kernel_rfl) (by kernel_rfl) ?hw16 ?hy16 ?hq16 (by assumption) ?r16
  case hi16 => (simp only [List.getElem?_toArray, List.getElem?_cons_succ, List.getElem?_cons_zero]; rfl)
  case hd16 => rfl
  case hw16 => rfl
  case hy16 => ((intro w hSw; (try dsimp only at hSw); go_simp) <;> (with_reducible rfl))
  case hq16 => exact fun _ _ _ h => h
  simp only [List.set_cons_succ, List.set_cons_zero]
  refine take_at (i := 16) (d := 162) (oi := ?o17) (v := ?v17) ?hi17 ?hd17 (by kernel_rfl) (by kernel_rfl) (by kernel_rfl) ?hw17 ?hy17 ?hq17 (by assumption) ?r17
  case hi17 => (simp only [List.getElem?_toArray, List.getElem?_cons_succ, List.getElem?_cons_zero]; rfl)
  case hd17 => rfl
  case hw17 => rfl
  case hy17 => ((intro w hSw; (try dsimp only at hSw); obtain ⟨k0, k1, k2⟩ := (X0.out _ hSw).cells; go_simp) <;> (with_reducible rfl))
  case hq17 => exact fun _ _ _ h => h
  simp only [List.set_cons_succ, List.set_cons_zero]
  refine take_at (i := 17) (d := 163) (oi := ?o18) (v := ?v18) ?hi18 ?hd18 (by kernel_rfl) (by kernel_rfl) (by kernel_rfl) ?hw18 ?hy18 ?hq18 (by assumption) ?r18
  case hi18 => (simp only [List.getElem?_toArray, List.getElem?_cons_succ, List.getElem?_cons_zero]; rfl)
  case hd18 => rfl
  case hw18 => rfl
  case hy18 => ((intro w hSw; (try dsimp only at hSw); go_simp) <;> (with_reducible rfl))
  case hq18 => exact fun _ _ _ h => h
  simp only [List.set_cons_succ, List.set_cons_zero]
  refine take_at (i := 18) (d := 164) (oi := ?o19) (v := ?v19) ?hi19 ?hd19 (by kernel_rfl) (by kernel_rfl) (by kernel_rfl) ?hw19 ?hy19 ?hq19 (by assumption) ?r19
  case hi19 => (simp only [List.getElem?_toArray, List.getElem?_cons_succ, List.getElem?_cons_zero]; rfl)
  case hd19 => rfl
  case hw19 => rfl
  case hy19 => ((intro w hSw; (try dsimp only at hSw); go_simp) <;> (with_reducible rfl))
  case hq19 => exact fun _ _ _ h => h
  simp only [List.set_cons_succ, List.set_cons_zero]
  refine take_at (i := 19) (d := 165) (oi := ?o20) (v := ?v20) ?hi20 ?hd20 (by kernel_rfl) (by kernel_rfl) (by kernel_rfl) ?hw20 ?hy20 ?hq20 (by assumption) ?r20
  case hi20 => (simp only [List.getElem?_toArray, List.getElem?_cons_succ, List.getElem?_cons_zero]; rfl)
  case hd20 => rfl
  case hw20 => rfl
  case hy20 => ((intro w hSw; (try dsimp only at hSw); go_simp) <;> (with_reducible rfl))
  case hq20 => exact fun _ _ _ h => h
  simp only [List.set_cons_succ, List.set_cons_zero]
  refine call_at (i := 20) (d := 166) (oi := ?o21) (f := ?f21) (args := ?a21) ?hi21 ?hd21 (by kernel_rfl) ?hw21 ?he21 ?hc21
  case hi21 => (simp only [List.getElem?_toArray, List.getElem?_cons_succ, List.getElem?_cons_zero]; rfl)
  case hd21 => rfl
  case hw21 => rfl
  case he21 => (go_simp; constructor <;> with_reducible rfl)
  have em := ents_any Aa A ah ah ca c (l.take ah) (l.take ah) _ (HX.out.1.on hHeld hHeld.size) (Row.on HX.out.2.1 hHeld hHeld.size) hah9 hah9
  rw [eqE_true rfl] at em
  refine em.mono ?_
  rintro r wv ⟨rfl, hb1⟩
  have kb : Below w31.heap.size w31 wv := hHeld.trans (hb1.mono hHeld.size)
  clear em
  refine ⟨_, rfl, kb, fun hHeld => ?_⟩
  simp only [List.set_cons_succ, List.set_cons_zero]
  refine take_at (i := 21) (d := 167) (oi := ?o22) (v := ?v22) ?hi22 ?hd22 (by kernel_rfl) (by kernel_rfl) (by kernel_rfl) ?hw22 ?hy22 ?hq22 (by assumption) ?r22
  case hi22 => (simp only [List.getElem?_toArray, List.getElem?_cons_succ, List.getElem?_cons_zero]; rfl)
  case hd22 => rfl
  case hw22 => rfl
  case hy22 => ((intro w hSw; (try dsimp only at hSw); go_simp) <;> (with_reducible rfl))
  case hq22 => exact fun _ _ _ h => h
  simp only [List.set_cons_succ, List.set_cons_zero]
  refine take_at (i := 22) (d := 168) (oi := ?o23) (v := ?v23) ?hi23 ?hd23 (by kernel_rfl) (by kernel_rfl) (by kernel_rfl) ?hw23 ?hy23 ?hq23 (by assumption) ?r23
  case hi23 => (simp only [List.getElem?_toArray, List.getElem?_cons_succ, List.getElem?_cons_zero]; rfl)
  case hd23 => rfl
  case hw23 => rfl
  case hy23 => ((intro w hSw; (try dsimp only at hSw); go_simp) <;> (with_reducible rfl))
  case hq23 => exact fun _ _ _ h => h
  simp only [List.set_cons_succ, List.set_cons_zero]
  refine call_at (i := 23) (d := 169) (oi := ?o24) (f := ?f24) (args := ?a24) ?hi24 ?hd24 (by kernel_rfl) ?hw24 ?he24 ?hc24
  case hi24 => (simp only [List.getElem?_toArray, List.getElem?_cons_succ, List.getElem?_cons_zero]; rfl)
  case hd24 => rfl
  case hw24 => rfl
  case he24 => (go_simp; constructor <;> with_reducible rfl)
  refine (wakes_true _).mono ?_
  rintro r wv2 ⟨rfl, hb2⟩
  have kb2 : Below w31.heap.size w31 wv2 := hHeld.trans (hb2.mono hHeld.size)
  refine ⟨_, rfl, kb2, fun hHeld => ?_⟩
  simp only [List.set_cons_succ, List.set_cons_zero]
  refine take_at (i := 24) (d := 170) (oi := ?o25) (v := ?v25) ?hi25 ?hd25 (by kernel_rfl) (by kernel_rfl) (by kernel_rfl) ?hw25 ?hy25 ?hq25 (by assumption) ?r25
  case hi25 => (simp only [List.getElem?_toArray, List.getElem?_cons_succ, List.getElem?_cons_zero]; rfl)
  case hd25 => rfl
  case hw25 => rfl
  case hy25 => ((intro w hSw; (try dsimp only at hSw); go_simp) <;> (with_reducible rfl))
  case hq25 => exact fun _ _ _ h => h
  simp only [List.set_cons_succ, List.set_cons_zero]
  refine take_at (i := 25) (d := 8) (oi := ?o26) (v := ?v26) ?hi26 ?hd26 (by kernel_rfl) (by kernel_rfl) (by kernel_rfl) ?hw26 ?hy26 ?hq26 (by assumption) ?r26
  case hi26 => (simp only [List.getElem?_toArray, List.getElem?_cons_succ, List.getElem?_cons_zero]; rfl)
  case hd26 => rfl
  case hw26 => rfl
  case hy26 => ((intro w hSw; (try dsimp only at hSw); go_simp) <;> (with_reducible rfl))
  case hq26 => exact fun _ _ _ h => h
  simp only [List.set_cons_succ, List.set_cons_zero]
  refine wpAnyH_done (by kernel_rfl) ?_ _
  go_wp2_with fail
  go_ret
  exact ⟨rfl, HX.out.2.2.trans (hHeld.mono HX.out.2.2.size)⟩


end Go.Proofs.Ytlojkbmoaifkaaa
