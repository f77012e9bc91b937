/-
  moultref08.blocks, moultref08.File: their contracts.
-/
import Derived.Test.YtlojkbmoaifkaaaRfa
namespace Go.Proofs.Ytlojkbmoaifkaaa
open Go.RowKit
set_option linter.unusedVariables false
set_option linter.unusedSimpArgs false

theorem cut_firstR {P : Program} {t e : TypeId} {i : TypeInfo} (ht : P.underlying t = some (.slice e)) (hi : P.info? e = some i) (A : Option Addr) (n c k : Nat) (hk : k ≤ c) (W : World) :
    (Instr.slice t (.slice A n c) none (some (.int .i64 (k : Int))) none).run P W = .ok (.slice A k c) W := by
  have he : P.elem t = e := by simp [Program.elem, ht]
  have hu : P.underlying t = some (.slice (P.elem t)) := by rw [he]; exact ht
  rw [run_slice_h W t A n c hu .i64 (k : Int) (by omega) (by omega), he]
  simp [sizeOf, run_typeInfo, hi, sliced, go_sem]
theorem cut_tailE {P : Program} {t e : TypeId} {i : TypeInfo} (ht : P.underlying t = some (.slice e)) (hi : P.info? e = some i) (h3 : i.size = 3) (A : Option Addr) (n c k : Nat) (hk : k ≤ n) (hnc : n ≤ c) :
    ∃ A', (∀ W : World, (Instr.slice t (.slice A n c) (some (.int .i64 (k : Int))) none none).run P W = .ok (.slice A' (n - k) (c - k)) W) ∧ ∀ {w : World} {B : Nat} {l : List EnP}, Es w B A n l → Es w B A' (n - k) (l.drop k) := by
  obtain ⟨A', h1, h2⟩ := cut_from ht hi h3 A n c k hk
  refine ⟨A', h1, fun h => ?_⟩
  by_cases hc : c = k
  · have h0 : n - k = 0 := by omega
    rw [h0, List.drop_of_length_le (by rw [h.1]; omega)]
    exact Row.nil
  · rw [h2 hc]
    exact Row.rest h hk
def sliceLen : Value → Nat
  | .slice _ n _ => n
  | _ => 0

set_option maxRecDepth 100000 in
set_option maxHeartbeats 4000000 in
theorem rblocks_any {x y : Nat} {p : Int × Int} (A : Option Addr) (n c : Nat) (l : List EnP) (w : World) (hp : Ga.From x y p) (hl : Es w w.heap.size A n l) (hnc : n ≤ c) (hn : n ≤ 1000000) (ha : allR l = true) :
    Calls Try.prog 34 #[.complex .f64 x y, .slice A n c] w fun e w' => (∃ A' c' q, e = .returned (.slice A' q c') ∧ (blksL p (chunks 4 l)).length = q ∧ Rd w' w'.heap.size .u8 A' q (blksL p (chunks 4 l))) ∧ Below w.heap.size w w' := by
  obtain ⟨i0, hi, hz0, hz1, hz2⟩ := info_parts Ga.info_u8
  obtain ⟨j0, hj, hy0, hy1, hy2⟩ := info_partsV info_entry
  have hbound : (blksL p (chunks 4 l)).length ≤ 65000000 := by
    have h1 := blks_le (p := p) (chunks_good ha)
    have h2 := chunks_len4 l
    rw [hl.len] at h2
    omega
  have Hl := Lib.hid (⟨hl, hp, ha, hnc⟩ : _ ∧ _ ∧ _ ∧ _)
  clear hl hp ha hnc
  go_enter Try.func34, Try.ntmps34
  go_wp2_with fail
  go_loopw [0, 1, 5] (fun z lv v wr => ∃ A' n' c' r D P x y q, z = .complex .f64 x y ∧ lv = .slice A' n' c' ∧ n' ≤ c' ∧ n' ≤ n ∧ Es w w.heap.size A' n' r ∧ allR r = true ∧ Ga.From x y P ∧ D.length = q ∧ blksL p (chunks 4 l) = D ++ blksL P (chunks 4 r) ∧ wr.ownsRow w.heap.size 5 1 v q (D.map (Value.int .u8)) ∧ Below w.heap.size w wr) (fun _ lv _ _ => sliceLen lv)
  case atStart => exact ⟨A, n, c, l, [], p, x, y, 0, rfl, rfl, Hl.out.2.2.2, Nat.le_refl _, Hl.out.1, Hl.out.2.2.1, Hl.out.2.1, rfl, rfl, World.ownsRow_nil _ _ _ _, Below.refl _ _⟩
  obtain ⟨A', n', c', r, D, P, xe, ye, q, rfl, rfl, hnc', hnn, hes, har, hfr, hq, hD, hown, hB⟩ := hrel
  obtain ⟨A4, c4, rfl, hc4⟩ := own_slice hown
  by_cases hlt : 0 < n'
  · have hrl := hes.len
    have hne : r ≠ [] := by intro h; rw [h] at hrl; simp at hrl; omega
    obtain ⟨k6, hk6⟩ : ∃ k6, k6 = min n' 4 := ⟨_, rfl⟩
    have hmin : min (n' : Int) 4 = (k6 : Int) := by omega
    have ht4 : r.take k6 = r.take 4 := by
      rw [hk6]
      rcases Nat.le_total n' 4 with h | h
      · rw [Nat.min_eq_left h, List.take_of_length_le (by omega), List.take_of_length_le (by omega)]
      · rw [Nat.min_eq_right h]
    have hd4 : r.drop k6 = r.drop 4 := by
      rw [hk6]
      rcases Nat.le_total n' 4 with h | h
      · rw [Nat.min_eq_left h, List.drop_of_length_le (by omega), List.drop_of_length_le (by omega)]
      · rw [Nat.min_eq_right h]
    have hg4 : GoodC (r.take 4) := ⟨by rw [List.length_take]; omega, List.length_take_le _ _, allR_take har 4⟩
    obtain ⟨A7, hrun7, hcut7⟩ := cut_tailE Try.underlying23 hj hy1 A' n' c' k6 (by omega) hnc'
    have es7 := hcut7 hes
    have es6 := Row.first hes (k := k6) (by omega)
    rw [ht4] at es6
    rw [hd4] at es7
    have hcutE := cut_firstR Try.underlying23 hj A' n' c' k6 (by omega)
    obtain ⟨n7, hn7⟩ : ∃ n7, n7 = n' - k6 := ⟨_, rfl⟩
    obtain ⟨c7, hc7⟩ : ∃ c7, c7 = c' - k6 := ⟨_, rfl⟩
    rw [← hn7, ← hc7] at hrun7
    rw [← hn7] at es7
    have hDq : q + (blockL P (r.take 4)).length ≤ 65000000 ∧ blksL p (chunks 4 l) = (D ++ blockL P (r.take 4)) ++ blksL (endP P (r.take 4)) (chunks 4 (r.drop 4)) := by
      rw [chunks_cons hne (by omega)] at hD
      have h3 : blksL p (chunks 4 l) = (D ++ blockL P (r.take 4)) ++ blksL (endP P (r.take 4)) (chunks 4 (r.drop 4)) := by rw [hD, List.append_assoc]; rfl
      refine ⟨?_, h3⟩
      have h4 := congrArg List.length h3
      rw [List.length_append, List.length_append] at h4
      omega
    have hpos : n7 < n' ∧ n7 ≤ n ∧ n7 ≤ c7 ∧ k6 ≤ 1000000 := by omega
    have HI := Lib.hid (⟨hown, hB, hq, hDq.2, hg4, es6, es7, allR_drop har 4, hpos, hDq.1, hfr⟩ : _ ∧ _ ∧ _ ∧ _ ∧ _ ∧ _ ∧ _ ∧ _ ∧ _ ∧ _ ∧ _)
    have hlt' : (0 : Int) < (n' : Int) := by omega
    have hlt'' : decide ((0 : Int) < (n' : Int)) = true := by simp; omega
    clear hes har hfr hq hD hown hB hrl hne hk6 ht4 hd4 hg4 es6 es7 hcut7 hn7 hc7 hDq
    go_wp2_with fail
    refine (rblock_any A' k6 c' (r.take 4) wr HI.out.2.2.2.2.2.2.2.2.2.2 (Row.on HI.out.2.2.2.2.2.1 HI.out.2.1 HI.out.2.1.size) (by have := HI.out.2.2.2.2.2.2.2.2.1; omega)).mono ?_
    rintro e w2 ⟨hbk, bb⟩
    obtain ⟨-, A3, c3, m, x3, y3, rfl, hm, r3, hpe, hmc⟩ := hbk.resolve_right (fun h => h.1 HI.out.2.2.2.2.1)
    have own3 := own_keep HI.out.1 bb
    have B3 := HI.out.2.1.trans (bb.mono HI.out.2.1.size)
    have hlo : ∀ g, (Value.slice A4 q c4).ownBlock = some g → w.heap.size ≤ g := fun g hg => (HI.out.1.lt g hg).1
    have hqm : q + m ≤ 65000000 := by have := HI.out.2.2.2.2.2.2.2.2.2.1; omega
    have H3 := Lib.hid (⟨B3, hlo, hpe, hm⟩ : _ ∧ _ ∧ _ ∧ _)
    clear hbk bb B3 hlo hpe hm
    go_wp2_with (at_builtin; refine hold ?_)
    refine unhold (wpList_append (.tmp 25) (.tmp 26) 24 Try.underlying24 hi hz0 hz1 hz2 Nu.byte_cells (by decide) own3 (Source.rd r3) (by unfold maxLen; omega) (by omega) H3.out.1.size rfl rfl rfl rfl ?_)
    intro v6 w6 L6
    obtain ⟨A6, c6, rfl, hc6, own6, b6, n6⟩ := Longer.more H3.out.1 H3.out.1.size H3.out.2.1 L6
    clear L6 n6 own3 r3
    rw [← List.map_append] at own6
    have H6 := Lib.hid (⟨own6, b6⟩ : _ ∧ _)
    clear own6 b6
    go_wp2_with fail
    go_roundw
    case rel => exact ⟨A7, n7, c7, r.drop 4, D ++ blockL P (r.take 4), endP P (r.take 4), x3, y3, q + m, rfl, rfl, HI.out.2.2.2.2.2.2.2.2.1.2.2.1, HI.out.2.2.2.2.2.2.2.2.1.2.1, HI.out.2.2.2.2.2.2.1, HI.out.2.2.2.2.2.2.2.1, .inl H3.out.2.2.1, by rw [List.length_append, HI.out.2.2.1, H3.out.2.2.2], HI.out.2.2.2.1, H6.out.1, H6.out.2⟩
    case measure => exact HI.out.2.2.2.2.2.2.2.2.1.1
  · have h0 : n' = 0 := by omega
    subst h0
    have hr0 : r = [] := List.length_eq_zero_iff.1 hes.len
    subst hr0
    rw [chunks_nil] at hD
    simp only [blksL, List.append_nil] at hD
    have HI := Lib.hid (⟨Rd.of_own hown, hB, hq, hD⟩ : _ ∧ _ ∧ _ ∧ _)
    clear hes har hfr hq hD hown hB
    go_wp2_with fail
    go_ret
    exact ⟨⟨A4, c4, q, rfl, by rw [HI.out.2.2.2]; exact HI.out.2.2.1, by rw [HI.out.2.2.2]; exact HI.out.1⟩, HI.out.2.1⟩

set_option maxRecDepth 100000 in
set_option maxHeartbeats 1000000 in
theorem rfile_any (first : Int) (A : Option Addr) (n c : Nat) (l : List EnP) (w : World) (hl : Es w w.heap.size A n l) (hnc : n ≤ c) (hn : n ≤ 1000000) :
    Calls Try.prog 15 #[.int .i64 first, .slice A n c] w (Tel w (fileP first l)) := by
  obtain ⟨i0, hi, hz0, hz1, hz2⟩ := info_parts Ga.info_u8
  have Hl := Lib.hid hl
  clear hl
  go_enter Try.func15, Try.ntmps15
  go_wp2_with fail
  refine (rhead_any first w).mono ?_
  rintro e w1 ⟨⟨A1, c1, rfl, hc1, own1⟩, hb1⟩
  by_cases hf : Num first
  · rw [headP_yes hf] at hc1 own1 ⊢
    have hh := head_length hf
    dsimp only at hc1 own1 ⊢
    obtain ⟨h, hh0⟩ : ∃ h, (headL first).length = h := ⟨_, rfl⟩
    rw [hh0] at hh own1 hc1 ⊢
    have Hf := Lib.hid (⟨hf, hh0⟩ : _ ∧ _)
    have H1 := Lib.hid (⟨own1, hb1⟩ : _ ∧ _)
    clear own1 hb1 hf hh0
    go_wp2_with fail
    refine (fine_any A n c l w1 (Hl.out.on H1.out.2 H1.out.2.size) hn).mono ?_
    rintro e w2 ⟨rfl, hb2⟩
    have own2 := own_keep H1.out.1 hb2
    have B2 := H1.out.2.trans (hb2.mono H1.out.2.size)
    have rd2 : Rd w2 w2.heap.size .u8 A1 h (headL first) := Rd.of_own own2
    have hc := rchain_one (c := c1) w2 w2.heap.size 24 rfl headE_pt_from rd2 (head_byt Hf.out.1) (by omega)
    have hlo : ∀ g, (Value.slice A1 h c1).ownBlock = some g → w.heap.size ≤ g := fun g hg => (H1.out.1.lt g hg).1
    have H2 := Lib.hid (⟨own2, B2, hlo⟩ : _ ∧ _ ∧ _)
    clear own2 B2 hb2 rd2 hlo
    cases ha : allR l
    · have e3 : fileP first l = ([], 2) := if_neg (fun h => by rw [ha] at h; cases h.2)
      have H3 := Lib.hid e3
      clear ha e3 hc
      go_wp2_with fail
      go_ret2
      exact Tel.none_ H3.out H2.out.2.1
    · have Ha := Lib.hid ha
      clear ha
      go_wp2_with fail
      refine hc.mono ?_
      rintro e w3 ⟨⟨xp, yp, rfl, hpt⟩, hb3⟩
      have B3 := H2.out.2.1.trans (hb3.mono H2.out.2.1.size)
      have own3 := own_keep H2.out.1 hb3
      have hl3 := Hl.out.on B3 B3.size
      have H3 := Lib.hid (⟨B3, own3⟩ : _ ∧ _)
      have Hpt := Lib.hid hpt
      clear hb3 B3 own3 hc hpt
      go_wp2_with fail
      refine (rblocks_any A n c l w3 (.inl Hpt.out) hl3 hnc hn Ha.out).mono ?_
      rintro e w4 ⟨⟨A4, c4, n4, rfl, h4, r4⟩, hb4⟩
      have B4 := H3.out.1.trans (hb4.mono H3.out.1.size)
      have own4 := own_keep H3.out.2 hb4
      have hn4 : n4 ≤ 65000000 := by
        have h5 := blks_le (p := headE first) (chunks_good Ha.out)
        have h7 := chunks_len4 l
        rw [Hl.out.len] at h7
        have h8 : (blksL (headE first) (chunks 4 l)).length = n4 := h4
        omega
      have H4 := Lib.hid (⟨B4, h4⟩ : _ ∧ _)
      clear hb4 B4 h4 hl3
      go_wp2_with (at_builtin; refine hold ?_)
      refine unhold (wpList_append (.tmp 20) (.tmp 25) 24 Try.underlying24 hi hz0 hz1 hz2 Nu.byte_cells (by decide) own4 (Source.rd r4) (by unfold maxLen; omega) (by omega) H4.out.1.size rfl rfl rfl rfl ?_)
      intro v5 w5 L5
      obtain ⟨A5, c5, rfl, hc5, own5, b5, n5⟩ := Longer.more H4.out.1 H4.out.1.size H2.out.2.2 L5
      rw [← List.map_append] at own5
      have H5 := Lib.hid (⟨own5, b5⟩ : _ ∧ _)
      clear L5 own5 b5 n5 own4 r4
      go_wp2_with fail
      go_ret2
      have e3 : fileP first l = (headL first ++ blksL (headE first) (chunks 4 l), 0) := if_pos ⟨Hf.out.1, Ha.out⟩
      exact Tel.some_ e3 (by rw [List.length_append, Hf.out.2]; exact congrArg _ H4.out.2) H5.out.1 H5.out.2
  · rw [headP_no hf]
    have e3 : fileP first l = ([], 2) := if_neg (fun h => hf h.1)
    have H3 := Lib.hid (⟨e3, hb1⟩ : _ ∧ _)
    clear hf e3 hb1 own1
    go_wp2_with fail
    go_ret2
    exact Tel.none_ H3.out.1 H3.out.2

end Go.Proofs.Ytlojkbmoaifkaaa
