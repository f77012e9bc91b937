/-
  one.File, moultref07.File: their contracts.
-/
import Derived.Test.YtlblfpfdebmcgaaDoorPutO
namespace Go.Proofs.YtlblfpfdebmcgaaDoor
open Go.RowKit
set_option linter.unusedVariables false

set_option maxRecDepth 100000 in
set_option maxHeartbeats 1000000 in
theorem file_any (first : Int) (A : Option Addr) (n c : Nat) (l : List EnP) (w : World) (hT : Cr.Tab w) (hl : Es w w.heap.size A n l) (hn : n ≤ 1000000) :
    Calls Tryd.prog 16 #[.int .i64 first, .slice A n c] w (Tel w (fileP first l)) := by
  obtain ⟨i0, hi, hz0, hz1, hz2⟩ := info_parts Cr.info_u8
  have Hln := Lib.hid hl.len
  go_enter Tryd.func16, Tryd.ntmps16
  go_wp2_with fail
  refine (head_any first w).mono ?_
  rintro e w1 ⟨⟨A1, c1, rfl, hc1, own1⟩, hb1⟩
  by_cases hf : IdxP first
  · rw [headP_yes hf] at hc1 own1 ⊢
    have Hf := Lib.hid hf
    have H1 := Lib.hid (⟨own1, hb1⟩ : _ ∧ _)
    have hl1 := hl.on hb1 hb1.size
    have hT1 := hT.on hb1
    rw [headL_length]
    clear own1 hb1 hf hl
    go_wp2_with fail
    refine (put_any A n c l w1 hT1 hl1 hn).mono ?_
    rintro e w2 ⟨⟨A2, c2, rfl, hc2, own2⟩, hb2⟩
    by_cases ha : AllR l
    · rw [putP_yes ha] at hc2 own2 ⊢
      have own1' := own_keep H1.out.1 hb2
      have hr2 := Rd.of_own own2
      have hlo : ∀ g, (Value.slice A1 6 c1).ownBlock = some g → w.heap.size ≤ g ∧ g < w1.heap.size := fun g hg => by
        have h1 := H1.out.1
        rw [headL_length] at h1
        exact h1.lt g hg
      have hhi : ∀ g, (Value.slice A2 (recsL l).length c2).ownBlock = some g → w1.heap.size ≤ g := fun g hg => (own2.lt g hg).1
      rw [headL_length] at own1'
      dsimp only at own1' hr2 hhi ⊢
      rw [recsL_length, Hln.out] at hr2 hhi ⊢
      have H2 := Lib.hid (⟨ha, H1.out.2.trans (hb2.mono H1.out.2.size), hlo, hhi⟩ : _ ∧ _ ∧ _ ∧ _)
      clear ha hb2 own2 hlo hhi hl1 hc2
      go_wp2_with (at_builtin; refine hold ?_)
      refine unhold (Cr.wpList_append_rd (.tmp 25) (.tmp 26) 23 Tryd.underlying23 hi hz0 hz1 hz2 Cr.byte_cells own1' hr2 (by unfold maxLen; omega) (by omega) H2.out.2.1.size rfl rfl rfl rfl ?_)
      intro v3 w3 L3
      have hB3 : Below w.heap.size w w3 := L3.below H2.out.2.1 H2.out.2.1.size (fun g hg => (H2.out.2.2.1 g hg).1)
      have own3 := L3.1
      rw [← List.map_append] at own3
      obtain ⟨A3, c3, rfl, _, _⟩ := own_rd own3
      have H3 := Lib.hid (⟨own3, hB3⟩ : _ ∧ _)
      clear L3 own3 hB3 own1' hr2
      go_wp2_with fail
      go_ret2
      have e3 : fileP first l = (headL first ++ recsL l, 0) := if_pos ⟨Hf.out, H2.out.1⟩
      exact Tel.some_ e3 (by rw [List.length_append, headL_length, recsL_length, Hln.out]) H3.out.1 H3.out.2
    · rw [putP_no ha]
      have e3 : fileP first l = ([], 2) := if_neg (fun h => ha h.2)
      have H3 := Lib.hid (⟨e3, H1.out.2.trans (hb2.mono H1.out.2.size)⟩ : _ ∧ _)
      clear ha hb2 own2 e3 hl1 hc2
      go_wp2_with fail
      go_ret2
      exact Tel.none_ H3.out.1 H3.out.2
  · rw [headP_no hf]
    have e3 : fileP first l = ([], 2) := if_neg (fun h => hf h.1)
    have H3 := Lib.hid (⟨e3, hb1⟩ : _ ∧ _)
    clear hf e3 hb1 own1 hl
    go_wp2_with fail
    go_ret2
    exact Tel.none_ H3.out.1 H3.out.2

set_option maxRecDepth 100000 in
set_option maxHeartbeats 1000000 in
theorem rfile_any (first : Int) (A : Option Addr) (n c : Nat) (l : List EnP) (w : World) (hl : Es w w.heap.size A n l) (hn : n ≤ 1000000) :
    Calls Tryd.prog 17 #[.int .i64 first, .slice A n c] w (Tel w (fileP first l)) := by
  obtain ⟨i0, hi, hz0, hz1, hz2⟩ := info_parts Cr.info_u8
  have Hln := Lib.hid hl.len
  go_enter Tryd.func17, Tryd.ntmps17
  go_wp2_with fail
  refine (rhead_any first w).mono ?_
  rintro e w1 ⟨⟨A1, c1, rfl, hc1, own1⟩, hb1⟩
  by_cases hf : IdxP first
  · rw [headP_yes hf] at hc1 own1 ⊢
    have Hf := Lib.hid hf
    have H1 := Lib.hid (⟨own1, hb1⟩ : _ ∧ _)
    have hl1 := hl.on hb1 hb1.size
    skip
    rw [headL_length]
    clear own1 hb1 hf hl
    go_wp2_with fail
    refine (rput_any A n c l w1 hl1 hn).mono ?_
    rintro e w2 ⟨⟨A2, c2, rfl, hc2, own2⟩, hb2⟩
    by_cases ha : AllR l
    · rw [putP_yes ha] at hc2 own2 ⊢
      have own1' := own_keep H1.out.1 hb2
      have hr2 := Rd.of_own own2
      have hlo : ∀ g, (Value.slice A1 6 c1).ownBlock = some g → w.heap.size ≤ g ∧ g < w1.heap.size := fun g hg => by
        have h1 := H1.out.1
        rw [headL_length] at h1
        exact h1.lt g hg
      have hhi : ∀ g, (Value.slice A2 (recsL l).length c2).ownBlock = some g → w1.heap.size ≤ g := fun g hg => (own2.lt g hg).1
      rw [headL_length] at own1'
      dsimp only at own1' hr2 hhi ⊢
      rw [recsL_length, Hln.out] at hr2 hhi ⊢
      have H2 := Lib.hid (⟨ha, H1.out.2.trans (hb2.mono H1.out.2.size), hlo, hhi⟩ : _ ∧ _ ∧ _ ∧ _)
      clear ha hb2 own2 hlo hhi hl1 hc2
      go_wp2_with (at_builtin; refine hold ?_)
      refine unhold (Cr.wpList_append_rd (.tmp 25) (.tmp 26) 23 Tryd.underlying23 hi hz0 hz1 hz2 Cr.byte_cells own1' hr2 (by unfold maxLen; omega) (by omega) H2.out.2.1.size rfl rfl rfl rfl ?_)
      intro v3 w3 L3
      have hB3 : Below w.heap.size w w3 := L3.below H2.out.2.1 H2.out.2.1.size (fun g hg => (H2.out.2.2.1 g hg).1)
      have own3 := L3.1
      rw [← List.map_append] at own3
      obtain ⟨A3, c3, rfl, _, _⟩ := own_rd own3
      have H3 := Lib.hid (⟨own3, hB3⟩ : _ ∧ _)
      clear L3 own3 hB3 own1' hr2
      go_wp2_with fail
      go_ret2
      have e3 : fileP first l = (headL first ++ recsL l, 0) := if_pos ⟨Hf.out, H2.out.1⟩
      exact Tel.some_ e3 (by rw [List.length_append, headL_length, recsL_length, Hln.out]) H3.out.1 H3.out.2
    · rw [putP_no ha]
      have e3 : fileP first l = ([], 2) := if_neg (fun h => ha h.2)
      have H3 := Lib.hid (⟨e3, H1.out.2.trans (hb2.mono H1.out.2.size)⟩ : _ ∧ _)
      clear ha hb2 own2 e3 hl1 hc2
      go_wp2_with fail
      go_ret2
      exact Tel.none_ H3.out.1 H3.out.2
  · rw [headP_no hf]
    have e3 : fileP first l = ([], 2) := if_neg (fun h => hf h.1)
    have H3 := Lib.hid (⟨e3, hb1⟩ : _ ∧ _)
    clear hf e3 hb1 own1 hl
    go_wp2_with fail
    go_ret2
    exact Tel.none_ H3.out.1 H3.out.2

end Go.Proofs.YtlblfpfdebmcgaaDoor
