/-
  moultref07.Put, moultref07.File: their contracts.
-/
import Derived.Test.YtlblfpfdebmcgaaDoorOneU
namespace Go.Proofs.YtlblfpfdebmcgaaDoor
open Go.RowKit
set_option linter.unusedVariables false

theorem all_take {l : List EnP} {n : Nat} (h : l.length ≤ n) (ha : AllR (l.take n)) : AllR l := by rwa [List.take_of_length_le h] at ha

set_option maxRecDepth 100000 in
set_option maxHeartbeats 2000000 in
theorem rput_any (A : Option Addr) (n c : Nat) (l : List EnP) (w : World) (hl : Es w w.heap.size A n l) (hn : n ≤ 1000000) :
    Calls Tryd.prog 12 #[.slice A n c] w (Tel w (putP l)) := by
  obtain ⟨i0, hi, hz0, hz1, hz2⟩ := info_parts Cr.info_u8
  have Hl := Lib.hid (⟨hl, hl.len⟩ : _ ∧ _)
  clear hl
  go_enter Tryd.func12, Tryd.ntmps12
  go_wp2_with fail
  go_loopw [4, 5] (fun v i wr => ∃ k : Nat, k ≤ n ∧ i = .int .i64 k ∧ wr.ownsRow w.heap.size 5 1 v (15 * k) ((recsL (l.take k)).map (Value.int .u8)) ∧ AllR (l.take k) ∧ Below w.heap.size w wr) (fun _ i _ => n - (intOf i).toNat)
  case atStart => exact ⟨0, Nat.zero_le _, rfl, World.ownsRow_nil _ _ _ _, AllR.nil, Below.refl _ _⟩
  case round =>
    obtain ⟨k, hk, rfl, hrow, hall, hB⟩ := hrel
    have hsz := hB.size
    by_cases hlt : k < n
    · obtain ⟨b, off, e, rfl, hbl, he, c0, c1, c2⟩ := (Hl.out.1.on hB hsz).at_ hlt
      have HE := Lib.hid (⟨he, hall, hB, hrow⟩ : _ ∧ _ ∧ _ ∧ _)
      clear he hall hB hrow
      by_cases hR : RightP e
      · have e1 := rightB_iff.2 hR
        have HR := Lib.hid hR
        clear hR
        go_wp2_with fail
        refine (rright_any e _).mono ?_
        rintro r w1 ⟨rfl, hb1⟩
        rw [e1]
        have c0 := (hb1.cell (p := ⟨b, off + k * 3, none⟩) hbl).trans c0
        have c1 := (hb1.cell (p := ⟨b, off + k * 3 + 1, none⟩) hbl).trans c1
        have c2 := (hb1.cell (p := ⟨b, off + k * 3 + 2, none⟩) hbl).trans c2
        have hB1 := HE.out.2.2.1.trans (hb1.mono hsz)
        have own1 := own_keep HE.out.2.2.2 hb1
        have H1 := Lib.hid (⟨hB1, own1⟩ : _ ∧ _)
        clear e1 hb1 hB1 own1
        go_wp2_with fail
        refine (record_any e _ HR.out).mono ?_
        rintro r w2 ⟨⟨A2, cR, rfl, hcR, hr2⟩, hb2⟩
        have own2 := own_keep H1.out.2 hb2
        have hB2 := H1.out.1.trans (hb2.mono H1.out.1.size)
        have hsz2 := hB2.size
        clear c0 c1 c2 hb2
        go_wp2_with (at_builtin; refine hold ?_)
        refine unhold (Cr.wpList_append_rd (.tmp 18) (.tmp 23) 23 Tryd.underlying23 hi hz0 hz1 hz2 Cr.byte_cells own2 hr2 (by unfold maxLen; omega) (by omega) hsz2 rfl rfl rfl rfl ?_)
        intro v3 w3 L3
        have hB3 : Below w.heap.size w w3 := L3.below hB2 hsz2 (fun g hg => (own2.lt g hg).1)
        have own3 := L3.1
        rw [← List.map_append, ← recsL_snoc, ← take_succ HE.out.1] at own3
        have ha3 : AllR (l.take (k + 1)) := by rw [take_succ HE.out.1]; exact all_snoc_r.2 ⟨HE.out.2.1, HR.out⟩
        have H3 := Lib.hid (⟨own3, ha3, hB3⟩ : _ ∧ _ ∧ _)
        clear L3 own3 ha3 hB3 own2 hB2 hsz2 hr2
        go_wp2_with fail
        go_roundw
        case rel => exact ⟨k + 1, by omega, by go_num, by rw [Nat.mul_succ]; exact H3.out.1, H3.out.2.1, H3.out.2.2⟩
        case measure => simp [intOf]; omega
      · have e1 := rightB_not.2 hR
        have Hno := Lib.hid (putP_no (all_no HE.out.1 hR))
        clear hR
        go_wp2_with fail
        refine (rright_any e _).mono ?_
        rintro r w1 ⟨rfl, hb1⟩
        rw [e1]
        have H1 := Lib.hid (HE.out.2.2.1.trans (hb1.mono hsz))
        clear e1 hb1 c0 c1 c2
        go_wp2_with fail
        go_ret2
        exact Tel.none_ Hno.out H1.out
    · obtain rfl : k = n := by omega
      have hf : l.take k = l := List.take_of_length_le (by rw [Hl.out.2]; exact Nat.le_refl _)
      rw [hf] at hrow hall
      have HF := Lib.hid (⟨hrow, putP_yes hall, hB⟩ : _ ∧ _ ∧ _)
      clear hrow hall hB hf
      go_wp2_with fail
      go_ret2
      exact Tel.some_ HF.out.2.1 (by rw [recsL_length, Hl.out.2]) HF.out.1 HF.out.2.2

end Go.Proofs.YtlblfpfdebmcgaaDoor
