/-
  moultlaw07.wakes: it returns true.
-/
import Derived.Test.YtlblfpfdebmcgaaDoorEqO
import Derived.Test.YtlblfpfdebmcgaaDoorFileO
namespace Go.Proofs.YtlblfpfdebmcgaaDoor
open Go.RowKit
set_option linter.unusedVariables false

theorem Tel.out {w w' : World} {R : List Int × Int} {L : List Int} {er : Int} {q : Nat} {e : Ending} (h : Tel w R e w') (hR : R = (L, er)) (hq : L.length = q) :
    ∃ A c, e = .returned (.tuple #[.slice A q c, .int .i64 er]) ∧ q ≤ c ∧ Rd w' w'.heap.size .u8 A q L ∧ w'.ownsRow w.heap.size 5 1 (.slice A q c) q (L.map (Value.int .u8)) ∧ Below w.heap.size w w' := by
  subst hR hq
  obtain ⟨⟨A, c, rfl, hc, ho⟩, hb⟩ := h
  exact ⟨A, c, rfl, hc, Rd.of_own ho, ho, hb⟩
theorem ScanT.out {w w' : World} {R : Int × List EnP × Int × Int} {f u er : Int} {L : List EnP} {q : Nat} {e : Ending} (h : ScanT w R e w') (hR : R = (f, L, u, er)) (hq : L.length = q) :
    ∃ A c, e = .returned (.tuple #[.agg #[.int .i64 f, .slice A q c, .int .i64 u], .int .i64 er]) ∧ q ≤ c ∧ Es w' w'.heap.size A q L ∧ Below w.heap.size w w' := by
  subst hR hq
  obtain ⟨⟨A, c, rfl, hc, ho⟩, hb⟩ := h
  exact ⟨A, c, rfl, hc, ho, hb⟩
theorem Es.made (w : World) (e : EnP) {g : Nat} (hg : g = w.heap.size) : Es (w.alloc (.cells #[.int .i64 e.tm, .int .i64 e.kd, .int .i64 e.vl] 40)) (w.alloc (.cells #[.int .i64 e.tm, .int .i64 e.kd, .int .i64 e.vl] 40)).heap.size (some ⟨g, 0, none⟩) 1 [e] := by
  subst hg
  refine ⟨rfl, fun _ => ⟨w.heap.size, 0, rfl, by simp, fun i x hi j hj => ?_⟩⟩
  have hi0 : i = 0 := by
    have := (List.getElem?_eq_some_iff.1 hi).1
    simp at this
    omega
  subst hi0
  obtain rfl : e = x := by simpa using hi
  rw [cell_of_row _ _ _ _ _ _ (World.alloc_heap_new w _)]
  rcases (by omega : j = 0 ∨ j = 1 ∨ j = 2) with rfl | rfl | rfl <;> simp [EnP.cs]
def wakeE : EnP := ⟨1, 1, 7⟩
theorem wake_right : RightP wakeE := by unfold RightP wakeE; dsimp only; omega
theorem wake_all : AllR [wakeE] := fun x hx => by obtain rfl := List.mem_singleton.1 hx; exact wake_right
theorem wake_idx : IdxP 5 := by unfold IdxP; omega
theorem wake_file : fileP 5 [wakeE] = (headL 5 ++ recsL [wakeE], 0) := if_pos ⟨wake_idx, wake_all⟩
theorem wake_len : (headL 5 ++ recsL [wakeE]).length = 21 := by rw [List.length_append, headL_length, recsL_length]; rfl
theorem wake_scan : scanP ((headL 5 ++ recsL [wakeE]) ++ [9]) = (5, [wakeE], 21, 0) := by
  have e : ((headL 5 ++ recsL [wakeE]) ++ [9]).drop 6 = recsL [wakeE] ++ [9] := by
    rw [List.append_assoc, ← headL_length 5]; exact List.drop_left
  rw [List.append_assoc] at e ⊢
  rw [scanP_some (headO_head wake_idx _), e, scanL_recs wake_all, scanL_none (recOf_short (by simp)), List.append_nil]
  rfl
theorem wake_head0 : headP 0 = ([], 2) := headP_no (fun h => by have := h.1; omega)
theorem wake_put0 : putP [⟨0, 0, 0⟩] = ([], 2) := putP_no (fun h => by have := (h ⟨0, 0, 0⟩ (by simp)).1.1; dsimp only at this; omega)
theorem wake_scan2 : scanP [2, 0, 0, 0, 0, 5] = (0, [], 0, 11) := scanP_none (by unfold headO; rw [if_neg (fun h => by have := h.2.1; simp at this)])
theorem wake_headL : headL 5 = [1, 0, 0, 0, 0, 5] := by unfold headL; rw [Nu.long_eq]; rfl
theorem wake_size : sizeP 1 = 21 := by unfold sizeP; omega

set_option maxRecDepth 100000 in
set_option maxHeartbeats 4000000 in
theorem wakes_true (w : World) (hT : Cr.Tab w) : Calls Tryd.prog 8 #[] w fun e w' => e = .returned (.bool true) ∧ Below w.heap.size w w' := by
  obtain ⟨i0, hi, hz0, hz1, hz2⟩ := info_parts Cr.info_u8
  have HT := Lib.hid hT
  clear hT
  go_enter Tryd.func8, Tryd.ntmps8
  go_wp2_with fail
  refine (head_any 5 w).mono ?_
  intro e w1 h1
  obtain ⟨A1, c1, rfl, hc1, r1, -, b1⟩ := h1.out (headP_yes wake_idx) (headL_length 5)
  clear h1
  go_wp2_with fail
  obtain ⟨w2, hw2⟩ : ∃ w2, w2 = w1.alloc (.cells #[.int .i64 1, .int .i64 1, .int .i64 7] 40) := ⟨_, rfl⟩
  have es2 : Es w2 w2.heap.size (some ⟨w1.heap.size, 0, none⟩) 1 [wakeE] := by rw [hw2]; exact Es.made w1 wakeE rfl
  have b2 : Below w.heap.size w w2 := by rw [hw2]; exact b1.alloc b1.size _
  have r2 : Rd w2 w2.heap.size .u8 A1 6 (headL 5) := r1.on (by rw [hw2]; exact (Below.refl _ _).alloc (Nat.le_refl _) _) (by rw [hw2]; simp)
  obtain ⟨g2, hg2⟩ : ∃ g, g = w1.heap.size := ⟨_, rfl⟩
  rw [← hw2, ← hg2]
  rw [← hg2] at es2
  clear hw2 hg2 r1 b1
  refine (file_any 5 _ 1 1 [wakeE] w2 (HT.out.on b2) es2 (by omega)).mono ?_
  intro e w3 h3
  obtain ⟨A3, c3, rfl, hc3, r3, -, b3⟩ := h3.out wake_file wake_len
  have B3 := b2.trans (b3.mono b2.size)
  have r1 := r2.on b3 b3.size
  have hs3 := B3.size
  clear h3 b3 r2 b2 es2
  go_wp2_with (at_builtin; refine hold ?_)
  refine unhold (Cr.wpList_append_rd (.tmp 24) (.tmp 25) 23 Tryd.underlying23 hi hz0 hz1 hz2 Cr.byte_cells (Cr.own_empty w3 w3.heap.size 5 (Nat.le_refl _)) (r3.below ((Below.refl _ w3).alloc (Nat.le_refl _) _)) (by unfold maxLen; omega) (by omega) (by simp) rfl rfl rfl rfl ?_)
  intro v4 w4 L4
  have b4 : Below w3.heap.size w3 w4 := L4.below ((Below.refl _ w3).alloc (Nat.le_refl _) _) (by simp) (fun g hg => by simp [Value.ownBlock] at hg; omega)
  have n4 : ∀ g, v4.ownBlock = some g → w3.heap.size ≤ g := L4.new (fun g hg => by simp [Value.ownBlock] at hg; omega) (by simp)
  have own4 := L4.1
  rw [Nat.zero_add, List.nil_append] at own4
  obtain ⟨A4, c4, rfl, _, _⟩ := own_rd own4
  have H4 := Lib.hid (⟨b4, n4⟩ : _ ∧ _)
  clear L4 b4 n4
  go_wp2_with (at_builtin; refine hold ?_)
  refine unhold (Cr.wpList_append_rd (.tmp 26) (.tmp 27) 23 Tryd.underlying23 hi hz0 hz1 hz2 Cr.byte_cells (own4.alloc _) (Cr.Rd.made w4 .u8 5 [9] rfl) (by unfold maxLen; simp) (by simp) (by have := H4.out.1.size; simp; omega) rfl rfl rfl rfl ?_)
  intro v5 w5 L5
  have b5 : Below w3.heap.size w3 w5 := L5.below (H4.out.1.alloc H4.out.1.size _) (by have := H4.out.1.size; simp; omega) H4.out.2
  have own5 := L5.1
  rw [← List.map_append] at own5
  obtain ⟨A5, c5, rfl, hc5, r5⟩ := own_rd own5
  have B5 := B3.trans (b5.mono hs3)
  have r1b := r1.on b5 b5.size
  clear L5 own5 own4 r1 r3 hs3
  go_wp2_with fail
  refine (scan_any A5 22 c5 _ w5 (HT.out.on B5) r5 (((headL_byt 5).append (recsL_byt _)).append (byt_lit (by decide))) hc5 (by omega)).mono ?_
  intro e w6 h6
  obtain ⟨A6, c6, rfl, hc6, s6, b6⟩ := h6.out wake_scan (q := 1) rfl
  have B6 := B5.trans (b6.mono B5.size)
  have r6 := r1b.on b6 b6.size
  clear h6 r1b r5 b5 B3
  obtain ⟨w7, hw7⟩ : ∃ w7, w7 = w6.alloc (.cells #[.int .i64 5, .slice A6 1 c6, .int .i64 21] 33) := ⟨_, rfl⟩
  obtain ⟨z, hz⟩ : ∃ z, z = w6.heap.size := ⟨_, rfl⟩
  have b7 : Below w6.heap.size w6 w7 := by rw [hw7]; exact (Below.refl _ _).alloc (Nat.le_refl _) _
  have bz7 : BoxC w7 z 5 (.slice A6 1 c6) 21 := by rw [hw7, hz]; exact BoxC.new _ _ _ _
  have B7 := B6.trans (b7.mono B6.size)
  have s7 := s6.on b7 b7.size
  have r7 := r6.on b7 b7.size
  go_wp2_with fail
  rw [← hw7, ← hz]
  clear hw7 hz b7 s6 r6 B6 B5
  refine (head_any 0 w7).mono ?_
  intro e w8 h8
  obtain ⟨A8, c8, rfl, -, -, -, b8⟩ := h8.out wake_head0 rfl
  have B8 := B7.trans (b8.mono B7.size)
  have s8 := s7.on b8 b8.size
  have r8 := r7.on b8 b8.size
  have bz8 := bz7.below b8
  clear h8 b8 s7 r7 bz7 B7
  go_wp2_with fail
  obtain ⟨w9, hw9⟩ : ∃ w9, w9 = w8.alloc (.cells #[.int .i64 0, .int .i64 0, .int .i64 0] 40) := ⟨_, rfl⟩
  have b9 : Below w8.heap.size w8 w9 := by rw [hw9]; exact (Below.refl _ _).alloc (Nat.le_refl _) _
  have es9 : Es w9 w9.heap.size (some ⟨w8.heap.size, 0, none⟩) 1 [⟨0, 0, 0⟩] := by rw [hw9]; exact Es.made w8 ⟨0, 0, 0⟩ rfl
  obtain ⟨g9, hg9⟩ : ∃ g, g = w8.heap.size := ⟨_, rfl⟩
  have B9 := B8.trans (b9.mono B8.size)
  have s9 := s8.on b9 b9.size
  have r9 := r8.on b9 b9.size
  have bz9 := bz8.below b9
  rw [← hw9, ← hg9]
  rw [← hg9] at es9
  clear hw9 hg9 b9 s8 r8 bz8 B8
  refine (put_any _ 1 1 [⟨0, 0, 0⟩] w9 (HT.out.on B9) es9 (by omega)).mono ?_
  intro e wa ha
  obtain ⟨Aa, ca, rfl, -, -, -, ba⟩ := ha.out wake_put0 rfl
  have Ba := B9.trans (ba.mono B9.size)
  have sa := s9.on ba ba.size
  have ra := r9.on ba ba.size
  have bza := bz9.below ba
  clear ha ba s9 r9 bz9 B9 es9
  go_wp2_with fail
  obtain ⟨wb, hwb⟩ : ∃ wb, wb = wa.alloc (.cells #[.int .u8 2, .int .u8 0, .int .u8 0, .int .u8 0, .int .u8 0, .int .u8 5] 5) := ⟨_, rfl⟩
  have bb : Below wa.heap.size wa wb := by rw [hwb]; exact (Below.refl _ _).alloc (Nat.le_refl _) _
  have rb' : Rd wb wb.heap.size .u8 (some ⟨wa.heap.size, 0, none⟩) 6 [2, 0, 0, 0, 0, 5] := by rw [hwb]; exact Cr.Rd.made wa .u8 5 [2, 0, 0, 0, 0, 5] rfl
  obtain ⟨gb, hgb⟩ : ∃ g, g = wa.heap.size := ⟨_, rfl⟩
  have Bb := Ba.trans (bb.mono Ba.size)
  have sb := sa.on bb bb.size
  have rb := ra.on bb bb.size
  have bzb := bza.below bb
  rw [← hwb, ← hgb]
  rw [← hgb] at rb'
  clear hwb hgb bb sa ra bza Ba
  refine (scan_any _ 6 6 _ wb (HT.out.on Bb) rb' (byt_lit (by decide)) (by omega) (by omega)).mono ?_
  intro e wc hc
  obtain ⟨Ac, cc, rfl, -, -, bc⟩ := hc.out wake_scan2 (q := 0) rfl
  have Bc := Bb.trans (bc.mono Bb.size)
  have sc := sb.on bc bc.size
  have rc := rb.on bc bc.size
  have bzc := bzb.below bc
  clear hc bc sb rb bzb Bb rb'
  go_wp2_with fail
  obtain ⟨wd, hwd⟩ : ∃ wd, wd = wc.alloc (.cells #[.int .i64 0, .slice Ac 0 cc, .int .i64 0] 33) := ⟨_, rfl⟩
  obtain ⟨we, hwe⟩ : ∃ we, we = wd.alloc (.cells #[.int .u8 1, .int .u8 0, .int .u8 0, .int .u8 0, .int .u8 0, .int .u8 5] 5) := ⟨_, rfl⟩
  have be : Below wc.heap.size wc we := by rw [hwe, hwd]; exact below_al (below_al (below_d0 _) _) _
  have re' : Rd we we.heap.size .u8 (some ⟨wc.heap.size + 1, 0, none⟩) 6 [1, 0, 0, 0, 0, 5] := by rw [hwe]; exact Cr.Rd.made wd .u8 5 [1, 0, 0, 0, 0, 5] (by rw [hwd]; simp)
  obtain ⟨ge, hge⟩ : ∃ g, g = wc.heap.size + 1 := ⟨_, rfl⟩
  have Be := Bc.trans (be.mono Bc.size)
  have se := sc.on be be.size
  have re := rc.on be be.size
  have bze := bzc.below be
  rw [← hwd, ← hwe, ← hge]
  rw [← hge] at re'
  clear hwd hwe hge be sc rc bzc Bc
  have hsm := same_any A1 (some ⟨ge, 0, none⟩) 6 6 c1 6 _ _ we re re' (headL_byt 5) (byt_lit (by decide))
  rw [wake_headL, Cr.eqB_true rfl] at hsm
  refine hsm.mono ?_
  rintro e wf ⟨rfl, rfl⟩
  obtain ⟨d0, d1, d2⟩ := bze.cells
  obtain ⟨b6', o6, e6, hA6, -, he6, k0, k1, k2⟩ := se.at_ (k := 0) (by omega)
  obtain rfl : wakeE = e6 := by simpa using he6
  subst hA6
  have k2' : we.cell? ⟨b6', o6 + 2, none⟩ = some (.int .i64 7) := by simpa [wakeE] using k2
  clear hsm k0 k1 k2 he6
  go_wp2_with fail
  have hsz := size_any 1 we
  rw [wake_size] at hsz
  refine hsz.mono ?_
  rintro e wf ⟨rfl, rfl⟩
  clear hsz
  go_wp2_with fail
  go_ret
  exact ⟨rfl, Be⟩

end Go.Proofs.YtlblfpfdebmcgaaDoor
