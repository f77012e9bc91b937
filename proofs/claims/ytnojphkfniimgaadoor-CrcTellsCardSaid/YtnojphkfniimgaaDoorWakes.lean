/-
  moultlaw03.wakes: it returns true.
-/
import Derived.Test.YtnojphkfniimgaaDoorCalls
import Derived.Lib.SlBytesConst
namespace Go.Proofs.YtnojphkfniimgaaDoor
open Go.RowKit

theorem nine_sum : sumI [49, 50, 51, 52, 53, 54, 55, 56, 57] = 3808858755 := by decide +kernel
theorem noughts_sum : sumI (List.replicate 32 0) = 2324772522 := by decide +kernel
theorem nine_four : ([49, 50, 51, 52, 53, 54, 55, 56, 57] : List Int) ++ fourI (sumI [49, 50, 51, 52, 53, 54, 55, 56, 57]) = [49, 50, 51, 52, 53, 54, 55, 56, 57, 131, 146, 6, 227] := by decide +kernel
theorem thirteen_ok : okB [49, 50, 51, 52, 53, 54, 55, 56, 57, 131, 146, 6, 227] = true := by decide +kernel
theorem three_no : okB [1, 2, 3] = false := by decide +kernel

/-- The second constant text's conversion in one statement: its row is the second new block. -/
theorem conv_second (w : World) (o : Obj) (C : Array Value) (n c : Nat) : (convert 25 25 (.slice (some ⟨w.heap.size + 1, 0, none⟩) n c)).run Tryd.prog ((w.alloc o).alloc (.cells C 5)) = .ok (.slice (some ⟨w.heap.size + 1, 0, none⟩) n c) ((w.alloc o).alloc (.cells C 5 (C.size, C.size + 1))) := by
  have h := Lib.run_convert_bytes_const (P := Tryd.prog) (w.alloc o) 25 5 C n c Tryd.underlying25 Tryd.underlying5
  rwa [World.size_alloc] at h

theorem make_32 (w : World) : (Instr.makeSlice 25 (.int .i64 32) (.int .i64 32)).run Tryd.prog w = .ok (.slice (some ⟨w.heap.size, 0, none⟩) 32 32) (w.alloc (.cells ((List.replicate 32 (0 : Int)).map (Value.int .u8)).toArray 5)) := by kernel_rfl

set_option maxRecDepth 100000 in
set_option maxHeartbeats 1000000 in
theorem wakes_any (w : World) (hT : Tab w) : Calls Tryd.prog 8 #[] w fun e w' => e = .returned (.bool true) ∧ Below w.heap.size w w' := by
  obtain ⟨i0, hi, hz0, hz1, hz2⟩ := info_parts info_u8
  have kc := fun (w : World) (C : Array Value) (n c : Nat) => Lib.run_convert_bytes_const (P := Tryd.prog) w 25 5 C n c Tryd.underlying25 Tryd.underlying5
  have kc2 := conv_second
  have km := make_32
  go_enter Tryd.func8, Tryd.ntmps8
  go_wp2_with fail
  refine (put_out (n := 9) (c := 9) (l := [49, 50, 51, 52, 53, 54, 55, 56, 57]) _ (hT.alloc _) (Rd.const w .u8 5 [49, 50, 51, 52, 53, 54, 55, 56, 57] _ rfl) (byt_lit (by decide)) (by omega) (by omega)).mono ?_
  rintro e w1 ⟨⟨A1, c1, rfl, hc1, r1⟩, hb1⟩
  rw [nine_four] at r1
  have hB : Below w.heap.size w w1 := ((Below.refl _ w).alloc (Nat.le_refl _) _).trans (hb1.mono (by simp))
  clear hb1
  have hsz := hB.size
  go_wp2_with fail
  refine (take_yes _ (hT.on hB) r1 (byt_lit (by decide)) hc1 (by omega) thirteen_ok (q := 9) rfl (R := [49, 50, 51, 52, 53, 54, 55, 56, 57]) rfl).mono ?_
  rintro e w2 ⟨⟨A2, c2, rfl, hc2, r2⟩, hb⟩
  replace r1 := r1.on hb hb.size
  replace hB : Below w.heap.size w w2 := hB.trans (hb.mono hsz)
  clear hb hsz
  have hsz := hB.size
  go_wp2_with fail
  refine (take_no (n := 3) (c := 3) (l := [1, 2, 3]) _ ((hT.on hB).alloc _) (Rd.made w2 .u8 5 [1, 2, 3] rfl) (byt_lit (by decide)) (by omega) (by omega) three_no).mono ?_
  rintro e w3 ⟨rfl, hb⟩
  replace r1 := (r1.on ((Below.refl _ w2).alloc (Nat.le_refl _) _) (by simp)).on hb hb.size
  replace r2 := (r2.on ((Below.refl _ w2).alloc (Nat.le_refl _) _) (by simp)).on hb hb.size
  replace hB : Below w.heap.size w w3 := (hB.alloc hsz _).trans (hb.mono (by simp; omega))
  clear hb hsz
  have hsz := hB.size
  go_wp2_with fail
  refine (sum_three _ _ _ (by simp) (((hT.on hB).alloc _).alloc _) ((Rd.const w3 .u8 5 [49, 50, 51, 52] _ rfl).on ((Below.refl _ _).alloc (Nat.le_refl _) _) (by simp)) (byt_lit (by decide)) (by decide) (l' := []) Rd.nil (byt_lit (by decide)) (by omega) (Rd.const _ .u8 5 [53, 54, 55, 56, 57] _ (by simp)) (byt_lit (by decide)) (by decide)).mono ?_
  rintro e w4 ⟨rfl, hb⟩
  rw [show sumI ([49, 50, 51, 52] ++ ([] ++ [53, 54, 55, 56, 57])) = 3808858755 from nine_sum]
  replace hb : Below w3.heap.size w3 w4 := (((Below.refl _ w3).alloc (Nat.le_refl _) _).alloc (by simp) _).trans (hb.mono (by simp; omega))
  replace r1 := r1.on hb hb.size
  replace r2 := r2.on hb hb.size
  replace hB : Below w.heap.size w w4 := hB.trans (hb.mono hsz)
  clear hb hsz
  have hsz := hB.size
  go_wp2_with fail
  refine (sum_one (l := List.replicate 32 0) _ _ _ (by simp) ((hT.on hB).alloc _) (Rd.made w4 .u8 5 (List.replicate 32 0) rfl) (byt_lit (by decide)) (by decide)).mono ?_
  rintro e w5 ⟨rfl, hb⟩
  rw [noughts_sum]
  replace hb : Below w4.heap.size w4 w5 := ((Below.refl _ w4).alloc (Nat.le_refl _) _).trans (hb.mono (by simp))
  replace r1 := r1.on hb hb.size
  replace r2 := r2.on hb hb.size
  replace hB : Below w.heap.size w w5 := hB.trans (hb.mono hsz)
  clear hb hsz
  have hsz := hB.size
  go_wp2_with fail
  refine (sum_none _ (hT.on hB)).mono ?_
  rintro e w6 ⟨rfl, hb⟩
  replace r1 := r1.on hb hb.size
  replace r2 := r2.on hb hb.size
  replace hB : Below w.heap.size w w6 := hB.trans (hb.mono hsz)
  clear hb hsz
  have hsz := hB.size
  obtain ⟨b, off, rfl, hbl, hcell⟩ := r1.at_ (by omega)
  have h9 := hcell 9 (by omega)
  have h12 := hcell 12 (by omega)
  clear hcell
  go_wp2_with fail
  refine (same_true _ (r2.below ((Below.refl _ w6).alloc (Nat.le_refl _) _) |>.more (by simp)) (Rd.const w6 .u8 5 [49, 50, 51, 52, 53, 54, 55, 56, 57] _ rfl) (byt_lit (by decide)) rfl).mono ?_
  obtain ⟨u, hu⟩ : ∃ u, u = w6.alloc (.cells (([49, 50, 51, 52, 53, 54, 55, 56, 57] : List Int).map (Value.int .u8)).toArray 5 (9, 10)) := ⟨_, rfl⟩
  replace hB : Below w.heap.size w u := hu ▸ hB.alloc hsz _
  have hv : w6.alloc (.cells (([49, 50, 51, 52, 53, 54, 55, 56, 57] : List Int).map (Value.int .u8)).toArray 5 (9, 10)) = u := hu.symm
  rintro e w' ⟨rfl, hw'⟩
  obtain rfl : u = w' := hu.trans hw'
  clear hsz hv hw' hu
  have hsz := hB.size
  go_wp2_with fail
  refine (step_out 0 8 _ (hT.on hB) (by omega) (by omega)).mono ?_
  rintro e w7 ⟨rfl, hb⟩
  rw [show ((stepN (0 : Int).toNat (8 : Int).toNat : Nat) : Int) = 2197175160 by decide +kernel]
  replace hB : Below w.heap.size w w7 := hB.trans (hb.mono hsz)
  clear hb hsz
  go_wp2_with fail
  go_ret
  exact ⟨rfl, hB⟩

end Go.Proofs.YtnojphkfniimgaaDoor
