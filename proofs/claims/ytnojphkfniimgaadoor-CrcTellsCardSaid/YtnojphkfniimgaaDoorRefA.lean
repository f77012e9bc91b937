/-
  moultref03: Step, Next, Sum, Four: their contracts.
-/
import Derived.Test.YtnojphkfniimgaaDoorCrcP
import Derived.Test.YtnojphkfniimgaaDoorParts
import Derived.WalkLawsBesides
import Derived.Laws.BitsAllLaws
import Derived.Laws.BitsLemmas
import Derived.Deep.QuietTactic
import Derived.BigQuiet
import Derived.Outline
namespace Go.Proofs.YtnojphkfniimgaaDoor
open Go.RowKit

theorem u32_nat (a : Nat) (ha : a < 4294967296) : (BitVec.ofInt 32 (a : Int)).toNat = a := by
  rw [BitVec.ofInt_natCast, BitVec.toNat_ofNat]
  omega
theorem u32_xor_nat (a b : Nat) (ha : a < 4294967296) (hb : b < 4294967296) : bits .xor .u32 (a : Int) (b : Int) = ((a ^^^ b : Nat) : Int) := by
  have hx : a ^^^ b < 4294967296 := Nat.xor_lt_two_pow (n := 32) ha hb
  show IntKind.u32.wrap ((BitVec.ofInt 32 (a : Int) ^^^ BitVec.ofInt 32 (b : Int)).toNat : Int) = _
  rw [BitVec.toNat_xor, u32_nat a ha, u32_nat b hb, IntKind.wrap_u32]
  omega
theorem u32_xor {x y : Int} (hx : 0 ≤ x ∧ x < 4294967296) (hy : 0 ≤ y ∧ y < 4294967296) : ∃ z : Int, bits .xor .u32 x y = z ∧ (0 ≤ z ∧ z < 4294967296) ∧ z.toNat = x.toNat ^^^ y.toNat := by
  have e := u32_xor_nat x.toNat y.toNat (by omega) (by omega)
  rw [show ((x.toNat : Nat) : Int) = x by omega, show ((y.toNat : Nat) : Int) = y by omega] at e
  have hlt : x.toNat ^^^ y.toNat < 4294967296 := Nat.xor_lt_two_pow (n := 32) (by omega) (by omega)
  exact ⟨_, e, by omega, by omega⟩
/-- A sum, as a value. -/
def sumV (n : Nat) : Value := .int .u32 (n : Int)
def Is32 (x : Int) (n : Nat) : Prop := (0 ≤ x ∧ x < 4294967296) ∧ x.toNat = n
theorem turns_succ (k s : Nat) : turns (k + 1) s = turn (turns k s) := by rw [turns_add]; rfl

set_option maxRecDepth 100000 in
set_option maxHeartbeats 400000 in
theorem rstep_any (s h : Int) (w : World) (hs : 0 ≤ s ∧ s < 4294967296) (hh : 0 ≤ h ∧ h ≤ 255) :
    Calls Tryd.prog 17 #[.int .u32 s, .int .u8 h] w fun e w' => (∃ x, e = .returned (.int .u32 x) ∧ Is32 x (stepN s.toNat h.toNat)) ∧ w = w' := by
  obtain ⟨z, hz, hz0, hz1⟩ := u32_xor hs (show 0 ≤ h % 16 ∧ h % 16 < 4294967296 by omega)
  have Hz := Lib.hid (show Is32 z (turns 0 (s.toNat ^^^ h.toNat % 16)) from ⟨hz0, by rw [hz1]; show _ = s.toNat ^^^ h.toNat % 16; congr 1; omega⟩)
  clear hz1
  go_enter Tryd.func17, Tryd.ntmps17
  go_wp2
  go_loop [0, 5] (fun x i => ∃ (k : Nat) (y : Int), k ≤ 4 ∧ i = .int .i64 k ∧ x = .int .u32 y ∧ Is32 y (turns k (s.toNat ^^^ h.toNat % 16))) (fun _ i => 4 - (intOf i).toNat)
  case atStart => exact ⟨0, _, by omega, rfl, rfl, Hz.out⟩
  case round =>
    obtain ⟨k, y, hk, rfl, rfl, ⟨hy0, hy1⟩, hy2⟩ := hrel
    have Hy := Lib.hid hy2
    clear hy2 hz
    by_cases hlt : k < 4
    · obtain ⟨u, hu, hu0, hu1⟩ := u32_xor (show 0 ≤ y / 2 ∧ y / 2 < 4294967296 by omega) (show (0 : Int) ≤ 2197175160 ∧ (2197175160 : Int) < 4294967296 by omega)
      have Hu := Lib.hid hu1
      clear hu1
      by_cases hodd : y % 2 = 1
      · have hd : (y % 2 == 1) = true := by simpa using hodd
        have Ho : Hid (turns (k + 1) (s.toNat ^^^ h.toNat % 16) = u.toNat) := by
          show turns (k + 1) _ = _
          rw [turns_succ, ← Hy.out, Hu.out]
          unfold turn
          rw [if_pos (by omega)]
          congr 1
          omega
        clear hodd
        go_wp2
        go_round
        case rel => exact ⟨k + 1, _, by omega, by go_num, rfl, hu0, Ho.out.symm⟩
        case measure => simp [intOf]; omega
      · have hd : (y % 2 == 1) = false := by simpa using hodd
        have Ho : Hid (turns (k + 1) (s.toNat ^^^ h.toNat % 16) = (y / 2).toNat) := by
          show turns (k + 1) _ = _
          rw [turns_succ, ← Hy.out]
          unfold turn
          rw [if_neg (by omega)]
          omega
        clear hodd
        go_wp2
        go_round
        case rel => exact ⟨k + 1, _, by omega, by go_num, rfl, by omega, Ho.out.symm⟩
        case measure => simp [intOf]; omega
    · obtain rfl : k = 4 := by omega
      go_wp2
      go_ret
      exact ⟨⟨_, rfl, ⟨hy0, hy1⟩, Hy.out⟩, rfl⟩


/-! ### Rows -/
def natL (l : List Int) : List Nat := l.map Int.toNat
theorem natL_byt {l : List Int} (h : Byt l) : BytN (natL l) := fun x hx => by
  obtain ⟨y, hy, rfl⟩ := List.mem_map.1 hx
  have := h y hy
  omega
theorem natL_append (l m : List Int) : natL (l ++ m) = natL l ++ natL m := List.map_append
theorem rowN_snoc (s : Nat) (l : List Nat) (b : Nat) : rowN s (l ++ [b]) = byteN (rowN s l) b := by rw [rowN_append]; rfl
/-- Not, of 32 bits. -/
theorem u32_not {x : Int} (hx : 0 ≤ x ∧ x < 4294967296) : ∃ z, bits .xor .u32 IntKind.u32.max x = z ∧ Is32 z (notN x.toNat) := by
  have h := u32_xor_nat 4294967295 x.toNat (by omega) (by omega)
  rw [show ((x.toNat : Nat) : Int) = x by omega, Nat.xor_comm, ← notN_xor (by omega)] at h
  have hl := notN_lt x.toNat
  exact ⟨_, h, by omega, by omega⟩
theorem rstep_q (s h : Int) (hs : 0 ≤ s ∧ s < 4294967296) (hh : 0 ≤ h ∧ h ≤ 255) :
    ∃ x, Is32 x (stepN s.toNat h.toNat) ∧ ∀ w, Calls Tryd.prog 17 #[.int .u32 s, .int .u8 h] w fun e w' => e = .returned (.int .u32 x) ∧ w' = w := by
  refine ⟨((stepN s.toNat h.toNat : Nat) : Int), ⟨by have := stepN_lt h.toNat (s := s.toNat) (by omega); omega, by omega⟩, fun w => ?_⟩
  refine (rstep_any s h w hs hh).mono fun e w' ⟨⟨x, he, hx⟩, hw⟩ => ⟨?_, hw.symm⟩
  rw [he, show x = ((stepN s.toNat h.toNat : Nat) : Int) by have := hx.1; have := hx.2; omega]

set_option maxRecDepth 100000 in
set_option maxHeartbeats 800000 in
theorem rnext_any (s : Int) (A : Option Addr) (n c : Nat) (l : List Int) (w : World) (hs : 0 ≤ s ∧ s < 4294967296) (hr : Rd w w.heap.size .u8 A n l) (hb : Byt l) (hn : n ≤ 140737488355328) :
    Calls Tryd.prog 12 #[.int .u32 s, .slice A n c] w fun e w' => (∃ x, e = .returned (.int .u32 x) ∧ Is32 x (nextN s.toNat (natL l))) ∧ Below w.heap.size w w' := by
  have Hl := Lib.hid hr.1
  obtain ⟨s0, h0, ⟨s1, s2⟩, s3⟩ := u32_not hs
  have Hs := Lib.hid s3
  clear s3
  go_enter Tryd.func12, Tryd.ntmps12
  go_wp2
  go_loopw [0, 5] (fun x i wr => ∃ (k : Nat) (y : Int), k ≤ n ∧ i = .int .i64 k ∧ x = .int .u32 y ∧ Is32 y (rowN (notN s.toNat) (natL (l.take k))) ∧ Below w.heap.size w wr) (fun _ i _ => n - (intOf i).toNat)
  case atStart => exact ⟨0, _, Nat.zero_le _, rfl, rfl, ⟨⟨s1, s2⟩, Hs.out⟩, Below.refl _ _⟩
  case round =>
    obtain ⟨k, y, hk, rfl, rfl, ⟨hy, hy2⟩, hB⟩ := hrel
    have Hy := Lib.hid hy2
    clear hy2
    by_cases hlt : k < n
    · obtain ⟨b, off, rfl, hbl, hc⟩ := (hr.on hB hB.size).at_ (by omega)
      have hck := hc k hlt
      have hx := hb.at_ k
      have Hsn := Lib.hid (take_snoc (l := l) (k := k) (by rw [Hl.out]; exact hlt))
      clear hc
      obtain ⟨u, hu, hcu⟩ := rstep_q y (l[k]?.getD 0 % 16) hy (by omega)
      obtain ⟨v, hv, hcv⟩ := rstep_q u (l[k]?.getD 0 / 16) hu.1 (by omega)
      have Hv : Hid (Is32 v (rowN (notN s.toNat) (natL (l.take (k + 1))))) := by
        rw [Hsn.out, natL_append, show natL [l[k]?.getD 0] = [(l[k]?.getD 0).toNat] from rfl, rowN_snoc, ← Hy.out]
        have e : byteN y.toNat (l[k]?.getD 0).toNat = stepN u.toNat (l[k]?.getD 0 / 16).toNat := by
          unfold byteN
          rw [hu.2]
          congr 1
          · congr 1; omega
          · omega
        rw [e]
        exact hv
      have Hcu := Lib.hid hcu
      have Hcv := Lib.hid hcv
      have hul := hu.1
      clear hcu hcv hu hv
      go_wp2_with fail
      go_quiet (first | (with_reducible exact Calls.quiet_of_same (Hcu.out _)) | (with_reducible exact Calls.quiet_of_same (Hcv.out _)))
      go_wp2_with fail
      go_roundw
      case rel => exact ⟨k + 1, v, by omega, by go_num, rfl, Hv.out, below_drewN hB _⟩
      case measure => simp [intOf]; omega
    · obtain rfl : k = n := by omega
      have hf : Is32 y (rowN (notN s.toNat) (natL l)) := by
        have h1 := Hy.out
        rw [List.take_of_length_le (by rw [Hl.out]; exact Nat.le_refl _)] at h1
        exact ⟨hy, h1⟩
      obtain ⟨z, hz, z0, z1⟩ := u32_not hy
      have Hf : Hid (Is32 z (nextN s.toNat (natL l))) := ⟨z0, by rw [z1, hf.2]; rfl⟩
      clear hf z1
      go_wp2
      go_ret
      exact ⟨⟨_, rfl, Hf.out⟩, hB⟩

/-- Sums of parts. -/
theorem natL_take {ps : List Part} {k : Nat} {q : Part} (h : ps[k]? = some q) : natL (flat (ps.take (k + 1))) = natL (flat (ps.take k)) ++ natL q.l := by rw [flat_take h, natL_append]

set_option maxRecDepth 100000 in
set_option maxHeartbeats 800000 in
theorem rsum_any (A : Option Addr) (n c : Nat) (ps : List Part) (w : World) (hr : Rds w w.heap.size A n ps) (hn : n ≤ 140737488355328) :
    Calls Tryd.prog 19 #[.slice A n c] w fun e w' => (∃ x, e = .returned (.int .u32 x) ∧ Is32 x (sumN (natL (flat ps)))) ∧ Below w.heap.size w w' := by
  have Hl := Lib.hid hr.len
  go_enter Tryd.func19, Tryd.ntmps19
  go_wp2
  go_loopw [3, 4] (fun x i wr => ∃ (k : Nat) (y : Int), k ≤ n ∧ i = .int .i64 k ∧ x = .int .u32 y ∧ Is32 y (sumN (natL (flat (ps.take k)))) ∧ Below w.heap.size w wr) (fun _ i _ => n - (intOf i).toNat)
  case atStart => exact ⟨0, 0, Nat.zero_le _, rfl, rfl, ⟨by omega, by rw [List.take_zero]; rfl⟩, Below.refl _ _⟩
  case round =>
    obtain ⟨k, y, hk, rfl, rfl, ⟨hy, hy2⟩, hB⟩ := hrel
    have Hy := Lib.hid hy2
    clear hy2
    by_cases hlt : k < n
    · obtain ⟨bl, off, q, rfl, hbl, hq, hc, hrq, hbq, hnq⟩ := (hr.on hB hB.size).at_ hlt
      have Hq := Lib.hid (natL_take hq)
      clear hq
      have hsz := hB.size
      go_wp2_with fail
      refine (rnext_any y _ _ _ q.l _ hy hrq hbq hnq).mono ?_
      rintro e w1 ⟨⟨x, rfl, hx⟩, hb1⟩
      have Hx : Hid (Is32 x (sumN (natL (flat (ps.take (k + 1)))))) := by
        rw [Hq.out]
        unfold sumN
        rw [nextN_append]
        rw [Hy.out] at hx
        exact hx
      clear hx
      go_wp2_with fail
      go_roundw
      case rel => exact ⟨k + 1, x, by omega, by go_num, rfl, Hx.out, hB.trans (hb1.mono hsz)⟩
      case measure => simp [intOf]; omega
    · obtain rfl : k = n := by omega
      have hf : Is32 y (sumN (natL (flat ps))) := by
        have h1 := Hy.out
        rw [List.take_of_length_le (by rw [Hl.out]; exact Nat.le_refl _)] at h1
        exact ⟨hy, h1⟩
      have Hf := Lib.hid hf
      clear hf
      go_wp2
      go_ret
      exact ⟨⟨_, rfl, Hf.out⟩, hB⟩

/-- A sum's four bytes, as whole numbers. -/
def fourI (s : Int) : List Int := [s % 256, s / 256 % 256, s / 65536 % 256, s / 16777216]

set_option maxRecDepth 100000 in
set_option maxHeartbeats 400000 in
theorem rfour_any (s : Int) (w : World) (hs : 0 ≤ s ∧ s < 4294967296) :
    Calls Tryd.prog 21 #[.int .u32 s] w fun e w' => e = .returned (.agg #[.int .u8 (s % 256), .int .u8 (s / 256 % 256), .int .u8 (s / 65536 % 256), .int .u8 (s / 16777216)]) ∧ Below w.heap.size w w' := by
  go_enter Tryd.func21, Tryd.ntmps21
  go_wp2
  exact bodyPost_ret (v := .agg #[.int .u8 (s % 256), .int .u8 (s / 256 % 256), .int .u8 (s / 65536 % 256), .int .u8 (s / 16777216)]) (by simp [results, Tryd.results21, go_sem]) rfl ⟨rfl, (Below.refl _ _).alloc (Nat.le_refl _) _⟩

end Go.Proofs.YtnojphkfniimgaaDoor
