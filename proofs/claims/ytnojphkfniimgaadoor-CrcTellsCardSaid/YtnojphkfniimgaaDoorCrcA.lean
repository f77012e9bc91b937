/-
  crc.Step, crc.Four, bytes.Equal, bytes.Clone: their contracts.
-/
import Derived.Test.YtnojphkfniimgaaDoorTab
import Derived.Test.YtnojphkfniimgaaDoorRefB
import Derived.Laws.Slices
import Derived.WalkSpells
namespace Go.Proofs.YtnojphkfniimgaaDoor
open Go.RowKit

theorem u32_and15 {z : Int} (hz : 0 ≤ z ∧ z < 4294967296) : bits .and .u32 z 15 = z % 16 := by
  obtain ⟨m, rfl⟩ : ∃ m : Nat, z = (m : Int) := ⟨z.toNat, by omega⟩
  show IntKind.u32.wrap ((BitVec.ofInt 32 (m : Int) &&& BitVec.ofInt 32 ((15 : Nat) : Int)).toNat : Int) = _
  rw [BitVec.toNat_and, u32_nat m (by omega), u32_nat 15 (by omega), IntKind.wrap_u32, show (15 : Nat) = 2 ^ 4 - 1 from rfl, Nat.and_two_pow_sub_one_eq_mod]
  omega

set_option maxRecDepth 100000 in
set_option maxHeartbeats 400000 in
theorem step_still (s h : Int) (w : World) (hT : Tab w) (hs : 0 ≤ s ∧ s < 4294967296) (hh : 0 ≤ h ∧ h ≤ 255) :
    Calls Tryd.prog 16 #[.int .u32 s, .int .u8 h] w fun e w' => (∃ x, e = .returned (.int .u32 x) ∧ Is32 x (stepN s.toNat h.toNat)) ∧ w = w' := by
  obtain ⟨z, hz, hz0, hz1⟩ := u32_xor hs (show 0 ≤ h % 16 ∧ h % 16 < 4294967296 by omega)
  obtain ⟨k, hk⟩ : ∃ k : Nat, z % 16 = (k : Int) := ⟨(z % 16).toNat, by omega⟩
  have hk16 : k < 16 := by omega
  have hc := hT.2 k hk16
  have hlt := turns_lt 4 (show k < 4294967296 by omega)
  obtain ⟨y, hy, hy0, hy1⟩ := u32_xor (show 0 ≤ z / 16 ∧ z / 16 < 4294967296 by omega) (show (0 : Int) ≤ ((turns 4 k : Nat) : Int) ∧ ((turns 4 k : Nat) : Int) < 4294967296 by omega)
  have Hy : Hid (Is32 y (stepN s.toNat h.toNat)) := by
    refine ⟨hy0, ?_⟩
    have e1 : s.toNat ^^^ h.toNat % 16 = z.toNat := by rw [hz1]; congr 1; omega
    have e2 : z.toNat % 16 = k := by omega
    have e3 : (z / 16).toNat = z.toNat / 16 := by omega
    have e4 : stepN s.toNat h.toNat = turns 4 z.toNat := by rw [stepN, e1]
    rw [hy1, e4, turns_four z.toNat, e2, e3, Int.toNat_natCast, Nat.xor_comm]
  have hand : bits .and .u32 z 15 = (k : Int) := by rw [u32_and15 hz0, hk]
  clear hz1 hy1 hk
  go_enter Tryd.func16, Tryd.ntmps16
  go_wp2
  go_ret
  exact ⟨⟨_, rfl, Hy.out⟩, rfl⟩

theorem step_c (s h : Int) (w : World) (hT : Tab w) (hs : 0 ≤ s ∧ s < 4294967296) (hh : 0 ≤ h ∧ h ≤ 255) :
    Calls Tryd.prog 16 #[.int .u32 s, .int .u8 h] w fun e w' => (∃ x, e = .returned (.int .u32 x) ∧ Is32 x (stepN s.toNat h.toNat)) ∧ Below w.heap.size w w' :=
  (step_still s h w hT hs hh).mono fun e w' ⟨h1, h2⟩ => by subst h2; exact ⟨h1, Below.refl _ _⟩

set_option maxRecDepth 100000 in
set_option maxHeartbeats 400000 in
theorem four_c (s : Int) (w : World) (hs : 0 ≤ s ∧ s < 4294967296) :
    Calls Tryd.prog 20 #[.int .u32 s] w fun e w' => e = .returned (.agg #[.int .u8 (s % 256), .int .u8 (s / 256 % 256), .int .u8 (s / 65536 % 256), .int .u8 (s / 16777216)]) ∧ Below w.heap.size w w' := by
  go_enter Tryd.func20, Tryd.ntmps20
  go_wp2
  exact bodyPost_ret (v := .agg #[.int .u8 (s % 256), .int .u8 (s / 256 % 256), .int .u8 (s / 65536 % 256), .int .u8 (s / 16777216)]) (by simp [results, Tryd.results20, go_sem]) rfl ⟨rfl, (Below.refl _ _).alloc (Nat.le_refl _) _⟩

set_option maxRecDepth 100000 in
set_option maxHeartbeats 400000 in
/-- bytes.Equal: the same bytes? -/
theorem equal_any (A A' : Option Addr) (n n' c c' : Nat) (l m : List Int) (w : World) (hr : Rd w w.heap.size .u8 A n l) (hr' : Rd w w.heap.size .u8 A' n' m) (hl : Byt l) (hm : Byt m) :
    Calls Tryd.prog 22 #[.slice A n c, .slice A' n' c'] w fun e w' => e = .returned (.bool (eqB l m)) ∧ w' = w := by
  have q1 := run_txt (P := Tryd.prog) (c := c) 25 9 5 Tryd.underlying25 Tryd.underlying5 Tryd.underlying9 hr
  have q2 := run_txt (P := Tryd.prog) (c := c') 25 9 5 Tryd.underlying25 Tryd.underlying5 Tryd.underlying9 hr'
  have H := Lib.hid (txt_beq hl hm)
  clear hr hr' hl hm
  go_enter Tryd.func22, Tryd.ntmps22
  go_wp2
  go_ret
  exact ⟨ret_bool H.out, rfl⟩

set_option maxRecDepth 100000 in
set_option maxHeartbeats 400000 in
/-- bytes.Clone of a slice that is there: its bytes, in new memory. -/
theorem clone_some (a : Addr) (n c : Nat) (l : List Int) (w : World) (hr : Rd w w.heap.size .u8 (some a) n l) (hn : n ≤ 1048576) :
    Calls Tryd.prog 23 #[.slice (some a) n c] w fun e w' => (∃ A' c', e = .returned (.slice A' n c') ∧ n ≤ c' ∧ Rd w' w'.heap.size .u8 A' n l) ∧ Below w.heap.size w w' := by
  obtain ⟨i0, hi, hz0, hz1, hz2⟩ := info_parts info_u8
  have hq : (binOp .eql 25 (.slice (some a) n c) (.slice none 0 0)).run Tryd.prog w = .ok (.bool false) w := by
    simp only [binOp]
    simp [Op.equal, Op.maxDepth, Lib.run_equalIn_slice_nil w 9999 25 5 (some a) n c 0 0 Tryd.underlying25]
  go_enter Tryd.func23, Tryd.ntmps23
  go_wp2_with (at_builtin; refine hold ?_)
  refine unhold (wpList_append_rd (.tmp 5) (.tmp 6) 25 Tryd.underlying25 hi hz0 hz1 hz2 byte_cells (own_empty w w.heap.size 5 (Nat.le_refl _)) (hr.below ((Below.refl _ w).alloc (Nat.le_refl _) _)) (by unfold maxLen; omega) (by omega) (by simp) rfl rfl rfl rfl ?_)
  intro v1 w5 L3
  have hb5 : Below w.heap.size w w5 := L3.below ((Below.refl _ w).alloc (Nat.le_refl _) _) (by simp) (fun g hg => by simp [Value.ownBlock] at hg; omega)
  have own := L3.1
  rw [Nat.zero_add, List.nil_append] at own
  obtain ⟨A', c', rfl, hc', hr'⟩ := own_rd own
  clear L3 own
  go_wp2_with fail
  go_ret
  exact ⟨⟨A', c', rfl, hc', hr'⟩, hb5⟩

end Go.Proofs.YtnojphkfniimgaaDoor
