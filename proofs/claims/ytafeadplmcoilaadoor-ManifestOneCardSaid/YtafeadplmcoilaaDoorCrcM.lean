/-
  Sums: crc's contracts (stage 3's texts, as one).
-/
import Derived.Test.YtafeadplmcoilaaDoorRows
import Derived.Test.YtafeadplmcoilaaDoorBase
import Derived.LaidMore
import Derived.Lib.LaidTab
import Derived.ProofKit
import Derived.Laws.Slices
import Derived.WalkSpells
import Derived.RangeFuncNested
import Derived.RangeFuncBound
import Derived.RangeFuncCalls
import Derived.RangeFuncLeaves
import Derived.RangeFuncBox
import Derived.Shelf.Abstract
import Derived.Shelf.RegionOpen
import Derived.OwnWalkIn
import Derived.TacticsInMore
import Derived.LoopNIn
import Derived.LoopIn
import Derived.Test.YtafeadplmcoilaaDoorMarks
import Derived.Scope
import Derived.ScopeJumps
import Derived.WalkMore
import Derived.Outline
import Derived.Test.YtafeadplmcoilaaDoorCrcR
namespace Go.Proofs.YtafeadplmcoilaaDoor.Cr
open Go.RowKit

def tabL : List Int := [0, 274646895, 549293790, 820201905, 1098587580, 1361435347, 1640403810, 1905808397, 2197175160, 2460548119, 2722870694, 2987750089, 3280807620, 3553878443, 3811616794, 4084100981]
theorem gRows : Tryd.prog.globalNamed "moult/crc.rows" = some 0 := by kernel_rfl
theorem tRows : (Tryd.prog.globals[0]?).map (·.type) = some 113 := by kernel_rfl
theorem cells_u32 : Tryd.prog.cellsOf 86 = 1 := by kernel_rfl
theorem cells_tab : Tryd.prog.cellsOf 113 = 16 := by kernel_rfl

/-- The variable holds the sixteen rows. -/
def Tab (w : World) : Prop := 0 < w.heap.size ∧ ∀ i, i < 16 → w.cell? ⟨0, i, none⟩ = some (.int .u32 ((turns 4 i : Nat) : Int))
theorem Tab.on {w w' : World} (h : Tab w) (hb : Below w.heap.size w w') : Tab w' :=
  ⟨Nat.lt_of_lt_of_le h.1 hb.size, fun i hi => (hb.cell (p := ⟨0, i, none⟩) h.1).trans (h.2 i hi)⟩
theorem tab_turns : ∀ i : Fin 16, tabL[i.1]? = some ((turns 4 i.1 : Nat) : Int) := by decide +kernel
theorem of_laid {W : World} (h : laidMetH Tryd.prog [("moult/crc.rows", Rows.laid_moult_crc_rows)] W) : Tab W := by
  rw [MakeChecks.laidMetH_plain _ _ _ (by kernel_rfl)] at h
  have h1 : Lib.TabIs Tryd.prog W "moult/crc.rows" .u32 tabL := Lib.tabIs_of_head gRows tRows Tryd.underlying113 Tryd.underlying86 cells_u32 cells_tab h
  have hc : ∀ i, i < 16 → W.cell? ⟨0, i, none⟩ = some (.int .u32 ((turns 4 i : Nat) : Int)) := by
    intro i hi
    have h2 := World.var?_cell gRows h1 i
    rw [h2]
    have h3 := tab_turns ⟨i, hi⟩
    simp only [List.getElem?_toArray, List.getElem?_map, h3, Option.map_some]
  exact ⟨World.block_lt_of_cell? W _ (hc 0 (by omega)), hc⟩
/-- The door's own heap meets the condition. -/
theorem door_met (os : Os) (args : Array Value) : laidMetH Tryd.prog [("moult/crc.rows", Rows.laid_moult_crc_rows)] ((World.doorLaid Tryd.prog 400 os).forCall (fun _ _ => 0) ⟨#[], args, []⟩).memory :=
  laidMetH_of_parts3 (fuel := 8) (laidMet_of_run' 8 (by kernel_rfl) (by kernel_rfl)) (by kernel_rfl) (by kernel_rfl)
end Go.Proofs.YtafeadplmcoilaaDoor.Cr

namespace Go.Proofs.YtafeadplmcoilaaDoor.Cr
open Go.RowKit

theorem u32_and15 {z : Int} (hz : 0 ≤ z ∧ z < 4294967296) : bits .and .u32 z 15 = z % 16 := by
  obtain ⟨m, rfl⟩ : ∃ m : Nat, z = (m : Int) := ⟨z.toNat, by omega⟩
  show IntKind.u32.wrap ((BitVec.ofInt 32 (m : Int) &&& BitVec.ofInt 32 ((15 : Nat) : Int)).toNat : Int) = _
  rw [BitVec.toNat_and, u32_nat m (by omega), u32_nat 15 (by omega), IntKind.wrap_u32, show (15 : Nat) = 2 ^ 4 - 1 from rfl, Nat.and_two_pow_sub_one_eq_mod]
  omega

set_option maxRecDepth 100000 in
set_option maxHeartbeats 400000 in
theorem step_still (s h : Int) (w : World) (hT : Tab w) (hs : 0 ≤ s ∧ s < 4294967296) (hh : 0 ≤ h ∧ h ≤ 255) :
    Calls Tryd.prog 73 #[.int .u32 s, .int .u8 h] w fun e w' => (∃ x, e = .returned (.int .u32 x) ∧ Is32 x (stepN s.toNat h.toNat)) ∧ w = w' := by
  obtain ⟨z, hz, hz0, hz1⟩ := u32_xor hs (show 0 ≤ h % 16 ∧ h % 16 < 4294967296 by omega)
  obtain ⟨k, hk⟩ : ∃ k : Nat, z % 16 = (k : Int) := ⟨(z % 16).toNat, by omega⟩
  have hk16 : k < 16 := by omega
  have hc := hT.2 k hk16
  have hlt := turns_lt 4 (show k < 4294967296 by omega)
  obtain ⟨y, hy, hy0, hy1⟩ := u32_xor (show 0 ≤ z / 16 ∧ z / 16 < 4294967296 by omega) (show (0 : Int) ≤ ((turns 4 k : Nat) : Int) ∧ ((turns 4 k : Nat) : Int) < 4294967296 by omega)
  have Hy : Hid (Is32 y (stepN s.toNat h.toNat)) := by
    refine ⟨hy0, ?_⟩
    have e1 : s.toNat ^^^ h.toNat % 16 = z.toNat := by rw [hz1]; congr 1; omega
    have e2 : z.toNat % 16 = k := by omega
    have e3 : (z / 16).toNat = z.toNat / 16 := by omega
    have e4 : stepN s.toNat h.toNat = turns 4 z.toNat := by rw [stepN, e1]
    rw [hy1, e4, turns_four z.toNat, e2, e3, Int.toNat_natCast, Nat.xor_comm]
  have hand : bits .and .u32 z 15 = (k : Int) := by rw [u32_and15 hz0, hk]
  clear hz1 hy1 hk
  go_enter Tryd.func73, Tryd.ntmps73
  go_wp2
  go_ret
  exact ⟨⟨_, rfl, Hy.out⟩, rfl⟩

theorem step_c (s h : Int) (w : World) (hT : Tab w) (hs : 0 ≤ s ∧ s < 4294967296) (hh : 0 ≤ h ∧ h ≤ 255) :
    Calls Tryd.prog 73 #[.int .u32 s, .int .u8 h] w fun e w' => (∃ x, e = .returned (.int .u32 x) ∧ Is32 x (stepN s.toNat h.toNat)) ∧ Below w.heap.size w w' :=
  (step_still s h w hT hs hh).mono fun e w' ⟨h1, h2⟩ => by subst h2; exact ⟨h1, Below.refl _ _⟩

set_option maxRecDepth 100000 in
set_option maxHeartbeats 400000 in
theorem four_c (s : Int) (w : World) (hs : 0 ≤ s ∧ s < 4294967296) :
    Calls Tryd.prog 52 #[.int .u32 s] w fun e w' => e = .returned (.agg #[.int .u8 (s % 256), .int .u8 (s / 256 % 256), .int .u8 (s / 65536 % 256), .int .u8 (s / 16777216)]) ∧ Below w.heap.size w w' := by
  go_enter Tryd.func52, Tryd.ntmps52
  go_wp2
  exact bodyPost_ret (v := .agg #[.int .u8 (s % 256), .int .u8 (s / 256 % 256), .int .u8 (s / 65536 % 256), .int .u8 (s / 16777216)]) (by simp [results, Tryd.results52, go_sem]) rfl ⟨rfl, (Below.refl _ _).alloc (Nat.le_refl _) _⟩

set_option maxRecDepth 100000 in
set_option maxHeartbeats 400000 in
/-- bytes.Equal: the same bytes? -/
theorem equal_any (A A' : Option Addr) (n n' c c' : Nat) (l m : List Int) (w : World) (hr : Rd w w.heap.size .u8 A n l) (hr' : Rd w w.heap.size .u8 A' n' m) (hl : Byt l) (hm : Byt m) :
    Calls Tryd.prog 57 #[.slice A n c, .slice A' n' c'] w fun e w' => e = .returned (.bool (eqB l m)) ∧ w' = w := by
  have q1 := run_txt (P := Tryd.prog) (c := c) 27 9 5 Tryd.underlying27 Tryd.underlying5 Tryd.underlying9 hr
  have q2 := run_txt (P := Tryd.prog) (c := c') 27 9 5 Tryd.underlying27 Tryd.underlying5 Tryd.underlying9 hr'
  have H := Lib.hid (txt_beq hl hm)
  clear hr hr' hl hm
  go_enter Tryd.func57, Tryd.ntmps57
  go_wp2
  go_ret
  exact ⟨ret_bool H.out, rfl⟩

set_option maxRecDepth 100000 in
set_option maxHeartbeats 400000 in
/-- bytes.Clone of a slice that is there: its bytes, in new memory. -/
theorem clone_some (a : Addr) (n c : Nat) (l : List Int) (w : World) (hr : Rd w w.heap.size .u8 (some a) n l) (hn : n ≤ 1048576) :
    Calls Tryd.prog 58 #[.slice (some a) n c] w fun e w' => (∃ A' c', e = .returned (.slice A' n c') ∧ n ≤ c' ∧ Rd w' w'.heap.size .u8 A' n l) ∧ Below w.heap.size w w' := by
  obtain ⟨i0, hi, hz0, hz1, hz2⟩ := info_parts info_u8
  have hq : (binOp .eql 27 (.slice (some a) n c) (.slice none 0 0)).run Tryd.prog w = .ok (.bool false) w := by
    simp only [binOp]
    simp [Op.equal, Op.maxDepth, Lib.run_equalIn_slice_nil w 9999 27 5 (some a) n c 0 0 Tryd.underlying27]
  go_enter Tryd.func58, Tryd.ntmps58
  go_wp2_with (at_builtin; refine hold ?_)
  refine unhold (wpList_append_rd (.tmp 5) (.tmp 6) 27 Tryd.underlying27 hi hz0 hz1 hz2 byte_cells (own_empty w w.heap.size 5 (Nat.le_refl _)) (hr.below ((Below.refl _ w).alloc (Nat.le_refl _) _)) (by unfold maxLen; omega) (by omega) (by simp) rfl rfl rfl rfl ?_)
  intro v1 w5 L3
  have hb5 : Below w.heap.size w w5 := L3.below ((Below.refl _ w).alloc (Nat.le_refl _) _) (by simp) (fun g hg => by simp [Value.ownBlock] at hg; omega)
  have own := L3.1
  rw [Nat.zero_add, List.nil_append] at own
  obtain ⟨A', c', rfl, hc', hr'⟩ := own_rd own
  clear L3 own
  go_wp2_with fail
  go_ret
  exact ⟨⟨A', c', rfl, hc', hr'⟩, hb5⟩
end Go.Proofs.YtafeadplmcoilaaDoor.Cr

namespace Go.Proofs.YtafeadplmcoilaaDoor.Cr
open Go.RowKit Go.Shelf

attribute [local go_sem] Oper.semAt_some

/-- Half a byte, as it is handed over (of what is none: its rest, so that one is handed over always). -/
abbrev encs (x : Int) : Array Value := #[.int .u8 (x % 16)]
theorem u8_and15 {z : Int} (hz : 0 ≤ z ∧ z ≤ 255) : bits .and .u8 z 15 = z % 16 := by
  obtain ⟨m, rfl⟩ : ∃ m : Nat, z = (m : Int) := ⟨z.toNat, by omega⟩
  show IntKind.u8.wrap ((BitVec.ofInt 8 (m : Int) &&& BitVec.ofInt 8 ((15 : Nat) : Int)).toNat : Int) = _
  have e1 : ∀ a : Nat, a < 256 → (BitVec.ofInt 8 (a : Int)).toNat = a := fun a ha => by
    rw [BitVec.ofInt_natCast, BitVec.toNat_ofNat]
    omega
  rw [BitVec.toNat_and, e1 m (by omega), e1 15 (by omega), IntKind.wrap_u8, show (15 : Nat) = 2 ^ 4 - 1 from rfl, Nat.and_two_pow_sub_one_eq_mod]
  omega
/-- What a round must leave alone: the box that the iterator reads. -/
def Kp1 (s : Nat) (A B : World) : Prop := B.heap[s]? = A.heap[s]?
theorem Kp1.refl (s : Nat) (A : World) : Kp1 s A A := rfl
theorem Kp1.trans {s : Nat} {A B C : World} (h : Kp1 s A B) (k : Kp1 s B C) : Kp1 s A C := Eq.trans k h

set_option maxRecDepth 100000 in
set_option maxHeartbeats 2000000 in
theorem halves_in (l s : Nat) {b : Int} (hb : 0 ≤ b ∧ b ≤ 255) (J Jx : List Int → World → Prop)
    (hY : ∀ pre x W, J pre W → pre.length < 2 → YieldAt Fence.wide 2 Tryd.prog l (encs x) W fun e W' =>
      (e = .returned (.bool true) ∧ J (pre ++ [x]) W' ∧ Kp1 s W W') ∨ (e = .returned (.bool false) ∧ Jx (pre ++ [x]) W'))
    (W : World) (hcs : W.cell? ⟨s, 0, none⟩ = some (.int .u8 b)) (h0 : J [] W) :
    CallsIn Fence.wide 3 Tryd.prog 75 #[.func (.yield l) #[] #[], .pointer (some ⟨s, 0, none⟩)] W fun e W' => (∃ v, e = .returned v) ∧
      ((∃ ys, ys = [b, b / 16] ∧ J ys W') ∨ (∃ pre, True ∧ Jx pre W')) := by
  have hd : b / 16 % 16 = b / 16 := by omega
  refine callsIn_of_wp Tryd.func75 rfl trivial ?_ rfl
  simp only [Tryd.ntmps75, List.size_toArray, List.length_cons, List.length_nil, Nat.reduceAdd, Nat.reduceSub, Array.replicate_succ, Array.replicate_zero, List.push_toArray, List.append_toArray, List.nil_append, List.cons_append]
  obtain ⟨fn, tmps, assign, body, hy, hR⟩ := hY [] b W h0 (by simp)
  dsimp only [encs] at hy
  gi_wp2
  refine hR.mono ?_
  rintro e W3 (⟨rfl, hJ3, hk3⟩ | ⟨rfl, hJx3⟩)
  · have hcs3 := (World.cell?_of_block (a := ⟨s, 0, none⟩) hk3).trans hcs
    obtain ⟨fn2, tmps2, assign2, body2, hy2, hR2⟩ := hY _ (b / 16) W3 hJ3 (by simp)
    dsimp only [encs] at hy2
    rw [hd] at hy2
    gi_wp2
    refine hR2.mono ?_
    rintro e W4 (⟨rfl, hJ4, hk4⟩ | ⟨rfl, hJx4⟩)
    · gi_wp2
      go_end0
      exact ⟨⟨_, rfl⟩, .inl ⟨_, rfl, hJ4⟩⟩
    · gi_wp2
      go_end0
      exact ⟨⟨_, rfl⟩, .inr ⟨_, trivial, hJx4⟩⟩
  · gi_wp2
    go_end0
    exact ⟨⟨_, rfl⟩, .inr ⟨_, trivial, hJx3⟩⟩

/-- The iterator's contract. -/
theorem halves_stops (s : Nat) {b : Int} (hb : 0 ≤ b ∧ b ≤ 255) (w : World) (hs : Boxed w s 5 (.int .u8 b)) :
    SeqStopsK Fence.wide 3 Tryd.prog 75 #[.pointer (some ⟨s, 0, none⟩)] encs (Kp1 s)
      (fun ys => ys = [b, b / 16]) (fun _ => True) 2 w := fun l J Jx W hW _ _ hY h0 =>
  halves_in l s hb J Jx hY W ((hW.cell (p := ⟨s, 0, none⟩) hs.lt).trans hs.cell) h0

/-- What halves answers. -/
def HalvesOut (b : Int) (w : World) (e : Ending) (w' : World) : Prop :=
  e = .returned (.func (.func 75) #[] #[.pointer (some ⟨w.heap.size, 0, none⟩)]) ∧ Boxed w' w.heap.size 5 (.int .u8 b) ∧ w'.heap.size = w.heap.size + 1 ∧ Below w.heap.size w w'
set_option maxRecDepth 100000 in
set_option maxHeartbeats 400000 in
theorem halves_any (b : Int) (w : World) : Calls Tryd.prog 72 #[.int .u8 b] w (HalvesOut b w) := by
  go_enter Tryd.func72, Tryd.ntmps72
  go_wp2
  go_ret
  exact ⟨rfl, Boxed.new w _ _, by simp, (Below.refl _ w).alloc (Nat.le_refl _) _⟩
end Go.Proofs.YtafeadplmcoilaaDoor.Cr

namespace Go.Proofs.YtafeadplmcoilaaDoor.Cr
open Go.RowKit Go.Shelf

attribute [local go_sem] Oper.semAt_some

/-- A scope with one label: what holds at the label holds at its first coming and at every jump; so the code behind it is walked once. -/
theorem scope_once {P : Program} {n : Nat} {a : Act} {w : World} {Q : Exit → Act → World → Prop} {c rest : Code} (l : Nat) (J : Act → World → Prop) (μ : Act → World → Nat) (hf : findLabel c l = some (.seq .skip rest))
    (first : (∀ a w, J a w → rest.wpIn Fence.wide n P (Exit.jump l J Q) a w) → c.wpIn Fence.wide n P (Exit.jump l J Q) a w)
    (pass : ∀ a w, J a w → rest.wpIn Fence.wide n P (Exit.jump l (fun a' w' => J a' w' ∧ μ a' w' < μ a w) Q) a w) : (Code.scope c).wpIn Fence.wide n P Q a w :=
  wpIn_wide.2 (wp_scope_jumps l J μ hf (wpIn_wide.1 (first fun a w h => wpIn_mono (pass a w h) fun e a' w' hq => by
    cases e with
    | goto l' => exact ⟨hq.1, hq.2.1⟩
    | _ => exact hq)) fun a w h => wp_seq (wp_skip (wpIn_wide.1 (pass a w h))))

/-- What holds at the label. -/
def NInv (s : Int) (A : Option Addr) (n c : Nat) (l : List Int) (w : World) (bB : Nat) (a' : Act) (w' : World) : Prop :=
  ∃ (k : Nat) (y : Int) (ds : List Nat) (u6 u7 u8 u9 u10 u11 u12 u13 u14 u15 u16 u17 u18 u19 u20 u21 u22 u23 u24 u25 : Value), k ≤ n ∧ Boxed w' bB 86 (.int .u32 y) ∧ Is32 y (rowN (notN s.toNat) (natL (l.take k))) ∧
    Below w.heap.size w w' ∧ Marks w.heap.size ds w' ∧
    a' = { tmps := #[.int .u32 s, .slice A n c, .pointer (some ⟨bB, 0, none⟩), undef, .int .u32 0, .int .i64 k, u6, u7, u8, u9, u10, u11, u12, u13, u14, u15, u16, u17, u18, u19, u20, u21, u22, u23, u24, u25], defers := ds.map mark }

/-- What halves handed over make of a sum. -/
def halvesN (s : Nat) (pre : List Int) : Nat := pre.foldl (fun s x => stepN s (x % 16).toNat) s
theorem halvesN_snoc (s : Nat) (pre : List Int) (x : Int) : halvesN s (pre ++ [x]) = stepN (halvesN s pre) (x % 16).toNat := by unfold halvesN; rw [List.foldl_append]; rfl
theorem halvesN_byte (s : Nat) {b : Int} (hb : 0 ≤ b ∧ b ≤ 255) : halvesN s [b, b / 16] = byteN s b.toNat := by
  show stepN (stepN s (b % 16).toNat) (b / 16 % 16).toNat = stepN (stepN s (b.toNat % 16)) (b.toNat / 16)
  rw [show (b % 16).toNat = b.toNat % 16 by omega, show (b / 16 % 16).toNat = b.toNat / 16 by omega]
theorem kp1_b {w : World} {s : Nat} (hs : s < w.heap.size) (W : World) (l : Nat) (o o' : Obj) (hl : w.heap.size ≤ l) (_h : W.heap[l]? = some o) (_ : o.isCells = false) (_ : o.isWalk = false) : Kp1 s W (W.putObj l o') :=
  World.putObj_heap_other (by omega)
theorem World.setCell_other {W : World} {b d : Nat} (h : d ≠ b) (v : Value) : (W.setCell ⟨b, 0, none⟩ v).heap[d]? = W.heap[d]? := by
  show (W.heap.modify b _)[d]? = _
  rw [Array.getElem?_modify, if_neg (fun e => h e.symm)]
theorem some_ne_row {W W' : World} {row : Option Nat} {B b : Nat} {o : Obj} (_hg : W.grownBy W' row) (hr : ∀ r, row = some r → B ≤ r ∧ ∃ o : Obj, W.heap[r]? = some o ∧ o.isCells = false) (hb : W.heap[b]? = some o) (h : b < B ∨ o.isCells = true) : some b ≠ row := by
  intro e
  obtain ⟨hB, o', ho, hc⟩ := hr b e.symm
  rcases h with h | h
  · omega
  · rw [hb] at ho
    cases ho
    rw [h] at hc
    cases hc

/-- Between two halves' rounds: the box bB holds the sum so far; the iterator's box holds the byte; what lay when the call began lies; the marks' blocks hold nothing. -/
def HI (w : World) (bB sB : Nat) (ds : List Nat) (x y : Int) (pre : List Int) (W : World) : Prop :=
  (∃ a, Boxed W bB 86 (.int .u32 a) ∧ (0 ≤ a ∧ a < 4294967296) ∧ a.toNat = halvesN y.toNat pre) ∧ Below w.heap.size w W ∧ (∀ d ∈ ds, W.heap[d]? = some (.deferred (some []))) ∧ Boxed W sB 5 (.int .u8 x)
theorem HI.own {w : World} {bB sB : Nat} {ds : List Nat} {x y : Int} {B : Nat} (hd : ∀ d ∈ ds, d < B) (_hw : w.heap.size ≤ B) : OwnFrom B (HI w bB sB ds x y) := by
  rintro pre W W' row ⟨⟨a, hz, ha⟩, hB, hM, b1⟩ hg hr
  exact ⟨⟨a, hz.kept hg (some_ne_row hg hr hz (.inr rfl)), ha⟩, hB.grown hg hB.size (fun k e => by have := (hr k e).1; omega), fun d hd' => by
    have h1 := hM d hd'
    exact (hg.block d (Array.getElem?_eq_some_iff.1 h1).1 (some_ne_row hg hr h1 (.inl (hd d hd')))).trans h1, b1.kept hg (some_ne_row hg hr b1 (.inr rfl))⟩

set_option maxRecDepth 100000 in
set_option maxHeartbeats 2000000 in
theorem next_in (s : Int) (A : Option Addr) (n c : Nat) (l : List Int) (w : World) (hT : Tab w) (hs : 0 ≤ s ∧ s < 4294967296) (hr : Rd w w.heap.size .u8 A n l) (hb : Byt l) (hn : n ≤ 140737488355328) :
    CallsIn Fence.wide 4 Tryd.prog 66 #[.int .u32 s, .slice A n c] w fun e w' => (∃ x, e = .returned (.int .u32 x) ∧ Is32 x (nextN s.toNat (natL l))) ∧ Below w.heap.size w w' := by
  have Hl := Lib.hid hr.1
  obtain ⟨s0, h0, ⟨s1, s2⟩, s3⟩ := u32_not hs
  have Hs := Lib.hid s3
  clear s3
  obtain ⟨bB, hbB⟩ : ∃ bB, bB = w.heap.size := ⟨_, rfl⟩
  refine callsIn_of_wp_marks Tryd.func66 rfl trivial ?_ rfl
  simp only [Tryd.ntmps66, List.size_toArray, List.length_cons, List.length_nil, Nat.reduceAdd, Nat.reduceSub, Array.replicate_succ, Array.replicate_zero, List.push_toArray, List.append_toArray, List.nil_append, List.cons_append]
  gi_wp2_with fail
  obtain ⟨w0, hw0⟩ : ∃ w0, w0 = w.alloc (.cells #[.int .u32 s] 86) := ⟨_, rfl⟩
  have hz0 : Boxed w0 bB 86 (.int .u32 s) := by rw [hw0, hbB]; exact Boxed.new w _ _
  have hB0 : Below w.heap.size w w0 := by rw [hw0]; exact (Below.refl _ _).alloc (Nat.le_refl _) _
  rw [← hw0, ← hbB]
  have HbB := Lib.hid (show w.heap.size ≤ bB by omega)
  clear hw0 hbB
  refine scope_once 0 (NInv s A n c l w bB) (fun a' _ => n - (intOf (a'.tmps.getD 5 undef)).toNat) rfl ?_ ?_
  · intro hrest
    have hzc := hz0.cell
    have hfz := hz0.frozen
    gi_wp2_with fail
    refine wpIn_label ?_
    rename_i hK
    exact hK _ _ (hrest _ _ ⟨0, s0, [], _, _, _, _, _, _, _, _, _, _, _, _, _, _, _, _, _, _, _, _, Nat.zero_le _, hz0.set _, ⟨⟨s1, s2⟩, Hs.out⟩, hB0.setCell HbB.out _, ⟨List.nodup_nil, fun d hd => by cases hd⟩, rfl⟩)
  · rintro a' wr ⟨k, y, ds, u6, u7, u8, u9, u10, u11, u12, u13, u14, u15, u16, u17, u18, u19, u20, u21, u22, u23, u24, u25, hk, hv, ⟨hy, hy2⟩, hB, hM, rfl⟩
    have hzc := hv.cell
    have hfz := hv.frozen
    have Hy := Lib.hid hy2
    clear hy2
    by_cases hlt : k < n
    · have hq : ((k : Int) == (n : Int)) = false := by simp; omega
      obtain ⟨b, off, rfl, hbl, hcell⟩ := (hr.on hB hB.size).at_ (by omega)
      have hck := hcell k hlt
      clear hcell
      gi_wp2_with fail
      refine ⟨trivial, ?_⟩
      have hbk := hb.at_ k
      have Hsn := Lib.hid (take_snoc (l := l) (k := k) (by rw [Hl.out]; exact hlt))
      obtain ⟨x, hx⟩ : ∃ x, l[k]?.getD 0 = x := ⟨_, rfl⟩
      rw [hx] at hck hbk Hsn ⊢
      clear hx
      refine (callsIn_wide.2 (halves_any x wr)).mono ?_
      rintro e w2 ⟨rfl, hbx, hsz2, hbel2⟩
      obtain ⟨sB, hsB⟩ : ∃ sB, sB = wr.heap.size := ⟨_, rfl⟩
      rw [← hsB] at hbx hsz2 hbel2 ⊢
      have hbs : bB < sB := by rw [hsB]; exact hv.lt
      have hwb : w.heap.size ≤ bB := HbB.out
      have hds : ∀ d ∈ ds, d < sB := fun d hd => by rw [hsB]; exact (Array.getElem?_eq_some_iff.1 (hM.2 d hd).2).1
      have h0i : HI w bB sB ds x y [] w2 := ⟨⟨y, (hbel2.block bB hbs).trans hv, hy, rfl⟩, hB.trans (hbel2.mono (by rw [hsB]; exact hB.size)), fun d hd => (hbel2.block d (hds d hd)).trans (hM.2 d hd).2, hbx⟩
      have Hs2 := Lib.hid hsB
      have hBs := hB.size
      clear hsB hbel2
      gi_wp2_with fail
      refine wpIn_rangeFunc_ownG rfl (by omega) (gf := 75) (lb := #[.pointer (some ⟨sB, 0, none⟩)]) rfl trivial (enters_of Tryd.func75 (by kernel_rfl) rfl)
        (halves_stops sB hbk w2 hbx) (fun h h' => h.trans h') (kp1_b (by omega)) (Below.refl _ _) (fun _ => rfl)
        (HI w bB sB ds x y) (fun _ _ _ => False) (HI.own (fun d hd => by have := hds d hd; omega) (by omega)) (fun _ _ _ _ _ h _ _ => h) h0i
        (fun d => { tmps := #[.int .u32 s, .slice (some ⟨b, off, none⟩) n c, .pointer (some ⟨bB, 0, none⟩), undef, .int .u32 0, .int .i64 k, .int .u8 (d % 16), u7, u8, .int .i64 k, .slice (some ⟨b, off, none⟩) n c, .int .i64 n, .bool false, u13, u14, .slice (some ⟨b, off, none⟩) n c, .int .i64 k, .pointer (some ⟨b, off + k, none⟩), .int .u8 x, .func (.func 75) #[] #[.pointer (some ⟨sB, 0, none⟩)], .int .u8 (d % 16), u21, u22, u23, u24, u25], defers := [] }) ?assign ?body ?done ?stop
      case assign =>
        intro lp d W K hK
        gi_wp2
        exact hK
      case body =>
        rintro lp pre d W ⟨⟨a, hz, ha, he⟩, hBW, hMW, b1⟩ hlt2
        have hzc2 := hz.cell
        have hfz2 := hz.frozen
        gi_wp2_with fail
        refine ⟨trivial, ?_⟩
        refine (CallsIn.inRound lp (callsIn_wide.2 (step_still a (d % 16) W (hT.on hBW) ha (by omega)))).mono ?_
        rintro e w' ⟨⟨z, rfl, hz0, hz1⟩, rfl⟩
        have He : z.toNat = halvesN y.toNat (pre ++ [d]) := by
          rw [hz1, he]
          exact (halvesN_snoc _ _ _).symm
        clear hz1
        gi_wp2_with fail
        exact ⟨KeepsFrom.of_grownBy (grownBy_setCell' W bB _) (fun k e => by cases e; omega), Eq.trans (b1.other (by omega) _) (Eq.symm b1), ⟨_, hz.set _, hz0, He⟩, hBW.setCell hwb _, fun d' hd' => (World.setCell_other (fun e => by have h1 := hMW d' hd'; rw [e, show W.heap[bB]? = _ from hz] at h1; cases h1) _).trans (hMW d' hd'), b1.other (by omega) _⟩
      case done =>
        rintro D ys W hD rfl ⟨⟨a, hz, ha, he⟩, hBW, hMW, b1⟩ hK
        have hM3 : Marks w.heap.size (D :: ds) W := by
          refine ⟨List.nodup_cons.2 ⟨fun hd => ?_, hM.1⟩, fun d hd => ?_⟩
          · have := hds D hd; omega
          · rcases List.mem_cons.1 hd with rfl | hd
            · exact ⟨by omega, hK⟩
            · exact ⟨(hM.2 d hd).1, hMW d hd⟩
        have hnew : Is32 a (rowN (notN s.toNat) (natL (l.take (k + 1)))) := by
          refine ⟨ha, ?_⟩
          rw [he, Hsn.out, natL_append, show natL [x] = [x.toNat] from rfl, rowN_snoc, ← Hy.out]
          exact halvesN_byte _ hbk
        clear hK he
        gi_wp2
        refine wpIn_goto ?_
        refine ⟨rfl, ⟨k + 1, a, D :: ds, _, _, _, _, _, _, _, _, _, _, _, _, _, _, _, _, _, _, _, _, hlt, hz, hnew, hBW, hM3, rfl⟩, ?_⟩
        simp [intOf]
        omega
      case stop =>
        rintro D cc pre W _ _ h _
        exact h.elim
    · obtain rfl : k = n := by omega
      have hq : ((k : Int) == (k : Int)) = true := by simp
      have hf : Is32 y (rowN (notN s.toNat) (natL l)) := by
        have h1 := Hy.out
        rw [List.take_of_length_le (by rw [Hl.out]; exact Nat.le_refl _)] at h1
        exact ⟨hy, h1⟩
      obtain ⟨z, hz, z0, z1⟩ := u32_not hy
      have Hf : Hid (Is32 z (nextN s.toNat (natL l))) := ⟨z0, by rw [z1, hf.2]; rfl⟩
      clear hf z1
      gi_wp2_with fail
      simp only [Exit.jump]
      refine leaves_marks ds wr hM fun w' hw' => ⟨_, results_tmp rfl _ _ _, ?_, hB.trans hw'.1⟩
      exact ⟨_, rfl, Hf.out⟩

theorem next_c (s : Int) (A : Option Addr) (n c : Nat) (l : List Int) (w : World) (hT : Tab w) (hs : 0 ≤ s ∧ s < 4294967296) (hr : Rd w w.heap.size .u8 A n l) (hb : Byt l) (hn : n ≤ 140737488355328) :
    Calls Tryd.prog 66 #[.int .u32 s, .slice A n c] w fun e w' => (∃ x, e = .returned (.int .u32 x) ∧ Is32 x (nextN s.toNat (natL l))) ∧ Below w.heap.size w w' :=
  callsIn_wide.1 (next_in s A n c l w hT hs hr hb hn)
end Go.Proofs.YtafeadplmcoilaaDoor.Cr

namespace Go.Proofs.YtafeadplmcoilaaDoor.Cr
open Go.RowKit

set_option maxRecDepth 100000 in
set_option maxHeartbeats 800000 in
theorem sum_c (A : Option Addr) (n c : Nat) (ps : List Part) (w : World) (hT : Tab w) (hr : Rds w w.heap.size A n ps) (hn : n ≤ 140737488355328) :
    Calls Tryd.prog 53 #[.slice A n c] w fun e w' => (∃ x, e = .returned (.int .u32 x) ∧ Is32 x (sumN (natL (flat ps)))) ∧ Below w.heap.size w w' := by
  have Hl := Lib.hid hr.len
  go_enter Tryd.func53, Tryd.ntmps53
  go_wp2
  go_loopw [3, 8] (fun x i wr => ∃ (k : Nat) (y : Int), k ≤ n ∧ i = .int .i64 k ∧ x = .int .u32 y ∧ Is32 y (sumN (natL (flat (ps.take k)))) ∧ Below w.heap.size w wr) (fun _ i _ => n - (intOf i).toNat)
  case atStart => exact ⟨0, 0, Nat.zero_le _, rfl, rfl, ⟨by omega, by rw [List.take_zero]; rfl⟩, Below.refl _ _⟩
  case round =>
    obtain ⟨k, y, hk, rfl, rfl, ⟨hy, hy2⟩, hB⟩ := hrel
    have Hy := Lib.hid hy2
    clear hy2
    by_cases hlt : k < n
    · obtain ⟨bl, off, q, rfl, hbl, hq, hc, hrq, hbq, hnq⟩ := (hr.on hB hB.size).at_ hlt
      have Hq := Lib.hid (natL_take hq)
      clear hq
      have hsz := hB.size
      go_wp2_with fail
      refine (next_c y _ _ _ q.l _ (hT.on hB) hy hrq hbq hnq).mono ?_
      rintro e w1 ⟨⟨x, rfl, hx⟩, hb1⟩
      have Hx : Hid (Is32 x (sumN (natL (flat (ps.take (k + 1)))))) := by
        rw [Hq.out]
        unfold sumN
        rw [nextN_append]
        rw [Hy.out] at hx
        exact hx
      clear hx
      go_wp2_with fail
      go_roundw
      case rel => exact ⟨k + 1, x, by omega, by go_num, rfl, Hx.out, hB.trans (hb1.mono hsz)⟩
      case measure => simp [intOf]; omega
    · obtain rfl : k = n := by omega
      have hf : Is32 y (sumN (natL (flat ps))) := by
        have h1 := Hy.out
        rw [List.take_of_length_le (by rw [Hl.out]; exact Nat.le_refl _)] at h1
        exact ⟨hy, h1⟩
      have Hf := Lib.hid hf
      clear hf
      go_wp2
      go_ret
      exact ⟨⟨_, rfl, Hf.out⟩, hB⟩

set_option maxRecDepth 100000 in
set_option maxHeartbeats 1000000 in
theorem put_c (A : Option Addr) (n c : Nat) (l : List Int) (w : World) (hT : Tab w) (hr : Rd w w.heap.size .u8 A n l) (hb : Byt l) (_hnc : n ≤ c) (hn : n ≤ 1048576) :
    Calls Tryd.prog 31 #[.slice A n c] w fun e w' => (∃ x A' c', Is32 x (sumN (natL l)) ∧ e = .returned (.slice A' (n + 4) c') ∧ n + 4 ≤ c' ∧ Rd w' w'.heap.size .u8 A' (n + 4) (l ++ fourI x)) ∧ Below w.heap.size w w' := by
  obtain ⟨i0, hi, hz0, hz1, hz2⟩ := info_parts info_u8
  go_enter Tryd.func31, Tryd.ntmps31
  go_wp2_with fail
  refine (sum_c _ 1 1 [⟨A, n, c, l⟩] _ (hT.on ((Below.refl _ w).alloc (Nat.le_refl _) _)) (Rds.made w _ [⟨A, n, c, l⟩] rfl (fun q hq => by
    obtain rfl := List.mem_singleton.1 hq
    exact ⟨hr, hb, by simp only; omega⟩)) (by omega)).mono ?_
  rintro e w1 ⟨⟨x, rfl, hx⟩, hb1⟩
  have hB : Below w.heap.size w w1 := ((Below.refl _ w).alloc (Nat.le_refl _) _).trans (hb1.mono (by simp))
  rw [flat_cons, flat_nil, List.append_nil] at hx
  have Hx := Lib.hid hx
  have hx0 := hx.1
  clear hx hb1
  have hsz := hB.size
  go_wp2_with fail
  refine (four_c x _ hx0).mono ?_
  rintro e w2 ⟨rfl, hb2⟩
  replace hB : Below w.heap.size w w2 := hB.trans (hb2.mono hsz)
  clear hb2 hsz
  have hsz := hB.size
  go_wp2_with (at_make; refine hold ?_)
  obtain ⟨g, hg⟩ : ∃ g, g = w2.heap.size := ⟨_, rfl⟩
  obtain ⟨w3, hw3⟩ : ∃ w3, w3 = w2.alloc (.cells #[.int .u8 (x % 256), .int .u8 (x / 256 % 256), .int .u8 (x / 65536 % 256), .int .u8 (x / 16777216)] 84) := ⟨_, rfl⟩
  have hq3 : Rd w3 w3.heap.size .u8 (some ⟨g, 0, none⟩) 4 (fourI x) := by rw [hw3]; exact Rd.made w2 .u8 84 (fourI x) hg
  have hB3 : Below w.heap.size w w3 := by rw [hw3]; exact hB.alloc hsz _
  have hr3 : Rd w3 w3.heap.size .u8 A n l := hr.on hB3 hB3.size
  rw [← hw3, ← hg]
  clear hw3 hg hB hsz
  refine unhold (wpList_make_own _ rfl _ _ 27 rfl w3.heap.size 5 i0 (.int .u8 0) 1 Tryd.underlying27 hi hz0 hz1 _ _ _ (n + 4) rfl rfl (by omega) (by rw [hz2]; omega) (by unfold maxLen; omega) (Nat.le_refl _) ?_)
  intro w4 own4 grow4
  have hB4 : Below w3.heap.size w3 w4 := (Below.refl _ w3).grown grow4 (Nat.le_refl _) (fun k e => by cases e)
  go_wp2_with (at_builtin; refine hold ?_)
  refine unhold (wpList_append_rd (.tmp 13) (.tmp 14) 27 Tryd.underlying27 hi hz0 hz1 hz2 byte_cells own4 (hr3.below hB4) (by unfold maxLen; omega) (by omega) hB4.size rfl rfl rfl rfl ?_)
  intro v1 w5 L5
  have hB5 : Below w3.heap.size w3 w5 := L5.below hB4 hB4.size (fun g hg => by simp [Value.ownBlock] at hg; omega)
  have n5 : ∀ g, v1.ownBlock = some g → w3.heap.size ≤ g := L5.new (fun g hg => by simp [Value.ownBlock] at hg; omega) hB4.size
  go_wp2_with (at_builtin; refine hold ?_)
  refine unhold (wpList_append_rd (.tmp 16) (.tmp 17) 27 Tryd.underlying27 hi hz0 hz1 hz2 byte_cells L5.1 (hq3.below hB5) (by unfold maxLen; omega) (by omega) hB5.size rfl rfl rfl rfl ?_)
  intro v2 w6 L6
  have hB6 : Below w3.heap.size w3 w6 := L6.below hB5 hB5.size n5
  have own := L6.1
  rw [Nat.zero_add, List.nil_append, ← List.map_append] at own
  obtain ⟨A', c', rfl, hc', hr'⟩ := own_rd own
  clear L5 L6 own n5
  go_wp2
  go_ret
  exact ⟨⟨x, A', c', Hx.out, rfl, hc', hr'⟩, hB3.trans (hB6.mono hB3.size)⟩

set_option maxRecDepth 100000 in
set_option maxHeartbeats 1000000 in
theorem take_few (A : Option Addr) (n c : Nat) (w : World) (h : n < 4) :
    Calls Tryd.prog 34 #[.slice A n c] w fun e w' => e = .returned (.tuple #[.slice none 0 0, .bool false]) ∧ Below w.heap.size w w' := by
  have hd : decide ((n : Int) - 4 < 0) = true := by simp; omega
  go_enter Tryd.func34, Tryd.ntmps34
  go_wp2
  go_ret2
  exact ⟨rfl, Below.refl _ _⟩

set_option maxRecDepth 100000 in
set_option maxHeartbeats 1000000 in
theorem take_in (A : Option Addr) (n c : Nat) (l : List Int) (w : World) (hT : Tab w) (hr : Rd w w.heap.size .u8 A n l) (hb : Byt l) (hnc : n ≤ c) (hn : 4 ≤ n ∧ n ≤ 1048576) :
    Calls Tryd.prog 34 #[.slice A n c] w fun e w' => TakeOut l e w' ∧ Below w.heap.size w w' := by
  obtain ⟨i0, hi, hz0, hz1, hz2⟩ := info_parts info_u8
  have hd : decide ((n : Int) - 4 < 0) = false := by simp; omega
  obtain ⟨k, hk⟩ : ∃ k : Nat, (n : Int) - 4 = (k : Int) := ⟨n - 4, by omega⟩
  have hkn : k ≤ n := by omega
  have hkc : (k : Int) ≤ (c : Int) := by omega
  have hk0 : (0 : Int) ≤ (k : Int) := Int.natCast_nonneg _
  have hck : ¬ c = k := by omega
  have Hk := Lib.hid hk
  obtain ⟨b, off, rfl, hbl, hcell⟩ := hr.at_ (by omega)
  clear hcell
  obtain ⟨A', c', hrun, hcut⟩ := cut_rest Tryd.underlying27 hi hz1 (some ⟨b, off, none⟩) n c k hkn hnc
  have Hkl := Lib.hid (show l.length - 4 = k by have := hr.1; omega)
  have Hok : Hid (eqB (fourI (sumI (l.take k))) (l.drop k) = okB l) := by
    unfold okB
    rw [Hkl.out, hr.1, decide_eq_true hn.1, Bool.true_and, Bool.eq_iff_iff, eqB_iff, eqB_iff]
    have e1 : l.take k ++ l.drop k = l := List.take_append_drop k l
    exact ⟨fun h => by rw [h, e1], fun h => List.append_cancel_left (h.trans e1.symm)⟩
  go_enter Tryd.func34, Tryd.ntmps34
  go_wp2_with fail
  refine (sum_c _ 1 1 [⟨some ⟨b, off, none⟩, k, c, l.take k⟩] _ (hT.on ((Below.refl _ w).alloc (Nat.le_refl _) _)) (Rds.made w _ [⟨some ⟨b, off, none⟩, k, c, l.take k⟩] rfl (fun q hq => by
    obtain rfl := List.mem_singleton.1 hq
    exact ⟨hr.first hkn, hb.take k, by simp only; omega⟩)) (by omega)).mono ?_
  rintro e w1 ⟨⟨x, rfl, hx⟩, hb1⟩
  have hB : Below w.heap.size w w1 := ((Below.refl _ w).alloc (Nat.le_refl _) _).trans (hb1.mono (by simp))
  rw [flat_cons, flat_nil, List.append_nil] at hx
  have hx0 := hx.1
  obtain rfl : x = sumI (l.take k) := hx.sum
  clear hx hb1
  have hsz := hB.size
  go_wp2_with fail
  refine (four_c _ _ hx0).mono ?_
  rintro e w2 ⟨rfl, hb2⟩
  replace hB : Below w.heap.size w w2 := hB.trans (hb2.mono hsz)
  clear hb2 hsz
  have hsz := hB.size
  go_wp2_with fail
  obtain ⟨g, hg⟩ : ∃ g, g = w2.heap.size := ⟨_, rfl⟩
  obtain ⟨w3, hw3⟩ : ∃ w3, w3 = w2.alloc (.cells #[.int .u8 (sumI (l.take k) % 256), .int .u8 (sumI (l.take k) / 256 % 256), .int .u8 (sumI (l.take k) / 65536 % 256), .int .u8 (sumI (l.take k) / 16777216)] 84) := ⟨_, rfl⟩
  have hq3 : Rd w3 w3.heap.size .u8 (some ⟨g, 0, none⟩) 4 (fourI (sumI (l.take k))) := by rw [hw3]; exact Rd.made w2 .u8 84 (fourI (sumI (l.take k))) hg
  have hB3 : Below w.heap.size w w3 := by rw [hw3]; exact hB.alloc hsz _
  have hr3 : Rd w3 w3.heap.size .u8 (some ⟨b, off, none⟩) n l := hr.on hB3 hB3.size
  have hg3 : g < w3.heap.size := by rw [hw3, hg]; simp
  rw [← hw3, ← hg]
  clear hw3 hg hB hsz
  have q1 : ∀ m, Calls Tryd.prog 57 #[.slice (some ⟨g, 0, none⟩) 4 4, .slice A' (n - k) c'] (w3.drewN m) fun e w' => e = .returned (.bool (okB l)) ∧ w' = w3.drewN m := fun m => by
    have hbm := below_drewN (Below.refl w3.heap.size w3) m
    have h1 := equal_any (some ⟨g, 0, none⟩) A' 4 (n - k) 4 c' _ _ (w3.drewN m) (hq3.on hbm hbm.size) ((hcut hr3).on hbm hbm.size) (fourI_byt hx0) (hb.drop k)
    rw [Hok.out] at h1
    exact h1
  have hB4 := below_drewN hB3
  clear hq3 hcut
  go_quiet (exact Calls.quiet_of_same (q1 _))
  obtain ⟨w4, hw4⟩ : ∃ w4, w4 = w3.drewN nq := ⟨_, rfl⟩
  replace hB4 := hB4 nq
  rw [← hw4] at hB4 ⊢
  clear hw4 hr3 hg3 q1 hrun hB3
  have hkf : decide ((k : Int) < 0) = false := by simp
  obtain ⟨bv, hbv⟩ : ∃ bv, okB l = bv := ⟨_, rfl⟩
  have Hb := Lib.hid hbv
  rw [hbv]
  clear hbv
  cases bv
  · go_wp2
    go_ret2
    exact ⟨.inl ⟨Hb.out, rfl⟩, hB4⟩
  · go_wp2_with fail
    refine (clone_some _ k c (l.take k) _ ((hr.on hB4 hB4.size).first hkn) (by omega)).mono ?_
    rintro e w5 ⟨⟨A1, c1, rfl, hc1, hr1⟩, hb5⟩
    have hB5 := hB4.trans (hb5.mono hB4.size)
    go_wp2
    go_ret2
    exact ⟨.inr ⟨Hb.out, A1, c1, by rw [Hkl.out]; rfl, by rw [Hkl.out]; exact hc1, by rw [Hkl.out]; exact hr1⟩, hB5⟩

theorem take_c (A : Option Addr) (n c : Nat) (l : List Int) (w : World) (hT : Tab w) (hr : Rd w w.heap.size .u8 A n l) (hb : Byt l) (hnc : n ≤ c) (hn : n ≤ 1048576) :
    Calls Tryd.prog 34 #[.slice A n c] w fun e w' => TakeOut l e w' ∧ Below w.heap.size w w' := by
  by_cases h4 : n < 4
  · refine (take_few A n c w h4).mono fun e w' ⟨he, hB⟩ => ⟨.inl ⟨?_, he⟩, hB⟩
    unfold okB
    rw [hr.1, decide_eq_false (by omega), Bool.false_and]
  · exact take_in A n c l w hT hr hb hnc ⟨by omega, hn⟩
end Go.Proofs.YtafeadplmcoilaaDoor.Cr

