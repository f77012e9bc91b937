/-
  either.each: the formats in order: its iterator's contract.
-/
import Derived.RangeFuncNested
import Derived.RangeFuncBound
import Derived.RangeFuncCalls
import Derived.RangeFuncLeaves
import Derived.RangeFuncBox
import Derived.Shelf.Abstract
import Derived.Shelf.AbstractIn
import Derived.Shelf.RegionOpen
import Derived.OwnWalkIn
import Derived.TacticsInMore
import Derived.LoopNIn
import Derived.LoopIn
import Derived.Laws.MakeOwn
import Derived.Test.YtcpdjhkpmaamdaaGreatKeys
import Derived.Test.YtcpdjhkpmaamdaaGreatShelfB
import Derived.Test.YtcpdjhkpmaamdaaGreatEitA
namespace Go.Proofs.YtcpdjhkpmaamdaaGreat
open Go.RowKit Go.Maps Go.Sort Go.Shelf
set_option linter.unusedVariables false

attribute [local go_sem] Oper.semAt_some

/-! ### The formats' numbers, sorted -/
theorem keys_fmts : intKeys fmtsD = [1, 2] := by rfl
theorem sorted_fmts {ss : List Int} (hp : ss.Perm (intKeys fmtsD)) : ss.mergeSort leI = [1, 2] := by
  rw [mergeSort_of_perm_i hp, keys_fmts]
  exact List.mergeSort_of_pairwise (by simp)
theorem sorts_c (m : Nat) : AnyZI.SortsIn Tryz.prog Tryz.sortedA_ren Fence.wide m :=
  ⟨fun blk off cap ss W hH hblk hsz => callsIn_wide.2 (Tryz.slices_Sort_int blk off cap ss W hH hblk hsz),
   fun p cap W => callsIn_wide.2 (Tryz.slices_Sort_int_none p cap W)⟩
theorem keys_c (mb : Option Nat) (W : World) : CallsIn Fence.wide 5 Tryz.prog 49 #[.map mb] W fun e w' =>
    e = .returned (.func (.func 63) #[] #[.pointer (some ⟨W.heap.size, 0, none⟩)]) ∧ w' = W.alloc (.cells #[.map mb] 49) :=
  AnyZI.keys_in Tryz.keysA Fence.wide 5 trivial rfl mb W
/-- What slices.Sorted answers of them. -/
def SortedOut (w : World) (e : Ending) (w' : World) : Prop :=
  (∃ A c, e = .returned (.slice A 2 c) ∧ w'.ownsRow w.heap.size 3 1 (.slice A 2 c) 2 [.int .i64 1, .int .i64 2]) ∧ Below w.heap.size w w'
set_option maxHeartbeats 1000000 in
theorem sorted_c {b : Nat} {W : World} (hown : FmtsAt W b) :
    CallsIn Fence.wide 5 Tryz.prog 48 #[.func (.func 63) #[] #[.pointer (some ⟨W.heap.size, 0, none⟩)]] (W.alloc (.cells #[.map (some b)] 49)) (SortedOut (W.alloc (.cells #[.map (some b)] 49))) := by
  have hbl := hown.lt
  have hsz : Maps.size fmtsD = 2 := by rfl
  have hseq : SeqGives Fence.wide 2 Tryz.prog 63 #[.pointer (some ⟨W.heap.size, 0, none⟩)] encZ (fun ss => ss.Perm (intKeys fmtsD)) (Maps.size fmtsD) (W.alloc (.cells #[.map (some b)] 49)) :=
    AnyZI.keys_gives (ρ := Tryz.keysA_ren) { Tryz.keysA with } Fence.wide _ trivial rfl (by omega) W.heap.size b 2 fmtsD _ (by simp) (by simp) (by
      obtain ⟨es, clock, hb, Ft, hs, hD⟩ := hown
      exact ⟨es, clock, (Below.heap_alloc _ _ b hbl).trans hb, Ft, hs, hD⟩)
  have cS := AnyZI.sorted_in Tryz.sortedA Fence.wide 5 trivial trivial trivial trivial rfl (by omega) (sorts_c _) (enters_of Tryz.func62 (by kernel_rfl) rfl) 63 #[.pointer (some ⟨W.heap.size, 0, none⟩)] trivial (enters_of Tryz.func63 (by kernel_rfl) rfl) _ _
    (by rw [hsz]; unfold maxLen; omega) (by rw [hsz]; omega) _ hseq
  refine cS.mono ?_
  rintro e w' ⟨v, ss, rfl, hS, hrow, _, hb⟩
  have h1 := sorted_fmts hS
  have h2 : ss.length = 2 := by
    have := hS.length_eq
    rw [this, keys_fmts]
    rfl
  rw [h2] at hrow
  have h3 : (ss.mergeSort (fun x y => decide (x ≤ y))).map encZ = [.int .i64 1, .int .i64 2] := by
    show (ss.mergeSort leI).map encZ = _
    rw [h1]
    rfl
  rw [h3] at hrow
  obtain ⟨A, c, rfl, _⟩ := own_slice hrow
  exact ⟨⟨A, c, rfl, hrow⟩, hb⟩

/-! ### The iterator -/
/-- The number of a format; the first one, the second. -/
def numF : Bool → Int
  | false => 1
  | true => 2
abbrev encM (x : Bool) : Array Value := #[.int .i64 (numF x), fmtV10 (numF x)]
/-- What a round must leave alone: maps; cells. -/
def KpW (A B : World) : Prop := ∀ (k : Nat) (o : Obj), A.heap[k]? = some o → (o.isCells = true ∨ o.isWalk = true) → B.heap[k]? = some o
theorem KpW.refl (A : World) : KpW A A := fun _ _ h _ => h
theorem KpW.trans {A B C : World} (h : KpW A B) (k : KpW B C) : KpW A C := fun j o hj ho => k j o (h j o hj ho) ho
theorem KpW.put {B : Nat} (W : World) (l : Nat) (o o' : Obj) (hl : B ≤ l) (h : W.heap[l]? = some o) (hc : o.isCells = false) (hw : o.isWalk = false) : KpW W (W.putObj l o') := fun k p hk hp =>
  (World.putObj_heap_other (fun e => by
    subst e
    rw [h] at hk
    cases hk
    rcases hp with h | h
    · rw [hc] at h; cases h
    · rw [hw] at h; cases h)).trans hk
theorem KpW.below {A B : World} (h : Below A.heap.size A B) : KpW A B := fun k o hk _ => (h.block k (Array.getElem?_eq_some_iff.1 hk).1).trans hk
theorem row_cell {w : World} {base : Nat} {e : TypeId} {A : Option Addr} {n c : Nat} {xs : List Value} (h : w.ownsRow base e 1 (.slice A n c) n xs) {j : Nat} (hj : j < n) :
    ∃ g cur, A = some ⟨g, 0, none⟩ ∧ w.heap[g]? = some (.cells cur e (0, 0)) ∧ ∀ W : World, W.heap[g]? = w.heap[g]? → W.cell? ⟨g, j, none⟩ = xs[j]? := by
  have h' := h
  rcases h'.2 with ⟨_, h0⟩ | ⟨g, cap, cur, e1, hb, hg, _⟩
  · omega
  · cases e1
    refine ⟨g, cur, rfl, hg, fun W hW => ?_⟩
    have hlt : j < xs.length := by have := h.1; omega
    have hx : xs[j]? = some xs[j] := List.getElem?_eq_getElem hlt
    have h2 := h.cells (g := g) rfl j _ hx
    rw [add_plain', Nat.zero_add] at h2
    rw [hx, ← h2]
    exact World.cell?_of_block (a := ⟨g, j, none⟩) hW

set_option maxRecDepth 100000 in
set_option maxHeartbeats 2000000 in
theorem each_in (l : Nat) (J Jx : List Bool → World → Prop) (hJn : ∀ pre A B, J pre A → A.grownBy B none → J pre B)
    (hY : ∀ pre x W, J pre W → pre.length < 2 → YieldAt Fence.wide 2 Tryz.prog l (encM x) W fun e W' =>
      (e = .returned (.bool true) ∧ J (pre ++ [x]) W' ∧ KpW W W') ∨ (e = .returned (.bool false) ∧ Jx (pre ++ [x]) W'))
    (W : World) (h0 : J [] W) :
    CallsIn Fence.wide 3 Tryz.prog 47 #[.func (.yield l) #[] #[]] W fun e W' => (∃ v, e = .returned v) ∧
      ((∃ ys, ys = [false, true] ∧ J ys W') ∨ (∃ pre, (∃ k, pre = [false, true].take k) ∧ Jx pre W')) := by
  refine callsIn_of_wp Tryz.func47 rfl trivial ?_ rfl
  simp only [Tryz.ntmps47, List.size_toArray, List.length_cons, List.length_nil, Nat.reduceAdd, Nat.reduceSub, Array.replicate_succ, Array.replicate_zero, List.push_toArray, List.append_toArray, List.nil_append, List.cons_append]
  gi_wp2_with fail
  refine ⟨trivial, ?_⟩
  refine (callsIn_wide.2 (formats_any W)).mono ?_
  rintro e w0 ⟨⟨g, rfl, hg, hgl⟩, hb0⟩
  have hJ0 := hJn _ _ w0 h0 ⟨hb0.os, hb0.tape, hb0.output, hb0.size, fun k hk _ => hb0.block k hk⟩
  clear h0 hb0
  gi_wp2_with fail
  refine ⟨trivial, ?_⟩
  refine (callsIn_wide.2 (callsIn_wide.1 (keys_c (some g) w0))).mono ?_
  rintro e w1 ⟨rfl, rfl⟩
  gi_wp2_with fail
  refine ⟨trivial, ?_⟩
  refine (callsIn_wide.2 (callsIn_wide.1 (sorted_c hg))).mono ?_
  rintro e w2 ⟨⟨A, c, rfl, hrow⟩, hb2⟩
  have hbW : Below w0.heap.size w0 w2 := ((Below.refl w0.heap.size w0).alloc (Nat.le_refl _) _).trans (hb2.mono (by simp))
  have hJ2 := hJn _ _ w2 hJ0 ⟨hbW.os, hbW.tape, hbW.output, hbW.size, fun k hk _ => hbW.block k hk⟩
  have hg2 := hg.block (hbW.block g hg.lt)
  have Hg := Lib.hid hg2
  have Hrow := Lib.hid hrow
  have HY := Lib.hid hY
  clear hbW hb2 hg hJ0 hg2 hrow hY hJn
  gi_wp2_with fail
  gi_loopw [10] (fun i wr => ∃ j : Nat, j ≤ 2 ∧ i = .int .i64 j ∧ J (([false, true] : List Bool).take j) wr ∧ KpW w2 wr) (fun i _ => 2 - (intOf i).toNat)
  case atStart => exact ⟨0, Nat.zero_le _, rfl, hJ2, KpW.refl _⟩
  case round =>
    obtain ⟨j, hj, rfl, hJs, hk⟩ := hrel
    by_cases hlt : j < 2
    · obtain ⟨f, hf⟩ : ∃ f, ([false, true] : List Bool)[j]? = some f := ⟨_, List.getElem?_eq_getElem (by simpa using hlt)⟩
      obtain ⟨r, cur, rfl, hr, hcell⟩ := row_cell Hrow.out hlt
      have hc := hcell wr ((hk r _ hr (.inl rfl)).trans hr.symm)
      have hf2 : ([.int .i64 1, .int .i64 2] : List Value)[j]? = some (.int .i64 (numF f)) := by
        rcases (by omega : j = 0 ∨ j = 1) with rfl | rfl
        · simp at hf; subst hf; rfl
        · simp at hf; subst hf; rfl
      rw [hf2] at hc
      have hwf : (Lit.int .i64 (numF f)).wf = true := by
        rcases (by omega : j = 0 ∨ j = 1) with rfl | rfl
        · simp at hf; subst hf; rfl
        · simp at hf; subst hf; rfl
      obtain ⟨es, clock, hm, _⟩ := id Hg.out
      have hlk := (fmts_look (Hg.out.block ((hk g _ hm (.inr rfl)).trans hm.symm)) hwf).2
      have hj2 : (0 : Int) ≤ (j : Int) := by omega
      have hj3 : (j : Int) < 2 := by omega
      have hw1 : IntKind.i64.wrap ((j : Int) + 1) = ((j + 1 : Nat) : Int) := by rw [IntKind.wrap_i64]; omega
      have htk : ([false, true] : List Bool).take (j + 1) = ([false, true] : List Bool).take j ++ [f] := by rw [List.take_add_one, hf]; rfl
      have Htk := Lib.hid htk
      have Hk := Lib.hid hk
      obtain ⟨fn, tmps, assign, body, hy, hR⟩ := HY.out (([false, true] : List Bool).take j) f wr hJs (by rw [List.length_take]; omega)
      dsimp only [encM] at hy
      clear hcell hr hf hf2 hwf htk hk hm
      gi_wp2_with fail
      refine hR.mono ?_
      rintro e W3 (⟨rfl, hJ3, hk3⟩ | ⟨rfl, hJx3⟩)
      · have H3 := Lib.hid (⟨hJ3, hk3⟩ : _ ∧ _)
        clear hJ3 hk3
        gi_wp2_with fail
        go_roundw
        case rel => exact ⟨j + 1, by omega, by go_num, by rw [Htk.out]; exact H3.out.1, Hk.out.trans H3.out.2⟩
        case measure => simp [intOf]; omega
      · rw [← Htk.out] at hJx3
        gi_wp2_with fail
        refine bodyPost_ret (results_none rfl _ _ _) rfl ?_
        exact ⟨⟨_, rfl⟩, .inr ⟨_, ⟨_, rfl⟩, hJx3⟩⟩
    · obtain rfl : j = 2 := by omega
      gi_wp2_with fail
      go_end0
      exact ⟨⟨_, rfl⟩, .inl ⟨_, rfl, hJs⟩⟩

/-- The iterator's contract. -/
theorem each_stops (w : World) :
    SeqStopsK Fence.wide 3 Tryz.prog 47 #[] encM KpW (fun ys => ys = [false, true]) (fun pre => ∃ k, pre = ([false, true] : List Bool).take k) 2 w := fun l J Jx W hW hJ _ hY h0 =>
  each_in l J Jx (fun pre A B hA hg => hJ pre A B none hA hg (fun r e => by cases e)) hY W h0

end Go.Proofs.YtcpdjhkpmaamdaaGreat
