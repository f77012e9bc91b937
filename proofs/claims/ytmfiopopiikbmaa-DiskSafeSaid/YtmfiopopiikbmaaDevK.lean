/-
  The developers' files in order: the names sorted by the library, the iterator over the files: their contracts.
-/
import Derived.RangeFuncNested
import Derived.RangeFuncBound
import Derived.RangeFuncCalls
import Derived.RangeFuncLeaves
import Derived.RangeFuncBox
import Derived.Shelf.Abstract
import Derived.Shelf.AbstractIn
import Derived.Shelf.RegionOpen
import Derived.OwnWalkIn
import Derived.TacticsInMore
import Derived.LoopNIn
import Derived.LoopIn
import Derived.Sort.KeysCollected
import Derived.Laws.MakeOwn
import Derived.Test.YtmfiopopiikbmaaKeys
import Derived.Test.YtmfiopopiikbmaaDevF
namespace Go.Proofs.Ytmfiopopiikbmaa
open Go.RowKit Go.Maps Go.Sort Go.Shelf

attribute [local go_sem] Oper.semAt_some

/-! ### The names, sorted -/
theorem keys_of (fs : List FileM) : strKeys (mapD fs) = fs.map fun f => f.name.data.toList := by
  show (fs.map entD).map _ = _
  rw [List.map_map]
  rfl
theorem keys_sorted {fs : List FileM} (h : SortM fs) {ss : List (List UInt8)} (hp : ss.Perm (strKeys (mapD fs))) : ss.mergeSort leB = fs.map fun f => f.name.data.toList := by
  rw [mergeSort_of_perm hp, keys_of]
  refine List.mergeSort_of_pairwise ?_
  have h1 := List.pairwise_map.1 h
  rw [List.pairwise_map]
  refine h1.imp fun {a b} hab => ?_
  have h2 : Op.bytesLess a.name.toList b.name.toList = true := hab
  rw [bytesLess_eq, decide_eq_true_eq, toList_data, toList_data] at h2
  exact decide_eq_true (List.le_of_lt h2)
theorem sorts_c (m : Nat) : AnyZ.SortsIn Try.prog Try.sortedA_ren Fence.wide m :=
  ⟨fun blk off cap ss W hH hblk hsz => callsIn_wide.2 (AnyM.slices_Sort_string Try.sortA blk off cap ss W hH hblk hsz),
   fun p cap W => callsIn_wide.2 (AnyM.slices_Sort_string_none Try.sortA p cap W)⟩
theorem keys_c (mb : Option Nat) (W : World) : CallsIn Fence.wide 5 Try.prog 64 #[.map mb] W fun e w' =>
    e = .returned (.func (.func 71) #[] #[.pointer (some ⟨W.heap.size, 0, none⟩)]) ∧ w' = W.alloc (.cells #[.map mb] 59) :=
  AnyZ.keys_in Try.keysA Fence.wide 5 trivial rfl mb W
/-- What slices.Sorted answers of a map's keys. -/
def SortedOut (fs : List FileM) (w : World) (e : Ending) (w' : World) : Prop :=
  (∃ A c, e = .returned (.slice A fs.length c) ∧ w'.ownsRow w.heap.size 9 1 (.slice A fs.length c) fs.length (fs.map fun f => .string f.name)) ∧ Below w.heap.size w w'
set_option maxHeartbeats 1000000 in
theorem sorted_c {b n : Nat} {fs : List FileM} {W : World} (hown : W.ownsMap Try.prog 9 itself b n (mapD fs)) (hs : SortM fs) (hl : fs.length ≤ 100000) :
    CallsIn Fence.wide 5 Try.prog 63 #[.func (.func 71) #[] #[.pointer (some ⟨W.heap.size, 0, none⟩)]] (W.alloc (.cells #[.map (some b)] 59)) (SortedOut fs (W.alloc (.cells #[.map (some b)] 59))) := by
  have hbl := hown.lt
  have hseq : SeqGives Fence.wide 2 Try.prog 71 #[.pointer (some ⟨W.heap.size, 0, none⟩)] encStr (fun ss => ss.Perm (strKeys (mapD fs))) (Maps.size (mapD fs)) (W.alloc (.cells #[.map (some b)] 59)) :=
    AnyZ.keys_gives (ρ := Try.keysA_ren) { Try.keysA with } Fence.wide _ trivial rfl (by omega) W.heap.size b n (mapD fs) _ (by simp) (by simp) (by
      obtain ⟨es, clock, hb, Ft, hs, hD⟩ := hown
      exact ⟨es, clock, (Below.heap_alloc _ _ b hbl).trans hb, Ft, hs, hD⟩)
  have cS := AnyZ.sorted_in Try.sortedA Fence.wide 5 trivial trivial trivial trivial rfl (by omega) (sorts_c _) (enters_of Try.func70 (by kernel_rfl) rfl) 71 #[.pointer (some ⟨W.heap.size, 0, none⟩)] trivial (enters_of Try.func71 (by kernel_rfl) rfl) _ _
    (by rw [size_mapD]; unfold maxLen; omega) (by rw [size_mapD]; omega) _ hseq
  refine cS.mono ?_
  rintro e w' ⟨v, ss, rfl, hS, hrow, _, hb⟩
  have h1 := keys_sorted hs hS
  have h2 : ss.length = fs.length := by
    have := hS.length_eq
    rw [this, keys_of, List.length_map]
  rw [h2] at hrow
  have h3 : (ss.mergeSort (fun x y => decide (x ≤ y))).map encStr = fs.map fun f => Value.string f.name := by
    show (ss.mergeSort leB).map encStr = _
    rw [h1, List.map_map]
    refine List.map_congr_left fun f _ => ?_
    simp [encStr]
  rw [h3] at hrow
  obtain ⟨A, c, rfl, _⟩ := own_slice hrow
  exact ⟨⟨A, c, rfl, hrow⟩, hb⟩

/-! ### The iterator -/
abbrev encF (f : FileM) : Array Value := #[.agg #[.string f.name, .slice f.p.A f.p.n f.p.c]]
/-- What a round must leave alone: the map's block; whatever holds texts, or a map's value. -/
def KpF (b : Nat) (A B : World) : Prop := B.heap[b]? = A.heap[b]? ∧ ∀ (k : Nat) cur t fr, A.heap[k]? = some (Obj.cells cur t fr) → t = 9 ∨ t = 59 → B.heap[k]? = A.heap[k]?
theorem KpF.refl (b : Nat) (A : World) : KpF b A A := ⟨rfl, fun _ _ _ _ _ _ => rfl⟩
theorem KpF.trans {b : Nat} {A B C : World} (h : KpF b A B) (k : KpF b B C) : KpF b A C :=
  ⟨k.1.trans h.1, fun j cur t fr hj ht => (k.2 j cur t fr ((h.2 j cur t fr hj ht).trans hj) ht).trans (h.2 j cur t fr hj ht)⟩
theorem KpF.put {b : Nat} {B : Nat} (hb : b < B) (W : World) (l : Nat) (o o' : Obj) (hl : B ≤ l) (h : W.heap[l]? = some o) (hc : o.isCells = false) (_ : o.isWalk = false) : KpF b W (W.putObj l o') :=
  ⟨World.putObj_heap_other (by omega), fun k cur t fr hk _ => World.putObj_heap_other (fun e => by subst e; rw [h] at hk; cases hk; cases hc)⟩
theorem KpF.grown {b : Nat} {A B : World} {row : Option Nat} (hbl : b < A.heap.size) (hg : A.grownBy B row) (hr : ∀ g, row = some g → g ≠ b ∧ ∀ cur t fr, A.heap[g]? = some (Obj.cells cur t fr) → t ≠ 9 ∧ t ≠ 59) : KpF b A B :=
  ⟨hg.block b hbl (fun e => (hr b e.symm).1 rfl), fun k cur t fr hk ht => hg.block k (Array.getElem?_eq_some_iff.1 hk).1 (fun e => by
    obtain ⟨_, h2⟩ := hr k e.symm
    obtain ⟨h3, h4⟩ := h2 cur t fr hk
    rcases ht with rfl | rfl
    · exact h3 rfl
    · exact h4 rfl)⟩
theorem KpF.alloc {b : Nat} {A : World} (hbl : b < A.heap.size) (o : Obj) : KpF b A (A.alloc o) := KpF.grown hbl (World.grownBy_alloc A o none) (fun g e => by cases e)

theorem map_look {w : World} {b n : Nat} {fs : List FileM} (h : w.ownsMap Try.prog 9 itself b n (mapD fs)) {s : ByteArray} (hs : s.size ≤ maxLen) : (Instr.lookup 59 (.map (some b)) (.string s) false).run Try.prog w = .ok (lookV fs s) w := by
  obtain ⟨v, ps, hrun, hv⟩ := h.lookup text_keyed Try.underlying59 (zero_row w) (zd := .held (.slice none 0 0)) (zp := []) rfl (key_text hs)
  rw [at_mapD] at hv
  have e : v = lookV fs s := by
    unfold itself at hv
    unfold lookV
    cases hl : lookM fs s <;> rw [hl] at hv <;> cases hv <;> rfl
  rw [e] at hrun
  exact hrun
theorem look_at {fs : List FileM} (hs : SortM fs) {j : Nat} {f : FileM} (hf : fs[j]? = some f) : lookM fs f.name = some f := by
  induction fs generalizing j with
  | nil => simp at hf
  | cons g r ih =>
    have hp := List.pairwise_cons.1 hs
    unfold lookM
    rw [List.find?_cons]
    cases j with
    | zero => simp at hf; subst hf; simp
    | succ j =>
      have hf' : r[j]? = some f := by simpa using hf
      have h1 : lessL g.name f.name = true := hp.1 f.pure (List.mem_map_of_mem (List.mem_of_getElem? hf'))
      rw [decide_eq_false (less_ne h1)]
      exact ih hp.2 hf'
theorem owns_block {w w' : World} {b n : Nat} {fs : List FileM} (h : w.ownsMap Try.prog 9 itself b n (mapD fs)) (hb : w'.heap[b]? = w.heap[b]?) : w'.ownsMap Try.prog 9 itself b n (mapD fs) := by
  obtain ⟨es, clock, h1, h2, h3, h4⟩ := h
  exact ⟨es, clock, hb.trans h1, h2, h3, h4⟩

theorem row_cell {w : World} {base : Nat} {e : TypeId} {A : Option Addr} {n c : Nat} {xs : List Value} (h : w.ownsRow base e 1 (.slice A n c) n xs) {j : Nat} (hj : j < n) :
    ∃ g cur, A = some ⟨g, 0, none⟩ ∧ w.heap[g]? = some (.cells cur e (0, 0)) ∧ ∀ W : World, W.heap[g]? = w.heap[g]? → W.cell? ⟨g, j, none⟩ = xs[j]? := by
  have h' := h
  rcases h'.2 with ⟨_, h0⟩ | ⟨g, cap, cur, e1, hb, hg, _⟩
  · omega
  · cases e1
    refine ⟨g, cur, rfl, hg, fun W hW => ?_⟩
    have hlt : j < xs.length := by have := h.1; omega
    have hx : xs[j]? = some xs[j] := List.getElem?_eq_getElem hlt
    have h2 := h.cells (g := g) rfl j _ hx
    rw [add_plain', Nat.zero_add] at h2
    rw [hx, ← h2]
    exact World.cell?_of_block (a := ⟨g, j, none⟩) hW

set_option maxRecDepth 100000 in
set_option maxHeartbeats 2000000 in
theorem files_in (l Bf b n : Nat) {fs : List FileM} (hs : SortM fs) (hnm : ∀ f ∈ fs, f.name.size ≤ maxLen) (hl : fs.length ≤ 100000) (J Jx : List FileM → World → Prop) (hJn : ∀ pre A B, J pre A → A.grownBy B none → J pre B)
    (hY : ∀ pre x W, J pre W → pre.length < fs.length → YieldAt Fence.wide 2 Try.prog l (encF x) W fun e W' =>
      (e = .returned (.bool true) ∧ J (pre ++ [x]) W' ∧ KpF b W W') ∨ (e = .returned (.bool false) ∧ Jx (pre ++ [x]) W'))
    (W : World) (hBf : Boxed W Bf 59 (.map (some b))) (hown : W.ownsMap Try.prog 9 itself b n (mapD fs)) (h0 : J [] W) :
    CallsIn Fence.wide 3 Try.prog 62 #[.func (.yield l) #[] #[], .pointer (some ⟨Bf, 0, none⟩)] W fun e W' => (∃ v, e = .returned v) ∧
      ((∃ ys, ys = fs ∧ J ys W') ∨ (∃ pre, True ∧ Jx pre W')) := by
  have hcf := hBf.cell
  refine callsIn_of_wp Try.func62 rfl trivial ?_ rfl
  simp only [Try.ntmps62, List.size_toArray, List.length_cons, List.length_nil, Nat.reduceAdd, Nat.reduceSub, Array.replicate_succ, Array.replicate_zero, List.push_toArray, List.append_toArray, List.nil_append, List.cons_append]
  gi_wp2_with fail
  refine ⟨trivial, ?_⟩
  refine (callsIn_wide.2 (callsIn_wide.1 (keys_c (some b) W))).mono ?_
  rintro e w1 ⟨rfl, rfl⟩
  gi_wp2_with fail
  refine ⟨trivial, ?_⟩
  refine (callsIn_wide.2 (callsIn_wide.1 (sorted_c hown hs hl))).mono ?_
  rintro e w2 ⟨⟨A, c, rfl, hrow⟩, hb2⟩
  have hbW : Below W.heap.size W w2 := ((Below.refl W.heap.size W).alloc (Nat.le_refl _) _).trans (hb2.mono (by simp))
  have hJ2 := hJn _ _ w2 h0 ⟨hbW.os, hbW.tape, hbW.output, hbW.size, fun k hk _ => hbW.block k hk⟩
  have hown2 := owns_block hown (hbW.block b hown.lt)
  have hBf2 : Boxed w2 Bf 59 (.map (some b)) := (hbW.block Bf hBf.lt).trans hBf
  have Hown := Lib.hid hown2
  have HBf := Lib.hid hBf2
  have Hrow := Lib.hid hrow
  have HY := Lib.hid hY
  clear hbW hb2 hown hBf hcf h0 hown2 hBf2 hrow hY hJn
  gi_wp2_with fail
  gi_loopw [9] (fun i wr => ∃ j : Nat, j ≤ fs.length ∧ i = .int .i64 j ∧ J (fs.take j) wr ∧ KpF b w2 wr) (fun i _ => fs.length - (intOf i).toNat)
  case atStart => exact ⟨0, Nat.zero_le _, rfl, hJ2, KpF.refl _ _⟩
  case round =>
    obtain ⟨j, hj, rfl, hJs, hk⟩ := hrel
    by_cases hlt : j < fs.length
    · obtain ⟨f, hf⟩ : ∃ f, fs[j]? = some f := ⟨_, List.getElem?_eq_getElem hlt⟩
      obtain ⟨g, cur, rfl, hg, hcell⟩ := row_cell Hrow.out hlt
      have hc := hcell wr (hk.2 g cur _ _ hg (.inl rfl))
      rw [List.getElem?_map, hf] at hc
      replace hc : wr.cell? ⟨g, j, none⟩ = some (.string f.name) := hc
      have hbf : Boxed wr Bf 59 (.map (some b)) := (hk.2 Bf _ _ _ HBf.out (.inr rfl)).trans HBf.out
      have hcf := hbf.cell
      have hfm : f ∈ fs := List.mem_of_getElem? hf
      have hlk := map_look (owns_block Hown.out hk.1) (hnm f hfm)
      have e1 : lookV fs f.name = .slice f.p.A f.p.n f.p.c := by unfold lookV; rw [look_at hs hf]; rfl
      rw [e1] at hlk
      have hj2 : (0 : Int) ≤ (j : Int) := by omega
      have hj3 : (j : Int) < (fs.length : Int) := by omega
      have hw1 : IntKind.i64.wrap ((j : Int) + 1) = ((j + 1 : Nat) : Int) := by rw [IntKind.wrap_i64]; omega
      have htk : fs.take (j + 1) = fs.take j ++ [f] := by rw [List.take_add_one, hf]; rfl
      have Htk := Lib.hid htk
      have Hk := Lib.hid hk
      obtain ⟨fn, tmps, assign, body, hy, hR⟩ := HY.out (fs.take j) f wr hJs (by rw [List.length_take]; omega)
      dsimp only [encF] at hy
      clear hcell hg hf hfm htk hk e1 hbf
      gi_wp2_with fail
      refine hR.mono ?_
      rintro e W3 (⟨rfl, hJ3, hk3⟩ | ⟨rfl, hJx3⟩)
      · have H3 := Lib.hid (⟨hJ3, hk3⟩ : _ ∧ _)
        clear hJ3 hk3
        gi_wp2_with fail
        go_roundw
        case rel => exact ⟨j + 1, by omega, by go_num, by rw [Htk.out]; exact H3.out.1, Hk.out.trans H3.out.2⟩
        case measure => simp [intOf]; omega
      · gi_wp2_with fail
        refine bodyPost_ret (results_none rfl _ _ _) rfl ?_
        exact ⟨⟨_, rfl⟩, .inr ⟨_, trivial, hJx3⟩⟩
    · obtain rfl : j = fs.length := by omega
      gi_wp2_with fail
      go_end0
      exact ⟨⟨_, rfl⟩, .inl ⟨_, by rw [List.take_length], hJs⟩⟩

/-- The iterator's contract. -/
theorem files_stops (Bf b n : Nat) {fs : List FileM} (hs : SortM fs) (hnm : ∀ f ∈ fs, f.name.size ≤ maxLen) (hl : fs.length ≤ 100000) (w : World) (hBf : Boxed w Bf 59 (.map (some b))) (hown : w.ownsMap Try.prog 9 itself b n (mapD fs)) :
    SeqStopsK Fence.wide 3 Try.prog 62 #[.pointer (some ⟨Bf, 0, none⟩)] encF (KpF b) (fun ys => ys = fs) (fun _ => True) fs.length w := fun l J Jx W hW hJ _ hY h0 =>
  files_in l Bf b n hs hnm hl J Jx (fun pre A B hA hg => hJ pre A B none hA hg (fun r e => by cases e)) hY W ((hW.block Bf hBf.lt).trans hBf) (owns_block hown (hW.block b hown.lt)) h0

set_option maxRecDepth 100000 in
set_option maxHeartbeats 400000 in
theorem dev_sorted (b : Option Nat) (w : World) : CallsIn Fence.wide 4 Try.prog 57 #[.map b] w fun e w' =>
    e = .returned (.func (.func 62) #[] #[.pointer (some ⟨w.heap.size, 0, none⟩)]) ∧ w' = w.alloc (.cells #[.map b] 59) := by
  refine callsIn_of_wp Try.func57 rfl trivial ?_ rfl
  simp only [Try.ntmps57, List.size_toArray, List.length_cons, List.length_nil, Nat.reduceAdd, Nat.reduceSub, Array.replicate_succ, Array.replicate_zero, List.push_toArray, List.append_toArray, List.nil_append, List.cons_append]
  gi_wp2
  go_ret
  exact ⟨rfl, rfl⟩

end Go.Proofs.Ytmfiopopiikbmaa
