/-
  one.entries and its iterator: their contracts.
-/
import Derived.Test.YtlblfpfdebmcgaaDoorRecR
import Derived.Test.YtlblfpfdebmcgaaDoorScope
import Derived.Test.YtlblfpfdebmcgaaDoorRangeW
import Derived.Test.YtlblfpfdebmcgaaDoorPutO
namespace Go.Proofs.YtlblfpfdebmcgaaDoor
open Go.RowKit Go.Shelf
set_option linter.unusedVariables false

attribute [local go_sem] Oper.semAt_some

theorem cut_tail {P : Program} {t e : TypeId} {i : TypeInfo} (ht : P.underlying t = some (.slice e)) (hi : P.info? e = some i) (h1 : i.size = 1) (A : Option Addr) (n c k : Nat) (hk : k ≤ n) (hnc : n ≤ c) :
    ∃ A' c', (∀ W : World, (Instr.slice t (.slice A n c) (some (.int .i64 (k : Int))) none none).run P W = .ok (.slice A' (n - k) c') W) ∧ n - k ≤ c' ∧ ∀ {w : World} {B : Nat} {kd : IntKind} {l : List Int}, Rd w B kd A n l → Rd w B kd A' (n - k) (l.drop k) := by
  have he : P.elem t = e := by simp [Program.elem, ht]
  have hu : P.underlying t = some (.slice (P.elem t)) := by rw [he]; exact ht
  refine ⟨if c = k then A else A.map (·.add k), c - k, fun W => ?_, by omega, fun h => h.cut hk hnc⟩
  rw [run_slice_l W t A n c hu .i64 (k : Int) (by omega) (by omega), he]
  simp [sizeOf, run_typeInfo, hi, h1, sliced, go_sem]

/-- What a round must leave alone: what lies below B0; the iterator's box. -/
def KpB (B0 sB : Nat) (A A' : World) : Prop := (∀ k, k < B0 → A'.heap[k]? = A.heap[k]?) ∧ A'.heap[sB]? = A.heap[sB]? ∧ A.heap.size ≤ A'.heap.size
theorem KpB.refl (B0 sB : Nat) (A : World) : KpB B0 sB A A := ⟨fun _ _ => rfl, rfl, Nat.le_refl _⟩
theorem KpB.trans {B0 sB : Nat} {A A' A'' : World} (h : KpB B0 sB A A') (h' : KpB B0 sB A' A'') : KpB B0 sB A A'' := ⟨fun k hk => (h'.1 k hk).trans (h.1 k hk), h'.2.1.trans h.2.1, Nat.le_trans h.2.2 h'.2.2⟩
theorem KpB.below {B0 sB : Nat} {A A' : World} (h : Below A.heap.size A A') (hB : B0 ≤ A.heap.size) (hs : sB < A.heap.size) : KpB B0 sB A A' := ⟨fun k hk => h.block k (by omega), h.block sB hs, h.size⟩
theorem KpB.put {B0 sB D : Nat} (hB : B0 ≤ D) (hs : sB < D) (W : World) (l : Nat) (o o' : Obj) (hl : D ≤ l) (_ : W.heap[l]? = some o) (_ : o.isCells = false) (_ : o.isWalk = false) : KpB B0 sB W (W.putObj l o') :=
  ⟨fun k hk => World.putObj_heap_other (by omega), World.putObj_heap_other (by omega), by have := (grownBy_putObj' W l o').size; omega⟩

/-- An entry, as it is handed over. -/
abbrev encN (e : EnP) : Array Value := #[.agg #[.int .i64 e.tm, .int .i64 e.kd, .int .i64 e.vl]]
/-- What is told of it. -/
def OkN (b : List Int) (pre : List EnP) (x : EnP) (_ : World) : Prop := scanL b = pre ++ scanL (b.drop (15 * pre.length)) ∧ recOf (b.drop (15 * pre.length)) = some x
theorem scan_next {b : List Int} {pre : List EnP} {x : EnP} (h : scanL b = pre ++ scanL (b.drop (15 * pre.length))) (hx : recOf (b.drop (15 * pre.length)) = some x) : scanL b = (pre ++ [x]) ++ scanL (b.drop (15 * (pre ++ [x]).length)) := by
  have e : (b.drop (15 * pre.length)).drop 15 = b.drop (15 * (pre ++ [x]).length) := by rw [List.drop_drop, List.length_append]; rfl
  rw [h, scanL_some hx, e, List.append_assoc]
  rfl
theorem scan_end {b : List Int} {pre : List EnP} (h : scanL b = pre ++ scanL (b.drop (15 * pre.length))) (hx : recOf (b.drop (15 * pre.length)) = none) : pre = scanL b := by
  rw [h, scanL_none hx, List.append_nil]
theorem scan_room {b : List Int} {pre : List EnP} (h : scanL b = pre ++ scanL (b.drop (15 * pre.length))) : 15 * pre.length ≤ b.length := by
  have h1 := scanL_length b
  rw [h, List.length_append] at h1
  omega

/-- What holds at the label. -/
def NJ (W : World) (b : List Int) (A : Option Addr) (n c sB B0 : Nat) (J : List EnP → World → Prop) (l0 : Nat) (a' : Act) (w : World) : Prop :=
  ∃ (pre : List EnP) (q : Nat) (u4 u5 u6 u7 u8 u9 u10 u11 u12 u13 u14 u15 u16 u17 u18 u19 : Value), q = 15 * pre.length ∧ scanL b = pre ++ scanL (b.drop (15 * pre.length)) ∧ J pre w ∧ KpB B0 sB W w ∧
    a' = { tmps := #[.func (.yield l0) #[] #[], .pointer (some ⟨sB, 0, none⟩), undef, .int .i64 (q : Int), u4, u5, u6, u7, u8, u9, u10, u11, u12, u13, u14, u15, u16, u17, u18, u19], defers := [] }

set_option maxRecDepth 100000 in
set_option maxHeartbeats 2000000 in
theorem entries_in (l0 sB B0 : Nat) {A : Option Addr} {n c : Nat} {b : List Int} (hn : n ≤ 1000000000) (J Jx : List EnP → World → Prop) (W : World) (hJ : StaysT 9 W.heap.size J)
    (hY : ∀ pre x W1, J pre W1 → OkN b pre x W1 → YieldAt Fence.wide 2 Tryd.prog l0 (encN x) W1 fun e W' =>
      (e = .returned (.bool true) ∧ J (pre ++ [x]) W' ∧ KpB B0 sB W1 W') ∨ (e = .returned (.bool false) ∧ Jx (pre ++ [x]) W'))
    (hs : Boxed W sB 23 (.slice A n c)) (hr : Rd W B0 .u8 A n b) (hb : Byt b) (hnc : n ≤ c) (hT : 0 < B0 ∧ Cr.Tab W) (hB0 : B0 ≤ W.heap.size) (h0 : J [] W) :
    CallsIn Fence.wide 3 Tryd.prog 39 #[.func (.yield l0) #[] #[], .pointer (some ⟨sB, 0, none⟩)] W fun e W' => (∃ v, e = .returned v) ∧
      ((∃ ys, ys = scanL b ∧ J ys W') ∨ (∃ pre, Jx pre W')) := by
  obtain ⟨i0, hi, hz0, hz1, hz2⟩ := info_parts Cr.info_u8
  have Hl := Lib.hid hr.1
  have HG := Lib.hid (⟨hs, hr, hT, hB0, hb⟩ : _ ∧ _ ∧ _ ∧ _ ∧ _)
  have HJ := Lib.hid hJ
  have HY := Lib.hid hY
  clear hr hB0 hJ hY hT hs hb
  refine callsIn_of_wp Tryd.func39 rfl trivial ?_ rfl
  simp only [Tryd.ntmps39, List.size_toArray, List.length_cons, List.length_nil, Nat.reduceAdd, Nat.reduceSub, Array.replicate_succ, Array.replicate_zero, List.push_toArray, List.append_toArray, List.nil_append, List.cons_append]
  refine scope_once 0 (NJ W b A n c sB B0 J l0) (fun a' _ => n + 15 - (intOf (a'.tmps.getD 3 undef)).toNat) rfl ?_ ?_
  · intro hrest
    gi_wp2_with fail
    refine wpIn_label ?_
    rename_i hK
    exact hK _ _ (hrest _ _ ⟨[], 0, _, _, _, _, _, _, _, _, _, _, _, _, _, _, _, _, rfl, by simp, h0, KpB.refl _ _ _, rfl⟩)
  · rintro a' wr ⟨pre, q, u4, u5, u6, u7, u8, u9, u10, u11, u12, u13, u14, u15, u16, u17, u18, u19, hq, hsc, hj, hkp, rfl⟩
    have hroom := scan_room hsc
    rw [Hl.out, ← hq] at hroom
    have hlc : wr.cell? ⟨sB, 0, none⟩ = some (.slice A n c) := (show Boxed wr sB 23 (.slice A n c) from hkp.2.1.trans HG.out.1).cell
    obtain ⟨A', c', hrun, hc', hcut⟩ := cut_tail Tryd.underlying23 hi hz1 A n c q hroom hnc
    have hrd : Rd wr B0 .u8 A n b := ⟨HG.out.2.1.1, fun h => by
      obtain ⟨b', o', e, hlt, hcc⟩ := HG.out.2.1.2 h
      exact ⟨b', o', e, hlt, fun i hi => (World.cell?_of_block (a := ⟨b', o' + i, none⟩) (hkp.1 b' hlt)).trans (hcc i hi)⟩⟩
    have hB0 : B0 ≤ wr.heap.size := Nat.le_trans HG.out.2.2.2.1 hkp.2.2
    have hTr : Cr.Tab wr := tab_low HG.out.2.2.1.2 HG.out.2.2.1.1 HG.out.2.2.2.1 hkp.1
    have hcr := (hcut hrd).more hB0
    have hw1 : IntKind.i64.wrap ((q : Int) + 15) = ((q + 15 : Nat) : Int) := by rw [IntKind.wrap_i64]; omega
    have HI := Lib.hid (⟨hq, hsc, hj, hkp, hB0⟩ : _ ∧ _ ∧ _ ∧ _ ∧ _)
    clear hq hsc hj hkp hB0 hcut hrd h0
    gi_wp2_with fail
    refine ⟨trivial, ?_⟩
    refine (callsIn_wide.2 (recordOf_any A' (n - q) c' (b.drop q) wr hTr hcr (HG.out.2.2.2.2.drop q) hc')).mono ?_
    rintro e w1 ⟨rfl, hb1⟩
    obtain ⟨hq, hsc, hj, hkp, hB0⟩ := HI.out
    have hsB : sB < wr.heap.size := Nat.lt_of_lt_of_le HG.out.1.lt hkp.2.2
    cases hx : recOf (b.drop q) with
    | none =>
      have hv : recV (b.drop q) = .tuple #[.agg #[.int .i64 0, .int .i64 0, .int .i64 0], .bool false] := by unfold recV; rw [hx]; rfl
      rw [hv]
      have hj1 : J pre (w1.alloc (.cells #[.int .i64 0, .int .i64 0, .int .i64 0] 40)) := HJ.out _ _ _ none (HJ.out _ wr w1 none hj (grown_of hb1) (fun r e => by cases e)) (World.grownBy_alloc _ _ none) (fun r e => by cases e)
      rw [hq] at hx
      have HF := Lib.hid (⟨hj1, scan_end hsc hx⟩ : _ ∧ _)
      clear hq hsc hj hkp hB0 hx hv hj1 hb1 hlc hrun hcr hTr
      gi_wp2_with fail
      simp only [Exit.jump]
      refine bodyPost_ret (results_none rfl _ _ _) rfl ?_
      exact ⟨⟨_, rfl⟩, .inl (by first | exact ⟨pre, HF.out.2, HF.out.1⟩ | (rw [← HF.out.2]; exact HF.out.1))⟩
    | some x =>
      have hv : recV (b.drop q) = .tuple #[.agg #[.int .i64 x.tm, .int .i64 x.kd, .int .i64 x.vl], .bool true] := by unfold recV; rw [hx]; rfl
      rw [hv]
      obtain ⟨w2, hw2⟩ : ∃ w2, w2 = w1.alloc (.cells #[.int .i64 x.tm, .int .i64 x.kd, .int .i64 x.vl] 40) := ⟨_, rfl⟩
      have hb2 : Below wr.heap.size wr w2 := hb1.trans (by rw [hw2]; exact ((Below.refl _ w1).alloc (Nat.le_refl _) _).mono hb1.size)
      have bx2 : BoxE w2 w1.heap.size x := by rw [hw2]; exact BoxE.new w1 x
      have hj2 : J pre w2 := HJ.out _ wr w2 none hj (grown_of hb2) (fun r e => by cases e)
      rw [hq] at hx
      obtain ⟨fn, tmps, assign, body, hy, hR⟩ := HY.out pre x w2 hj2 ⟨hsc, hx⟩
      obtain ⟨k0, k1, k2⟩ := bx2.cells
      have H3 := Lib.hid (⟨hkp.trans (KpB.below hb2 hB0 hsB), hq, scan_next hsc hx, hw2⟩ : _ ∧ _ ∧ _ ∧ _)
      dsimp only [encN] at hy
      rw [hw2] at k0 k1 k2 hy
      have Hroom := Lib.hid (show q + 15 ≤ n by
        have h1 := recOf_len hx
        rw [List.length_drop, Hl.out] at h1
        omega)
      clear hq hsc hj hkp hB0 hx hv hj2 hb1 hb2 bx2 hlc hrun hcr hTr hsB
      gi_wp2_with fail
      rw [← H3.out.2.2.2]
      refine hR.mono ?_
      rintro e' W3 (⟨rfl, hJ3, hk3⟩ | ⟨rfl, hJx3⟩)
      · have H4 := Lib.hid (⟨hJ3, H3.out.1.trans hk3⟩ : _ ∧ _)
        clear hJ3 hk3 k0 k1 k2
        gi_wp2_with fail
        refine wpIn_goto ?_
        refine ⟨rfl, ⟨pre ++ [x], q + 15, _, _, _, _, _, _, _, _, _, _, _, _, _, _, _, _, by rw [List.length_append, H3.out.2.1]; simp; omega, H3.out.2.2.1, H4.out.1, H4.out.2, rfl⟩, ?_⟩
        have := Hroom.out
        simp [intOf]
        omega
      · have H4 := Lib.hid hJx3
        clear hJx3 k0 k1 k2
        gi_wp2_with fail
        simp only [Exit.jump]
        go_end0
        exact ⟨⟨_, rfl⟩, .inr ⟨_, H4.out⟩⟩

/-- The iterator's contract. -/
theorem entries_seq (sB B0 : Nat) {A : Option Addr} {n c : Nat} {b : List Int} (hn : n ≤ 1000000000) (w : World) (hB : B0 ≤ w.heap.size) (hs : Boxed w sB 23 (.slice A n c)) (hr : Rd w B0 .u8 A n b) (hb : Byt b) (hnc : n ≤ c) (hT : 0 < B0 ∧ Cr.Tab w) :
    SeqW 9 Fence.wide 3 Tryd.prog 39 #[.pointer (some ⟨sB, 0, none⟩)] encN (KpB B0 sB) (fun ys => ys = scanL b) (OkN b) w := fun l0 J Jx W hW hJ _ hY h0 =>
  entries_in l0 sB B0 hn J Jx W hJ hY ((hW.block sB hs.lt).trans hs) ⟨hr.1, fun h => by
      obtain ⟨b', o', e, hlt, hcc⟩ := hr.2 h
      exact ⟨b', o', e, hlt, fun i hi => (World.cell?_of_block (a := ⟨b', o' + i, none⟩) (hW.block b' (by omega))).trans (hcc i hi)⟩⟩ hb hnc ⟨hT.1, hT.2.on hW⟩ (Nat.le_trans hB hW.size) h0

/-- What entries answers. -/
def EntsOut (A : Option Addr) (n c : Nat) (w : World) (e : Ending) (w' : World) : Prop :=
  e = .returned (.func (.func 39) #[] #[.pointer (some ⟨w.heap.size, 0, none⟩)]) ∧ Boxed w' w.heap.size 23 (.slice A n c) ∧ w'.heap.size = w.heap.size + 1 ∧ Below w.heap.size w w'
set_option maxRecDepth 100000 in
set_option maxHeartbeats 400000 in
theorem entries_any (A : Option Addr) (n c : Nat) (w : World) : Calls Tryd.prog 28 #[.slice A n c] w (EntsOut A n c w) := by
  go_enter Tryd.func28, Tryd.ntmps28
  go_wp2
  go_ret
  exact ⟨rfl, Boxed.new w _ _, by simp, (Below.refl _ w).alloc (Nat.le_refl _) _⟩

end Go.Proofs.YtlblfpfdebmcgaaDoor
