/-
  crc.Next: its contract.
-/
import Derived.Test.YtnojphkfniimgaaDoorCrcIt
import Derived.Scope
import Derived.ScopeJumps
import Derived.WalkMore
import Derived.Outline
namespace Go.Proofs.YtnojphkfniimgaaDoor
open Go.RowKit Go.Shelf

attribute [local go_sem] Oper.semAt_some

/-- A scope with one label: what holds at the label holds at its first coming and at every jump; so the code behind it is walked once. -/
theorem scope_once {P : Program} {n : Nat} {a : Act} {w : World} {Q : Exit → Act → World → Prop} {c rest : Code} (l : Nat) (J : Act → World → Prop) (μ : Act → World → Nat) (hf : findLabel c l = some (.seq .skip rest))
    (first : (∀ a w, J a w → rest.wpIn Fence.wide n P (Exit.jump l J Q) a w) → c.wpIn Fence.wide n P (Exit.jump l J Q) a w)
    (pass : ∀ a w, J a w → rest.wpIn Fence.wide n P (Exit.jump l (fun a' w' => J a' w' ∧ μ a' w' < μ a w) Q) a w) : (Code.scope c).wpIn Fence.wide n P Q a w :=
  wpIn_wide.2 (wp_scope_jumps l J μ hf (wpIn_wide.1 (first fun a w h => wpIn_mono (pass a w h) fun e a' w' hq => by
    cases e with
    | goto l' => exact ⟨hq.1, hq.2.1⟩
    | _ => exact hq)) fun a w h => wp_seq (wp_skip (wpIn_wide.1 (pass a w h))))

/-- What holds at the label. -/
def NInv (s : Int) (A : Option Addr) (n c : Nat) (l : List Int) (w : World) (bB : Nat) (a' : Act) (w' : World) : Prop :=
  ∃ (k : Nat) (y : Int) (ds : List Nat) (u6 u7 u8 u9 u10 u11 u12 u13 u14 u15 u16 u17 u18 u19 u20 u21 u22 u23 u24 u25 : Value), k ≤ n ∧ Boxed w' bB 23 (.int .u32 y) ∧ Is32 y (rowN (notN s.toNat) (natL (l.take k))) ∧
    Below w.heap.size w w' ∧ Marks w.heap.size ds w' ∧
    a' = { tmps := #[.int .u32 s, .slice A n c, .pointer (some ⟨bB, 0, none⟩), undef, .int .u32 0, .int .i64 k, u6, u7, u8, u9, u10, u11, u12, u13, u14, u15, u16, u17, u18, u19, u20, u21, u22, u23, u24, u25], defers := ds.map mark }

/-- What halves handed over make of a sum. -/
def halvesN (s : Nat) (pre : List Int) : Nat := pre.foldl (fun s x => stepN s (x % 16).toNat) s
theorem halvesN_snoc (s : Nat) (pre : List Int) (x : Int) : halvesN s (pre ++ [x]) = stepN (halvesN s pre) (x % 16).toNat := by unfold halvesN; rw [List.foldl_append]; rfl
theorem halvesN_byte (s : Nat) {b : Int} (hb : 0 ≤ b ∧ b ≤ 255) : halvesN s [b, b / 16] = byteN s b.toNat := by
  show stepN (stepN s (b % 16).toNat) (b / 16 % 16).toNat = stepN (stepN s (b.toNat % 16)) (b.toNat / 16)
  rw [show (b % 16).toNat = b.toNat % 16 by omega, show (b / 16 % 16).toNat = b.toNat / 16 by omega]
theorem kp1_b {w : World} {s : Nat} (hs : s < w.heap.size) (W : World) (l : Nat) (o o' : Obj) (hl : w.heap.size ≤ l) (_h : W.heap[l]? = some o) (_ : o.isCells = false) (_ : o.isWalk = false) : Kp1 s W (W.putObj l o') :=
  World.putObj_heap_other (by omega)
theorem World.setCell_other {W : World} {b d : Nat} (h : d ≠ b) (v : Value) : (W.setCell ⟨b, 0, none⟩ v).heap[d]? = W.heap[d]? := by
  show (W.heap.modify b _)[d]? = _
  rw [Array.getElem?_modify, if_neg (fun e => h e.symm)]
theorem some_ne_row {W W' : World} {row : Option Nat} {B b : Nat} {o : Obj} (_hg : W.grownBy W' row) (hr : ∀ r, row = some r → B ≤ r ∧ ∃ o : Obj, W.heap[r]? = some o ∧ o.isCells = false) (hb : W.heap[b]? = some o) (h : b < B ∨ o.isCells = true) : some b ≠ row := by
  intro e
  obtain ⟨hB, o', ho, hc⟩ := hr b e.symm
  rcases h with h | h
  · omega
  · rw [hb] at ho
    cases ho
    rw [h] at hc
    cases hc

/-- Between two halves' rounds: the box bB holds the sum so far; the iterator's box holds the byte; what lay when the call began lies; the marks' blocks hold nothing. -/
def HI (w : World) (bB sB : Nat) (ds : List Nat) (x y : Int) (pre : List Int) (W : World) : Prop :=
  (∃ a, Boxed W bB 23 (.int .u32 a) ∧ (0 ≤ a ∧ a < 4294967296) ∧ a.toNat = halvesN y.toNat pre) ∧ Below w.heap.size w W ∧ (∀ d ∈ ds, W.heap[d]? = some (.deferred (some []))) ∧ Boxed W sB 5 (.int .u8 x)
theorem HI.own {w : World} {bB sB : Nat} {ds : List Nat} {x y : Int} {B : Nat} (hd : ∀ d ∈ ds, d < B) (_hw : w.heap.size ≤ B) : OwnFrom B (HI w bB sB ds x y) := by
  rintro pre W W' row ⟨⟨a, hz, ha⟩, hB, hM, b1⟩ hg hr
  exact ⟨⟨a, hz.kept hg (some_ne_row hg hr hz (.inr rfl)), ha⟩, hB.grown hg hB.size (fun k e => by have := (hr k e).1; omega), fun d hd' => by
    have h1 := hM d hd'
    exact (hg.block d (Array.getElem?_eq_some_iff.1 h1).1 (some_ne_row hg hr h1 (.inl (hd d hd')))).trans h1, b1.kept hg (some_ne_row hg hr b1 (.inr rfl))⟩

set_option maxRecDepth 100000 in
set_option maxHeartbeats 2000000 in
theorem next_in (s : Int) (A : Option Addr) (n c : Nat) (l : List Int) (w : World) (hT : Tab w) (hs : 0 ≤ s ∧ s < 4294967296) (hr : Rd w w.heap.size .u8 A n l) (hb : Byt l) (hn : n ≤ 140737488355328) :
    CallsIn Fence.wide 4 Tryd.prog 11 #[.int .u32 s, .slice A n c] w fun e w' => (∃ x, e = .returned (.int .u32 x) ∧ Is32 x (nextN s.toNat (natL l))) ∧ Below w.heap.size w w' := by
  have Hl := Lib.hid hr.1
  obtain ⟨s0, h0, ⟨s1, s2⟩, s3⟩ := u32_not hs
  have Hs := Lib.hid s3
  clear s3
  obtain ⟨bB, hbB⟩ : ∃ bB, bB = w.heap.size := ⟨_, rfl⟩
  refine callsIn_of_wp_marks Tryd.func11 rfl trivial ?_ rfl
  simp only [Tryd.ntmps11, List.size_toArray, List.length_cons, List.length_nil, Nat.reduceAdd, Nat.reduceSub, Array.replicate_succ, Array.replicate_zero, List.push_toArray, List.append_toArray, List.nil_append, List.cons_append]
  gi_wp2_with fail
  obtain ⟨w0, hw0⟩ : ∃ w0, w0 = w.alloc (.cells #[.int .u32 s] 23) := ⟨_, rfl⟩
  have hz0 : Boxed w0 bB 23 (.int .u32 s) := by rw [hw0, hbB]; exact Boxed.new w _ _
  have hB0 : Below w.heap.size w w0 := by rw [hw0]; exact (Below.refl _ _).alloc (Nat.le_refl _) _
  rw [← hw0, ← hbB]
  have HbB := Lib.hid (show w.heap.size ≤ bB by omega)
  clear hw0 hbB
  refine scope_once 0 (NInv s A n c l w bB) (fun a' _ => n - (intOf (a'.tmps.getD 5 undef)).toNat) rfl ?_ ?_
  · intro hrest
    have hzc := hz0.cell
    have hfz := hz0.frozen
    gi_wp2_with fail
    refine wpIn_label ?_
    rename_i hK
    exact hK _ _ (hrest _ _ ⟨0, s0, [], _, _, _, _, _, _, _, _, _, _, _, _, _, _, _, _, _, _, _, _, Nat.zero_le _, hz0.set _, ⟨⟨s1, s2⟩, Hs.out⟩, hB0.setCell HbB.out _, ⟨List.nodup_nil, fun d hd => by cases hd⟩, rfl⟩)
  · rintro a' wr ⟨k, y, ds, u6, u7, u8, u9, u10, u11, u12, u13, u14, u15, u16, u17, u18, u19, u20, u21, u22, u23, u24, u25, hk, hv, ⟨hy, hy2⟩, hB, hM, rfl⟩
    have hzc := hv.cell
    have hfz := hv.frozen
    have Hy := Lib.hid hy2
    clear hy2
    by_cases hlt : k < n
    · have hq : ((k : Int) == (n : Int)) = false := by simp; omega
      obtain ⟨b, off, rfl, hbl, hcell⟩ := (hr.on hB hB.size).at_ (by omega)
      have hck := hcell k hlt
      clear hcell
      gi_wp2_with fail
      refine ⟨trivial, ?_⟩
      have hbk := hb.at_ k
      have Hsn := Lib.hid (take_snoc (l := l) (k := k) (by rw [Hl.out]; exact hlt))
      obtain ⟨x, hx⟩ : ∃ x, l[k]?.getD 0 = x := ⟨_, rfl⟩
      rw [hx] at hck hbk Hsn ⊢
      clear hx
      refine (callsIn_wide.2 (halves_any x wr)).mono ?_
      rintro e w2 ⟨rfl, hbx, hsz2, hbel2⟩
      obtain ⟨sB, hsB⟩ : ∃ sB, sB = wr.heap.size := ⟨_, rfl⟩
      rw [← hsB] at hbx hsz2 hbel2 ⊢
      have hbs : bB < sB := by rw [hsB]; exact hv.lt
      have hwb : w.heap.size ≤ bB := HbB.out
      have hds : ∀ d ∈ ds, d < sB := fun d hd => by rw [hsB]; exact (Array.getElem?_eq_some_iff.1 (hM.2 d hd).2).1
      have h0i : HI w bB sB ds x y [] w2 := ⟨⟨y, (hbel2.block bB hbs).trans hv, hy, rfl⟩, hB.trans (hbel2.mono (by rw [hsB]; exact hB.size)), fun d hd => (hbel2.block d (hds d hd)).trans (hM.2 d hd).2, hbx⟩
      have Hs2 := Lib.hid hsB
      have hBs := hB.size
      clear hsB hbel2
      gi_wp2_with fail
      refine wpIn_rangeFunc_ownG rfl (by omega) (gf := 25) (lb := #[.pointer (some ⟨sB, 0, none⟩)]) rfl trivial (enters_of Tryd.func25 (by kernel_rfl) rfl)
        (halves_stops sB hbk w2 hbx) (fun h h' => h.trans h') (kp1_b (by omega)) (Below.refl _ _) (fun _ => rfl)
        (HI w bB sB ds x y) (fun _ _ _ => False) (HI.own (fun d hd => by have := hds d hd; omega) (by omega)) (fun _ _ _ _ _ h _ _ => h) h0i
        (fun d => { tmps := #[.int .u32 s, .slice (some ⟨b, off, none⟩) n c, .pointer (some ⟨bB, 0, none⟩), undef, .int .u32 0, .int .i64 k, .int .u8 (d % 16), u7, u8, .int .i64 k, .slice (some ⟨b, off, none⟩) n c, .int .i64 n, .bool false, u13, u14, .slice (some ⟨b, off, none⟩) n c, .int .i64 k, .pointer (some ⟨b, off + k, none⟩), .int .u8 x, .func (.func 25) #[] #[.pointer (some ⟨sB, 0, none⟩)], .int .u8 (d % 16), u21, u22, u23, u24, u25], defers := [] }) ?assign ?body ?done ?stop
      case assign =>
        intro lp d W K hK
        gi_wp2
        exact hK
      case body =>
        rintro lp pre d W ⟨⟨a, hz, ha, he⟩, hBW, hMW, b1⟩ hlt2
        have hzc2 := hz.cell
        have hfz2 := hz.frozen
        gi_wp2_with fail
        refine ⟨trivial, ?_⟩
        refine (CallsIn.inRound lp (callsIn_wide.2 (step_still a (d % 16) W (hT.on hBW) ha (by omega)))).mono ?_
        rintro e w' ⟨⟨z, rfl, hz0, hz1⟩, rfl⟩
        have He : z.toNat = halvesN y.toNat (pre ++ [d]) := by
          rw [hz1, he]
          exact (halvesN_snoc _ _ _).symm
        clear hz1
        gi_wp2_with fail
        exact ⟨KeepsFrom.of_grownBy (grownBy_setCell' W bB _) (fun k e => by cases e; omega), Eq.trans (b1.other (by omega) _) (Eq.symm b1), ⟨_, hz.set _, hz0, He⟩, hBW.setCell hwb _, fun d' hd' => (World.setCell_other (fun e => by have h1 := hMW d' hd'; rw [e, show W.heap[bB]? = _ from hz] at h1; cases h1) _).trans (hMW d' hd'), b1.other (by omega) _⟩
      case done =>
        rintro D ys W hD rfl ⟨⟨a, hz, ha, he⟩, hBW, hMW, b1⟩ hK
        have hM3 : Marks w.heap.size (D :: ds) W := by
          refine ⟨List.nodup_cons.2 ⟨fun hd => ?_, hM.1⟩, fun d hd => ?_⟩
          · have := hds D hd; omega
          · rcases List.mem_cons.1 hd with rfl | hd
            · exact ⟨by omega, hK⟩
            · exact ⟨(hM.2 d hd).1, hMW d hd⟩
        have hnew : Is32 a (rowN (notN s.toNat) (natL (l.take (k + 1)))) := by
          refine ⟨ha, ?_⟩
          rw [he, Hsn.out, natL_append, show natL [x] = [x.toNat] from rfl, rowN_snoc, ← Hy.out]
          exact halvesN_byte _ hbk
        clear hK he
        gi_wp2
        refine wpIn_goto ?_
        refine ⟨rfl, ⟨k + 1, a, D :: ds, _, _, _, _, _, _, _, _, _, _, _, _, _, _, _, _, _, _, _, _, hlt, hz, hnew, hBW, hM3, rfl⟩, ?_⟩
        simp [intOf]
        omega
      case stop =>
        rintro D cc pre W _ _ h _
        exact h.elim
    · obtain rfl : k = n := by omega
      have hq : ((k : Int) == (k : Int)) = true := by simp
      have hf : Is32 y (rowN (notN s.toNat) (natL l)) := by
        have h1 := Hy.out
        rw [List.take_of_length_le (by rw [Hl.out]; exact Nat.le_refl _)] at h1
        exact ⟨hy, h1⟩
      obtain ⟨z, hz, z0, z1⟩ := u32_not hy
      have Hf : Hid (Is32 z (nextN s.toNat (natL l))) := ⟨z0, by rw [z1, hf.2]; rfl⟩
      clear hf z1
      gi_wp2_with fail
      simp only [Exit.jump]
      refine leaves_marks ds wr hM fun w' hw' => ⟨_, results_tmp rfl _ _ _, ?_, hB.trans hw'.1⟩
      exact ⟨_, rfl, Hf.out⟩

theorem next_c (s : Int) (A : Option Addr) (n c : Nat) (l : List Int) (w : World) (hT : Tab w) (hs : 0 ≤ s ∧ s < 4294967296) (hr : Rd w w.heap.size .u8 A n l) (hb : Byt l) (hn : n ≤ 140737488355328) :
    Calls Tryd.prog 11 #[.int .u32 s, .slice A n c] w fun e w' => (∃ x, e = .returned (.int .u32 x) ∧ Is32 x (nextN s.toNat (natL l))) ∧ Below w.heap.size w w' :=
  callsIn_wide.1 (next_in s A n c l w hT hs hr hb hn)

end Go.Proofs.YtnojphkfniimgaaDoor
