/-
  one.puts and its iterator: their contracts.
-/
import Derived.Test.YtlblfpfdebmcgaaDoorOneV
import Derived.Test.YtlblfpfdebmcgaaDoorScope
import Derived.Test.YtlblfpfdebmcgaaDoorRangeW
import Derived.Test.YtlblfpfdebmcgaaDoorMarks
namespace Go.Proofs.YtlblfpfdebmcgaaDoor
open Go.RowKit Go.Shelf
set_option linter.unusedVariables false

attribute [local go_sem] Oper.semAt_some

/-- A record that is handed over: where it lies, its capacity, of which entry. -/
structure HR where
  A : Option Addr
  c : Nat
  n : Nat
  er : Int
  e : EnP
abbrev encR (x : HR) : Array Value := #[.slice x.A x.n x.c, .int .i64 x.er]
/-- What lies there. -/
def MemR (x : HR) (W : World) : Prop := (RightP x.e ∧ x.n = 15 ∧ x.er = 0 ∧ Rd W W.heap.size .u8 x.A 15 (recL x.e)) ∨ (¬ RightP x.e ∧ x.er = 2)
/-- What is told of it. -/
def OkR (l : List EnP) (pre : List HR) (x : HR) (W : World) : Prop := l[pre.length]? = some x.e ∧ MemR x W
theorem MemR.put {x : HR} {W : World} {i : Nat} {o o' : Obj} (h : MemR x W) (hi : W.heap[i]? = some o) (ho : o.isCells = false) : MemR x (W.putObj i o') := by
  rcases h with ⟨h1, h2, h3, h4⟩ | h
  · refine .inl ⟨h1, h2, h3, rd_over (c := x.c) h4 (Nat.le_refl _) (grownBy_putObj' W i o') fun g hg e => ?_⟩
    obtain ⟨b, off, e1, hb, hc⟩ := h4.2 (by omega)
    rw [e1] at hg
    have hgb : b = g := by simpa [Value.ownBlock] using hg
    have hig : i = g := by simpa using e
    have h0 := hc 0 (by omega)
    unfold World.cell? at h0
    subst hgb hig
    rw [show W.heap[i]? = _ from hi] at h0
    cases o <;> simp [Obj.isCells] at ho h0
  · exact .inr h

theorem tab_low {B0 : Nat} {W W' : World} (hT : Cr.Tab W) (hB : 0 < B0) (hB0 : B0 ≤ W.heap.size) (h : KpL B0 W W') : Cr.Tab W' :=
  ⟨Nat.lt_of_lt_of_le hB (h.size hB0), fun i hi => (World.cell?_of_block (a := ⟨0, i, none⟩) (h _ hB)).trans (hT.2 i hi)⟩

set_option maxRecDepth 100000 in
set_option maxHeartbeats 2000000 in
theorem puts_in (l0 s B0 : Nat) {A : Option Addr} {n c : Nat} {l : List EnP} (hn : n ≤ 1000000) (J Jx : List HR → World → Prop) (W : World) (hJ : StaysT 9 W.heap.size J)
    (hY : ∀ pre x W1, J pre W1 → OkR l pre x W1 → YieldAt Fence.wide 2 Tryd.prog l0 (encR x) W1 fun e W' =>
      (e = .returned (.bool true) ∧ J (pre ++ [x]) W' ∧ KpL B0 W1 W') ∨ (e = .returned (.bool false) ∧ Jx (pre ++ [x]) W'))
    (hcs : W.cell? ⟨s, 0, none⟩ = some (.slice A n c)) (hr : Es W B0 A n l) (hT : 0 < B0 ∧ Cr.Tab W) (hB0 : B0 ≤ W.heap.size) (h0 : J [] W) :
    CallsIn Fence.wide 3 Tryd.prog 35 #[.func (.yield l0) #[] #[], .pointer (some ⟨s, 0, none⟩)] W fun e W' => (∃ v, e = .returned v) ∧
      ((∃ ys : List HR, ys.length = l.length ∧ J ys W') ∨ (∃ pre, Jx pre W')) := by
  have Hl := Lib.hid hr.len
  have Hr := Lib.hid (⟨hr, hB0, hT⟩ : _ ∧ _ ∧ _)
  have HJ := Lib.hid hJ
  have HY := Lib.hid hY
  clear hr hB0 hJ hY hT
  refine callsIn_of_wp Tryd.func35 rfl trivial ?_ rfl
  simp only [Tryd.ntmps35, List.size_toArray, List.length_cons, List.length_nil, Nat.reduceAdd, Nat.reduceSub, Array.replicate_succ, Array.replicate_zero, List.push_toArray, List.append_toArray, List.nil_append, List.cons_append]
  gi_wp2_with fail
  gi_loopw [7] (fun i wr => ∃ (k : Nat) (pre : List HR), k ≤ n ∧ i = .int .i64 k ∧ pre.length = k ∧ J pre wr ∧ KpL B0 W wr) (fun i _ => n - (intOf i).toNat)
  case atStart => exact ⟨0, [], Nat.zero_le _, rfl, rfl, h0, KpL.refl _ _⟩
  case round =>
    obtain ⟨k, pre, hk, rfl, hpre, hj, hB⟩ := hrel
    by_cases hlt : k < n
    · obtain ⟨b, off, e, rfl, hb, he, c0, c1, c2⟩ := Es.at_ (Hr.out.1.low hB) hlt
      have hBw := hB.size Hr.out.2.1
      have hTr := tab_low Hr.out.2.2.2 Hr.out.2.2.1 Hr.out.2.1 hB
      obtain ⟨w2, hw2⟩ : ∃ w2, w2 = wr.alloc (.cells #[.int .i64 e.tm, .int .i64 e.kd, .int .i64 e.vl] 40) := ⟨_, rfl⟩
      have hb2 : Below wr.heap.size wr w2 := by rw [hw2]; exact (Below.refl _ _).alloc (Nat.le_refl _) _
      have bx2 : BoxE w2 wr.heap.size e := by rw [hw2]; exact BoxE.new wr e
      obtain ⟨k0, k1, k2⟩ := bx2.cells
      have H2 := Lib.hid (⟨hj, hB, hBw, hTr, hb2, he, hpre, hw2⟩ : _ ∧ _ ∧ _ ∧ _ ∧ _ ∧ _ ∧ _ ∧ _)
      rw [hw2] at k0 k1 k2
      clear hj hB hBw hTr hb2 bx2 he hpre hw2 hcs h0
      gi_wp2_with fail
      rw [← H2.out.2.2.2.2.2.2.2]
      refine ⟨trivial, ?_⟩
      refine (callsIn_wide.2 (put1_any e w2 (tab_low H2.out.2.2.2.1 Hr.out.2.2.1 H2.out.2.2.1 (KpL.below H2.out.2.2.2.2.1 H2.out.2.2.1)))).mono ?_
      rintro r w3 ⟨hP, hb3⟩
      obtain ⟨x, hx, hok⟩ : ∃ x : HR, r = .returned (.tuple #[.slice x.A x.n x.c, .int .i64 x.er]) ∧ OkR l pre x w3 := by
        rcases hP with ⟨hR, A', c', e1, hc, hrd⟩ | ⟨hR, e1⟩
        · exact ⟨⟨A', c', 15, 0, e⟩, e1, by rw [H2.out.2.2.2.2.2.2.1]; exact H2.out.2.2.2.2.2.1, .inl ⟨hR, rfl, rfl, hrd⟩⟩
        · exact ⟨⟨none, 0, 0, 2, e⟩, e1, by rw [H2.out.2.2.2.2.2.2.1]; exact H2.out.2.2.2.2.2.1, .inr ⟨hR, rfl⟩⟩
      subst hx
      have hb3' : Below wr.heap.size wr w3 := H2.out.2.2.2.2.1.trans (hb3.mono H2.out.2.2.2.2.1.size)
      have hj3 : J pre w3 := HJ.out _ wr _ none H2.out.1 (grown_of hb3') (fun r e => by cases e)
      have hB3 : KpL B0 W w3 := H2.out.2.1.trans (KpL.below hb3' H2.out.2.2.1)
      obtain ⟨fn, tmps, assign, body, hy, hR⟩ := HY.out pre x w3 hj3 hok
      have H3 := Lib.hid (⟨hB3, H2.out.2.2.2.2.2.2.1⟩ : _ ∧ _)
      dsimp only [encR] at hy
      clear hP hb3 hb3' hj3 hB3 hok k0 k1 k2 c0 c1 c2 hb
      gi_wp2_with fail
      refine hR.mono ?_
      rintro e' W3 (⟨rfl, hJ3, hk3⟩ | ⟨rfl, hJx3⟩)
      · have H4 := Lib.hid (⟨hJ3, H3.out.1.trans hk3⟩ : _ ∧ _)
        clear hJ3 hk3
        gi_wp2_with fail
        go_roundw
        case rel => exact ⟨k + 1, pre ++ [x], by omega, by go_num, by rw [List.length_append, H3.out.2]; rfl, H4.out.1, H4.out.2⟩
        case measure => simp [intOf]; omega
      · have H4 := Lib.hid hJx3
        clear hJx3
        gi_wp2_with fail
        refine bodyPost_ret (results_none rfl _ _ _) rfl ?_
        exact ⟨⟨_, rfl⟩, .inr ⟨_, H4.out⟩⟩
    · obtain rfl : k = n := by omega
      clear hcs h0
      have HJ2 := Lib.hid (⟨hj, hpre⟩ : _ ∧ _)
      clear hj hpre
      gi_wp2_with fail
      go_end0
      exact ⟨⟨_, rfl⟩, .inl ⟨pre, by rw [HJ2.out.2, Hl.out], HJ2.out.1⟩⟩

/-- The iterator's contract. -/
theorem puts_seq (s B0 : Nat) {A : Option Addr} {n c : Nat} {l : List EnP} (hn : n ≤ 1000000) (w : World) (hB : B0 ≤ w.heap.size) (hs : Boxed w s 22 (.slice A n c)) (hr : Es w B0 A n l) (hT : 0 < B0 ∧ Cr.Tab w) :
    SeqW 9 Fence.wide 3 Tryd.prog 35 #[.pointer (some ⟨s, 0, none⟩)] encR (KpL B0) (fun ys => ys.length = l.length) (OkR l) w := fun l0 J Jx W hW hJ _ hY h0 =>
  puts_in l0 s B0 hn J Jx W hJ hY ((hW.cell (p := ⟨s, 0, none⟩) hs.lt).trans hs.cell) (hr.low fun k hk => hW.block k (by omega)) ⟨hT.1, hT.2.on hW⟩ (Nat.le_trans hB hW.size) h0

/-- What puts answers. -/
def PutsOut (A : Option Addr) (n c : Nat) (w : World) (e : Ending) (w' : World) : Prop :=
  e = .returned (.func (.func 35) #[] #[.pointer (some ⟨w.heap.size, 0, none⟩)]) ∧ Boxed w' w.heap.size 22 (.slice A n c) ∧ w'.heap.size = w.heap.size + 1 ∧ Below w.heap.size w w'
set_option maxRecDepth 100000 in
set_option maxHeartbeats 400000 in
theorem puts_any (A : Option Addr) (n c : Nat) (w : World) : Calls Tryd.prog 25 #[.slice A n c] w (PutsOut A n c w) := by
  go_enter Tryd.func25, Tryd.ntmps25
  go_wp2
  go_ret
  exact ⟨rfl, Boxed.new w _ _, by simp, (Below.refl _ w).alloc (Nat.le_refl _) _⟩

end Go.Proofs.YtlblfpfdebmcgaaDoor
