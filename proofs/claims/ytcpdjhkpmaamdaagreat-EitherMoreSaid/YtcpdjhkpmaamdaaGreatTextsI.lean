/-
  two.text, two.texts and its iterator: their contracts.
-/
import Derived.Test.YtcpdjhkpmaamdaaGreatTwoS
import Derived.Test.YtcpdjhkpmaamdaaGreatScope
import Derived.Test.YtcpdjhkpmaamdaaGreatRangeW
import Derived.Test.YtcpdjhkpmaamdaaGreatMarks
namespace Go.Proofs.YtcpdjhkpmaamdaaGreat
open Go.RowKit Go.Shelf
set_option linter.unusedVariables false

attribute [local go_sem] Oper.semAt_some

/-- One entry's short bytes told, or an error. -/
def TxtOne (x : EnP) (e : Ending) (w' : World) : Prop :=
  (rightB x = true ∧ ∃ A c n, e = .returned (.tuple #[.slice A n c, .int .i64 0]) ∧ (Nu.shortsOf (nums x)).length = n ∧ Rd w' w'.heap.size .u8 A n (Nu.shortsOf (nums x))) ∨ (rightB x = false ∧ e = .returned (.tuple #[.slice none 0 0, .int .i64 2]))

set_option maxRecDepth 100000 in
set_option maxHeartbeats 2000000 in
theorem text_any (x : EnP) (w : World) : Calls Tryz.prog 168 #[x.v] w fun e w' => TxtOne x e w' ∧ Below w.heap.size w w' := by
  obtain ⟨t, k, v⟩ := x
  unfold EnP.v
  obtain ⟨wx, hwx⟩ : ∃ wx, wx = w.alloc (.cells #[.int .i64 t, .int .i64 k, .int .i64 v] 41) := ⟨_, rfl⟩
  have bx : BoxE wx w.heap.size ⟨t, k, v⟩ := by rw [hwx]; exact BoxE.new w ⟨t, k, v⟩
  have hBx : Below w.heap.size w wx := by rw [hwx]; exact (Below.refl _ w).alloc (Nat.le_refl _) _
  obtain ⟨k0, k1, k2⟩ := bx.cells
  dsimp only at k0 k1 k2
  cases hR : rightB ⟨t, k, v⟩ with
  | true =>
    have hall := right_nums hR
    obtain ⟨R, hRR⟩ : ∃ R, Nu.shortsOf (nums ⟨t, k, v⟩) = R := ⟨_, rfl⟩
    obtain ⟨q, hq⟩ : ∃ q, R.length = q := ⟨_, rfl⟩
    have H := Lib.hid (⟨hR, hall, hRR, hq, bx, hBx⟩ : _ ∧ _ ∧ _ ∧ _ ∧ _ ∧ _)
    have hc := right_any ⟨t, k, v⟩ wx
    rw [hR] at hc
    have Hc := Lib.hid hc
    clear hR hall hRR hq bx hBx hc
    go_enter Tryz.func168, Tryz.ntmps168
    go_wp2_with fail
    rw [← hwx]
    refine Hc.out.mono ?_
    rintro e w1 ⟨rfl, hb1⟩
    obtain ⟨hR, hall, hRR, hq, bx, hBx⟩ := H.out
    have bx1 := bx.below hb1
    obtain ⟨p0, p1, p2⟩ := bx1.cells
    dsimp only at p0 p1 p2
    have hB1 := hBx.trans (hb1.mono hBx.size)
    have hr2 : Rd (w1.alloc (.cells #[.int .i64 t, .int .i64 k, .int .i64 v] 3)) (w1.alloc (.cells #[.int .i64 t, .int .i64 k, .int .i64 v] 3)).heap.size .i64 (some ⟨w1.heap.size, 0, none⟩) 3 (nums ⟨t, k, v⟩) := Rd.made w1 .i64 3 (nums ⟨t, k, v⟩) rfl
    have H1 := Lib.hid (⟨hr2, hB1.alloc hB1.size (.cells #[.int .i64 t, .int .i64 k, .int .i64 v] 3)⟩ : _ ∧ _)
    clear hR hall hRR hq bx hBx bx1 hB1 hr2 hb1 k0 k1 k2 hwx
    go_wp2_with fail
    refine (Nu.short_yes _ 3 3 _ _ H1.out.1 (by omega) H.out.2.1 H.out.2.2.1 H.out.2.2.2.1).mono ?_
    rintro e w3 ⟨A', c', rfl, hrow, hb3⟩
    go_wp2_with fail
    go_ret2
    refine ⟨.inl ⟨H.out.1, A', c', q, rfl, by rw [H.out.2.2.1]; exact H.out.2.2.2.1, by rw [H.out.2.2.1]; exact hrow.2⟩, H1.out.2.trans (hb3.mono H1.out.2.size)⟩
  | false =>
    have H := Lib.hid (⟨hR, bx, hBx⟩ : _ ∧ _ ∧ _)
    have hc := right_any ⟨t, k, v⟩ wx
    rw [hR] at hc
    have Hc := Lib.hid hc
    clear hR bx hBx hc
    go_enter Tryz.func168, Tryz.ntmps168
    go_wp2_with fail
    rw [← hwx]
    refine Hc.out.mono ?_
    rintro e w1 ⟨rfl, hb1⟩
    go_wp2_with fail
    go_ret2
    exact ⟨.inr ⟨H.out.1, rfl⟩, H.out.2.2.trans (hb1.mono H.out.2.2.size)⟩

/-- Short bytes that are handed over: where they lie, their capacity, of which entry. -/
structure HRTw where
  A : Option Addr
  c : Nat
  n : Nat
  er : Int
  e : EnP
abbrev encRTw (x : HRTw) : Array Value := #[.slice x.A x.n x.c, .int .i64 x.er]
/-- What lies there. -/
def MemRTw (x : HRTw) (W : World) : Prop := (rightB x.e = true ∧ x.er = 0 ∧ (Nu.shortsOf (nums x.e)).length = x.n ∧ Rd W W.heap.size .u8 x.A x.n (Nu.shortsOf (nums x.e))) ∨ (rightB x.e = false ∧ x.er = 2)
/-- What is told of it. -/
def OkRTw (l : List EnP) (pre : List HRTw) (x : HRTw) (W : World) : Prop := l[pre.length]? = some x.e ∧ MemRTw x W
/-- A cell stays where an object that is no row of cells is turned. -/
theorem cell_put {W : World} {i : Nat} {o o' : Obj} (hi : W.heap[i]? = some o) (ho : o.isCells = false) {a : Addr} {v : Value} (h : W.cell? a = some v) : (W.putObj i o').cell? a = some v := by
  have hne : a.block ≠ i := by
    rintro rfl
    unfold World.cell? at h
    rw [show W.heap[a.block]? = _ from hi] at h
    cases o <;> simp [Obj.isCells] at ho h
  exact (World.cell?_of_block (a := a) (World.putObj_heap_other (by omega))).trans h
theorem rd_put {W : World} {i : Nat} {o o' : Obj} (hi : W.heap[i]? = some o) (ho : o.isCells = false) {k : IntKind} {A : Option Addr} {n : Nat} {l : List Int} (h : Rd W W.heap.size k A n l) : Rd (W.putObj i o') (W.putObj i o').heap.size k A n l :=
  ⟨h.1, fun hn => by
    obtain ⟨b, off, e, hlt, hc⟩ := h.2 hn
    exact ⟨b, off, e, by have := (grownBy_putObj' W i o').size; omega, fun j hj => cell_put hi ho (hc j hj)⟩⟩
theorem MemRTw.put {x : HRTw} {W : World} {i : Nat} {o o' : Obj} (h : MemRTw x W) (hi : W.heap[i]? = some o) (ho : o.isCells = false) : MemRTw x (W.putObj i o') := by
  rcases h with ⟨h1, h2, h3, h4⟩ | h
  · exact .inl ⟨h1, h2, h3, rd_put hi ho h4⟩
  · exact .inr h

set_option maxRecDepth 100000 in
set_option maxHeartbeats 2000000 in
theorem texts_in (l0 s B0 : Nat) {A : Option Addr} {n c : Nat} {l : List EnP} (hn : n ≤ 1000000) (J Jx : List HRTw → World → Prop) (W : World) (hJ : StaysT 9 W.heap.size J)
    (hY : ∀ pre x W1, J pre W1 → OkRTw l pre x W1 → YieldAt Fence.wide 2 Tryz.prog l0 (encRTw x) W1 fun e W' =>
      (e = .returned (.bool true) ∧ J (pre ++ [x]) W' ∧ KpL B0 W1 W') ∨ (e = .returned (.bool false) ∧ Jx (pre ++ [x]) W'))
    (hcs : W.cell? ⟨s, 0, none⟩ = some (.slice A n c)) (hr : Es W B0 A n l) (hB0 : B0 ≤ W.heap.size) (h0 : J [] W) :
    CallsIn Fence.wide 3 Tryz.prog 167 #[.func (.yield l0) #[] #[], .pointer (some ⟨s, 0, none⟩)] W fun e W' => (∃ v, e = .returned v) ∧
      ((∃ ys : List HRTw, ys.length = l.length ∧ J ys W') ∨ (∃ pre, Jx pre W')) := by
  have Hl := Lib.hid hr.len
  have Hr := Lib.hid (⟨hr, hB0⟩ : _ ∧ _)
  have HJ := Lib.hid hJ
  have HY := Lib.hid hY
  clear hr hB0 hJ hY
  refine callsIn_of_wp Tryz.func167 rfl trivial ?_ rfl
  simp only [Tryz.ntmps167, List.size_toArray, List.length_cons, List.length_nil, Nat.reduceAdd, Nat.reduceSub, Array.replicate_succ, Array.replicate_zero, List.push_toArray, List.append_toArray, List.nil_append, List.cons_append]
  gi_wp2_with fail
  gi_loopw [7] (fun i wr => ∃ (k : Nat) (pre : List HRTw), k ≤ n ∧ i = .int .i64 k ∧ pre.length = k ∧ J pre wr ∧ KpL B0 W wr) (fun i _ => n - (intOf i).toNat)
  case atStart => exact ⟨0, [], Nat.zero_le _, rfl, rfl, h0, KpL.refl _ _⟩
  case round =>
    obtain ⟨k, pre, hk, rfl, hpre, hj, hB⟩ := hrel
    by_cases hlt : k < n
    · obtain ⟨b, off, e, rfl, hb, he, c0, c1, c2⟩ := Es.at_ (Hr.out.1.low hB) hlt
      have hBw := hB.size Hr.out.2
      obtain ⟨w2, hw2⟩ : ∃ w2, w2 = wr.alloc (.cells #[.int .i64 e.tm, .int .i64 e.kd, .int .i64 e.vl] 41) := ⟨_, rfl⟩
      have hb2 : Below wr.heap.size wr w2 := by rw [hw2]; exact (Below.refl _ _).alloc (Nat.le_refl _) _
      have bx2 : BoxE w2 wr.heap.size e := by rw [hw2]; exact BoxE.new wr e
      obtain ⟨k0, k1, k2⟩ := bx2.cells
      have H2 := Lib.hid (⟨hj, hB, hBw, hb2, he, hpre, hw2⟩ : _ ∧ _ ∧ _ ∧ _ ∧ _ ∧ _ ∧ _)
      rw [hw2] at k0 k1 k2
      clear hj hB hBw hb2 bx2 he hpre hw2 hcs h0
      gi_wp2_with fail
      rw [← H2.out.2.2.2.2.2.2]
      refine ⟨trivial, ?_⟩
      refine (callsIn_wide.2 (text_any e w2)).mono ?_
      rintro r w3 ⟨hP, hb3⟩
      obtain ⟨x, hx, hok⟩ : ∃ x : HRTw, r = .returned (.tuple #[.slice x.A x.n x.c, .int .i64 x.er]) ∧ OkRTw l pre x w3 := by
        have hpre := H2.out.2.2.2.2.2.1
        have he := H2.out.2.2.2.2.1
        rcases hP with ⟨hR, A', c', m, e1, hm, hrd⟩ | ⟨hR, e1⟩
        · exact ⟨⟨A', c', m, 0, e⟩, e1, by rw [hpre]; exact he, .inl ⟨hR, rfl, hm, hrd⟩⟩
        · exact ⟨⟨none, 0, 0, 2, e⟩, e1, by rw [hpre]; exact he, .inr ⟨hR, rfl⟩⟩
      subst hx
      have hb3' : Below wr.heap.size wr w3 := H2.out.2.2.2.1.trans (hb3.mono H2.out.2.2.2.1.size)
      have hj3 : J pre w3 := HJ.out _ wr _ none H2.out.1 (grown_of hb3') (fun r e => by cases e)
      have hB3 : KpL B0 W w3 := H2.out.2.1.trans (KpL.below hb3' H2.out.2.2.1)
      obtain ⟨fn, tmps, assign, body, hy, hR⟩ := HY.out pre x w3 hj3 hok
      have H3 := Lib.hid (⟨hB3, H2.out.2.2.2.2.2.1⟩ : _ ∧ _)
      dsimp only [encRTw] at hy
      clear hP hb3 hb3' hj3 hB3 hok k0 k1 k2 c0 c1 c2 hb
      gi_wp2_with fail
      refine hR.mono ?_
      rintro e' W3 (⟨rfl, hJ3, hk3⟩ | ⟨rfl, hJx3⟩)
      · have H4 := Lib.hid (⟨hJ3, H3.out.1.trans hk3⟩ : _ ∧ _)
        clear hJ3 hk3
        gi_wp2_with fail
        go_roundw
        case rel => exact ⟨k + 1, pre ++ [x], by omega, by go_num, by rw [List.length_append, H3.out.2]; rfl, H4.out.1, H4.out.2⟩
        case measure => simp [intOf]; omega
      · have H4 := Lib.hid hJx3
        clear hJx3
        gi_wp2_with fail
        refine bodyPost_ret (results_none rfl _ _ _) rfl ?_
        exact ⟨⟨_, rfl⟩, .inr ⟨_, H4.out⟩⟩
    · obtain rfl : k = n := by omega
      clear hcs h0
      have HJ2 := Lib.hid (⟨hj, hpre⟩ : _ ∧ _)
      clear hj hpre
      gi_wp2_with fail
      go_end0
      exact ⟨⟨_, rfl⟩, .inl ⟨pre, by rw [HJ2.out.2, Hl.out], HJ2.out.1⟩⟩

/-- The iterator's contract. -/
theorem texts_seq (s B0 : Nat) {A : Option Addr} {n c : Nat} {l : List EnP} (hn : n ≤ 1000000) (w : World) (hB : B0 ≤ w.heap.size) (hs : Boxed w s 22 (.slice A n c)) (hr : Es w B0 A n l) :
    SeqW 9 Fence.wide 3 Tryz.prog 167 #[.pointer (some ⟨s, 0, none⟩)] encRTw (KpL B0) (fun ys => ys.length = l.length) (OkRTw l) w := fun l0 J Jx W hW hJ _ hY h0 =>
  texts_in l0 s B0 hn J Jx W hJ hY ((hW.cell (p := ⟨s, 0, none⟩) hs.lt).trans hs.cell) (hr.low fun k hk => hW.block k (by omega)) (Nat.le_trans hB hW.size) h0

/-- What texts answers. -/
def TextsOut (A : Option Addr) (n c : Nat) (w : World) (e : Ending) (w' : World) : Prop :=
  e = .returned (.func (.func 167) #[] #[.pointer (some ⟨w.heap.size, 0, none⟩)]) ∧ Boxed w' w.heap.size 22 (.slice A n c) ∧ w'.heap.size = w.heap.size + 1 ∧ Below w.heap.size w w'
set_option maxRecDepth 100000 in
set_option maxHeartbeats 400000 in
theorem texts_any (A : Option Addr) (n c : Nat) (w : World) : Calls Tryz.prog 159 #[.slice A n c] w (TextsOut A n c w) := by
  go_enter Tryz.func159, Tryz.ntmps159
  go_wp2
  go_ret
  exact ⟨rfl, Boxed.new w _ _, by simp, (Below.refl _ w).alloc (Nat.le_refl _) _⟩

end Go.Proofs.YtcpdjhkpmaamdaaGreat
