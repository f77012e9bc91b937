/-
  bytes.HasPrefix told in rows; two.blockOf: its contract.
-/
import Derived.Test.YtcpdjhkpmaamdaaGreatEnt8
import Derived.Test.YtcpdjhkpmaamdaaGreatShelfB
namespace Go.Proofs.YtcpdjhkpmaamdaaGreat
open Go.RowKit Go.Shelf
set_option linter.unusedVariables false

attribute [local go_sem] Oper.semAt_some Ga.run_store_complex

theorem bytes_in {w : World} {B n : Nat} {A : Option Addr} {l : List Int} (h : Rd w B .u8 A n l) : Lib.BytesIn w A n l := fun hn => by
  obtain ⟨b, off, e, _, hc⟩ := h.2 hn
  exact ⟨b, off, e, fun i hi => by rw [hc i hi, List.getD_eq_getElem?_getD]⟩
theorem heap_setTw {W : World} {z i : Nat} {t : TypeId} {cs : Array Value} {fz : Nat × Nat} (h : W.heap[z]? = some (.cells cs t fz)) (v : Value) : (W.setCell ⟨z, i, none⟩ v).heap[z]? = some (.cells (cs.setIfInBounds i v) t fz) := by
  obtain ⟨hlt, hk⟩ := Array.getElem?_eq_some_iff.1 h
  show (W.heap.modify z _)[z]? = _
  rw [Array.getElem?_eq_getElem (by rw [Array.size_modify]; exact hlt), Array.getElem_modify_self, hk]
  rfl
/-- Does x begin with y? -/
def beginsB (x y : List Int) : Bool := decide (x.take y.length = y)
theorem begins_iff {x y : List Int} : beginsB x y = true ↔ ∃ s, x = y ++ s := by
  simp only [beginsB, decide_eq_true_eq]
  constructor
  · intro h; exact ⟨x.drop y.length, by conv => lhs; rw [← List.take_append_drop y.length x, h]⟩
  · rintro ⟨s, rfl⟩; simp
theorem prefix_any (A A' : Option Addr) (n m c c' : Nat) (x y : List Int) (w : World) (hr : Rd w w.heap.size .u8 A n x) (hr' : Rd w w.heap.size .u8 A' m y) (hx : Byt x) (hy : Byt y) (hnc : n ≤ c) :
    Calls Tryz.prog 171 #[.slice A n c, .slice A' m c'] w fun e w' => e = .returned (.bool (beginsB x y)) ∧ w' = w := by
  refine (Tryz.bytes_HasPrefix_all A A' n c m c' x y w hr.1 hr'.1 hnc (bytes_in hr) (bytes_in hr')).mono ?_
  rintro e w' ⟨rfl, rfl⟩
  refine ⟨ret_bool ?_, rfl⟩
  rw [← Lib.bytes_hasPrefix, Bool.eq_iff_iff]
  simp only [Bool.and_eq_true, decide_eq_true_eq, beq_iff_eq, beginsB]
  have key : Lib.bytesOf (x.take y.length) = Lib.bytesOf y ↔ x.take y.length = y := by
    have h := txt_eq (hx.take y.length) hy
    rw [← h]
    simp [txt, Lib.bytesOf]
  rw [key]
  constructor
  · exact fun h => h.2
  · intro h
    refine ⟨?_, h⟩
    have := congrArg List.length h
    rw [List.length_take] at this
    omega

/-- Box z holds a block: its entries, its size, its point. -/
def BoxK (W : World) (z : Nat) (v : Value) (n : Int) (x y : Nat) : Prop := W.heap[z]? = some (.cells #[v, .int .i64 n, .complex .f64 x y] 183 (0, 0))
section
variable {W W' : World} {z : Nat} {v : Value} {n : Int} {x y : Nat}
theorem BoxK.cells (h : BoxK W z v n x y) : W.cell? ⟨z, 0, none⟩ = some v ∧ W.cell? ⟨z, 1, none⟩ = some (.int .i64 n) ∧ W.cell? ⟨z, 2, none⟩ = some (.complex .f64 x y) := by
  refine ⟨?_, ?_, ?_⟩ <;> (rw [cell_of_row _ _ _ _ _ _ h]; simp)
theorem BoxK.frozen (h : BoxK W z v n x y) (i : Nat) : W.frozen? ⟨z, i, none⟩ = false := by
  simp [World.frozen?, show W.heap[z]? = _ from h]
theorem BoxK.lt (h : BoxK W z v n x y) : z < W.heap.size := (Array.getElem?_eq_some_iff.1 h).1
theorem BoxK.below (h : BoxK W z v n x y) (hb : Below W.heap.size W W') : BoxK W' z v n x y := (hb.block z h.lt).trans h
theorem BoxK.new (w : World) (v : Value) (n : Int) (x y : Nat) : BoxK (w.alloc (.cells #[v, .int .i64 n, .complex .f64 x y] 183)) w.heap.size v n x y := World.alloc_heap_new w _
theorem BoxK.s0 (h : BoxK W z v n x y) (u : Value) : BoxK (W.setCell ⟨z, 0, none⟩ u) z u n x y := heap_setTw h _
theorem BoxK.s1 (h : BoxK W z v n x y) (u : Int) : BoxK (W.setCell ⟨z, 1, none⟩ (.int .i64 u)) z v u x y := heap_setTw h _
theorem BoxK.s2 (h : BoxK W z v n x y) (x' y' : Nat) : BoxK (W.setCell ⟨z, 2, none⟩ (.complex .f64 x' y')) z v n x' y' := heap_setTw h _
theorem BoxK.other {b : Nat} (h : BoxK W z v n x y) (hne : z ≠ b) (i : Nat) (u : Value) : BoxK (W.setCell ⟨b, i, none⟩ u) z v n x y := (Below.heap_setCell _ _ _ z (by simpa using hne)).trans h
end
theorem Boxed.other_i {W : World} {B B' i : Nat} {t : TypeId} {v : Value} (h : Boxed W B t v) (hne : B ≠ B') (u : Value) : Boxed (W.setCell ⟨B', i, none⟩ u) B t v := (Below.heap_setCell _ _ _ B (by simpa using hne)).trans h
theorem setCell_grown8 (W : World) (b i : Nat) (v : Value) : W.grownBy (W.setCell ⟨b, i, none⟩ v) (some b) := by
  have h := (Below.refl 0 W).setCell (p := ⟨b, i, none⟩) (Nat.zero_le _) v
  exact ⟨h.os, h.tape, h.output, h.size, fun k _ hk => Below.heap_setCell _ _ _ k (by simpa using fun e => hk (by rw [e]))⟩
/-- A whole block written into a box. -/
def putK (W : World) (r : Nat) (v : Value) (n : Int) (x y : Nat) : World := ((W.setCell ⟨r, 0, none⟩ v).setCell ⟨r, 1, none⟩ (.int .i64 n)).setCell ⟨r, 2, none⟩ (.complex .f64 x y)
theorem putK_box {W : World} {r : Nat} {v : Value} {n : Int} {x y : Nat} (h : BoxK W r v n x y) (v' : Value) (n' : Int) (x' y' : Nat) : BoxK (putK W r v' n' x' y') r v' n' x' y' := ((h.s0 v').s1 n').s2 x' y'
theorem putK_boxed {W : World} {r b : Nat} {t : TypeId} {u : Value} (h : Boxed W b t u) (hne : b ≠ r) (v : Value) (n : Int) (x y : Nat) : Boxed (putK W r v n x y) b t u := Boxed.other_i (Boxed.other_i (Boxed.other_i h hne v) hne _) hne _
theorem putK_below {W w : World} {r B : Nat} (hB : B ≤ r) (v : Value) (n : Int) (x y : Nat) (h : Below B w W) : Below B w (putK W r v n x y) :=
  ((h.setCell (p := ⟨r, 0, none⟩) hB v).setCell (p := ⟨r, 1, none⟩) hB _).setCell (p := ⟨r, 2, none⟩) hB _
theorem putK_obj {W : World} {r D : Nat} (v : Value) (n : Int) (x y : Nat) {o : Obj} (h : W.heap[D]? = some o) (hne : D ≠ r) : (putK W r v n x y).heap[D]? = some o :=
  (Below.heap_setCell _ _ _ D (by simpa using hne)).trans ((Below.heap_setCell _ _ _ D (by simpa using hne)).trans ((Below.heap_setCell _ _ _ D (by simpa using hne)).trans h))
theorem putK_keeps {W : World} {r B : Nat} (hB : r < B) (v : Value) (n : Int) (x y : Nat) : KeepsFrom B W (putK W r v n x y) :=
  ((KeepsFrom.of_grownBy (B := B) (setCell_grown8 W r 0 v) (fun k e => by cases e; omega)).trans (KeepsFrom.of_grownBy (B := B) (setCell_grown8 _ r 1 _) (fun k e => by cases e; omega))).trans (KeepsFrom.of_grownBy (B := B) (setCell_grown8 _ r 2 _) (fun k e => by cases e; omega))
theorem keeps_grown {W W' : World} {base size k : Nat} {e : TypeId} {v : Value} {xs : List Value} (hr : W.ownsRow base e size v k xs) (hg : W.grownBy W' v.ownBlock) : KeepsOthers W W' :=
  KeepsOthers.of_grownBy hg fun j o ej hj => by
    rcases hr.2 with ⟨rfl, _⟩ | ⟨g, cap, cur, rfl, _, hgb, _⟩
    · simp [Value.ownBlock] at ej
    · obtain rfl : g = j := by simpa [Value.ownBlock] using ej
      rw [hgb] at hj; cases hj; rfl
/-- A box of a block is no row of entries. -/
theorem boxK_not_row {W : World} {z : Nat} {v : Value} {n : Int} {x y : Nat} (h : BoxK W z v n x y) {base size k : Nat} {u : Value} {xs : List Value} (hr : W.ownsRow base 41 size u k xs) : some z ≠ u.ownBlock := by
  rcases hr.2 with ⟨rfl, _⟩ | ⟨g, cap, cur, rfl, _, hg, _⟩
  · simp [Value.ownBlock]
  · intro e1
    obtain rfl : z = g := by simpa [Value.ownBlock] using e1
    rw [show W.heap[z]? = _ from h] at hg
    injection hg with hg
    injection hg with _ h2 _
    exact absurd h2 (by decide)
theorem own_setK {W : World} {z i : Nat} {v : Value} {n : Int} {x y : Nat} (h : BoxK W z v n x y) {base size k : Nat} {u : Value} {xs : List Value} (hr : W.ownsRow base 41 size u k xs) (a : Value) : (W.setCell ⟨z, i, none⟩ a).ownsRow base 41 size u k xs :=
  hr.kept (setCell_grown8 W z i a) (.inr (boxK_not_row h hr).symm)

/-- A row of ints lies apart from a block's box and a bool's. -/
theorem row_off {W : World} {B n r : Nat} {A : Option Addr} {l : List Int} {va : Option Addr} {vn vc : Nat} {m : Int} {x y : Nat} {t : TypeId} {q : Bool} (h : Rd W B .i64 A n l) (hn : 2 ≤ n) (h0 : BoxK W r (.slice va vn vc) m x y) (h1 : Boxed W (r + 1) t (.bool q)) : Off A r := fun b o e => by
  obtain ⟨b', o', e', _, hc⟩ := h.2 (by omega)
  rw [e] at e'
  injection e' with e'
  injection e' with e1 e2
  subst e1 e2
  have c0 := hc 0 (by omega)
  have c1 := hc 1 (by omega)
  refine ⟨?_, ?_⟩
  · rintro rfl
    rw [cell_of_row _ _ _ _ _ _ h0] at c0 c1
    match o, c0, c1 with
    | 0, c0, c1 => simp at c0
    | 1, c0, c1 => simp at c1
    | 2, c0, c1 => simp at c0
    | o + 3, c0, c1 => simp at c0
  · rintro rfl
    rw [cell_of_row _ _ _ _ _ _ h1] at c0
    match o, c0 with
    | 0, c0 => simp at c0
    | o + 1, c0 => simp at c0
/-- blockOf's answer. -/
def BofT (w : World) (p : Int × Int) (b : List Int) (e : Ending) (w' : World) : Prop :=
  ((∃ l A c m x y, BlockAt p b l ∧ e = .returned (.tuple #[.agg #[.slice A l.length c, .int .i64 (m : Nat), .complex .f64 x y], .bool true]) ∧ m = (blockL p l).length ∧ l.length ≤ c ∧ Es w' w'.heap.size A l.length l ∧ Ga.Pt x y (endP p l)) ∨
    (NoBlock p b ∧ e = .returned (.tuple #[.agg #[.slice none 0 0, .int .i64 0, .complex .f64 0 0], .bool false]))) ∧ Below w.heap.size w w'

/-- What stands behind the first byte, told by the numbers. -/
theorem block_take {p : Int × Int} {x : Int} {b : List Int} {l : List EnP} : BlockAt p (x :: b) l ↔ GoodC l ∧ x = l.length ∧ ∃ r, TakeIs b (3 * l.length) (numsL l) r ∧ ∃ s, r = Ga.bytesP (endP p l) ++ s := by
  constructor
  · rintro ⟨hg, r, e⟩
    simp only [blockL, bodyL, List.append_assoc, List.cons_append, List.cons.injEq] at e
    exact ⟨hg, e.1, _, ⟨allR_nums hg.2.2, nums_length l, e.2⟩, r, rfl⟩
  · rintro ⟨hg, rfl, r, ⟨_, _, e⟩, s, rfl⟩
    exact ⟨hg, s, by rw [e]; simp [blockL, bodyL]⟩
/-- The numbers are entries'. -/
theorem nums_of (k : Nat) : ∀ t : List Int, t.length = 3 * k → ∃ l : List EnP, numsL l = t ∧ l.length = k := by
  induction k with
  | zero => intro t ht; exact ⟨[], (List.length_eq_zero_iff.1 (by simpa using ht)).symm, rfl⟩
  | succ k ih =>
    intro t ht
    match t, ht with
    | a :: b :: c :: t, ht =>
      obtain ⟨l, h1, h2⟩ := ih t (by simp only [List.length_cons] at ht; omega)
      exact ⟨⟨a, b, c⟩ :: l, by rw [nums_cons, h1], by simp [h2]⟩
    | [], ht => simp at ht
    | [_], ht => simp only [List.length_cons, List.length_nil] at ht; omega
    | [_, _], ht => simp only [List.length_cons, List.length_nil] at ht; omega

/-- Between two rounds. -/
structure FInv (w : World) (es : List EnP) (r sB D1 : Nat) (vs : Value) (pre : List EnP) (W : World) : Prop where
  begun : es.take pre.length = pre
  right : allR pre = true
  row : ∃ v, BoxK W r v 0 0 0 ∧ W.ownsRow sB 41 3 v pre.length (pre.flatMap EnP.cs)
  r1 : Boxed W (r + 1) 4 (.bool true)
  low : Below w.heap.size w W
  size : D1 ≤ W.heap.size
theorem FInv.own {w : World} {es : List EnP} {r sB D1 : Nat} {vs : Value} (hr : r + 1 < D1) (hw : w.heap.size ≤ D1) : OwnT 9 D1 (FInv w es r sB D1 vs) := fun _ W W' row h hg hr' => by
  obtain ⟨hp, hR, ⟨v, hv, hrow⟩, h1, hlow, hsz⟩ := h
  have hne : ∀ k, k < D1 → some k ≠ row := fun k hk e => by have := (hr' k e.symm).1; omega
  exact ⟨hp, hR, ⟨v, (hg.block r hv.lt (hne r (by omega))).trans hv, hrow.kept hg (row_ne (by decide) hrow fun r e => (hr' r e).2)⟩, (hg.block _ h1.lt (hne _ hr)).trans h1, hlow.grown hg hlow.size (fun k e => by have := (hr' k e).1; omega), Nat.le_trans hsz hg.size⟩
structure FEnd (w : World) (es : List EnP) (r D1 : Nat) (W : World) : Prop where
  no : allR es = false
  r0 : BoxK W r (.slice none 0 0) 0 0 0
  r1 : Boxed W (r + 1) 4 (.bool false)
  low : Below w.heap.size w W
  size : D1 ≤ W.heap.size
theorem FEnd.own {w : World} {es : List EnP} {r D1 : Nat} (hr : r + 1 < D1) (hw : w.heap.size ≤ D1) (c : Code) : OwnT 9 D1 (fun (_ : List EnP) W => c = Code.ret ∧ FEnd w es r D1 W) :=
  ownT_low (fun _ _ h => h.2.size) fun _ _ _ h hb => ⟨h.1, h.2.no, (hb.block r (by omega)).trans h.2.r0, (hb.block _ hr).trans h.2.r1, h.2.low.trans (hb.mono hw), Nat.le_trans h.2.size hb.size⟩
/-- The loop's variable. -/
def FVar (D : Nat) (mk : Nat → EnP → Act) (x : EnP) (a' : Act) (W : World) : Prop := ∃ bx, BoxE W bx x ∧ D ≤ bx ∧ a' = mk bx x
theorem FVar.put {D : Nat} {mk : Nat → EnP → Act} (x : EnP) (a' : Act) (W : World) (l : Nat) (o o' : Obj) (h : FVar D mk x a' W) (hl : W.heap[l]? = some o) (ho : o.isCells = false) : FVar D mk x a' (W.putObj l o') := by
  obtain ⟨bx, hb, hD, e⟩ := h
  refine ⟨bx, (World.putObj_heap_other (fun e => ?_)).trans hb, hD, e⟩
  subst e
  rw [show W.heap[bx]? = _ from hb] at hl
  cases hl
  cases ho
theorem cell_three_newTw (W : World) (a b c : Value) (t : TypeId) : ∀ j u, ([a, b, c] : List Value)[j]? = some u → (W.alloc (.cells #[a, b, c] t)).cell? ((⟨W.heap.size, 0, none⟩ : Addr).add j) = some u := by
  intro j u hj
  rw [add_plain', Nat.zero_add, cell_of_row _ _ _ _ _ _ (World.alloc_heap_new W _)]
  simpa using hj

set_option maxRecDepth 100000 in
set_option maxHeartbeats 4000000 in
theorem blockOf_in {x y : Nat} {p : Int × Int} (A : Option Addr) (n c : Nat) (b : List Int) (w : World) (hp : Ga.From x y p) (hpin : Ga.InP p) (hr : Rd w w.heap.size .u8 A n b) (hb : Byt b) (hnc : n ≤ c) (hn : n ≤ 1000000000) :
    CallsIn Fence.wide 5 Tryz.prog 166 #[.complex .f64 x y, .slice A n c] w (BofT w p b) := by
  obtain ⟨i0, hi, hz0, hz1, hz2⟩ := info_parts Ga.info_u8
  obtain ⟨j0, hj, hy0, hy1, hy2⟩ := info_partsV info_entryTw
  have Hr := Lib.hid (⟨hr, hp, hb, hr.1, hpin⟩ : _ ∧ _ ∧ _ ∧ _ ∧ _)
  clear hr hp hb hpin
  refine callsIn_of_wp_marks Tryz.func166 rfl trivial ?_ rfl
  simp only [Tryz.ntmps166, List.size_toArray, List.length_cons, List.length_nil, Nat.reduceAdd, Nat.reduceSub, Array.replicate_succ, Array.replicate_zero, List.push_toArray, List.append_toArray, List.nil_append, List.cons_append]
  obtain ⟨r, hr⟩ : ∃ r, r = w.heap.size := ⟨_, rfl⟩
  obtain ⟨wa, hwa⟩ : ∃ wa, wa = w.alloc (.cells #[.slice none 0 0, .int .i64 0, .complex .f64 0 0] 183) := ⟨_, rfl⟩
  obtain ⟨w0, hw0⟩ : ∃ w0, w0 = wa.alloc (.cells #[.bool false] 4) := ⟨_, rfl⟩
  have hsa : wa.heap.size = r + 1 := by rw [hwa, hr]; simp
  have hs0 : w0.heap.size = r + 2 := by rw [hw0]; simp [hsa]
  have hB0 : Below w.heap.size w w0 := by rw [hw0, hwa]; exact ((Below.refl _ _).alloc (Nat.le_refl _) _).alloc (by simp) _
  have br0 : BoxK w0 r (.slice none 0 0) 0 0 0 := by
    have h : BoxK wa r (.slice none 0 0) 0 0 0 := by rw [hwa, hr]; exact BoxK.new _ _ _ _ _
    rw [hw0]; exact h.below ((Below.refl _ _).alloc (Nat.le_refl _) _)
  have br1 : Boxed w0 (r + 1) 4 (.bool false) := by rw [hw0, ← hsa]; exact Boxed.new _ _ _
  have he : w0 = (w.alloc (.cells #[.slice none 0 0, .int .i64 0, .complex .f64 0 0] 183)).alloc (.cells #[.bool false] 4) := by rw [hw0, hwa]
  have HB := Lib.hid (⟨hB0, br0, br1, he, hr, hs0⟩ : _ ∧ _ ∧ _ ∧ _ ∧ _ ∧ _)
  clear hwa hw0 hsa hs0 hB0 br0 br1 he
  cases b with
  | nil =>
    obtain rfl : n = 0 := by have := Hr.out.2.2.2.1; simpa using this.symm
    have hno : NoBlock p [] := noBlock_nil p
    clear hr
    gi_wp2_with fail
    rw [← HB.out.2.2.2.1]
    refine leaves_marks (B := w.heap.size) [] w0 ⟨List.nodup_nil, fun d hd => by cases hd⟩ fun w' hw' => ⟨.tuple #[.agg #[.slice none 0 0, .int .i64 0, .complex .f64 0 0], .bool false], ?_, .inr ⟨hno, rfl⟩, HB.out.1.trans hw'.1⟩
    obtain ⟨z0, z1, z2⟩ := (show BoxK w' w.heap.size (.slice none 0 0) 0 0 0 from HB.out.2.2.2.2.1 ▸ hw'.2 _ _ HB.out.2.1 rfl).cells
    have z3 := (show Boxed w' (w.heap.size + 1) 4 (.bool false) from HB.out.2.2.2.2.1 ▸ hw'.2 _ _ HB.out.2.2.1 rfl).cell
    clear hw'
    simp [results, Tryz.results166, go_sem, z0, z1, z2, z3]
  | cons x0 b =>
    have hl : b.length + 1 = n := by have := Hr.out.2.2.2.1; simpa using this
    obtain ⟨bl, off, rfl, hbl, hcell⟩ := Hr.out.1.at_ (by omega)
    have hx0 := Hr.out.2.2.1 x0 (List.mem_cons_self ..)
    obtain ⟨k, rfl⟩ : ∃ k : Nat, x0 = (k : Int) := ⟨x0.toNat, by omega⟩
    have c0 := hcell 0 (by omega)
    simp only [List.getElem?_cons_zero, Option.getD_some, Nat.add_zero] at c0
    have n0 : ¬ n = 0 := by omega
    have c0w : w0.cell? ⟨bl, off, none⟩ = some (.int .u8 (k : Int)) := (HB.out.1.cell (p := ⟨bl, off, none⟩) hbl).trans c0
    have HC := Lib.hid (⟨c0w, hbl⟩ : _ ∧ _)
    by_cases hk : 1 ≤ k ∧ k ≤ 4
    · have g1 : ¬ k = 0 := by omega
      have g2 : ¬ (4 : Int) < (k : Int) := by omega
      have g3 : ¬ 4 < k := by omega
      have g4 : ((k : Int) == 0) = false := by simp; omega
      have hcv : IntKind.i64.wrap (k : Int) = (k : Int) := by rw [IntKind.wrap_i64] <;> omega
      have hm3 : IntKind.i64.wrap (3 * (k : Int)) = ((3 * k : Nat) : Int) := by rw [IntKind.wrap_i64] <;> omega
      obtain ⟨A', hrun, hcut⟩ := cut_tail8 Tryz.underlying23 hi hz1 (some ⟨bl, off, none⟩) n c 1 (by omega) hnc
      have hrun1 : ∀ W : World, (Instr.slice 23 (.slice (some ⟨bl, off, none⟩) n c) (some (.int .i64 1)) none none).run Tryz.prog W = .ok (.slice A' (n - 1) (c - 1)) W := hrun
      have hrd := hcut Hr.out.1
      simp only [List.drop_succ_cons, List.drop_zero] at hrd
      obtain ⟨m, hm⟩ : ∃ m, m = n - 1 := ⟨_, rfl⟩
      obtain ⟨c', hc'⟩ : ∃ c', c' = c - 1 := ⟨_, rfl⟩
      rw [← hm, ← hc'] at hrun1
      rw [← hm] at hrd
      have hb' : Byt b := fun y hy => Hr.out.2.2.1 y (List.mem_cons_of_mem _ hy)
      obtain ⟨K, hK⟩ : ∃ K, K = 3 * k := ⟨_, rfl⟩
      rw [← hK] at hm3
      have Hk := Lib.hid (⟨hk, hrd, hb', (show m ≤ c' by omega), (show m ≤ 1000000000 by omega), hK, (show K ≤ 12 by omega), hl, hm⟩ : _ ∧ _ ∧ _ ∧ _ ∧ _ ∧ _ ∧ _ ∧ _ ∧ _)
      clear hrun hcut hrd hm hc' hb' hcell hbl hK hx0 hl hk c0w hr
      rw [HB.out.2.2.2.1] at HC
      have c0x := HC.out.1
      gi_wp2_with fail
      clear c0x
      rw [← HB.out.2.2.2.1] at HC ⊢
      rw [← HB.out.2.2.2.2.1]
      refine wpIn_wide.2 ?_
      refine wp_region_noPanic ?_
      refine wp_region_held_drew (S := fun W => W.cell? ⟨bl, off, none⟩ = some (.int .u8 (k : Int))) (by kernel_rfl) HC.out.1 (fun hHeld => ?_)
      refine take_at (i := 0) (d := 29) (oi := ?o1) (v := ?v1) ?hi1 ?hd1 (by kernel_rfl) (by kernel_rfl) (by kernel_rfl) ?hw1 ?hy1 ?hq1 (by assumption) ?r1
      case hi1 => (simp only [List.getElem?_toArray, List.getElem?_cons_zero]; rfl)
      case hd1 => rfl
      case hw1 => rfl
      case hy1 => ((intro w hSw; (try dsimp only at hSw); go_simp) <;> (with_reducible rfl))
      case hq1 => exact fun _ _ _ h => h
      simp only [List.set_cons_succ, List.set_cons_zero]
      refine take_at (i := 1) (d := 30) (oi := ?o2) (v := ?v2) ?hi2 ?hd2 (by kernel_rfl) (by kernel_rfl) (by kernel_rfl) ?hw2 ?hy2 ?hq2 (by assumption) ?r2
      case hi2 => (simp only [List.getElem?_toArray, List.getElem?_cons_succ, List.getElem?_cons_zero]; rfl)
      case hd2 => rfl
      case hw2 => rfl
      case hy2 => ((intro w hSw; (try dsimp only at hSw); go_simp) <;> (with_reducible rfl))
      case hq2 => exact fun _ _ _ h => h
      simp only [List.set_cons_succ, List.set_cons_zero]
      refine take_at (i := 2) (d := 31) (oi := ?o3) (v := ?v3) ?hi3 ?hd3 (by kernel_rfl) (by kernel_rfl) (by kernel_rfl) ?hw3 ?hy3 ?hq3 (by assumption) ?r3
      case hi3 => (simp only [List.getElem?_toArray, List.getElem?_cons_succ, List.getElem?_cons_zero]; rfl)
      case hd3 => rfl
      case hw3 => rfl
      case hy3 => ((intro w hSw; (try dsimp only at hSw); go_simp) <;> (with_reducible rfl))
      case hq3 => exact fun _ _ _ h => h
      simp only [List.set_cons_succ, List.set_cons_zero]
      refine take_at (i := 3) (d := 32) (oi := ?o4) (v := ?v4) ?hi4 ?hd4 (by kernel_rfl) (by kernel_rfl) (by kernel_rfl) ?hw4 ?hy4 ?hq4 (by assumption) ?r4
      case hi4 => (simp only [List.getElem?_toArray, List.getElem?_cons_succ, List.getElem?_cons_zero]; rfl)
      case hd4 => rfl
      case hw4 => rfl
      case hy4 => ((intro w hSw; (try dsimp only at hSw); go_simp) <;> (with_reducible rfl))
      case hq4 => exact fun _ _ _ h => h
      simp only [List.set_cons_succ, List.set_cons_zero]
      refine take_at (i := 4) (d := 33) (oi := ?o5) (v := ?v5) ?hi5 ?hd5 (by kernel_rfl) (by kernel_rfl) (by kernel_rfl) ?hw5 ?hy5 ?hq5 (by assumption) ?r5
      case hi5 => (simp only [List.getElem?_toArray, List.getElem?_cons_succ, List.getElem?_cons_zero]; rfl)
      case hd5 => rfl
      case hw5 => rfl
      case hy5 => ((intro w hSw; (try dsimp only at hSw); go_simp) <;> (with_reducible rfl))
      case hq5 => exact fun _ _ _ h => h
      simp only [List.set_cons_succ, List.set_cons_zero]
      refine take_at (i := 5) (d := 34) (oi := ?o6) (v := ?v6) ?hi6 ?hd6 (by kernel_rfl) (by kernel_rfl) (by kernel_rfl) ?hw6 ?hy6 ?hq6 (by assumption) ?r6
      case hi6 => (simp only [List.getElem?_toArray, List.getElem?_cons_succ, List.getElem?_cons_zero]; rfl)
      case hd6 => rfl
      case hw6 => rfl
      case hy6 => ((intro w hSw; (try dsimp only at hSw); go_simp) <;> (with_reducible rfl))
      case hq6 => exact fun _ _ _ h => h
      simp only [List.set_cons_succ, List.set_cons_zero]
      refine take_at (i := 6) (d := 35) (oi := ?o7) (v := ?v7) ?hi7 ?hd7 (by kernel_rfl) (by kernel_rfl) (by kernel_rfl) ?hw7 ?hy7 ?hq7 (by assumption) ?r7
      case hi7 => (simp only [List.getElem?_toArray, List.getElem?_cons_succ, List.getElem?_cons_zero]; rfl)
      case hd7 => rfl
      case hw7 => rfl
      case hy7 => ((intro w hSw; (try dsimp only at hSw); go_simp) <;> (with_reducible rfl))
      case hq7 => exact fun _ _ _ h => h
      simp only [List.set_cons_succ, List.set_cons_zero]
      refine call_at (i := 7) (d := 36) (oi := ?o8) (f := ?f8) (args := ?a8) ?hi8 ?hd8 (by kernel_rfl) ?hw8 ?he8 ?hc8
      case hi8 => (simp only [List.getElem?_toArray, List.getElem?_cons_succ, List.getElem?_cons_zero]; rfl)
      case hd8 => rfl
      case hw8 => rfl
      case he8 => (go_simp; constructor <;> with_reducible rfl)
      with_reducible refine Calls.mono (take_any A' m c' K b w0.drew (Hk.out.2.1.on (HB.out.1.drew) HB.out.1.drew.size) Hk.out.2.2.1 Hk.out.2.2.2.1 Hk.out.2.2.2.2.1 Hk.out.2.2.2.2.2.2.1) ?_
      rintro e w2 ⟨hT, hb2⟩
      have hb2' : Below w0.heap.size w0 w2 := ⟨hb2.os, hb2.tape, hb2.output, hb2.size, hb2.block⟩
      have c2 : w2.cell? ⟨bl, off, none⟩ = some (.int .u8 (k : Int)) := (hb2'.cell (p := ⟨bl, off, none⟩) (Nat.lt_of_lt_of_le HC.out.2 HB.out.1.size)).trans HC.out.1
      have b0 := HB.out.2.1.below hb2'
      have b1 : Boxed w2 (r + 1) 4 (.bool false) := (hb2'.block _ HB.out.2.2.1.lt).trans HB.out.2.2.1
      have lo2 := HB.out.1.trans (hb2'.mono HB.out.1.size)
      have hlo : w.heap.size ≤ r := by have := HB.out.2.2.2.2.1; omega
      rcases hT with ⟨t, rr, A2, c2', u, hT, rfl, hu, hkc, hr2⟩ | ⟨hT, rfl⟩
      · obtain ⟨es, hes, hek⟩ := nums_of k t (by rw [hT.2.1]; exact Hk.out.2.2.2.2.2.1)
        subst hes
        obtain ⟨x3, hx3⟩ : ∃ x3, x3 = w2.setCell ⟨r + 1, 0, none⟩ (.bool true) := ⟨_, rfl⟩
        have d1 : Boxed x3 (r + 1) 4 (.bool true) := by rw [hx3]; exact b1.set _
        have d0 : BoxK x3 r (.slice none 0 0) 0 0 0 := by rw [hx3]; exact b0.other (by omega) _ _
        have lo3 : Below w.heap.size w x3 := by rw [hx3]; exact lo2.setCell (p := ⟨r + 1, 0, none⟩) (by show w.heap.size ≤ r + 1; omega) _
        have e3 : x3.cell? ⟨bl, off, none⟩ = some (.int .u8 (k : Int)) := by
          rw [hx3, cell_set_ne (by have := HC.out.2; show bl ≠ r + 1; omega)]; exact c2
        have hKk := Hk.out.2.2.2.2.2.1
        have hoff : Off A2 r := row_off hr2 (by have := Hk.out.1; omega) b0 b1
        have hr3 : Rd x3 x3.heap.size .i64 A2 K (numsL es) := by
          have h := rd_off hr2 hoff (KpI.set (B0 := w2.heap.size) (r := r) (.inr (.inr rfl)) w2 (.bool true) (i := 0) b1 (by unfold Keep3; decide))
          rw [← hx3] at h
          exact h.on (Below.refl _ _) (by rw [hx3]; exact (grownBy_setCell' w2 (r + 1) _).size)
        have f1 := b1.frozen
        have q1 := b1.cell
        have HX := Lib.hid (⟨d0, d1, lo3, hT, hoff, hr3, hek, hkc, hu⟩ : _ ∧ _ ∧ _ ∧ _ ∧ _ ∧ _ ∧ _ ∧ _ ∧ _)
        refine ⟨_, rfl, c2, fun hHeld => ?_⟩
        simp only [List.set_cons_succ, List.set_cons_zero]
        clear d0 d1 lo3 hT b0 lo2 hb2 hb2' c2 hoff hr3 hek hkc hu hr2 hKk
        refine take_at (i := 8) (d := 28) (oi := ?o16) (v := ?v16) ?hi16 ?hd16 (by kernel_rfl) (by kernel_rfl) (by kernel_rfl) ?hw16 ?hy16 ?hq16 (by assumption) ?r16
        case hi16 => (simp only [List.getElem?_toArray, List.getElem?_cons_succ, List.getElem?_cons_zero]; rfl)
        case hd16 => rfl
        case hw16 => rfl
        case hy16 => ((intro w hSw; (try dsimp only at hSw); go_simp) <;> (with_reducible rfl))
        case hq16 => exact fun _ _ _ h => h
        simp only [List.set_cons_succ, List.set_cons_zero]
        refine take_at (i := 9) (d := 37) (oi := ?o17) (v := ?v17) ?hi17 ?hd17 (by kernel_rfl) (by kernel_rfl) (by kernel_rfl) ?hw17 ?hy17 ?hq17 (by assumption) ?r17
        case hi17 => (simp only [List.getElem?_toArray, List.getElem?_cons_succ, List.getElem?_cons_zero]; rfl)
        case hd17 => rfl
        case hw17 => rfl
        case hy17 => ((intro w hSw; (try dsimp only at hSw); go_simp) <;> (with_reducible rfl))
        case hq17 => exact fun _ _ _ h => h
        simp only [List.set_cons_succ, List.set_cons_zero]
        refine take_at (i := 10) (d := 38) (oi := ?o18) (v := ?v18) ?hi18 ?hd18 (by kernel_rfl) (by kernel_rfl) (by kernel_rfl) ?hw18 ?hy18 ?hq18 (by assumption) ?r18
        case hi18 => (simp only [List.getElem?_toArray, List.getElem?_cons_succ, List.getElem?_cons_zero]; rfl)
        case hd18 => rfl
        case hw18 => rfl
        case hy18 => ((intro w hSw; (try dsimp only at hSw); go_simp) <;> (with_reducible rfl))
        case hq18 => exact fun _ _ _ h => h
        simp only [List.set_cons_succ, List.set_cons_zero]
        refine take_at (i := 11) (d := 39) (oi := ?o19) (v := ?v19) ?hi19 ?hd19 (by kernel_rfl) (by kernel_rfl) (by kernel_rfl) ?hw19 ?hy19 ?hq19 (by assumption) ?r19
        case hi19 => (simp only [List.getElem?_toArray, List.getElem?_cons_succ, List.getElem?_cons_zero]; rfl)
        case hd19 => rfl
        case hw19 => rfl
        case hy19 => ((intro w hSw; (try dsimp only at hSw); go_simp) <;> (with_reducible rfl))
        case hq19 => exact fun _ _ _ h => h
        simp only [List.set_cons_succ, List.set_cons_zero]
        refine take_at (i := 12) (d := 6) (oi := ?o20) (v := ?v20) ?hi20 ?hd20 (by kernel_rfl) (by kernel_rfl) (by kernel_rfl) ?hw20 ?hy20 ?hq20 (by assumption) ?r20
        case hi20 => (simp only [List.getElem?_toArray, List.getElem?_cons_succ, List.getElem?_cons_zero]; rfl)
        case hd20 => rfl
        case hw20 => rfl
        case hy20 => ((intro w hSw; (try dsimp only at hSw); go_simp) <;> (with_reducible rfl))
        case hq20 => exact fun _ _ _ h => h
        simp only [List.set_cons_succ, List.set_cons_zero]
        refine take_at (i := 13) (d := 7) (oi := ?o21) (v := ?v21) ?hi21 ?hd21 (by kernel_rfl) (by kernel_rfl) (by kernel_rfl) ?hw21 ?hy21 ?hq21 (by assumption) ?r21
        case hi21 => (simp only [List.getElem?_toArray, List.getElem?_cons_succ, List.getElem?_cons_zero]; rfl)
        case hd21 => rfl
        case hw21 => rfl
        case hy21 => ((intro w hSw; (try dsimp only at hSw); go_simp) <;> (with_reducible rfl))
        case hq21 => exact fun _ _ _ h => h
        simp only [List.set_cons_succ, List.set_cons_zero]
        refine wpAnyH_ready (rs := [14]) (by kernel_rfl) (by simp) ?_
        refine br_store (i := 14) (oi := ?o22) (w' := x3) ?hi22 ?hd22 ?hw22 ?he22 e3 ?hc22
        case hi22 => (simp only [List.getElem?_toArray, List.getElem?_cons_succ, List.getElem?_cons_zero]; rfl)
        case hd22 => rfl
        case hw22 => rfl
        case he22 => (rw [hx3]; clear hx3; go_simp)
        intro hHeld
        refine wpAnyH_done (by kernel_rfl) ?_ _
        refine NoPanic.normal ?_
        obtain ⟨d0, d1, lo3, hT, hoff, hr3, hek, hkc, hu⟩ := HX.out
        have q1' := d1.cell
        clear q1 f1 b1 hx3 e3 hHeld d0 d1 lo3 hT hoff hr3 hek hkc hu
        gi_wp2_with fail
        refine ⟨trivial, ?_⟩
        refine (callsIn_wide.2 (entries_anyTw A2 K c2' x3)).mono ?_
        rintro e x4 ⟨rfl, hl4, hs4, hb4⟩
        obtain ⟨d0, d1, lo3, hT, hoff, hr3, hek, hkc, hu⟩ := HX.out
        obtain ⟨sB, hsB⟩ : ∃ sB, sB = x3.heap.size := ⟨_, rfl⟩
        rw [← hsB] at hl4 ⊢
        have d04 := d0.below hb4
        have d14 : Boxed x4 (r + 1) 4 (.bool true) := (hb4.block _ d1.lt).trans d1
        have lo4 := lo3.trans (hb4.mono lo3.size)
        have Hd4 := Lib.hid (show w.heap.size ≤ r ∧ r + 1 < sB ∧ x4.heap.size = sB + 1 ∧ sB = x3.heap.size by have := d1.lt; omega)
        have h0 : FInv w es r sB x4.heap.size (.slice A2 K c2') [] x4 := ⟨rfl, rfl, ⟨_, d04, World.ownsRow_nil _ _ _ _⟩, d14, lo4, Nat.le_refl _⟩
        have H0 := Lib.hid (⟨h0, hl4, rd_low hr3 (w' := x4) (fun k hk => hb4.block k hk)⟩ : _ ∧ _ ∧ _)
        clear h0 hl4 hs4 hb4 d04 d14 lo4 hsB d0 d1 lo3 hT hoff hr3 hek hkc hu q1'
        gi_wp2_with fail
        refine range_N 9 rfl (by decide) (gf := 173) (lb := #[.pointer (some ⟨sB, 0, none⟩)]) rfl trivial (enters_of Tryz.func173 (by kernel_rfl) rfl)
          (entries_seqTw sB x3.heap.size r (by have := Hk.out.2.2.2.2.2.2.1; omega) (show K ≤ c2' from HX.out.2.2.2.2.2.2.2.1) x4 (by have := Hd4.out; omega) H0.out.2.1 H0.out.2.2 HX.out.2.2.2.2.1) (fun h h' => h.trans h') (fun W' o o' h hc hw => KpN.put (by have := Hd4.out; omega) (by omega) W' o o' h hc hw) (Below.refl _ _) (fun _ => rfl)
          (FInv w es r sB x4.heap.size (.slice A2 K c2')) (fun c (_ : List EnP) W => c = Code.ret ∧ FEnd w es r x4.heap.size W) (FInv.own (by have := Hd4.out; omega) (by have := Hd4.out; omega))
          (FEnd.own (by have := Hd4.out; omega) (by have := Hd4.out; omega)) H0.out.1
          (FVar x4.heap.size fun bx d => { tmps := #[.complex .f64 x y, .slice (some ⟨bl, off, none⟩) n c, undef, undef, .pointer (some ⟨r, 0, none⟩), .pointer (some ⟨r + 1, 0, none⟩), .slice A2 K c2', .int .i64 u, .pointer (some ⟨bx, 0, none⟩), undef, undef, undef, .slice (some ⟨bl, off, none⟩) n c, .int .i64 n, .bool false, .bool false, .slice (some ⟨bl, off, none⟩) n c, .pointer (some ⟨bl, off, none⟩), .int .u8 k, .bool false, .bool false, .bool false, .slice (some ⟨bl, off, none⟩) n c, .pointer (some ⟨bl, off, none⟩), .int .u8 k, .bool false, .bool false, undef, .tuple #[.slice A2 K c2', .int .i64 u, .bool true], .slice (some ⟨bl, off, none⟩) n c, .slice A' m c', .slice (some ⟨bl, off, none⟩) n c, .pointer (some ⟨bl, off, none⟩), .int .u8 k, .int .i64 k, .int .i64 K, .tuple #[.slice A2 K c2', .int .i64 u, .bool true], .slice A2 K c2', .int .i64 u, .bool true, .bool true, .bool false, undef, .slice A2 K c2', .func (.func 173) #[] #[.pointer (some ⟨sB, 0, none⟩)], .agg #[.int .i64 d.tm, .int .i64 d.kd, .int .i64 d.vl], undef, undef, undef, undef, undef, undef, undef, undef, undef, undef, undef, undef, undef, undef, undef, undef, undef, undef, undef, undef, undef, undef, undef, undef, undef, undef, undef, undef, undef, undef, undef, undef, undef, undef, undef, undef], defers := [] })
          FVar.put ?assign ?body ?done ?stop
        case assign =>
          intro lp pre d W hI hok
          gi_wp2
          have hb := (Below.refl W.heap.size W).alloc (Nat.le_refl _) (.cells #[.int .i64 d.tm, .int .i64 d.kd, .int .i64 d.vl] 41)
          have hsz := hI.size
          have hd := Hd4.out
          obtain ⟨v, hv, hrow⟩ := hI.row
          exact ⟨(KeepsOthers.alloc _ _).from _, ⟨KpI.below hb (by omega), (KeepsOthers.alloc _ _).from _⟩, ⟨hI.begun, hI.right, ⟨v, hv.below hb, hrow.alloc _⟩, hI.r1.alloc _, hI.low.trans (hb.mono (by omega)), by have := hb.size; omega⟩, W.heap.size, BoxE.new W d, hsz, rfl⟩
        case body =>
          rintro lp pre d a' W hI ⟨bx, hbx, hDx, rfl⟩ ⟨_, hok⟩
          obtain ⟨k0, k1, k2⟩ := hbx.cells
          obtain ⟨v, hv, hrow⟩ := hI.row
          obtain ⟨A4, c4, rfl, hc4⟩ := own_slice hrow
          have hplen : pre.length ≤ 4 := by
            have h1 := (List.getElem?_eq_some_iff.1 hok).1
            have := HX.out.2.2.2.2.2.2.1
            have := Hk.out.1
            omega
          cases hR : rightB d with
          | false =>
            have hcl := right_any d W
            rw [hR] at hcl
            have HI := Lib.hid (⟨hI, hv, allR_no hok hR, hcl⟩ : _ ∧ _ ∧ _ ∧ _)
            clear hI hv hrow hok hR hcl
            gi_wp2_with fail
            refine ⟨trivial, ?_⟩
            refine (CallsIn.inRound _ (callsIn_wide.2 HI.out.2.2.2)).mono ?_
            rintro e W2 ⟨rfl, hb2⟩
            obtain ⟨hI, hv, hno, -⟩ := HI.out
            have hv2 := hv.below hb2
            have h12 : Boxed W2 (r + 1) 4 (.bool true) := (hb2.block _ hI.r1.lt).trans hI.r1
            have k02 : KeepsFrom x4.heap.size W W2 := KeepsFrom.of_grownBy (grown_of hb2) (fun k e => by cases e)
            have lo2 := hI.low.trans (hb2.mono hI.low.size)
            obtain ⟨z0, z1, z2⟩ := hv2.cells
            have f0 := hv2.frozen 0
            have f1' := hv2.frozen 1
            have f2' := hv2.frozen 2
            have q1' := h12.cell
            have g1' := h12.frozen
            have H2 := Lib.hid (⟨hv2, h12, k02, lo2, hb2, hI, hno⟩ : _ ∧ _ ∧ _ ∧ _ ∧ _ ∧ _ ∧ _)
            clear hv2 h12 k02 lo2 hb2 hI hv hno hbx hDx k0 k1 k2
            gi_wp2_with fail
            obtain ⟨hv2, h12, k02, lo2, hb2, hI, hno⟩ := H2.out
            have hd := Hd4.out
            refine ⟨(k02.trans (putK_keeps (by omega) _ _ _ _)).trans (KeepsFrom.of_grownBy (B := x4.heap.size) (setCell_grown8 _ (r + 1) 0 _) (fun k e => by cases e; omega)), rfl, hno, (putK_box hv2 _ _ _ _).other (by omega) _ _, (putK_boxed h12 (by omega) _ _ _ _).set _, (putK_below hlo _ _ _ _ lo2).setCell (p := ⟨r + 1, 0, none⟩) (by show w.heap.size ≤ r + 1; omega) _, ?_⟩
            exact Nat.le_trans hI.size (Nat.le_trans k02.size (Nat.le_trans (putK_keeps (B := r + 1) (by omega) _ _ _ _).size (setCell_grown8 _ (r + 1) 0 _).size))
          | true =>
            have hcl := right_any d W
            rw [hR] at hcl
            obtain ⟨N, hN⟩ : ∃ N, N = pre.length := ⟨_, rfl⟩
            rw [← hN] at hplen hrow hv
            have HI := Lib.hid (⟨hI, hv, hrow, hR, hok, hcl, hbx, hN⟩ : _ ∧ _ ∧ _ ∧ _ ∧ _ ∧ _ ∧ _ ∧ _)
            clear hI hv hrow hok hR hcl hbx hN
            gi_wp2_with fail
            refine ⟨trivial, ?_⟩
            refine (CallsIn.inRound _ (callsIn_wide.2 HI.out.2.2.2.2.2.1)).mono ?_
            rintro e W2 ⟨rfl, hb2⟩
            obtain ⟨hI, hv, hrow, hR, hok, -, hbx, hN⟩ := HI.out
            have hv2 := hv.below hb2
            have h12 : Boxed W2 (r + 1) 4 (.bool true) := (hb2.block _ hI.r1.lt).trans hI.r1
            have k02 : KeepsFrom x4.heap.size W W2 := KeepsFrom.of_grownBy (grown_of hb2) (fun k e => by cases e)
            have lo2 := hI.low.trans (hb2.mono hI.low.size)
            have row2 := own_keepTw hrow hb2
            have bx2 := hbx.below hb2
            obtain ⟨z0, z1, z2⟩ := hv2.cells
            obtain ⟨y0, y1, y2⟩ := bx2.cells
            have H2 := Lib.hid (⟨hv2, h12, k02, lo2, hb2, hI, row2, hR, hok, hN⟩ : _ ∧ _ ∧ _ ∧ _ ∧ _ ∧ _ ∧ _ ∧ _ ∧ _ ∧ _)
            clear hv2 h12 k02 lo2 hb2 hI hv row2 hrow hR hok hbx bx2 hN k0 k1 k2
            have hszB : sB ≤ W2.heap.size := by
              have h1 := H2.out.2.2.2.2.2.1.size
              have h2 := H2.out.2.2.2.2.1.size
              have := Hd4.out
              omega
            gi_wp2_with (gi_at_builtin; refine hold ?_)
            refine unhold (wpListIn_append_own _ rfl _ _ 22 rfl sB 41 j0 (.agg #[.int .i64 0, .int .i64 0, .int .i64 0]) 3 24 Tryz.underlying22 hj hy0 hy1 hy2 rfl (by decide) _ _ _ rfl (H2.out.2.2.2.2.2.2.1.alloc _) ⟨W2.heap.size, 0, none⟩ 1 1 [.int .i64 d.tm, .int .i64 d.kd, .int .i64 d.vl] rfl rfl (cell_three_newTw _ _ _ _ _) (by simp [Value.oneCell']) (by unfold maxLen; omega) (by omega) (by simp; omega) ?_)
            intro v' w3 hown' hgrow _
            obtain ⟨hv2, h12, k02, lo2, hb2, hI, row2, hR, hok, hN⟩ := H2.out
            have hd := Hd4.out
            obtain ⟨A5, c5, rfl, _⟩ := own_slice hown'
            have al := (Below.refl W2.heap.size W2).alloc (Nat.le_refl _) (.cells #[.int .i64 d.tm, .int .i64 d.kd, .int .i64 d.vl] 41)
            have va := hv2.below al
            have rowa := row2.alloc (.cells #[.int .i64 d.tm, .int .i64 d.kd, .int .i64 d.vl] 41)
            have v3 : BoxK w3 r (.slice A4 N c4) 0 0 0 := (hgrow.block r va.lt (boxK_not_row va rowa)).trans va
            have h13 : Boxed w3 (r + 1) 4 (.bool true) := (h12.alloc (.cells #[.int .i64 d.tm, .int .i64 d.kd, .int .i64 d.vl] 41)).kept hgrow ((h12.alloc _).not_row (by decide) rowa)
            have lo3' : Below w.heap.size w w3 := ((lo2.alloc lo2.size _).grown hgrow (by simp; have := lo2.size; omega) fun j ej => by have := (rowa.lt j ej).1; omega)
            have kg : KpI x3.heap.size r W w3 := ((KpI.below hb2 (by have := hI.size; omega)).trans (KpI.below al (by have := hI.size; have := hb2.size; omega))).trans (KpI.grown rowa (by omega) (by unfold Keep3; decide) (by have := al.size; have := hI.size; have := hb2.size; omega) hgrow)
            have kf : KeepsFrom x4.heap.size W w3 := (k02.trans ((KeepsOthers.alloc _ _).from _)).trans ((keeps_grown rowa hgrow).from _)
            obtain ⟨p0, p1, p2⟩ := v3.cells
            have f0 := v3.frozen 0
            have H3 := Lib.hid (⟨v3, h13, lo3', kg, kf, hown'⟩ : _ ∧ _ ∧ _ ∧ _ ∧ _ ∧ _)
            clear hv2 h12 k02 lo2 hb2 hI row2 hR hok hN va rowa v3 h13 lo3' kg kf hown' hgrow al hd z0 z1 z2 y0 y1 y2 hszB
            gi_wp2_with fail
            obtain ⟨v3, h13, lo3', kg, kf, hown'⟩ := H3.out
            obtain ⟨hv2, h12, k02, lo2, hb2, hI, row2, hR, hok, hN⟩ := H2.out
            have hd := Hd4.out
            have hlen : (pre ++ [d]).length = N + 1 := by rw [List.length_append, hN]; rfl
            refine ⟨kf.trans (KeepsFrom.of_grownBy (B := x4.heap.size) (setCell_grown8 w3 r 0 _) (fun k e => by cases e; omega)), ⟨kg.trans (KpI.set (.inr (.inl rfl)) w3 _ v3 (by unfold Keep3; decide)), (keeps_more kf (by omega)).trans (KeepsFrom.of_grownBy (B := x4.heap.size + 2) (setCell_grown8 w3 r 0 _) (fun k e => by cases e; omega))⟩,
              ⟨?_, ?_, ⟨_, v3.s0 _, ?_⟩, Boxed.other_i h13 (by omega) _, lo3'.setCell (p := ⟨r, 0, none⟩) hlo _, Nat.le_trans hI.size (Nat.le_trans kg.size (setCell_grown8 w3 r 0 _).size)⟩⟩
            · rw [List.length_append]; show es.take (pre.length + 1) = _; rw [take_succ hok, hI.begun]
            · rw [allR_append, hI.right, Bool.true_and]; simp [allR, hR]
            · rw [hlen, List.flatMap_append]
              exact own_setK v3 hown' _
        case stop =>
          rintro D' cc pre W hD2 ⟨rfl, hI⟩ hK
          have HI := Lib.hid (⟨hI, hK, hD2⟩ : _ ∧ _ ∧ _)
          clear hI hK hD2
          gi_wp2_with fail
          obtain ⟨hI, hK, hD2⟩ := HI.out
          have hd := Hd4.out
          have hno : NoBlock p ((k : Int) :: b) := by
            obtain ⟨-, -, -, hT, -, -, hek, -, -⟩ := HX.out
            intro l' hB
            obtain ⟨hg, hxl, r', hT', _⟩ := block_take.1 hB
            rw [show l'.length = k by omega, ← Hk.out.2.2.2.2.2.1] at hT'
            have h := nums_inj (hT.same hT').1
            rw [← h] at hg
            have h9 := hg.2.2
            rw [hI.no] at h9
            cases h9
          have hk0 := hI.r0
          have hk1 := hI.r1
          have hlow := hI.low
          refine leaves_marks (B := w.heap.size) [D'] _ ⟨by simp, fun d hd' => (by obtain rfl : d = D' := (by simpa using hd'); exact ⟨by omega, hK⟩)⟩ fun w' hw' => ⟨.tuple #[.agg #[.slice none 0 0, .int .i64 0, .complex .f64 0 0], .bool false], ?_, .inr ⟨hno, rfl⟩, hlow.trans hw'.1⟩
          obtain ⟨z0, z1, z2⟩ := (show BoxK w' r (.slice none 0 0) 0 0 0 from hw'.2 _ _ hk0 rfl).cells
          have z3 := (show Boxed w' (r + 1) 4 (.bool false) from hw'.2 _ _ hk1 rfl).cell
          clear hw' hk0 hk1 hlow
          simp [results, Tryz.results166, go_sem, z0, z1, z2, z3]

        case done =>
          rintro D' ys W hD2 hys hI hK
          have hys' : ys = es := hys
          obtain ⟨v, hv, hrow⟩ := hI.row
          obtain ⟨A4, c4, rfl, hc4⟩ := own_slice hrow
          obtain ⟨d0, d1, lo3, hT, hoff, hr3, hek, hkc, hu⟩ := HX.out
          have hall := hI.right
          rw [hys] at hall hrow hc4
          have hgood : GoodC es := ⟨by have := Hk.out.1; omega, by have := Hk.out.1; omega, hall⟩
          have hbody : bodyL es = ((k : Int) :: b).take (u + 1) := by
            rw [hT.2.2, hu, List.take_succ_cons, List.take_left]
            show ((es.length : Nat) : Int) :: _ = _
            rw [hek]
          have hrr : rr = ((k : Int) :: b).drop (u + 1) := by rw [hT.2.2, hu, List.drop_succ_cons, List.drop_left]
          have hun : u + 1 ≤ n := by
            have h1 := congrArg List.length hT.2.2
            rw [List.length_append, ← hu] at h1
            have := Hk.out.2.2.2.2.2.2.2.1
            omega
          have hu60 : u ≤ 60 := by
            rw [hu]
            have := Nu.shortsOf_length hT.1
            rw [hT.2.1] at this
            have := Hk.out.2.2.2.2.2.2.1
            omega
          have hrW : Rd W W.heap.size .u8 (some ⟨bl, off, none⟩) n ((k : Int) :: b) := Hr.out.1.on hI.low hI.low.size
          obtain ⟨E, hE⟩ : ∃ E, E = u + 1 := ⟨_, rfl⟩
          have hwE : IntKind.i64.wrap (1 + (u : Int)) = (E : Int) := by rw [hE]; exact wrap_one (by omega)
          obtain ⟨A6, hrun6, hcut6⟩ := cut_tail8 Tryz.underlying23 hi hz1 (some ⟨bl, off, none⟩) n c E (by omega) hnc
          have hh1 : (E : Int) ≤ (c : Int) := by omega
          obtain ⟨m6, hm6⟩ : ∃ m6, m6 = n - E := ⟨_, rfl⟩
          obtain ⟨c6, hc6⟩ : ∃ c6, c6 = c - E := ⟨_, rfl⟩
          rw [← hm6, ← hc6] at hrun6
          have hrd6 := hcut6 hrW
          rw [← hm6] at hrd6
          have hrd5 := hrW.first (m := E) (by omega)
          rw [hE] at hrd5
          rw [← hbody, ← hE] at hrd5
          rw [hE] at hrd6
          rw [← hrr] at hrd6
          obtain ⟨N, hN⟩ : ∃ N, N = es.length := ⟨_, rfl⟩
          rw [← hN] at hrow hc4
          rw [hys, ← hN] at hv
          have hcut7 : ∀ (w : World) (B : Nat), Rd w B .u8 (some ⟨bl, off, none⟩) n ((k : Int) :: b) → Rd w B .u8 A6 m6 rr := fun w B h => by
            have h1 := hcut6 h
            rw [← hm6, hE, ← hrr] at h1
            exact h1
          have hE60 : E ≤ 61 := by omega
          have hw4 : IntKind.i64.wrap ((E : Int) + 4) = (E : Int) + 4 := by rw [IntKind.wrap_i64] <;> omega
          have HD := Lib.hid (⟨hI, hv, hrow, hgood, hbody, hrr, hrd5, hcut7, hE, hm6, hc6, hK, hD2, hun, hu60, hN, hc4⟩ : _ ∧ _ ∧ _ ∧ _ ∧ _ ∧ _ ∧ _ ∧ _ ∧ _ ∧ _ ∧ _ ∧ _ ∧ _ ∧ _ ∧ _ ∧ _ ∧ _)
          clear hI hv hrow hgood hbody hrr hrd5 hrd6 hE hm6 hc6 hK hD2 hun hu60 hN hc4 hall hrW hcut6 hcut7 d0 d1 lo3 hT hoff hr3 hek hkc hu hys
          gi_wp2_with fail
          refine wpIn_wide.2 ?_
          go_still (by kernel_rfl)
          change Exit.then _ _ Exit.normal _ W.drew
          obtain ⟨Wd, hWd⟩ : ∃ Wd, Wd = W.drew := ⟨_, rfl⟩
          rw [← hWd]
          obtain ⟨hI, hv, hrow, hgood, hbody, hrr, hrd5, hcut7, hE, hm6, hc6, hK, hD2, hun, hu60, hN, hc4⟩ := HD.out
          have hd := Hd4.out
          have v5 : BoxK Wd r (.slice A4 N c4) 0 0 0 := by rw [hWd]; exact hv
          have h15 : Boxed Wd (r + 1) 4 (.bool true) := by rw [hWd]; exact hI.r1
          have row5 : Wd.ownsRow sB 41 3 (.slice A4 N c4) N (es.flatMap EnP.cs) := by rw [hWd]; exact hrow
          have lo5 : Below w.heap.size w Wd := by rw [hWd]; exact hI.low.drew
          have K5 : Wd.heap[D']? = some (.deferred (some [])) := by rw [hWd]; exact hK
          have hsz5 : sB ≤ Wd.heap.size := by rw [hWd]; show sB ≤ W.heap.size; have := hI.size; omega
          have rd5 : Rd Wd Wd.heap.size .u8 (some ⟨bl, off, none⟩) E (bodyL es) := by rw [hWd]; exact hrd5
          have H5 := Lib.hid (⟨v5, h15, row5, lo5, K5, rd5, hsz5⟩ : _ ∧ _ ∧ _ ∧ _ ∧ _ ∧ _ ∧ _)
          clear v5 h15 row5 lo5 K5 rd5 hsz5 hWd hI hv hrow hgood hbody hrr hrd5 hcut7 hE hm6 hc6 hK hD2 hun hu60 hN hc4 hd
          gi_wp2_with fail
          refine ⟨trivial, ?_⟩
          refine (callsIn_wide.2 (Ga.chain_one (c := c) Wd Wd.heap.size 23 rfl Hr.out.2.1 H5.out.2.2.2.2.2.1 (body_byt HD.out.2.2.2.1) (by omega))).mono ?_
          rintro e w7 ⟨⟨xe, ye, rfl, hpt⟩, hb7⟩
          have v7 := H5.out.1.below hb7
          obtain ⟨z0, z1, z2⟩ := v7.cells
          have f2' := v7.frozen 2
          obtain ⟨w8, hw8⟩ : ∃ w8, w8 = w7.setCell ⟨r, 2, none⟩ (.complex .f64 xe ye) := ⟨_, rfl⟩
          have v8 : BoxK w8 r (.slice A4 N c4) 0 xe ye := by rw [hw8]; exact v7.s2 _ _
          have h18 : Boxed w8 (r + 1) 4 (.bool true) := by rw [hw8]; exact Boxed.other_i ((hb7.block _ H5.out.2.1.lt).trans H5.out.2.1) (by omega) _
          have row8 : w8.ownsRow sB 41 3 (.slice A4 N c4) N (es.flatMap EnP.cs) := by rw [hw8]; exact own_setK v7 (own_keepTw H5.out.2.2.1 hb7) _
          have lo8 : Below w.heap.size w w8 := by rw [hw8]; exact (H5.out.2.2.2.1.trans (hb7.mono H5.out.2.2.2.1.size)).setCell (p := ⟨r, 2, none⟩) hlo _
          have K8 : w8.heap[D']? = some (.deferred (some [])) := by
            rw [hw8]
            refine (Below.heap_setCell _ _ _ D' ?_).trans ((hb7.block _ (Array.getElem?_eq_some_iff.1 H5.out.2.2.2.2.1).1).trans H5.out.2.2.2.2.1)
            have := HD.out.2.2.2.2.2.2.2.2.2.2.2.2.1
            have := Hd4.out
            show D' ≠ r
            omega
          obtain ⟨a0, a1, a2, a3, h4⟩ : ∃ a0 a1 a2 a3, Ga.bytesP (endP p es) = [a0, a1, a2, a3] := ⟨_, _, _, _, rfl⟩
          have H8 := Lib.hid (⟨v8, h18, row8, lo8, K8, hpt, h4⟩ : _ ∧ _ ∧ _ ∧ _ ∧ _ ∧ _ ∧ _)
          obtain ⟨y0, y1, y2⟩ := v8.cells
          rw [hw8] at y0 y1 y2
          clear v7 v8 h18 row8 lo8 K8 hpt h4 hb7
          gi_wp2_with fail
          rw [← hw8]
          clear hw8 y0 y1 y2 z0 z1 z2 f2'
          refine ⟨trivial, ?_⟩
          refine (callsIn_wide.2 (Ga.bytes_out w8 H8.out.2.2.2.2.2.1 H8.out.2.2.2.2.2.2)).mono ?_
          rintro e w9 ⟨rfl, hb9⟩
          obtain ⟨w10, hw10⟩ : ∃ w10, w10 = w9.alloc (.cells #[.int .u8 a0, .int .u8 a1, .int .u8 a2, .int .u8 a3] 99) := ⟨_, rfl⟩
          obtain ⟨v8, h18, row8, lo8, K8, hpt, h4⟩ := H8.out
          have hb10 : Below w8.heap.size w8 w10 := by rw [hw10]; exact hb9.alloc hb9.size _
          have v10 := v8.below hb10
          have h110 : Boxed w10 (r + 1) 4 (.bool true) := (hb10.block _ h18.lt).trans h18
          have row10 := own_keepTw row8 hb10
          have lo10 := lo8.trans (hb10.mono lo8.size)
          have K10 : w10.heap[D']? = some (.deferred (some [])) := (hb10.block _ (Array.getElem?_eq_some_iff.1 K8).1).trans K8
          have rd4 : Rd w10 w10.heap.size .u8 (some ⟨w9.heap.size, 0, none⟩) 4 (Ga.bytesP (endP p es)) := by rw [h4, hw10]; exact Rd.made w9 .u8 99 [a0, a1, a2, a3] rfl
          have hrd6 := HD.out.2.2.2.2.2.2.2.1 w10 w10.heap.size (Hr.out.1.on lo10 lo10.size)
          have H10 := Lib.hid (⟨v10, h110, row10, lo10, K10, rd4, hrd6, hpt⟩ : _ ∧ _ ∧ _ ∧ _ ∧ _ ∧ _ ∧ _ ∧ _)
          clear v8 h18 row8 lo8 K8 hpt h4 hb9 hb10 v10 h110 row10 lo10 K10 rd4 hrd6
          gi_wp2_with fail
          rw [← hw10]
          clear hw10
          refine ⟨trivial, ?_⟩
          refine (callsIn_wide.2 (prefix_any A6 _ m6 4 c6 4 rr (Ga.bytesP (endP p es)) w10 H10.out.2.2.2.2.2.2.1 H10.out.2.2.2.2.2.1 (by rw [HD.out.2.2.2.2.2.1]; exact Hr.out.2.2.1.drop _) (bytesP_byt (endP_in Hr.out.2.2.2.2 es)) (by have := HD.out.2.2.2.2.2.2.2.2.2.1; have := HD.out.2.2.2.2.2.2.2.2.2.2.1; omega))).mono ?_
          rintro e w11 ⟨rfl, rfl⟩
          obtain ⟨v10, h110, row10, lo10, K10, rd4, hrd6, hpt⟩ := H10.out
          obtain ⟨z0, z1, z2⟩ := v10.cells
          have f0 := v10.frozen 0
          have f1' := v10.frozen 1
          have f2' := v10.frozen 2
          have q1' := h110.cell
          have g1' := h110.frozen
          cases hbg : beginsB rr (Ga.bytesP (endP p es)) with
          | false =>
            have Hbg := Lib.hid hbg
            clear v10 h110 row10 lo10 K10 rd4 hrd6 hpt hbg
            gi_wp2_with fail
            obtain ⟨v10, h110, row10, lo10, K10, rd4, hrd6, hpt⟩ := H10.out
            have hno : NoBlock p ((k : Int) :: b) := by
              obtain ⟨-, -, -, hT, -, -, hek, -, -⟩ := HX.out
              intro l' hB
              obtain ⟨hg, hxl, r', hT', s, hs⟩ := block_take.1 hB
              rw [show l'.length = k by omega, ← Hk.out.2.2.2.2.2.1] at hT'
              obtain ⟨h, h'⟩ := hT.same hT'
              have h := nums_inj h
              rw [h', h, begins_iff.2 ⟨s, hs⟩] at Hbg
              exact absurd Hbg.out (by simp)
            have hk0 : BoxK ((putK w11 r (.slice none 0 0) 0 0 0).setCell ⟨r + 1, 0, none⟩ (.bool false)) r (.slice none 0 0) 0 0 0 := (putK_box v10 _ _ _ _).other (by omega) _ _
            have hk1 : Boxed ((putK w11 r (.slice none 0 0) 0 0 0).setCell ⟨r + 1, 0, none⟩ (.bool false)) (r + 1) 4 (.bool false) := (putK_boxed h110 (by omega) _ _ _ _).set _
            have hlow : Below w.heap.size w ((putK w11 r (.slice none 0 0) 0 0 0).setCell ⟨r + 1, 0, none⟩ (.bool false)) := (putK_below hlo _ _ _ _ lo10).setCell (p := ⟨r + 1, 0, none⟩) (by show w.heap.size ≤ r + 1; omega) _
            have hDr : r + 1 < D' ∧ w.heap.size ≤ D' := by
              have := HD.out.2.2.2.2.2.2.2.2.2.2.2.2.1
              have := Hd4.out
              omega
            have hK : ((putK w11 r (.slice none 0 0) 0 0 0).setCell ⟨r + 1, 0, none⟩ (.bool false)).heap[D']? = some (.deferred (some [])) := (Below.heap_setCell _ _ _ D' (by show D' ≠ r + 1; omega)).trans (putK_obj _ _ _ _ K10 (by omega))
            clear z0 z1 z2 f0 f1' f2' q1' g1' v10 h110 row10 lo10 K10 rd4 hrd6 hpt
            refine leaves_marks (B := w.heap.size) [D'] _ ⟨by simp, fun d hd' => (by obtain rfl : d = D' := (by simpa using hd'); exact ⟨by omega, hK⟩)⟩ fun w' hw' => ⟨.tuple #[.agg #[.slice none 0 0, .int .i64 0, .complex .f64 0 0], .bool false], ?_, .inr ⟨hno, rfl⟩, hlow.trans hw'.1⟩
            obtain ⟨z0, z1, z2⟩ := (show BoxK w' r (.slice none 0 0) 0 0 0 from hw'.2 _ _ hk0 rfl).cells
            have z3 := (show Boxed w' (r + 1) 4 (.bool false) from hw'.2 _ _ hk1 rfl).cell
            clear hw' hk0 hk1 hlow
            simp [results, Tryz.results166, go_sem, z0, z1, z2, z3]

          | true =>
            have Hbg := Lib.hid hbg
            obtain ⟨x1, hx1⟩ : ∃ x, x = w11.setCell ⟨r, 1, none⟩ (.int .i64 ((E : Int) + 4)) := ⟨_, rfl⟩
            have v11 : BoxK x1 r (.slice A4 N c4) ((E : Int) + 4) xe ye := by rw [hx1]; exact v10.s1 _
            have h111 : Boxed x1 (r + 1) 4 (.bool true) := by rw [hx1]; exact Boxed.other_i h110 (by omega) _
            obtain ⟨s0, s1, s2⟩ := v11.cells
            have t0 := v11.frozen 0
            have t1 := v11.frozen 1
            have t2 := v11.frozen 2
            have b1c := h111.cell
            have b1f := h111.frozen
            have row11 : x1.ownsRow sB 41 3 (.slice A4 N c4) N (es.flatMap EnP.cs) := by rw [hx1]; exact own_setK v10 row10 _
            have lo11 : Below w.heap.size w x1 := by rw [hx1]; exact lo10.setCell (p := ⟨r, 1, none⟩) hlo _
            have hDr : r + 1 < D' ∧ w.heap.size ≤ D' := by
              have := HD.out.2.2.2.2.2.2.2.2.2.2.2.2.1
              have := Hd4.out
              omega
            have K11 : x1.heap[D']? = some (.deferred (some [])) := by rw [hx1]; exact (Below.heap_setCell _ _ _ D' (by show D' ≠ r; omega)).trans K10
            have H11 := Lib.hid (⟨v11, h111, row11, lo11, K11, hpt⟩ : _ ∧ _ ∧ _ ∧ _ ∧ _ ∧ _)
            rw [hx1] at s0 s1 s2 t0 t1 t2 b1c b1f
            clear v10 h110 row10 lo10 K10 rd4 hrd6 hpt hbg
            clear v11 h111 row11 lo11 K11
            clear z0 z2 f0 f2' q1' g1'
            gi_wp2_with fail
            rw [← hx1]
            clear hx1 s0 s1 s2 t0 t1 t2 b1c b1f z1 f1'
            obtain ⟨v11, h111, row11, lo11, K11, hpt⟩ := H11.out
            have hB : BlockAt p ((k : Int) :: b) es ∧ (blockL p es).length = E + 4 := by
              obtain ⟨-, -, -, hT, -, -, hek, -, hu⟩ := HX.out
              obtain ⟨s, hs⟩ := begins_iff.1 Hbg.out
              refine ⟨block_take.2 ⟨HD.out.2.2.2.1, by rw [hek], rr, ?_, s, hs⟩, ?_⟩
              · rw [hek, ← Hk.out.2.2.2.2.2.1]; exact hT
              · rw [block_length, ← hu, HD.out.2.2.2.2.2.2.2.2.1]; omega
            have hNn : N = es.length := HD.out.2.2.2.2.2.2.2.2.2.2.2.2.2.2.2.1
            have hcc : N ≤ c4 := HD.out.2.2.2.2.2.2.2.2.2.2.2.2.2.2.2.2
            have hk0 : BoxK ((putK x1 r (.slice A4 N c4) ((E : Int) + 4) xe ye).setCell ⟨r + 1, 0, none⟩ (.bool true)) r (.slice A4 N c4) ((E : Int) + 4) xe ye := (putK_box v11 _ _ _ _).other (by omega) _ _
            have hk1 : Boxed ((putK x1 r (.slice A4 N c4) ((E : Int) + 4) xe ye).setCell ⟨r + 1, 0, none⟩ (.bool true)) (r + 1) 4 (.bool true) := (putK_boxed h111 (by omega) _ _ _ _).set _
            have hlow : Below w.heap.size w ((putK x1 r (.slice A4 N c4) ((E : Int) + 4) xe ye).setCell ⟨r + 1, 0, none⟩ (.bool true)) := (putK_below hlo _ _ _ _ lo11).setCell (p := ⟨r + 1, 0, none⟩) (by show w.heap.size ≤ r + 1; omega) _
            have hK : ((putK x1 r (.slice A4 N c4) ((E : Int) + 4) xe ye).setCell ⟨r + 1, 0, none⟩ (.bool true)).heap[D']? = some (.deferred (some [])) := (Below.heap_setCell _ _ _ D' (by show D' ≠ r + 1; omega)).trans (putK_obj _ _ _ _ K11 (by omega))
            have hrw : ((putK x1 r (.slice A4 N c4) ((E : Int) + 4) xe ye).setCell ⟨r + 1, 0, none⟩ (.bool true)).ownsRow sB 41 3 (.slice A4 N c4) N (es.flatMap EnP.cs) := by
              have r1 := own_setK v11 row11 (i := 0) (.slice A4 N c4)
              have r2 := own_setK (v11.s0 (.slice A4 N c4)) r1 (i := 1) (.int .i64 ((E : Int) + 4))
              have r3 := own_setK ((v11.s0 (.slice A4 N c4)).s1 ((E : Int) + 4)) r2 (i := 2) (.complex .f64 xe ye)
              exact r3.kept (grownBy_setCell' _ (r + 1) _) (.inr ((putK_boxed h111 (by omega) _ _ _ _).not_row (by decide) r3).symm)
            refine leaves_marks (B := w.heap.size) [D'] _ ⟨by simp, fun d hd' => (by obtain rfl : d = D' := (by simpa using hd'); exact ⟨by omega, hK⟩)⟩ fun w' hw' => ⟨.tuple #[.agg #[.slice A4 N c4, .int .i64 ((E : Int) + 4), .complex .f64 xe ye], .bool true], ?_, .inl ⟨es, A4, c4, E + 4, xe, ye, hB.1, ?_, hB.2.symm, ?_, ?_, hpt⟩, hlow.trans hw'.1⟩
            · obtain ⟨z0, z1, z2⟩ := (show BoxK w' r _ _ xe ye from hw'.2 _ _ hk0 rfl).cells
              have z3 := (show Boxed w' (r + 1) 4 (.bool true) from hw'.2 _ _ hk1 rfl).cell
              clear hw' hk0 hk1 hlow hK hrw v11 h111 row11 lo11 K11 hpt hB hNn hcc HD HX H5 H8 H10 H11 Hbg Hk HB HC Hr Hd4 H0 hrun6 hrun1 hi hz0 hz1 hz2 hj hy0 hy1 hy2 hw4 hwE hcv hm3
              simp [results, Tryz.results166, go_sem, z0, z1, z2, z3]
            · rw [← hNn]; rfl
            · rw [← hNn]; exact hcc
            · rw [← hNn]
              exact Row.of_own (by decide) EnP.len (own_marksTw hrw hw')
      · obtain ⟨x3, hx3⟩ : ∃ x3, x3 = w2.setCell ⟨r + 1, 0, none⟩ (.bool false) := ⟨_, rfl⟩
        have d1 : Boxed x3 (r + 1) 4 (.bool false) := by rw [hx3]; exact b1.set _
        have d0 : BoxK x3 r (.slice none 0 0) 0 0 0 := by rw [hx3]; exact b0.other (by omega) _ _
        have lo3 : Below w.heap.size w x3 := by rw [hx3]; exact lo2.setCell (p := ⟨r + 1, 0, none⟩) (by show w.heap.size ≤ r + 1; omega) _
        have e3 : x3.cell? ⟨bl, off, none⟩ = some (.int .u8 (k : Int)) := by
          rw [hx3, cell_set_ne (by have := HC.out.2; show bl ≠ r + 1; omega)]; exact c2
        have f1 := b1.frozen
        have q1 := b1.cell
        have HX := Lib.hid (⟨d0, d1, lo3, hT⟩ : _ ∧ _ ∧ _ ∧ _)
        refine ⟨_, rfl, c2, fun hHeld => ?_⟩
        simp only [List.set_cons_succ, List.set_cons_zero]
        clear d0 d1 lo3 hT b0 lo2 hb2 hb2' c2
        refine take_at (i := 8) (d := 28) (oi := ?o9) (v := ?v9) ?hi9 ?hd9 (by kernel_rfl) (by kernel_rfl) (by kernel_rfl) ?hw9 ?hy9 ?hq9 (by assumption) ?r9
        case hi9 => (simp only [List.getElem?_toArray, List.getElem?_cons_succ, List.getElem?_cons_zero]; rfl)
        case hd9 => rfl
        case hw9 => rfl
        case hy9 => ((intro w hSw; (try dsimp only at hSw); go_simp) <;> (with_reducible rfl))
        case hq9 => exact fun _ _ _ h => h
        simp only [List.set_cons_succ, List.set_cons_zero]
        refine take_at (i := 9) (d := 37) (oi := ?o10) (v := ?v10) ?hi10 ?hd10 (by kernel_rfl) (by kernel_rfl) (by kernel_rfl) ?hw10 ?hy10 ?hq10 (by assumption) ?r10
        case hi10 => (simp only [List.getElem?_toArray, List.getElem?_cons_succ, List.getElem?_cons_zero]; rfl)
        case hd10 => rfl
        case hw10 => rfl
        case hy10 => ((intro w hSw; (try dsimp only at hSw); go_simp) <;> (with_reducible rfl))
        case hq10 => exact fun _ _ _ h => h
        simp only [List.set_cons_succ, List.set_cons_zero]
        refine take_at (i := 10) (d := 38) (oi := ?o11) (v := ?v11) ?hi11 ?hd11 (by kernel_rfl) (by kernel_rfl) (by kernel_rfl) ?hw11 ?hy11 ?hq11 (by assumption) ?r11
        case hi11 => (simp only [List.getElem?_toArray, List.getElem?_cons_succ, List.getElem?_cons_zero]; rfl)
        case hd11 => rfl
        case hw11 => rfl
        case hy11 => ((intro w hSw; (try dsimp only at hSw); go_simp) <;> (with_reducible rfl))
        case hq11 => exact fun _ _ _ h => h
        simp only [List.set_cons_succ, List.set_cons_zero]
        refine take_at (i := 11) (d := 39) (oi := ?o12) (v := ?v12) ?hi12 ?hd12 (by kernel_rfl) (by kernel_rfl) (by kernel_rfl) ?hw12 ?hy12 ?hq12 (by assumption) ?r12
        case hi12 => (simp only [List.getElem?_toArray, List.getElem?_cons_succ, List.getElem?_cons_zero]; rfl)
        case hd12 => rfl
        case hw12 => rfl
        case hy12 => ((intro w hSw; (try dsimp only at hSw); go_simp) <;> (with_reducible rfl))
        case hq12 => exact fun _ _ _ h => h
        simp only [List.set_cons_succ, List.set_cons_zero]
        refine take_at (i := 12) (d := 6) (oi := ?o13) (v := ?v13) ?hi13 ?hd13 (by kernel_rfl) (by kernel_rfl) (by kernel_rfl) ?hw13 ?hy13 ?hq13 (by assumption) ?r13
        case hi13 => (simp only [List.getElem?_toArray, List.getElem?_cons_succ, List.getElem?_cons_zero]; rfl)
        case hd13 => rfl
        case hw13 => rfl
        case hy13 => ((intro w hSw; (try dsimp only at hSw); go_simp) <;> (with_reducible rfl))
        case hq13 => exact fun _ _ _ h => h
        simp only [List.set_cons_succ, List.set_cons_zero]
        refine take_at (i := 13) (d := 7) (oi := ?o14) (v := ?v14) ?hi14 ?hd14 (by kernel_rfl) (by kernel_rfl) (by kernel_rfl) ?hw14 ?hy14 ?hq14 (by assumption) ?r14
        case hi14 => (simp only [List.getElem?_toArray, List.getElem?_cons_succ, List.getElem?_cons_zero]; rfl)
        case hd14 => rfl
        case hw14 => rfl
        case hy14 => ((intro w hSw; (try dsimp only at hSw); go_simp) <;> (with_reducible rfl))
        case hq14 => exact fun _ _ _ h => h
        simp only [List.set_cons_succ, List.set_cons_zero]
        refine wpAnyH_ready (rs := [14]) (by kernel_rfl) (by simp) ?_
        refine br_store (i := 14) (oi := ?o15) (w' := x3) ?hi15 ?hd15 ?hw15 ?he15 e3 ?hc15
        case hi15 => (simp only [List.getElem?_toArray, List.getElem?_cons_succ, List.getElem?_cons_zero]; rfl)
        case hd15 => rfl
        case hw15 => rfl
        case he15 => (rw [hx3]; clear hx3; go_simp)
        intro hHeld
        refine wpAnyH_done (by kernel_rfl) ?_ _
        refine NoPanic.normal ?_
        obtain ⟨d0, d1, lo3, hT⟩ := HX.out
        have hno : NoBlock p ((k : Int) :: b) := by
          intro l' hB
          obtain ⟨hg, hxl, r', hT', _⟩ := block_take.1 hB
          refine hT (numsL l') r' ?_
          rw [Hk.out.2.2.2.2.2.1, show k = l'.length by omega]
          exact hT'
        obtain ⟨k0, k1, k2⟩ := d0.cells
        have f0 := d0.frozen 0
        have f10 := d0.frozen 1
        have f20 := d0.frozen 2
        have q1' := d1.cell
        have g1' := d1.frozen
        clear q1 f1 b1 hx3 e3 hHeld
        have HX2 := Lib.hid (⟨d0, d1, lo3, hno⟩ : _ ∧ _ ∧ _ ∧ _)
        clear d0 d1 lo3 hno hT
        gi_wp2_with fail
        obtain ⟨d0, d1, lo3, hno⟩ := HX2.out
        have hk0 : BoxK ((putK x3 r (.slice none 0 0) 0 0 0).setCell ⟨r + 1, 0, none⟩ (.bool false)) r (.slice none 0 0) 0 0 0 := (putK_box d0 _ _ _ _).other (by omega) _ _
        have hk1 : Boxed ((putK x3 r (.slice none 0 0) 0 0 0).setCell ⟨r + 1, 0, none⟩ (.bool false)) (r + 1) 4 (.bool false) := (putK_boxed d1 (by omega) _ _ _ _).set _
        have hlow : Below w.heap.size w ((putK x3 r (.slice none 0 0) 0 0 0).setCell ⟨r + 1, 0, none⟩ (.bool false)) := (putK_below hlo _ _ _ _ lo3).setCell (p := ⟨r + 1, 0, none⟩) (by show w.heap.size ≤ r + 1; omega) _
        clear k0 k1 k2 f0 f10 f20 q1' g1' HX2
        refine leaves_marks (B := w.heap.size) [] _ ⟨List.nodup_nil, fun d hd => by cases hd⟩ fun w' hw' => ⟨.tuple #[.agg #[.slice none 0 0, .int .i64 0, .complex .f64 0 0], .bool false], ?_, .inr ⟨hno, rfl⟩, hlow.trans hw'.1⟩
        obtain ⟨z0, z1, z2⟩ := (show BoxK w' r (.slice none 0 0) 0 0 0 from hw'.2 _ _ hk0 rfl).cells
        have z3 := (show Boxed w' (r + 1) 4 (.bool false) from hw'.2 _ _ hk1 rfl).cell
        clear hw' hk0 hk1 hlow
        simp [results, Tryz.results166, go_sem, z0, z1, z2, z3]
    · have hno : NoBlock p ((k : Int) :: b) := by
        intro l' hB
        obtain ⟨hg, hxl, _⟩ := block_take.1 hB
        exact hk ⟨by have := hg.1; omega, by have := hg.2.1; omega⟩
      have hcase : k = 0 ∨ (¬ k = 0 ∧ (4 : Int) < (k : Int) ∧ 4 < k ∧ ((k : Int) == 0) = false) := by
        by_cases h : k = 0
        · exact .inl h
        · exact .inr ⟨h, by omega, by omega, by simp; omega⟩
      clear hcell hbl hx0 hl hk c0w hr
      rw [HB.out.2.2.2.1] at HC
      have c0' := HC.out.1
      rcases hcase with h0 | ⟨h0, h1, h2, h3⟩
      · subst h0
        have c0'' : World.cell? _ ⟨bl, off, none⟩ = some (.int .u8 0) := c0'
        clear c0'
        gi_wp2_with fail
        rw [← HB.out.2.2.2.1]
        refine leaves_marks (B := w.heap.size) [] w0 ⟨List.nodup_nil, fun d hd => by cases hd⟩ fun w' hw' => ⟨.tuple #[.agg #[.slice none 0 0, .int .i64 0, .complex .f64 0 0], .bool false], ?_, .inr ⟨hno, rfl⟩, HB.out.1.trans hw'.1⟩
        obtain ⟨z0, z1, z2⟩ := (show BoxK w' w.heap.size (.slice none 0 0) 0 0 0 from HB.out.2.2.2.2.1 ▸ hw'.2 _ _ HB.out.2.1 rfl).cells
        have z3 := (show Boxed w' (w.heap.size + 1) 4 (.bool false) from HB.out.2.2.2.2.1 ▸ hw'.2 _ _ HB.out.2.2.1 rfl).cell
        clear hw'
        simp [results, Tryz.results166, go_sem, z0, z1, z2, z3]
      · gi_wp2_with fail
        rw [← HB.out.2.2.2.1]
        refine leaves_marks (B := w.heap.size) [] w0 ⟨List.nodup_nil, fun d hd => by cases hd⟩ fun w' hw' => ⟨.tuple #[.agg #[.slice none 0 0, .int .i64 0, .complex .f64 0 0], .bool false], ?_, .inr ⟨hno, rfl⟩, HB.out.1.trans hw'.1⟩
        obtain ⟨z0, z1, z2⟩ := (show BoxK w' w.heap.size (.slice none 0 0) 0 0 0 from HB.out.2.2.2.2.1 ▸ hw'.2 _ _ HB.out.2.1 rfl).cells
        have z3 := (show Boxed w' (w.heap.size + 1) 4 (.bool false) from HB.out.2.2.2.2.1 ▸ hw'.2 _ _ HB.out.2.2.1 rfl).cell
        clear hw'
        simp [results, Tryz.results166, go_sem, z0, z1, z2, z3]

theorem blockOf_any {x y : Nat} {p : Int × Int} (A : Option Addr) (n c : Nat) (b : List Int) (w : World) (hp : Ga.From x y p) (hpin : Ga.InP p) (hr : Rd w w.heap.size .u8 A n b) (hb : Byt b) (hnc : n ≤ c) (hn : n ≤ 1000000000) :
    Calls Tryz.prog 166 #[.complex .f64 x y, .slice A n c] w (BofT w p b) := callsIn_wide.1 (blockOf_in A n c b w hp hpin hr hb hnc hn)

end Go.Proofs.YtcpdjhkpmaamdaaGreat
