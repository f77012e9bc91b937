/-
  snap.pieces and its iterator, which itself ranges over a function: their contracts.
-/
import Derived.Test.YtdggacabjlengaaDoorSnapP
import Derived.Test.YtdggacabjlengaaDoorRangeN
import Derived.Test.YtdggacabjlengaaDoorStillIn
namespace Go.Proofs.YtdggacabjlengaaDoor
open Go.RowKit Go.Shelf
set_option linter.unusedVariables false

attribute [local go_sem] Oper.semAt_some Ga.run_store_complex

/-- Boxes of these types are kept. -/
def Keep4 (t : TypeId) : Prop := t = 24 ∨ t = 3 ∨ t = 71 ∨ t = 54
/-- Those of the pieces' pieces. -/
def Keep2 (t : TypeId) : Prop := t = 24 ∨ t = 3
theorem point_not : ¬ Keep2 54 := by unfold Keep2; decide
theorem byte_not : ¬ Keep4 5 := by unfold Keep4; decide

/-- What a round must leave alone: what lies below B0, but for one block; boxes of these types from S on. -/
structure KpI (T : TypeId → Prop) (B0 r S : Nat) (A A' : World) : Prop where
  low : ∀ k, k < B0 → k ≠ r → A'.heap[k]? = A.heap[k]?
  box : ∀ (k : Nat) (c : Array Value) (t : TypeId) (fr : Nat × Nat), S ≤ k → A.heap[k]? = some (Obj.cells c t fr) → T t → A'.heap[k]? = some (Obj.cells c t fr)
  size : A.heap.size ≤ A'.heap.size
theorem KpI.refl (T : TypeId → Prop) (B0 r S : Nat) (A : World) : KpI T B0 r S A A := ⟨fun _ _ _ => rfl, fun _ _ _ _ _ h _ => h, Nat.le_refl _⟩
theorem KpI.trans {T : TypeId → Prop} {B0 r S : Nat} {A A' A'' : World} (h : KpI T B0 r S A A') (h' : KpI T B0 r S A' A'') : KpI T B0 r S A A'' :=
  ⟨fun k hk h1 => (h'.low k hk h1).trans (h.low k hk h1), fun k c t fr hS ho ht => h'.box k c t fr hS (h.box k c t fr hS ho ht) ht, Nat.le_trans h.size h'.size⟩
theorem KpI.below {T : TypeId → Prop} {B0 r S : Nat} {A A' : World} (h : Below A.heap.size A A') (hB : B0 ≤ A.heap.size) : KpI T B0 r S A A' :=
  ⟨fun k hk _ => h.block k (by omega), fun k c t fr _ ho _ => (h.block k (Array.getElem?_eq_some_iff.1 ho).1).trans ho, h.size⟩
theorem KpI.drew (T : TypeId → Prop) (B0 r S : Nat) (A : World) : KpI T B0 r S A A.drew := ⟨fun _ _ _ => rfl, fun _ _ _ _ _ h _ => h, Nat.le_refl _⟩
theorem KpI.put {T : TypeId → Prop} {B0 r S l : Nat} (hB : B0 ≤ l) (W : World) (o o' : Obj) (h : W.heap[l]? = some o) (hc : o.isCells = false) : KpI T B0 r S W (W.putObj l o') :=
  ⟨fun k hk _ => World.putObj_heap_other (by omega), fun k c t fr _ ho _ => (World.putObj_heap_other (by
    rintro rfl
    rw [h] at ho
    cases ho
    cases hc)).trans ho, (grownBy_putObj' W l o').size⟩
/-- A store into the one block. -/
theorem KpI.set {T : TypeId → Prop} {B0 r S i : Nat} (hS : r < S) (W : World) (v : Value) : KpI T B0 r S W (W.setCell ⟨r, i, none⟩ v) := by
  have other : ∀ k, k ≠ r → (W.setCell ⟨r, i, none⟩ v).heap[k]? = W.heap[k]? := fun k hk => Below.heap_setCell _ _ _ k (by simpa using hk)
  refine ⟨fun k hk h1 => other k h1, fun k c' t' fr' hk ho ht' => (other k (by omega)).trans ho, ?_⟩
  have h := (Below.refl 0 W).setCell (p := ⟨r, i, none⟩) (Nat.zero_le _) v
  exact h.size
theorem KpI.grown {T : TypeId → Prop} {B0 r S : Nat} {W W' : World} {base size k : Nat} {e : TypeId} {v : Value} {xs : List Value} (hr : W.ownsRow base e size v k xs) (hb : B0 ≤ base) (he : ¬ T e) (hB : B0 ≤ W.heap.size) (hg : W.grownBy W' v.ownBlock) : KpI T B0 r S W W' := by
  have row : ∀ j, v.ownBlock = some j → base ≤ j ∧ ∃ cur fr, W.heap[j]? = some (.cells cur e fr) := fun j ej => by
    rcases hr.2 with ⟨rfl, _⟩ | ⟨g, cap, cur, rfl, hbg, hgb, _⟩
    · simp [Value.ownBlock] at ej
    · obtain rfl : g = j := by simpa [Value.ownBlock] using ej
      exact ⟨hbg, cur, _, hgb⟩
  refine ⟨fun j hj _ => hg.block j (by omega) (fun e => by have := (row j e.symm).1; omega), fun j c t fr _ ho ht => (hg.block j (Array.getElem?_eq_some_iff.1 ho).1 (fun e' => ?_)).trans ho, hg.size⟩
  obtain ⟨_, cur, fr', h⟩ := row j e'.symm
  rw [h] at ho
  cases ho
  exact he ht
/-- Cells of another type are turned. -/
theorem KpI.turn {T : TypeId → Prop} {B0 r S b : Nat} {W W' : World} {c : Array Value} {t : TypeId} {fr : Nat × Nat} (hg : W.grownBy W' (some b)) (hb : W.heap[b]? = some (.cells c t fr)) (hB : B0 ≤ b) (hB0 : B0 ≤ W.heap.size) (ht : ¬ T t) : KpI T B0 r S W W' :=
  ⟨fun k hk _ => hg.block k (by omega) (fun e => by cases e; omega), fun k c' t' fr' _ ho ht' => (hg.block k (Array.getElem?_eq_some_iff.1 ho).1 (fun e => by
    cases e
    rw [hb] at ho
    cases ho
    exact ht ht')).trans ho, hg.size⟩
theorem KpI.shift {T : TypeId → Prop} {B0 r S S' : Nat} {A A' : World} (h : KpI T B0 r S A A') (hS : S ≤ S') : KpI T B0 r S' A A' := ⟨h.low, fun k c t fr hk ho ht => h.box k c t fr (by omega) ho ht, h.size⟩
theorem KpI.less {T T' : TypeId → Prop} {B0 r S : Nat} {A A' : World} (h : KpI T B0 r S A A') (hT : ∀ t, T' t → T t) : KpI T' B0 r S A A' := ⟨h.low, fun k c t fr hS ho ht => h.box k c t fr hS ho (hT t ht), h.size⟩
/-- .. and what is no cells from S on. -/
def KpN (B0 r S : Nat) (A A' : World) : Prop := KpI Keep4 B0 r S A A' ∧ KeepsFrom S A A'
theorem KpN.trans {B0 r S : Nat} {A A' A'' : World} (h : KpN B0 r S A A') (h' : KpN B0 r S A' A'') : KpN B0 r S A A'' := ⟨h.1.trans h'.1, h.2.trans h'.2⟩
theorem KpN.put {B0 r S l : Nat} (hB : B0 ≤ l) (hl : l < S) (W : World) (o o' : Obj) (h : W.heap[l]? = some o) (hc : o.isCells = false) (_ : o.isWalk = false) : KpN B0 r S W (W.putObj l o') := ⟨KpI.put hB W o o' h hc, keeps_put hl⟩
theorem rd_kpi {T : TypeId → Prop} {w w' : World} {B0 r S n : Nat} {k : IntKind} {A : Option Addr} {l : List Int} (h : Rd w r k A n l) (hr : r ≤ B0) (hk : KpI T B0 r S w w') : Rd w' r k A n l := rd_low h fun j hj => hk.low j (by omega) (by omega)
theorem rd_put {W : World} {i : Nat} {o o' : Obj} (hi : W.heap[i]? = some o) (ho : o.isCells = false) {k : IntKind} {A : Option Addr} {n : Nat} {l : List Int} (h : Rd W W.heap.size k A n l) : Rd (W.putObj i o') (W.putObj i o').heap.size k A n l :=
  ⟨h.1, fun hn => by
    obtain ⟨b, off, e, hlt, hc⟩ := h.2 hn
    refine ⟨b, off, e, by have := (grownBy_putObj' W i o').size; omega, fun j hj => ?_⟩
    have hne : b ≠ i := by
      rintro rfl
      have h1 := hc j hj
      unfold World.cell? at h1
      rw [show W.heap[b]? = _ from hi] at h1
      cases o <;> simp [Obj.isCells] at ho h1
    exact (World.cell?_of_block (a := ⟨b, off + j, none⟩) (World.putObj_heap_other (by omega))).trans (hc j hj)⟩

/-- Leaving with one mark. -/
theorem leaves_one {P : Program} {F : Fence} {m : Nat} {fn : Func} {tmps : Array Value} {R : Ending → World → Prop} {d : Nat} {w : World} (h : w.heap[d]? = some (.deferred (some [])))
    (hres : ∃ v, (results fn tmps).run P (w.putObj d (.deferred none)) = .ok v (w.putObj d (.deferred none)) ∧ R (.returned v) (w.putObj d (.deferred none))) : LeavesInM F m P fn tmps R ([d].map mark) .returning w :=
  ⟨by simp, .inl ⟨d, _, rfl, run_takeDeferred h, hres⟩⟩

/-- A piece, as it is handed over, with the point behind it. -/
structure HP where
  A : Option Addr
  n : Nat
  l : List Int
  u : Nat
  v : Nat
abbrev encP (x : HP) : Array Value := #[.slice x.A x.n x.n, .complex .f64 x.u x.v]
/-- What is told of it. -/
def OkP (l : List Int) (pre : List HP) (x : HP) (W : World) : Prop :=
  chunks 4 l = pre.map HP.l ++ x.l :: chunks 4 (l.drop (4 * (pre.length + 1))) ∧ x.l = (l.drop (4 * pre.length)).take 4 ∧ l.drop (4 * pre.length) ≠ [] ∧ x.n = x.l.length ∧ Rd W W.heap.size .u8 x.A x.n x.l ∧ Ga.Pt x.u x.v (pcsE (0, 0) (pre.map HP.l ++ [x.l]))

/-- Between two rounds of the pieces. -/
structure EI (J : List HP → World → Prop) (y z D1 l0 : Nat) (pre : List HJ) (W : World) : Prop where
  j : ∃ p : List HP, pre.map HJ.l = p.map HP.l ∧ J p W
  y : Boxed W y 71 (.func (.yield l0) #[] #[])
  z : ∃ u v, Boxed W z 54 (.complex .f64 u v) ∧ Ga.Pt u v (pcsE (0, 0) (pre.map HJ.l))
  size : D1 ≤ W.heap.size
theorem EI.own {J : List HP → World → Prop} {y z D1 l0 S : Nat} (hJ : OwnT 54 S J) (hS : S ≤ D1) (hy : y < D1) (hz : z < D1) : OwnT 54 D1 (EI J y z D1 l0) := fun _ W W' row h hg hr => by
  obtain ⟨⟨p, hp, hj⟩, hb, ⟨u, v, hb2, hpt⟩, hsz⟩ := h
  have hne : ∀ k, k < D1 → some k ≠ row := fun k hk e => by have := (hr k e.symm).1; omega
  exact ⟨⟨p, hp, hJ _ _ _ _ hj hg fun r e => ⟨by have := (hr r e).1; omega, (hr r e).2⟩⟩, (hg.block y hb.lt (hne _ hy)).trans hb, ⟨u, v, (hg.block z hb2.lt (hne _ hz)).trans hb2, hpt⟩, Nat.le_trans hsz hg.size⟩

set_option maxRecDepth 100000 in
set_option maxHeartbeats 2000000 in
theorem pcs_in (l0 s B0 r : Nat) {A : Option Addr} {n c : Nat} {l : List Int} (hn : n ≤ 1000000000) (hnc : n ≤ c) (hb : Byt l) (J Jx : List HP → World → Prop) (W : World) (hJ : OwnT 54 W.heap.size J) (hJx : OwnT 54 W.heap.size Jx)
    (hY : ∀ pre x W1, J pre W1 → OkP l pre x W1 → YieldAt Fence.wide 3 Tryd.prog l0 (encP x) W1 fun e W' =>
      (e = .returned (.bool true) ∧ J (pre ++ [x]) W' ∧ KpN B0 r W.heap.size W1 W') ∨ (e = .returned (.bool false) ∧ Jx (pre ++ [x]) W' ∧ KeepsFrom W.heap.size W1 W'))
    (hs : Boxed W s 24 (.slice A n c)) (hr : Rd W r .u8 A n l) (hrB : r < B0) (hB0 : B0 ≤ W.heap.size) (h0 : J [] W) :
    CallsIn Fence.wide 4 Tryd.prog 52 #[.func (.yield l0) #[] #[], .pointer (some ⟨s, 0, none⟩)] W fun e W' => (∃ v, e = .returned v) ∧
      ((∃ ys : List HP, ys.map HP.l = chunks 4 l ∧ J ys W') ∨ (∃ pre, Jx pre W')) := by
  have Hr := Lib.hid (⟨hr, hB0, h0, hrB, hb⟩ : _ ∧ _ ∧ _ ∧ _ ∧ _)
  have Hst := Lib.hid hJ
  have HJx := Lib.hid hJx
  have HY := Lib.hid hY
  clear hr hB0 hJ hJx hY h0 hrB hb
  refine callsIn_of_wp_marks Tryd.func52 rfl trivial ?_ rfl
  simp only [Tryd.ntmps52, List.size_toArray, List.length_cons, List.length_nil, Nat.reduceAdd, Nat.reduceSub, Array.replicate_succ, Array.replicate_zero, List.push_toArray, List.append_toArray, List.nil_append, List.cons_append]
  obtain ⟨y, hy⟩ : ∃ y, y = W.heap.size := ⟨_, rfl⟩
  obtain ⟨w0, hw0⟩ : ∃ w0, w0 = W.alloc (.cells #[.func (.yield l0) #[] #[]] 71) := ⟨_, rfl⟩
  have hs0 : w0.heap.size = y + 1 := by rw [hw0, hy]; simp
  have by0 : Boxed w0 y 71 (.func (.yield l0) #[] #[]) := by rw [hw0, hy]; exact Boxed.new _ _ _
  have hB0' : Below W.heap.size W w0 := by rw [hw0]; exact (Below.refl _ _).alloc (Nat.le_refl _) _
  obtain ⟨w1, hw1⟩ : ∃ w1, w1 = w0.alloc (.cells #[.complex .f64 0 0] 54) := ⟨_, rfl⟩
  have hs1 : w1.heap.size = y + 2 := by rw [hw1]; simp [hs0]
  have bz1 : Boxed w1 (y + 1) 54 (.complex .f64 0 0) := by rw [hw1, ← hs0]; exact Boxed.new _ _ _
  have by1 : Boxed w1 y 71 (.func (.yield l0) #[] #[]) := by rw [hw1]; exact by0.alloc _
  have hB1 : Below W.heap.size W w1 := by rw [hw1]; exact hB0'.alloc hB0'.size _
  have bs1 : Boxed w1 s 24 (.slice A n c) := (hB1.block _ hs.lt).trans hs
  have cs1 := bs1.cell
  have HE := Lib.hid (⟨(show w1 = (W.alloc (.cells #[.func (.yield l0) #[] #[]] 71)).alloc (.cells #[.complex .f64 0 0] 54) by rw [hw1, hw0]), hy, hs1, by1, hB1, bz1⟩ : _ ∧ _ ∧ _ ∧ _ ∧ _ ∧ _)
  rw [hw1, hw0] at cs1
  clear hw1 hw0 hy hs1 by1 hB1 bs1 hs hs0 by0 hB0' bz1
  gi_wp2_with fail
  rw [← HE.out.1, ← HE.out.2.1]
  refine ⟨trivial, ?_⟩
  refine (callsIn_wide.2 (chunkJ_any 4 (by omega) A n c w1)).mono ?_
  rintro e w2 ⟨rfl, hl2, hk2, hs2, hb2⟩
  obtain ⟨hw1, hy, hs1, by1, hB1, bz1⟩ := HE.out
  obtain ⟨D, hD⟩ : ∃ D, D = w1.heap.size := ⟨_, rfl⟩
  rw [← hD] at hl2 hk2 ⊢
  have hB2 := hB1.trans (hb2.mono hB1.size)
  have by2 := (hb2.block _ by1.lt).trans by1
  have bz2 := (hb2.block _ bz1.lt).trans bz1
  have hI0 : EI J y (y + 1) w2.heap.size l0 [] w2 := ⟨⟨[], rfl, Hst.out _ _ _ none Hr.out.2.2.1 (grown_of hB2) (fun r e => by cases e)⟩, by2, ⟨0, 0, bz2, Ga.pt_lit rfl rfl (by omega) (by omega)⟩, Nat.le_refl _⟩
  have Hd := Lib.hid (show W.heap.size = y ∧ D = y + 2 ∧ w2.heap.size = D + 2 by omega)
  have H0 := Lib.hid (⟨hI0, hl2, hk2, rd_low Hr.out.1 (w' := w2) (fun k hk => hB2.block k (by have := Hr.out.2.1; have := Hr.out.2.2.2.1; omega))⟩ : _ ∧ _ ∧ _ ∧ _)
  clear hI0 hl2 hk2 hs2 hb2 hB1 hB2 by1 by2 bz1 bz2 hs1 hw1 hy hD cs1
  gi_wp2_with fail
  refine range_W 54 rfl (by decide) (gf := 67) (lb := #[.pointer (some ⟨D, 0, none⟩), .pointer (some ⟨D + 1, 0, none⟩)]) rfl trivial (enters_of Tryd.func67 (by kernel_rfl) rfl)
    (chunkJ_seq 4 (by omega) (by omega) D (KpI Keep2 B0 r y) (fun A A' h b t v hbD ht hb => h.box b _ _ _ (by have := Hd.out; omega) hb ht) (fun _ _ _ h h' => h.trans h') (KpI.drew Keep2 B0 r y) (KpI.refl Keep2 B0 r y) hn hnc w2 H0.out.2.1 H0.out.2.2.1 (fun W1 W' hW hk => by
      have h1 : Rd W' r .u8 A n l := rd_kpi (rd_low H0.out.2.2.2 fun k hk => hW.block k (by have := Hd.out; have := Hr.out.2.1; have := Hr.out.2.2.2.1; omega)) (by have := Hr.out.2.2.2.1; omega) hk
      exact h1.on (Below.refl _ _) (by have := hW.size; have := hk.size; have := Hd.out; have := Hr.out.2.1; have := Hr.out.2.2.2.1; omega))) (fun h h' => h.trans h') (fun W' l o o' hl h1 h2 _ => KpI.put (by have := Hd.out; have := Hr.out.2.1; omega) W' o o' h1 h2) (Below.refl _ _) (fun _ => rfl)
    (EI J y (y + 1) w2.heap.size l0) (fun c (pre : List HJ) W' => c = Code.ret ∧ ∃ p, Jx p W') (EI.own Hst.out (by have := Hd.out; omega) (by have := Hd.out; omega) (by have := Hd.out; omega))
    (fun c s W1 W2 row h hg hr => ⟨h.1, h.2.imp fun p hp => HJx.out _ _ _ _ hp hg fun r e => ⟨by have := (hr r e).1; have := Hd.out; omega, (hr r e).2⟩⟩) H0.out.1
    (fun d a' W' => Rd W' W'.heap.size .u8 d.A d.n d.l ∧ a' = { tmps := #[.func (.yield l0) #[] #[], .pointer (some ⟨s, 0, none⟩), .pointer (some ⟨y, 0, none⟩), .pointer (some ⟨y + 1, 0, none⟩), .slice d.A d.n d.n, .slice A n c, .func (.func 67) #[] #[.pointer (some ⟨D, 0, none⟩), .pointer (some ⟨D + 1, 0, none⟩)], .slice d.A d.n d.n, undef, undef, undef, undef, undef, undef, undef, undef, undef], defers := [] })
    (fun _ _ _ _ _ _ h hi ho => ⟨rd_put hi ho h.1, h.2⟩) ?assign ?body ?done ?stop
  case assign =>
    intro lp pre d W' hI hok
    gi_wp2
    exact ⟨KeepsFrom.refl _ _, KpI.refl _ _ _ _ _, hI, hok.2.2.2.2, by first | rfl | trivial⟩
  case body =>
    rintro lp pre d a' W' hI ⟨hrd, rfl⟩ ⟨_, hch, hdl, hne, hdn, _⟩
    obtain ⟨dA, dn, dl⟩ := d
    dsimp only at hrd hch hdl hne hdn
    dsimp only
    obtain ⟨u, v, hz, hpt⟩ := hI.z
    have cz := hz.cell
    have hdn4 : dn ≤ 4 := by rw [hdn, hdl, List.length_take]; omega
    have hdb : Byt dl := by rw [hdl]; exact (Hr.out.2.2.2.2.drop _).take _
    have HI := Lib.hid (⟨hI, hrd, hch, hdl, hne, hdn, hpt, hz, hdb⟩ : _ ∧ _ ∧ _ ∧ _ ∧ _ ∧ _ ∧ _ ∧ _ ∧ _)
    clear hI hrd hch hdl hne hdn hpt hz hdb
    gi_wp2_with fail
    refine ⟨trivial, ?_⟩
    refine (callsIn_wide.2 (Ga.chain_one W' _ _ rfl (.inl HI.out.2.2.2.2.2.2.1) HI.out.2.1 HI.out.2.2.2.2.2.2.2.2 (by omega))).mono ?_
    rintro e w3 ⟨⟨u3, v3, rfl, hpt3⟩, hb3⟩
    obtain ⟨hI, hrd, hch, hdl, hne, hdn, hpt, hz, hdb⟩ := HI.out
    have hd := Hd.out
    have hz3 : Boxed w3 (y + 1) 54 (.complex .f64 u v) := (hb3.block _ hz.lt).trans hz
    have hy3 : Boxed w3 y 71 (.func (.yield l0) #[] #[]) := (hb3.block _ hI.y.lt).trans hI.y
    obtain ⟨w4, hw4⟩ : ∃ w4, w4 = w3.setCell ⟨y + 1, 0, none⟩ (.complex .f64 u3 v3) := ⟨_, rfl⟩
    have hz4 : Boxed w4 (y + 1) 54 (.complex .f64 u3 v3) := by rw [hw4]; exact hz3.set _
    have hy4 : Boxed w4 y 71 (.func (.yield l0) #[] #[]) := by rw [hw4]; exact hy3.other (by omega) _
    have g34 : w3.grownBy w4 (some (y + 1)) := by rw [hw4]; exact grownBy_setCell' _ _ _
    obtain ⟨p, hp, hj⟩ := hI.j
    have hj3 : J p w3 := Hst.out _ _ _ none hj (grown_of hb3) (fun r e => by cases e)
    have hj4 : J p w4 := Hst.out _ _ _ _ hj3 g34 (fun r e => by cases e; exact ⟨by omega, _, hz3, .inr ⟨_, _, rfl⟩⟩)
    have hs4 : w4.heap.size = w3.heap.size := by rw [hw4]; simp
    have hlow : KpI Keep2 B0 r y W' w4 := by
      have k1 : KpI Keep2 B0 r y W' w3 := KpI.below hb3 (by have := hI.size; have := Hr.out.2.1; omega)
      exact k1.trans (KpI.turn g34 hz3 (by have := Hr.out.2.1; omega) (by have := Hr.out.2.1; have := hb3.size; have := hI.size; omega) point_not)
    have hkf : KeepsFrom w2.heap.size W' w4 := (KeepsFrom.of_grownBy (grown_of hb3) (fun k e => by cases e)).trans (KeepsFrom.of_grownBy g34 (fun k e => by cases e; have := hI.size; have := hb3.size; omega))
    have hrd4 : Rd w4 w4.heap.size .u8 dA dn dl := by
      refine ⟨hrd.1, fun h0 => ?_⟩
      obtain ⟨b, off, e, hlt, hc⟩ := hrd.2 h0
      have hbz : b ≠ y + 1 := by
        rintro rfl
        have h1 := hc 0 h0
        rw [cell_of_row _ _ _ _ _ _ hz] at h1
        cases off <;> simp at h1
      exact ⟨b, off, e, by have := hb3.size; omega, fun i hi => (World.cell?_of_block (a := ⟨b, off + i, none⟩) ((g34.block b (by have := hb3.size; omega) (fun e => by cases e; exact hbz rfl)).trans (hb3.block b hlt))).trans (hc i hi)⟩
    have hpl : pre.length = p.length := by have := congrArg List.length hp; simpa using this
    obtain ⟨fn, tmps, assign, body, hyy, hR⟩ := HY.out p ⟨dA, dn, dl, u3, v3⟩ w4 hj4 ⟨by rw [← hp, ← hpl]; exact hch, by rw [← hpl]; exact hdl, by rw [← hpl]; exact hne, hdn, hrd4, by rw [← hp, pcsE_snoc]; exact hpt3⟩
    have H4 := Lib.hid (⟨hI, hp, hlow, hkf, hz4, hy4, hpt3⟩ : _ ∧ _ ∧ _ ∧ _ ∧ _ ∧ _ ∧ _)
    have cz3 := hz3.cell
    have fz3 := hz3.frozen
    have cz4 := hz4.cell
    have cy4 := hy4.cell
    rw [hw4] at cz4 cy4 hyy
    have Hw4 := Lib.hid hw4
    dsimp only [encP] at hyy
    clear hI hp hj hj3 hj4 hch hdl hne hrd hrd4 hpt hpt3 hz hdb hz3 hy3 hz4 hy4 g34 hs4 hlow hkf hb3 hdn hw4 cz hpl hd
    gi_wp2_with fail
    rw [← Hw4.out]
    refine (round_any hR).mono ?_
    rintro e' W3 (⟨rfl, hJ3, hk3⟩ | ⟨rfl, hJx3, hk3⟩)
    · have H5 := Lib.hid (⟨hJ3, hk3⟩ : _ ∧ _)
      clear hJ3 hk3 cz3 fz3 cz4 cy4 hyy hR
      gi_wp2_with fail
      obtain ⟨hI, hp, hlow, hkf, hz4, hy4, hpt3⟩ := H4.out
      obtain ⟨hJ3, hk3⟩ := H5.out
      have hd := Hd.out
      have y3 : Boxed W3 y 71 _ := hk3.1.box _ _ _ _ (by omega) hy4 (.inr (.inr (.inl rfl)))
      have z3 : Boxed W3 (y + 1) 54 _ := hk3.1.box _ _ _ _ (by omega) hz4 (.inr (.inr (.inr rfl)))
      have k5 := hkf.trans (keeps_more (B' := w2.heap.size) hk3.2 (by omega))
      have k6 := hlow.trans ((KpI.shift hk3.1 (by omega)).less (T' := Keep2) fun t ht => ht.imp id .inl)
      refine ⟨⟨k5.size, k5.same⟩, ⟨k6.low, k6.box, k6.size⟩, ⟨⟨p ++ [⟨dA, dn, dl, u3, v3⟩], by simp [hp], hJ3⟩, y3, ⟨u3, v3, z3, by rw [List.map_append, List.map_cons, List.map_nil, pcsE_snoc]; exact hpt3⟩, Nat.le_trans hI.size k6.size⟩⟩
    · have H5 := Lib.hid (⟨hJx3, hk3⟩ : _ ∧ _)
      clear hJx3 hk3 cz3 fz3 cz4 cy4 hyy hR
      gi_wp2_with fail
      have hd := Hd.out
      have k5 := H4.out.2.2.2.1.trans (keeps_more (B' := w2.heap.size) H5.out.2 (by omega))
      exact ⟨⟨k5.size, k5.same⟩, rfl, _, H5.out.1⟩
  case stop =>
    rintro D' cc pre W' hD2 ⟨rfl, hI⟩ hK
    have HI := Lib.hid (⟨hI, hK, hD2⟩ : _ ∧ _ ∧ _)
    clear hI hK hD2
    gi_wp2_with fail
    have hd := Hd.out
    obtain ⟨⟨p, hp⟩, hK, hD2⟩ := HI.out
    refine leaves_one hK ⟨_, results_none rfl _ _ _, ⟨_, rfl⟩, .inr ⟨p, HJx.out.put _ hp (by omega) hK rfl⟩⟩
  case done =>
    rintro D' ys W' hD2 hys hI hK
    have HI := Lib.hid (⟨hI, hK, hD2, hys⟩ : _ ∧ _ ∧ _ ∧ _)
    clear hI hK hD2 hys
    gi_wp2_with fail
    have hd := Hd.out
    obtain ⟨hI, hK, hD2, hys⟩ := HI.out
    obtain ⟨p, hp, hj⟩ := hI.j
    rw [hys] at hp
    refine leaves_one hK ⟨_, results_none rfl _ _ _, ⟨_, rfl⟩, .inl ⟨p, hp.symm, Hst.out.put _ hj (by omega) hK rfl⟩⟩

/-- The iterator's contract. -/
theorem pcs_seq (s B0 r : Nat) {A : Option Addr} {n c : Nat} {l : List Int} (hn : n ≤ 1000000000) (hnc : n ≤ c) (hb : Byt l) (w : World) (hB : B0 ≤ w.heap.size) (hs : Boxed w s 24 (.slice A n c)) (hr : Rd w r .u8 A n l) (hrB : r < B0) :
    SeqN 54 Fence.wide 4 Tryd.prog 52 #[.pointer (some ⟨s, 0, none⟩)] encP (KpN B0 r) (fun ys => ys.map HP.l = chunks 4 l) (OkP l) w := fun l0 J Jx W hW hJ hJx hY h0 =>
  pcs_in l0 s B0 r hn hnc hb J Jx W hJ hJx hY ((hW.block s hs.lt).trans hs) (rd_low hr fun k hk => hW.block k (by omega)) hrB (Nat.le_trans hB hW.size) h0

/-- What pieces answers. -/
def PcsOut (A : Option Addr) (n c : Nat) (w : World) (e : Ending) (w' : World) : Prop :=
  e = .returned (.func (.func 52) #[] #[.pointer (some ⟨w.heap.size, 0, none⟩)]) ∧ Boxed w' w.heap.size 24 (.slice A n c) ∧ w'.heap.size = w.heap.size + 1 ∧ Below w.heap.size w w'
set_option maxRecDepth 100000 in
set_option maxHeartbeats 400000 in
theorem pieces_any (A : Option Addr) (n c : Nat) (w : World) : Calls Tryd.prog 30 #[.slice A n c] w (PcsOut A n c w) := by
  go_enter Tryd.func30, Tryd.ntmps30
  go_wp2
  go_ret
  exact ⟨rfl, Boxed.new w _ _, by simp, (Below.refl _ w).alloc (Nat.le_refl _) _⟩


end Go.Proofs.YtdggacabjlengaaDoor
