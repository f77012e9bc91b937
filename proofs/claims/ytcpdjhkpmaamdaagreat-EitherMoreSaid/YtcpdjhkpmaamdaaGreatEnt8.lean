/-
  two.entries and its iterator, which itself ranges over a function: their contracts.
-/
import Derived.Test.YtcpdjhkpmaamdaaGreatTake8
import Derived.Test.YtcpdjhkpmaamdaaGreatStillIn
import Derived.Test.YtcpdjhkpmaamdaaGreatChunkJ
namespace Go.Proofs.YtcpdjhkpmaamdaaGreat
open Go.RowKit Go.Shelf
set_option linter.unusedVariables false

attribute [local go_sem] Oper.semAt_some

theorem chunks_nums (es : List EnP) : chunks 3 (numsL es) = es.map nums := by
  induction es with
  | nil => exact chunks_nil 3
  | cons e es ih =>
    rw [chunks_cons (by rw [nums_cons]; simp) (by omega)]
    show (numsL (e :: es)).take 3 :: chunks 3 ((numsL (e :: es)).drop 3) = _
    rw [nums_cons]
    simp only [List.take_succ_cons, List.take_zero, List.drop_succ_cons, List.drop_zero, ih]
    rfl
theorem nums_eq {e f : EnP} (h : nums e = nums f) : e = f := by
  have h1 : numsL [e] = numsL [f] := by simpa [numsL] using h
  simpa using nums_inj h1
theorem map_nums {l m : List EnP} (h : l.map nums = m.map nums) : l = m := by
  induction l generalizing m with
  | nil => cases m with | nil => rfl | cons _ _ => cases h
  | cons e l ih =>
    cases m with
    | nil => cases h
    | cons f m =>
      simp only [List.map_cons, List.cons.injEq] at h
      rw [nums_eq h.1, ih h.2]

/-- What a round must leave alone: what lies below B0, but for two blocks; boxes of these types. -/
structure KpI (B0 r : Nat) (A A' : World) : Prop where
  low : ∀ k, k < B0 → k ≠ r → k ≠ r + 1 → A'.heap[k]? = A.heap[k]?
  box : ∀ (k : Nat) (c : Array Value) (t : TypeId) (fr : Nat × Nat), A.heap[k]? = some (Obj.cells c t fr) → Keep3 t → A'.heap[k]? = some (Obj.cells c t fr)
  size : A.heap.size ≤ A'.heap.size
theorem KpI.refl (B0 r : Nat) (A : World) : KpI B0 r A A := ⟨fun _ _ _ _ => rfl, fun _ _ _ _ h _ => h, Nat.le_refl _⟩
theorem KpI.trans {B0 r : Nat} {A A' A'' : World} (h : KpI B0 r A A') (h' : KpI B0 r A' A'') : KpI B0 r A A'' :=
  ⟨fun k hk h1 h2 => (h'.low k hk h1 h2).trans (h.low k hk h1 h2), fun k c t fr ho ht => h'.box k c t fr (h.box k c t fr ho ht) ht, Nat.le_trans h.size h'.size⟩
theorem KpI.below {B0 r : Nat} {A A' : World} (h : Below A.heap.size A A') (hB : B0 ≤ A.heap.size) : KpI B0 r A A' :=
  ⟨fun k hk _ _ => h.block k (by omega), fun k c t fr ho _ => (h.block k (Array.getElem?_eq_some_iff.1 ho).1).trans ho, h.size⟩
theorem KpI.drew (B0 r : Nat) (A : World) : KpI B0 r A A.drew := ⟨fun _ _ _ _ => rfl, fun _ _ _ _ h _ => h, Nat.le_refl _⟩
theorem KpI.put {B0 r l : Nat} (hB : B0 ≤ l) (W : World) (o o' : Obj) (h : W.heap[l]? = some o) (hc : o.isCells = false) : KpI B0 r W (W.putObj l o') :=
  ⟨fun k hk _ _ => World.putObj_heap_other (by omega), fun k c t fr ho _ => (World.putObj_heap_other (by
    rintro rfl
    rw [h] at ho
    cases ho
    cases hc)).trans ho, (grownBy_putObj' W l o').size⟩
theorem KpI.set {B0 r b i : Nat} (hB : B0 ≤ b ∨ b = r ∨ b = r + 1) (W : World) (v : Value) {c : Array Value} {t : TypeId} {fr : Nat × Nat} (hb : W.heap[b]? = some (.cells c t fr)) (ht : ¬ Keep3 t) : KpI B0 r W (W.setCell ⟨b, i, none⟩ v) := by
  have other : ∀ k, k ≠ b → (W.setCell ⟨b, i, none⟩ v).heap[k]? = W.heap[k]? := fun k hk => Below.heap_setCell _ _ _ k (by simpa using hk)
  refine ⟨fun k hk h1 h2 => other k (by omega), fun k c' t' fr' ho ht' => (other k ?_).trans ho, ?_⟩
  · rintro rfl
    rw [hb] at ho
    cases ho
    exact ht ht'
  · have h := (Below.refl 0 W).setCell (p := ⟨b, i, none⟩) (Nat.zero_le _) v
    exact h.size
theorem KpI.grown {B0 r : Nat} {W W' : World} {base size k : Nat} {e : TypeId} {v : Value} {xs : List Value} (hr : W.ownsRow base e size v k xs) (hb : B0 ≤ base) (he : ¬ Keep3 e) (hB : B0 ≤ W.heap.size) (hg : W.grownBy W' v.ownBlock) : KpI B0 r W W' := by
  have row : ∀ j, v.ownBlock = some j → base ≤ j ∧ ∃ cur fr, W.heap[j]? = some (.cells cur e fr) := fun j ej => by
    rcases hr.2 with ⟨rfl, _⟩ | ⟨g, cap, cur, rfl, hbg, hgb, _⟩
    · simp [Value.ownBlock] at ej
    · obtain rfl : g = j := by simpa [Value.ownBlock] using ej
      exact ⟨hbg, cur, _, hgb⟩
  refine ⟨fun j hj _ _ => hg.block j (by omega) (fun e => by have := (row j e.symm).1; omega), fun j c t fr ho ht => (hg.block j (Array.getElem?_eq_some_iff.1 ho).1 (fun e' => ?_)).trans ho, hg.size⟩
  obtain ⟨_, cur, fr', h⟩ := row j e'.symm
  rw [h] at ho
  cases ho
  exact he ht
/-- .. and what is no cells from S on. -/
def KpN (B0 r S : Nat) (A A' : World) : Prop := KpI B0 r A A' ∧ KeepsFrom S A A'
theorem KpN.trans {B0 r S : Nat} {A A' A'' : World} (h : KpN B0 r S A A') (h' : KpN B0 r S A' A'') : KpN B0 r S A A'' := ⟨h.1.trans h'.1, h.2.trans h'.2⟩
theorem KpN.put {B0 r S l : Nat} (hB : B0 ≤ l) (hl : l < S) (W : World) (o o' : Obj) (h : W.heap[l]? = some o) (hc : o.isCells = false) (_ : o.isWalk = false) : KpN B0 r S W (W.putObj l o') := ⟨KpI.put hB W o o' h hc, keeps_put hl⟩

/-- Leaving with one mark. -/
theorem leaves_one {P : Program} {F : Fence} {m : Nat} {fn : Func} {tmps : Array Value} {R : Ending → World → Prop} {d : Nat} {w : World} (h : w.heap[d]? = some (.deferred (some [])))
    (hres : ∃ v, (results fn tmps).run P (w.putObj d (.deferred none)) = .ok v (w.putObj d (.deferred none)) ∧ R (.returned v) (w.putObj d (.deferred none))) : LeavesInM F m P fn tmps R ([d].map mark) .returning w :=
  ⟨by simp, .inl ⟨d, _, rfl, run_takeDeferred h, hres⟩⟩
/-- An entry, as it is handed over. -/
abbrev encNTw (e : EnP) : Array Value := #[.agg #[.int .i64 e.tm, .int .i64 e.kd, .int .i64 e.vl]]
def OkE (es : List EnP) (pre : List EnP) (x : EnP) (_ : World) : Prop := es[pre.length]? = some x

/-- Between two rounds of the pieces. -/
structure EI (J : List EnP → World → Prop) (y D1 l0 : Nat) (pre : List HJ) (W : World) : Prop where
  j : ∃ p : List EnP, pre.map HJ.l = p.map nums ∧ J p W
  y : Boxed W y 39 (.func (.yield l0) #[] #[])
  size : D1 ≤ W.heap.size
theorem EI.own {J : List EnP → World → Prop} {y D1 l0 S : Nat} (hJ : OwnT 9 S J) (hS : S ≤ D1) (hy : y < D1) : OwnT 9 D1 (EI J y D1 l0) := fun _ W W' row h hg hr => by
  obtain ⟨⟨p, hp, hj⟩, hb, hsz⟩ := h
  have hne : ∀ k, k < D1 → some k ≠ row := fun k hk e => by have := (hr k e.symm).1; omega
  exact ⟨⟨p, hp, hJ _ _ _ _ hj hg fun r e => ⟨by have := (hr r e).1; omega, (hr r e).2⟩⟩, (hg.block y hb.lt (hne _ hy)).trans hb, Nat.le_trans hsz hg.size⟩
/-- A row lies apart from the two blocks. -/
def Off (A : Option Addr) (r : Nat) : Prop := ∀ b o, A = some ⟨b, o, none⟩ → b ≠ r ∧ b ≠ r + 1
theorem rd_off {w w' : World} {B0 r n : Nat} {k : IntKind} {A : Option Addr} {l : List Int} (h : Rd w B0 k A n l) (ho : Off A r) (hk : KpI B0 r w w') : Rd w' B0 k A n l :=
  ⟨h.1, fun hn => by
    obtain ⟨b, off, e, hlt, hc⟩ := h.2 hn
    obtain ⟨h1, h2⟩ := ho b off e
    exact ⟨b, off, e, hlt, fun i hi => (World.cell?_of_block (a := ⟨b, off + i, none⟩) (hk.low b hlt h1 h2)).trans (hc i hi)⟩⟩

set_option maxRecDepth 100000 in
set_option maxHeartbeats 2000000 in
theorem entries_inTw (l0 s B0 r : Nat) {A : Option Addr} {n c : Nat} {es : List EnP} (hn : n ≤ 1000000000) (hnc : n ≤ c) (J Jx : List EnP → World → Prop) (W : World) (hJ : OwnT 9 W.heap.size J) (hJx : OwnT 9 W.heap.size Jx)
    (hY : ∀ pre x W1, J pre W1 → OkE es pre x W1 → YieldAt Fence.wide 3 Tryz.prog l0 (encNTw x) W1 fun e W' =>
      (e = .returned (.bool true) ∧ J (pre ++ [x]) W' ∧ KpN B0 r W.heap.size W1 W') ∨ (e = .returned (.bool false) ∧ Jx (pre ++ [x]) W' ∧ KeepsFrom W.heap.size W1 W'))
    (hs : Boxed W s 80 (.slice A n c)) (hr : Rd W B0 .i64 A n (numsL es)) (ho : Off A r) (hB0 : B0 ≤ W.heap.size) (h0 : J [] W) :
    CallsIn Fence.wide 4 Tryz.prog 173 #[.func (.yield l0) #[] #[], .pointer (some ⟨s, 0, none⟩)] W fun e W' => (∃ v, e = .returned v) ∧
      ((∃ ys : List EnP, ys = es ∧ J ys W') ∨ (∃ pre, Jx pre W')) := by
  have Hr := Lib.hid (⟨hr, hB0, h0, ho⟩ : _ ∧ _ ∧ _ ∧ _)
  have Hst := Lib.hid hJ
  have HJx := Lib.hid hJx
  have HY := Lib.hid hY
  clear hr hB0 hJ hJx hY h0 ho
  refine callsIn_of_wp_marks Tryz.func173 rfl trivial ?_ rfl
  simp only [Tryz.ntmps173, List.size_toArray, List.length_cons, List.length_nil, Nat.reduceAdd, Nat.reduceSub, Array.replicate_succ, Array.replicate_zero, List.push_toArray, List.append_toArray, List.nil_append, List.cons_append]
  obtain ⟨y, hy⟩ : ∃ y, y = W.heap.size := ⟨_, rfl⟩
  obtain ⟨w1, hw1⟩ : ∃ w1, w1 = W.alloc (.cells #[.func (.yield l0) #[] #[]] 39) := ⟨_, rfl⟩
  have hs1 : w1.heap.size = y + 1 := by rw [hw1, hy]; simp
  have by1 : Boxed w1 y 39 (.func (.yield l0) #[] #[]) := by rw [hw1, hy]; exact Boxed.new _ _ _
  have hB1 : Below W.heap.size W w1 := by rw [hw1]; exact (Below.refl _ _).alloc (Nat.le_refl _) _
  have bs1 : Boxed w1 s 80 (.slice A n c) := (hB1.block _ hs.lt).trans hs
  have cs1 := bs1.cell
  have HE := Lib.hid (⟨hw1, hy, hs1, by1, hB1⟩ : _ ∧ _ ∧ _ ∧ _ ∧ _)
  rw [hw1] at cs1
  clear hw1 hy hs1 by1 hB1 bs1 hs
  gi_wp2_with fail
  rw [← HE.out.1, ← HE.out.2.1]
  refine ⟨trivial, ?_⟩
  refine (callsIn_wide.2 (chunkJ_any A n c w1)).mono ?_
  rintro e w2 ⟨rfl, hl2, hk2, hs2, hb2⟩
  obtain ⟨hw1, hy, hs1, by1, hB1⟩ := HE.out
  obtain ⟨D, hD⟩ : ∃ D, D = w1.heap.size := ⟨_, rfl⟩
  rw [← hD] at hl2 hk2 ⊢
  have hB2 := hB1.trans (hb2.mono hB1.size)
  have by2 := (hb2.block _ by1.lt).trans by1
  have hI0 : EI J y w2.heap.size l0 [] w2 := ⟨⟨[], rfl, Hst.out _ _ _ none Hr.out.2.2.1 (grown_of hB2) (fun r e => by cases e)⟩, by2, Nat.le_refl _⟩
  have Hd := Lib.hid (show W.heap.size = y ∧ D = y + 1 ∧ w2.heap.size = D + 2 by omega)
  have H0 := Lib.hid (⟨hI0, hl2, hk2, rd_low Hr.out.1 (w' := w2) (fun k hk => hB2.block k (by have := Hr.out.2.1; omega))⟩ : _ ∧ _ ∧ _ ∧ _)
  clear hI0 hl2 hk2 hs2 hb2 hB1 hB2 by1 by2 hs1 hw1 hy hD cs1
  gi_wp2_with fail
  refine range_W 9 rfl (by decide) (gf := 175) (lb := #[.pointer (some ⟨D, 0, none⟩), .pointer (some ⟨D + 1, 0, none⟩)]) rfl trivial (enters_of Tryz.func175 (by kernel_rfl) rfl)
    (chunkJ_seq D (KpI B0 r) (fun A A' h b t v ht hb => h.box b _ _ _ hb ht) (fun _ _ _ h h' => h.trans h') (KpI.drew B0 r) (KpI.refl B0 r) hn hnc w2 H0.out.2.1 H0.out.2.2.1 (fun W1 W' hW hk => by
      have h1 : Rd W' B0 .i64 A n (numsL es) := rd_off (rd_low H0.out.2.2.2 fun k hk => hW.block k (by have := Hd.out; have := Hr.out.2.1; omega)) Hr.out.2.2.2 hk
      exact h1.on (Below.refl _ _) (by have := hW.size; have := hk.size; have := Hd.out; have := Hr.out.2.1; omega))) (fun h h' => h.trans h') (fun W' l o o' hl h1 h2 _ => KpI.put (by have := Hd.out; have := Hr.out.2.1; omega) W' o o' h1 h2) (Below.refl _ _) (fun _ => rfl)
    (EI J y w2.heap.size l0) (fun c (pre : List HJ) W' => c = Code.ret ∧ ∃ p, Jx p W') (EI.own Hst.out (by have := Hd.out; omega) (by have := Hd.out; omega))
    (fun c s W1 W2 row h hg hr => ⟨h.1, h.2.imp fun p hp => HJx.out _ _ _ _ hp hg fun r e => ⟨by have := (hr r e).1; have := Hd.out; omega, (hr r e).2⟩⟩) H0.out.1
    (fun d a' W' => Rd W' W'.heap.size .i64 d.A d.n d.l ∧ a' = { tmps := #[.func (.yield l0) #[] #[], .pointer (some ⟨s, 0, none⟩), .pointer (some ⟨y, 0, none⟩), .slice d.A d.n d.n, .slice A n c, .func (.func 175) #[] #[.pointer (some ⟨D, 0, none⟩), .pointer (some ⟨D + 1, 0, none⟩)], .slice d.A d.n d.n, undef, undef, undef, undef, undef, undef, undef, undef, undef, undef, undef, undef, undef], defers := [] })
    (fun _ _ _ _ _ _ h hi ho => ⟨rd_put hi ho h.1, h.2⟩) ?assign ?body ?done ?stop
  case assign =>
    intro lp pre d W' hI hok
    gi_wp2
    exact ⟨KeepsFrom.refl _ _, KpI.refl _ _ _, hI, hok.2.2.2.2, by first | rfl | trivial⟩
  case body =>
    rintro lp pre d a' W' hI ⟨hrd, rfl⟩ ⟨_, hch, hdl, hne, hdn, _⟩
    obtain ⟨dA, dn, dl⟩ := d
    dsimp only at hrd hch hdl hne hdn
    dsimp only
    obtain ⟨p, hp, hj⟩ := hI.j
    obtain ⟨x, hx, hdx⟩ : ∃ x, es[p.length]? = some x ∧ dl = nums x := by
      rw [chunks_nums, hp] at hch
      have h1 := congrArg (fun z => z[p.length]?) hch
      simp only [List.getElem?_map] at h1
      rw [List.getElem?_append_right (by simp)] at h1
      simp only [List.length_map, Nat.sub_self, List.getElem?_cons_zero] at h1
      cases hx : es[p.length]? with
      | none => rw [hx] at h1; cases h1
      | some x => rw [hx] at h1; exact ⟨x, rfl, by simpa using h1.symm⟩
    have hdn3 : dn = 3 := by rw [hdn, hdx]; rfl
    subst hdn3 hdx
    obtain ⟨b, off, rfl, hbl, hcell⟩ := hrd.at_ (by omega)
    have c0 := hcell 0 (by omega)
    have c1 := hcell 1 (by omega)
    have c2 := hcell 2 (by omega)
    simp only [nums, List.getElem?_cons_zero, List.getElem?_cons_succ, Option.getD_some, Nat.add_zero] at c0 c1 c2
    have cy := hI.y.cell
    have hbd : Below W'.heap.size W' W'.drew := (Below.refl _ _).drew
    obtain ⟨fn, tmps, assign, body, hyy, hR⟩ := HY.out p x W'.drew (Hst.out _ _ _ none hj (grown_of hbd) (fun r e => by cases e)) hx
    have HI := Lib.hid (⟨hI, hp, hbd⟩ : _ ∧ _ ∧ _)
    dsimp only [encNTw] at hyy
    clear hI hp hj hx hch hdl hne hrd hcell hbl hdn hbd
    gi_wp2_with fail
    refine wpIn_region_still_tail 11 (by kernel_rfl) (by kernel_rfl) (by simp) ?_
    simp only [List.take_succ_cons, List.take_zero, List.drop_succ_cons, List.drop_zero]
    repeat still_step
    refine wpStill_nil ?_
    change wpListIn _ _ _ _ _ _ _ W'.drew
    gi_wp2_with fail
    refine (round_any hR).mono ?_
    rintro e' W3 (⟨rfl, hJ3, hk3⟩ | ⟨rfl, hJx3, hk3⟩)
    · have H4 := Lib.hid (⟨hJ3, hk3⟩ : _ ∧ _)
      clear hJ3 hk3 cy c0 c1 c2
      gi_wp2_with fail
      obtain ⟨hI, hp, hbd⟩ := HI.out
      obtain ⟨hJ3, hk3⟩ := H4.out
      have hd := Hd.out
      have y3 : Boxed W3 y 39 _ := hk3.1.box _ _ _ _ (show W'.drew.heap[y]? = _ from hI.y) (.inr (.inr rfl))
      have k5 := keeps_more (B' := w2.heap.size) hk3.2 (by omega)
      refine ⟨⟨k5.size, k5.same⟩, ⟨hk3.1.low, hk3.1.box, hk3.1.size⟩, ⟨⟨p ++ [x], by simp [hp], hJ3⟩, y3, Nat.le_trans hI.size hk3.1.size⟩⟩
    · have H4 := Lib.hid (⟨hJx3, hk3⟩ : _ ∧ _)
      clear hJx3 hk3 cy c0 c1 c2
      gi_wp2_with fail
      have hd := Hd.out
      have k5 := keeps_more (B' := w2.heap.size) H4.out.2 (by omega)
      exact ⟨⟨k5.size, k5.same⟩, rfl, _, H4.out.1⟩
  case stop =>
    rintro D' cc pre W' hD2 ⟨rfl, hI⟩ hK
    have HI := Lib.hid (⟨hI, hK, hD2⟩ : _ ∧ _ ∧ _)
    clear hI hK hD2
    gi_wp2_with fail
    have hd := Hd.out
    obtain ⟨⟨p, hp⟩, hK, hD2⟩ := HI.out
    refine leaves_one hK ⟨_, results_none rfl _ _ _, ⟨_, rfl⟩, .inr ⟨p, HJx.out.put _ hp (by omega) hK rfl⟩⟩
  case done =>
    rintro D' ys W' hD2 hys hI hK
    have HI := Lib.hid (⟨hI, hK, hD2, hys⟩ : _ ∧ _ ∧ _ ∧ _)
    clear hI hK hD2 hys
    gi_wp2_with fail
    have hd := Hd.out
    obtain ⟨hI, hK, hD2, hys⟩ := HI.out
    obtain ⟨p, hp, hj⟩ := hI.j
    rw [hys, chunks_nums] at hp
    refine leaves_one hK ⟨_, results_none rfl _ _ _, ⟨_, rfl⟩, .inl ⟨p, (map_nums hp).symm, Hst.out.put _ hj (by omega) hK rfl⟩⟩

/-- The iterator's contract. -/
theorem entries_seqTw (s B0 r : Nat) {A : Option Addr} {n c : Nat} {es : List EnP} (hn : n ≤ 1000000000) (hnc : n ≤ c) (w : World) (hB : B0 ≤ w.heap.size) (hs : Boxed w s 80 (.slice A n c)) (hr : Rd w B0 .i64 A n (numsL es)) (ho : Off A r) :
    SeqN 9 Fence.wide 4 Tryz.prog 173 #[.pointer (some ⟨s, 0, none⟩)] encNTw (KpN B0 r) (fun ys => ys = es) (OkE es) w := fun l0 J Jx W hW hJ hJx hY h0 =>
  entries_inTw l0 s B0 r hn hnc J Jx W hJ hJx hY ((hW.block s hs.lt).trans hs) (rd_low hr fun k hk => hW.block k (by omega)) ho (Nat.le_trans hB hW.size) h0

/-- What entries answers. -/
def EntsOutTw (A : Option Addr) (n c : Nat) (w : World) (e : Ending) (w' : World) : Prop :=
  e = .returned (.func (.func 173) #[] #[.pointer (some ⟨w.heap.size, 0, none⟩)]) ∧ Boxed w' w.heap.size 80 (.slice A n c) ∧ w'.heap.size = w.heap.size + 1 ∧ Below w.heap.size w w'
set_option maxRecDepth 100000 in
set_option maxHeartbeats 400000 in
theorem entries_anyTw (A : Option Addr) (n c : Nat) (w : World) : Calls Tryz.prog 170 #[.slice A n c] w (EntsOutTw A n c w) := by
  go_enter Tryz.func170, Tryz.ntmps170
  go_wp2
  go_ret
  exact ⟨rfl, Boxed.new w _ _, by simp, (Below.refl _ w).alloc (Nat.le_refl _) _⟩

end Go.Proofs.YtcpdjhkpmaamdaaGreat
