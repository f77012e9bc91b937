/-
  two.blocks and its iterator: their contracts.
-/
import Derived.Test.YtcpdjhkpmaamdaaGreatBof
namespace Go.Proofs.YtcpdjhkpmaamdaaGreat
open Go.RowKit Go.Shelf
set_option linter.unusedVariables false

attribute [local go_sem] Oper.semAt_some Ga.run_store_complex

/-- What a round must leave alone: what lies below B0; the iterator's box. -/
def KpBTw (B0 sB : Nat) (A A' : World) : Prop := (∀ k, k < B0 → A'.heap[k]? = A.heap[k]?) ∧ A'.heap[sB]? = A.heap[sB]? ∧ A.heap.size ≤ A'.heap.size
theorem KpBTw.refl (B0 sB : Nat) (A : World) : KpBTw B0 sB A A := ⟨fun _ _ => rfl, rfl, Nat.le_refl _⟩
theorem KpBTw.trans {B0 sB : Nat} {A A' A'' : World} (h : KpBTw B0 sB A A') (h' : KpBTw B0 sB A' A'') : KpBTw B0 sB A A'' := ⟨fun k hk => (h'.1 k hk).trans (h.1 k hk), h'.2.1.trans h.2.1, Nat.le_trans h.2.2 h'.2.2⟩
theorem KpBTw.below {B0 sB : Nat} {A A' : World} (h : Below A.heap.size A A') (hB : B0 ≤ A.heap.size) (hs : sB < A.heap.size) : KpBTw B0 sB A A' := ⟨fun k hk => h.block k (by omega), h.block sB hs, h.size⟩
theorem KpBTw.put {B0 sB D : Nat} (hB : B0 ≤ D) (hs : sB < D) (W : World) (l : Nat) (o o' : Obj) (hl : D ≤ l) (_ : W.heap[l]? = some o) (_ : o.isCells = false) (_ : o.isWalk = false) : KpBTw B0 sB W (W.putObj l o') :=
  ⟨fun k hk => World.putObj_heap_other (by omega), World.putObj_heap_other (by omega), by have := (grownBy_putObj' W l o').size; omega⟩

/-- A block that is handed over. -/
structure HB where
  A : Option Addr
  c : Nat
  l : List EnP
  m : Nat
  x : Nat
  y : Nat
abbrev encB (d : HB) : Array Value := #[.agg #[.slice d.A d.l.length d.c, .int .i64 d.m, .complex .f64 d.x d.y]]
def csOf (pre : List HB) : List (List EnP) := pre.map HB.l
theorem csOf_snoc (pre : List HB) (d : HB) : csOf (pre ++ [d]) = csOf pre ++ [d.l] := by simp [csOf]
/-- The blocks so far, and what stands behind them. -/
structure SoFar (p : Int × Int) (b : List Int) (pre : List HB) : Prop where
  good : Good (csOf pre)
  bytes : b = blksL p (csOf pre) ++ b.drop (blksL p (csOf pre)).length
def OkB (p : Int × Int) (b : List Int) (pre : List HB) (d : HB) (W : World) : Prop :=
  SoFar p b pre ∧ SoFar p b (pre ++ [d]) ∧ d.m = (blockL (blksE p (csOf pre)) d.l).length ∧ Ga.Pt d.x d.y (blksE p (csOf (pre ++ [d]))) ∧ d.l.length ≤ d.c ∧ Es W W.heap.size d.A d.l.length d.l
theorem SoFar.next {p : Int × Int} {b : List Int} {pre : List HB} {d : HB} (h : SoFar p b pre) (hB : BlockAt (blksE p (csOf pre)) (b.drop (blksL p (csOf pre)).length) d.l) :
    SoFar p b (pre ++ [d]) ∧ (blksL p (csOf (pre ++ [d]))).length = (blksL p (csOf pre)).length + (blockL (blksE p (csOf pre)) d.l).length ∧ blksE p (csOf (pre ++ [d])) = endP (blksE p (csOf pre)) d.l := by
  obtain ⟨hg, s, hs⟩ := hB
  obtain ⟨e1, e2⟩ := blks_snoc p (csOf pre) d.l
  rw [csOf_snoc, e1, e2]
  refine ⟨⟨by rw [csOf_snoc]; exact h.good.append fun c hc => by obtain rfl := List.mem_singleton.1 hc; exact hg, ?_⟩, List.length_append, rfl⟩
  rw [csOf_snoc, e1, List.length_append, ← List.drop_drop, hs, List.drop_left, List.append_assoc, ← hs]
  exact h.bytes
theorem SoFar.done {p : Int × Int} {b : List Int} {pre : List HB} (h : SoFar p b pre) (hn : NoBlock (blksE p (csOf pre)) (b.drop (blksL p (csOf pre)).length)) : BlksAre p b (csOf pre) (b.drop (blksL p (csOf pre)).length) := ⟨h.good, h.bytes, hn⟩
theorem SoFar.room {p : Int × Int} {b : List Int} {pre : List HB} (h : SoFar p b pre) : (blksL p (csOf pre)).length ≤ b.length := by
  have := congrArg List.length h.bytes
  rw [List.length_append] at this
  omega

/-- What holds at the label. -/
def BJ (W : World) (p : Int × Int) (b : List Int) (zB sB B0 : Nat) (J : List HB → World → Prop) (l0 : Nat) (a' : Act) (w : World) : Prop :=
  ∃ (pre : List HB) (q xe ye : Nat) (u6 u7 u8 u9 u10 u11 u12 u13 u14 u15 u16 u17 u18 u19 u20 u21 u22 u23 u24 u25 u26 u27 : Value), q = (blksL p (csOf pre)).length ∧ SoFar p b pre ∧ Ga.From xe ye (blksE p (csOf pre)) ∧ J pre w ∧ KpBTw B0 sB W w ∧
    a' = { tmps := #[.func (.yield l0) #[] #[], .pointer (some ⟨zB, 0, none⟩), .pointer (some ⟨sB, 0, none⟩), undef, .complex .f64 xe ye, .int .i64 (q : Int), u6, u7, u8, u9, u10, u11, u12, u13, u14, u15, u16, u17, u18, u19, u20, u21, u22, u23, u24, u25, u26, u27], defers := [] }

set_option maxRecDepth 100000 in
set_option maxHeartbeats 2000000 in
theorem blocks_in (l0 zB sB B0 : Nat) {x y : Nat} {p : Int × Int} {A : Option Addr} {n c : Nat} {b : List Int} (hp : Ga.From x y p) (hpin : Ga.InP p) (hn : n ≤ 1000000000) (J Jx : List HB → World → Prop) (W : World) (hJ : StaysT 9 W.heap.size J)
    (hY : ∀ pre d W1, J pre W1 → OkB p b pre d W1 → YieldAt Fence.wide 2 Tryz.prog l0 (encB d) W1 fun e W' =>
      (e = .returned (.bool true) ∧ J (pre ++ [d]) W' ∧ KpBTw B0 sB W1 W') ∨ (e = .returned (.bool false) ∧ Jx (pre ++ [d]) W'))
    (hz : Boxed W zB 68 (.complex .f64 x y)) (hs : Boxed W sB 23 (.slice A n c)) (hr : Rd W B0 .u8 A n b) (hb : Byt b) (hnc : n ≤ c) (hB0 : B0 ≤ W.heap.size) (h0 : J [] W) :
    CallsIn Fence.wide 3 Tryz.prog 165 #[.func (.yield l0) #[] #[], .pointer (some ⟨zB, 0, none⟩), .pointer (some ⟨sB, 0, none⟩)] W fun e W' => (∃ v, e = .returned v) ∧
      ((∃ ys : List HB, (∃ r, BlksAre p b (csOf ys) r) ∧ J ys W') ∨ (∃ pre, Jx pre W')) := by
  obtain ⟨i0, hi, hz0, hz1, hz2⟩ := info_parts Ga.info_u8
  have Hl := Lib.hid hr.1
  have HG := Lib.hid (⟨hs, hr, hB0, hb, hp, h0, hpin⟩ : _ ∧ _ ∧ _ ∧ _ ∧ _ ∧ _ ∧ _)
  have HJ := Lib.hid hJ
  have HY := Lib.hid hY
  have cz := hz.cell
  clear hr hB0 hJ hY hs hb hp h0 hz hpin
  refine callsIn_of_wp Tryz.func165 rfl trivial ?_ rfl
  simp only [Tryz.ntmps165, List.size_toArray, List.length_cons, List.length_nil, Nat.reduceAdd, Nat.reduceSub, Array.replicate_succ, Array.replicate_zero, List.push_toArray, List.append_toArray, List.nil_append, List.cons_append]
  refine scope_once 0 (BJ W p b zB sB B0 J l0) (fun a' _ => n + 15 - (intOf (a'.tmps.getD 5 undef)).toNat) rfl ?_ ?_
  · intro hrest
    gi_wp2_with fail
    refine wpIn_label ?_
    rename_i hK
    exact hK _ _ (hrest _ _ ⟨[], 0, x, y, _, _, _, _, _, _, _, _, _, _, _, _, _, _, _, _, _, _, _, _, _, _, rfl, ⟨Good.nil, by simp [csOf, blksL]⟩, HG.out.2.2.2.2.1, HG.out.2.2.2.2.2.1, KpBTw.refl _ _ _, rfl⟩)
  · rintro a' wr ⟨pre, q, xe, ye, u6, u7, u8, u9, u10, u11, u12, u13, u14, u15, u16, u17, u18, u19, u20, u21, u22, u23, u24, u25, u26, u27, hq, hso, hfr, hj, hkp, rfl⟩
    have hroom := hso.room
    rw [Hl.out, ← hq] at hroom
    have hlc : wr.cell? ⟨sB, 0, none⟩ = some (.slice A n c) := (show Boxed wr sB 23 (.slice A n c) from hkp.2.1.trans HG.out.1).cell
    obtain ⟨A', hrun, hcut⟩ := cut_tail8 Tryz.underlying23 hi hz1 A n c q hroom hnc
    have hrd : Rd wr B0 .u8 A n b := rd_low HG.out.2.1 hkp.1
    have hB0 : B0 ≤ wr.heap.size := Nat.le_trans HG.out.2.2.1 hkp.2.2
    have hcr := (hcut hrd).more hB0
    obtain ⟨m1, hm1⟩ : ∃ m1, m1 = n - q := ⟨_, rfl⟩
    obtain ⟨c1, hc1⟩ : ∃ c1, c1 = c - q := ⟨_, rfl⟩
    rw [← hm1, ← hc1] at hrun
    rw [← hm1] at hcr
    have HI := Lib.hid (⟨hq, hso, hfr, hj, hkp, hB0, hm1, hc1, hroom⟩ : _ ∧ _ ∧ _ ∧ _ ∧ _ ∧ _ ∧ _ ∧ _ ∧ _)
    have hle1 : m1 ≤ c1 := by omega
    have hle2 : m1 ≤ 1000000000 := by omega
    clear hq hso hfr hj hkp hB0 hcut hrd hm1 hc1 hroom
    gi_wp2_with fail
    refine ⟨trivial, ?_⟩
    refine (callsIn_wide.2 (blockOf_any A' m1 c1 (b.drop q) wr HI.out.2.2.1 (blksE_in HG.out.2.2.2.2.2.2 _) hcr (HG.out.2.2.2.1.drop q) hle1 hle2)).mono ?_
    rintro e w1 ⟨hT, hb1⟩
    obtain ⟨hq, hso, hfr, hj, hkp, hB0, hm1, hc1, hroom⟩ := HI.out
    have hsB : sB < wr.heap.size := Nat.lt_of_lt_of_le HG.out.1.lt hkp.2.2
    rcases hT with ⟨l, A2, c2, m, x2, y2, hB, rfl, hm, hc2, hes, hpt⟩ | ⟨hno, rfl⟩
    · obtain ⟨w2, hw2⟩ : ∃ w2, w2 = w1.alloc (.cells #[.slice A2 l.length c2, .int .i64 (m : Nat), .complex .f64 x2 y2] 183) := ⟨_, rfl⟩
      have hb2 : Below wr.heap.size wr w2 := hb1.trans (by rw [hw2]; exact ((Below.refl _ w1).alloc (Nat.le_refl _) _).mono hb1.size)
      have bx2 : BoxK w2 w1.heap.size (.slice A2 l.length c2) (m : Nat) x2 y2 := by rw [hw2]; exact BoxK.new w1 _ _ _ _
      have hj2 : J pre w2 := HJ.out _ wr w2 none hj (grown_of hb2) (fun r e => by cases e)
      rw [hq] at hB
      obtain ⟨hso2, hlen2, hend2⟩ := hso.next (d := ⟨A2, c2, l, m, x2, y2⟩) hB
      have hes2 : Es w2 w2.heap.size A2 l.length l := by
        rw [hw2]; exact hes.on ((Below.refl _ w1).alloc (Nat.le_refl _) _) (by simp)
      have hok : OkB p b pre ⟨A2, c2, l, m, x2, y2⟩ w2 := ⟨hso, hso2, hm, by rw [hend2]; exact hpt, hc2, hes2⟩
      obtain ⟨fn, tmps, assign, body, hy, hR⟩ := HY.out pre _ w2 hj2 hok
      obtain ⟨k0, k1, k2⟩ := bx2.cells
      have hm65 : 6 ≤ m ∧ m ≤ 65 := by
        have h1 := block_length (blksE p (csOf pre)) l
        have h2 := shorts_le hB.1.2.2
        have h3 := hB.1.2.1
        have h4 := hB.1.1
        have h5 : 1 ≤ (Nu.shortsOf (numsL l)).length := by
          cases l with
          | nil => simp at h4
          | cons e l =>
            have h6 := shorts_pos (e := e) (by have := hB.1.2.2; rw [allR_cons, Bool.and_eq_true] at this; exact this.1)
            rw [show numsL (e :: l) = nums e ++ numsL l from rfl]
            unfold Nu.shortsOf at h6 ⊢
            rw [List.flatMap_append, List.length_append]
            omega
        omega
      have hwq : IntKind.i64.wrap ((q : Int) + ((m : Nat) : Int)) = ((q + m : Nat) : Int) := wrap_sum rfl (by omega)
      have H3 := Lib.hid (⟨hkp.trans (KpBTw.below hb2 hB0 hsB), hq, hso2, hw2, hlen2, hm, hpt, hend2, hroom⟩ : _ ∧ _ ∧ _ ∧ _ ∧ _ ∧ _ ∧ _ ∧ _ ∧ _)
      dsimp only [encB] at hy
      rw [hw2] at k0 k1 k2 hy
      have Hroom := Lib.hid (show q + m ≤ n by
        have h1 := hso2.room
        rw [hlen2, ← hm, ← hq, Hl.out] at h1
        exact h1)
      clear hq hso hfr hj hkp hB0 hj2 hb1 hb2 bx2 hlc hrun hcr hsB hso2 hlen2 hend2 hok hB hm hpt hc2 hes hes2 hroom hm1 hc1
      gi_wp2_with fail
      rw [← H3.out.2.2.2.1]
      refine hR.mono ?_
      rintro e' W3 (⟨rfl, hJ3, hk3⟩ | ⟨rfl, hJx3⟩)
      · have H4 := Lib.hid (⟨hJ3, H3.out.1.trans hk3⟩ : _ ∧ _)
        clear hJ3 hk3 k0 k1 k2
        gi_wp2_with fail
        refine wpIn_goto ?_
        obtain ⟨-, hq, hso2, -, hlen2, hm, hpt, hend2, hroom⟩ := H3.out
        refine ⟨rfl, ⟨pre ++ [_], q + m, x2, y2, _, _, _, _, _, _, _, _, _, _, _, _, _, _, _, _, _, _, _, _, _, _, by rw [hlen2, ← hm, hq], hso2, by rw [hend2]; exact .inl hpt, H4.out.1, H4.out.2, by first | rfl | (simp [Int.natCast_add])⟩, ?_⟩
        have := Hroom.out
        simp [intOf]
        omega
      · have H4 := Lib.hid hJx3
        clear hJx3 k0 k1 k2
        gi_wp2_with fail
        simp only [Exit.jump]
        go_end0
        exact ⟨⟨_, rfl⟩, .inr ⟨_, H4.out⟩⟩
    · have hj1 : J pre (w1.alloc (.cells #[.slice none 0 0, .int .i64 0, .complex .f64 0 0] 183)) := HJ.out _ _ _ none (HJ.out _ wr w1 none hj (grown_of hb1) (fun r e => by cases e)) (World.grownBy_alloc _ _ none) (fun r e => by cases e)
      rw [hq] at hno
      have HF := Lib.hid (⟨hj1, hso.done hno⟩ : _ ∧ _)
      clear hq hso hfr hj hkp hB0 hno hj1 hb1 hlc hrun hcr hroom
      gi_wp2_with fail
      simp only [Exit.jump]
      refine bodyPost_ret (results_none rfl _ _ _) rfl ?_
      exact ⟨⟨_, rfl⟩, .inl ⟨pre, ⟨_, HF.out.2⟩, HF.out.1⟩⟩

/-- The iterator's contract. -/
theorem blocks_seq (zB sB B0 : Nat) {x y : Nat} {p : Int × Int} {A : Option Addr} {n c : Nat} {b : List Int} (hp : Ga.From x y p) (hpin : Ga.InP p) (hn : n ≤ 1000000000) (w : World) (hB : B0 ≤ w.heap.size) (hz : Boxed w zB 68 (.complex .f64 x y)) (hs : Boxed w sB 23 (.slice A n c)) (hr : Rd w B0 .u8 A n b) (hb : Byt b) (hnc : n ≤ c) :
    SeqW 9 Fence.wide 3 Tryz.prog 165 #[.pointer (some ⟨zB, 0, none⟩), .pointer (some ⟨sB, 0, none⟩)] encB (KpBTw B0 sB) (fun ys => ∃ r, BlksAre p b (csOf ys) r) (OkB p b) w := fun l0 J Jx W hW hJ _ hY h0 =>
  blocks_in l0 zB sB B0 hp hpin hn J Jx W hJ hY ((hW.block zB hz.lt).trans hz) ((hW.block sB hs.lt).trans hs) (rd_low hr fun k hk => hW.block k (by omega)) hb hnc (Nat.le_trans hB hW.size) h0

/-- What blocks answers. -/
def BksOut (A : Option Addr) (n c x y : Nat) (w : World) (e : Ending) (w' : World) : Prop :=
  e = .returned (.func (.func 165) #[] #[.pointer (some ⟨w.heap.size, 0, none⟩), .pointer (some ⟨w.heap.size + 1, 0, none⟩)]) ∧ Boxed w' w.heap.size 68 (.complex .f64 x y) ∧ Boxed w' (w.heap.size + 1) 23 (.slice A n c) ∧ w'.heap.size = w.heap.size + 2 ∧ Below w.heap.size w w'
set_option maxRecDepth 100000 in
set_option maxHeartbeats 400000 in
theorem blocks_any (A : Option Addr) (n c x y : Nat) (w : World) : Calls Tryz.prog 157 #[.complex .f64 x y, .slice A n c] w (BksOut A n c x y w) := by
  obtain ⟨w1, hw1⟩ : ∃ w1, w1 = w.alloc (.cells #[.complex .f64 x y] 68) := ⟨_, rfl⟩
  obtain ⟨w2, hw2⟩ : ∃ w2, w2 = w1.alloc (.cells #[.slice A n c] 23) := ⟨_, rfl⟩
  have s1 : w1.heap.size = w.heap.size + 1 := by rw [hw1]; simp
  have H := Lib.hid (⟨(by rw [hw2, hw1]; exact (Boxed.new w _ _).alloc _ : Boxed w2 w.heap.size 68 (.complex .f64 x y)), (by rw [hw2, ← s1]; exact Boxed.new w1 _ _ : Boxed w2 (w.heap.size + 1) 23 (.slice A n c)), (show w2.heap.size = w.heap.size + 2 by rw [hw2]; simp [s1]),
    (by rw [hw2, hw1]; exact ((Below.refl _ w).alloc (Nat.le_refl _) _).alloc (by simp) _ : Below w.heap.size w w2), (show w2 = (w.alloc (.cells #[.complex .f64 x y] 68)).alloc (.cells #[.slice A n c] 23) by rw [hw2, hw1])⟩ : _ ∧ _ ∧ _ ∧ _ ∧ _)
  clear hw1 hw2 s1
  go_enter Tryz.func157, Tryz.ntmps157
  go_wp2
  go_ret
  rw [← H.out.2.2.2.2]
  exact ⟨rfl, H.out.1, H.out.2.1, H.out.2.2.1, H.out.2.2.2.1⟩

end Go.Proofs.YtcpdjhkpmaamdaaGreat
