/-
  manifest.read: its contract.
-/
import Derived.Test.YtafeadplmcoilaaDoorReadP
import Derived.Test.YtafeadplmcoilaaDoorManW
import Derived.Test.YtafeadplmcoilaaDoorHeldIn
import Derived.Test.YtafeadplmcoilaaDoorDrawA
import Derived.Test.YtafeadplmcoilaaDoorKeepM
namespace Go.Proofs.YtafeadplmcoilaaDoor
open Go.RowKit Go.Shelf Go.Maps
set_option linter.unusedVariables false
set_option linter.unusedSimpArgs false

attribute [local go_sem] Oper.semAt_some

theorem list4L {α : Type} (l : List α) (h : l.length = 4) : ∃ a b c d, l = [a, b, c, d] := by
  match l, h with
  | [a, b, c, d], _ => exact ⟨a, b, c, d, rfl⟩
theorem rd_putI {W : World} {i : Nat} {o o' : Obj} (hi : W.heap[i]? = some o) (ho : o.isCells = false) {k : IntKind} {A : Option Addr} {n : Nat} {l : List Int} (h : Rd W W.heap.size k A n l) : Rd (W.putObj i o') (W.putObj i o').heap.size k A n l :=
  ⟨h.1, fun hn => by
    obtain ⟨b, off, e, hlt, hc⟩ := h.2 hn
    refine ⟨b, off, e, by have := (grownBy_putObj' W i o').size; omega, fun j hj => ?_⟩
    have hne : b ≠ i := by
      rintro rfl
      have h1 := hc j hj
      unfold World.cell? at h1
      rw [show W.heap[b]? = _ from hi] at h1
      cases o <;> simp [Obj.isCells] at ho h1
    exact (World.cell?_of_block (a := ⟨b, off + j, none⟩) (World.putObj_heap_other (by omega))).trans (hc j hj)⟩
theorem own_lowS {w : World} {B base n : Nat} {v : Value} {l : List SegP} (h : OwnS w base v n l) (hB : B ≤ base) : OwnS w B v n l := by
  refine ⟨h.1, ?_⟩
  rcases h.2 with a | ⟨g, cap, cur, e1, hbg, r⟩
  · exact .inl a
  · exact .inr ⟨g, cap, cur, e1, Nat.le_trans hB hbg, r⟩
/-- What read answers. -/
def ReadT (b : List Int) (w : World) (e : Ending) (w' : World) : Prop :=
  (∃ m A n c ok, e = .returned (.tuple #[manV m (.slice A n c), .bool ok]) ∧ ReadIs b m ok ∧ OwnS w' w.heap.size (.slice A n c) n m.sg) ∧ Below w.heap.size w w'
/-- What a round must leave alone: what lies below D0, but for z. -/
def KpZ (D0 z : Nat) (A A' : World) : Prop := (∀ k, k < D0 → k ≠ z → A'.heap[k]? = A.heap[k]?) ∧ A.heap.size ≤ A'.heap.size
theorem KpZ.refl (D0 z : Nat) (A : World) : KpZ D0 z A A := ⟨fun _ _ _ => rfl, Nat.le_refl _⟩
theorem KpZ.trans {D0 z : Nat} {A A' A'' : World} (h : KpZ D0 z A A') (h' : KpZ D0 z A' A'') : KpZ D0 z A A'' := ⟨fun k hk hz => (h'.1 k hk hz).trans (h.1 k hk hz), Nat.le_trans h.2 h'.2⟩
theorem KpZ.put {D0 z E : Nat} (hE : D0 ≤ E) (W : World) (l : Nat) (o o' : Obj) (hl : E ≤ l) (_ : W.heap[l]? = some o) (_ : o.isCells = false) (_ : o.isWalk = false) : KpZ D0 z W (W.putObj l o') :=
  ⟨fun k hk _ => World.putObj_heap_other (by omega), (grownBy_putObj' W l o').size⟩
/-- Between two rounds. -/
structure RdInv (w : World) (o : List Int) (z D0 : Nat) (pre : List HJ) (W : World) : Prop where
  row : ∃ v, BoxM W z (manOf o []) v ∧ OwnS W D0 v pre.length (pre.map fun h => segOf h.l)
  low : Below w.heap.size w W
  size : D0 ≤ W.heap.size
theorem RdInv.own {w : World} {o : List Int} {z D0 D1 : Nat} (hz : z < D0) (h1 : D0 ≤ D1) (hw : w.heap.size ≤ D0) : OwnT 9 D1 (RdInv w o z D0) := fun _ W W' row h hg hr => by
  obtain ⟨⟨v, hv, hrow⟩, hlow, hsz⟩ := h
  refine ⟨⟨v, (hg.block z hv.lt (fun e => by have := (hr z e.symm).1; omega)).trans hv, hrow.kept hg (row_neF (by decide) hrow fun r e => (hr r e).2)⟩, ?_, Nat.le_trans hsz hg.size⟩
  exact hlow.grown hg hlow.size (fun k e => by have := (hr k e).1; omega)
theorem o6_at {o : List Int} (h : o.length = 6) {i : Nat} (hi : i < 6) : o[i]? = some (o[i]?.getD 0) := by
  rw [List.getElem?_eq_getElem (by omega)]
  rfl
theorem mul4 {k : Nat} (h : k ≤ 60) : IntKind.i64.wrap ((k : Int) * 4) = ((k * 4 : Nat) : Int) ∧ wrap64 ((k : Int) * 4) = ((k * 4 : Nat) : Int) := ⟨by rw [IntKind.wrap_i64]; omega, by unfold wrap64; omega⟩

set_option maxRecDepth 100000 in
set_option maxHeartbeats 8000000 in
theorem read_in (A : Option Addr) (n c : Nat) (b : List Int) (w : World) (hl : Rd w w.heap.size .u8 A n b) (hb : Byt b) (hnc : n ≤ c) (hn : n ≤ 1000000) :
    CallsIn Fence.wide 4 Tryd.prog 35 #[.slice A n c] w (ReadT b w) := by
  obtain ⟨i0, hi, hz0, hz1, hz2⟩ := info_partsV info_seg
  obtain ⟨z, hz⟩ : ∃ z, z = w.heap.size := ⟨_, rfl⟩
  obtain ⟨w1, hw1⟩ : ∃ w1, w1 = w.alloc (.cells #[.int .i64 0, .int .i64 0, .int .i64 0, .int .i64 0, .int .i64 0, .slice none 0 0] 26) := ⟨_, rfl⟩
  have b1 : Below w.heap.size w w1 := by rw [hw1]; exact below_al (below_d0 w) _
  have x1 : BoxM w1 z noneM (.slice none 0 0) := by rw [hw1, hz]; exact BoxM.new w noneM _
  have s1 : w1.heap.size = z + 1 := by rw [hw1, hz]; simp
  have hT := Nu.takesN_any A n c b 6 w1 (hl.on b1 b1.size) hb hnc (by omega)
  have HL := Lib.hid hl.1
  have HW := Lib.hid (⟨hw1, hz, b1, x1, s1, hT, hb⟩ : _ ∧ _ ∧ _ ∧ _ ∧ _ ∧ _ ∧ _)
  clear hw1 b1 x1 s1 hT hl hb hz
  -- what is left where there is none
  have hbad : ∀ (W : World) (t : ManP) (v : Value), BoxM W z t v → Below w.heap.size w W → ReadIs b noneM false →
      ∃ W', W' = putM W z noneM (.slice none 0 0) ∧ BoxM W' z noneM (.slice none 0 0) ∧ Below w.heap.size w W' := fun W t v hx hB _ => ⟨_, rfl, putM_box hx _ _, putM_below (by have := HW.out.2.1; omega) _ _ hB⟩
  have HBad := Lib.hid hbad
  clear hbad
  refine callsIn_of_wp_marks Tryd.func35 rfl trivial ?_ rfl
  simp only [Tryd.ntmps35, List.size_toArray, List.length_cons, List.length_nil, Nat.reduceAdd, Nat.reduceSub, Array.replicate_succ, Array.replicate_zero, List.push_toArray, List.append_toArray, List.nil_append, List.cons_append]
  gi_wp2_with fail
  rw [← HW.out.1, ← HW.out.2.1]
  refine ⟨trivial, ?_⟩
  refine (callsIn_wide.2 HW.out.2.2.2.2.2.1).mono ?_
  rintro e w2 ⟨⟨v, v', rfl, hg1, hg2⟩, hb2⟩
  obtain ⟨A2, r2, hv', hrc, hrd⟩ := hg2
  subst hv'
  obtain ⟨rest, hrest⟩ : ∃ rest, (Nu.takesP b 6).2.1 = rest := ⟨_, rfl⟩
  obtain ⟨o, ho⟩ : ∃ o, (Nu.takesP b 6).1 = o := ⟨_, rfl⟩
  obtain ⟨er, her⟩ : ∃ er, (Nu.takesP b 6).2.2 = er := ⟨_, rfl⟩
  rw [hrest] at hrc hrd ⊢
  rw [ho] at hg1
  rw [her]
  obtain ⟨no, hno⟩ : ∃ no, o.length = no := ⟨_, rfl⟩
  rw [hno] at hg1
  obtain ⟨p, hp⟩ : ∃ p, rest.length = p := ⟨_, rfl⟩
  rw [hp] at hrc hrd ⊢
  obtain ⟨A1, c1, rfl, hc1⟩ := own_slice hg1
  have x2 := HW.out.2.2.2.1.below hb2
  have B2 := HW.out.2.2.1.trans (hb2.mono HW.out.2.2.1.size)
  obtain ⟨c0, c1', c2, c3, c4, c5⟩ := x2.cells
  have f0 := x2.frozen 0
  have f1 := x2.frozen 1
  have f2 := x2.frozen 2
  have f3 := x2.frozen 3
  have f4 := x2.frozen 4
  have f5 := x2.frozen 5
  have hs2 := hb2.size
  by_cases he : er = 0
  case neg =>
    have e1 : (er != 0) = true := by simpa using he
    have HN := Lib.hid (read_no1 (b := b) (by rw [her]; exact he))
    have H2 := Lib.hid (HBad.out w2 noneM (.slice none 0 0) x2 B2 HN.out)
    clear hg1 hrd hrc hno hp hrest ho her he x2 B2 hc1 hs2 hb2
    gi_wp2_with fail
    repeat (refine ⟨fun _ _ => trivial, ?_⟩; gi_wp2_with fail)
    obtain ⟨W', hW', hx', hB'⟩ := H2.out
    have e9 : W' = (((((w2.setCell ⟨z, 0, none⟩ (.int .i64 0)).setCell ⟨z, 1, none⟩ (.int .i64 0)).setCell ⟨z, 2, none⟩ (.int .i64 0)).setCell ⟨z, 3, none⟩ (.int .i64 0)).setCell ⟨z, 4, none⟩ (.int .i64 0)).setCell ⟨z, 5, none⟩ (.slice none 0 0) := hW'
    rw [← e9]
    clear e9 hW'
    refine leaves_marks (B := w.heap.size) [] _ ⟨List.nodup_nil, fun d hd => by cases hd⟩ fun w' hw' => ⟨.tuple #[.agg #[.int .i64 0, .int .i64 0, .int .i64 0, .int .i64 0, .int .i64 0, .slice none 0 0], .bool false], ?_, ⟨noneM, none, 0, 0, false, rfl, HN.out, World.ownsRow_nil _ _ _ _⟩, hB'.trans hw'.1⟩
    have hx9 : BoxM w' z noneM (.slice none 0 0) := hw'.2 _ _ hx' rfl
    obtain ⟨y0, y1, y2, y3, y4, y5⟩ := hx9.cells
    simp [results, Tryd.results35, go_sem, y0, y1, y2, y3, y4, y5, noneM]
  subst he
  have hpar : Nu.takesP b 6 = (o, rest, 0) := by rw [← hrest, ← ho, ← her]
  obtain ⟨ho6, hoa, hbe⟩ := Nu.takesP_back (k := 6) HW.out.2.2.2.2.2.2 hpar
  obtain rfl : no = 6 := hno.symm.trans ho6
  have hrb : Byt rest := fun x hx => HW.out.2.2.2.2.2.2 x (by rw [hbe]; exact List.mem_append_right _ hx)
  have hrdO := Rd.of_own hg1
  obtain ⟨g0, off, hA1, hg0, hcell⟩ := hrdO.at_ (by omega)
  subst hA1
  have q0 := hcell 0 (by omega)
  have q1 := hcell 1 (by omega)
  have q2 := hcell 2 (by omega)
  have q3 := hcell 3 (by omega)
  have q4 := hcell 4 (by omega)
  have q5 := hcell 5 (by omega)
  rw [Nat.add_zero] at q0
  obtain ⟨k, hk⟩ : ∃ k : Nat, o[5]?.getD 0 = (k : Int) := by
    have h1 := Nu.isNum_iff.1 (List.all_eq_true.1 hoa _ (List.mem_of_getElem? (o6_at ho6 (show 5 < 6 by omega))))
    exact ⟨(o[5]?.getD 0).toNat, by omega⟩
  rw [hk] at q5
  have hg0z : z < g0 := by
    have := (hg1.lt g0 rfl).1
    have := HW.out.2.2.2.2.1
    omega
  by_cases h60 : 60 < k
  · have e6 : decide ((60 : Int) < (k : Int)) = true := by simp; omega
    have HN := Lib.hid (read_no2 (b := b) hpar (by rw [hk]; omega))
    have H2 := Lib.hid (HBad.out w2 noneM (.slice none 0 0) x2 B2 HN.out)
    clear hg1 hrd hrc hno hp hrest ho her x2 B2 hc1 hs2 hb2 hpar ho6 hoa hbe hrb hrdO hg0 hcell hk hg0z h60 q0 q1 q2 q3 q4
    gi_wp2_with fail
    repeat (refine ⟨fun _ _ => trivial, ?_⟩; gi_wp2_with fail)
    obtain ⟨W', hW', hx', hB'⟩ := H2.out
    have e9 : W' = (((((w2.setCell ⟨z, 0, none⟩ (.int .i64 0)).setCell ⟨z, 1, none⟩ (.int .i64 0)).setCell ⟨z, 2, none⟩ (.int .i64 0)).setCell ⟨z, 3, none⟩ (.int .i64 0)).setCell ⟨z, 4, none⟩ (.int .i64 0)).setCell ⟨z, 5, none⟩ (.slice none 0 0) := hW'
    rw [← e9]
    clear e9 hW'
    refine leaves_marks (B := w.heap.size) [] _ ⟨List.nodup_nil, fun d hd => by cases hd⟩ fun w' hw' => ⟨.tuple #[.agg #[.int .i64 0, .int .i64 0, .int .i64 0, .int .i64 0, .int .i64 0, .slice none 0 0], .bool false], ?_, ⟨noneM, none, 0, 0, false, rfl, HN.out, World.ownsRow_nil _ _ _ _⟩, hB'.trans hw'.1⟩
    have hx9 : BoxM w' z noneM (.slice none 0 0) := hw'.2 _ _ hx' rfl
    obtain ⟨y0, y1, y2, y3, y4, y5⟩ := hx9.cells
    simp [results, Tryd.results35, go_sem, y0, y1, y2, y3, y4, y5, noneM]
  have e6 : decide ((60 : Int) < (k : Int)) = false := by simp; omega
  obtain ⟨m4, m4'⟩ := mul4 (show k ≤ 60 by omega)
  have hT2 := Nu.takesN_any A2 p r2 rest ((k * 4 : Nat) : Int) w2 hrd hrb hrc (by
    have h1 := congrArg List.length hbe
    have h2 := HW.out
    rw [List.length_append, hp] at h1
    have h3 := hb2
    have h4 : b.length = n := HL.out
    omega)
  have H2 := Lib.hid (⟨hg1, hpar, ho6, hoa, hk, hg0z, hg0, x2, B2, hrb, hp, hs2, (show k ≤ 60 by omega)⟩ : _ ∧ _ ∧ _ ∧ _ ∧ _ ∧ _ ∧ _ ∧ _ ∧ _ ∧ _ ∧ _ ∧ _ ∧ _)
  clear hg1 hrd hrc hno hp hrest ho her x2 B2 hc1 hs2 hb2 hpar ho6 hoa hbe hrb hrdO hg0 hcell hk hg0z h60 c0 c1' c2 c3 c4 c5 f0 f1 f2 f3 f4 f5 q0 q1 q2 q3 q4
  gi_wp2_with fail
  refine ⟨trivial, ?_⟩
  refine (callsIn_wide.2 hT2).mono ?_
  rintro e w3 ⟨⟨v, v', rfl, hg3, hg4⟩, hb3⟩
  obtain ⟨A3, r3, hv', hrc3, hrd3⟩ := hg4
  subst hv'
  obtain ⟨rest3, hrest3⟩ : ∃ rr, (Nu.takesP rest ((k * 4 : Nat) : Int)).2.1 = rr := ⟨_, rfl⟩
  obtain ⟨l, hll⟩ : ∃ l, (Nu.takesP rest ((k * 4 : Nat) : Int)).1 = l := ⟨_, rfl⟩
  obtain ⟨er3, her3⟩ : ∃ er, (Nu.takesP rest ((k * 4 : Nat) : Int)).2.2 = er := ⟨_, rfl⟩
  rw [hrest3] at hrc3 hrd3 ⊢
  rw [hll] at hg3
  rw [her3]
  obtain ⟨nl, hnl⟩ : ∃ nl, l.length = nl := ⟨_, rfl⟩
  rw [hnl] at hg3
  obtain ⟨p3, hp3⟩ : ∃ p, rest3.length = p := ⟨_, rfl⟩
  rw [hp3] at hrc3 hrd3 ⊢
  obtain ⟨A4, c4, rfl, hc4⟩ := own_slice hg3
  obtain ⟨hg1, hpar, ho6, hoa, hk, hg0z, hg0, x2, B2, hrb, hp, hs2, hk60⟩ := H2.out
  have x3 := x2.below hb3
  have B3 := B2.trans (hb3.mono B2.size)
  obtain ⟨d0, d1, d2, d3, d4, d5⟩ := x3.cells
  have f0 := x3.frozen 0
  have f1 := x3.frozen 1
  have f2 := x3.frozen 2
  have f3 := x3.frozen 3
  have f4 := x3.frozen 4
  have f5 := x3.frozen 5
  by_cases he3 : er3 = 0
  case neg =>
    have e7 : (er3 != 0) = true := by simpa using he3
    have HN := Lib.hid (read_no3 (b := b) hpar hk (.inl (by rw [her3]; exact he3)))
    have H3 := Lib.hid (HBad.out w3 noneM (.slice none 0 0) x3 B3 HN.out)
    clear hg1 hpar ho6 hoa hk hg0z hg0 x2 B2 hrb hp hs2 hk60 x3 B3 hrest3 hll her3 hnl hp3 hrc3 hrd3 hc4 hg3 hb3 he3
    gi_wp2_with fail
    repeat (refine ⟨fun _ _ => trivial, ?_⟩; gi_wp2_with fail)
    obtain ⟨W', hW', hx', hB'⟩ := H3.out
    have e9 : W' = (((((w3.setCell ⟨z, 0, none⟩ (.int .i64 0)).setCell ⟨z, 1, none⟩ (.int .i64 0)).setCell ⟨z, 2, none⟩ (.int .i64 0)).setCell ⟨z, 3, none⟩ (.int .i64 0)).setCell ⟨z, 4, none⟩ (.int .i64 0)).setCell ⟨z, 5, none⟩ (.slice none 0 0) := hW'
    rw [← e9]
    clear e9 hW'
    refine leaves_marks (B := w.heap.size) [] _ ⟨List.nodup_nil, fun d hd => by cases hd⟩ fun w' hw' => ⟨.tuple #[.agg #[.int .i64 0, .int .i64 0, .int .i64 0, .int .i64 0, .int .i64 0, .slice none 0 0], .bool false], ?_, ⟨noneM, none, 0, 0, false, rfl, HN.out, World.ownsRow_nil _ _ _ _⟩, hB'.trans hw'.1⟩
    have hx9 : BoxM w' z noneM (.slice none 0 0) := hw'.2 _ _ hx' rfl
    obtain ⟨y0, y1, y2, y3, y4, y5⟩ := hx9.cells
    simp [results, Tryd.results35, go_sem, y0, y1, y2, y3, y4, y5, noneM]
  subst he3
  by_cases hp0 : 0 < p3
  · have e8 : decide (0 < p3) = true := by simpa using hp0
    have e8' : decide ((0 : Int) < (p3 : Int)) = true := by simpa using hp0
    have HN := Lib.hid (read_no3 (b := b) hpar hk (.inr (by rw [hrest3]; intro e; rw [e] at hp3; simp at hp3; omega)))
    have H3 := Lib.hid (HBad.out w3 noneM (.slice none 0 0) x3 B3 HN.out)
    clear hg1 hpar ho6 hoa hk hg0z hg0 x2 B2 hrb hp hs2 hk60 x3 B3 hrest3 hll her3 hnl hp3 hrc3 hrd3 hc4 hg3 hb3 hp0
    gi_wp2_with fail
    repeat (refine ⟨fun _ _ => trivial, ?_⟩; gi_wp2_with fail)
    obtain ⟨W', hW', hx', hB'⟩ := H3.out
    have e9 : W' = (((((w3.setCell ⟨z, 0, none⟩ (.int .i64 0)).setCell ⟨z, 1, none⟩ (.int .i64 0)).setCell ⟨z, 2, none⟩ (.int .i64 0)).setCell ⟨z, 3, none⟩ (.int .i64 0)).setCell ⟨z, 4, none⟩ (.int .i64 0)).setCell ⟨z, 5, none⟩ (.slice none 0 0) := hW'
    rw [← e9]
    clear e9 hW'
    refine leaves_marks (B := w.heap.size) [] _ ⟨List.nodup_nil, fun d hd => by cases hd⟩ fun w' hw' => ⟨.tuple #[.agg #[.int .i64 0, .int .i64 0, .int .i64 0, .int .i64 0, .int .i64 0, .slice none 0 0], .bool false], ?_, ⟨noneM, none, 0, 0, false, rfl, HN.out, World.ownsRow_nil _ _ _ _⟩, hB'.trans hw'.1⟩
    have hx9 : BoxM w' z noneM (.slice none 0 0) := hw'.2 _ _ hx' rfl
    obtain ⟨y0, y1, y2, y3, y4, y5⟩ := hx9.cells
    simp [results, Tryd.results35, go_sem, y0, y1, y2, y3, y4, y5, noneM]
  obtain rfl : p3 = 0 := by omega
  obtain rfl : rest3 = [] := List.eq_nil_of_length_eq_zero hp3
  have hpar3 : Nu.takesP rest ((k * 4 : Nat) : Int) = (l, [], 0) := by rw [← hrest3, ← hll, ← her3]
  have HY := Lib.hid (read_yes (b := b) HW.out.2.2.2.2.2.2 hpar hk hk60 hpar3)
  have hlk := (Nu.takesP_back hrb hpar3).1
  obtain rfl : nl = k * 4 := hnl.symm.trans hlk
  have HAl := Lib.hid (Nu.takesP_back hrb hpar3).2.1
  have hrdO := (Rd.of_own hg1).on hb3 hb3.size
  obtain ⟨a0, a1, a2, a3, a4, a5, ho⟩ := list6 o ho6
  subst ho
  obtain ⟨g1, off1, hA1, -, hcell⟩ := hrdO.at_ (by omega)
  cases hA1
  have q0 : w3.cell? ⟨g0, off, none⟩ = some (.int .i64 a0) := hcell 0 (by omega)
  have q1 : w3.cell? ⟨g0, off + 1, none⟩ = some (.int .i64 a1) := hcell 1 (by omega)
  have q2 : w3.cell? ⟨g0, off + 2, none⟩ = some (.int .i64 a2) := hcell 2 (by omega)
  have q3 : w3.cell? ⟨g0, off + 3, none⟩ = some (.int .i64 a3) := hcell 3 (by omega)
  have q4 : w3.cell? ⟨g0, off + 4, none⟩ = some (.int .i64 a4) := hcell 4 (by omega)
  obtain ⟨mo, hmo⟩ : ∃ mo : ManP, mo = ⟨a0, a1, a2, a3, a4, []⟩ := ⟨_, rfl⟩
  obtain ⟨W3, hW3⟩ : ∃ W3, W3 = putM w3 z mo (.slice none 0 0) := ⟨_, rfl⟩
  have hzw : w.heap.size ≤ z := by have := HW.out.2.1; omega
  have x4' : BoxM W3 z mo (.slice none 0 0) := by rw [hW3]; exact putM_box x3 mo (.slice none 0 0)
  have s4' : W3.heap.size = w3.heap.size := by rw [hW3]; exact putM_size w3 z mo (.slice none 0 0)
  have B4' : Below w.heap.size w W3 := by rw [hW3]; exact putM_below hzw mo (.slice none 0 0) B3
  have hgz : ∀ g, (Value.slice A4 (k * 4) c4).ownBlock = some g → z < g := fun g hg => by
    have h1 := (hg3.lt g hg).1
    have h2 := HW.out.2.2.2.2.1
    omega
  have l4' : W3.ownsRow w2.heap.size 3 1 (.slice A4 (k * 4) c4) (k * 4) (l.map (Value.int .i64)) := own_at hg3 fun g hg => by
    rw [hW3]
    exact putM_other (W := w3) (z := z) mo (.slice none 0 0) (by have := hgz g hg; omega)
  have e4' : W3 = (((((w3.setCell ⟨z, 0, none⟩ (.int .i64 a0)).setCell ⟨z, 1, none⟩ (.int .i64 a1)).setCell ⟨z, 2, none⟩ (.int .i64 a2)).setCell ⟨z, 3, none⟩ (.int .i64 a3)).setCell ⟨z, 4, none⟩ (.int .i64 a4)).setCell ⟨z, 5, none⟩ (.slice none 0 0) := by rw [hW3, hmo]; rfl
  obtain ⟨W4, hW4⟩ : ∃ W4, W4 = W3.drew := ⟨_, rfl⟩
  have x4 : BoxM W4 z mo (.slice none 0 0) := by rw [hW4]; exact x4'
  have s4 : W4.heap.size = w3.heap.size := by rw [hW4]; exact s4'
  have B4 : Below w.heap.size w W4 := by rw [hW4]; exact B4'.drew
  have l4 : Rd W4 W4.heap.size .i64 A4 (k * 4) l := by rw [hW4]; exact Rd.of_own (show W3.drew.ownsRow _ _ _ _ _ _ from l4')
  have e4 : W4 = ((((((w3.setCell ⟨z, 0, none⟩ (.int .i64 a0)).setCell ⟨z, 1, none⟩ (.int .i64 a1)).setCell ⟨z, 2, none⟩ (.int .i64 a2)).setCell ⟨z, 3, none⟩ (.int .i64 a3)).setCell ⟨z, 4, none⟩ (.int .i64 a4)).setCell ⟨z, 5, none⟩ (.slice none 0 0)).drew := by rw [hW4, e4']
  have hzlt := x3.lt
  have H4 := Lib.hid (⟨x4, s4, B4, l4, hgz, e4, hmo, hnl, hzlt, hc4, hk60, hzw⟩ : _ ∧ _ ∧ _ ∧ _ ∧ _ ∧ _ ∧ _ ∧ _ ∧ _ ∧ _ ∧ _ ∧ _)
  clear hg1 hpar ho6 hoa hk hg0z hg0 x2 B2 hrb hp hs2 hk60 x3 B3 hrest3 hll her3 hnl hp3 hrc3 hrd3 hc4 hg3 hb3 hpar3 hlk hrdO hcell x4 s4 B4 l4 e4 hW4 hmo hp0 hzlt hzw hgz x4' s4' B4' l4' e4' hW3
  gi_wp2_with fail
  repeat (refine ⟨fun _ _ => trivial, ?_⟩; gi_wp2_with fail)
  refine wpIn_wide.2 ?_
  go_still_tail 17, (by kernel_rfl)
  change wpList _ _ _ _ _ w3.drew
  go_wp2_with fail
  rw [← H4.out.2.2.2.2.2.1]
  clear q0 q1 q2 q3 q4 d0 d1 d2 d3 d4 d5 f0 f1 f2 f3 f4 f5 q5 e6 m4 m4'
  gi_wp2_with fail
  refine ⟨trivial, ?_⟩
  refine (callsIn_wide.2 (chunkJ_any 4 (by omega) A4 (k * 4) c4 W4)).mono ?_
  rintro e w5 ⟨rfl, hl5, hk5, hs5, hb5⟩
  obtain ⟨x4, s4, B4, l4, lz, -, hmo, hnl, hzlt, hc4, hk60, hzw⟩ := H4.out
  obtain ⟨D, hD⟩ : ∃ D, W4.heap.size = D := ⟨_, rfl⟩
  rw [hD] at hl5 hk5 hs5 ⊢
  have x5 := x4.below hb5
  have B5 := B4.trans (hb5.mono B4.size)
  have l5 := l4.on hb5 hb5.size
  have h0 : RdInv w [a0, a1, a2, a3, a4, a5] z w5.heap.size [] w5 := ⟨⟨_, by rw [hmo] at x5; exact x5, World.ownsRow_nil _ _ _ _⟩, B5, Nat.le_refl _⟩
  have Hd := Lib.hid (show w.heap.size ≤ z ∧ z < D ∧ w5.heap.size = D + 2 by omega)
  have H0 := Lib.hid (⟨h0, hl5, hk5, l5, lz, hnl, hc4, hk60, HAl.out⟩ : _ ∧ _ ∧ _ ∧ _ ∧ _ ∧ _ ∧ _ ∧ _ ∧ _)
  clear h0 hl5 hk5 hs5 hb5 x4 s4 B4 l4 lz hmo hnl hzlt hc4 hk60 hzw hD x5 B5 l5
  gi_wp2_with fail
  refine range_W 9 rfl (by decide) (gf := 69) (lb := #[.pointer (some ⟨D, 0, none⟩), .pointer (some ⟨D + 1, 0, none⟩)]) rfl trivial (enters_of Tryd.func69 (by kernel_rfl) rfl)
    (chunkJ_seq (tt := 9) 4 (by omega) (by omega) D (KpZ w5.heap.size z) (fun A A' h b t v hbD ht hb => (h.1 b (by have := Hd.out; rcases hbD with rfl | rfl <;> omega) (by have := Hd.out; rcases hbD with rfl | rfl <;> omega)).trans hb) (fun _ _ _ h h' => h.trans h') (fun _ => ⟨fun _ _ _ => rfl, Nat.le_refl _⟩) (KpZ.refl _ _) (by have := H0.out.2.2.2.2.2.2.2.1; omega) H0.out.2.2.2.2.2.2.1 w5 H0.out.2.1 H0.out.2.2.1 (fun W1 W' hW hk => by
      refine ⟨H0.out.2.2.2.1.1, fun hn0 => ?_⟩
      obtain ⟨g4, off4, e4, hg4, hcell⟩ := H0.out.2.2.2.1.2 hn0
      have hz := H0.out.2.2.2.2.1 g4 (by rw [e4]; rfl)
      exact ⟨g4, off4, e4, by have := hW.size; have := hk.2; omega, fun i hi => (World.cell?_of_block (a := ⟨g4, off4 + i, none⟩) ((hk.1 g4 hg4 (by omega)).trans (hW.block g4 hg4))).trans (hcell i hi)⟩))
    (fun h h' => h.trans h') (KpZ.put (Nat.le_refl _)) (Below.refl _ _) (fun _ => rfl)
    (RdInv w [a0, a1, a2, a3, a4, a5] z w5.heap.size) (fun _ _ _ => False) (RdInv.own (by have := Hd.out; omega) (Nat.le_refl _) (by have := Hd.out; omega))
    (fun _ _ _ _ _ h _ _ => h) H0.out.1
    (fun d a' W => Rd W W.heap.size .i64 d.A d.n d.l ∧ a' = { tmps := #[.slice A n c, undef, .pointer (some ⟨z, 0, none⟩), .bool false, .slice (some ⟨g0, off, none⟩) 6 c1, .slice A3 0 r3, .int .i64 0, .int .i64 (k : Int), .slice A4 (k * 4) c4, .slice d.A d.n d.n, .tuple #[.slice (some ⟨g0, off, none⟩) 6 c1, .slice A2 p r2, .int .i64 0], .slice A n c, .tuple #[.slice (some ⟨g0, off, none⟩) 6 c1, .slice A2 p r2, .int .i64 0], .slice (some ⟨g0, off, none⟩) 6 c1, .slice A2 p r2, .int .i64 0, .int .i64 0, .bool false, undef, .slice (some ⟨g0, off, none⟩) 6 c1, .pointer (some ⟨g0, off + 5, none⟩), .int .i64 (k : Int), .int .i64 (k : Int), .bool false, undef, .tuple #[.slice A4 (k * 4) c4, .slice A3 0 r3, .int .i64 0], .slice A2 p r2, .int .i64 (k : Int), .int .i64 ((k : Int) * 4), .tuple #[.slice A4 (k * 4) c4, .slice A3 0 r3, .int .i64 0], .slice A4 (k * 4) c4, .slice A3 0 r3, .int .i64 0, .int .i64 0, .bool false, .bool false, .slice A3 0 r3, .int .i64 0, .bool false, .bool false, undef, .slice (some ⟨g0, off, none⟩) 6 c1, .pointer (some ⟨g0, off, none⟩), .int .i64 a0, .slice (some ⟨g0, off, none⟩) 6 c1, .pointer (some ⟨g0, off + 1, none⟩), .int .i64 a1, .slice (some ⟨g0, off, none⟩) 6 c1, .pointer (some ⟨g0, off + 2, none⟩), .int .i64 a2, .slice (some ⟨g0, off, none⟩) 6 c1, .pointer (some ⟨g0, off + 3, none⟩), .int .i64 a3, .slice (some ⟨g0, off, none⟩) 6 c1, .pointer (some ⟨g0, off + 4, none⟩), .int .i64 a4, .agg #[.int .i64 a3, .int .i64 a4], .agg #[.int .i64 a0, .int .i64 a1, .int .i64 a2, .int .i64 a3, .int .i64 a4, .slice none 0 0], .slice A4 (k * 4) c4, .func (.func 69) #[] #[.pointer (some ⟨D, 0, none⟩), .pointer (some ⟨D + 1, 0, none⟩)], .slice d.A d.n d.n, undef, undef, undef, undef, undef, undef, undef, undef, undef, undef, undef, undef, undef, undef, undef, undef, undef, undef, undef, undef], defers := [] })
    (fun _ _ _ _ _ _ h hi ho => ⟨rd_putI hi ho h.1, h.2⟩) ?assign ?body ?done ?stop
  case assign =>
    intro lp pre d W' hI hok
    gi_wp2
    exact ⟨KeepsFrom.refl _ _, KpZ.refl _ _ _, hI, hok.2.2.2.2.1, by first | rfl | trivial⟩
  case body =>
    rintro lp pre d a' W hI ⟨hrd, rfl⟩ ⟨_, hok⟩
    obtain ⟨dA, dn, dl⟩ := d
    obtain ⟨-, hdl, hne, hdn, -, hdA⟩ := hok
    dsimp only at hrd hdl hne hdn hdA
    dsimp only
    obtain ⟨-, -, -, l5, lz, hnl, hc4, hk60, hall⟩ := H0.out
    have hd := Hd.out
    have hpl : 4 * pre.length < k * 4 := by
      have h1 : 0 < (l.drop (4 * pre.length)).length := List.length_pos_iff.2 hne
      rw [List.length_drop, hnl] at h1
      omega
    have hdl4 : dl.length = 4 := by rw [hdl, List.length_take, List.length_drop, hnl]; omega
    obtain ⟨x0, x1, x2, x3, hxl⟩ := list4L dl hdl4
    subst hxl
    obtain rfl : dn = 4 := by rw [hdn]; rfl
    obtain ⟨g4, off4, hA4, hg4, -⟩ := l5.at_ (show 0 < k * 4 by omega)
    obtain ⟨bl, ow, hdA2, -, hcell⟩ := hrd.at_ (show 0 < 4 by omega)
    have hbl : bl = g4 := by
      rw [hdA2, hA4] at hdA
      simp only [Option.map_some, add_plain'] at hdA
      have := Option.some.inj hdA
      exact congrArg Addr.block this
    subst hbl
    have hzg : z < bl := lz bl (by rw [hA4]; rfl)
    subst hdA2
    have p0 : W.cell? ⟨bl, ow, none⟩ = some (.int .i64 x0) := hcell 0 (by omega)
    have p1 : W.cell? ⟨bl, ow + 1, none⟩ = some (.int .i64 x1) := hcell 1 (by omega)
    have p2 : W.cell? ⟨bl, ow + 2, none⟩ = some (.int .i64 x2) := hcell 2 (by omega)
    have p3 : W.cell? ⟨bl, ow + 3, none⟩ = some (.int .i64 x3) := hcell 3 (by omega)
    have hx3 : Nu.isNum x3 = true := by
      refine List.all_eq_true.1 hall x3 ?_
      have h1 : x3 ∈ (l.drop (4 * pre.length)).take 4 := by rw [← hdl]; simp
      exact List.mem_of_mem_drop (List.mem_of_mem_take h1)
    have hx3r := Nu.isNum_iff.1 hx3
    obtain ⟨y3, hy3⟩ : ∃ y3, y3 = x3 - 1 := ⟨_, rfl⟩
    have wr1 : IntKind.i64.wrap (x3 - 1) = y3 := by rw [IntKind.wrap_i64]; omega
    have wr2 : wrap64 (x3 - 1) = y3 := by unfold wrap64; omega
    have hseg : segOf [x0, x1, x2, x3] = ⟨x0, x1, x2, y3⟩ := by rw [hy3]; rfl
    obtain ⟨q, hq⟩ : ∃ q, pre.length = q := ⟨_, rfl⟩
    obtain ⟨v, hv, hrow⟩ := hI.row
    rw [hq] at hrow
    obtain ⟨A3, e3, rfl, -⟩ := own_slice hrow
    obtain ⟨-, -, -, -, -, hc5⟩ := hv.cells
    obtain ⟨y, hy⟩ : ∃ y, y = W.heap.size := ⟨_, rfl⟩
    obtain ⟨W1, hW1⟩ : ∃ W1, W1 = W.drew.alloc (.cells #[.int .i64 x0, .int .i64 x1, .int .i64 x2, .int .i64 y3] 51) := ⟨_, rfl⟩
    have hbe : Below W.heap.size W W1 := by rw [hW1]; exact below_al (below_dr (below_d0 W)) _
    have hv1 := hv.below hbe
    obtain ⟨-, -, -, -, -, hc5'⟩ := hv1.cells
    have hrow1 : OwnS W1 w5.heap.size (.slice A3 q e3) q (pre.map fun h => segOf h.l) := own_at hrow fun j hj => hbe.block j (hrow.lt j hj).2
    have hgW : bl < W.heap.size := World.block_lt_of_cell? W _ p0
    have p0' : W1.cell? ⟨bl, ow, none⟩ = some (.int .i64 x0) := (hbe.cell (p := ⟨bl, ow, none⟩) hgW).trans p0
    have p1' : W1.cell? ⟨bl, ow + 1, none⟩ = some (.int .i64 x1) := (hbe.cell (p := ⟨bl, ow + 1, none⟩) hgW).trans p1
    have p2' : W1.cell? ⟨bl, ow + 2, none⟩ = some (.int .i64 x2) := (hbe.cell (p := ⟨bl, ow + 2, none⟩) hgW).trans p2
    have p3' : W1.cell? ⟨bl, ow + 3, none⟩ = some (.int .i64 x3) := (hbe.cell (p := ⟨bl, ow + 3, none⟩) hgW).trans p3
    have kS : W1.cell? ⟨bl, ow, none⟩ = some (.int .i64 x0) ∧ W1.cell? ⟨bl, ow + 1, none⟩ = some (.int .i64 x1) ∧ W1.cell? ⟨bl, ow + 2, none⟩ = some (.int .i64 x2) ∧ W1.cell? ⟨bl, ow + 3, none⟩ = some (.int .i64 x3) := ⟨p0', p1', p2', p3'⟩
    have hsrc : Source W1 4 (some ⟨y, 0, none⟩) 1 (SegP.cs ⟨x0, x1, x2, y3⟩) := by rw [hW1]; exact Source.one (w := W.drew) (t := 51) (cs := SegP.cs ⟨x0, x1, x2, y3⟩) rfl (SegP.one _) hy
    have hIl := hI.low
    have hIs := hI.size
    have HA := Lib.hid (⟨hrow1, hsrc, (show q + 1 ≤ maxLen by unfold maxLen; omega), (show (q + 1) * 32 ≤ 140737488355328 by omega), (show w5.heap.size ≤ W1.heap.size by have := hbe.size; omega)⟩ : _ ∧ _ ∧ _ ∧ _ ∧ _)
    have fin : ∀ (v' : Value) (w7 : World), Longer w5.heap.size 51 4 W1 (.slice A3 q e3) (q + 1) ((pre.map fun h => segOf h.l).flatMap SegP.cs ++ SegP.cs ⟨x0, x1, x2, y3⟩) v' w7 →
        (w7.cell? ⟨bl, ow, none⟩ = some (.int .i64 x0) ∧ w7.cell? ⟨bl, ow + 1, none⟩ = some (.int .i64 x1) ∧ w7.cell? ⟨bl, ow + 2, none⟩ = some (.int .i64 x2) ∧ w7.cell? ⟨bl, ow + 3, none⟩ = some (.int .i64 x3)) ∧ w7.cell? ⟨z, 5, none⟩ = some (.slice A3 q e3) ∧ w7.frozen? ⟨z, 5, none⟩ = false ∧
        (((w7.setCell ⟨z, 5, none⟩ v').cell? ⟨bl, ow, none⟩ = some (.int .i64 x0) ∧ (w7.setCell ⟨z, 5, none⟩ v').cell? ⟨bl, ow + 1, none⟩ = some (.int .i64 x1) ∧ (w7.setCell ⟨z, 5, none⟩ v').cell? ⟨bl, ow + 2, none⟩ = some (.int .i64 x2) ∧ (w7.setCell ⟨z, 5, none⟩ v').cell? ⟨bl, ow + 3, none⟩ = some (.int .i64 x3)) ∧
         ∀ ac, ownPostG w5.heap.size (KpZ w5.heap.size z) (RdInv w [a0, a1, a2, a3, a4, a5] z w5.heap.size) (fun _ _ _ => False) (pre ++ [(⟨some ⟨bl, ow, none⟩, 4, [x0, x1, x2, x3]⟩ : HJ)]) W .normal ac (w7.setCell ⟨z, 5, none⟩ v')) := fun v' w7 L => by
      have hlow : ∀ j, j < w5.heap.size → w7.heap[j]? = W1.heap[j]? := fun j hj => L.2.1.block j (by have := hbe.size; omega) (fun e => by have := (hrow1.lt j e.symm).1; omega)
      have hv7 : BoxM w7 z (manOf [a0, a1, a2, a3, a4, a5] []) (.slice A3 q e3) := (hlow z (by omega)).trans hv1
      have h7 : w7.heap[bl]? = W1.heap[bl]? := hlow bl (by omega)
      have h9 : (w7.setCell ⟨z, 5, none⟩ v').heap[bl]? = W1.heap[bl]? := (Below.heap_setCell _ _ _ bl (by simp; omega)).trans h7
      obtain ⟨-, -, -, -, -, c7⟩ := hv7.cells
      refine ⟨⟨(World.cell?_of_block (a := ⟨bl, ow, none⟩) h7).trans p0', (World.cell?_of_block (a := ⟨bl, ow + 1, none⟩) h7).trans p1', (World.cell?_of_block (a := ⟨bl, ow + 2, none⟩) h7).trans p2', (World.cell?_of_block (a := ⟨bl, ow + 3, none⟩) h7).trans p3'⟩, c7, hv7.frozen 5,
        ⟨(World.cell?_of_block (a := ⟨bl, ow, none⟩) h9).trans p0', (World.cell?_of_block (a := ⟨bl, ow + 1, none⟩) h9).trans p1', (World.cell?_of_block (a := ⟨bl, ow + 2, none⟩) h9).trans p2', (World.cell?_of_block (a := ⟨bl, ow + 3, none⟩) h9).trans p3'⟩, fun a3' => ?_⟩
      have hrow9 : OwnS (w7.setCell ⟨z, 5, none⟩ v') w5.heap.size v' (q + 1) ((pre ++ [(⟨some ⟨bl, ow, none⟩, 4, [x0, x1, x2, x3]⟩ : HJ)]).map fun h => segOf h.l) := by
        have h1 : OwnS w7 w5.heap.size v' (q + 1) ((pre ++ [(⟨some ⟨bl, ow, none⟩, 4, [x0, x1, x2, x3]⟩ : HJ)]).map fun h => segOf h.l) := by
          rw [List.map_append, OwnS, List.flatMap_append]
          have h2 := L.1
          rw [← hseg] at h2
          simpa using h2
        exact own_at h1 fun j hj => Below.heap_setCell _ _ _ j (by have := (h1.lt j hj).1; simp; omega)
      have hko : KeepsOthers W (w7.setCell ⟨z, 5, none⟩ v') := by
        have k1 : KeepsOthers W W1 := by rw [hW1]; exact (KeepsOthers.drew W).trans (KeepsOthers.alloc _ _)
        refine (k1.trans (KeepsOthers.of_grownBy L.2.1 fun j o ej hj => ?_)).trans (KeepsOthers.setCell _ _ _)
        rcases hrow1.2 with ⟨e, _⟩ | ⟨g, cap, cur, e, _, hgb, _⟩
        · rw [e] at ej; simp [Value.ownBlock] at ej
        · rw [e] at ej
          obtain rfl : g = j := by simpa [Value.ownBlock] using ej
          rw [hgb] at hj; cases hj; rfl
      have hB7 : Below w.heap.size w w7 := L.below (hIl.trans (hbe.mono hIl.size)) (hIl.trans (hbe.mono hIl.size)).size (fun g hg => by have := (hrow1.lt g hg).1; omega)
      refine ⟨hko.from _, ⟨fun j hj hjz => ?_, hko.size⟩, ⟨⟨v', put5_box hv7 v', by rw [List.length_append, hq]; exact hrow9⟩, hB7.setCell (p := ⟨z, 5, none⟩) (by show w.heap.size ≤ z; omega) _, Nat.le_trans hIs hko.size⟩⟩
      exact (Below.heap_setCell _ _ _ j (by simpa using hjz)).trans ((hlow j hj).trans (hbe.block j (by omega)))
    have HF := Lib.hid fin
    clear fin hI hrd hdl hne hdn hdA l5 lz hnl hc4 hk60 hall hd hpl hdl4 hA4 hg4 hcell hzg hx3 hx3r hy3 hseg hv hrow hbe hv1 hrow1 hgW hsrc hIl hIs hq p0' p1' p2' p3'
    gi_wp2_with fail
    refine wpIn_region_held_round (S := fun W2 => W2.cell? ⟨bl, ow, none⟩ = some (.int .i64 x0) ∧ W2.cell? ⟨bl, ow + 1, none⟩ = some (.int .i64 x1) ∧ W2.cell? ⟨bl, ow + 2, none⟩ = some (.int .i64 x2) ∧ W2.cell? ⟨bl, ow + 3, none⟩ = some (.int .i64 x3)) (by kernel_rfl) (by simp) (fun ⟨_, _, h⟩ => h) ⟨p0, p1, p2, p3⟩ (fun hHeld => ?_)
    refine take_at (i := 0) (d := 61) (oi := ?o1) (v := ?v1) ?hi1 ?hd1 (by kernel_rfl) (by kernel_rfl) (by kernel_rfl) ?hw1 ?hy1 ?hq1 (by assumption) ?r1
    case hi1 => (simp only [List.getElem?_toArray, List.getElem?_cons_zero]; rfl)
    case hd1 => rfl
    case hw1 => rfl
    case hy1 => ((intro w hSw; (try dsimp only at hSw); obtain ⟨s0, s1, s2, s3⟩ := hSw; go_simp) <;> (with_reducible rfl))
    case hq1 => exact fun _ _ _ h => h
    simp only [List.set_cons_succ, List.set_cons_zero]
    refine take_at (i := 2) (d := 63) (oi := ?o2) (v := ?v2) ?hi2 ?hd2 (by kernel_rfl) (by kernel_rfl) (by kernel_rfl) ?hw2 ?hy2 ?hq2 (by assumption) ?r2
    case hi2 => (simp only [List.getElem?_toArray, List.getElem?_cons_succ, List.getElem?_cons_zero]; rfl)
    case hd2 => rfl
    case hw2 => rfl
    case hy2 => ((intro w hSw; (try dsimp only at hSw); obtain ⟨s0, s1, s2, s3⟩ := hSw; go_simp) <;> (with_reducible rfl))
    case hq2 => exact fun _ _ _ h => h
    simp only [List.set_cons_succ, List.set_cons_zero]
    refine take_at (i := 3) (d := 64) (oi := ?o3) (v := ?v3) ?hi3 ?hd3 (by kernel_rfl) (by kernel_rfl) (by kernel_rfl) ?hw3 ?hy3 ?hq3 (by assumption) ?r3
    case hi3 => (simp only [List.getElem?_toArray, List.getElem?_cons_succ, List.getElem?_cons_zero]; rfl)
    case hd3 => rfl
    case hw3 => rfl
    case hy3 => ((intro w hSw; (try dsimp only at hSw); obtain ⟨s0, s1, s2, s3⟩ := hSw; go_simp) <;> (with_reducible rfl))
    case hq3 => exact fun _ _ _ h => h
    simp only [List.set_cons_succ, List.set_cons_zero]
    refine take_at (i := 4) (d := 65) (oi := ?o4) (v := ?v4) ?hi4 ?hd4 (by kernel_rfl) (by kernel_rfl) (by kernel_rfl) ?hw4 ?hy4 ?hq4 (by assumption) ?r4
    case hi4 => (simp only [List.getElem?_toArray, List.getElem?_cons_succ, List.getElem?_cons_zero]; rfl)
    case hd4 => rfl
    case hw4 => rfl
    case hy4 => ((intro w hSw; (try dsimp only at hSw); obtain ⟨s0, s1, s2, s3⟩ := hSw; go_simp) <;> (with_reducible rfl))
    case hq4 => exact fun _ _ _ h => h
    simp only [List.set_cons_succ, List.set_cons_zero]
    refine take_at (i := 5) (d := 66) (oi := ?o5) (v := ?v5) ?hi5 ?hd5 (by kernel_rfl) (by kernel_rfl) (by kernel_rfl) ?hw5 ?hy5 ?hq5 (by assumption) ?r5
    case hi5 => (simp only [List.getElem?_toArray, List.getElem?_cons_succ, List.getElem?_cons_zero]; rfl)
    case hd5 => rfl
    case hw5 => rfl
    case hy5 => ((intro w hSw; (try dsimp only at hSw); obtain ⟨s0, s1, s2, s3⟩ := hSw; go_simp) <;> (with_reducible rfl))
    case hq5 => exact fun _ _ _ h => h
    simp only [List.set_cons_succ, List.set_cons_zero]
    refine take_at (i := 6) (d := 67) (oi := ?o6) (v := ?v6) ?hi6 ?hd6 (by kernel_rfl) (by kernel_rfl) (by kernel_rfl) ?hw6 ?hy6 ?hq6 (by assumption) ?r6
    case hi6 => (simp only [List.getElem?_toArray, List.getElem?_cons_succ, List.getElem?_cons_zero]; rfl)
    case hd6 => rfl
    case hw6 => rfl
    case hy6 => ((intro w hSw; (try dsimp only at hSw); obtain ⟨s0, s1, s2, s3⟩ := hSw; go_simp) <;> (with_reducible rfl))
    case hq6 => exact fun _ _ _ h => h
    simp only [List.set_cons_succ, List.set_cons_zero]
    refine take_at (i := 7) (d := 68) (oi := ?o7) (v := ?v7) ?hi7 ?hd7 (by kernel_rfl) (by kernel_rfl) (by kernel_rfl) ?hw7 ?hy7 ?hq7 (by assumption) ?r7
    case hi7 => (simp only [List.getElem?_toArray, List.getElem?_cons_succ, List.getElem?_cons_zero]; rfl)
    case hd7 => rfl
    case hw7 => rfl
    case hy7 => ((intro w hSw; (try dsimp only at hSw); obtain ⟨s0, s1, s2, s3⟩ := hSw; go_simp) <;> (with_reducible rfl))
    case hq7 => exact fun _ _ _ h => h
    simp only [List.set_cons_succ, List.set_cons_zero]
    refine take_at (i := 8) (d := 69) (oi := ?o8) (v := ?v8) ?hi8 ?hd8 (by kernel_rfl) (by kernel_rfl) (by kernel_rfl) ?hw8 ?hy8 ?hq8 (by assumption) ?r8
    case hi8 => (simp only [List.getElem?_toArray, List.getElem?_cons_succ, List.getElem?_cons_zero]; rfl)
    case hd8 => rfl
    case hw8 => rfl
    case hy8 => ((intro w hSw; (try dsimp only at hSw); obtain ⟨s0, s1, s2, s3⟩ := hSw; go_simp) <;> (with_reducible rfl))
    case hq8 => exact fun _ _ _ h => h
    simp only [List.set_cons_succ, List.set_cons_zero]
    refine take_at (i := 9) (d := 70) (oi := ?o9) (v := ?v9) ?hi9 ?hd9 (by kernel_rfl) (by kernel_rfl) (by kernel_rfl) ?hw9 ?hy9 ?hq9 (by assumption) ?r9
    case hi9 => (simp only [List.getElem?_toArray, List.getElem?_cons_succ, List.getElem?_cons_zero]; rfl)
    case hd9 => rfl
    case hw9 => rfl
    case hy9 => ((intro w hSw; (try dsimp only at hSw); obtain ⟨s0, s1, s2, s3⟩ := hSw; go_simp) <;> (with_reducible rfl))
    case hq9 => exact fun _ _ _ h => h
    simp only [List.set_cons_succ, List.set_cons_zero]
    refine take_at (i := 10) (d := 71) (oi := ?o10) (v := ?v10) ?hi10 ?hd10 (by kernel_rfl) (by kernel_rfl) (by kernel_rfl) ?hw10 ?hy10 ?hq10 (by assumption) ?r10
    case hi10 => (simp only [List.getElem?_toArray, List.getElem?_cons_succ, List.getElem?_cons_zero]; rfl)
    case hd10 => rfl
    case hw10 => rfl
    case hy10 => ((intro w hSw; (try dsimp only at hSw); obtain ⟨s0, s1, s2, s3⟩ := hSw; go_simp) <;> (with_reducible rfl))
    case hq10 => exact fun _ _ _ h => h
    simp only [List.set_cons_succ, List.set_cons_zero]
    refine take_at (i := 11) (d := 72) (oi := ?o11) (v := ?v11) ?hi11 ?hd11 (by kernel_rfl) (by kernel_rfl) (by kernel_rfl) ?hw11 ?hy11 ?hq11 (by assumption) ?r11
    case hi11 => (simp only [List.getElem?_toArray, List.getElem?_cons_succ, List.getElem?_cons_zero]; rfl)
    case hd11 => rfl
    case hw11 => rfl
    case hy11 => ((intro w hSw; (try dsimp only at hSw); obtain ⟨s0, s1, s2, s3⟩ := hSw; go_simp) <;> (with_reducible rfl))
    case hq11 => exact fun _ _ _ h => h
    simp only [List.set_cons_succ, List.set_cons_zero]
    refine take_at (i := 12) (d := 73) (oi := ?o12) (v := ?v12) ?hi12 ?hd12 (by kernel_rfl) (by kernel_rfl) (by kernel_rfl) ?hw12 ?hy12 ?hq12 (by assumption) ?r12
    case hi12 => (simp only [List.getElem?_toArray, List.getElem?_cons_succ, List.getElem?_cons_zero]; rfl)
    case hd12 => rfl
    case hw12 => rfl
    case hy12 => ((intro w hSw; (try dsimp only at hSw); obtain ⟨s0, s1, s2, s3⟩ := hSw; go_simp) <;> (with_reducible rfl))
    case hq12 => exact fun _ _ _ h => h
    simp only [List.set_cons_succ, List.set_cons_zero]
    refine take_at (i := 13) (d := 74) (oi := ?o13) (v := ?v13) ?hi13 ?hd13 (by kernel_rfl) (by kernel_rfl) (by kernel_rfl) ?hw13 ?hy13 ?hq13 (by assumption) ?r13
    case hi13 => (simp only [List.getElem?_toArray, List.getElem?_cons_succ, List.getElem?_cons_zero]; rfl)
    case hd13 => rfl
    case hw13 => rfl
    case hy13 => ((intro w hSw; (try dsimp only at hSw); obtain ⟨s0, s1, s2, s3⟩ := hSw; go_simp) <;> (with_reducible rfl))
    case hq13 => exact fun _ _ _ h => h
    simp only [List.set_cons_succ, List.set_cons_zero]
    refine take_at (i := 14) (d := 75) (oi := ?o14) (v := ?v14) ?hi14 ?hd14 (by kernel_rfl) (by kernel_rfl) (by kernel_rfl) ?hw14 ?hy14 ?hq14 (by assumption) ?r14
    case hi14 => (simp only [List.getElem?_toArray, List.getElem?_cons_succ, List.getElem?_cons_zero]; rfl)
    case hd14 => rfl
    case hw14 => rfl
    case hy14 => ((intro w hSw; (try dsimp only at hSw); obtain ⟨s0, s1, s2, s3⟩ := hSw; go_simp) <;> (with_reducible rfl))
    case hq14 => exact fun _ _ _ h => h
    simp only [List.set_cons_succ, List.set_cons_zero]
    refine take_at (i := 15) (d := 76) (oi := ?o15) (v := ?v15) ?hi15 ?hd15 (by kernel_rfl) (by kernel_rfl) (by kernel_rfl) ?hw15 ?hy15 ?hq15 (by assumption) ?r15
    case hi15 => (simp only [List.getElem?_toArray, List.getElem?_cons_succ, List.getElem?_cons_zero]; rfl)
    case hd15 => rfl
    case hw15 => rfl
    case hy15 => ((intro w hSw; (try dsimp only at hSw); obtain ⟨s0, s1, s2, s3⟩ := hSw; go_simp) <;> (with_reducible rfl))
    case hq15 => exact fun _ _ _ h => h
    simp only [List.set_cons_succ, List.set_cons_zero]
    refine wpAnyH_ready (rs := [1, 16]) (by kernel_rfl) (by simp) ?_
    apply two_ready
    · refine br_val (i := 1) (d := 62) (oi := ?o501) (v := .slice A3 q e3) (w' := W.drew) ?hi501 ?hd501 ?hw501 ?he501 hHeld ?hc501
      case hi501 => (simp only [List.getElem?_toArray, List.getElem?_cons_succ, List.getElem?_cons_zero]; rfl)
      case hd501 => rfl
      case hw501 => rfl
      case he501 => (go_simp <;> with_reducible rfl)
      intro hHeld
      simp only [List.set_cons_succ, List.set_cons_zero]
      refine wpAnyH_ready (rs := [16]) (by kernel_rfl) (by simp) ?_
      refine br_val (i := 16) (d := 77) (oi := ?o502) (v := .slice (some ⟨y, 0, none⟩) 1 1) (w' := W1) ?hi502 ?hd502 ?hw502 ?he502 kS ?hc502
      case hi502 => (simp only [List.getElem?_toArray, List.getElem?_cons_succ, List.getElem?_cons_zero]; rfl)
      case hd502 => rfl
      case hw502 => rfl
      case he502 => (rw [hW1, hy]; go_simp <;> with_reducible rfl)
      intro hHeld
      simp only [List.set_cons_succ, List.set_cons_zero]
      refine wpAnyH_ready (rs := [17]) (by kernel_rfl) (by simp) ?_
      refine br_append (i := 17) (d := 78) (oi := ?o503) (t := 24) (c := 1) (.tmp 62) (.tmp 77) Tryd.underlying24 hi hz0 hz1 hz2 seg_cells (by omega) HA.out.1 HA.out.2.1 HA.out.2.2.1 HA.out.2.2.2.1 HA.out.2.2.2.2 ?hi503 ?hd503 ?hw503 ?ho503 ?hs503 ?hx503 ?hc503
      case hi503 => (simp only [List.getElem?_toArray, List.getElem?_cons_succ, List.getElem?_cons_zero]; rfl)
      case hd503 => rfl
      case hw503 => rfl
      case ho503 => rfl
      case hs503 => rfl
      case hx503 => rfl
      intro v' w7 L7
      obtain ⟨A5, e5, hv5, -⟩ := own_slice L7.1
      subst hv5
      obtain ⟨s7, c7, f7, fin7⟩ := HF.out _ _ L7
      refine ⟨s7, fun hHeld => ?_⟩
      simp only [List.set_cons_succ, List.set_cons_zero]
      refine wpAnyH_ready (rs := [18]) (by kernel_rfl) (by simp) ?_
      refine br_val (i := 18) (d := 79) (oi := ?o701) (v := .pointer (some ⟨z, 5, none⟩)) (w' := w7) ?hi701 ?hd701 ?hw701 ?he701 s7 ?hc701
      case hi701 => (simp only [List.getElem?_toArray, List.getElem?_cons_succ, List.getElem?_cons_zero]; rfl)
      case hd701 => rfl
      case hw701 => rfl
      case he701 => (go_simp <;> with_reducible rfl)
      intro hHeld
      simp only [List.set_cons_succ, List.set_cons_zero]
      refine wpAnyH_ready (rs := [19]) (by kernel_rfl) (by simp) ?_
      refine br_store (i := 19) (oi := ?o504) (w' := w7.setCell ⟨z, 5, none⟩ (.slice A5 (q + 1) e5)) ?hi504 ?hd504 ?hw504 ?he504 fin7.1 ?hc504
      case hi504 => (simp only [List.getElem?_toArray, List.getElem?_cons_succ, List.getElem?_cons_zero]; rfl)
      case hd504 => rfl
      case hw504 => rfl
      case he504 => (go_simp <;> with_reducible rfl)
      intro hHeld
      refine wpAnyH_done (by kernel_rfl) ?_ _
      exact fin7.2 ⟨#[], []⟩
    · refine br_val (i := 16) (d := 77) (oi := ?o505) (v := .slice (some ⟨y, 0, none⟩) 1 1) (w' := W1) ?hi505 ?hd505 ?hw505 ?he505 kS ?hc505
      case hi505 => (simp only [List.getElem?_toArray, List.getElem?_cons_succ, List.getElem?_cons_zero]; rfl)
      case hd505 => rfl
      case hw505 => rfl
      case he505 => (rw [hW1, hy]; go_simp <;> with_reducible rfl)
      clear hW1 hy
      intro hHeld
      simp only [List.set_cons_succ, List.set_cons_zero]
      refine wpAnyH_ready (rs := [1]) (by kernel_rfl) (by simp) ?_
      refine br_val (i := 1) (d := 62) (oi := ?o506) (v := .slice A3 q e3) (w' := W1) ?hi506 ?hd506 ?hw506 ?he506 kS ?hc506
      case hi506 => (simp only [List.getElem?_toArray, List.getElem?_cons_succ, List.getElem?_cons_zero]; rfl)
      case hd506 => rfl
      case hw506 => rfl
      case he506 => (go_simp <;> with_reducible rfl)
      intro hHeld
      simp only [List.set_cons_succ, List.set_cons_zero]
      refine wpAnyH_ready (rs := [17]) (by kernel_rfl) (by simp) ?_
      refine br_append (i := 17) (d := 78) (oi := ?o507) (t := 24) (c := 1) (.tmp 62) (.tmp 77) Tryd.underlying24 hi hz0 hz1 hz2 seg_cells (by omega) HA.out.1 HA.out.2.1 HA.out.2.2.1 HA.out.2.2.2.1 HA.out.2.2.2.2 ?hi507 ?hd507 ?hw507 ?ho507 ?hs507 ?hx507 ?hc507
      case hi507 => (simp only [List.getElem?_toArray, List.getElem?_cons_succ, List.getElem?_cons_zero]; rfl)
      case hd507 => rfl
      case hw507 => rfl
      case ho507 => rfl
      case hs507 => rfl
      case hx507 => rfl
      intro v' w7 L7
      obtain ⟨A5, e5, hv5, -⟩ := own_slice L7.1
      subst hv5
      obtain ⟨s7, c7, f7, fin7⟩ := HF.out _ _ L7
      refine ⟨s7, fun hHeld => ?_⟩
      simp only [List.set_cons_succ, List.set_cons_zero]
      refine wpAnyH_ready (rs := [18]) (by kernel_rfl) (by simp) ?_
      refine br_val (i := 18) (d := 79) (oi := ?o702) (v := .pointer (some ⟨z, 5, none⟩)) (w' := w7) ?hi702 ?hd702 ?hw702 ?he702 s7 ?hc702
      case hi702 => (simp only [List.getElem?_toArray, List.getElem?_cons_succ, List.getElem?_cons_zero]; rfl)
      case hd702 => rfl
      case hw702 => rfl
      case he702 => (go_simp <;> with_reducible rfl)
      intro hHeld
      simp only [List.set_cons_succ, List.set_cons_zero]
      refine wpAnyH_ready (rs := [19]) (by kernel_rfl) (by simp) ?_
      refine br_store (i := 19) (oi := ?o508) (w' := w7.setCell ⟨z, 5, none⟩ (.slice A5 (q + 1) e5)) ?hi508 ?hd508 ?hw508 ?he508 fin7.1 ?hc508
      case hi508 => (simp only [List.getElem?_toArray, List.getElem?_cons_succ, List.getElem?_cons_zero]; rfl)
      case hd508 => rfl
      case hw508 => rfl
      case he508 => (go_simp <;> with_reducible rfl)
      intro hHeld
      refine wpAnyH_done (by kernel_rfl) ?_ _
      exact fin7.2 ⟨#[], []⟩
  case stop =>
    rintro D' cc pre W _ h _
    exact h.elim
  case done =>
    rintro D' ys W hD2 hys hI hK
    have B5w := Lib.hid (show w.heap.size ≤ w5.heap.size by have := Hd.out; omega)
    obtain ⟨v, hv, hrow⟩ := hI.row
    have hyl : (ys.map fun h => segOf h.l) = segsOf l := by
      rw [segsOf, ← hys, List.map_map]
      rfl
    obtain ⟨q, hq⟩ : ∃ q, ys.length = q := ⟨_, rfl⟩
    rw [hyl, hq] at hrow
    obtain ⟨A3, e3, rfl, -⟩ := own_slice hrow
    obtain ⟨m0, m1, m2, m3, m4, m5⟩ := hv.cells
    have f0 := hv.frozen 0
    have f1 := hv.frozen 1
    have f2 := hv.frozen 2
    have f3 := hv.frozen 3
    have f4 := hv.frozen 4
    have f5 := hv.frozen 5
    obtain ⟨W', hW'⟩ : ∃ W', W' = putM W z (manOf [a0, a1, a2, a3, a4, a5] l) (.slice A3 q e3) := ⟨_, rfl⟩
    have hd := Hd.out
    have x9 : BoxM W' z (manOf [a0, a1, a2, a3, a4, a5] l) (.slice A3 q e3) := by rw [hW']; exact putM_box hv _ _
    have B9 : Below w.heap.size w W' := by rw [hW']; exact putM_below hd.1 _ _ hI.low
    have o9 : OwnS W' w5.heap.size (.slice A3 q e3) q (segsOf l) := own_at hrow fun j hj => by
      rw [hW']
      exact putM_other (W := W) (z := z) _ _ (by have := (hrow.lt j hj).1; omega)
    have k9 : W'.heap[D']? = some (.deferred (some [])) := by
      rw [hW']
      exact (putM_other (W := W) (z := z) _ _ (by omega)).trans hK
    have e9 : W' = (((((W.setCell ⟨z, 0, none⟩ (.int .i64 (manOf [a0, a1, a2, a3, a4, a5] []).nx)).setCell ⟨z, 1, none⟩ (.int .i64 (manOf [a0, a1, a2, a3, a4, a5] []).tm)).setCell ⟨z, 2, none⟩ (.int .i64 (manOf [a0, a1, a2, a3, a4, a5] []).vt)).setCell ⟨z, 3, none⟩ (.int .i64 (manOf [a0, a1, a2, a3, a4, a5] []).ss)).setCell ⟨z, 4, none⟩ (.int .i64 (manOf [a0, a1, a2, a3, a4, a5] []).sf)).setCell ⟨z, 5, none⟩ (.slice A3 q e3) := hW'
    have HD := Lib.hid (⟨x9, B9, o9, k9, e9, hD2⟩ : _ ∧ _ ∧ _ ∧ _ ∧ _ ∧ _)
    clear hI hrow hv hW' hd x9 B9 o9 k9 e9 hD2 hq hyl hys hK
    gi_wp2_with fail
    obtain ⟨x9, B9, o9, k9, e9, hD2⟩ := HD.out
    rw [← e9]
    clear m0 m1 m2 m3 m4 m5 f0 f1 f2 f3 f4 f5 e9
    refine leaves_marks (B := w.heap.size) [D'] _ ⟨by simp, fun d hd => ?_⟩ fun w' hw' => ⟨.tuple #[.agg #[.int .i64 a0, .int .i64 a1, .int .i64 a2, .int .i64 a3, .int .i64 a4, .slice A3 q e3], .bool true], ?_, ⟨manOf [a0, a1, a2, a3, a4, a5] l, A3, q, e3, true, rfl, HY.out, ?_⟩, B9.trans hw'.1⟩
    · obtain rfl : d = D' := by simpa using hd
      have hd := Hd.out
      exact ⟨by omega, k9⟩
    · have hx9 : BoxM w' z (manOf [a0, a1, a2, a3, a4, a5] l) (.slice A3 q e3) := hw'.2 _ _ x9 rfl
      obtain ⟨y0, y1, y2, y3, y4, y5⟩ := hx9.cells
      simp [manOf] at y0 y1 y2 y3 y4 y5
      simp [results, Tryd.results35, go_sem, y0, y1, y2, y3, y4, y5]
    · exact own_lowS (own_marks o9 hw') B5w.out

theorem read_any (A : Option Addr) (n c : Nat) (b : List Int) (w : World) (hl : Rd w w.heap.size .u8 A n b) (hb : Byt b) (hnc : n ≤ c) (hn : n ≤ 1000000) :
    Calls Tryd.prog 35 #[.slice A n c] w (ReadT b w) := callsIn_wide.1 (read_in A n c b w hl hb hnc hn)
end Go.Proofs.YtafeadplmcoilaaDoor
