/-
  manifest.Take: its contract.
-/
import Derived.Test.YtafeadplmcoilaaDoorReadM
import Derived.Test.YtafeadplmcoilaaDoorChkM
import Derived.Test.YtafeadplmcoilaaDoorCrcM
namespace Go.Proofs.YtafeadplmcoilaaDoor
open Go.RowKit Go.Maps
set_option linter.unusedVariables false
set_option linter.unusedSimpArgs false

theorem cut_tailM {P : Program} {t e : TypeId} {i : TypeInfo} (ht : P.underlying t = some (.slice e)) (hi : P.info? e = some i) (h1 : i.size = 1) (A : Option Addr) (n c k : Nat) (hk : k ≤ n) (hnc : n ≤ c) :
    ∃ A', (∀ W : World, (Instr.slice t (.slice A n c) (some (.int .i64 (k : Int))) none none).run P W = .ok (.slice A' (n - k) (c - k)) W) ∧ ∀ {w : World} {B : Nat} {kd : IntKind} {l : List Int}, Rd w B kd A n l → Rd w B kd A' (n - k) (l.drop k) := by
  have he : P.elem t = e := by simp [Program.elem, ht]
  have hu : P.underlying t = some (.slice (P.elem t)) := by rw [he]; exact ht
  refine ⟨if c = k then A else A.map (·.add k), fun W => ?_, fun h => h.cut hk hnc⟩
  rw [run_slice_l W t A n c hu .i64 (k : Int) (by omega) (by omega), he]
  simp [sizeOf, run_typeInfo, hi, h1, sliced, go_sem]
/-- What Take answers. -/
def TakeT (b : List Int) (w : World) (e : Ending) (w' : World) : Prop :=
  (∃ m A n c er, e = .returned (.tuple #[manV m (.slice A n c), .int .i64 er]) ∧ TakeIs b m er ∧ n ≤ 60 ∧ OwnS w' w.heap.size (.slice A n c) n m.sg) ∧ Below w.heap.size w w'
/-- What holds where there is none. -/
def TkJ (w : World) (z : Nat) (b : List Int) (a : Act) (W : World) : Prop :=
  ∃ (u0 u1 u3 u4 u5 u6 u7 u8 u9 u10 u11 u12 u13 u14 u15 u16 u17 u18 u19 u20 u21 u22 u23 u24 u25 u26 u27 u28 u29 u30 u31 u32 u33 u34 u35 u36 u37 u38 u39 : Value) (t : ManP) (v : Value), BoxM W z t v ∧ Below w.heap.size w W ∧ (∀ t, ¬ IsMan t b) ∧ a = { tmps := #[u0, u1, .pointer (some ⟨z, 0, none⟩), u3, u4, u5, u6, u7, u8, u9, u10, u11, u12, u13, u14, u15, u16, u17, u18, u19, u20, u21, u22, u23, u24, u25, u26, u27, u28, u29, u30, u31, u32, u33, u34, u35, u36, u37, u38, u39], defers := [] }
theorem read_few {b : List Int} {m : ManP} (h : ReadIs b m true) : m.sg.length ≤ 60 := by
  rcases h with ⟨_, _, _, h⟩ | ⟨h, _⟩
  · exact h
  · cases h
theorem read_mok {b : List Int} {m : ManP} (h : ReadIs b m true) : MOk m := by
  rcases h with ⟨_, h, _, _⟩ | ⟨h, _⟩
  · exact mok_nums h
  · cases h

set_option maxRecDepth 100000 in
set_option maxHeartbeats 4000000 in
theorem take_any (A : Option Addr) (n c : Nat) (b : List Int) (w : World) (hT : Cr.Tab w) (hl : Rd w w.heap.size .u8 A n b) (hb : Byt b) (hnc : n ≤ c) (hn : n ≤ 1000000) :
    Calls Tryd.prog 12 #[.slice A n c] w (TakeT b w) := by
  obtain ⟨z, hz⟩ : ∃ z, z = w.heap.size := ⟨_, rfl⟩
  obtain ⟨w0, hw0⟩ : ∃ w0, w0 = w.alloc (.cells #[.int .i64 0, .int .i64 0, .int .i64 0, .int .i64 0, .int .i64 0, .slice none 0 0] 26) := ⟨_, rfl⟩
  obtain ⟨y, hy⟩ : ∃ y, z + 1 = y := ⟨_, rfl⟩
  obtain ⟨w1, hw1⟩ : ∃ w1, w1 = w0.alloc (.cells #[.int .i64 0, .int .i64 0, .int .i64 0, .int .i64 0, .int .i64 0, .slice none 0 0] 26) := ⟨_, rfl⟩
  have s0 : w0.heap.size = y := by rw [hw0, ← hy, hz]; simp
  have b0 : Below w.heap.size w w0 := by rw [hw0]; exact below_al (below_d0 w) _
  have b1 : Below w0.heap.size w0 w1 := by rw [hw1]; exact below_al (below_d0 w0) _
  have B1 := b0.trans (b1.mono b0.size)
  have x0 : BoxM w0 z noneM (.slice none 0 0) := by rw [hw0, hz]; exact BoxM.new w noneM _
  have x1 := x0.below b1
  have y1 : BoxM w1 y noneM (.slice none 0 0) := by rw [hw1, ← s0]; exact BoxM.new w0 noneM _
  have hlt := x0.lt
  have hTk := Cr.take_c A n c b w1 (hT.on B1) (hl.on B1 B1.size) hb hnc (by omega)
  have HW := Lib.hid (⟨hw0, hw1, hz, hy, B1, x1, y1, hTk, hT, hb, hl.1⟩ : _ ∧ _ ∧ _ ∧ _ ∧ _ ∧ _ ∧ _ ∧ _ ∧ _ ∧ _ ∧ _)
  have Hz := Lib.hid (show w.heap.size ≤ z ∧ z < y by omega)
  clear s0 b0 b1 B1 x0 x1 y1 hlt hTk hw0 hw1 hz hy hT hl hb
  go_enter Tryd.func12, Tryd.ntmps12
  go_wp2_with fail
  rw [← HW.out.2.2.1, ← HW.out.1]
  refine scope_wp 0 (TkJ w z b) (fun _ _ => 0) rfl ?first ?pass
  case pass =>
    rintro a W ⟨u0, u1, u3, u4, u5, u6, u7, u8, u9, u10, u11, u12, u13, u14, u15, u16, u17, u18, u19, u20, u21, u22, u23, u24, u25, u26, u27, u28, u29, u30, u31, u32, u33, u34, u35, u36, u37, u38, u39, t, v, hbx, hB, hno, rfl⟩
    obtain ⟨c0, c1, c2, c3, c4, c5⟩ := hbx.cells
    have f0 := hbx.frozen 0
    have f1 := hbx.frozen 1
    have f2 := hbx.frozen 2
    have f3 := hbx.frozen 3
    have f4 := hbx.frozen 4
    have f5 := hbx.frozen 5
    have H := Lib.hid (⟨hbx, hB, hno⟩ : _ ∧ _ ∧ _)
    clear hbx hB hno
    go_wp2_with fail
    simp only [Exit.jump]
    obtain ⟨W', hW'⟩ : ∃ x, x = putM W z noneM (.slice none 0 0) := ⟨_, rfl⟩
    have b3 := putM_box H.out.1 noneM (.slice none 0 0)
    have hB3 := putM_below Hz.out.1 noneM (.slice none 0 0) H.out.2.1
    rw [← hW'] at b3 hB3
    obtain ⟨d0, d1, d2, d3, d4, d5⟩ := b3.cells
    have e : W' = (((((W.setCell ⟨z, 0, none⟩ (.int .i64 0)).setCell ⟨z, 1, none⟩ (.int .i64 0)).setCell ⟨z, 2, none⟩ (.int .i64 0)).setCell ⟨z, 3, none⟩ (.int .i64 0)).setCell ⟨z, 4, none⟩ (.int .i64 0)).setCell ⟨z, 5, none⟩ (.slice none 0 0) := hW'
    rw [← e]
    clear e hW' c0 c1 c2 c3 c4 c5 f0 f1 f2 f3 f4 f5
    exact bodyPost_ret (v := .tuple #[.agg #[.int .i64 0, .int .i64 0, .int .i64 0, .int .i64 0, .int .i64 0, .slice none 0 0], .int .i64 11]) (by simp [results, Tryd.results12, go_sem, d0, d1, d2, d3, d4, d5, noneM]) rfl ⟨⟨noneM, none, 0, 0, 11, rfl, .inr ⟨rfl, rfl, H.out.2.2⟩, by omega, World.ownsRow_nil _ _ _ _⟩, hB3⟩
  case first =>
    intro hrest
    go_wp2_with fail
    rw [← HW.out.2.1]
    rw [show w0.heap.size = y from by have h1 := HW.out.1; have h2 := HW.out.2.2.1; have h3 := HW.out.2.2.2.1; rw [h1, ← h3, h2]; simp]
    refine Calls.mono HW.out.2.2.2.2.2.2.2.1 ?_
    rintro e w2 ⟨hO, hb2⟩
    have z2 := HW.out.2.2.2.2.2.1.below hb2
    have y2 := HW.out.2.2.2.2.2.2.1.below hb2
    have B2 := HW.out.2.2.2.2.1.trans (hb2.mono HW.out.2.2.2.2.1.size)
    rcases hO with ⟨hok, rfl⟩ | ⟨hok, A2, c2, rfl, hc2, hr2⟩
    · have H2 := Lib.hid (⟨z2, B2, take_no_seal hok⟩ : _ ∧ _ ∧ _)
      clear z2 y2 B2 hok hb2
      go_wp2_with fail
      refine wp_goto ⟨rfl, _, _, _, _, _, _, _, _, _, _, _, _, _, _, _, _, _, _, _, _, _, _, _, _, _, _, _, _, _, _, _, _, _, _, _, _, _, _, _, noneM, .slice none 0 0, H2.out.1, H2.out.2.1, H2.out.2.2, rfl⟩
    obtain ⟨p, hp⟩ : ∃ p, b.take (b.length - 4) = p := ⟨_, rfl⟩
    obtain ⟨np, hnp⟩ : ∃ np, b.length - 4 = np := ⟨_, rfl⟩
    rw [hp, hnp] at hr2
    rw [hnp] at hc2 ⊢
    have hpb : Byt p := fun x hx => HW.out.2.2.2.2.2.2.2.2.2.1 x (List.mem_of_mem_take (by rw [hp]; exact hx))
    have hplen := hr2.1
    by_cases h0 : np = 0
    · have e0 : ((np : Int) == 0) = true := by simp [h0]
      have hpn : p = [] := List.eq_nil_of_length_eq_zero (by omega)
      have H2 := Lib.hid (⟨z2, B2, take_no_head hp (by rw [hpn]; simp)⟩ : _ ∧ _ ∧ _)
      clear z2 y2 B2 hok hb2 hp hpb hplen hc2 hr2 hpn
      subst h0
      go_wp2_with fail
      refine wp_goto ⟨rfl, _, _, _, _, _, _, _, _, _, _, _, _, _, _, _, _, _, _, _, _, _, _, _, _, _, _, _, _, _, _, _, _, _, _, _, _, _, _, _, noneM, .slice none 0 0, H2.out.1, H2.out.2.1, H2.out.2.2, rfl⟩
    have e0 : ((np : Int) == 0) = false := by simp; omega
    have hpos : 0 < np := by omega
    obtain ⟨bl, off, hA2, hbl, hcell⟩ := hr2.at_ (by omega)
    subst hA2
    have q0 := hcell 0 (by omega)
    rw [Nat.add_zero] at q0
    obtain ⟨x, hx⟩ : ∃ x, p[0]?.getD 0 = x := ⟨_, rfl⟩
    rw [hx] at q0
    have hp0 : p[0]? = some x := by rw [List.getElem?_eq_getElem (by omega)] at hx ⊢; rw [← hx]; rfl
    by_cases h77 : x = 77
    case neg =>
      have e1 : (x != 77) = true := by simpa using h77
      have H2 := Lib.hid (⟨z2, B2, take_no_head hp (by rw [hp0]; simpa using h77)⟩ : _ ∧ _ ∧ _)
      clear z2 y2 B2 hok hb2 hp hpb hplen hc2 hr2 hx hp0 h77 hcell hbl
      go_wp2_with fail
      refine wp_goto ⟨rfl, _, _, _, _, _, _, _, _, _, _, _, _, _, _, _, _, _, _, _, _, _, _, _, _, _, _, _, _, _, _, _, _, _, _, _, _, _, _, _, noneM, .slice none 0 0, H2.out.1, H2.out.2.1, H2.out.2.2, rfl⟩
    have e1 : (x != 77) = false := by simp [h77]
    obtain ⟨i0, hi, hz0, hz1, hz2⟩ := info_parts Cr.info_u8
    obtain ⟨A3, hrun, hcut⟩ := cut_tailM Tryd.underlying27 hi hz1 (some ⟨bl, off, none⟩) np c2 1 (by omega) hc2
    have hrun2 : ∀ W : World, (Instr.slice 27 (.slice (some ⟨bl, off, none⟩) np c2) (some (.int .i64 1)) none none).run Tryd.prog W = .ok (.slice A3 (np - 1) (c2 - 1)) W := hrun
    obtain ⟨n3, hn3⟩ : ∃ n3, np - 1 = n3 := ⟨_, rfl⟩
    obtain ⟨c3, hc3⟩ : ∃ c3, c2 - 1 = c3 := ⟨_, rfl⟩
    have hr3 := hcut hr2
    rw [hn3, hc3] at hrun2
    rw [hn3] at hr3
    have hRd := read_any A3 n3 c3 (p.drop 1) w2 hr3 (hpb.drop 1) (by omega) (by have := HW.out.2.2.2.2.2.2.2.2.2.2; omega)
    have H2 := Lib.hid (⟨z2, y2, B2, hok, hp, (show p[0]? = some 77 from h77 ▸ hp0)⟩ : _ ∧ _ ∧ _ ∧ _ ∧ _ ∧ _)
    clear z2 y2 B2 hok hb2 hp hpb hplen hc2 hr2 hx hp0 h77 hcell hbl hrun hcut hn3 hc3 hr3 hnp h0
    go_wp2_with fail
    refine Calls.mono hRd ?_
    rintro e w3 ⟨⟨m, A4, n4, c4, ok, rfl, hRI, hS4⟩, hb3⟩
    obtain ⟨z2, y2, B2, hok, hp, hp0⟩ := H2.out
    have z3 := z2.below hb3
    have y3 := y2.below hb3
    have B3 := B2.trans (hb3.mono B2.size)
    obtain ⟨d0, d1, d2, d3, d4, d5⟩ := y3.cells
    have f0 := y3.frozen 0
    have f1 := y3.frozen 1
    have f2 := y3.frozen 2
    have f3 := y3.frozen 3
    have f4 := y3.frozen 4
    have f5 := y3.frozen 5
    unfold manV
    obtain ⟨W4, hW4⟩ : ∃ W4, W4 = putM w3 y m (.slice A4 n4 c4) := ⟨_, rfl⟩
    have y4 : BoxM W4 y m (.slice A4 n4 c4) := by rw [hW4]; exact putM_box y3 _ _
    have z4 : BoxM W4 z noneM (.slice none 0 0) := by rw [hW4]; exact (putM_other (W := w3) (z := y) m (.slice A4 n4 c4) (by have := Hz.out.2; omega)).trans z3
    have hy2 := y2.lt
    have hyg : ∀ g, (Value.slice A4 n4 c4).ownBlock = some g → y < g ∧ w.heap.size ≤ g := fun g hg => by have := (hS4.lt g hg).1; have := Hz.out; omega
    have S4 : OwnS W4 w.heap.size (.slice A4 n4 c4) n4 m.sg := own_lowS (own_at hS4 fun g hg => by rw [hW4]; exact putM_other (W := w3) (z := y) m (.slice A4 n4 c4) (by have := hyg g hg; omega)) B2.size
    have B4 : Below w.heap.size w W4 := by rw [hW4]; exact putM_below (by have := Hz.out; omega) _ _ B3
    have e4 : W4 = (((((w3.setCell ⟨y, 0, none⟩ (.int .i64 m.nx)).setCell ⟨y, 1, none⟩ (.int .i64 m.tm)).setCell ⟨y, 2, none⟩ (.int .i64 m.vt)).setCell ⟨y, 3, none⟩ (.int .i64 m.ss)).setCell ⟨y, 4, none⟩ (.int .i64 m.sf)).setCell ⟨y, 5, none⟩ (.slice A4 n4 c4) := hW4
    have H4 := Lib.hid (⟨z4, y4, B4, e4, hRI, S4, hok, hp, hp0, hW4, y3⟩ : _ ∧ _ ∧ _ ∧ _ ∧ _ ∧ _ ∧ _ ∧ _ ∧ _ ∧ _ ∧ _)
    clear hy2 hyg S4 z2 y2 B2 hok hp hp0 z3 y3 B3 hW4 y4 z4 B4 e4 hRI hS4 hb3 hRd hrun2 q0 e0 e1
    cases ok with
    | false =>
      have HN := Lib.hid (take_no_read H4.out.2.2.2.2.2.2.2.1 H4.out.2.2.2.2.1)
      go_wp2_with fail
      rw [← H4.out.2.2.2.1]
      refine wp_goto ⟨rfl, _, _, _, _, _, _, _, _, _, _, _, _, _, _, _, _, _, _, _, _, _, _, _, _, _, _, _, _, _, _, _, _, _, _, _, _, _, _, _, noneM, .slice none 0 0, H4.out.1, H4.out.2.2.1, HN.out, rfl⟩
    | true =>
      skip
      have hn4 : n4 ≤ 60 := by
        have h1 := (OwnS.sg H4.out.2.2.2.2.2.1).len
        have h2 := read_few H4.out.2.2.2.2.1
        omega
      have hCh := check_any m A4 n4 c4 W4 (OwnS.sg H4.out.2.2.2.2.2.1) (by omega) (read_mok H4.out.2.2.2.2.1)
      have HC := Lib.hid hCh
      obtain ⟨k0, k1, k2, k3, k4, k5⟩ := H4.out.2.1.cells
      rw [H4.out.2.2.2.1] at k0 k1 k2 k3 k4 k5
      clear hCh
      go_wp2_with fail
      rw [← H4.out.2.2.2.1]
      refine Calls.mono HC.out ?_
      clear k0 k1 k2 k3 k4 k5 d0 d1 d2 d3 d4 d5 f0 f1 f2 f3 f4 f5
      rintro e w5 ⟨⟨r, hr, rfl⟩, hb5⟩
      obtain ⟨z4, y4, B4, -, hRI, S4, hok, hp, hp0, -, -⟩ := H4.out
      have z5 := z4.below hb5
      have y5 := y4.below hb5
      have B5 := B4.trans (hb5.mono B4.size)
      rcases hr with ⟨hM, rfl⟩ | ⟨hM, rfl⟩
      · have S5 : OwnS w5 w.heap.size (.slice A4 n4 c4) n4 m.sg := own_at S4 fun g hg => hb5.block g (S4.lt g hg).2
        have hzg : ∀ g, (Value.slice A4 n4 c4).ownBlock = some g → g ≠ z := fun g hg e => by
          subst e
          rcases S5.2 with ⟨e, _⟩ | ⟨g', cap, cur, e, _, hh, _⟩
          · rw [e] at hg; simp [Value.ownBlock] at hg
          · rw [e] at hg
            obtain rfl : g' = g := by simpa [Value.ownBlock] using hg
            rw [show w5.heap[g']? = _ from z5] at hh
            injection hh with hh
            injection hh with _ hh _
            revert hh
            decide
        obtain ⟨c0, c1, c2, c3, c4', c5⟩ := y5.cells
        have f0 := z5.frozen 0
        have f1 := z5.frozen 1
        have f2 := z5.frozen 2
        have f3 := z5.frozen 3
        have f4 := z5.frozen 4
        have f5 := z5.frozen 5
        obtain ⟨k0, k1, k2, k3, k4, k5⟩ := z5.cells
        have H5 := Lib.hid (⟨z5, B5, take_yes hok hp hp0 hRI hM, S5, hzg, hn4⟩ : _ ∧ _ ∧ _ ∧ _ ∧ _ ∧ _)
        clear z4 y4 B4 hRI S4 hok hp hp0 z5 y5 B5 hM S5 hzg hb5 hn4
        go_wp2_with fail
        simp only [Exit.jump]
        obtain ⟨W', hW'⟩ : ∃ x, x = putM w5 z m (.slice A4 n4 c4) := ⟨_, rfl⟩
        have b6 := putM_box H5.out.1 m (.slice A4 n4 c4)
        have hB6 := putM_below Hz.out.1 m (.slice A4 n4 c4) H5.out.2.1
        have S6 : OwnS W' w.heap.size (.slice A4 n4 c4) n4 m.sg := own_at H5.out.2.2.2.1 fun g hg => by rw [hW']; exact putM_other (W := w5) (z := z) m (.slice A4 n4 c4) (H5.out.2.2.2.2.1 g hg)
        rw [← hW'] at b6 hB6
        obtain ⟨g0, g1, g2, g3, g4, g5⟩ := b6.cells
        have e6 : W' = (((((w5.setCell ⟨z, 0, none⟩ (.int .i64 m.nx)).setCell ⟨z, 1, none⟩ (.int .i64 m.tm)).setCell ⟨z, 2, none⟩ (.int .i64 m.vt)).setCell ⟨z, 3, none⟩ (.int .i64 m.ss)).setCell ⟨z, 4, none⟩ (.int .i64 m.sf)).setCell ⟨z, 5, none⟩ (.slice A4 n4 c4) := hW'
        rw [← e6]
        clear e6 hW' k0 k1 k2 k3 k4 k5 c0 c1 c2 c3 c4' c5 f0 f1 f2 f3 f4 f5 b6
        exact bodyPost_ret (v := .tuple #[.agg #[.int .i64 m.nx, .int .i64 m.tm, .int .i64 m.vt, .int .i64 m.ss, .int .i64 m.sf, .slice A4 n4 c4], .int .i64 0]) (by simp [results, Tryd.results12, go_sem, g0, g1, g2, g3, g4, g5]) rfl ⟨⟨m, A4, n4, c4, 0, rfl, .inl ⟨rfl, H5.out.2.2.1⟩, H5.out.2.2.2.2.2, S6⟩, hB6⟩
      · have H5 := Lib.hid (⟨z5, B5, take_no_check hp hRI hM⟩ : _ ∧ _ ∧ _)
        clear z4 y4 B4 hRI S4 hok hp hp0 z5 y5 B5 hM hb5
        go_wp2_with fail
        refine wp_goto ⟨rfl, _, _, _, _, _, _, _, _, _, _, _, _, _, _, _, _, _, _, _, _, _, _, _, _, _, _, _, _, _, _, _, _, _, _, _, _, _, _, _, noneM, .slice none 0 0, H5.out.1, H5.out.2.1, H5.out.2.2, rfl⟩
end Go.Proofs.YtafeadplmcoilaaDoor
