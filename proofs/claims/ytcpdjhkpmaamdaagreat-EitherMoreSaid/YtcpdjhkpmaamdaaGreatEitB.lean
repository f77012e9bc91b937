/-
  either.Which, pairs, Alike: their contracts.
-/
import Derived.Test.YtcpdjhkpmaamdaaGreatEach
import Derived.Test.YtcpdjhkpmaamdaaGreatEitA
import Derived.Test.YtcpdjhkpmaamdaaGreatRangeW
import Derived.Test.YtcpdjhkpmaamdaaGreatEq8
namespace Go.Proofs.YtcpdjhkpmaamdaaGreat
open Go.RowKit Go.Maps Go.Shelf
set_option linter.unusedVariables false

attribute [local go_sem] Oper.semAt_some

theorem keeps_below {W W' : World} (h : Below W.heap.size W W') : KeepsOthers W W' := ⟨h.size, fun k o hk _ => (h.block k (Array.getElem?_eq_some_iff.1 hk).1).trans hk⟩
theorem numF_fmt (x : Bool) : FmtE (numF x) := by cases x <;> simp [numF, FmtE]
/-- Between two rounds: none of those so far; the boxes of the bytes and of the answer. -/
structure WInv [Inhabited Cr.Rows16] (w : World) (b : List Int) (v : Value) (x r D : Nat) (k : Int) (W : World) : Prop where
  bx : Boxed W x 23 v
  br : Boxed W r 3 (.int .i64 k)
  low : Below w.heap.size w W
  size : D ≤ W.heap.size
theorem WInv.own [Inhabited Cr.Rows16] {w : World} {b : List Int} {v : Value} {x r D : Nat} {k : Int} (hw : w.heap.size ≤ D) {W W' : World} {row : Option Nat} (h : WInv w b v x r D k W) (hg : W.grownBy W' row)
    (hr : ∀ r, row = some r → D ≤ r ∧ ∃ o : Obj, W.heap[r]? = some o ∧ o.isCells = false) : WInv w b v x r D k W' := by
  have hne : ∀ {j : Nat} {t : TypeId} {u : Value}, Boxed W j t u → some j ≠ row := fun {j t u} hb e => by
    obtain ⟨_, o, ho, hc⟩ := hr j e.symm
    rw [show W.heap[j]? = _ from hb] at ho
    cases ho
    cases hc
  exact ⟨(hg.block x h.bx.lt (hne h.bx)).trans h.bx, (hg.block r h.br.lt (hne h.br)).trans h.br, h.low.grown hg h.low.size (fun j e => by have := (hr j e).1; omega), Nat.le_trans h.size hg.size⟩
theorem WInv.below [Inhabited Cr.Rows16] {w : World} {b : List Int} {v : Value} {x r D : Nat} {k : Int} {W W' : World} (h : WInv w b v x r D k W) (hb : Below W.heap.size W W') : WInv w b v x r D k W' :=
  ⟨(hb.block x h.bx.lt).trans h.bx, (hb.block r h.br.lt).trans h.br, h.low.trans (hb.mono h.low.size), Nat.le_trans h.size hb.size⟩

set_option maxRecDepth 100000 in
set_option maxHeartbeats 400000 in
theorem each_any (w : World) : Calls Tryz.prog 34 #[] w fun e w' => e = .returned (.func (.func 47) #[] #[]) ∧ w' = w := by
  go_enter Tryz.func34, Tryz.ntmps34
  go_wp2
  go_ret
  exact ⟨rfl, rfl⟩

set_option maxRecDepth 100000 in
set_option maxHeartbeats 2000000 in
theorem which_in [Inhabited Cr.Rows16] (A : Option Addr) (n c : Nat) (b : List Int) (w : World) (hT : Cr.Tab w) (hr : Rd w w.heap.size .u8 A n b) (hb : Byt b) (hnc : n ≤ c) (hn : n ≤ 1000000) :
    CallsIn Fence.wide 4 Tryz.prog 18 #[.slice A n c] w fun e w' => (∃ k, e = .returned (.int .i64 k) ∧ WhichIs b k) ∧ Below w.heap.size w w' := by
  have HT := Lib.hid hT
  have Hl := Lib.hid (⟨hr, hb⟩ : _ ∧ _)
  clear hT hr hb
  refine callsIn_of_wp_marks Tryz.func18 rfl trivial ?_ rfl
  simp only [Tryz.ntmps18, List.size_toArray, List.length_cons, List.length_nil, Nat.reduceAdd, Nat.reduceSub, Array.replicate_succ, Array.replicate_zero, List.push_toArray, List.append_toArray, List.nil_append, List.cons_append]
  gi_wp2_with fail
  obtain ⟨x, hx⟩ : ∃ x, x = w.heap.size := ⟨_, rfl⟩
  obtain ⟨wa, hwa⟩ : ∃ wa, wa = w.alloc (.cells #[.slice A n c] 23) := ⟨_, rfl⟩
  obtain ⟨w0, hw0⟩ : ∃ w0, w0 = wa.alloc (.cells #[.int .i64 0] 3) := ⟨_, rfl⟩
  have hsa : wa.heap.size = x + 1 := by rw [hwa, hx]; simp
  have hs0 : w0.heap.size = x + 2 := by rw [hw0]; simp [hsa]
  have hB0 : Below w.heap.size w w0 := by rw [hw0, hwa]; exact ((Below.refl _ _).alloc (Nat.le_refl _) _).alloc (by simp) _
  have bx : Boxed w0 x 23 (.slice A n c) := by
    have h : Boxed wa x 23 (.slice A n c) := by rw [hwa, hx]; exact Boxed.new _ _ _
    rw [hw0]; exact h.alloc _
  have br : Boxed w0 (x + 1) 3 (.int .i64 0) := by rw [hw0, ← hsa]; exact Boxed.new _ _ _
  have he : w0 = (w.alloc (.cells #[.slice A n c] 23)).alloc (.cells #[.int .i64 0] 3) := by rw [hw0, hwa]
  rw [← he, ← hx]
  have h0 : WInv w b (.slice A n c) x (x + 1) w0.heap.size 0 w0 := ⟨bx, br, hB0, Nat.le_refl _⟩
  have Hd := Lib.hid (show w.heap.size ≤ x ∧ w0.heap.size = x + 2 by omega)
  clear he hw0 hwa hx hsa hs0 hB0 bx br
  refine ⟨trivial, ?_⟩
  refine (callsIn_wide.2 (each_any w0)).mono ?_
  rintro e w1 ⟨rfl, rfl⟩
  gi_wp2_with fail
  refine wpIn_rangeFunc_ownG rfl (by omega) (gf := 47) (lb := #[]) rfl trivial (enters_of Tryz.func47 (by kernel_rfl) rfl)
    (each_stops w1) (fun h h' => h.trans h') (KpW.put) (Below.refl _ _) (fun _ => rfl)
    (fun (pre : List Bool) W => (∀ y ∈ pre, NoScn (numF y) b) ∧ WInv w b (.slice A n c) x (x + 1) w1.heap.size 0 W)
    (fun cc _ W => cc = Code.ret ∧ ∃ k, WhichIs b k ∧ WInv w b (.slice A n c) x (x + 1) w1.heap.size k W)
    (fun s W W' row h hg hr => ⟨h.1, h.2.own (by have := Hd.out; omega) hg hr⟩)
    (fun cc s W W' row h hg hr => by
      obtain ⟨h1, k, h2, h3⟩ := h
      exact ⟨h1, k, h2, h3.own (by have := Hd.out; omega) hg hr⟩)
    ⟨(fun y hy => nomatch hy), h0⟩
    (fun y => { tmps := #[.slice A n c, .pointer (some ⟨x, 0, none⟩), .pointer (some ⟨x + 1, 0, none⟩), .int .i64 (numF y), fmtV10 (numF y), undef, undef, .func (.func 47) #[] #[], .int .i64 (numF y), fmtV10 (numF y), undef, undef, undef, undef, undef, undef, undef, undef, undef], defers := [] })
    ?assign ?body ?done ?stop
  case assign =>
    intro lp d W K hK
    gi_wp2
    exact hK
  case body =>
    rintro lp pre y W ⟨hno, hI⟩ hlt
    cases y
    · have e1 : fmtV10 (numF false) = .iface 63 (.agg #[]) := rfl
      have e2 : numF false = 1 := rfl
      have HN := Lib.hid (⟨hno, hI⟩ : _ ∧ _)
      have hc := hI.bx.cell
      have hB := hI.low
      rw [e1, e2]
      clear hno hI e1
      gi_wp2_with fail
      refine ⟨fun _ _ => trivial, ?_⟩
      rw [m_scan1]
      gi_wp2_with fail
      refine (CallsIn.inRound lp (callsIn_wide.2 (rec_scan A n c b W (HT.out.on hB) (Hl.out.1.on hB hB.size) Hl.out.2 hnc hn))).mono ?_
      intro e W1 hh
      obtain ⟨⟨f, A1, n1, c1, u, er, rfl, hA⟩, hb1⟩ := hh
      have hI1 := HN.out.2.below hb1
      have hI2 := hI1.below (below_al (below_d0 W1) (.cells #[.int .i64 f, .slice A1 n1 c1, .int .i64 (u : Int)] 29))
      have hk2 := (KpW.below hb1).trans (KpW.below (below_al (below_d0 W1) (.cells #[.int .i64 f, .slice A1 n1 c1, .int .i64 (u : Int)] 29)))
      have hkf : KeepsFrom w1.heap.size W (W1.alloc (.cells #[.int .i64 f, .slice A1 n1 c1, .int .i64 (u : Int)] 29)) := ((keeps_below hb1).trans (KeepsOthers.alloc _ _)).from _
      have hrc := hI2.br.cell
      have hrf := hI2.br.frozen
      clear hc hB hb1
      by_cases he : er = 0
      · subst he
        have hS : ∃ l, ScnIs 1 b f l u := by
          rcases hA with ⟨_, _, _, _, e2⟩ | ⟨_, _, _, _, e2⟩ | ⟨l, h1, _⟩
          · cases e2
          · cases e2
          · exact ⟨l, h1⟩
        obtain ⟨l, hS⟩ := hS
        have HW := Lib.hid (⟨hS.which, hI2, hkf⟩ : _ ∧ _ ∧ _)
        clear hA hS hI1 hI2 hk2 hkf
        gi_wp2_with fail
        have hd := Hd.out
        have g1 := set_grown (W1.alloc (.cells #[.int .i64 f, .slice A1 n1 c1, .int .i64 (u : Int)] 29)) (x + 1) (.int .i64 1)
        have hI3 := HW.out.2.1
        refine ⟨HW.out.2.2.trans (KeepsFrom.of_grownBy g1 (fun k e => by cases e; omega)), rfl, 1, HW.out.1, hI3.bx.other (by omega) _, hI3.br.set _, hI3.low.setCell (by show w.heap.size ≤ x + 1; omega) _, Nat.le_trans hI3.size g1.size⟩
      · have hN : NoScn 1 b := by
          rcases hA with ⟨h1, _⟩ | ⟨h1, _⟩ | ⟨l, _, _, _, _, e2⟩
          · exact absurd (numF_fmt false) h1
          · exact h1
          · exact absurd e2 he
        have hq : (er == 0) = false := by simpa using he
        have HW := Lib.hid (⟨hN, hI2, hkf, hk2⟩ : _ ∧ _ ∧ _ ∧ _)
        clear hA hN hI1 hI2 hk2 hkf he hrc hrf
        gi_wp2_with fail
        refine ⟨HW.out.2.2.1, HW.out.2.2.2, fun z hz => ?_, HW.out.2.1⟩
        rcases List.mem_append.1 hz with hz | hz
        · exact HN.out.1 z hz
        · obtain rfl := List.mem_singleton.1 hz
          exact HW.out.1
    · have e1 : fmtV10 (numF true) = .iface 64 (.agg #[]) := rfl
      have e2 : numF true = 2 := rfl
      have HN := Lib.hid (⟨hno, hI⟩ : _ ∧ _)
      have hc := hI.bx.cell
      have hB := hI.low
      rw [e1, e2]
      clear hno hI e1
      gi_wp2_with fail
      refine ⟨fun _ _ => trivial, ?_⟩
      rw [m_scan2]
      gi_wp2_with fail
      refine (CallsIn.inRound lp (callsIn_wide.2 (blk_scan A n c b W (HT.out.on hB) (Hl.out.1.on hB hB.size) Hl.out.2 hnc hn))).mono ?_
      intro e W1 hh
      obtain ⟨⟨f, A1, n1, c1, u, er, rfl, hA⟩, hb1⟩ := hh
      have hI1 := HN.out.2.below hb1
      have hI2 := hI1.below (below_al (below_d0 W1) (.cells #[.int .i64 f, .slice A1 n1 c1, .int .i64 (u : Int)] 29))
      have hk2 := (KpW.below hb1).trans (KpW.below (below_al (below_d0 W1) (.cells #[.int .i64 f, .slice A1 n1 c1, .int .i64 (u : Int)] 29)))
      have hkf : KeepsFrom w1.heap.size W (W1.alloc (.cells #[.int .i64 f, .slice A1 n1 c1, .int .i64 (u : Int)] 29)) := ((keeps_below hb1).trans (KeepsOthers.alloc _ _)).from _
      have hrc := hI2.br.cell
      have hrf := hI2.br.frozen
      clear hc hB hb1
      by_cases he : er = 0
      · subst he
        have hS : ∃ l, ScnIs 2 b f l u := by
          rcases hA with ⟨_, _, _, _, e2⟩ | ⟨_, _, _, _, e2⟩ | ⟨l, h1, _⟩
          · cases e2
          · cases e2
          · exact ⟨l, h1⟩
        obtain ⟨l, hS⟩ := hS
        have HW := Lib.hid (⟨hS.which, hI2, hkf⟩ : _ ∧ _ ∧ _)
        clear hA hS hI1 hI2 hk2 hkf
        gi_wp2_with fail
        have hd := Hd.out
        have g1 := set_grown (W1.alloc (.cells #[.int .i64 f, .slice A1 n1 c1, .int .i64 (u : Int)] 29)) (x + 1) (.int .i64 2)
        have hI3 := HW.out.2.1
        refine ⟨HW.out.2.2.trans (KeepsFrom.of_grownBy g1 (fun k e => by cases e; omega)), rfl, 2, HW.out.1, hI3.bx.other (by omega) _, hI3.br.set _, hI3.low.setCell (by show w.heap.size ≤ x + 1; omega) _, Nat.le_trans hI3.size g1.size⟩
      · have hN : NoScn 2 b := by
          rcases hA with ⟨h1, _⟩ | ⟨h1, _⟩ | ⟨l, _, _, _, _, e2⟩
          · exact absurd (numF_fmt true) h1
          · exact h1
          · exact absurd e2 he
        have hq : (er == 0) = false := by simpa using he
        have HW := Lib.hid (⟨hN, hI2, hkf, hk2⟩ : _ ∧ _ ∧ _ ∧ _)
        clear hA hN hI1 hI2 hk2 hkf he hrc hrf
        gi_wp2_with fail
        refine ⟨HW.out.2.2.1, HW.out.2.2.2, fun z hz => ?_, HW.out.2.1⟩
        rcases List.mem_append.1 hz with hz | hz
        · exact HN.out.1 z hz
        · obtain rfl := List.mem_singleton.1 hz
          exact HW.out.1
  case done =>
    rintro D ys W hD2 rfl ⟨hno, hI⟩ hK
    have hw : WhichIs b 0 := .inr (.inr ⟨rfl, hno false (by simp), hno true (by simp)⟩)
    have hrc := hI.br.cell
    have hrf := hI.br.frozen
    have HI := Lib.hid (⟨hI, hw, hK, hD2⟩ : _ ∧ _ ∧ _ ∧ _)
    clear hI hK hD2 hno hw
    gi_wp2_with fail
    obtain ⟨hI, hw, hK, hD2⟩ := HI.out
    have hd := Hd.out
    have g1 := set_grown W (x + 1) (.int .i64 0)
    have b1 : Boxed (W.setCell ⟨x + 1, 0, none⟩ (.int .i64 0)) (x + 1) 3 (.int .i64 0) := hI.br.set _
    have hlow : Below w.heap.size w (W.setCell ⟨x + 1, 0, none⟩ (.int .i64 0)) := hI.low.setCell (by show w.heap.size ≤ x + 1; omega) _
    refine leaves_marks (B := w.heap.size) [D] _ ⟨by simp, fun d hd => ?_⟩ fun w' hw' => ⟨.int .i64 0, ?_, ⟨0, rfl, hw⟩, hlow.trans hw'.1⟩
    · obtain rfl : d = D := by simpa using hd
      have hlt := (Array.getElem?_eq_some_iff.1 hK).1
      exact ⟨by omega, (g1.block d hlt (by simp; omega)).trans hK⟩
    · have b1' : Boxed w' (x + 1) 3 (.int .i64 0) := hw'.2 _ _ b1 rfl
      have hc1 := b1'.cell
      clear hd b1 b1' g1 hlow hrc hrf hI hw hK hD2
      simp [results, Tryz.results18, go_sem, *]
  case stop =>
    rintro D cc pre W hD2 _ ⟨rfl, k, hw, hI⟩ hK
    have HI := Lib.hid (⟨hI, hw, hK, hD2⟩ : _ ∧ _ ∧ _ ∧ _)
    clear hI hK hD2 hw
    gi_wp2_with fail
    obtain ⟨hI, hw, hK, hD2⟩ := HI.out
    have hd := Hd.out
    refine leaves_marks (B := w.heap.size) [D] _ ⟨by simp, fun d hd => ?_⟩ fun w' hw' => ⟨.int .i64 k, ?_, ⟨k, rfl, hw⟩, hI.low.trans hw'.1⟩
    · obtain rfl : d = D := by simpa using hd
      exact ⟨by omega, hK⟩
    · have b1' : Boxed w' (x + 1) 3 (.int .i64 k) := hw'.2 _ _ hI.br rfl
      have hc1 := b1'.cell
      clear hd hI hw hK hD2 b1'
      simp [results, Tryz.results18, go_sem, *]

/-- Which: P10.1. -/
theorem Which_any [Inhabited Cr.Rows16] (A : Option Addr) (n c : Nat) (b : List Int) (w : World) (hT : Cr.Tab w) (hr : Rd w w.heap.size .u8 A n b) (hb : Byt b) (hnc : n ≤ c) (hn : n ≤ 1000000) :
    Calls Tryz.prog 18 #[.slice A n c] w fun e w' => (∃ k, e = .returned (.int .i64 k) ∧ WhichIs b k) ∧ Below w.heap.size w w' := callsIn_wide.1 (which_in A n c b w hT hr hb hnc hn)

end Go.Proofs.YtcpdjhkpmaamdaaGreat

namespace Go.Proofs.YtcpdjhkpmaamdaaGreat
open Go.RowKit Go.Maps Go.Shelf
set_option linter.unusedVariables false

attribute [local go_sem] Oper.semAt_some

abbrev encP (p : EnP × EnP) : Array Value := #[p.1.v, p.2.v]
theorem cells_of_cell {w : World} {a : Addr} {v : Value} (h : w.cell? a = some v) : ∃ o, w.heap[a.block]? = some o ∧ o.isCells = true := by
  unfold World.cell? at h
  cases ho : w.heap[a.block]? with
  | none => rw [ho] at h; simp at h
  | some o =>
    rw [ho] at h
    refine ⟨o, rfl, ?_⟩
    cases o <;> simp [Obj.isCells] at h ⊢
theorem Es.kpw {w w' : World} {B : Nat} {A : Option Addr} {n : Nat} {l : List EnP} (h : Es w B A n l) (hk : KpW w w') : Es w' B A n l := by
  refine ⟨h.1, fun hn => ?_⟩
  obtain ⟨b, off, e, hlt, hc⟩ := h.2 hn
  refine ⟨b, off, e, hlt, fun i x hi j hj => ?_⟩
  have h1 := hc i x hi j hj
  obtain ⟨u, hu⟩ : ∃ u, (EnP.cs x)[j]? = some u := ⟨_, List.getElem?_eq_getElem (by rw [EnP.len]; exact hj)⟩
  rw [hu] at h1 ⊢
  obtain ⟨o, ho, hcl⟩ := cells_of_cell h1
  exact (World.cell?_of_block (a := ⟨b, off + (i * 3 + j), none⟩) ((hk b o ho (.inl hcl)).trans ho.symm)).trans h1
/-- Two boxes of an entry, one behind the other. -/
theorem two_boxesE (w : World) (x y : EnP) : ∃ W, W = ((w.alloc (.cells #[.int .i64 x.tm, .int .i64 x.kd, .int .i64 x.vl] 41)).alloc (.cells #[.int .i64 y.tm, .int .i64 y.kd, .int .i64 y.vl] 41)).drew ∧ Below w.heap.size w W ∧
    (W.cell? ⟨w.heap.size, 0, none⟩ = some (.int .i64 x.tm) ∧ W.cell? ⟨w.heap.size, 1, none⟩ = some (.int .i64 x.kd) ∧ W.cell? ⟨w.heap.size, 2, none⟩ = some (.int .i64 x.vl)) ∧
    W.cell? ⟨w.heap.size + 1, 0, none⟩ = some (.int .i64 y.tm) ∧ W.cell? ⟨w.heap.size + 1, 1, none⟩ = some (.int .i64 y.kd) ∧ W.cell? ⟨w.heap.size + 1, 2, none⟩ = some (.int .i64 y.vl) := by
  have h0 : ∀ i, ((w.alloc (.cells #[.int .i64 x.tm, .int .i64 x.kd, .int .i64 x.vl] 41)).alloc (.cells #[.int .i64 y.tm, .int .i64 y.kd, .int .i64 y.vl] 41)).drew.cell? ⟨w.heap.size, i, none⟩ = (#[.int .i64 x.tm, .int .i64 x.kd, .int .i64 x.vl] : Array Value)[i]? := fun i =>
    (World.cell?_alloc_past _ _ _ (by rw [World.size_alloc]; omega)).trans (World.cell?_alloc_at _ _ _ _ rfl)
  have h1 : ∀ i, ((w.alloc (.cells #[.int .i64 x.tm, .int .i64 x.kd, .int .i64 x.vl] 41)).alloc (.cells #[.int .i64 y.tm, .int .i64 y.kd, .int .i64 y.vl] 41)).drew.cell? ⟨w.heap.size + 1, i, none⟩ = (#[.int .i64 y.tm, .int .i64 y.kd, .int .i64 y.vl] : Array Value)[i]? := fun i =>
    World.cell?_alloc_at _ _ _ _ (by rw [World.size_alloc])
  exact ⟨_, rfl, (((Below.refl _ _).alloc (Nat.le_refl _) _).alloc (by simp) _).drew, ⟨h0 0, h0 1, h0 2⟩, h1 0, h1 1, h1 2⟩

/-- What is told of a pair. -/
def OkP (l m : List EnP) (pre : List (EnP × EnP)) (x : EnP × EnP) (_ : World) : Prop := l[pre.length]? = some x.1 ∧ m[pre.length]? = some x.2
/-- What holds at the label. -/
def PJ (W : World) (n sA sB : Nat) (J : List (EnP × EnP) → World → Prop) (l0 : Nat) (a' : Act) (w : World) : Prop :=
  ∃ (pre : List (EnP × EnP)) (q : Nat) (u5 u6 u7 u8 u9 u10 u11 u12 u13 u14 u15 u16 u17 u18 u19 u20 u21 u22 u23 u24 : Value), pre.length = q ∧ q ≤ n ∧ J pre w ∧ KpW W w ∧
    a' = { tmps := #[.func (.yield l0) #[] #[], .pointer (some ⟨sA, 0, none⟩), .pointer (some ⟨sB, 0, none⟩), undef, .int .i64 (q : Int), u5, u6, u7, u8, u9, u10, u11, u12, u13, u14, u15, u16, u17, u18, u19, u20, u21, u22, u23, u24], defers := [] }

set_option maxRecDepth 100000 in
set_option maxHeartbeats 2000000 in
theorem pairs_in (l0 sA sB : Nat) {A B : Option Addr} {n c d : Nat} {l m : List EnP} (hn : n ≤ 1000000000) (J Jx : List (EnP × EnP) → World → Prop) (W : World) (hJ : StaysT 9 W.heap.size J)
    (hY : ∀ pre x W1, J pre W1 → OkP l m pre x W1 → YieldAt Fence.wide 2 Tryz.prog l0 (encP x) W1 fun e W' =>
      (e = .returned (.bool true) ∧ J (pre ++ [x]) W' ∧ KpW W1 W') ∨ (e = .returned (.bool false) ∧ Jx (pre ++ [x]) W'))
    (hsA : Boxed W sA 22 (.slice A n c)) (hsB : Boxed W sB 22 (.slice B n d)) (hl : Es W W.heap.size A n l) (hm : Es W W.heap.size B n m) (h0 : J [] W) :
    CallsIn Fence.wide 3 Tryz.prog 50 #[.func (.yield l0) #[] #[], .pointer (some ⟨sA, 0, none⟩), .pointer (some ⟨sB, 0, none⟩)] W fun e W' => (∃ v, e = .returned v) ∧
      ((∃ ys : List (EnP × EnP), ys.length = n ∧ J ys W') ∨ (∃ pre, Jx pre W')) := by
  have HG := Lib.hid (⟨hsA, hsB, hl, hm⟩ : _ ∧ _ ∧ _ ∧ _)
  have HJ := Lib.hid hJ
  have HY := Lib.hid hY
  clear hsA hsB hl hm hJ hY
  refine callsIn_of_wp Tryz.func50 rfl trivial ?_ rfl
  simp only [Tryz.ntmps50, List.size_toArray, List.length_cons, List.length_nil, Nat.reduceAdd, Nat.reduceSub, Array.replicate_succ, Array.replicate_zero, List.push_toArray, List.append_toArray, List.nil_append, List.cons_append]
  gi_wp2_with fail
  refine scope_once 0 (PJ W n sA sB J l0) (fun a' _ => n - (intOf (a'.tmps.getD 4 undef)).toNat) rfl ?_ ?_
  · intro hrest
    gi_wp2_with fail
    refine wpIn_label ?_
    rename_i hK
    exact hK _ _ (hrest _ _ ⟨[], 0, _, _, _, _, _, _, _, _, _, _, _, _, _, _, _, _, _, _, _, _, rfl, Nat.zero_le _, h0, KpW.refl _, rfl⟩)
  · rintro a' wr ⟨pre, q, u5, u6, u7, u8, u9, u10, u11, u12, u13, u14, u15, u16, u17, u18, u19, u20, u21, u22, u23, u24, hq, hqn, hj, hkp, rfl⟩
    have hcA : wr.cell? ⟨sA, 0, none⟩ = some (.slice A n c) := (show Boxed wr sA 22 (.slice A n c) from hkp sA _ HG.out.1 (.inl rfl)).cell
    have hcB : wr.cell? ⟨sB, 0, none⟩ = some (.slice B n d) := (show Boxed wr sB 22 (.slice B n d) from hkp sB _ HG.out.2.1 (.inl rfl)).cell
    have hEl := HG.out.2.2.1.kpw hkp
    have hEm := HG.out.2.2.2.kpw hkp
    by_cases hlt : q < n
    · obtain ⟨ba, oa, x, rfl, hbA, hx, xa0, xa1, xa2⟩ := hEl.at_ hlt
      obtain ⟨bb, ob, y, rfl, hbB, hy0, ya0, ya1, ya2⟩ := hEm.at_ hlt
      have hqe : ((q : Int) == (n : Int)) = false := by simp; omega
      have hw1 : IntKind.i64.wrap ((q : Int) + 1) = ((q + 1 : Nat) : Int) := by rw [IntKind.wrap_i64]; omega
      have hq0 : (0 : Int) ≤ (q : Int) := by omega
      have hqi : (q : Int) < (n : Int) := by omega
      have z1 := World.block_lt_of_cell? wr _ hcA
      have z2 := World.block_lt_of_cell? wr _ hcB
      have z3 := World.block_lt_of_cell? wr _ xa0
      have z4 := World.block_lt_of_cell? wr _ ya0
      have z5 := Nat.lt_succ_of_lt z1
      have z6 := Nat.lt_succ_of_lt z2
      have z7 := Nat.lt_succ_of_lt z3
      have z8 := Nat.lt_succ_of_lt z4
      simp only [Nat.succ_eq_add_one] at z1 z2 z3 z4 z5 z6 z7 z8
      have HI := Lib.hid (⟨hq, hqn, hj, hkp⟩ : _ ∧ _ ∧ _ ∧ _)
      have HL := Lib.hid (⟨hx, hy0⟩ : _ ∧ _)
      clear hq hqn hj hkp hEl hEm hx hy0 h0
      gi_upto_region 2 with fail
      refine wpIn_wide.2 ?_
      go_region
      · obtain ⟨WX, hWX, hbX, ⟨cx0, cx1, cx2⟩, cy0, cy1, cy2⟩ := two_boxesE wr x y
        rw [← hWX]
        have hj2 : J pre WX := HJ.out _ wr WX none HI.out.2.2.1 (grown_of hbX) (fun r e => by cases e)
        obtain ⟨fn, tmps, assign, body, hy, hR⟩ := HY.out pre (x, y) WX hj2 ⟨by rw [HI.out.1]; exact HL.out.1, by rw [HI.out.1]; exact HL.out.2⟩
        dsimp only [encP, EnP.v] at hy
        have H3 := Lib.hid (HI.out.2.2.2.trans (KpW.below hbX))
        clear hWX hbX hj2
        gi_wp2_with fail
        refine hR.mono ?_
        rintro e' W3 (⟨rfl, hJ3, hk3⟩ | ⟨rfl, hJx3⟩)
        · have H4 := Lib.hid (⟨hJ3, H3.out.trans hk3⟩ : _ ∧ _)
          clear hJ3 hk3 cx0 cx1 cx2 cy0 cy1 cy2
          gi_wp2_with fail
          refine wpIn_goto ?_
          refine ⟨rfl, ⟨pre ++ [(x, y)], q + 1, _, _, _, _, _, _, _, _, _, _, _, _, _, _, _, _, _, _, _, _, by rw [List.length_append, ← HI.out.1]; rfl, by omega, H4.out.1, H4.out.2, rfl⟩, ?_⟩
          simp [intOf]
          omega
        · have H4 := Lib.hid hJx3
          clear hJx3 cx0 cx1 cx2 cy0 cy1 cy2
          gi_wp2_with fail
          simp only [Exit.jump]
          go_end0
          exact ⟨⟨_, rfl⟩, .inr ⟨_, H4.out⟩⟩
      · obtain ⟨WX, hWX, hbX, ⟨cy0, cy1, cy2⟩, cx0, cx1, cx2⟩ := two_boxesE wr y x
        rw [← hWX]
        have hj2 : J pre WX := HJ.out _ wr WX none HI.out.2.2.1 (grown_of hbX) (fun r e => by cases e)
        obtain ⟨fn, tmps, assign, body, hy, hR⟩ := HY.out pre (x, y) WX hj2 ⟨by rw [HI.out.1]; exact HL.out.1, by rw [HI.out.1]; exact HL.out.2⟩
        dsimp only [encP, EnP.v] at hy
        have H3 := Lib.hid (HI.out.2.2.2.trans (KpW.below hbX))
        clear hWX hbX hj2
        gi_wp2_with fail
        refine hR.mono ?_
        rintro e' W3 (⟨rfl, hJ3, hk3⟩ | ⟨rfl, hJx3⟩)
        · have H4 := Lib.hid (⟨hJ3, H3.out.trans hk3⟩ : _ ∧ _)
          clear hJ3 hk3 cx0 cx1 cx2 cy0 cy1 cy2
          gi_wp2_with fail
          refine wpIn_goto ?_
          refine ⟨rfl, ⟨pre ++ [(x, y)], q + 1, _, _, _, _, _, _, _, _, _, _, _, _, _, _, _, _, _, _, _, _, by rw [List.length_append, ← HI.out.1]; rfl, by omega, H4.out.1, H4.out.2, rfl⟩, ?_⟩
          simp [intOf]
          omega
        · have H4 := Lib.hid hJx3
          clear hJx3 cx0 cx1 cx2 cy0 cy1 cy2
          gi_wp2_with fail
          simp only [Exit.jump]
          go_end0
          exact ⟨⟨_, rfl⟩, .inr ⟨_, H4.out⟩⟩
    · obtain rfl : q = n := by omega
      have hqe : ((q : Int) == (q : Int)) = true := by simp
      have HI := Lib.hid (⟨hq, hj⟩ : _ ∧ _)
      clear hq hqn hj hkp hEl hEm h0
      gi_wp2_with fail
      simp only [Exit.jump]
      refine bodyPost_ret (results_none rfl _ _ _) rfl ?_
      exact ⟨⟨_, rfl⟩, .inl ⟨pre, HI.out.1, HI.out.2⟩⟩

end Go.Proofs.YtcpdjhkpmaamdaaGreat

namespace Go.Proofs.YtcpdjhkpmaamdaaGreat
open Go.RowKit Go.Maps Go.Shelf
set_option linter.unusedVariables false

attribute [local go_sem] Oper.semAt_some

theorem neq_en (x y : EnP) (w : World) : (binOp .neq 41 (.agg #[.int .i64 x.tm, .int .i64 x.kd, .int .i64 x.vl]) (.agg #[.int .i64 y.tm, .int .i64 y.kd, .int .i64 y.vl])).run Tryz.prog w = .ok (.bool (!decide (x = y))) w := by
  rw [run_neq_struct, equal_enTw]
  rfl
/-- What pairs answers. -/
def PairsOut (A B : Option Addr) (n c d : Nat) (w : World) (e : Ending) (w' : World) : Prop :=
  e = .returned (.func (.func 50) #[] #[.pointer (some ⟨w.heap.size, 0, none⟩), .pointer (some ⟨w.heap.size + 1, 0, none⟩)]) ∧ Boxed w' w.heap.size 22 (.slice A n c) ∧ Boxed w' (w.heap.size + 1) 22 (.slice B n d) ∧
    w'.heap.size = w.heap.size + 2 ∧ Below w.heap.size w w'
set_option maxRecDepth 100000 in
set_option maxHeartbeats 400000 in
theorem pairs_any (A B : Option Addr) (n c d : Nat) (w : World) : Calls Tryz.prog 35 #[.slice A n c, .slice B n d] w (PairsOut A B n c d w) := by
  go_enter Tryz.func35, Tryz.ntmps35
  go_wp2
  go_ret
  refine ⟨by simp, (Boxed.new w _ _).alloc _, ?_, by simp, ((Below.refl _ w).alloc (Nat.le_refl _) _).alloc (by simp) _⟩
  have h := Boxed.new (w.alloc (.cells #[.slice A n c] 22)) 22 (.slice B n d)
  simpa using h
theorem pairs_seq (sA sB : Nat) {A B : Option Addr} {n c d : Nat} {l m : List EnP} (hn : n ≤ 1000000000) (w : World) (hsA : Boxed w sA 22 (.slice A n c)) (hsB : Boxed w sB 22 (.slice B n d)) (hl : Es w w.heap.size A n l) (hm : Es w w.heap.size B n m) :
    SeqW 9 Fence.wide 3 Tryz.prog 50 #[.pointer (some ⟨sA, 0, none⟩), .pointer (some ⟨sB, 0, none⟩)] encP KpW (fun ys => ys.length = n) (OkP l m) w := fun l0 J Jx W hW hJ _ hY h0 =>
  pairs_in l0 sA sB hn J Jx W hJ hY ((hW.block sA hsA.lt).trans hsA) ((hW.block sB hsB.lt).trans hsB) (hl.on hW hW.size) (hm.on hW hW.size) h0

/-- Between two rounds: alike so far; the answer's box. -/
structure AInv (w : World) (r D : Nat) (k : Bool) (W : World) : Prop where
  br : Boxed W r 4 (.bool k)
  low : Below w.heap.size w W
  size : D ≤ W.heap.size
theorem AInv.own {w : World} {r D : Nat} {k : Bool} (hw : w.heap.size ≤ D) {W W' : World} {row : Option Nat} (h : AInv w r D k W) (hg : W.grownBy W' row)
    (hr : ∀ r, row = some r → D ≤ r ∧ ∃ o : Obj, W.heap[r]? = some o ∧ (o.isCells = false ∨ ∃ cur fr, o = .cells cur 9 fr)) : AInv w r D k W' := by
  have hne : some r ≠ row := fun e => by
    obtain ⟨_, o, ho, hc⟩ := hr r e.symm
    rw [show W.heap[r]? = _ from h.br] at ho
    cases ho
    rcases hc with hc | ⟨cur, fr, hc⟩
    · cases hc
    · cases hc
  exact ⟨(hg.block r h.br.lt hne).trans h.br, h.low.grown hg h.low.size (fun j e => by have := (hr j e).1; omega), Nat.le_trans h.size hg.size⟩
theorem AInv.below {w : World} {r D : Nat} {k : Bool} {W W' : World} (h : AInv w r D k W) (hb : Below W.heap.size W W') : AInv w r D k W' :=
  ⟨(hb.block r h.br.lt).trans h.br, h.low.trans (hb.mono h.low.size), Nat.le_trans h.size hb.size⟩
theorem WhNo.noSeg [Inhabited Cr.Rows16] {t : Int} {b : List Int} {er : Int} (h : WhNo t b er) : NoSeg t b := fun f l hs => by
  rcases h with ⟨h, _⟩ | ⟨_, h, _⟩
  · exact h hs.fmt
  · exact h f l hs
theorem alike_no1 [Inhabited Cr.Rows16] {t t' : Int} {a b : List Int} (h : NoSeg t a) : AlikeIs a t b t' false := ⟨(fun e => nomatch e), fun ⟨f, l, h1, _⟩ => absurd h1 (h f l)⟩
theorem alike_no2 [Inhabited Cr.Rows16] {t t' : Int} {a b : List Int} (h : NoSeg t' b) : AlikeIs a t b t' false := ⟨(fun e => nomatch e), fun ⟨f, l, _, h1⟩ => absurd h1 (h f l)⟩
theorem alike_dif [Inhabited Cr.Rows16] {t t' : Int} {a b : List Int} {f g : Int} {l m : List EnP} (h : SegIs t a f l) (h' : SegIs t' b g m) (hne : ¬ (f = g ∧ l = m)) : AlikeIs a t b t' false :=
  ⟨(fun e => nomatch e), fun ⟨k, j, h1, h2⟩ => by
    obtain ⟨rfl, rfl⟩ := h.same h1
    exact absurd ⟨((h'.same h2).1).symm, ((h'.same h2).2).symm⟩ hne⟩
theorem alike_yes [Inhabited Cr.Rows16] {t t' : Int} {a b : List Int} {f : Int} {l : List EnP} (h : SegIs t a f l) (h' : SegIs t' b f l) : AlikeIs a t b t' true := ⟨fun _ => ⟨f, l, h, h'⟩, fun _ => rfl⟩
/-- Where a pair lies in a round. -/
def ActP (r : Nat) (d : EnP × EnP) (a' : Act) (W : World) : Prop :=
  ∃ (x y : Nat) (u0 u1 u2 u3 u4 u5 u6 u7 u9 u10 u11 u12 u15 u16 u17 u18 u19 u20 u21 u22 u23 u24 u25 u26 u27 u28 u29 u30 u31 u32 u33 u34 u35 u36 u37 u38 u39 u40 u41 u42 u43 u44 u45 u46 u47 u48 u49 u50 u51 u52 u53 u54 u55 u56 u57 u58 : Value), BoxE W x d.1 ∧ BoxE W y d.2 ∧ a' = { tmps := #[u0, u1, u2, u3, u4, u5, u6, u7, .pointer (some ⟨r, 0, none⟩), u9, u10, u11, u12, .pointer (some ⟨x, 0, none⟩), .pointer (some ⟨y, 0, none⟩), u15, u16, u17, u18, u19, u20, u21, u22, u23, u24, u25, u26, u27, u28, u29, u30, u31, u32, u33, u34, u35, u36, u37, u38, u39, u40, u41, u42, u43, u44, u45, u46, u47, u48, u49, u50, u51, u52, u53, u54, u55, u56, u57, u58], defers := [] }
theorem ActP.put {r : Nat} (d : EnP × EnP) (a' : Act) (W : World) (l : Nat) (o o' : Obj) (h : ActP r d a' W) (hl : W.heap[l]? = some o) (ho : o.isCells = false) : ActP r d a' (W.putObj l o') := by
  obtain ⟨x, y, u0, u1, u2, u3, u4, u5, u6, u7, u9, u10, u11, u12, u15, u16, u17, u18, u19, u20, u21, u22, u23, u24, u25, u26, u27, u28, u29, u30, u31, u32, u33, u34, u35, u36, u37, u38, u39, u40, u41, u42, u43, u44, u45, u46, u47, u48, u49, u50, u51, u52, u53, u54, u55, u56, u57, u58, h1, h2, h3⟩ := h
  have key : ∀ {j : Nat} {z : EnP}, BoxE W j z → BoxE (W.putObj l o') j z := fun {j z} hj => (World.putObj_heap_other (fun e => by
    subst e
    rw [show W.heap[_]? = _ from hj] at hl
    cases hl
    cases ho)).trans hj
  exact ⟨x, y, _, _, _, _, _, _, _, _, _, _, _, _, _, _, _, _, _, _, _, _, _, _, _, _, _, _, _, _, _, _, _, _, _, _, _, _, _, _, _, _, _, _, _, _, _, _, _, _, _, _, _, _, _, _, _, _, key h1, key h2, h3⟩
theorem zip_take {l m : List EnP} {pre : List (EnP × EnP)} {k : Nat} (hk : pre.length = k) {x y : EnP} (hx : l[k]? = some x) (hy : m[k]? = some y) (h : l.take k = m.take k) (e : x = y) : l.take (pre ++ [(x, y)]).length = m.take (pre ++ [(x, y)]).length := by
  rw [List.length_append, hk, List.length_singleton, take_succ hx, take_succ hy, h, e]

set_option maxRecDepth 100000 in
set_option maxHeartbeats 4000000 in
theorem alike_in [Inhabited Cr.Rows16] (t t' : Int) (A B : Option Addr) (n c n' c' : Nat) (a b : List Int) (w : World) (hT : Cr.Tab w) (hr : Rd w w.heap.size .u8 A n a) (hb : Byt a) (hnc : n ≤ c) (hn : n ≤ 200000)
    (hr' : Rd w w.heap.size .u8 B n' b) (hb' : Byt b) (hnc' : n' ≤ c') (hn' : n' ≤ 200000) (ht : (Lit.int .i64 t).wf = true) (ht' : (Lit.int .i64 t').wf = true) :
    CallsIn Fence.wide 4 Tryz.prog 20 #[.slice A n c, .int .i64 t, .slice B n' c', .int .i64 t'] w fun e w' => (∃ k, e = .returned (.bool k) ∧ AlikeIs a t b t' k) ∧ Below w.heap.size w w' := by
  have HT := Lib.hid hT
  have Hl := Lib.hid (⟨hr, hb, hr', hb'⟩ : _ ∧ _ ∧ _ ∧ _)
  have Ht := Lib.hid (⟨ht, ht'⟩ : _ ∧ _)
  clear hT hr hb hr' hb' ht ht'
  refine callsIn_of_wp_marks Tryz.func20 rfl trivial ?_ rfl
  simp only [Tryz.ntmps20, List.size_toArray, List.length_cons, List.length_nil, Nat.reduceAdd, Nat.reduceSub, Array.replicate_succ, Array.replicate_zero, List.push_toArray, List.append_toArray, List.nil_append, List.cons_append]
  gi_wp2_with fail
  obtain ⟨r, hr⟩ : ∃ r, r = w.heap.size := ⟨_, rfl⟩
  obtain ⟨w0, hw0⟩ : ∃ x, x = w.alloc (.cells #[.bool false] 4) := ⟨_, rfl⟩
  have hB0 : Below w.heap.size w w0 := by rw [hw0]; exact below_al (below_d0 w) _
  have b0 : Boxed w0 r 4 (.bool false) := by rw [hw0, hr]; exact Boxed.new _ _ _
  rw [← hw0, ← hr]
  have Hd := Lib.hid (show w.heap.size ≤ r by omega)
  clear hw0 hr
  refine ⟨trivial, ?_⟩
  refine (callsIn_wide.2 (whole_any t A n c a w0 (HT.out.on hB0) (Hl.out.1.on hB0 hB0.size) Hl.out.2.1 hnc (by omega) Ht.out.1)).mono ?_
  intro e w1 hh
  obtain ⟨⟨f1, A1, n1, c1, u1, er1, rfl, hA1⟩, hb1⟩ := hh
  have hB1 := hB0.trans (hb1.mono hB0.size)
  have b1 := hb1.block r b0.lt |>.trans b0
  obtain ⟨z1, hz1⟩ : ∃ z, z = w1.heap.size := ⟨_, rfl⟩
  obtain ⟨w2, hw2⟩ : ∃ x, x = w1.alloc (.cells #[.int .i64 f1, .slice A1 n1 c1, .int .i64 (u1 : Int)] 29) := ⟨_, rfl⟩
  have hb2 : Below w1.heap.size w1 w2 := by rw [hw2]; exact below_al (below_d0 w1) _
  have hB2 := hB1.trans (hb2.mono hB1.size)
  have bz2 : BoxCTw w2 z1 f1 (.slice A1 n1 c1) (u1 : Int) := by rw [hw2, hz1]; exact BoxCTw.new _ _ _ _
  have HW2 := Lib.hid (⟨hw2, hz1⟩ : _ ∧ _)
  have hbr2 : Boxed w2 r 4 (.bool false) := (hb2.block r (Array.getElem?_eq_some_iff.1 b1).1).trans b1
  have H2 := Lib.hid (⟨hA1, hb2, hB2, bz2, hbr2⟩ : _ ∧ _ ∧ _ ∧ _ ∧ _)
  clear hA1 hb1 hb2 hB0 hB1 hB2 b0 b1 bz2 hbr2 hw2 hz1
  gi_wp2_with fail
  rw [← HW2.out.1, ← HW2.out.2]
  refine ⟨trivial, ?_⟩
  have hB2 := H2.out.2.2.1
  refine (callsIn_wide.2 (whole_any t' B n' c' b w2 (HT.out.on hB2) (Hl.out.2.2.1.on hB2 hB2.size) Hl.out.2.2.2 hnc' (by omega) Ht.out.2)).mono ?_
  intro e w3 hh
  obtain ⟨⟨f2, A2, n2, c2, u2, er2, rfl, hA2⟩, hb3⟩ := hh
  have hB3 := hB2.trans (hb3.mono hB2.size)
  obtain ⟨z2, hz2⟩ : ∃ z, z = w3.heap.size := ⟨_, rfl⟩
  obtain ⟨w4, hw4⟩ : ∃ x, x = w3.alloc (.cells #[.int .i64 f2, .slice A2 n2 c2, .int .i64 (u2 : Int)] 29) := ⟨_, rfl⟩
  have hb4 : Below w3.heap.size w3 w4 := by rw [hw4]; exact below_al (below_d0 w3) _
  have hb24 : Below w2.heap.size w2 w4 := hb3.trans (hb4.mono hb3.size)
  have hB4 := hB3.trans (hb4.mono hB3.size)
  have bz4 : BoxCTw w4 z2 f2 (.slice A2 n2 c2) (u2 : Int) := by rw [hw4, hz2]; exact BoxCTw.new _ _ _ _
  have by4 := H2.out.2.2.2.1.below hb24
  have hA1 : WhA t a w4 f1 A1 n1 c1 u1 er1 := by
    rcases H2.out.1 with h | ⟨l, h1, h2, h3, h4, h5⟩
    · exact .inl h
    · have hbb := H2.out.2.1.trans (hb24.mono H2.out.2.1.size)
      exact .inr ⟨l, h1, h2, h3, h4.on hbb hbb.size, h5⟩
  have hA2' : WhA t' b w4 f2 A2 n2 c2 u2 er2 := by
    rcases hA2 with h | ⟨l, h1, h2, h3, h4, h5⟩
    · exact .inl h
    · exact .inr ⟨l, h1, h2, h3, h4.on hb4 hb4.size, h5⟩
  have hbr4 : Boxed w4 r 4 (.bool false) := (hb24.block r (Array.getElem?_eq_some_iff.1 H2.out.2.2.2.2).1).trans H2.out.2.2.2.2
  have hrc := hbr4.cell
  have hrf := hbr4.frozen
  obtain ⟨d0, d1, d2⟩ := bz4.cells
  obtain ⟨g0, g1, g2⟩ := by4.cells
  have HW4 := Lib.hid (⟨hw4, hz2⟩ : _ ∧ _)
  have H4 := Lib.hid (⟨hbr4, hB4⟩ : _ ∧ _)
  clear hA2 hb3 hb4 hb24 hB2 hB3 hB4 bz4 by4 hbr4
  rw [hw4] at hrc hrf d0 d1 d2 g0 g1 g2
  rw [hz2] at d0 d1 d2
  clear hw4 hz2
  by_cases he1 : er1 = 0
  · by_cases he2 : er2 = 0
    · obtain ⟨l, hl1, hl2, hl3, hl4, _⟩ : ∃ l, SegIs t a f1 l ∧ l.length = n1 ∧ n1 ≤ c1 ∧ Es w4 w4.heap.size A1 n1 l ∧ er1 = 0 := by
        rcases hA1 with ⟨h, _⟩ | h
        · exact absurd he1 h.ne
        · exact h
      obtain ⟨m, hm1, hm2, hm3, hm4, _⟩ : ∃ l, SegIs t' b f2 l ∧ l.length = n2 ∧ n2 ≤ c2 ∧ Es w4 w4.heap.size A2 n2 l ∧ er2 = 0 := by
        rcases hA2' with ⟨h, _⟩ | h
        · exact absurd he2 h.ne
        · exact h
      clear hA1 hA2'
      subst he1 he2
      have HS := Lib.hid (⟨hl1, hl2, hl4, hm1, hm2, hm4⟩ : _ ∧ _ ∧ _ ∧ _ ∧ _ ∧ _)
      have hfew := hl1.few
      rw [hl2, Hl.out.1.1] at hfew
      clear hl1 hl2 hl4 hm1 hm2 hm4
      by_cases hf : f1 = f2
      · subst hf
        have q1 : (f1 != f1) = false := by simp
        by_cases hnn : n1 = n2
        · subst hnn
          have q2 : ((n1 : Int) != (n1 : Int)) = false := by simp
          gi_wp2_with fail
          rw [← HW4.out.1, ← HW4.out.2]
          clear d0 d1 d2 g0 g1 g2
          refine ⟨trivial, ?_⟩
          refine (callsIn_wide.2 (pairs_any A1 A2 n1 c1 c2 w4)).mono ?_
          rintro e w5 ⟨rfl, hsA, hsB, hs5, hb5⟩
          obtain ⟨sA, hsAe⟩ : ∃ s, s = w4.heap.size := ⟨_, rfl⟩
          have h0 : AInv w r w5.heap.size false w5 := ⟨(hb5.block r H4.out.1.lt).trans H4.out.1, H4.out.2.trans (hb5.mono H4.out.2.size), Nat.le_refl _⟩
          have hEl := HS.out.2.2.1.on hb5 hb5.size
          have hEm := HS.out.2.2.2.2.2.on hb5 hb5.size
          rw [← hsAe] at hsA hsB ⊢
          have Hw5 := Lib.hid (show w.heap.size ≤ w5.heap.size by have := H4.out.2.size; have := hb5.size; omega)
          have H5 := Lib.hid (⟨hsA, hsB, hEl, hEm, h0⟩ : _ ∧ _ ∧ _ ∧ _ ∧ _)
          clear hsA hsB hs5 hb5 hsAe h0 hEl hEm hrc hrf
          gi_wp2_with fail
          refine range_W 9 rfl (by decide) (gf := 50) (lb := #[.pointer (some ⟨sA, 0, none⟩), .pointer (some ⟨sA + 1, 0, none⟩)]) rfl trivial (enters_of Tryz.func50 (by kernel_rfl) rfl)
            (pairs_seq sA (sA + 1) (by omega) w5 H5.out.1 H5.out.2.1 H5.out.2.2.1 H5.out.2.2.2.1) (fun h h' => h.trans h') KpW.put (Below.refl _ _) (fun _ => rfl)
            (fun (pre : List (EnP × EnP)) W => l.take pre.length = m.take pre.length ∧ AInv w r w5.heap.size false W)
            (fun cc _ W => cc = Code.ret ∧ l ≠ m ∧ AInv w r w5.heap.size false W)
            (fun s W W' row h hg hr => ⟨h.1, h.2.own Hw5.out hg hr⟩)
            (fun cc s W W' row h hg hr => ⟨h.1, h.2.1, h.2.2.own Hw5.out hg hr⟩)
            ⟨rfl, H5.out.2.2.2.2⟩
            (ActP r) ActP.put
            ?assign ?body ?done ?stop
          case assign =>
            intro lp pre d W hI hok
            obtain ⟨d1, d2⟩ := d
            dsimp only [encP, EnP.v]
            gi_wp2
            have hb : Below W.heap.size W ((W.alloc (.cells #[.int .i64 d1.tm, .int .i64 d1.kd, .int .i64 d1.vl] 41)).alloc (.cells #[.int .i64 d2.tm, .int .i64 d2.kd, .int .i64 d2.vl] 41)) := ((Below.refl _ W).alloc (Nat.le_refl _) _).alloc (by simp) _
            have k1 : BoxE ((W.alloc (.cells #[.int .i64 d1.tm, .int .i64 d1.kd, .int .i64 d1.vl] 41)).alloc (.cells #[.int .i64 d2.tm, .int .i64 d2.kd, .int .i64 d2.vl] 41)) W.heap.size d1 := (BoxE.new W d1).below ((Below.refl _ _).alloc (Nat.le_refl _) _)
            have k2 : BoxE ((W.alloc (.cells #[.int .i64 d1.tm, .int .i64 d1.kd, .int .i64 d1.vl] 41)).alloc (.cells #[.int .i64 d2.tm, .int .i64 d2.kd, .int .i64 d2.vl] 41)) (W.heap.size + 1) d2 := by
              have h := BoxE.new (W.alloc (.cells #[.int .i64 d1.tm, .int .i64 d1.kd, .int .i64 d1.vl] 41)) d2
              rwa [World.size_alloc] at h
            exact ⟨(keeps_below hb).from _, KpW.below hb, ⟨hI.1, hI.2.below hb⟩, _, _, _, _, _, _, _, _, _, _, _, _, _, _, _, _, _, _, _, _, _, _, _, _, _, _, _, _, _, _, _, _, _, _, _, _, _, _, _, _, _, _, _, _, _, _, _, _, _, _, _, _, _, _, _, _, _, _, k1, k2, rfl⟩
          case body =>
            rintro lp pre d a' W ⟨htk, hI⟩ ⟨x, y, u0, u1, u2, u3, u4, u5, u6, u7, u9, u10, u11, u12, u15, u16, u17, u18, u19, u20, u21, u22, u23, u24, u25, u26, u27, u28, u29, u30, u31, u32, u33, u34, u35, u36, u37, u38, u39, u40, u41, u42, u43, u44, u45, u46, u47, u48, u49, u50, u51, u52, u53, u54, u55, u56, u57, u58, k1, k2, rfl⟩ ⟨_, hok1, hok2⟩
            obtain ⟨e1, e2⟩ := d
            obtain ⟨x0, x1, x2⟩ := k1.cells
            obtain ⟨y0, y1, y2⟩ := k2.cells
            have hqn := neq_en e1 e2
            have hrc := hI.br.cell
            have hrf := hI.br.frozen
            have HI := Lib.hid (⟨htk, hI, hok1, hok2⟩ : _ ∧ _ ∧ _ ∧ _)
            clear htk hI hok1 hok2 k1 k2
            dsimp only at x0 x1 x2 y0 y1 y2
            by_cases hee : e1 = e2
            · rw [decide_eq_true hee] at hqn
              have He := Lib.hid hee
              clear hee
              gi_wp2_with fail
              exact ⟨KeepsFrom.refl _ _, KpW.refl _, zip_take rfl HI.out.2.2.1 HI.out.2.2.2 HI.out.1 He.out, HI.out.2.1⟩
            · rw [decide_eq_false hee] at hqn
              have He := Lib.hid (show l ≠ m from fun h => hee (by
                have h1 := HI.out.2.2.1
                rw [h, HI.out.2.2.2] at h1
                exact (Option.some.inj h1).symm))
              clear hee
              gi_wp2_with fail
              have hd := Hd.out
              have hI := HI.out.2.1
              have g1 := set_grown W r (.bool false)
              refine ⟨KeepsFrom.of_grownBy g1 (fun k e => by cases e; exact H5.out.2.2.2.2.br.lt), rfl, He.out, hI.br.set _, hI.low.setCell (by show w.heap.size ≤ r; omega) _, Nat.le_trans hI.size g1.size⟩
          case done =>
            rintro D ys W hD2 hlen ⟨htk, hI⟩ hK
            have hlm : l = m := by
              rw [hlen, List.take_of_length_le (by rw [HS.out.2.1]; exact Nat.le_refl _), List.take_of_length_le (by rw [HS.out.2.2.2.2.1]; exact Nat.le_refl _)] at htk
              exact htk
            have ha : AlikeIs a t b t' true := alike_yes HS.out.1 (by rw [hlm]; exact HS.out.2.2.2.1)
            have hrc := hI.br.cell
            have hrf := hI.br.frozen
            have HI := Lib.hid (⟨hI, ha, hK, hD2⟩ : _ ∧ _ ∧ _ ∧ _)
            clear hI hK hD2 htk hlm ha
            gi_wp2_with fail
            obtain ⟨hI, ha, hK, hD2⟩ := HI.out
            have hd := Hd.out
            have g1 := set_grown W r (.bool true)
            have b1 : Boxed (W.setCell ⟨r, 0, none⟩ (.bool true)) r 4 (.bool true) := hI.br.set _
            have hlow : Below w.heap.size w (W.setCell ⟨r, 0, none⟩ (.bool true)) := hI.low.setCell (by show w.heap.size ≤ r; omega) _
            have hrD : r < D := Nat.lt_of_lt_of_le H5.out.2.2.2.2.br.lt hD2
            refine leaves_marks (B := w.heap.size) [D] _ ⟨by simp, fun d hd => ?_⟩ fun w' hw' => ⟨.bool true, ?_, ⟨true, rfl, ha⟩, hlow.trans hw'.1⟩
            · obtain rfl : d = D := by simpa using hd
              have hlt := (Array.getElem?_eq_some_iff.1 hK).1
              exact ⟨by omega, (g1.block d hlt (by simp; omega)).trans hK⟩
            · have b1' : Boxed w' r 4 (.bool true) := hw'.2 _ _ b1 rfl
              have hc1 := b1'.cell
              clear hd b1 b1' g1 hlow hrc hrf hI ha hK hD2 hrD
              simp [results, Tryz.results20, go_sem, *]
          case stop =>
            rintro D cc pre W hD2 ⟨rfl, hlm, hI⟩ hK
            have ha : AlikeIs a t b t' false := alike_dif HS.out.1 HS.out.2.2.2.1 (fun h => hlm h.2)
            have HI := Lib.hid (⟨hI, ha, hK, hD2⟩ : _ ∧ _ ∧ _ ∧ _)
            clear hI hK hD2 hlm ha
            gi_wp2_with fail
            obtain ⟨hI, ha, hK, hD2⟩ := HI.out
            have hd := Hd.out
            have hrD : r < D := Nat.lt_of_lt_of_le H5.out.2.2.2.2.br.lt hD2
            refine leaves_marks (B := w.heap.size) [D] _ ⟨by simp, fun d hd => ?_⟩ fun w' hw' => ⟨.bool false, ?_, ⟨false, rfl, ha⟩, hI.low.trans hw'.1⟩
            · obtain rfl : d = D := by simpa using hd
              exact ⟨by omega, hK⟩
            · have b1' : Boxed w' r 4 (.bool false) := hw'.2 _ _ hI.br rfl
              have hc1 := b1'.cell
              clear hd hI ha hK hD2 b1' hrD
              simp [results, Tryz.results20, go_sem, *]
        · have q2 : ((n1 : Int) != (n2 : Int)) = true := by simp; omega
          have HN := Lib.hid hnn
          clear hnn
          gi_wp2_with fail
          rw [← HW4.out.1]
          have hd := Hd.out
          have b1 : Boxed (w4.setCell ⟨r, 0, none⟩ (.bool false)) r 4 (.bool false) := H4.out.1.set _
          have hlow : Below w.heap.size w (w4.setCell ⟨r, 0, none⟩ (.bool false)) := H4.out.2.setCell (by show w.heap.size ≤ r; omega) _
          refine leaves_marks (B := w.heap.size) [] _ ⟨List.nodup_nil, (fun d hd => nomatch hd)⟩ fun w' hw' => ⟨.bool false, ?_, ⟨false, rfl, alike_dif HS.out.1 HS.out.2.2.2.1 (fun h => HN.out (by rw [← HS.out.2.1, ← HS.out.2.2.2.2.1, h.2]))⟩, hlow.trans hw'.1⟩
          have b1' : Boxed w' r 4 (.bool false) := hw'.2 _ _ b1 rfl
          have hc1 := b1'.cell
          clear hd b1 b1' hlow hrc hrf d0 d1 d2 g0 g1 g2
          simp [results, Tryz.results20, go_sem, *]
      · have q1 : (f1 != f2) = true := by simpa using hf
        have HN := Lib.hid hf
        clear hf
        gi_wp2_with fail
        rw [← HW4.out.1]
        have hd := Hd.out
        have b1 : Boxed (w4.setCell ⟨r, 0, none⟩ (.bool false)) r 4 (.bool false) := H4.out.1.set _
        have hlow : Below w.heap.size w (w4.setCell ⟨r, 0, none⟩ (.bool false)) := H4.out.2.setCell (by show w.heap.size ≤ r; omega) _
        refine leaves_marks (B := w.heap.size) [] _ ⟨List.nodup_nil, (fun d hd => nomatch hd)⟩ fun w' hw' => ⟨.bool false, ?_, ⟨false, rfl, alike_dif HS.out.1 HS.out.2.2.2.1 (fun h => HN.out h.1)⟩, hlow.trans hw'.1⟩
        have b1' : Boxed w' r 4 (.bool false) := hw'.2 _ _ b1 rfl
        have hc1 := b1'.cell
        clear hd b1 b1' hlow hrc hrf d0 d1 d2 g0 g1 g2
        simp [results, Tryz.results20, go_sem, *]
    · have q1 : (er2 != 0) = true := by simpa using he2
      have HP := Lib.hid (show WhNo t' b er2 from hA2'.elim (fun h => h.1) (fun ⟨l, _, _, _, _, e⟩ => absurd e he2))
      clear hA1 hA2'
      gi_wp2_with fail
      rw [← HW4.out.1]
      have hd := Hd.out
      have b1 : Boxed (w4.setCell ⟨r, 0, none⟩ (.bool false)) r 4 (.bool false) := H4.out.1.set _
      have hlow : Below w.heap.size w (w4.setCell ⟨r, 0, none⟩ (.bool false)) := H4.out.2.setCell (by show w.heap.size ≤ r; omega) _
      refine leaves_marks (B := w.heap.size) [] _ ⟨List.nodup_nil, (fun d hd => nomatch hd)⟩ fun w' hw' => ⟨.bool false, ?_, ⟨false, rfl, alike_no2 HP.out.noSeg⟩, hlow.trans hw'.1⟩
      have b1' : Boxed w' r 4 (.bool false) := hw'.2 _ _ b1 rfl
      have hc1 := b1'.cell
      clear hd b1 b1' hlow hrc hrf d0 d1 d2 g0 g1 g2
      simp [results, Tryz.results20, go_sem, *]
  · have q1 : (er1 != 0) = true := by simpa using he1
    have HP := Lib.hid (show WhNo t a er1 from hA1.elim (fun h => h.1) (fun ⟨l, _, _, _, _, e⟩ => absurd e he1))
    clear hA1 hA2'
    gi_wp2_with fail
    rw [← HW4.out.1]
    have hd := Hd.out
    have b1 : Boxed (w4.setCell ⟨r, 0, none⟩ (.bool false)) r 4 (.bool false) := H4.out.1.set _
    have hlow : Below w.heap.size w (w4.setCell ⟨r, 0, none⟩ (.bool false)) := H4.out.2.setCell (by show w.heap.size ≤ r; omega) _
    refine leaves_marks (B := w.heap.size) [] _ ⟨List.nodup_nil, (fun d hd => nomatch hd)⟩ fun w' hw' => ⟨.bool false, ?_, ⟨false, rfl, alike_no1 HP.out.noSeg⟩, hlow.trans hw'.1⟩
    have b1' : Boxed w' r 4 (.bool false) := hw'.2 _ _ b1 rfl
    have hc1 := b1'.cell
    clear hd b1 b1' hlow hrc hrf d0 d1 d2 g0 g1 g2
    simp [results, Tryz.results20, go_sem, *]

/-- Alike: P10.3. -/
theorem Alike_any [Inhabited Cr.Rows16] (t t' : Int) (A B : Option Addr) (n c n' c' : Nat) (a b : List Int) (w : World) (hT : Cr.Tab w) (hr : Rd w w.heap.size .u8 A n a) (hb : Byt a) (hnc : n ≤ c) (hn : n ≤ 200000)
    (hr' : Rd w w.heap.size .u8 B n' b) (hb' : Byt b) (hnc' : n' ≤ c') (hn' : n' ≤ 200000) (ht : (Lit.int .i64 t).wf = true) (ht' : (Lit.int .i64 t').wf = true) :
    Calls Tryz.prog 20 #[.slice A n c, .int .i64 t, .slice B n' c', .int .i64 t'] w fun e w' => (∃ k, e = .returned (.bool k) ∧ AlikeIs a t b t' k) ∧ Below w.heap.size w w' := callsIn_wide.1 (alike_in t t' A B n c n' c' a b w hT hr hb hnc hn hr' hb' hnc' hn' ht ht')

end Go.Proofs.YtcpdjhkpmaamdaaGreat
