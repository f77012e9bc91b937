/-
  either's formats; File, Scan, whole, More, Turn: their contracts.
-/
import Derived.Test.YtcpdjhkpmaamdaaGreatEitherP
import Derived.Test.YtcpdjhkpmaamdaaGreatOneA
import Derived.Maps.RangeWalk
import Derived.Maps.Own
import Derived.Laws.MakeOwn
namespace Go.Proofs.YtcpdjhkpmaamdaaGreat
open Go.RowKit Go.Maps
set_option linter.unusedVariables false

theorem int_keyed10 : Keyed Tryz.prog 3 := int_keyed Tryz.underlying3
theorem key_int10 {k : Int} (hk : (Lit.int .i64 k).wf = true) : keyOf Tryz.prog 3 (.int .i64 k) = some (.int .i64 k) := keyOf_int_mk Tryz.underlying3 hk
theorem zero_fmt (w : World) : (zeroValue 47).run Tryz.prog w = .ok .nilIface w := by kernel_rfl
/-- An element reads as itself. -/
def itself (v : Value) : Option (DataW Value × List MemPlace) := some (.held v, [])
def recV10 : Value := .iface 63 (.agg #[])
def blkV10 : Value := .iface 64 (.agg #[])
def fmtsD : DataW Value := ((DataW.map []).put (.int .i64 1) (.held recV10)).put (.int .i64 2) (.held blkV10)
/-- Block g holds them. -/
def FmtsAt (w : World) (g : Nat) : Prop := w.ownsMap Tryz.prog 3 itself g 2 fmtsD
theorem FmtsAt.block {w w' : World} {g : Nat} (h : FmtsAt w g) (hb : w'.heap[g]? = w.heap[g]?) : FmtsAt w' g := by
  obtain ⟨es, clock, h1, h2, h3, h4⟩ := h
  exact ⟨es, clock, hb.trans h1, h2, h3, h4⟩
theorem FmtsAt.lt {w : World} {g : Nat} (h : FmtsAt w g) : g < w.heap.size := World.ownsMap.lt h
def fmtV10 (k : Int) : Value := if k = 1 then recV10 else if k = 2 then blkV10 else .nilIface
def fmtB (k : Int) : Bool := decide (k = 1) || decide (k = 2)
theorem fmtB_iff {k : Int} : fmtB k = true ↔ FmtE k := by simp [fmtB, FmtE]
theorem fmtB_not {k : Int} (h : ¬ FmtE k) : fmtB k = false := by
  cases hb : fmtB k
  · rfl
  · exact absurd (fmtB_iff.1 hb) h
theorem fmts_at {w : World} {g : Nat} (h : FmtsAt w g) {k : Int} (hk : (Lit.int .i64 k).wf = true) {v : Value} {y : Bool} (hh : Maps.has fmtsD (.int .i64 k) = y) (hv : fmtsD.atKey (.int .i64 k) (.held .nilIface) = .held v) :
    (Instr.lookup 49 (.map (some g)) (.int .i64 k) true).run Tryz.prog w = .ok (.tuple #[v, .bool y]) w ∧
    (Instr.lookup 49 (.map (some g)) (.int .i64 k) false).run Tryz.prog w = .ok v w := by
  obtain ⟨u, ps, hrun, hu⟩ := World.ownsMap.look_ok h int_keyed10 Tryz.underlying49 (zero_fmt w) (zd := .held .nilIface) (zp := []) rfl (key_int10 hk)
  obtain ⟨u', ps', hrun', hu'⟩ := World.ownsMap.lookup h int_keyed10 Tryz.underlying49 (zero_fmt w) (zd := .held .nilIface) (zp := []) rfl (key_int10 hk)
  rw [hh] at hrun
  rw [hv] at hu hu'
  have e : u = v := by
    unfold itself at hu
    cases hu
    rfl
  have e' : u' = v := by
    unfold itself at hu'
    cases hu'
    rfl
  rw [e] at hrun
  rw [e'] at hrun'
  exact ⟨hrun, hrun'⟩
theorem fmts_look {w : World} {g : Nat} (h : FmtsAt w g) {k : Int} (hk : (Lit.int .i64 k).wf = true) :
    (Instr.lookup 49 (.map (some g)) (.int .i64 k) true).run Tryz.prog w = .ok (.tuple #[fmtV10 k, .bool (fmtB k)]) w ∧
    (Instr.lookup 49 (.map (some g)) (.int .i64 k) false).run Tryz.prog w = .ok (fmtV10 k) w := by
  unfold fmtV10
  by_cases h1 : k = 1
  · subst h1; exact fmts_at h hk rfl rfl
  by_cases h2 : k = 2
  · subst h2; exact fmts_at h hk rfl rfl
  rw [if_neg h1, if_neg h2, fmtB_not (fun h => h.elim h1 h2)]
  have n1 : (Lit.int .i64 k) ≠ .int .i64 1 := fun e => by cases e; exact h1 rfl
  have n2 : (Lit.int .i64 k) ≠ .int .i64 2 := fun e => by cases e; exact h2 rfl
  refine fmts_at h hk ?_ ?_
  · unfold fmtsD
    rw [has_put_other n2, has_put_other n1]
    rfl
  · unfold fmtsD
    rw [atKey_put_other n2, atKey_put_other n1]
    rfl

set_option maxRecDepth 100000 in
set_option maxHeartbeats 400000 in
theorem formats_any (w : World) : Calls Tryz.prog 24 #[] w fun e w' => (∃ g, e = .returned (.map (some g)) ∧ FmtsAt w' g ∧ w.heap.size ≤ g) ∧ Below w.heap.size w w' := by
  have hmm := @run_makeMap Tryz.prog
  have h0 : (w.alloc (.map #[] 0)).ownsMap Tryz.prog 3 itself w.heap.size 0 (.map []) := World.ownsMap_made w _ _ _
  have b0 := (Below.refl w.heap.size w).alloc (Nat.le_refl _) (.map #[] 0)
  obtain ⟨w1, r1, h1, g1⟩ := h0.update int_keyed10 Tryz.underlying49 (by decide) (key_int10 (k := 1) (by decide)) (val := recV10) (d := .held recV10) (ps := []) rfl
  obtain ⟨w2, r2, h2, g2⟩ := h1.update int_keyed10 Tryz.underlying49 (by decide) (key_int10 (k := 2) (by decide)) (val := blkV10) (d := .held blkV10) (ps := []) rfl
  have b1 := b0.grown g1 b0.size (fun k e => by cases e; exact Nat.le_refl _)
  have b2 := b1.grown g2 b1.size (fun k e => by cases e; exact Nat.le_refl _)
  have Ho := Lib.hid (show FmtsAt w2 w.heap.size from h2)
  clear h0 h1 h2 g1 g2 b0 b1
  unfold recV10 at r1
  unfold blkV10 at r2
  go_enter Tryz.func24, Tryz.ntmps24
  go_wp2_with fail
  go_ret
  exact ⟨⟨_, rfl, Ho.out, Nat.le_refl _⟩, b2⟩

end Go.Proofs.YtcpdjhkpmaamdaaGreat

namespace Go.Proofs.YtcpdjhkpmaamdaaGreat
open Go.RowKit Go.Maps
set_option linter.unusedVariables false

/-- Bytes and an error told. -/
def TelE (w : World) (R : List Int × Int) (e : Ending) (w' : World) : Prop :=
  (∃ A n c, e = .returned (.tuple #[.slice A n c, .int .i64 R.2]) ∧ R.1.length = n ∧ n ≤ c ∧ Rd w' w'.heap.size .u8 A n R.1) ∧ Below w.heap.size w w'
theorem Tel.e {w w' : World} {R : List Int × Int} {e : Ending} (h : Tel w R e w') : TelE w R e w' := by
  obtain ⟨⟨A, c, rfl, hc, own⟩, hb⟩ := h
  exact ⟨⟨A, _, c, rfl, rfl, hc, Rd.of_own own⟩, hb⟩
theorem TelTw.e {w w' : World} {R : List Int × Int} {e : Ending} (h : TelTw w R e w') : TelE w R e w' := Tel.e h
theorem TelE.nil {w w' : World} {er : Int} (hb : Below w.heap.size w w') : TelE w ([], er) (.returned (.tuple #[.slice none 0 0, .int .i64 er])) w' :=
  ⟨⟨none, 0, 0, rfl, rfl, Nat.le_refl _, ⟨rfl, fun h => absurd h (by omega)⟩⟩, hb⟩
/-- What is told of a scan. -/
def ScA [Inhabited Cr.Rows16] (t : Int) (b : List Int) (w : World) (f : Int) (A : Option Addr) (n c u : Nat) (er : Int) : Prop :=
  (¬ FmtE t ∧ f = 0 ∧ n = 0 ∧ u = 0 ∧ er = 2) ∨ (NoScn t b ∧ f = 0 ∧ n = 0 ∧ u = 0 ∧ er = 11) ∨
    ∃ l, ScnIs t b f l u ∧ l.length = n ∧ n ≤ c ∧ Es w w.heap.size A n l ∧ er = 0
def ScR [Inhabited Cr.Rows16] (t : Int) (w : World) (b : List Int) (e : Ending) (w' : World) : Prop :=
  (∃ f A n c u er, e = .returned (.tuple #[.agg #[.int .i64 f, .slice A n c, .int .i64 (u : Nat)], .int .i64 er]) ∧ ScA t b w' f A n c u er) ∧ Below w.heap.size w w'
theorem ScA.below [Inhabited Cr.Rows16] {t : Int} {b : List Int} {w w' : World} {f er : Int} {A : Option Addr} {n c u : Nat} (h : ScA t b w f A n c u er) (hb : Below w.heap.size w w') : ScA t b w' f A n c u er := by
  rcases h with h | h | ⟨l, h1, h2, h3, h4, h5⟩
  · exact .inl h
  · exact .inr (.inl h)
  · exact .inr (.inr ⟨l, h1, h2, h3, h4.on hb hb.size, h5⟩)
/-- .. behind a store of it all into its box. -/
theorem ScA.put [Inhabited Cr.Rows16] {t : Int} {b : List Int} {w : World} {f f' v' er : Int} {A : Option Addr} {n c u r : Nat} {va : Option Addr} {vn vc : Nat} (h : ScA t b w f A n c u er) (hb : BoxCTw w r f' (.slice va vn vc) v') (u0 u1 u2 : Value) :
    ScA t b (((w.setCell ⟨r, 0, none⟩ u0).setCell ⟨r, 1, none⟩ u1).setCell ⟨r, 2, none⟩ u2) f A n c u er := by
  rcases h with h | h | ⟨l, h1, h2, h3, h4, h5⟩
  · exact .inl h
  · exact .inr (.inl h)
  · have h7 := es_apart h4 hb (set3_other w r u0 u1 u2)
    exact .inr (.inr ⟨l, h1, h2, h3, h7.on (Below.refl _ _) (by simp), h5⟩)
theorem ScanT.r [Inhabited Cr.Rows16] {b : List Int} {w w' : World} {e : Ending} (h : ScanT w (scanP b) e w') : ScR 1 w b e w' := by
  obtain ⟨⟨A, c, rfl, hc, hE⟩, hb⟩ := h
  refine ⟨?_, hb⟩
  cases hh : headO b with
  | none =>
    rw [scanP_none hh] at hc hE ⊢
    exact ⟨_, _, _, _, 0, _, rfl, .inr (.inl ⟨.inl ⟨rfl, hh⟩, rfl, rfl, rfl, rfl⟩)⟩
  | some f =>
    rw [scanP_some hh] at hc hE ⊢
    exact ⟨_, _, _, _, 6 + 15 * (scanL (b.drop 6)).length, _, rfl, .inr (.inr ⟨_, .inl ⟨rfl, hh, rfl, rfl⟩, rfl, hc, hE, rfl⟩)⟩
theorem ScnT.r [Inhabited Cr.Rows16] {b : List Int} {w w' : World} {e : Ending} (h : ScnT w b e w') : ScR 2 w b e w' := by
  obtain ⟨f, A, n, c, u, x, y, er, rfl, hA, hb⟩ := h
  refine ⟨⟨f, A, n, c, u, er, rfl, ?_⟩, hb⟩
  rcases hA with ⟨rfl, cs, r, h1, h2, h3, h4, h5, _⟩ | ⟨rfl, h1, rfl, rfl, rfl, rfl, rfl, _⟩
  · exact .inr (.inr ⟨_, .inr ⟨rfl, cs, r, h1, rfl, h3⟩, h2, h4, h5, rfl⟩)
  · exact .inr (.inl ⟨.inr ⟨rfl, h1⟩, rfl, rfl, rfl, rfl⟩)
theorem Es.nil_ {w : World} {B : Nat} : Es w B none 0 [] := Row.nil

set_option maxRecDepth 100000 in
set_option maxHeartbeats 1000000 in
theorem rec_file [Inhabited Cr.Rows16] (first : Int) (A : Option Addr) (n c : Nat) (l : List EnP) (w : World) (hT : Cr.Tab w) (hl : Es w w.heap.size A n l) (hn : n ≤ 1000000) :
    Calls Tryz.prog 107 #[.agg #[], .int .i64 first, .slice A n c] w (TelE w (fileP first l)) := by
  have HT := Lib.hid hT
  have Hl := Lib.hid hl
  clear hT hl
  go_enter Tryz.func107, Tryz.ntmps107
  go_wp2_with fail
  have hB0 : Below w.heap.size w (w.alloc (.cells #[] 63)) := (Below.refl _ _).alloc (Nat.le_refl _) _
  refine Calls.mono (file_any first A n c l _ (HT.out.on hB0) (Hl.out.on hB0 hB0.size) hn) ?_
  intro e w1 hh
  obtain ⟨⟨A1, n1, c1, rfl, hn1, hc1, hr1⟩, hb1⟩ := hh.e
  clear hh
  have H1 := Lib.hid (⟨hn1, hc1, hr1, hB0.trans (hb1.mono hB0.size)⟩ : _ ∧ _ ∧ _ ∧ _)
  clear hn1 hc1 hr1 hb1 hB0
  go_wp2_with fail
  go_ret2
  exact ⟨⟨A1, n1, c1, rfl, H1.out.1, H1.out.2.1, H1.out.2.2.1⟩, H1.out.2.2.2⟩

set_option maxRecDepth 100000 in
set_option maxHeartbeats 1000000 in
theorem blk_file (first : Int) (A : Option Addr) (n c : Nat) (l : List EnP) (w : World) (hl : Es w w.heap.size A n l) (hnc : n ≤ c) (hn : n ≤ 1000000) :
    Calls Tryz.prog 138 #[.agg #[], .int .i64 first, .slice A n c] w (TelE w (filePTw first l)) := by
  have Hl := Lib.hid hl
  clear hl
  go_enter Tryz.func138, Tryz.ntmps138
  go_wp2_with fail
  have hB0 : Below w.heap.size w (w.alloc (.cells #[] 64)) := (Below.refl _ _).alloc (Nat.le_refl _) _
  refine Calls.mono (file_anyTw first A n c l _ (Hl.out.on hB0 hB0.size) hnc hn) ?_
  intro e w1 hh
  obtain ⟨⟨A1, n1, c1, rfl, hn1, hc1, hr1⟩, hb1⟩ := hh.e
  clear hh
  have H1 := Lib.hid (⟨hn1, hc1, hr1, hB0.trans (hb1.mono hB0.size)⟩ : _ ∧ _ ∧ _ ∧ _)
  clear hn1 hc1 hr1 hb1 hB0
  go_wp2_with fail
  go_ret2
  exact ⟨⟨A1, n1, c1, rfl, H1.out.1, H1.out.2.1, H1.out.2.2.1⟩, H1.out.2.2.2⟩

theorem m_file1 (k : Nat) (w : World) : (method (k + 1) 63 (.agg #[]) "moult/either.file").run Tryz.prog w = .ok (107, .agg #[]) w := by kernel_rfl
theorem m_file2 (k : Nat) (w : World) : (method (k + 1) 64 (.agg #[]) "moult/either.file").run Tryz.prog w = .ok (138, .agg #[]) w := by kernel_rfl
theorem m_scan1 (k : Nat) (w : World) : (method (k + 1) 63 (.agg #[]) "moult/either.scan").run Tryz.prog w = .ok (109, .agg #[]) w := by kernel_rfl
theorem m_scan2 (k : Nat) (w : World) : (method (k + 1) 64 (.agg #[]) "moult/either.scan").run Tryz.prog w = .ok (140, .agg #[]) w := by kernel_rfl
theorem m_more1 (k : Nat) (w : World) : (method (k + 1) 63 (.agg #[]) "moult/either.more").run Tryz.prog w = .ok (108, .agg #[]) w := by kernel_rfl
theorem m_more2 (k : Nat) (w : World) : (method (k + 1) 64 (.agg #[]) "moult/either.more").run Tryz.prog w = .ok (139, .agg #[]) w := by kernel_rfl

set_option maxRecDepth 100000 in
set_option maxHeartbeats 1000000 in
/-- File: P10.1. -/
theorem File_any [Inhabited Cr.Rows16] (t first : Int) (A : Option Addr) (n c : Nat) (l : List EnP) (w : World) (hT : Cr.Tab w) (hl : Es w w.heap.size A n l) (ht : (Lit.int .i64 t).wf = true) (hnc : n ≤ c) (hn : n ≤ 1000000) :
    Calls Tryz.prog 8 #[.int .i64 t, .int .i64 first, .slice A n c] w (TelE w (fileE t first l)) := by
  have HT := Lib.hid hT
  have Hl := Lib.hid hl
  have Ht := Lib.hid ht
  clear hT hl ht
  go_enter Tryz.func8, Tryz.ntmps8
  go_wp2_with fail
  refine (formats_any w).mono ?_
  rintro e w1 ⟨⟨g, rfl, hg, hgl⟩, hB1⟩
  have hlk := (fmts_look hg Ht.out).1
  have HB := Lib.hid (⟨hB1, hg⟩ : _ ∧ _)
  clear hB1 hg
  by_cases h1 : t = 1
  · subst h1
    have e1 : fmtV10 1 = recV10 := rfl
    have e2 : fmtB 1 = true := rfl
    rw [e1, e2] at hlk
    unfold recV10 at hlk
    clear e1 e2
    have hE : fileE 1 first l = fileP first l := if_pos rfl
    rw [hE]
    clear hE
    go_wp2_with fail
    rw [m_file1]
    clear hlk
    go_wp2_with fail
    refine Calls.mono (rec_file first A n c l w1 (HT.out.on HB.out.1) (Hl.out.on HB.out.1 HB.out.1.size) hn) ?_
    intro e w2 hh
    obtain ⟨⟨A1, n1, c1, rfl, hn1, hc1, hr1⟩, hb1⟩ := hh
    have H1 := Lib.hid (⟨hn1, hc1, hr1, HB.out.1.trans (hb1.mono HB.out.1.size)⟩ : _ ∧ _ ∧ _ ∧ _)
    clear hn1 hc1 hr1 hb1
    go_wp2_with fail
    go_ret2
    exact ⟨⟨A1, n1, c1, rfl, H1.out.1, H1.out.2.1, H1.out.2.2.1⟩, H1.out.2.2.2⟩
  · by_cases h2 : t = 2
    · subst h2
      have e1 : fmtV10 2 = blkV10 := rfl
      have e2 : fmtB 2 = true := rfl
      rw [e1, e2] at hlk
      unfold blkV10 at hlk
      clear e1 e2
      have hE : fileE 2 first l = filePTw first l := (if_neg (by decide)).trans (if_pos rfl)
      rw [hE]
      clear hE h1
      go_wp2_with fail
      rw [m_file2]
      clear hlk
      go_wp2_with fail
      refine Calls.mono (blk_file first A n c l w1 (Hl.out.on HB.out.1 HB.out.1.size) hnc hn) ?_
      intro e w2 hh
      obtain ⟨⟨A1, n1, c1, rfl, hn1, hc1, hr1⟩, hb1⟩ := hh
      have H1 := Lib.hid (⟨hn1, hc1, hr1, HB.out.1.trans (hb1.mono HB.out.1.size)⟩ : _ ∧ _ ∧ _ ∧ _)
      clear hn1 hc1 hr1 hb1
      go_wp2_with fail
      go_ret2
      exact ⟨⟨A1, n1, c1, rfl, H1.out.1, H1.out.2.1, H1.out.2.2.1⟩, H1.out.2.2.2⟩
    · have hE : fileE t first l = ([], 2) := (if_neg h1).trans (if_neg h2)
      have e2 : fmtB t = false := fmtB_not (fun h => h.elim h1 h2)
      rw [e2] at hlk
      clear e2
      go_wp2_with fail
      go_ret2
      show TelE w (fileE t first l) (.returned (.tuple #[.slice none 0 0, .int .i64 2])) w1
      rw [hE]
      exact TelE.nil HB.out.1


set_option maxRecDepth 100000 in
set_option maxHeartbeats 1000000 in
theorem rec_scan [Inhabited Cr.Rows16] (A : Option Addr) (n c : Nat) (b : List Int) (w : World) (hT : Cr.Tab w) (hr : Rd w w.heap.size .u8 A n b) (hb : Byt b) (hnc : n ≤ c) (hn : n ≤ 1000000) :
    Calls Tryz.prog 109 #[.agg #[], .slice A n c] w (ScR 1 w b) := by
  have HT := Lib.hid hT
  have Hl := Lib.hid (⟨hr, hb⟩ : _ ∧ _)
  clear hT hr hb
  go_enter Tryz.func109, Tryz.ntmps109
  go_wp2_with fail
  obtain ⟨r, hr⟩ : ∃ r, r = w.heap.size + 1 := ⟨_, rfl⟩
  obtain ⟨w0, hw0⟩ : ∃ w0, w0 = (w.alloc (.cells #[] 63)).alloc (.cells #[.int .i64 0, .slice none 0 0, .int .i64 0] 29) := ⟨_, rfl⟩
  have hB0 : Below w.heap.size w w0 := by rw [hw0]; exact below_al (below_al (below_d0 w) _) _
  have b0 : BoxCTw w0 r 0 (.slice none 0 0) 0 := by
    have h := BoxCTw.new (w.alloc (.cells #[] 63)) 0 0 (.slice none 0 0)
    rw [hw0, hr]
    simpa using h
  rw [← hw0, ← hr]
  have Hr := Lib.hid (show w.heap.size ≤ r by omega)
  clear hw0 hr
  refine Calls.mono (scan_any A n c b w0 (HT.out.on hB0) (Hl.out.1.on hB0 hB0.size) Hl.out.2 hnc (by omega)) ?_
  intro e w1 hh
  obtain ⟨⟨f, A1, n1, c1, u, er, rfl, hA⟩, hb1⟩ := hh.r
  clear hh
  have b1 := b0.below hb1
  have hB1 := hB0.trans (hb1.mono hB0.size)
  have f0 := b1.frozen 0
  have f1 := b1.frozen 1
  have f2 := b1.frozen 2
  obtain ⟨g0, g1, g2⟩ := b1.cells
  have HS := Lib.hid (⟨hA, hB1, b1⟩ : _ ∧ _ ∧ _)
  clear hA hb1 b0 hB0 b1 hB1
  go_wp2_with fail
  have bf := ((HS.out.2.2.s0 f).s1 (.slice A1 n1 c1)).s2 (u : Int)
  obtain ⟨k0, k1, k2⟩ := bf.cells
  have hz := Hr.out
  refine bodyPost_ret (v := .tuple #[.agg #[.int .i64 f, .slice A1 n1 c1, .int .i64 (u : Int)], .int .i64 er]) (by simp [results, Tryz.results109, go_sem, k0, k1, k2]) rfl ?_
  exact ⟨⟨f, A1, n1, c1, u, er, rfl, HS.out.1.put HS.out.2.2 _ _ _⟩, ((HS.out.2.1.setCell (p := ⟨r, 0, none⟩) hz (.int .i64 f)).setCell (p := ⟨r, 1, none⟩) hz (.slice A1 n1 c1)).setCell (p := ⟨r, 2, none⟩) hz (.int .i64 (u : Int))⟩

set_option maxRecDepth 100000 in
set_option maxHeartbeats 1000000 in
theorem blk_scan [Inhabited Cr.Rows16] (A : Option Addr) (n c : Nat) (b : List Int) (w : World) (hT : Cr.Tab w) (hr : Rd w w.heap.size .u8 A n b) (hb : Byt b) (hnc : n ≤ c) (hn : n ≤ 1000000) :
    Calls Tryz.prog 140 #[.agg #[], .slice A n c] w (ScR 2 w b) := by
  have HT := Lib.hid hT
  have Hl := Lib.hid (⟨hr, hb⟩ : _ ∧ _)
  clear hT hr hb
  go_enter Tryz.func140, Tryz.ntmps140
  go_wp2_with fail
  obtain ⟨r, hr⟩ : ∃ r, r = w.heap.size + 1 := ⟨_, rfl⟩
  obtain ⟨w0, hw0⟩ : ∃ w0, w0 = (w.alloc (.cells #[] 64)).alloc (.cells #[.int .i64 0, .slice none 0 0, .int .i64 0] 29) := ⟨_, rfl⟩
  have hB0 : Below w.heap.size w w0 := by rw [hw0]; exact below_al (below_al (below_d0 w) _) _
  have b0 : BoxCTw w0 r 0 (.slice none 0 0) 0 := by
    have h := BoxCTw.new (w.alloc (.cells #[] 64)) 0 0 (.slice none 0 0)
    rw [hw0, hr]
    simpa using h
  rw [← hw0, ← hr]
  have Hr := Lib.hid (show w.heap.size ≤ r by omega)
  clear hw0 hr
  refine Calls.mono (Scan_any A n c b w0 (Hl.out.1.on hB0 hB0.size) Hl.out.2 hnc hn) ?_
  intro e w1 hh
  obtain ⟨⟨f, A1, n1, c1, u, er, rfl, hA⟩, hb1⟩ := hh.r
  clear hh
  have b1 := b0.below hb1
  have hB1 := hB0.trans (hb1.mono hB0.size)
  have f0 := b1.frozen 0
  have f1 := b1.frozen 1
  have f2 := b1.frozen 2
  obtain ⟨g0, g1, g2⟩ := b1.cells
  have HS := Lib.hid (⟨hA, hB1, b1⟩ : _ ∧ _ ∧ _)
  clear hA hb1 b0 hB0 b1 hB1
  go_wp2_with fail
  have bf := ((HS.out.2.2.s0 f).s1 (.slice A1 n1 c1)).s2 (u : Int)
  obtain ⟨k0, k1, k2⟩ := bf.cells
  have hz := Hr.out
  refine bodyPost_ret (v := .tuple #[.agg #[.int .i64 f, .slice A1 n1 c1, .int .i64 (u : Int)], .int .i64 er]) (by simp [results, Tryz.results140, go_sem, k0, k1, k2]) rfl ?_
  exact ⟨⟨f, A1, n1, c1, u, er, rfl, HS.out.1.put HS.out.2.2 _ _ _⟩, ((HS.out.2.1.setCell (p := ⟨r, 0, none⟩) hz (.int .i64 f)).setCell (p := ⟨r, 1, none⟩) hz (.slice A1 n1 c1)).setCell (p := ⟨r, 2, none⟩) hz (.int .i64 (u : Int))⟩

set_option maxRecDepth 100000 in
set_option maxHeartbeats 1000000 in
/-- Scan: P10.1. -/
theorem EScan_any [Inhabited Cr.Rows16] (t : Int) (A : Option Addr) (n c : Nat) (b : List Int) (w : World) (hT : Cr.Tab w) (hr : Rd w w.heap.size .u8 A n b) (hb : Byt b) (hnc : n ≤ c) (hn : n ≤ 1000000) (ht : (Lit.int .i64 t).wf = true) :
    Calls Tryz.prog 10 #[.slice A n c, .int .i64 t] w (ScR t w b) := by
  have HT := Lib.hid hT
  have Hl := Lib.hid (⟨hr, hb⟩ : _ ∧ _)
  have Ht := Lib.hid ht
  clear hT hr hb ht
  go_enter Tryz.func10, Tryz.ntmps10
  go_wp2_with fail
  obtain ⟨r, hr⟩ : ∃ r, r = w.heap.size := ⟨_, rfl⟩
  obtain ⟨w0, hw0⟩ : ∃ w0, w0 = w.alloc (.cells #[.int .i64 0, .slice none 0 0, .int .i64 0] 29) := ⟨_, rfl⟩
  have hB0 : Below w.heap.size w w0 := by rw [hw0]; exact below_al (below_d0 w) _
  have b0 : BoxCTw w0 r 0 (.slice none 0 0) 0 := by rw [hw0, hr]; exact BoxCTw.new _ _ _ _
  rw [← hw0, ← hr]
  have Hr := Lib.hid (show w.heap.size ≤ r by omega)
  clear hw0 hr
  refine (formats_any w0).mono ?_
  rintro e w1 ⟨⟨g, rfl, hg, hgl⟩, hb1⟩
  have hlk := (fmts_look hg Ht.out).1
  have b1 := b0.below hb1
  have hB1 := hB0.trans (hb1.mono hB0.size)
  have HB := Lib.hid (⟨hB1, hg⟩ : _ ∧ _)
  clear hB1 hg hb1 hB0 b0
  by_cases h1 : t = 1
  · subst h1
    have e1 : fmtV10 1 = recV10 := rfl
    have e2 : fmtB 1 = true := rfl
    rw [e1, e2] at hlk
    unfold recV10 at hlk
    clear e1 e2
    go_wp2_with fail
    rw [m_scan1]
    clear hlk
    go_wp2_with fail
    refine Calls.mono (rec_scan A n c b w1 (HT.out.on HB.out.1) (Hl.out.1.on HB.out.1 HB.out.1.size) Hl.out.2 hnc hn) ?_
    intro e w2 hh
    obtain ⟨⟨f, A1, n1, c1, u, er, rfl, hA⟩, hb2⟩ := hh
    have b2 := b1.below hb2
    have hB2 := HB.out.1.trans (hb2.mono HB.out.1.size)
    have f0 := b2.frozen 0
    have f1 := b2.frozen 1
    have f2 := b2.frozen 2
    obtain ⟨g0, g1, g2⟩ := b2.cells
    have HS := Lib.hid (⟨hA, hB2, b2⟩ : _ ∧ _ ∧ _)
    clear hA hb2 b1 b2 hB2
    go_wp2_with fail
    have bf := ((HS.out.2.2.s0 f).s1 (.slice A1 n1 c1)).s2 (u : Int)
    obtain ⟨k0, k1, k2⟩ := bf.cells
    have hz := Hr.out
    refine bodyPost_ret (v := .tuple #[.agg #[.int .i64 f, .slice A1 n1 c1, .int .i64 (u : Int)], .int .i64 er]) (by simp [results, Tryz.results10, go_sem, k0, k1, k2]) rfl ?_
    exact ⟨⟨f, A1, n1, c1, u, er, rfl, HS.out.1.put HS.out.2.2 _ _ _⟩, ((HS.out.2.1.setCell (p := ⟨r, 0, none⟩) hz (.int .i64 f)).setCell (p := ⟨r, 1, none⟩) hz (.slice A1 n1 c1)).setCell (p := ⟨r, 2, none⟩) hz (.int .i64 (u : Int))⟩
  · by_cases h2 : t = 2
    · subst h2
      have e1 : fmtV10 2 = blkV10 := rfl
      have e2 : fmtB 2 = true := rfl
      rw [e1, e2] at hlk
      unfold blkV10 at hlk
      clear e1 e2
      go_wp2_with fail
      rw [m_scan2]
      clear hlk
      go_wp2_with fail
      refine Calls.mono (blk_scan A n c b w1 (HT.out.on HB.out.1) (Hl.out.1.on HB.out.1 HB.out.1.size) Hl.out.2 hnc hn) ?_
      intro e w2 hh
      obtain ⟨⟨f, A1, n1, c1, u, er, rfl, hA⟩, hb2⟩ := hh
      have b2 := b1.below hb2
      have hB2 := HB.out.1.trans (hb2.mono HB.out.1.size)
      have f0 := b2.frozen 0
      have f1 := b2.frozen 1
      have f2 := b2.frozen 2
      obtain ⟨g0, g1, g2⟩ := b2.cells
      have HS := Lib.hid (⟨hA, hB2, b2⟩ : _ ∧ _ ∧ _)
      clear hA hb2 b1 b2 hB2
      go_wp2_with fail
      have bf := ((HS.out.2.2.s0 f).s1 (.slice A1 n1 c1)).s2 (u : Int)
      obtain ⟨k0, k1, k2⟩ := bf.cells
      have hz := Hr.out
      refine bodyPost_ret (v := .tuple #[.agg #[.int .i64 f, .slice A1 n1 c1, .int .i64 (u : Int)], .int .i64 er]) (by simp [results, Tryz.results10, go_sem, k0, k1, k2]) rfl ?_
      exact ⟨⟨f, A1, n1, c1, u, er, rfl, HS.out.1.put HS.out.2.2 _ _ _⟩, ((HS.out.2.1.setCell (p := ⟨r, 0, none⟩) hz (.int .i64 f)).setCell (p := ⟨r, 1, none⟩) hz (.slice A1 n1 c1)).setCell (p := ⟨r, 2, none⟩) hz (.int .i64 (u : Int))⟩
    · have hF : ¬ FmtE t := fun h => h.elim h1 h2
      have e2 : fmtB t = false := fmtB_not hF
      rw [e2] at hlk
      clear e2
      have f0 := b1.frozen 0
      have f1 := b1.frozen 1
      have f2 := b1.frozen 2
      obtain ⟨g0, g1, g2⟩ := b1.cells
      have HS := Lib.hid (⟨hF, b1⟩ : _ ∧ _)
      clear b1 hF
      go_wp2_with fail
      have bf := ((HS.out.2.s0 0).s1 (.slice none 0 0)).s2 0
      obtain ⟨k0, k1, k2⟩ := bf.cells
      have hz := Hr.out
      refine bodyPost_ret (v := .tuple #[.agg #[.int .i64 0, .slice none 0 0, .int .i64 0], .int .i64 2]) (by simp [results, Tryz.results10, go_sem, k0, k1, k2]) rfl ?_
      exact ⟨⟨0, none, 0, 0, 0, 2, rfl, .inl ⟨HS.out.1, rfl, rfl, rfl, rfl⟩⟩, ((HB.out.1.setCell (p := ⟨r, 0, none⟩) hz (.int .i64 0)).setCell (p := ⟨r, 1, none⟩) hz (.slice none 0 0)).setCell (p := ⟨r, 2, none⟩) hz (.int .i64 0)⟩

end Go.Proofs.YtcpdjhkpmaamdaaGreat

namespace Go.Proofs.YtcpdjhkpmaamdaaGreat
open Go.RowKit Go.Maps
set_option linter.unusedVariables false

theorem NoScn.fmt [Inhabited Cr.Rows16] {t : Int} {b : List Int} (h : NoScn t b) : FmtE t := h.elim (fun h => .inl h.1) fun h => .inr h.1
theorem ScnIs.fmt [Inhabited Cr.Rows16] {t : Int} {b : List Int} {f : Int} {l : List EnP} {u : Nat} (h : ScnIs t b f l u) : FmtE t := h.elim (fun h => .inl h.1) fun h => .inr h.1
theorem SegIs.fmt [Inhabited Cr.Rows16] {t : Int} {b : List Int} {f : Int} {l : List EnP} (h : SegIs t b f l) : FmtE t := h.elim (fun h => .inl h.1) fun h => .inr h.1
theorem NoScn.noSeg [Inhabited Cr.Rows16] {t : Int} {b : List Int} (h : NoScn t b) : NoSeg t b := fun f l k => k.scn.not h
theorem ScnIs.noSeg [Inhabited Cr.Rows16] {t : Int} {b : List Int} {f : Int} {l : List EnP} {u : Nat} (h : ScnIs t b f l u) (hu : u ≠ b.length) : NoSeg t b := fun g m k => hu (h.same k.scn).2.2

/-- Why bytes are not whole. -/
def WhNo [Inhabited Cr.Rows16] (t : Int) (b : List Int) (er : Int) : Prop := (¬ FmtE t ∧ er = 2) ∨ (FmtE t ∧ NoSeg t b ∧ er = 11)
theorem WhNo.ne [Inhabited Cr.Rows16] {t : Int} {b : List Int} {er : Int} (h : WhNo t b er) : er ≠ 0 := by
  rcases h with ⟨_, rfl⟩ | ⟨_, _, rfl⟩ <;> decide
/-- What is told of whole bytes. -/
def WhA [Inhabited Cr.Rows16] (t : Int) (b : List Int) (w : World) (f : Int) (A : Option Addr) (n c u : Nat) (er : Int) : Prop :=
  (WhNo t b er ∧ f = 0 ∧ A = none ∧ n = 0 ∧ c = 0 ∧ u = 0) ∨ ∃ l, SegIs t b f l ∧ l.length = n ∧ n ≤ c ∧ Es w w.heap.size A n l ∧ er = 0
def WhR [Inhabited Cr.Rows16] (t : Int) (w : World) (b : List Int) (e : Ending) (w' : World) : Prop :=
  (∃ f A n c u er, e = .returned (.tuple #[.agg #[.int .i64 f, .slice A n c, .int .i64 (u : Nat)], .int .i64 er]) ∧ WhA t b w' f A n c u er) ∧ Below w.heap.size w w'

/-- What holds where none is whole. -/
def WJ [Inhabited Cr.Rows16] (w : World) (A : Option Addr) (n c r : Nat) (t : Int) (b : List Int) (a : Act) (W : World) : Prop :=
  ∃ (u2 u3 u5 u6 u8 u9 u10 u11 u12 u13 u14 u15 u16 u17 u18 u19 u20 u21 u22 u23 : Value) (er : Int), WhNo t b er ∧ BoxCTw W r 0 (.slice none 0 0) 0 ∧ Below w.heap.size w W ∧ a = { tmps := #[.slice A n c, .int .i64 t, u2, u3, .pointer (some ⟨r, 0, none⟩), u5, u6, .int .i64 er, u8, u9, u10, u11, u12, u13, u14, u15, u16, u17, u18, u19, u20, u21, u22, u23], defers := [] }

set_option maxRecDepth 100000 in
set_option maxHeartbeats 2000000 in
theorem whole_any [Inhabited Cr.Rows16] (t : Int) (A : Option Addr) (n c : Nat) (b : List Int) (w : World) (hT : Cr.Tab w) (hr : Rd w w.heap.size .u8 A n b) (hb : Byt b) (hnc : n ≤ c) (hn : n ≤ 1000000) (ht : (Lit.int .i64 t).wf = true) :
    Calls Tryz.prog 32 #[.slice A n c, .int .i64 t] w (WhR t w b) := by
  have HT := Lib.hid hT
  have Hl := Lib.hid (⟨hr, hb⟩ : _ ∧ _)
  have Ht := Lib.hid ht
  clear hT hr hb ht
  go_enter Tryz.func32, Tryz.ntmps32
  go_wp2_with fail
  obtain ⟨r, hr⟩ : ∃ r, r = w.heap.size := ⟨_, rfl⟩
  obtain ⟨w0, hw0⟩ : ∃ w0, w0 = w.alloc (.cells #[.int .i64 0, .slice none 0 0, .int .i64 0] 29) := ⟨_, rfl⟩
  have hB0 : Below w.heap.size w w0 := by rw [hw0]; exact below_al (below_d0 w) _
  have b0 : BoxCTw w0 r 0 (.slice none 0 0) 0 := by rw [hw0, hr]; exact BoxCTw.new _ _ _ _
  rw [← hw0, ← hr]
  have Hr := Lib.hid (show w.heap.size ≤ r by omega)
  clear hw0 hr
  refine scope_wp 0 (WJ w A n c r t b) (fun _ _ => 0) rfl ?first ?pass
  case first =>
    intro hrest
    go_wp2_with fail
    refine Calls.mono (EScan_any t A n c b w0 (HT.out.on hB0) (Hl.out.1.on hB0 hB0.size) Hl.out.2 hnc hn Ht.out) ?_
    intro e w1 hh
    obtain ⟨⟨f, A1, n1, c1, u, er, rfl, hA⟩, hb1⟩ := hh
    have b1 := b0.below hb1
    have hB1 := hB0.trans (hb1.mono hB0.size)
    obtain ⟨z, hz⟩ : ∃ z, z = w1.heap.size := ⟨_, rfl⟩
    obtain ⟨w2, hw2⟩ : ∃ w2, w2 = w1.alloc (.cells #[.int .i64 f, .slice A1 n1 c1, .int .i64 (u : Int)] 29) := ⟨_, rfl⟩
    have hb2 : Below w1.heap.size w1 w2 := by rw [hw2]; exact below_al (below_d0 w1) _
    have b2 := b1.below hb2
    have bz : BoxCTw w2 z f (.slice A1 n1 c1) (u : Int) := by rw [hw2, hz]; exact BoxCTw.new _ _ _ _
    have hA2 := hA.below hb2
    have hB2 := hB1.trans (hb2.mono hB1.size)
    obtain ⟨d0, d1, d2⟩ := bz.cells
    obtain ⟨g0, g1, g2⟩ := b2.cells
    have f0 := b2.frozen 0
    have f1 := b2.frozen 1
    have f2 := b2.frozen 2
    have HW := Lib.hid (⟨hw2, hz⟩ : _ ∧ _)
    rw [hw2] at f0 f1 f2 g0 g1 g2 d0 d1 d2
    rw [hz] at d0 d1 d2
    have HS := Lib.hid (⟨b2, hB2⟩ : _ ∧ _)
    clear hA hb1 b0 hB0 b1 hB1 hb2 b2 bz hB2 hw2 hz
    by_cases he : er = 0
    · rcases hA2 with ⟨_, _, _, _, e2⟩ | ⟨_, _, _, _, e2⟩ | ⟨l, h1, h2, h3, h4, _⟩
      · rw [he] at e2; cases e2
      · rw [he] at e2; cases e2
      subst he
      by_cases hu : u = n
      · have HL := Lib.hid (⟨h1, h2, h3, h4⟩ : _ ∧ _ ∧ _ ∧ _)
        have hq : ((u : Int) != (n : Int)) = false := by simp [hu]
        have Hu := Lib.hid hu
        clear h1 h2 h3 h4 hu
        go_wp2_with fail
        rw [← HW.out.1]
        simp only [Exit.jump]
        have bf := ((HS.out.1.s0 f).s1 (.slice A1 n1 c1)).s2 (u : Int)
        obtain ⟨k0, k1, k2⟩ := bf.cells
        have hz := Hr.out
        refine bodyPost_ret (v := .tuple #[.agg #[.int .i64 f, .slice A1 n1 c1, .int .i64 (u : Int)], .int .i64 0]) (by simp [results, Tryz.results32, go_sem, k0, k1, k2]) rfl ?_
        have h4 := HL.out.2.2.2
        have h7 := es_apart h4 HS.out.1 (set3_other w2 r (.int .i64 f) (.slice A1 n1 c1) (.int .i64 (u : Int)))
        have hlen : u = b.length := by rw [Hu.out, Hl.out.1.1]
        refine ⟨⟨f, A1, n1, c1, u, 0, rfl, .inr ⟨l, ?_, HL.out.2.1, HL.out.2.2.1, h7.on (Below.refl _ _) (by simp), rfl⟩⟩, ((HS.out.2.setCell (p := ⟨r, 0, none⟩) hz (.int .i64 f)).setCell (p := ⟨r, 1, none⟩) hz (.slice A1 n1 c1)).setCell (p := ⟨r, 2, none⟩) hz (.int .i64 (u : Int))⟩
        have h1 := HL.out.1
        rw [hlen] at h1
        exact h1.whole Hl.out.2
      · have hno : WhNo t b 11 := .inr ⟨h1.fmt, h1.noSeg (by rw [Hl.out.1.1]; exact hu), rfl⟩
        have HN := Lib.hid hno
        have hq : ((u : Int) != (n : Int)) = true := by simp; omega
        clear h1 h2 h3 h4 hno hu
        go_wp2_with fail
        rw [← HW.out.1]
        refine wp_goto ⟨rfl, _, _, _, _, _, _, _, _, _, _, _, _, _, _, _, _, _, _, _, _, _, HN.out, HS.out.1, HS.out.2, rfl⟩
    · have hno : WhNo t b er := by
        rcases hA2 with ⟨h1, _, _, _, e2⟩ | ⟨h1, _, _, _, e2⟩ | ⟨l, h1, h2, h3, h4, e2⟩
        · exact .inl ⟨h1, e2⟩
        · exact .inr ⟨h1.fmt, h1.noSeg, e2⟩
        · exact absurd e2 he
      have HN := Lib.hid hno
      have hq : (er != 0) = true := by simpa using he
      clear hA2 hno he
      go_wp2_with fail
      rw [← HW.out.1]
      refine wp_goto ⟨rfl, _, _, _, _, _, _, _, _, _, _, _, _, _, _, _, _, _, _, _, _, _, HN.out, HS.out.1, HS.out.2, rfl⟩
  case pass =>
    rintro a' wr ⟨u2, u3, u5, u6, u8, u9, u10, u11, u12, u13, u14, u15, u16, u17, u18, u19, u20, u21, u22, u23, er, hno, b1, hB1, rfl⟩
    have f0 := b1.frozen 0
    have f1 := b1.frozen 1
    have f2 := b1.frozen 2
    obtain ⟨g0, g1, g2⟩ := b1.cells
    have HS := Lib.hid (⟨hno, b1, hB1⟩ : _ ∧ _ ∧ _)
    clear b1 hno hB1
    go_wp2_with fail
    simp only [Exit.jump]
    have bf := ((HS.out.2.1.s0 0).s1 (.slice none 0 0)).s2 0
    obtain ⟨k0, k1, k2⟩ := bf.cells
    have hz := Hr.out
    refine bodyPost_ret (v := .tuple #[.agg #[.int .i64 0, .slice none 0 0, .int .i64 0], .int .i64 er]) (by simp [results, Tryz.results32, go_sem, k0, k1, k2]) rfl ?_
    exact ⟨⟨0, none, 0, 0, 0, er, rfl, .inl ⟨HS.out.1, rfl, rfl, rfl, rfl, rfl⟩⟩, ((HS.out.2.2.setCell (p := ⟨r, 0, none⟩) hz (.int .i64 0)).setCell (p := ⟨r, 1, none⟩) hz (.slice none 0 0)).setCell (p := ⟨r, 2, none⟩) hz (.int .i64 0)⟩

end Go.Proofs.YtcpdjhkpmaamdaaGreat

namespace Go.Proofs.YtcpdjhkpmaamdaaGreat
open Go.RowKit Go.Maps
set_option linter.unusedVariables false

theorem SegIs.few [Inhabited Cr.Rows16] {t : Int} {b : List Int} {f : Int} {l : List EnP} (h : SegIs t b f l) : l.length ≤ 4 * b.length := by
  rcases h with ⟨_, h⟩ | ⟨_, cs, h, rfl⟩
  · have := h.len; omega
  · have e := congrArg List.length h.bytes
    rw [List.append_nil, List.length_append] at e
    have h1 := blks_ge (p := headE f) h.good
    have h2 := flat_le h.good
    omega
theorem more_two [Inhabited Cr.Rows16] {b : List Int} {l : List EnP} {L : List Int} {er : Int} (h : MoreIs b l L er) : MoreE 2 b l (L, er) := by
  have h' := h
  rcases h' with ⟨z, ⟨f, cs, h1, rfl⟩, h2⟩ | ⟨h1, rfl, rfl⟩
  · exact .inr (.inr ⟨⟨f, _, .inr ⟨rfl, cs, h1, rfl⟩⟩, .inr ⟨rfl, h⟩⟩)
  · refine .inr (.inl ⟨.inr rfl, fun f l hS => ?_, rfl⟩)
    rcases hS with ⟨e, _⟩ | ⟨_, cs, hs, _⟩
    · cases e
    · exact h1 _ ⟨f, cs, hs, rfl⟩
theorem TelE.q {w w' : World} {R : List Int × Int} {e : Ending} (h : TelE w R e w') : TelR w R.1 R.2 e w' := by
  obtain ⟨⟨A, n, c, rfl, h1, _, h2⟩, hb⟩ := h
  exact ⟨⟨A, c, n, rfl, h1, h2⟩, hb⟩

set_option maxRecDepth 100000 in
set_option maxHeartbeats 1000000 in
theorem rec_more [Inhabited Cr.Rows16] (A : Option Addr) (n c : Nat) (b : List Int) (A2 : Option Addr) (n2 c2 : Nat) (l : List EnP) (w : World) (hT : Cr.Tab w) (hr : Rd w w.heap.size .u8 A n b) (hb : Byt b) (hnc : n ≤ c) (hn : n ≤ 1000000)
    (hl : Es w w.heap.size A2 n2 l) (hn2 : n2 ≤ 1000000) :
    Calls Tryz.prog 108 #[.agg #[], .slice A n c, .slice A2 n2 c2] w fun e w' => ∃ R, MoreE 1 b l R ∧ TelR w R.1 R.2 e w' := by
  have HT := Lib.hid hT
  have Hl := Lib.hid (⟨hr, hb, hl⟩ : _ ∧ _ ∧ _)
  clear hT hr hb hl
  go_enter Tryz.func108, Tryz.ntmps108
  go_wp2_with fail
  obtain ⟨w0, hw0⟩ : ∃ w0, w0 = w.alloc (.cells #[] 63) := ⟨_, rfl⟩
  have hB0 : Below w.heap.size w w0 := by rw [hw0]; exact below_al (below_d0 w) _
  rw [← hw0]
  clear hw0
  refine Calls.mono (whole_any 1 A n c b w0 (HT.out.on hB0) (Hl.out.1.on hB0 hB0.size) Hl.out.2.1 hnc hn (by decide)) ?_
  intro e w1 hh
  obtain ⟨⟨f, A1, n1, c1, u, er, rfl, hA⟩, hb1⟩ := hh
  have hB1 := hB0.trans (hb1.mono hB0.size)
  have hB2 : Below w.heap.size w (w1.alloc (.cells #[.int .i64 f, .slice A1 n1 c1, .int .i64 (u : Int)] 29)) := hB1.alloc hB1.size _
  rcases hA with ⟨hno, rfl, rfl, rfl, rfl, rfl⟩ | ⟨m, h1, h2, h3, h4, rfl⟩
  · have hq : (er != 0) = true := by simpa using hno.ne
    have HN := Lib.hid (⟨hno, hB2⟩ : _ ∧ _)
    clear hno hb1 hB0 hB1 hB2
    go_wp2_with fail
    go_ret2
    rcases HN.out.1 with ⟨h, rfl⟩ | ⟨h, h', rfl⟩
    · exact absurd (.inl rfl) h
    · exact ⟨([], 11), .inr (.inl ⟨h, h', rfl⟩), TelR.nil HN.out.2⟩
  · have HN := Lib.hid (⟨h1, hB2⟩ : _ ∧ _)
    clear h1 h2 h3 h4 hb1 hB0 hB1 hB2
    go_wp2_with fail
    have hB2 := HN.out.2
    refine Calls.mono (put_any A2 n2 c2 l _ (HT.out.on hB2) (Hl.out.2.2.on hB2 hB2.size) hn2) ?_
    intro e w3 hh
    obtain ⟨⟨A3, n3, c3, rfl, hn3, hc3, hr3⟩, hb3⟩ := hh.e
    have H3 := Lib.hid (⟨hn3, hr3, hB2.trans (hb3.mono hB2.size)⟩ : _ ∧ _ ∧ _)
    clear hh hn3 hc3 hr3 hb3 hB2
    go_wp2_with fail
    go_ret2
    exact ⟨putP l, .inr (.inr ⟨⟨f, m, HN.out.1⟩, .inl ⟨rfl, rfl⟩⟩), ⟨A3, c3, n3, rfl, H3.out.1, H3.out.2.1⟩, H3.out.2.2⟩

set_option maxRecDepth 100000 in
set_option maxHeartbeats 1000000 in
theorem blk_more [Inhabited Cr.Rows16] (A : Option Addr) (n c : Nat) (b : List Int) (A2 : Option Addr) (n2 c2 : Nat) (l : List EnP) (w : World) (hr : Rd w w.heap.size .u8 A n b) (hb : Byt b) (hnc : n ≤ c) (hn : n ≤ 1000000)
    (hl : Es w w.heap.size A2 n2 l) (hnc2 : n2 ≤ c2) (hn2 : n2 ≤ 1000000) :
    Calls Tryz.prog 139 #[.agg #[], .slice A n c, .slice A2 n2 c2] w fun e w' => ∃ R, MoreE 2 b l R ∧ TelR w R.1 R.2 e w' := by
  have Hl := Lib.hid (⟨hr, hb, hl⟩ : _ ∧ _ ∧ _)
  clear hr hb hl
  go_enter Tryz.func139, Tryz.ntmps139
  go_wp2_with fail
  obtain ⟨w0, hw0⟩ : ∃ w0, w0 = w.alloc (.cells #[] 64) := ⟨_, rfl⟩
  have hB0 : Below w.heap.size w w0 := by rw [hw0]; exact below_al (below_d0 w) _
  rw [← hw0]
  clear hw0
  refine Calls.mono (more_any A n c b A2 n2 c2 l w0 (Hl.out.1.on hB0 hB0.size) Hl.out.2.1 hnc hn (Hl.out.2.2.on hB0 hB0.size) hnc2 hn2) ?_
  rintro e w1 ⟨L, er, hM, ⟨A3, c3, n3, rfl, hn3, hr3⟩, hb3⟩
  have H3 := Lib.hid (⟨hn3, hr3, hB0.trans (hb3.mono hB0.size), hM⟩ : _ ∧ _ ∧ _ ∧ _)
  clear hn3 hr3 hb3 hB0 hM
  go_wp2_with fail
  go_ret2
  exact ⟨(L, er), more_two H3.out.2.2.2, ⟨A3, c3, n3, rfl, H3.out.1, H3.out.2.1⟩, H3.out.2.2.1⟩

set_option maxRecDepth 100000 in
set_option maxHeartbeats 1000000 in
/-- More: P10.2. -/
theorem EMore_any [Inhabited Cr.Rows16] (t : Int) (A : Option Addr) (n c : Nat) (b : List Int) (A2 : Option Addr) (n2 c2 : Nat) (l : List EnP) (w : World) (hT : Cr.Tab w) (hr : Rd w w.heap.size .u8 A n b) (hb : Byt b) (hnc : n ≤ c) (hn : n ≤ 1000000)
    (hl : Es w w.heap.size A2 n2 l) (hnc2 : n2 ≤ c2) (hn2 : n2 ≤ 1000000) (ht : (Lit.int .i64 t).wf = true) :
    Calls Tryz.prog 14 #[.slice A n c, .int .i64 t, .slice A2 n2 c2] w fun e w' => ∃ R, MoreE t b l R ∧ TelR w R.1 R.2 e w' := by
  have HT := Lib.hid hT
  have Hl := Lib.hid (⟨hr, hb, hl⟩ : _ ∧ _ ∧ _)
  have Ht := Lib.hid ht
  clear hT hr hb hl ht
  go_enter Tryz.func14, Tryz.ntmps14
  go_wp2_with fail
  refine (formats_any w).mono ?_
  rintro e w1 ⟨⟨g, rfl, hg, hgl⟩, hB1⟩
  have hlk := (fmts_look hg Ht.out).1
  have HB := Lib.hid (⟨hB1, hg⟩ : _ ∧ _)
  clear hB1 hg
  by_cases h1 : t = 1
  · subst h1
    have e1 : fmtV10 1 = recV10 := rfl
    have e2 : fmtB 1 = true := rfl
    rw [e1, e2] at hlk
    unfold recV10 at hlk
    clear e1 e2
    go_wp2_with fail
    rw [m_more1]
    clear hlk
    go_wp2_with fail
    have hB1 := HB.out.1
    refine Calls.mono (rec_more A n c b A2 n2 c2 l w1 (HT.out.on hB1) (Hl.out.1.on hB1 hB1.size) Hl.out.2.1 hnc hn (Hl.out.2.2.on hB1 hB1.size) hn2) ?_
    rintro e w2 ⟨R, hM, ⟨A3, c3, n3, rfl, hn3, hr3⟩, hb3⟩
    have H3 := Lib.hid (⟨hn3, hr3, hB1.trans (hb3.mono hB1.size), hM⟩ : _ ∧ _ ∧ _ ∧ _)
    clear hn3 hr3 hb3 hB1 hM
    go_wp2_with fail
    go_ret2
    exact ⟨R, H3.out.2.2.2, ⟨A3, c3, n3, rfl, H3.out.1, H3.out.2.1⟩, H3.out.2.2.1⟩
  · by_cases h2 : t = 2
    · subst h2
      have e1 : fmtV10 2 = blkV10 := rfl
      have e2 : fmtB 2 = true := rfl
      rw [e1, e2] at hlk
      unfold blkV10 at hlk
      clear e1 e2
      go_wp2_with fail
      rw [m_more2]
      clear hlk
      go_wp2_with fail
      have hB1 := HB.out.1
      refine Calls.mono (blk_more A n c b A2 n2 c2 l w1 (Hl.out.1.on hB1 hB1.size) Hl.out.2.1 hnc hn (Hl.out.2.2.on hB1 hB1.size) hnc2 hn2) ?_
      rintro e w2 ⟨R, hM, ⟨A3, c3, n3, rfl, hn3, hr3⟩, hb3⟩
      have H3 := Lib.hid (⟨hn3, hr3, hB1.trans (hb3.mono hB1.size), hM⟩ : _ ∧ _ ∧ _ ∧ _)
      clear hn3 hr3 hb3 hB1 hM
      go_wp2_with fail
      go_ret2
      exact ⟨R, H3.out.2.2.2, ⟨A3, c3, n3, rfl, H3.out.1, H3.out.2.1⟩, H3.out.2.2.1⟩
    · have hF : ¬ FmtE t := fun h => h.elim h1 h2
      have e2 : fmtB t = false := fmtB_not hF
      rw [e2] at hlk
      clear e2
      go_wp2_with fail
      go_ret2
      exact ⟨([], 2), .inl ⟨hF, rfl⟩, TelR.nil HB.out.1⟩

set_option maxRecDepth 100000 in
set_option maxHeartbeats 1000000 in
/-- Turn: P10.3. -/
theorem ETurn_any [Inhabited Cr.Rows16] (t t' : Int) (A : Option Addr) (n c : Nat) (b : List Int) (w : World) (hT : Cr.Tab w) (hr : Rd w w.heap.size .u8 A n b) (hb : Byt b) (hnc : n ≤ c) (hn : n ≤ 200000) (ht : (Lit.int .i64 t).wf = true) (ht' : (Lit.int .i64 t').wf = true) :
    Calls Tryz.prog 16 #[.slice A n c, .int .i64 t, .int .i64 t'] w fun e w' => ∃ R, TurnIs b t t' R ∧ TelE w R e w' := by
  have HT := Lib.hid hT
  have Hl := Lib.hid (⟨hr, hb, ht⟩ : _ ∧ _ ∧ _)
  have Ht := Lib.hid ht'
  clear hT hr hb ht ht'
  go_enter Tryz.func16, Tryz.ntmps16
  go_wp2_with fail
  refine (formats_any w).mono ?_
  rintro e w1 ⟨⟨g, rfl, hg, hgl⟩, hB1⟩
  have hlk := (fmts_look hg Ht.out).1
  have HB := Lib.hid (⟨hB1, hg⟩ : _ ∧ _)
  clear hB1 hg
  by_cases h1 : t' = 1
  · subst h1
    have e1 : fmtV10 1 = recV10 := rfl
    have e2 : fmtB 1 = true := rfl
    rw [e1, e2] at hlk
    unfold recV10 at hlk
    clear e1 e2
    go_wp2_with fail
    have hB1 := HB.out.1
    refine Calls.mono (whole_any t A n c b w1 (HT.out.on hB1) (Hl.out.1.on hB1 hB1.size) Hl.out.2.1 hnc (by omega) Hl.out.2.2) ?_
    intro e w2 hh
    obtain ⟨⟨f, A1, n1, c1, u, er, rfl, hA⟩, hb2⟩ := hh
    clear hlk
    have hB2 := hB1.trans (hb2.mono hB1.size)
    obtain ⟨z, hz⟩ : ∃ z, z = w2.heap.size := ⟨_, rfl⟩
    obtain ⟨w3, hw3⟩ : ∃ x, x = w2.alloc (.cells #[.int .i64 f, .slice A1 n1 c1, .int .i64 (u : Int)] 29) := ⟨_, rfl⟩
    have hb3 : Below w2.heap.size w2 w3 := by rw [hw3]; exact below_al (below_d0 w2) _
    have hB3 := hB2.trans (hb3.mono hB2.size)
    have bz : BoxCTw w3 z f (.slice A1 n1 c1) (u : Int) := by rw [hw3, hz]; exact BoxCTw.new _ _ _ _
    obtain ⟨d0, d1, d2⟩ := bz.cells
    have HW := Lib.hid (⟨hw3, hz⟩ : _ ∧ _)
    rw [hw3, hz] at d0 d1 d2
    rcases hA with ⟨hno, rfl, rfl, rfl, rfl, rfl⟩ | ⟨m, h1, h2, h3, h4, rfl⟩
    · have hq : (er != 0) = true := by simpa using hno.ne
      have HN := Lib.hid (⟨hno, hB3⟩ : _ ∧ _)
      clear hno hb2 hB1 hB2 hB3 hb3 bz hw3 hz
      go_wp2_with fail
      go_ret2
      have hB := HN.out.2
      rw [HW.out.1] at hB
      rcases HN.out.1 with ⟨h, rfl⟩ | ⟨h, h', rfl⟩
      · exact ⟨([], 2), .inl ⟨fun hh => h hh.1, rfl⟩, TelE.nil hB⟩
      · exact ⟨([], 11), .inr (.inl ⟨⟨h, by unfold FmtE; decide⟩, h', rfl⟩), TelE.nil hB⟩
    · have hfew := h1.few
      rw [h2, Hl.out.1.1] at hfew
      have h4' := h4.on hb3 hb3.size
      have HN := Lib.hid (⟨h1, hB3, h4'⟩ : _ ∧ _ ∧ _)
      clear h1 h2 h4 h4' hb2 hB1 hB2 hB3 hb3 bz hw3 hz
      go_wp2_with fail
      rw [m_file1]
      clear d0 d1 d2
      go_wp2_with fail
      rw [← HW.out.1]
      have hB3 := HN.out.2.1
      refine Calls.mono (rec_file f A1 n1 c1 m w3 (HT.out.on hB3) HN.out.2.2 (by omega)) ?_
      intro e w4 hh
      obtain ⟨⟨A4, n4, c4, rfl, hn4, hc4, hr4⟩, hb4⟩ := hh
      have H4 := Lib.hid (⟨hn4, hc4, hr4, hB3.trans (hb4.mono hB3.size)⟩ : _ ∧ _ ∧ _ ∧ _)
      clear hn4 hc4 hr4 hb4 hB3
      go_wp2_with fail
      go_ret2
      exact ⟨fileE 1 f m, .inr (.inr ⟨⟨HN.out.1.fmt, by unfold FmtE; decide⟩, f, m, HN.out.1, rfl⟩), ⟨A4, n4, c4, rfl, H4.out.1, H4.out.2.1, H4.out.2.2.1⟩, H4.out.2.2.2⟩
  · by_cases h2 : t' = 2
    · subst h2
      have e1 : fmtV10 2 = blkV10 := rfl
      have e2 : fmtB 2 = true := rfl
      rw [e1, e2] at hlk
      unfold blkV10 at hlk
      clear e1 e2
      go_wp2_with fail
      have hB1 := HB.out.1
      refine Calls.mono (whole_any t A n c b w1 (HT.out.on hB1) (Hl.out.1.on hB1 hB1.size) Hl.out.2.1 hnc (by omega) Hl.out.2.2) ?_
      intro e w2 hh
      obtain ⟨⟨f, A1, n1, c1, u, er, rfl, hA⟩, hb2⟩ := hh
      clear hlk
      have hB2 := hB1.trans (hb2.mono hB1.size)
      obtain ⟨z, hz⟩ : ∃ z, z = w2.heap.size := ⟨_, rfl⟩
      obtain ⟨w3, hw3⟩ : ∃ x, x = w2.alloc (.cells #[.int .i64 f, .slice A1 n1 c1, .int .i64 (u : Int)] 29) := ⟨_, rfl⟩
      have hb3 : Below w2.heap.size w2 w3 := by rw [hw3]; exact below_al (below_d0 w2) _
      have hB3 := hB2.trans (hb3.mono hB2.size)
      have bz : BoxCTw w3 z f (.slice A1 n1 c1) (u : Int) := by rw [hw3, hz]; exact BoxCTw.new _ _ _ _
      obtain ⟨d0, d1, d2⟩ := bz.cells
      have HW := Lib.hid (⟨hw3, hz⟩ : _ ∧ _)
      rw [hw3, hz] at d0 d1 d2
      rcases hA with ⟨hno, rfl, rfl, rfl, rfl, rfl⟩ | ⟨m, h1, h2, h3, h4, rfl⟩
      · have hq : (er != 0) = true := by simpa using hno.ne
        have HN := Lib.hid (⟨hno, hB3⟩ : _ ∧ _)
        clear hno hb2 hB1 hB2 hB3 hb3 bz hw3 hz
        go_wp2_with fail
        go_ret2
        have hB := HN.out.2
        rw [HW.out.1] at hB
        rcases HN.out.1 with ⟨h, rfl⟩ | ⟨h, h', rfl⟩
        · exact ⟨([], 2), .inl ⟨fun hh => h hh.1, rfl⟩, TelE.nil hB⟩
        · exact ⟨([], 11), .inr (.inl ⟨⟨h, by unfold FmtE; decide⟩, h', rfl⟩), TelE.nil hB⟩
      · have hfew := h1.few
        rw [h2, Hl.out.1.1] at hfew
        have h4' := h4.on hb3 hb3.size
        have HN := Lib.hid (⟨h1, hB3, h4'⟩ : _ ∧ _ ∧ _)
        clear h1 h2 h4 h4' hb2 hB1 hB2 hB3 hb3 bz hw3 hz
        go_wp2_with fail
        rw [m_file2]
        clear d0 d1 d2
        go_wp2_with fail
        rw [← HW.out.1]
        have hB3 := HN.out.2.1
        refine Calls.mono (blk_file f A1 n1 c1 m w3 HN.out.2.2 h3 (by omega)) ?_
        intro e w4 hh
        obtain ⟨⟨A4, n4, c4, rfl, hn4, hc4, hr4⟩, hb4⟩ := hh
        have H4 := Lib.hid (⟨hn4, hc4, hr4, hB3.trans (hb4.mono hB3.size)⟩ : _ ∧ _ ∧ _ ∧ _)
        clear hn4 hc4 hr4 hb4 hB3
        go_wp2_with fail
        go_ret2
        exact ⟨fileE 2 f m, .inr (.inr ⟨⟨HN.out.1.fmt, by unfold FmtE; decide⟩, f, m, HN.out.1, rfl⟩), ⟨A4, n4, c4, rfl, H4.out.1, H4.out.2.1, H4.out.2.2.1⟩, H4.out.2.2.2⟩
    · have hF : ¬ FmtE t' := fun h => h.elim h1 h2
      have e2 : fmtB t' = false := fmtB_not hF
      rw [e2] at hlk
      clear e2
      go_wp2_with fail
      go_ret2
      exact ⟨([], 2), .inl ⟨fun hh => hF hh.2, rfl⟩, TelE.nil HB.out.1⟩

end Go.Proofs.YtcpdjhkpmaamdaaGreat
