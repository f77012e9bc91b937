/-
  two.Scan, two.End, two.More, two.File: their contracts.
-/
import Derived.Test.YtcpdjhkpmaamdaaGreatScan8
namespace Go.Proofs.YtcpdjhkpmaamdaaGreat
open Go.RowKit
set_option linter.unusedVariables false

/-- What is told of a scan, piece by piece. -/
def ScanA (b : List Int) (w : World) (f : Int) (A : Option Addr) (n c u x y : Nat) (er : Int) : Prop :=
  (er = 0 ∧ ∃ cs r, ScanIs b f cs r ∧ cs.flatten.length = n ∧ (headLTw f ++ blksL (headE f) cs).length = u ∧ n ≤ c ∧ Es w w.heap.size A n cs.flatten ∧ Ga.Pt x y (blksE (headE f) cs)) ∨
    (er = 11 ∧ (∀ f, ¬ HeadAt b f) ∧ f = 0 ∧ A = none ∧ n = 0 ∧ c = 0 ∧ u = 0 ∧ x = 0 ∧ y = 0)
theorem ScanA.below {b : List Int} {w w' : World} {f er : Int} {A : Option Addr} {n c u x y : Nat} (h : ScanA b w f A n c u x y er) (hb : Below w.heap.size w w') : ScanA b w' f A n c u x y er := by
  rcases h with ⟨h0, cs, r, h1, h2, h3, h4, h5, h6⟩ | h
  · exact .inl ⟨h0, cs, r, h1, h2, h3, h4, h5.on hb hb.size, h6⟩
  · exact .inr h
theorem ScanTTw.out {w w' : World} {b : List Int} {e : Ending} (h : ScanTTw w b e w') :
    ∃ f A n c u x y er, e = .returned (.tuple #[.agg #[.int .i64 f, .slice A n c, .int .i64 (u : Nat)], .complex .f64 x y, .int .i64 er]) ∧ ScanA b w' f A n c u x y er ∧ Below w.heap.size w w' := by
  obtain ⟨⟨f, cs, r, A, c, n, u, x, y, h1, rfl, h2, h3, h4, h5, h6⟩ | ⟨h1, rfl⟩, hb⟩ := h
  · exact ⟨f, A, n, c, u, x, y, 0, rfl, .inl ⟨rfl, cs, r, h1, h2, h3, h4, h5, h6⟩, hb⟩
  · exact ⟨0, none, 0, 0, 0, 0, 0, 11, rfl, .inr ⟨rfl, h1, rfl, rfl, rfl, rfl, rfl, rfl, rfl⟩, hb⟩
theorem ScanA.er {b : List Int} {w : World} {f er : Int} {A : Option Addr} {n c u x y : Nat} (h : ScanA b w f A n c u x y er) : er = 0 ∨ er = 11 := by
  rcases h with ⟨h, _⟩ | ⟨h, _⟩
  · exact .inl h
  · exact .inr h
theorem ScanA.used {b : List Int} {w : World} {f er : Int} {A : Option Addr} {n c u x y : Nat} (h : ScanA b w f A n c u x y er) : u ≤ b.length := by
  rcases h with ⟨_, cs, r, h1, _, rfl, _⟩ | ⟨_, _, _, _, _, _, rfl, _⟩
  · have h2 := congrArg List.length h1.bytes
    rw [List.length_append] at h2
    omega
  · exact Nat.zero_le _

/-- A row of entries lies apart from a scan's box. -/
theorem es_apart {w w' : World} {B n r : Nat} {A : Option Addr} {l : List EnP} {f u : Int} {va : Option Addr} {vn vc : Nat} (h : Es w B A n l) (hb : BoxCTw w r f (.slice va vn vc) u) (hk : ∀ k, k ≠ r → w'.heap[k]? = w.heap[k]?) : Es w' B A n l := by
  refine ⟨h.1, fun hn => ?_⟩
  obtain ⟨b, off, e, hlt, hc⟩ := h.2 hn
  have hbr : b ≠ r := by
    rintro rfl
    have h0 : 0 < l.length := by rw [h.1]; exact hn
    obtain ⟨x, hx⟩ : ∃ x, l[0]? = some x := ⟨_, List.getElem?_eq_getElem h0⟩
    have c0 := hc 0 x hx 0 (by omega)
    have c1 := hc 0 x hx 1 (by omega)
    rw [cell_of_row _ _ _ _ _ _ hb] at c0 c1
    match off, c0, c1 with
    | 0, c0, c1 => simp [EnP.cs] at c1
    | 1, c0, c1 => simp [EnP.cs] at c0
    | 2, c0, c1 => simp [EnP.cs] at c1
    | o + 3, c0, c1 => simp [EnP.cs] at c0
  exact ⟨b, off, e, hlt, fun i x hi j hj => (World.cell?_of_block (a := ⟨b, off + (i * 3 + j), none⟩) (hk b hbr)).trans (hc i x hi j hj)⟩
theorem set3_other (W : World) (r : Nat) (u0 u1 u2 : Value) (k : Nat) (hk : k ≠ r) : (((W.setCell ⟨r, 0, none⟩ u0).setCell ⟨r, 1, none⟩ u1).setCell ⟨r, 2, none⟩ u2).heap[k]? = W.heap[k]? :=
  (Below.heap_setCell _ _ _ k (by simpa using hk)).trans ((Below.heap_setCell _ _ _ k (by simpa using hk)).trans (Below.heap_setCell _ _ _ k (by simpa using hk)))

/-- What Scan answers. -/
def ScnT (w : World) (b : List Int) (e : Ending) (w' : World) : Prop :=
  ∃ f A n c u x y er, e = .returned (.tuple #[.agg #[.int .i64 f, .slice A n c, .int .i64 (u : Nat)], .int .i64 er]) ∧ ScanA b w' f A n c u x y er ∧ Below w.heap.size w w'

set_option maxRecDepth 100000 in
set_option maxHeartbeats 1000000 in
theorem Scan_any (A : Option Addr) (n c : Nat) (b : List Int) (w : World) (hr : Rd w w.heap.size .u8 A n b) (hb : Byt b) (hnc : n ≤ c) (hn : n ≤ 1000000) :
    Calls Tryz.prog 143 #[.slice A n c] w (ScnT w b) := by
  have Hl := Lib.hid (⟨hr, hb⟩ : _ ∧ _)
  clear hr hb
  go_enter Tryz.func143, Tryz.ntmps143
  go_wp2_with fail
  obtain ⟨r, hr⟩ : ∃ r, r = w.heap.size := ⟨_, rfl⟩
  obtain ⟨w0, hw0⟩ : ∃ w0, w0 = w.alloc (.cells #[.int .i64 0, .slice none 0 0, .int .i64 0] 29) := ⟨_, rfl⟩
  have hB0 : Below w.heap.size w w0 := by rw [hw0]; exact below_al (below_d0 w) _
  have b0 : BoxCTw w0 r 0 (.slice none 0 0) 0 := by rw [hw0, hr]; exact BoxCTw.new _ _ _ _
  rw [← hw0, ← hr]
  have Hr := Lib.hid (show w.heap.size ≤ r by omega)
  clear hw0 hr
  refine (scan_anyTw A n c b w0 (Hl.out.1.on hB0 hB0.size) Hl.out.2 hnc hn).mono ?_
  intro e w1 hT
  obtain ⟨f, A1, n1, c1, u, x, y, er, rfl, hA, hb1⟩ := hT.out
  have b1 := b0.below hb1
  have hB1 := hB0.trans (hb1.mono hB0.size)
  obtain ⟨z, hz⟩ : ∃ z, z = w1.heap.size := ⟨_, rfl⟩
  obtain ⟨w2, hw2⟩ : ∃ w2, w2 = w1.alloc (.cells #[.int .i64 f, .slice A1 n1 c1, .int .i64 (u : Int)] 29) := ⟨_, rfl⟩
  have hb2 : Below w1.heap.size w1 w2 := by rw [hw2]; exact below_al (below_d0 w1) _
  have b2 := b1.below hb2
  have bz : BoxCTw w2 z f (.slice A1 n1 c1) (u : Int) := by rw [hw2, hz]; exact BoxCTw.new _ _ _ _
  have hA2 := hA.below hb2
  have hB2 := hB1.trans (hb2.mono hB1.size)
  obtain ⟨d0, d1, d2⟩ := bz.cells
  have f0 := b2.frozen 0
  have f1 := b2.frozen 1
  have f2 := b2.frozen 2
  obtain ⟨g0, g1, g2⟩ := b2.cells
  rw [hw2] at f0 f1 f2 g0 g1 g2 d0 d1 d2
  rw [hz] at d0 d1 d2
  have HS := Lib.hid (⟨hA2, hB2, b2⟩ : _ ∧ _ ∧ _)
  have HW := Lib.hid (⟨hw2, hz⟩ : _ ∧ _)
  clear hT hA hb1 b0 hB0 b1 hB1 hb2 b2 bz hA2 hB2 hw2 hz
  go_wp2_with fail
  rw [← HW.out.1]
  have bf := ((HS.out.2.2.s0 f).s1 (.slice A1 n1 c1)).s2 (u : Int)
  obtain ⟨k0, k1, k2⟩ := bf.cells
  have hz := Hr.out
  refine bodyPost_ret (v := .tuple #[.agg #[.int .i64 f, .slice A1 n1 c1, .int .i64 (u : Int)], .int .i64 er]) (by simp [results, Tryz.results143, go_sem, k0, k1, k2]) rfl ?_
  have hB3 := ((HS.out.2.1.setCell (p := ⟨r, 0, none⟩) hz (.int .i64 f)).setCell (p := ⟨r, 1, none⟩) hz (.slice A1 n1 c1)).setCell (p := ⟨r, 2, none⟩) hz (.int .i64 (u : Int))
  refine ⟨f, A1, n1, c1, u, x, y, er, rfl, ?_, hB3⟩
  rcases HS.out.1 with ⟨h0, cs, rr, h1, h2, h3, h4, h5, h6⟩ | h
  · exact .inl ⟨h0, cs, rr, h1, h2, h3, h4, by
      have h7 := es_apart h5 HS.out.2.2 (set3_other w2 r (.int .i64 f) (.slice A1 n1 c1) (.int .i64 (u : Int)))
      exact h7.on (Below.refl _ _) (by simp), h6⟩
  · exact .inr h

/-- b is all used, and this is the point behind. -/
def EndIs (b : List Int) (z : Int × Int) : Prop := ∃ f cs, ScanIs b f cs [] ∧ z = blksE (headE f) cs
theorem EndIs.same {b : List Int} {z z' : Int × Int} (h : EndIs b z) (h' : EndIs b z') : z = z' := by
  obtain ⟨f, cs, h1, rfl⟩ := h
  obtain ⟨g, ds, h2, rfl⟩ := h'
  obtain ⟨rfl, rfl, _⟩ := scan_same h1 h2
  rfl
theorem EndIs.in_ {b : List Int} {z : Int × Int} (h : EndIs b z) : Ga.InP z := by
  obtain ⟨f, cs, _, rfl⟩ := h
  exact blksE_in (headE_in f) cs
theorem ScanA.end_ {b : List Int} {w : World} {f er : Int} {A : Option Addr} {n c u x y : Nat} (h : ScanA b w f A n c u x y er) :
    (er = 0 ∧ u = b.length ∧ ∃ z, EndIs b z ∧ Ga.Pt x y z) ∨ (¬ (er = 0 ∧ u = b.length) ∧ ∀ z, ¬ EndIs b z) := by
  rcases h with ⟨rfl, cs, r, h1, h2, h3, h4, h5, h6⟩ | ⟨rfl, h1, _⟩
  · have hb := congrArg List.length h1.bytes
    rw [List.length_append, h3] at hb
    by_cases hu : u = b.length
    · have hr : r = [] := List.length_eq_zero_iff.1 (by omega)
      subst hr
      exact .inl ⟨rfl, hu, _, ⟨f, cs, h1, rfl⟩, h6⟩
    · refine .inr ⟨fun h => hu h.2, ?_⟩
      rintro z ⟨g, ds, h7, _⟩
      obtain ⟨_, _, rfl⟩ := scan_same h1 h7
      simp at hb
      exact hu hb.symm
  · refine .inr ⟨fun h => by omega, ?_⟩
    rintro z ⟨g, ds, h7, _⟩
    exact h1 g h7.head

/-- What End answers. -/
def EndT (w : World) (b : List Int) (e : Ending) (w' : World) : Prop :=
  ((∃ z x y, EndIs b z ∧ e = .returned (.tuple #[.complex .f64 x y, .int .i64 0]) ∧ Ga.Pt x y z) ∨ ((∀ z, ¬ EndIs b z) ∧ e = .returned (.tuple #[.complex .f64 0 0, .int .i64 11]))) ∧ Below w.heap.size w w'

set_option maxRecDepth 100000 in
set_option maxHeartbeats 1000000 in
theorem end_any (A : Option Addr) (n c : Nat) (b : List Int) (w : World) (hr : Rd w w.heap.size .u8 A n b) (hb : Byt b) (hnc : n ≤ c) (hn : n ≤ 1000000) :
    Calls Tryz.prog 147 #[.slice A n c] w (EndT w b) := by
  have Hl := Lib.hid hr.1
  go_enter Tryz.func147, Tryz.ntmps147
  go_wp2_with fail
  refine (scan_anyTw A n c b w hr hb hnc hn).mono ?_
  intro e w1 hT
  obtain ⟨f, A1, n1, c1, u, x, y, er, rfl, hA, hb1⟩ := hT.out
  have hu := hA.used
  rw [Hl.out] at hu
  have her := hA.er
  have hE := hA.end_
  rw [Hl.out] at hE
  have hb2 : Below w.heap.size w (w1.alloc (.cells #[.int .i64 f, .slice A1 n1 c1, .int .i64 (u : Int)] 29)) := hb1.alloc hb1.size _
  have H := Lib.hid (⟨hE, hb2⟩ : _ ∧ _)
  clear hr hb hT hA hE hb1 hb2
  rcases her with rfl | rfl
  · by_cases hun : u = n
    · subst hun
      go_wp2_with fail
      go_ret2
      rcases H.out.1 with ⟨_, _, z, hz, hp⟩ | ⟨h, _⟩
      · exact ⟨.inl ⟨z, x, y, hz, rfl, hp⟩, H.out.2⟩
      · exact (h (by simp)).elim
    · have t1 : ¬ ((u : Int) = (n : Int)) := by omega
      go_wp2_with fail
      go_ret2
      rcases H.out.1 with ⟨_, h, _⟩ | ⟨_, h⟩
      · exact absurd h hun
      · exact ⟨.inr ⟨h, rfl⟩, H.out.2⟩
  · go_wp2_with fail
    go_ret2
    rcases H.out.1 with ⟨h, _⟩ | ⟨_, h⟩
    · exact absurd h (by omega)
    · exact ⟨.inr ⟨h, rfl⟩, H.out.2⟩

/-- Bytes and an error told; the bytes can be read. -/
def TelR (w : World) (L : List Int) (er : Int) (e : Ending) (w' : World) : Prop :=
  (∃ A c n, e = .returned (.tuple #[.slice A n c, .int .i64 er]) ∧ L.length = n ∧ Rd w' w'.heap.size .u8 A n L) ∧ Below w.heap.size w w'
theorem TelR.nil {w w' : World} {er : Int} (hb : Below w.heap.size w w') : TelR w [] er (.returned (.tuple #[.slice none 0 0, .int .i64 er])) w' :=
  ⟨⟨none, 0, 0, rfl, rfl, ⟨rfl, fun h => absurd h (by omega)⟩⟩, hb⟩
/-- What is put behind a point. -/
def PutIs (p : Int × Int) (l : List EnP) (L : List Int) (er : Int) : Prop := (allR l = true ∧ L = blksL p (chunks 4 l) ∧ er = 0) ∨ (allR l = false ∧ L = [] ∧ er = 2)
theorem PutT.out {w w' : World} {p : Int × Int} {l : List EnP} {e : Ending} (h : PutT w p l e w') : ∃ L er, PutIs p l L er ∧ TelR w L er e w' := by
  obtain ⟨⟨ha, A, c, n, rfl, h1, h2⟩ | ⟨ha, rfl⟩, hb⟩ := h
  · exact ⟨_, 0, .inl ⟨ha, rfl, rfl⟩, ⟨A, c, n, rfl, h1, h2⟩, hb⟩
  · exact ⟨[], 2, .inr ⟨ha, rfl, rfl⟩, TelR.nil hb⟩
/-- What stands behind b then. -/
def MoreIs (b : List Int) (l : List EnP) (L : List Int) (er : Int) : Prop := (∃ z, EndIs b z ∧ PutIs z l L er) ∨ ((∀ z, ¬ EndIs b z) ∧ L = [] ∧ er = 11)

set_option maxRecDepth 100000 in
set_option maxHeartbeats 1000000 in
theorem more_any (A : Option Addr) (n c : Nat) (b : List Int) (A2 : Option Addr) (n2 c2 : Nat) (l : List EnP) (w : World) (hr : Rd w w.heap.size .u8 A n b) (hb : Byt b) (hnc : n ≤ c) (hn : n ≤ 1000000)
    (hl : Es w w.heap.size A2 n2 l) (hnc2 : n2 ≤ c2) (hn2 : n2 ≤ 1000000) :
    Calls Tryz.prog 142 #[.slice A n c, .slice A2 n2 c2] w fun e w' => ∃ L er, MoreIs b l L er ∧ TelR w L er e w' := by
  have Hl := Lib.hid hl
  clear hl
  go_enter Tryz.func142, Tryz.ntmps142
  go_wp2_with fail
  refine (end_any A n c b w hr hb hnc hn).mono ?_
  rintro e w1 ⟨hE, hb1⟩
  have hl1 := Hl.out.on hb1 hb1.size
  clear hr hb
  rcases hE with ⟨z, x, y, hz, rfl, hp⟩ | ⟨hz, rfl⟩
  · have H := Lib.hid (⟨hz, hb1⟩ : _ ∧ _)
    clear hz hb1
    go_wp2_with fail
    refine (put_anyTw A2 n2 c2 l w1 (.inl hp) hl1 hnc2 hn2).mono ?_
    intro e w2 hT
    obtain ⟨L, er, hL, ⟨A3, c3, n3, rfl, h3, hr3⟩, hb2⟩ := hT.out
    have H2 := Lib.hid (⟨hL, h3, hr3, hb2⟩ : _ ∧ _ ∧ _ ∧ _)
    clear hT hL h3 hr3 hb2 hp hl1
    go_wp2_with fail
    go_ret2
    exact ⟨L, er, .inl ⟨z, H.out.1, H2.out.1⟩, ⟨A3, c3, n3, rfl, H2.out.2.1, H2.out.2.2.1⟩, H.out.2.trans (H2.out.2.2.2.mono H.out.2.size)⟩
  · have H := Lib.hid (⟨hz, hb1⟩ : _ ∧ _)
    clear hz hb1 hl1
    go_wp2_with fail
    go_ret2
    exact ⟨[], 11, .inr ⟨H.out.1, rfl, rfl⟩, TelR.nil H.out.2⟩

theorem chunks_len4 {α : Type} (l : List α) : (chunks 4 l).length ≤ l.length := by
  refine chunks_ind (k := 4) (by omega) (M := fun l => (chunks 4 l).length ≤ l.length) (by simp [chunks_nil]) (fun l hl ih => ?_) l
  rw [chunks_cons hl (by omega), List.length_cons]
  rw [List.length_drop] at ih
  have : 0 < l.length := List.length_pos_iff.2 hl
  omega
/-- File's answer. -/
instance num_dec (n : Int) : Decidable (Num n) := inferInstanceAs (Decidable (1 ≤ n ∧ n ≤ 1073741824))
def filePTw (first : Int) (l : List EnP) : List Int × Int := if Num first ∧ allR l = true then (headLTw first ++ blksL (headE first) (chunks 4 l), 0) else ([], 2)

set_option maxRecDepth 100000 in
set_option maxHeartbeats 1000000 in
theorem file_anyTw (first : Int) (A : Option Addr) (n c : Nat) (l : List EnP) (w : World) (hl : Es w w.heap.size A n l) (hnc : n ≤ c) (hn : n ≤ 1000000) :
    Calls Tryz.prog 141 #[.int .i64 first, .slice A n c] w (TelTw w (filePTw first l)) := by
  obtain ⟨i0, hi, hz0, hz1, hz2⟩ := info_parts Ga.info_u8
  have Hl := Lib.hid hl
  clear hl
  go_enter Tryz.func141, Tryz.ntmps141
  go_wp2_with fail
  refine (head_anyTw first w).mono ?_
  rintro e w1 ⟨⟨A1, c1, rfl, hc1, own1⟩, hb1⟩
  by_cases hf : Num first
  · rw [headP_yesTw hf] at hc1 own1 ⊢
    have hh := head_length hf
    dsimp only at hc1 own1 ⊢
    obtain ⟨h, hh0⟩ : ∃ h, (headLTw first).length = h := ⟨_, rfl⟩
    rw [hh0] at hh own1 hc1 ⊢
    have rd1 : Rd w1 w1.heap.size .u8 A1 h (headLTw first) := Rd.of_own own1
    obtain ⟨w2, hw2⟩ : ∃ w2, w2 = w1.alloc (.cells #[.slice A1 h c1] 23) := ⟨_, rfl⟩
    have hc := Ga.chain_one (c := c1) w1 w1.heap.size 23 rfl headE_pt_from rd1 (head_byt hf) (by omega)
    have H1 := Lib.hid (⟨hf, own1, hb1, hh0, rd1⟩ : _ ∧ _ ∧ _ ∧ _ ∧ _)
    clear hf own1 hb1 hh0 rd1 hc1
    go_wp2_with fail
    refine hc.mono ?_
    rintro e w3 ⟨⟨xp, yp, rfl, hpt⟩, hb3⟩
    obtain ⟨hf, own1, hb1, hh0, rd1⟩ := H1.out
    have hB3 := hb1.trans (hb3.mono hb1.size)
    have hl3 := Hl.out.on hB3 hB3.size
    have own3 := own_keepTw own1 hb3
    have lo3 : ∀ g, (Value.slice A1 h c1).ownBlock = some g → w.heap.size ≤ g := fun g hg => (own1.lt g hg).1
    have H3 := Lib.hid (⟨hB3, own3, lo3⟩ : _ ∧ _ ∧ _)
    clear hf own1 hb1 hh0 rd1 hb3 hB3 own3 lo3 hc
    go_wp2_with fail
    refine (put_anyTw A n c l w3 (.inl hpt) hl3 hnc hn).mono ?_
    intro e w4 hT
    obtain ⟨L, er, hL, ⟨A4, c4, n4, rfl, h4, hr4⟩, hb4⟩ := hT.out
    have hB4 := H3.out.1.trans (hb4.mono H3.out.1.size)
    have own4 := own_keepTw H3.out.2.1 hb4
    rcases hL with ⟨ha, rfl, rfl⟩ | ⟨ha, rfl, rfl⟩
    · have hn4 : n4 ≤ 65000000 := by
        have h5 := blks_le (p := headE first) (chunks_good ha)
        have h6 := flat_le (chunks_good ha)
        have h7 := chunks_len4 l
        rw [Hl.out.len] at h7
        have h8 : (blksL (headE first) (chunks 4 l)).length = n4 := h4
        omega
      have H4 := Lib.hid (⟨ha, h4, hB4⟩ : _ ∧ _ ∧ _)
      clear hT ha h4 hb4 hB4 hpt hl3
      go_wp2_with (at_builtin; refine hold ?_)
      refine unhold (Nu.wpList_append_rd (.tmp 28) (.tmp 29) 23 Tryz.underlying23 hi hz0 hz1 hz2 Nu.byte_cells own4 hr4 (by unfold maxLen; omega) (by omega) H4.out.2.2.size rfl rfl rfl rfl ?_)
      intro v5 w5 L5
      have hB5 : Below w.heap.size w w5 := L5.below H4.out.2.2 H4.out.2.2.size H3.out.2.2
      have own5 := L5.1
      rw [← List.map_append] at own5
      obtain ⟨A5, c5, rfl, _, _⟩ := own_rd own5
      have H5 := Lib.hid (⟨own5, hB5⟩ : _ ∧ _)
      clear L5 own5 hB5 own4 hr4
      go_wp2_with fail
      go_ret2
      have e3 : filePTw first l = (headLTw first ++ blksL (headE first) (chunks 4 l), 0) := if_pos ⟨H1.out.1, H4.out.1⟩
      exact TelTw.some_ e3 (by rw [List.length_append, H1.out.2.2.2.1]; exact congrArg _ H4.out.2.1) H5.out.1 H5.out.2
    · have e3 : filePTw first l = ([], 2) := if_neg (fun h => by rw [ha] at h; cases h.2)
      have H4 := Lib.hid (⟨e3, hB4⟩ : _ ∧ _)
      clear hT ha hb4 hB4 hpt hl3 e3 own4 hr4
      go_wp2_with fail
      go_ret2
      exact TelTw.none_ H4.out.1 H4.out.2
  · rw [headP_noTw hf]
    have e3 : filePTw first l = ([], 2) := if_neg (fun h => hf h.1)
    have H3 := Lib.hid (⟨e3, hb1⟩ : _ ∧ _)
    clear hf e3 hb1 own1
    go_wp2_with fail
    go_ret2
    exact TelTw.none_ H3.out.1 H3.out.2

end Go.Proofs.YtcpdjhkpmaamdaaGreat
