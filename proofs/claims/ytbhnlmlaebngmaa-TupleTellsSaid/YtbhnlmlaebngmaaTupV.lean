/-
  What the laws of tuples want of package tuple (each is proved of the landed functions elsewhere); moultlaw12.some: its contract.
-/
import Derived.Test.YtbhnlmlaebngmaaTupE
namespace Go.Proofs.Ytbhnlmlaebngmaa
open Go.RowKit
set_option linter.unusedVariables false
set_option linter.unusedSimpArgs false

/-- A row of entries of the call's own, wherever in its block it begins. -/
def OwnF (w : World) (base : Nat) (v : Value) (n : Nat) (l : List EnP) : Prop :=
  ∃ (A : Option Addr) (c : Nat), v = .slice A n c ∧ Es w w.heap.size A n l ∧ ∀ a, A = some a → base ≤ a.block ∧ ∃ cur fr, w.heap[a.block]? = some (.cells cur 39 fr)
section
variable {w w' W : World} {base base' n c z : Nat} {A : Option Addr} {v u x : Value} {l : List EnP} {m t : TupP}
theorem OwnF.of (h : OwnE w base v n l) : OwnF w base v n l := by
  rcases h.2 with ⟨rfl, rfl⟩ | ⟨g, cap, cur, rfl, hb, hh, _⟩
  · exact ⟨none, 0, rfl, OwnE.es h, fun a e => by cases e⟩
  · exact ⟨_, cap, rfl, OwnE.es h, fun a e => by cases e; exact ⟨hb, cur, _, hh⟩⟩
theorem OwnF.es (h : OwnF w base (.slice A n c) n l) : Es w w.heap.size A n l := by
  obtain ⟨A', c', e, h1, _⟩ := h
  injection e with e1 e2 e3
  subst e1
  exact h1
theorem lenF (h : OwnF w base v n l) : l.length = n := by
  obtain ⟨_, _, _, h1, _⟩ := h
  exact h1.len
theorem keepF_at (h : OwnF w base v n l) (hb : w.heap.size ≤ w'.heap.size) (hs : ∀ (g : Nat) (cur : Array Value) (fr : Nat × Nat), w.heap[g]? = some (Obj.cells cur 39 fr) → w'.heap[g]? = w.heap[g]?) : OwnF w' base v n l := by
  obtain ⟨A, c, e, h1, h2⟩ := h
  refine ⟨A, c, e, ⟨h1.1, fun hn => ?_⟩, fun a ha => ?_⟩
  · obtain ⟨b, off, e1, h3, h4⟩ := h1.2 hn
    obtain ⟨_, cur, fr, hh⟩ := h2 _ e1
    have hg := hs _ cur fr hh
    refine ⟨b, off, e1, by omega, fun i x hx j hj => ?_⟩
    rw [← h4 i x hx j hj]
    exact World.cell?_of_block (a := ⟨b, off + (i * 3 + j), none⟩) hg
  · obtain ⟨hb1, cur, fr, hh⟩ := h2 a ha
    exact ⟨hb1, cur, fr, (hs _ cur fr hh).trans hh⟩
theorem keepF (h : OwnF w base v n l) (hb : Below w.heap.size w w') : OwnF w' base v n l := keepF_at h hb.size fun g _ _ hg => hb.block g (Array.getElem?_eq_some_iff.1 hg).1
theorem lowF (h : OwnF w base v n l) (hb : base' ≤ base) : OwnF w base' v n l := by
  obtain ⟨A, c, e, h1, h2⟩ := h
  exact ⟨A, c, e, h1, fun a ha => ⟨Nat.le_trans hb (h2 a ha).1, (h2 a ha).2⟩⟩
theorem putU_ownF (hz : BoxU W z t u) (h : OwnF W base v n l) : OwnF (putU W z m x) base v n l := keepF_at h (by rw [putU_size]; exact Nat.le_refl _) fun g cur fr hg => putU_other m x (by
  rintro rfl
  have h1 := hg.symm.trans (show W.heap[g]? = _ from hz)
  simp at h1)
end
/-- A tuple and an error are answered, that are so; the row is the call's own, from B on. -/
def OutF (R : TupP → Int → Prop) (B : Nat) (w : World) (e : Ending) (w' : World) : Prop :=
  (∃ (o : TupP) (er : Int) (A : Option Addr) (n c : Nat), e = .returned (.tuple #[tupV o (.slice A n c), .int .i64 er]) ∧ R o er ∧ n ≤ c ∧ OwnF w' B (.slice A n c) n o.lg) ∧ Below w.heap.size w w'
theorem OutF.of {R : TupP → Int → Prop} {B : Nat} {w : World} (e : Ending) (w' : World) (h : OutT R B w e w') : OutF R B w e w' := by
  obtain ⟨⟨o, er, A, n, c, h1, h2, h3, h4⟩, hb⟩ := h
  exact ⟨⟨o, er, A, n, c, h1, h2, h3, OwnF.of h4⟩, hb⟩
theorem OutF.imp {R R' : TupP → Int → Prop} {B : Nat} {w : World} {e : Ending} {w' : World} (h : OutF R B w e w') (hi : ∀ o er, R o er → R' o er) : OutF R' B w e w' := by
  obtain ⟨⟨o, er, A, n, c, h1, h2, h3⟩, hb⟩ := h
  exact ⟨⟨o, er, A, n, c, h1, hi o er h2, h3⟩, hb⟩
theorem rappendF_any (t : TupP) (A : Option Addr) (n c : Nat) (A' : Option Addr) (m c' : Nat) (l : List EnP) (w : World) (hS : Es w w.heap.size A n t.lg) (hn : n ≤ 100000) (hL : Es w w.heap.size A' m l) (hm : m ≤ 100000) :
    Calls Try.prog 11 #[tupV t (.slice A n c), .slice A' m c'] w (OutF (AppendIs t l) w.heap.size w) := (rappendT_any t A n c A' m c' l w hS hn hL hm).mono OutF.of
theorem rcutF_any (t : TupP) (A : Option Addr) (n c : Nat) (i : Int) (w : World) (hS : Es w w.heap.size A n t.lg) (hn : n ≤ 100000) (hnc : n ≤ c) (hx : -1099511627776 ≤ t.sn.ix ∧ t.sn.ix ≤ 1099511627776) (hi : -1099511627776 ≤ i ∧ i ≤ 1099511627776) :
    Calls Try.prog 13 #[tupV t (.slice A n c), .int .i64 i] w (OutF (CutIs t i) w.heap.size w) := (rcutT_any t A n c i w hS hn hnc hx hi).mono OutF.of
theorem rinstallF_any (t : TupP) (A : Option Addr) (n c : Nat) (s : StP) (w : World) (hS : Es w w.heap.size A n t.lg) (hn : n ≤ 100000) (hnc : n ≤ c) (hx : -1099511627776 ≤ t.sn.ix ∧ t.sn.ix ≤ 1099511627776) (hi : -1099511627776 ≤ s.ix ∧ s.ix ≤ 1099511627776) :
    Calls Try.prog 18 #[tupV t (.slice A n c), s.v] w (OutF (InstallIs t s) w.heap.size w) := (rinstallT_any t A n c s w hS hn hnc hx hi).mono OutF.of
theorem rhardF_any (t : TupP) (A : Option Addr) (n c : Nat) (a b : Int) (w : World) (hS : Es w w.heap.size A n t.lg) (hn : n ≤ 1000000) :
    Calls Try.prog 20 #[tupV t (.slice A n c), .int .i64 a, .int .i64 b] w (OutF (HardIs t a b) w.heap.size w) := (rhardT_any t A n c a b w hS hn).mono OutF.of
theorem rsaveF_any (t : TupP) (A : Option Addr) (n c : Nat) (s : StP) (w : World) (hS : Es w w.heap.size A n t.lg) (hn : n ≤ 100000) (hnc : n ≤ c) (hx : -1099511627776 ≤ t.sn.ix ∧ t.sn.ix ≤ 1099511627776) (hi : -1099511627776 ≤ s.ix ∧ s.ix ≤ 1099511627776) :
    Calls Try.prog 16 #[tupV t (.slice A n c), s.v] w (OutF (SaveIs t s) w.heap.size w) := (rsaveT_any t A n c s w hS hn hnc hx hi).mono OutF.of

/-- A tuple is answered, its row the call's own. -/
def OutV (o : TupP) (w : World) (e : Ending) (w' : World) : Prop := (∃ (A : Option Addr) (n c : Nat), e = .returned (tupV o (.slice A n c)) ∧ n ≤ c ∧ OwnF w' w.heap.size (.slice A n c) n o.lg) ∧ Below w.heap.size w w'
/-- An index, or a state's, may be reckoned with. -/
def Mid (i : Int) : Prop := -1099511627776 ≤ i ∧ i ≤ 1099511627776
def I64 (i : Int) : Prop := -9223372036854775808 ≤ i ∧ i ≤ 9223372036854775807
theorem Mid.i64 {i : Int} (h : Mid i) : I64 i := by unfold Mid at h; unfold I64; omega
/-- The contracts of package tuple. -/
structure Dev12 : Prop where
  right : ∀ (t : TupP) (A : Option Addr) (n c : Nat) (w : World), Es w w.heap.size A n t.lg → n ≤ 100000 → Mid t.sn.ix → Calls Try.prog 27 #[tupV t (.slice A n c)] w fun e w' => (∃ b, MayIs t b ∧ e = .returned (.bool b)) ∧ Below w.heap.size w w'
  first : ∀ (w : World), Calls Try.prog 31 #[] w (OutV firstT w)
  last : ∀ (t : TupP) (A : Option Addr) (n c : Nat) (w : World), Es w w.heap.size A n t.lg → n ≤ 100000 → Mid t.sn.ix → Calls Try.prog 29 #[tupV t (.slice A n c)] w fun e w' => e = .returned (.int .i64 (lastT t)) ∧ Below w.heap.size w w'
  termAt : ∀ (t : TupP) (A : Option Addr) (n c : Nat) (i : Int) (w : World), Es w w.heap.size A n t.lg → n ≤ 100000 → Mid t.sn.ix → I64 i → Calls Try.prog 21 #[tupV t (.slice A n c), .int .i64 i] w fun e w' => e = .returned (TermV t i) ∧ Below w.heap.size w w'
  at_ : ∀ (t : TupP) (A : Option Addr) (n c : Nat) (i : Int) (w : World), Es w w.heap.size A n t.lg → n ≤ 100000 → Mid t.sn.ix → I64 i → Calls Try.prog 23 #[tupV t (.slice A n c), .int .i64 i] w fun e w' => e = .returned (AtV t i) ∧ Below w.heap.size w w'
  append : ∀ (t : TupP) (A : Option Addr) (n c : Nat) (A' : Option Addr) (m c' : Nat) (l : List EnP) (w : World), Es w w.heap.size A n t.lg → n ≤ 100000 → n ≤ c → Mid t.sn.ix → Es w w.heap.size A' m l → m ≤ 100000 → m ≤ c' → Calls Try.prog 10 #[tupV t (.slice A n c), .slice A' m c'] w (OutF (AppendIs t l) w.heap.size w)
  cut : ∀ (t : TupP) (A : Option Addr) (n c : Nat) (i : Int) (w : World), Es w w.heap.size A n t.lg → n ≤ 100000 → n ≤ c → Mid t.sn.ix → I64 i → Calls Try.prog 12 #[tupV t (.slice A n c), .int .i64 i] w (OutF (CutIs t i) w.heap.size w)
  save : ∀ (t : TupP) (A : Option Addr) (n c : Nat) (s : StP) (w : World), Es w w.heap.size A n t.lg → n ≤ 100000 → n ≤ c → Mid t.sn.ix → I64 s.ix → Calls Try.prog 15 #[tupV t (.slice A n c), s.v] w (OutF (SaveIs t s) w.heap.size w)
  install : ∀ (t : TupP) (A : Option Addr) (n c : Nat) (s : StP) (w : World), Es w w.heap.size A n t.lg → n ≤ 100000 → n ≤ c → Mid t.sn.ix → I64 s.ix → Calls Try.prog 17 #[tupV t (.slice A n c), s.v] w (OutF (InstallIs t s) w.heap.size w)
  hard : ∀ (t : TupP) (A : Option Addr) (n c : Nat) (a b : Int) (w : World), Es w w.heap.size A n t.lg → n ≤ 100000 → n ≤ c → Mid t.sn.ix → Calls Try.prog 19 #[tupV t (.slice A n c), .int .i64 a, .int .i64 b] w (OutF (HardIs t a b) w.heap.size w)
  state : ∀ (t : TupP) (A : Option Addr) (n c : Nat) (i : Int) (w : World), Es w w.heap.size A n t.lg → n ≤ 100000 → n ≤ c → Mid t.sn.ix → I64 i → Calls Try.prog 25 #[tupV t (.slice A n c), .int .i64 i] w fun e w' => e = .returned (StateV t i) ∧ Below w.heap.size w w'
  own : ∀ (t : TupP) (A : Option Addr) (n c : Nat) (w : World), Es w w.heap.size A n t.lg → n ≤ 100000 → Calls Try.prog 34 #[tupV t (.slice A n c)] w (OutV t w)
  same : ∀ (a b : TupP) (A A' : Option Addr) (n n' c c' : Nat) (w : World), Es w w.heap.size A n a.lg → Es w w.heap.size A' n' b.lg → n ≤ 100000 → n' ≤ 100000 → Calls Try.prog 33 #[tupV a (.slice A n c), tupV b (.slice A' n' c')] w fun e w' => (∃ r, SameT a b r ∧ e = .returned (.bool r)) ∧ Below w.heap.size w w'

theorem rd_made (w : World) (k : IntKind) (t : TypeId) (l : List Int) {g : Nat} (hg : g = w.heap.size) : Rd (w.alloc (.cells (l.map (Value.int k)).toArray t)) (w.alloc (.cells (l.map (Value.int k)).toArray t)).heap.size k (some ⟨g, 0, none⟩) l.length l := by
  subst hg
  refine ⟨rfl, fun _ => ⟨w.heap.size, 0, rfl, by simp, fun i hi => ?_⟩⟩
  rw [cell_of_row _ _ _ _ _ _ (World.alloc_heap_new w _)]
  simp [hi]
/-- Entries with data of a term. -/
def dataL (t : Int) (l : List Int) : List EnP := l.map fun v => ⟨t, 1, v⟩
theorem dataL_succ {t : Int} {l : List Int} {k : Nat} (hk : k < l.length) : dataL t (l.take (k + 1)) = dataL t (l.take k) ++ [⟨t, 1, l[k]?.getD 0⟩] := by
  rw [take_succ (List.getElem?_eq_getElem hk), List.getElem?_eq_getElem hk]
  exact List.map_append
set_option maxRecDepth 100000 in
set_option maxHeartbeats 4000000 in
theorem some_any (t : Int) (A : Option Addr) (n c : Nat) (l : List Int) (w : World) (hr : Rd w w.heap.size .i64 A n l) (hn : n ≤ 1000) :
    Calls Try.prog 38 #[.int .i64 t, .slice A n c] w fun e w' => (∃ A' c', e = .returned (.slice A' n c') ∧ n ≤ c' ∧ OwnF w' w.heap.size (.slice A' n c') n (dataL t l)) ∧ Below w.heap.size w w' := by
  obtain ⟨i0, hi, hz0, hz1, hz2⟩ := info_partsV info_entry
  have HR := Lib.hid hr
  have Hl := Lib.hid hr.1
  clear hr
  go_enter Try.func38, Try.ntmps38
  go_wp2_with fail
  go_loopw [5, 6] (fun v x wr => ∃ (k c1 : Nat) (A1 : Option Addr), k ≤ n ∧ v = .slice A1 k c1 ∧ x = .int .i64 k ∧ OwnE wr w.heap.size (.slice A1 k c1) k (dataL t (l.take k)) ∧ Below w.heap.size w wr) (fun _ x _ => n - (intOf x).toNat)
  case atStart => exact ⟨0, 0, none, Nat.zero_le _, rfl, rfl, World.ownsRow_nil _ _ _ _, Below.refl _ _⟩
  obtain ⟨k, c1, A1, hk, rfl, rfl, own, hB⟩ := hrel
  by_cases hlt : k < n
  · obtain ⟨b, off, rfl, hb, hc⟩ := (HR.out.on hB hB.size).at_ (show 0 < n by omega)
    have d0 := hc k hlt
    obtain ⟨v, hv⟩ : ∃ v, l[k]?.getD 0 = v := ⟨_, rfl⟩
    rw [hv] at d0
    obtain ⟨g, hg⟩ : ∃ g, g = wr.heap.size := ⟨_, rfl⟩
    obtain ⟨w1, hw1⟩ : ∃ x, x = wr.alloc (.cells #[.int .i64 t, .int .i64 1, .int .i64 v] 39) := ⟨_, rfl⟩
    have bb : Below wr.heap.size wr w1 := by rw [hw1]; exact below_al (below_d0 _) _
    have own1 := own_keep own bb
    have src : Source w1 3 (some ⟨g, 0, none⟩) 1 (EnP.cs ⟨t, 1, v⟩) := by rw [hw1]; exact Source.one (by rfl) (EnP.one (⟨t, 1, v⟩ : EnP)) hg
    have B1 := hB.trans (bb.mono hB.size)
    have HB := Lib.hid (⟨hw1, hg, B1, hv⟩ : _ ∧ _ ∧ _ ∧ _)
    clear hc hb own bb hw1 hg B1 hv
    go_wp2_with (at_builtin; refine hold ?_)
    rw [← HB.out.1, ← HB.out.2.1]
    refine unhold (wpList_append (.tmp 13) (.tmp 20) 24 Try.underlying24 hi hz0 hz1 hz2 entry_cells (by omega) own1 src (by unfold maxLen; omega) (by omega) HB.out.2.2.1.size rfl rfl rfl rfl ?_)
    intro v1 w2 L
    have own2 : OwnE w2 w.heap.size v1 (k + 1) (dataL t (l.take (k + 1))) := by
      unfold OwnE
      rw [dataL_succ (by rw [Hl.out]; exact hlt), HB.out.2.2.2, List.flatMap_append]
      simpa using L.1
    have B2 : Below w.heap.size w w2 := L.below HB.out.2.2.1 HB.out.2.2.1.size (fun q hq => (own1.lt q hq).1)
    obtain ⟨A2, c2, rfl, -⟩ := own_slice own2
    have H2 := Lib.hid (⟨own2, B2⟩ : _ ∧ _)
    clear own2 B2 L src own1 d0
    go_wp2_with fail
    go_roundw
    case rel => exact ⟨k + 1, c2, A2, by omega, rfl, by go_num, H2.out.1, H2.out.2⟩
    case measure => simp [intOf]; omega
  · obtain rfl : k = n := by omega
    have hl : l.take k = l := List.take_of_length_le (by rw [Hl.out]; omega)
    rw [hl] at own
    obtain ⟨A2, c2, e2, hnc⟩ := own_slice own
    obtain ⟨rfl, rfl⟩ : A1 = A2 ∧ c1 = c2 := by simpa using e2
    go_wp2_with fail
    go_ret
    exact ⟨⟨A1, c1, rfl, hnc, OwnF.of own⟩, hB⟩
end Go.Proofs.Ytbhnlmlaebngmaa
