/-
  Idents: which may be; rows of them; what a call keeps below a block (of stage 5's texts); the document's May, Idents.
-/
import Derived.Test.YtafeadplmcoilaaDoorRow
import Derived.Test.YtafeadplmcoilaaDoorBel
import Derived.Test.YtafeadplmcoilaaDoorMarks
import Derived.Test.YtafeadplmcoilaaDoorRangeW
import Derived.Laws.StructEq
import Derived.BigQuiet
import Derived.Outline
import Derived.ChangeKeysEq
import Derived.Deep.QuietTactic
import Derived.Deep.DeepCutAuto
import Derived.RangeFuncRecord
import Derived.StillTailTactics
namespace Go.Proofs.YtafeadplmcoilaaDoor
open Go.RowKit Go.Maps
set_option linter.unusedVariables false
set_option linter.unusedSimpArgs false

/-- What a file's name says. -/
structure IdP where
  kind : Int
  seq : Int
  fmt : Int
def IdP.v (x : IdP) : Value := .agg #[.int .u8 x.kind, .int .i64 x.seq, .int .i64 x.fmt]
def IdP.cs (x : IdP) : List Value := [.int .u8 x.kind, .int .i64 x.seq, .int .i64 x.fmt]
theorem IdP.len (x : IdP) : x.cs.length = 3 := rfl
theorem IdP.ext_ {x y : IdP} (a : x.kind = y.kind) (b : x.seq = y.seq) (c : x.fmt = y.fmt) : x = y := by
  cases x
  cases y
  simp only at a b c
  subst a b c
  rfl
/-- May it be? -/
def MayP (x : IdP) : Prop := ((x.kind = 1 ∨ x.kind = 2) ∧ x.seq = 0 ∧ x.fmt = 0) ∨ ((x.kind = 3 ∨ x.kind = 4) ∧ 1 ≤ x.seq ∧ x.seq ≤ 1073741824 ∧ (x.fmt = 1 ∨ x.fmt = 2))
instance (x : IdP) : Decidable (MayP x) := by unfold MayP; infer_instance
theorem IdP.one (x : IdP) : ∀ u ∈ x.cs, u.oneCell' = true := fun u hu => by
  simp [IdP.cs] at hu
  rcases hu with rfl | rfl | rfl <;> rfl
theorem may_yes {k s f : Int} (h : ((k = 1 ∨ k = 2) ∧ s = 0 ∧ f = 0) ∨ ((k = 3 ∨ k = 4) ∧ 1 ≤ s ∧ s ≤ 1073741824 ∧ (f = 1 ∨ f = 2))) : decide (MayP ⟨k, s, f⟩) = true := decide_eq_true h
theorem may_no {k s f : Int} (h : ¬ (((k = 1 ∨ k = 2) ∧ s = 0 ∧ f = 0) ∨ ((k = 3 ∨ k = 4) ∧ 1 ≤ s ∧ s ≤ 1073741824 ∧ (f = 1 ∨ f = 2)))) : decide (MayP ⟨k, s, f⟩) = false := decide_eq_false h

set_option maxRecDepth 100000 in
set_option maxHeartbeats 4000000 in
theorem may_any (x : IdP) (w : World) : Calls Tryd.prog 49 #[x.v] w fun e w' => e = .returned (.bool (decide (MayP x))) ∧ Below w.heap.size w w' := by
  obtain ⟨k, s, f⟩ := x
  go_enter Tryd.func49, Tryd.ntmps49
  unfold IdP.v
  by_cases h1 : k = 1
  · subst h1
    by_cases hs : s = 0
    · subst hs
      by_cases hf : f = 0
      · subst hf
        have Hv := Lib.hid (may_yes (k := 1) (s := 0) (f := 0) (by omega))
        rw [Hv.out]
        clear Hv
        go_wp2_with fail
        go_ret
        exact ⟨by first | rfl | simp_all, below_al (below_d0 w) _⟩
      · skip
        have Hv := Lib.hid (may_no (k := 1) (s := 0) (f := f) (by omega))
        rw [Hv.out]
        clear Hv
        go_wp2_with fail
        go_ret
        exact ⟨by first | rfl | simp_all, below_al (below_d0 w) _⟩
    · skip
      have Hv := Lib.hid (may_no (k := 1) (s := s) (f := f) (by omega))
      rw [Hv.out]
      clear Hv
      go_wp2_with fail
      go_ret
      exact ⟨by first | rfl | simp_all, below_al (below_d0 w) _⟩
  · skip
    by_cases h2 : k = 2
    · subst h2
      by_cases hs : s = 0
      · subst hs
        by_cases hf : f = 0
        · subst hf
          have Hv := Lib.hid (may_yes (k := 2) (s := 0) (f := 0) (by omega))
          rw [Hv.out]
          clear Hv
          go_wp2_with fail
          go_ret
          exact ⟨by first | rfl | simp_all, below_al (below_d0 w) _⟩
        · skip
          have Hv := Lib.hid (may_no (k := 2) (s := 0) (f := f) (by omega))
          rw [Hv.out]
          clear Hv
          go_wp2_with fail
          go_ret
          exact ⟨by first | rfl | simp_all, below_al (below_d0 w) _⟩
      · skip
        have Hv := Lib.hid (may_no (k := 2) (s := s) (f := f) (by omega))
        rw [Hv.out]
        clear Hv
        go_wp2_with fail
        go_ret
        exact ⟨by first | rfl | simp_all, below_al (below_d0 w) _⟩
    · skip
      by_cases h3 : k = 3
      · subst h3
        by_cases ha : (1 : Int) ≤ s
        · have tha : decide ((1 : Int) ≤ s) = true := by simpa using ha
          by_cases hb : s ≤ (1073741824 : Int)
          · have thb : decide (s ≤ (1073741824 : Int)) = true := by simpa using hb
            by_cases hf : f = 1
            · subst hf
              have Hv := Lib.hid (may_yes (k := 3) (s := s) (f := 1) (by omega))
              rw [Hv.out]
              clear Hv
              go_wp2_with fail
              go_ret
              exact ⟨by first | rfl | simp_all, below_al (below_d0 w) _⟩
            · skip
              by_cases hg : f = 2
              · subst hg
                have Hv := Lib.hid (may_yes (k := 3) (s := s) (f := 2) (by omega))
                rw [Hv.out]
                clear Hv
                go_wp2_with fail
                go_ret
                exact ⟨by first | rfl | simp_all, below_al (below_d0 w) _⟩
              · skip
                have Hv := Lib.hid (may_no (k := 3) (s := s) (f := f) (by omega))
                rw [Hv.out]
                clear Hv
                go_wp2_with fail
                go_ret
                exact ⟨by first | rfl | simp_all, below_al (below_d0 w) _⟩
          · have thb : decide (s ≤ (1073741824 : Int)) = false := by simpa using hb
            have Hv := Lib.hid (may_no (k := 3) (s := s) (f := f) (by omega))
            rw [Hv.out]
            clear Hv
            go_wp2_with fail
            go_ret
            exact ⟨by first | rfl | simp_all, below_al (below_d0 w) _⟩
        · have tha : decide ((1 : Int) ≤ s) = false := by simpa using ha
          have Hv := Lib.hid (may_no (k := 3) (s := s) (f := f) (by omega))
          rw [Hv.out]
          clear Hv
          go_wp2_with fail
          go_ret
          exact ⟨by first | rfl | simp_all, below_al (below_d0 w) _⟩
      · skip
        by_cases h4 : k = 4
        · subst h4
          by_cases ha : (1 : Int) ≤ s
          · have tha : decide ((1 : Int) ≤ s) = true := by simpa using ha
            by_cases hb : s ≤ (1073741824 : Int)
            · have thb : decide (s ≤ (1073741824 : Int)) = true := by simpa using hb
              by_cases hf : f = 1
              · subst hf
                have Hv := Lib.hid (may_yes (k := 4) (s := s) (f := 1) (by omega))
                rw [Hv.out]
                clear Hv
                go_wp2_with fail
                go_ret
                exact ⟨by first | rfl | simp_all, below_al (below_d0 w) _⟩
              · skip
                by_cases hg : f = 2
                · subst hg
                  have Hv := Lib.hid (may_yes (k := 4) (s := s) (f := 2) (by omega))
                  rw [Hv.out]
                  clear Hv
                  go_wp2_with fail
                  go_ret
                  exact ⟨by first | rfl | simp_all, below_al (below_d0 w) _⟩
                · skip
                  have Hv := Lib.hid (may_no (k := 4) (s := s) (f := f) (by omega))
                  rw [Hv.out]
                  clear Hv
                  go_wp2_with fail
                  go_ret
                  exact ⟨by first | rfl | simp_all, below_al (below_d0 w) _⟩
            · have thb : decide (s ≤ (1073741824 : Int)) = false := by simpa using hb
              have Hv := Lib.hid (may_no (k := 4) (s := s) (f := f) (by omega))
              rw [Hv.out]
              clear Hv
              go_wp2_with fail
              go_ret
              exact ⟨by first | rfl | simp_all, below_al (below_d0 w) _⟩
          · have tha : decide ((1 : Int) ≤ s) = false := by simpa using ha
            have Hv := Lib.hid (may_no (k := 4) (s := s) (f := f) (by omega))
            rw [Hv.out]
            clear Hv
            go_wp2_with fail
            go_ret
            exact ⟨by first | rfl | simp_all, below_al (below_d0 w) _⟩
        · skip
          have b1 : (k == 1) = false := by simpa using h1
          have b2 : (k == 2) = false := by simpa using h2
          have b3 : (k == 3) = false := by simpa using h3
          have b4 : (k == 4) = false := by simpa using h4
          have Hv := Lib.hid (may_no (k := k) (s := s) (f := f) (by omega))
          rw [Hv.out]
          clear Hv
          go_wp2_with fail
          go_ret
          exact ⟨by first | rfl | simp_all, below_al (below_d0 w) _⟩

theorem fields_id : (Tryd.prog.fieldsOf 49).toList = [⟨"Kind", 5, 0, false, "", "", 0⟩, ⟨"Seq", 3, 1, false, "", "", 8⟩, ⟨"Fmt", 3, 2, false, "", "", 16⟩] := by kernel_rfl
/-- '==' of what names say. -/
theorem eql_id (k s f k' s' f' : Int) (w : World) : (binOp .eql 49 (.agg #[.int .u8 k, .int .i64 s, .int .i64 f]) (.agg #[.int .u8 k', .int .i64 s', .int .i64 f'])).run Tryd.prog w = .ok (.bool (decide (k = k' ∧ s = s' ∧ f = f'))) w := by
  rw [run_eql_struct, run_equalIn_agg w 9999 _ _ _ (by kernel_rfl) (by kernel_rfl), fields_id]
  by_cases h1 : k = k' <;> by_cases h2 : s = s' <;> by_cases h3 : f = f' <;> simp [Op.eqFields, part, go_sem, h1, h2, h3]
theorem eql_yes {k s f k' s' f' : Int} (h : k = k' ∧ s = s' ∧ f = f') (w : World) : (binOp .eql 49 (.agg #[.int .u8 k, .int .i64 s, .int .i64 f]) (.agg #[.int .u8 k', .int .i64 s', .int .i64 f'])).run Tryd.prog w = .ok (.bool true) w := (eql_id k s f k' s' f' w).trans (by rw [decide_eq_true h])
theorem eql_no {k s f k' s' f' : Int} (h : ¬ (k = k' ∧ s = s' ∧ f = f')) (w : World) : (binOp .eql 49 (.agg #[.int .u8 k, .int .i64 s, .int .i64 f]) (.agg #[.int .u8 k', .int .i64 s', .int .i64 f'])).run Tryd.prog w = .ok (.bool false) w := (eql_id k s f k' s' f' w).trans (by rw [decide_eq_false h])

/-- Box z holds it. -/
def BoxI (W : World) (z : Nat) (x : IdP) : Prop := W.heap[z]? = some (.cells #[.int .u8 x.kind, .int .i64 x.seq, .int .i64 x.fmt] 49 (0, 0))
theorem BoxI.cells {W : World} {z : Nat} {x : IdP} (h : BoxI W z x) : W.cell? ⟨z, 0, none⟩ = some (.int .u8 x.kind) ∧ W.cell? ⟨z, 1, none⟩ = some (.int .i64 x.seq) ∧ W.cell? ⟨z, 2, none⟩ = some (.int .i64 x.fmt) := by
  refine ⟨?_, ?_, ?_⟩ <;> (rw [cell_of_row _ _ _ _ _ _ h]; simp)
theorem BoxI.frozen {W : World} {z : Nat} {x : IdP} (h : BoxI W z x) : W.frozen? ⟨z, 0, none⟩ = false ∧ W.frozen? ⟨z, 1, none⟩ = false ∧ W.frozen? ⟨z, 2, none⟩ = false := by
  refine ⟨?_, ?_, ?_⟩
  all_goals simp [World.frozen?, show W.heap[z]? = _ from h]
theorem BoxI.lt {W : World} {z : Nat} {x : IdP} (h : BoxI W z x) : z < W.heap.size := (Array.getElem?_eq_some_iff.1 h).1
theorem BoxI.below {W W' : World} {z : Nat} {x : IdP} (h : BoxI W z x) (hb : Below W.heap.size W W') : BoxI W' z x := (hb.block z h.lt).trans h
theorem BoxI.new (w : World) (x : IdP) : BoxI (w.alloc (.cells #[.int .u8 x.kind, .int .i64 x.seq, .int .i64 x.fmt] 49)) w.heap.size x := World.alloc_heap_new w _

theorem Row.low {α : Type} {m : Nat} {cs : α → List Value} {w w' : World} {B n : Nat} {A : Option Addr} {xs : List α} (h : Row m cs w B A n xs) (hb : ∀ k, k < B → w'.heap[k]? = w.heap[k]?) : Row m cs w' B A n xs :=
  ⟨h.1, fun hn => by
    obtain ⟨b, off, e, hlt, hc⟩ := h.2 hn
    exact ⟨b, off, e, hlt, fun i x hi j hj => (World.cell?_of_block (a := ⟨b, off + (i * m + j), none⟩) (hb b hlt)).trans (hc i x hi j hj)⟩⟩

/-- A row of idents that lies below B. -/
abbrev Ids (w : World) (B : Nat) (A : Option Addr) (n : Nat) (l : List IdP) : Prop := Row 3 IdP.cs w B A n l
theorem Ids.get {w : World} {B n : Nat} {A : Option Addr} {l : List IdP} (h : Ids w B A n l) {k : Nat} (hk : k < n) :
    ∃ b off x, A = some ⟨b, off, none⟩ ∧ b < B ∧ l[k]? = some x ∧ w.cell? ⟨b, off + k * 3, none⟩ = some (.int .u8 x.kind) ∧ w.cell? ⟨b, off + k * 3 + 1, none⟩ = some (.int .i64 x.seq) ∧ w.cell? ⟨b, off + k * 3 + 2, none⟩ = some (.int .i64 x.fmt) := by
  obtain ⟨b, off, x, e, hb, hf, hc⟩ := Row.at_ h hk
  exact ⟨b, off, x, e, hb, hf, hc 0 (by omega), hc 1 (by omega), hc 2 (by omega)⟩

theorem own_marks {w w' : World} {B base : Nat} {e : TypeId} {size : Nat} {v : Value} {n : Nat} {xs : List Value} (h : w.ownsRow base e size v n xs) (hb : CellsKept B w w') : w'.ownsRow base e size v n xs := by
  refine ⟨h.1, ?_⟩
  rcases h.2 with a | ⟨g, cap, cur, e1, hbg, hh, r⟩
  · exact .inl a
  · exact .inr ⟨g, cap, cur, e1, hbg, hb.2 g _ hh rfl, r⟩
instance : DecidableEq IdP := fun x y => if h : x.kind = y.kind ∧ x.seq = y.seq ∧ x.fmt = y.fmt then isTrue (IdP.ext_ h.1 h.2.1 h.2.2) else isFalse (fun e => h (by subst e; exact ⟨rfl, rfl, rfl⟩))
theorem neq_id (k s f k' s' f' : Int) (w : World) : (binOp .neq 49 (.agg #[.int .u8 k, .int .i64 s, .int .i64 f]) (.agg #[.int .u8 k', .int .i64 s', .int .i64 f'])).run Tryd.prog w = .ok (.bool (!decide (k = k' ∧ s = s' ∧ f = f'))) w := by
  rw [run_neq_struct, run_equalIn_agg w 9999 _ _ _ (by kernel_rfl) (by kernel_rfl), fields_id]
  by_cases h1 : k = k' <;> by_cases h2 : s = s' <;> by_cases h3 : f = f' <;> simp [Op.eqFields, part, go_sem, h1, h2, h3]
theorem id_neq_same (x : IdP) (w : World) : (binOp .neq 49 (.agg #[.int .u8 x.kind, .int .i64 x.seq, .int .i64 x.fmt]) (.agg #[.int .u8 x.kind, .int .i64 x.seq, .int .i64 x.fmt])).run Tryd.prog w = .ok (.bool false) w :=
  (neq_id _ _ _ _ _ _ w).trans (by rw [decide_eq_true ⟨rfl, rfl, rfl⟩]; rfl)
theorem id_neq_other {x y : IdP} (h : x ≠ y) (w : World) : (binOp .neq 49 (.agg #[.int .u8 x.kind, .int .i64 x.seq, .int .i64 x.fmt]) (.agg #[.int .u8 y.kind, .int .i64 y.seq, .int .i64 y.fmt])).run Tryd.prog w = .ok (.bool true) w :=
  (neq_id _ _ _ _ _ _ w).trans (by rw [decide_eq_false (fun e => h (IdP.ext_ e.1 e.2.1 e.2.2))]; rfl)

set_option maxRecDepth 100000 in
set_option maxHeartbeats 2000000 in
theorem idents_true (A : Option Addr) (n c : Nat) (l : List IdP) (A2 : Option Addr) (c2 : Nat) (w : World) (h1 : Ids w w.heap.size A n l) (h2 : Ids w w.heap.size A2 n l) (hn : n ≤ 1000) :
    Calls Tryd.prog 20 #[.slice A n c, .slice A2 n c2] w fun e w' => e = .returned (.bool true) ∧ Below w.heap.size w w' := by
  have Hl := Lib.hid (⟨h1, h2⟩ : _ ∧ _)
  clear h1 h2
  go_enter Tryd.func20, Tryd.ntmps20
  go_wp2_with fail
  go_loopw [5] (fun i wr => ∃ (k : Nat), k ≤ n ∧ i = .int .i64 k ∧ Below w.heap.size w wr) (fun i _ => n - (intOf i).toNat)
  case atStart => exact ⟨0, Nat.zero_le _, rfl, below_d0 w⟩
  case round =>
    obtain ⟨k, hk, rfl, hB⟩ := hrel
    by_cases hlt : k < n
    · obtain ⟨b, off, x, rfl, hb, hs, c0, c1, c2'⟩ := Ids.get (Hl.out.1.on hB (Nat.le_refl _)) hlt
      obtain ⟨b2, off2, y, rfl, hb2, ht, d0, d1, d2⟩ := Ids.get (Hl.out.2.on hB (Nat.le_refl _)) hlt
      obtain rfl : x = y := by rw [hs] at ht; injection ht
      have t1 := id_neq_same x
      clear hs ht
      go_wp2_with fail
      go_still_tail 8, (by kernel_rfl)
      change wpList _ _ _ _ _ wr.drew
      go_wp2_with fail
      go_roundw
      case rel => exact ⟨k + 1, by omega, by go_num, hB.drew⟩
      case measure => simp [intOf]; omega
    · obtain rfl : k = n := by omega
      go_wp2_with fail
      go_ret
      exact ⟨rfl, hB⟩

theorem info_ident : (Tryd.prog.info? 49).map (fun i => (i.zero, i.size, i.bytes)) = some (some (.agg #[.int .u8 0, .int .i64 0, .int .i64 0]), 3, 24) := by kernel_rfl
theorem ident_cells : (Value.agg #[.int .u8 0, .int .i64 0, .int .i64 0]).cells.size = 3 := rfl

end Go.Proofs.YtafeadplmcoilaaDoor
