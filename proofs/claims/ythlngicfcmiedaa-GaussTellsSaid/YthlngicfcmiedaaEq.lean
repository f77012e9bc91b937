/-
  '==' of arrays of whole numbers, of one value; contracts in the walk's own spelling.
-/
import Derived.Test.YthlngicfcmiedaaChain
import Derived.ChangeKeysEq
import Derived.Laws.StructEq
namespace Go.Proofs.Ythlngicfcmiedaa
open Go.RowKit

theorem info_u8 : (Try.prog.info? 5).map (fun i => (i.zero, i.size, i.bytes)) = some (some (.int .u8 0), 1, 1) := by kernel_rfl
theorem info_int : (Try.prog.info? 3).map (fun i => (i.zero, i.size, i.bytes)) = some (some (.int .i64 0), 1, 8) := by kernel_rfl
theorem cells_u8 : Try.prog.cellsOf 5 = 1 := by kernel_rfl
theorem cells_int : Try.prog.cellsOf 3 = 1 := by kernel_rfl

theorem eql_same4 (a b c d : Int) (w : World) : (binOp .eql 23 (.agg #[.int .u8 a, .int .u8 b, .int .u8 c, .int .u8 d]) (.agg #[.int .u8 a, .int .u8 b, .int .u8 c, .int .u8 d])).run Try.prog w = .ok (.bool true) w := by
  obtain ⟨i, hi, _, _, _⟩ := info_parts info_u8
  rw [run_eql_struct, run_equalIn_array w 9999 _ _ Try.underlying23 hi, cells_u8]
  simp [Op.eqItems, List.range, List.range.loop, part, go_sem]
theorem eql_same2 (a b : Int) (w : World) : (binOp .eql 39 (.agg #[.int .i64 a, .int .i64 b]) (.agg #[.int .i64 a, .int .i64 b])).run Try.prog w = .ok (.bool true) w := by
  obtain ⟨i, hi, _, _, _⟩ := info_parts info_int
  rw [run_eql_struct, run_equalIn_array w 9999 _ _ Try.underlying39 hi, cells_int]
  simp [Op.eqItems, List.range, List.range.loop, part, go_sem]

/-- The slice of slices that a literal, or a call with parts written out, makes. -/
theorem Rds.made (w : World) (t : TypeId) (ps : List Part) {g : Nat} (hg : g = w.heap.size) (h : ∀ p ∈ ps, Rd w w.heap.size .u8 p.A p.n p.l ∧ Byt p.l ∧ p.n ≤ 140737488355328) :
    Rds (w.alloc (.cells (ps.map Part.v).toArray t)) (w.alloc (.cells (ps.map Part.v).toArray t)).heap.size (some ⟨g, 0, none⟩) ps.length ps where
  len := rfl
  row := fun _ => ⟨g, 0, rfl, by subst hg; simp, fun i hi => by
    subst hg
    rw [cell_of_row _ _ _ _ _ _ (World.alloc_heap_new w _)]
    simp [hi]⟩
  parts := fun p hp => ⟨(h p hp).1.on ((Below.refl _ w).alloc (Nat.le_refl _) _) (by simp), (h p hp).2⟩
theorem Rds.none_ (w : World) (B : Nat) : Rds w B none 0 [] where
  len := rfl
  row := fun h => absurd h (by omega)
  parts := fun p hp => by cases hp
/-- The slice that a literal makes. -/
theorem Rd.made (w : World) (k : IntKind) (t : TypeId) (l : List Int) {g : Nat} (hg : g = w.heap.size) : Rd (w.alloc (.cells (l.map (Value.int k)).toArray t)) (w.alloc (.cells (l.map (Value.int k)).toArray t)).heap.size k (some ⟨g, 0, none⟩) l.length l := by
  subst hg
  refine ⟨rfl, fun _ => ⟨w.heap.size, 0, rfl, by simp, fun i hi => ?_⟩⟩
  rw [cell_of_row _ _ _ _ _ _ (World.alloc_heap_new w _)]
  simp [hi]

theorem chain_any {x y : Nat} {p : Int × Int} {A : Option Addr} {n : Nat} (c : Nat) {ps : List Part} (w : World) (hp : From x y p) (hr : Rds w w.heap.size A n ps) (hn : n ≤ 140737488355328) :
    Calls Try.prog 15 #[.complex .f64 x y, .slice A n c] w fun e w' => ChainOut (chainP p (flat ps)) e ∧ Below w.heap.size w w' :=
  callsIn_wide.1 (chain_in c w hp hr hn)
/-- .. of one part, or two, in a slice that was made for the call. -/
theorem chain_one {x y : Nat} {p : Int × Int} {A : Option Addr} {n c : Nat} {l : List Int} (w : World) (g : Nat) (t : TypeId) (hg : g = w.heap.size) (hp : From x y p) (hr : Rd w w.heap.size .u8 A n l) (hb : Byt l) (hn : n ≤ 140737488355328) :
    Calls Try.prog 15 #[.complex .f64 x y, .slice (some ⟨g, 0, none⟩) 1 1] (w.alloc (.cells #[.slice A n c] t)) fun e w' => ChainOut (chainP p l) e ∧ Below w.heap.size w w' := by
  have h := chain_any 1 (ps := [⟨A, n, c, l⟩]) _ hp (Rds.made w t [⟨A, n, c, l⟩] hg (fun q hq => by
    obtain rfl := List.mem_singleton.1 hq
    exact ⟨hr, hb, hn⟩)) (by simp)
  rw [flat_cons, flat_nil, List.append_nil] at h
  exact h.mono fun e w' ⟨he, hB⟩ => ⟨he, ((Below.refl _ w).alloc (Nat.le_refl _) _).trans (hB.mono (by simp))⟩
theorem chain_two {x y : Nat} {p : Int × Int} {A A' : Option Addr} {n c n' c' : Nat} {l l' : List Int} (w : World) (g : Nat) (t : TypeId) (hg : g = w.heap.size) (hp : From x y p) (hr : Rd w w.heap.size .u8 A n l) (hb : Byt l) (hn : n ≤ 140737488355328)
    (hr' : Rd w w.heap.size .u8 A' n' l') (hb' : Byt l') (hn' : n' ≤ 140737488355328) :
    Calls Try.prog 15 #[.complex .f64 x y, .slice (some ⟨g, 0, none⟩) 2 2] (w.alloc (.cells #[.slice A n c, .slice A' n' c'] t)) fun e w' => ChainOut (chainP p (l ++ l')) e ∧ Below w.heap.size w w' := by
  have h := chain_any 2 (ps := [⟨A, n, c, l⟩, ⟨A', n', c', l'⟩]) _ hp (Rds.made w t [⟨A, n, c, l⟩, ⟨A', n', c', l'⟩] hg (fun q hq => by
    rcases List.mem_cons.1 hq with rfl | hq
    · exact ⟨hr, hb, hn⟩
    · obtain rfl := List.mem_singleton.1 hq
      exact ⟨hr', hb', hn'⟩)) (by simp)
  rw [flat_cons, flat_cons, flat_nil, List.append_nil] at h
  exact h.mono fun e w' ⟨he, hB⟩ => ⟨he, ((Below.refl _ w).alloc (Nat.le_refl _) _).trans (hB.mono (by simp))⟩
theorem chain_none {x y : Nat} {p : Int × Int} (w : World) (hp : From x y p) :
    Calls Try.prog 15 #[.complex .f64 x y, .slice none 0 0] w fun e w' => ChainOut p e ∧ Below w.heap.size w w' :=
  chain_any 0 w hp (Rds.none_ w _) (by omega)

theorem of_out_no (a b c d : Int) (w : World) (ha : 0 ≤ a ∧ a ≤ 255) (hb : 0 ≤ b ∧ b ≤ 255) (hc : 0 ≤ c ∧ c ≤ 255) (hd : 0 ≤ d ∧ d ≤ 255) (h : 10006 < a * 256 + b ∨ 10006 < c * 256 + d) :
    Calls Try.prog 9 #[.agg #[.int .u8 a, .int .u8 b, .int .u8 c, .int .u8 d]] w fun e w' => e = .returned (.tuple #[.complex .f64 0 0, .int .i64 11]) ∧ Below w.heap.size w w' := of_no a b c d w ha hb hc hd h
theorem of_out_yes (a b c d : Int) (w : World) (ha : 0 ≤ a ∧ a ≤ 255) (hb : 0 ≤ b ∧ b ≤ 255) (hc : 0 ≤ c ∧ c ≤ 255) (hd : 0 ≤ d ∧ d ≤ 255) (h : a * 256 + b ≤ 10006 ∧ c * 256 + d ≤ 10006) :
    Calls Try.prog 9 #[.agg #[.int .u8 a, .int .u8 b, .int .u8 c, .int .u8 d]] w fun e w' =>
      (∃ x y, e = .returned (.tuple #[.complex .f64 x y, .int .i64 0]) ∧ Pt x y (a * 256 + b, c * 256 + d)) ∧ Below w.heap.size w w' :=
  (of_yes a b c d w ha hb hc hd h).mono fun _ _ ⟨he, hB⟩ => ⟨⟨_, _, he, Pt.fl (inP_mk (by omega) h.1 (by omega) h.2)⟩, hB⟩
theorem rof_out_no (a b c d : Int) (w : World) (ha : 0 ≤ a ∧ a ≤ 255) (hb : 0 ≤ b ∧ b ≤ 255) (hc : 0 ≤ c ∧ c ≤ 255) (hd : 0 ≤ d ∧ d ≤ 255) (h : 10006 < a * 256 + b ∨ 10006 < c * 256 + d) :
    Calls Try.prog 10 #[.agg #[.int .u8 a, .int .u8 b, .int .u8 c, .int .u8 d]] w fun e w' => e = .returned (.tuple #[.complex .f64 0 0, .int .i64 11]) ∧ Below w.heap.size w w' := rof_no a b c d w ha hb hc hd h
theorem rof_out_yes (a b c d : Int) (w : World) (ha : 0 ≤ a ∧ a ≤ 255) (hb : 0 ≤ b ∧ b ≤ 255) (hc : 0 ≤ c ∧ c ≤ 255) (hd : 0 ≤ d ∧ d ≤ 255) (h : a * 256 + b ≤ 10006 ∧ c * 256 + d ≤ 10006) :
    Calls Try.prog 10 #[.agg #[.int .u8 a, .int .u8 b, .int .u8 c, .int .u8 d]] w fun e w' =>
      (∃ x y, e = .returned (.tuple #[.complex .f64 x y, .int .i64 0]) ∧ Pt x y (a * 256 + b, c * 256 + d)) ∧ Below w.heap.size w w' :=
  (rof_yes a b c d w ha hb hc hd h).mono fun _ _ ⟨he, hB⟩ => ⟨⟨_, _, he, Pt.fl (inP_mk (by omega) h.1 (by omega) h.2)⟩, hB⟩
theorem bytes_out {x y : Nat} {p : Int × Int} {a b c d : Int} (w : World) (hp : Pt x y p) (h : bytesP p = [a, b, c, d]) :
    Calls Try.prog 17 #[.complex .f64 x y] w fun e w' => e = .returned (.agg #[.int .u8 a, .int .u8 b, .int .u8 c, .int .u8 d]) ∧ Below w.heap.size w w' := by
  have h1 := bytes_yes w hp
  rw [h] at h1
  exact h1
theorem rbytes_out {x y : Nat} {p : Int × Int} {a b c d : Int} (w : World) (hp : Pt x y p) (h : bytesP p = [a, b, c, d]) :
    Calls Try.prog 18 #[.complex .f64 x y] w fun e w' => e = .returned (.agg #[.int .u8 a, .int .u8 b, .int .u8 c, .int .u8 d]) ∧ Below w.heap.size w w' := by
  have h1 := rbytes_yes w hp
  rw [h] at h1
  exact h1
theorem next_out {x y : Nat} {p : Int × Int} {c : Int} (w : World) (hp : Pt x y p) (hb : 0 ≤ c ∧ c ≤ 255) :
    Calls Try.prog 13 #[.complex .f64 x y, .int .u8 c] w fun e w' => (∃ u v, e = .returned (.complex .f64 u v) ∧ Pt u v (nextP p c)) ∧ Below w.heap.size w w' :=
  (next_yes w hp hb).mono fun _ _ ⟨he, hB⟩ => ⟨⟨_, _, he, Pt.fl (nextP_in _ _)⟩, hB⟩
theorem rnext_out {x y : Nat} {p : Int × Int} {c : Int} (w : World) (hp : Pt x y p) (hb : 0 ≤ c ∧ c ≤ 255) :
    Calls Try.prog 14 #[.complex .f64 x y, .int .u8 c] w fun e w' => (∃ u v, e = .returned (.complex .f64 u v) ∧ Pt u v (nextP p c)) ∧ w = w' :=
  (rnext_yes w hp hb).mono fun _ _ ⟨he, hB⟩ => ⟨⟨_, _, he, Pt.fl (nextP_in _ _)⟩, hB⟩

/-- Two points' '==', as the walk spells it. -/
theorem Pt.order {x y u v : Nat} {p q : Int × Int} (h : Pt x y p) (k : Pt u v q) (e : p = q) : FloatKind.f64.format.order x u = some .eq ∧ FloatKind.f64.format.order y v = some .eq := by
  subst e
  exact ⟨by rw [h.re.order k.re, Int.compare_eq_eq.2 rfl], by rw [h.im.order k.im, Int.compare_eq_eq.2 rfl]⟩
theorem Pt.same {x y u v : Nat} {p q : Int × Int} (h : Pt x y p) (k : Pt u v q) : ((FloatKind.f64.format.order x u == some .eq) && (FloatKind.f64.format.order y v == some .eq)) = decide (p = q) := by
  rw [h.re.eq k.re, h.im.eq k.im, Bool.eq_iff_iff, Bool.and_eq_true, decide_eq_true_iff, decide_eq_true_iff, decide_eq_true_iff]
  exact ⟨fun ⟨a, b⟩ => Prod.ext a b, fun e => by rw [e]; exact ⟨rfl, rfl⟩⟩
theorem pt_lit {x y : Nat} {a b : Int} (h1 : fl a = x) (h2 : fl b = y) (ha : 0 ≤ a ∧ a ≤ 10006) (hb : 0 ≤ b ∧ b ≤ 10006) : Pt x y (a, b) := by
  subst h1 h2
  exact Pt.fl (inP_mk ha.1 ha.2 hb.1 hb.2)

end Go.Proofs.Ythlngicfcmiedaa
