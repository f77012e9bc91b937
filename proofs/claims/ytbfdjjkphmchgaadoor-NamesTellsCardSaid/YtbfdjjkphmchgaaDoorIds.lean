/-
  moultref05.Idents of rows that are alike: its contract; idents told apart.
-/
import Derived.Test.YtbfdjjkphmchgaaDoorRestP
import Derived.Test.YtbfdjjkphmchgaaDoorNameA
import Derived.StillTailTactics
namespace Go.Proofs.YtbfdjjkphmchgaaDoor
open Go.RowKit Go.Maps
set_option linter.unusedVariables false
set_option linter.unusedSimpArgs false

instance : DecidableEq IdP := fun x y => if h : x.kind = y.kind ∧ x.seq = y.seq ∧ x.fmt = y.fmt then isTrue (IdP.ext_ h.1 h.2.1 h.2.2) else isFalse (fun e => h (by subst e; exact ⟨rfl, rfl, rfl⟩))
theorem neq_id (k s f k' s' f' : Int) (w : World) : (binOp .neq 23 (.agg #[.int .u8 k, .int .i64 s, .int .i64 f]) (.agg #[.int .u8 k', .int .i64 s', .int .i64 f'])).run Tryd.prog w = .ok (.bool (!decide (k = k' ∧ s = s' ∧ f = f'))) w := by
  rw [run_neq_struct, run_equalIn_agg w 9999 _ _ _ (by kernel_rfl) (by kernel_rfl), fields_id]
  by_cases h1 : k = k' <;> by_cases h2 : s = s' <;> by_cases h3 : f = f' <;> simp [Op.eqFields, part, go_sem, h1, h2, h3]
theorem id_neq_same (x : IdP) (w : World) : (binOp .neq 23 (.agg #[.int .u8 x.kind, .int .i64 x.seq, .int .i64 x.fmt]) (.agg #[.int .u8 x.kind, .int .i64 x.seq, .int .i64 x.fmt])).run Tryd.prog w = .ok (.bool false) w :=
  (neq_id _ _ _ _ _ _ w).trans (by rw [decide_eq_true ⟨rfl, rfl, rfl⟩]; rfl)
theorem id_neq_other {x y : IdP} (h : x ≠ y) (w : World) : (binOp .neq 23 (.agg #[.int .u8 x.kind, .int .i64 x.seq, .int .i64 x.fmt]) (.agg #[.int .u8 y.kind, .int .i64 y.seq, .int .i64 y.fmt])).run Tryd.prog w = .ok (.bool true) w :=
  (neq_id _ _ _ _ _ _ w).trans (by rw [decide_eq_false (fun e => h (IdP.ext_ e.1 e.2.1 e.2.2))]; rfl)

set_option maxRecDepth 100000 in
set_option maxHeartbeats 2000000 in
theorem idents_true (A : Option Addr) (n c : Nat) (l : List IdP) (A2 : Option Addr) (c2 : Nat) (w : World) (h1 : Ids w w.heap.size A n l) (h2 : Ids w w.heap.size A2 n l) (hn : n ≤ 1000) :
    Calls Tryd.prog 18 #[.slice A n c, .slice A2 n c2] w fun e w' => e = .returned (.bool true) ∧ Below w.heap.size w w' := by
  have Hl := Lib.hid (⟨h1, h2⟩ : _ ∧ _)
  clear h1 h2
  go_enter Tryd.func18, Tryd.ntmps18
  go_wp2_with fail
  go_loopw [5] (fun i wr => ∃ (k : Nat), k ≤ n ∧ i = .int .i64 k ∧ Below w.heap.size w wr) (fun i _ => n - (intOf i).toNat)
  case atStart => exact ⟨0, Nat.zero_le _, rfl, below_d0 w⟩
  case round =>
    obtain ⟨k, hk, rfl, hB⟩ := hrel
    by_cases hlt : k < n
    · obtain ⟨b, off, x, rfl, hb, hs, c0, c1, c2'⟩ := Ids.get (Hl.out.1.on hB (Nat.le_refl _)) hlt
      obtain ⟨b2, off2, y, rfl, hb2, ht, d0, d1, d2⟩ := Ids.get (Hl.out.2.on hB (Nat.le_refl _)) hlt
      obtain rfl : x = y := by rw [hs] at ht; injection ht
      have t1 := id_neq_same x
      clear hs ht
      go_wp2_with fail
      go_still_tail 8, (by kernel_rfl)
      change wpList _ _ _ _ _ wr.drew
      go_wp2_with fail
      go_roundw
      case rel => exact ⟨k + 1, by omega, by go_num, hB.drew⟩
      case measure => simp [intOf]; omega
    · obtain rfl : k = n := by omega
      go_wp2_with fail
      go_ret
      exact ⟨rfl, hB⟩

end Go.Proofs.YtbfdjjkphmchgaaDoor
