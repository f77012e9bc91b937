/-
  An ident put into a sorted row, told plainly; pieces of a row of idents; append as a drawn region's step.
-/
import Derived.Test.YtbfdjjkphmchgaaDoorIds
import Derived.Test.YtbfdjjkphmchgaaDoorClone
namespace Go.Proofs.YtbfdjjkphmchgaaDoor
open Go.RowKit
set_option linter.unusedVariables false
set_option linter.unusedSimpArgs false

/-- z put into r ahead of place k: in order, if the neighbours say so. -/
theorem ins_next {r : List IdP} {z : IdP} {k : Nat} (ho : Sym.Ord LEo r) (hk : k ≤ r.length) (hnb : k = r.length ∨ ∃ y, r[k]? = some y ∧ LessP z y) (hst : k = 0 ∨ ∃ y, r[k - 1]? = some y ∧ ¬ LessP z y) :
    Sym.Ord LEo (r.take k ++ ([z] ++ r.drop k)) ∧ (r.take k ++ ([z] ++ r.drop k)).Perm (r ++ [z]) := by
  have hBo : Sym.Ord LEo (r.take k ++ r.drop k) := by rw [List.take_append_drop]; exact ho
  have hone := Sym.one_right (y := z) hBo
    (Sym.all_left LEo.trans (Sym.Ord.append.1 hBo).1 (fun B' y e => by
      have hl2 := congrArg List.length e
      rw [List.length_take, List.length_append, List.length_singleton] at hl2
      have hz : r[k - 1]? = some y := by
        have h1 : (r.take k)[k - 1]? = some y := by rw [e, List.getElem?_append_right (by omega), show k - 1 - B'.length = 0 by omega]; rfl
        rwa [List.getElem?_take_of_lt (by omega)] at h1
      rcases hst with h0 | ⟨y', h0, h1⟩
      · omega
      · rw [hz] at h0
        cases h0
        exact h1))
    (Sym.all_right LEo.trans (Sym.Ord.append.1 hBo).2.1 (fun y B' e => by
      have hz : r[k]? = some y := by
        have h1 : (r.drop k)[0]? = some y := by rw [e]; rfl
        rwa [List.getElem?_drop] at h1
      rcases hnb with h0 | ⟨y', h0, h1⟩
      · have := (List.getElem?_eq_some_iff.1 hz).1
        omega
      · rw [hz] at h0
        cases h0
        exact LEo.of_less h1))
  rw [List.take_append_drop] at hone
  exact ⟨hone.1, hone.2⟩
/-- .. and the rounds' rows. -/
theorem ins_perm {r l : List IdP} {z : IdP} {i : Nat} {r' : List IdP} (hp : r.Perm (l.take i)) (hz : l[i]? = some z) (h : r'.Perm (r ++ [z])) : r'.Perm (l.take (i + 1)) := by
  rw [List.take_add_one, hz]
  exact h.trans (hp.append_right _)

theorem cut_firstI (A : Option Addr) (n c k : Nat) (hk : k ≤ c) (W : World) :
    (Instr.slice 25 (.slice A n c) none (some (.int .i64 (k : Int))) none).run Tryd.prog W = .ok (.slice A k c) W := by
  obtain ⟨i, hi, -, -, -⟩ := info_partsV info_ident
  have ht := Tryd.underlying25
  have he : Tryd.prog.elem 25 = 23 := by simp [Program.elem, ht]
  have hu : Tryd.prog.underlying 25 = some (.slice (Tryd.prog.elem 25)) := by rw [he]; exact ht
  rw [run_slice_h W _ A n c hu .i64 (k : Int) (by omega) (by omega), he]
  simp [sizeOf, run_typeInfo, hi, sliced, go_sem]
theorem cut_restI (A : Option Addr) (n c k : Nat) (hk : k ≤ n) (hnc : n ≤ c) :
    ∃ A', (∀ W : World, (Instr.slice 25 (.slice A n c) (some (.int .i64 (k : Int))) none none).run Tryd.prog W = .ok (.slice A' (n - k) (c - k)) W) ∧ ∀ {w : World} {B : Nat} {l : List IdP}, Ids w B A n l → Ids w B A' (n - k) (l.drop k) := by
  obtain ⟨i, hi, -, h3, -⟩ := info_partsV info_ident
  have ht := Tryd.underlying25
  have he : Tryd.prog.elem 25 = 23 := by simp [Program.elem, ht]
  have hu : Tryd.prog.underlying 25 = some (.slice (Tryd.prog.elem 25)) := by rw [he]; exact ht
  refine ⟨if c = k then A else A.map (·.add (k * 3)), fun W => ?_, fun h => ?_⟩
  · rw [run_slice_l W _ A n c hu .i64 (k : Int) (by omega) (by omega), he]
    simp [sizeOf, run_typeInfo, hi, h3, sliced, go_sem]
  · by_cases hc : c = k
    · have h0 : n - k = 0 := by omega
      rw [h0, List.drop_of_length_le (by rw [h.1]; omega)]
      exact Row.nil
    · rw [if_neg hc]
      exact Row.rest h hk
theorem exec_append {P : Program} {w w' : World} {a : Act} {o : Oper} {s x : Operand} {t : TypeId} {v v' : Value} {A : Option Addr} {m c : Nat} (ho : o.op = .call { callee := .builtin .append, args := #[s, x], argTypes := #[t, t] }) (hs : a.eval s = v) (hx : a.eval x = .slice A m c)
    (hrun : (Builtin.append_ #[t, t] o.type #[v, .slice A m c]).run P w = .ok v' w') : (execOp a.eval o).run P w = .ok (.value v') w' := by
  unfold execOp
  simp only [ho, resolve, invoke, builtin, Sem.run_bind, Sem.run_pure, Result.andThen_ok, List.map_toArray, List.map_cons, List.map_nil, hs, hx, hrun]

end Go.Proofs.YtbfdjjkphmchgaaDoor
