/-
  Rows of files, by their names; their places and names, in order.
-/
import Derived.Test.YtbfdjjkphmchgaaDoorRow
namespace Go.Proofs.YtbfdjjkphmchgaaDoor
open Go.RowKit

theorem Row.low {α : Type} {m : Nat} {cs : α → List Value} {w w' : World} {B n : Nat} {A : Option Addr} {xs : List α} (h : Row m cs w B A n xs) (hb : ∀ k, k < B → w'.heap[k]? = w.heap[k]?) : Row m cs w' B A n xs :=
  ⟨h.1, fun hn => by
    obtain ⟨b, off, e, hlt, hc⟩ := h.2 hn
    exact ⟨b, off, e, hlt, fun i x hi j hj => (World.cell?_of_block (a := ⟨b, off + (i * m + j), none⟩) (hb b hlt)).trans (hc i x hi j hj)⟩⟩

/-- A file: its name; where its bytes lie. -/
structure FlP where
  name : ByteArray
  A : Option Addr
  n : Nat
  c : Nat
def FlP.cs (f : FlP) : List Value := [.string f.name, .slice f.A f.n f.c]
/-- A row of files that lies below B. -/
abbrev Fl (w : World) (B : Nat) (A : Option Addr) (n : Nat) (l : List FlP) : Prop := Row 2 FlP.cs w B A n l
theorem Fl.get {w : World} {B n : Nat} {A : Option Addr} {l : List FlP} (h : Fl w B A n l) {k : Nat} (hk : k < n) :
    ∃ b off f, A = some ⟨b, off, none⟩ ∧ b < B ∧ l[k]? = some f ∧ w.cell? ⟨b, off + k * 2, none⟩ = some (.string f.name) ∧ w.cell? ⟨b, off + k * 2 + 1, none⟩ = some (.slice f.A f.n f.c) := by
  obtain ⟨b, off, f, e, hb, hf, hc⟩ := Row.at_ h hk
  exact ⟨b, off, f, e, hb, hf, hc 0 (by omega), hc 1 (by omega)⟩

/-- The places and the names, in order. -/
def callsP (l : List FlP) : List (Nat × ByteArray) := l.zipIdx.map fun p => (p.2, p.1.name)
theorem calls_len (l : List FlP) : (callsP l).length = l.length := by simp [callsP]
theorem calls_succ {l : List FlP} {k : Nat} {f : FlP} (h : l[k]? = some f) : callsP (l.take (k + 1)) = callsP (l.take k) ++ [(k, f.name)] := by
  have hk := (List.getElem?_eq_some_iff.1 h).1
  unfold callsP
  rw [List.take_add_one, h, List.zipIdx_append, List.map_append, List.length_take, Nat.min_eq_left (by omega)]
  simp
theorem calls_prefix (l : List FlP) (k : Nat) : callsP (l.take k) <+: callsP l := by
  have e : callsP l = callsP (l.take k ++ l.drop k) := by rw [List.take_append_drop]
  rw [e]
  unfold callsP
  rw [List.zipIdx_append, List.map_append]
  exact List.prefix_append _ _
theorem calls_get {l : List FlP} {pre : List (Nat × ByteArray)} {x : Nat × ByteArray} (h : pre ++ [x] <+: callsP l) : ∃ f, l[pre.length]? = some f ∧ x = (pre.length, f.name) ∧ pre = callsP (l.take pre.length) := by
  obtain ⟨r, hr⟩ := h
  have h1 : (callsP l)[pre.length]? = some x := by rw [← hr, List.append_assoc, List.getElem?_append_right (Nat.le_refl _)]; simp
  have h1' := h1
  unfold callsP at h1
  rw [List.getElem?_map, List.getElem?_zipIdx] at h1
  cases hf : l[pre.length]? with
  | none => rw [hf] at h1; simp at h1
  | some f =>
    rw [hf] at h1
    simp at h1
    refine ⟨f, rfl, h1.symm, ?_⟩
    obtain ⟨r2, hr2⟩ := calls_prefix l pre.length
    have hlen : (callsP (l.take pre.length)).length = pre.length := by
      have := (List.getElem?_eq_some_iff.1 hf).1
      rw [calls_len, List.length_take]
      omega
    have e : pre ++ ([x] ++ r) = callsP (l.take pre.length) ++ r2 := by rw [hr2, ← hr, List.append_assoc]
    exact (List.append_inj e hlen.symm).1
/-- What lies below B stays. -/
def KpL (B : Nat) (A A' : World) : Prop := ∀ k, k < B → A'.heap[k]? = A.heap[k]?
theorem KpL.refl (B : Nat) (A : World) : KpL B A A := fun _ _ => rfl
theorem KpL.trans {B : Nat} {A A' A'' : World} (h : KpL B A A') (h' : KpL B A' A'') : KpL B A A'' := fun k hk => (h' k hk).trans (h k hk)
theorem KpL.size {B : Nat} {A A' : World} (h : KpL B A A') (hB : B ≤ A.heap.size) : B ≤ A'.heap.size := by
  rcases Nat.eq_zero_or_pos B with h0 | h0
  · omega
  · have h1 := h (B - 1) (by omega)
    rw [Array.getElem?_eq_getElem (by omega : B - 1 < A.heap.size)] at h1
    have := (Array.getElem?_eq_some_iff.1 h1).1
    omega
theorem KpL.below {B : Nat} {A A' : World} (h : Below A.heap.size A A') (hB : B ≤ A.heap.size) : KpL B A A' := fun k hk => h.block k (by omega)
theorem KpL.put {B : Nat} {D : Nat} (hB : B ≤ D) (W : World) (l : Nat) (o o' : Obj) (hl : D ≤ l) (_ : W.heap[l]? = some o) (_ : o.isCells = false) (_ : o.isWalk = false) : KpL B W (W.putObj l o') := fun k hk => World.putObj_heap_other (by omega)

end Go.Proofs.YtbfdjjkphmchgaaDoor
