/-
  Words for slices of whole numbers in memory, and what keeps them; no program is named here but for its integers' row.
-/
import Derived.Test.YtbhnlmlaebngmaaProg
import Derived.WalkKit
import Derived.Below
import Derived.Laws.OwnMore
import Derived.Maps.AppendAt
import Derived.Deep.Draws
import Derived.Deep.AppendLies
import Derived.Lib.Hide
import Derived.Laws.BytesString
namespace Go.Proofs.Ytbhnlmlaebngmaa
open Go.RowKit

/-- The slice of address A and length n holds the numbers l (kind k), in a block below B. -/
def Rd (w : World) (B : Nat) (k : IntKind) (A : Option Addr) (n : Nat) (l : List Int) : Prop :=
  l.length = n ∧ (0 < n → ∃ b off, A = some ⟨b, off, none⟩ ∧ b < B ∧ ∀ i, i < n → w.cell? ⟨b, off + i, none⟩ = some (.int k (l[i]?.getD 0)))

section
variable {w w' : World} {B B' n : Nat} {k : IntKind} {A : Option Addr} {l : List Int}
theorem Rd.nil : Rd w B k A 0 [] := ⟨rfl, fun h => absurd h (by omega)⟩
theorem Rd.at_ (h : Rd w B k A n l) (hn : 0 < n) : ∃ b off, A = some ⟨b, off, none⟩ ∧ b < B ∧ ∀ i, i < n → w.cell? ⟨b, off + i, none⟩ = some (.int k (l[i]?.getD 0)) := h.2 hn
theorem Rd.below (h : Rd w B k A n l) (hb : Below B w w') : Rd w' B k A n l :=
  ⟨h.1, fun hn => by
    obtain ⟨b, off, e, hB, hc⟩ := h.2 hn
    exact ⟨b, off, e, hB, fun i hi => (hb.cell (p := ⟨b, off + i, none⟩) hB).trans (hc i hi)⟩⟩
theorem Rd.more (h : Rd w B k A n l) (hB : B ≤ B') : Rd w B' k A n l :=
  ⟨h.1, fun hn => by
    obtain ⟨b, off, e, hb, hc⟩ := h.2 hn
    exact ⟨b, off, e, by omega, hc⟩⟩
/-- Carried over a call: what lay below B lies on; B' is where the heap ends then. -/
theorem Rd.on (h : Rd w B k A n l) (hb : Below B w w') (hB : B ≤ B') : Rd w' B' k A n l := (h.below hb).more hB
theorem Rd.cut {m cap : Nat} (h : Rd w B k A n l) (hm : m ≤ n) (hc : n ≤ cap) :
    Rd w B k (if cap = m then A else A.map (·.add m)) (n - m) (l.drop m) := by
  refine ⟨by rw [List.length_drop, h.1], fun hn => ?_⟩
  obtain ⟨b, off, rfl, hb, hcell⟩ := h.2 (by omega)
  rw [if_neg (by omega)]
  refine ⟨b, off + m, ?_, hb, fun i hi => ?_⟩
  · simp only [Option.map_some, Addr.add]
    split
    · rename_i h0; subst h0; rfl
    · rfl
  · rw [Nat.add_assoc, hcell (m + i) (by omega), List.getElem?_drop]
theorem Rd.cut_off {m cap : Nat} (h : Rd w B k A n l) (hm : m ≤ n) (hc : n ≤ cap) (hne : ¬ cap = m) : Rd w B k (A.map fun x => x.add m) (n - m) (l.drop m) := by
  have := h.cut hm hc
  rwa [if_neg hne] at this
theorem Rd.cut_all {m : Nat} (A' : Option Addr) (h : Rd w B k A n l) (hm : n ≤ m) : Rd w B k A' (n - m) (l.drop m) :=
  ⟨by rw [List.length_drop, h.1], fun hn => absurd hn (by omega)⟩
theorem Rd.first {m : Nat} (h : Rd w B k A n l) (hm : m ≤ n) : Rd w B k A m (l.take m) := by
  refine ⟨by rw [List.length_take, h.1]; omega, fun h0 => ?_⟩
  obtain ⟨b, off, rfl, hb, hcell⟩ := h.2 (by omega)
  refine ⟨b, off, rfl, hb, fun i hi => ?_⟩
  rw [hcell i (by omega), List.getElem?_take, if_pos (by omega)]
theorem Rd.of_own {base : Nat} {e : TypeId} {c : Nat} (h : w.ownsRow base e 1 (.slice A n c) n (l.map (Value.int k))) : Rd w w.heap.size k A n l := by
  have hl : l.length = n := by have := h.1; simpa using this
  refine ⟨hl, fun hn => ?_⟩
  obtain ⟨g, cap, hv, _, hlt⟩ := h.form hn
  have hA : A = some ⟨g, 0, none⟩ := by injection hv
  subst hA
  refine ⟨g, 0, rfl, hlt, fun i hi => ?_⟩
  have hx := h.cells (g := g) rfl i (.int k (l[i]?.getD 0)) (by rw [List.getElem?_map, List.getElem?_eq_getElem (by omega)]; rfl)
  rw [← hx]
  congr 1
  unfold Addr.add
  split
  · rename_i h0; subst h0; rfl
  · rfl
/-- The cells as the laws on append want them. -/
theorem Rd.cells {a : Addr} (h : Rd w B k (some a) n l) : ∀ j u, (l.map (Value.int k))[j]? = some u → w.cell? (a.add j) = some u := by
  intro j u hj
  have hjn : j < n := by
    have := (List.getElem?_eq_some_iff.1 hj).1
    have h1 := h.1
    simp at this; omega
  obtain ⟨b, off, e, hb, hcell⟩ := h.2 (by omega)
  injection e with e
  subst e
  have h1 : (⟨b, off, none⟩ : Addr).add j = ⟨b, off + j, none⟩ := by
    unfold Addr.add
    split
    · rename_i h0; subst h0; rfl
    · rfl
  rw [h1, hcell j hjn, ← hj, List.getElem?_map, List.getElem?_eq_getElem (by have := h.1; omega)]
  rfl
theorem Rd.none_ (h : Rd w B k none n l) : n = 0 ∧ l = [] := by
  rcases Nat.eq_zero_or_pos n with h0 | h0
  · exact ⟨h0, List.eq_nil_of_length_eq_zero (by rw [h.1, h0])⟩
  · obtain ⟨_, _, e, _⟩ := h.2 h0
    cases e
end

/-- What comes back of a call that makes memory, and turns nothing that lay: a slice that holds l. -/
theorem own_rd {w : World} {base : Nat} {e : TypeId} {k : IntKind} {v : Value} {n : Nat} {l : List Int} (h : w.ownsRow base e 1 v n (l.map (Value.int k))) :
    ∃ A c, v = .slice A n c ∧ n ≤ c ∧ Rd w w.heap.size k A n l := by
  have h' := h
  obtain ⟨hl, ⟨rfl, rfl⟩ | ⟨g, cap, cur, rfl, _, _, hnc, _⟩⟩ := h
  · exact ⟨none, 0, rfl, Nat.le_refl _, Rd.of_own h'⟩
  · exact ⟨_, cap, rfl, hnc, Rd.of_own h'⟩

/-- The arms of an equation at a result. -/
theorem ret_bool {a b : Bool} (h : a = b) : Ending.returned (.bool a) = .returned (.bool b) := by rw [h]
theorem ret_int {k : IntKind} {a b : Int} (h : a = b) : Ending.returned (.int k a) = .returned (.int k b) := by rw [h]
theorem ret_num {a b a' b' c c' : Int} (h1 : a = a') (h2 : b = b') (h3 : c = c') : Ending.returned (.tuple #[.int .i64 a, .int .i64 b, .int .i64 c]) = .returned (.tuple #[.int .i64 a', .int .i64 b', .int .i64 c']) := by rw [h1, h2, h3]
theorem ret3_eq {a b c a' b' c' : Value} (h1 : a = a') (h2 : b = b') (h3 : c = c') : Ending.returned (.tuple #[a, b, c]) = .returned (.tuple #[a', b', c']) := by rw [h1, h2, h3]

end Go.Proofs.Ytbhnlmlaebngmaa
