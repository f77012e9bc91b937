/-
  A row of rows of bytes that came in.
-/
import Derived.Test.YtnojphkfniimgaaDoorOpenArr
import Derived.Test.YtnojphkfniimgaaDoorParts
import Derived.Deep.Matrix
namespace Go.Proofs.YtnojphkfniimgaaDoor
open Go.RowKit Go.ChangeShapes Go.WideShapes

/-- A slice of slices of bytes that came in: nothing is said of how long they are. -/
structure Raw (w : World) (B : Nat) (A : Option Addr) (n : Nat) (ps : List Part) : Prop where
  len : ps.length = n
  row : 0 < n → ∃ b off, A = some ⟨b, off, none⟩ ∧ b < B ∧ ∀ i, i < n → w.cell? ⟨b, off + i, none⟩ = ps[i]?.map Part.v
  parts : ∀ p ∈ ps, Rd w B .u8 p.A p.n p.l ∧ Byt p.l
  room : ∀ p ∈ ps, p.n ≤ p.c
theorem Raw.rds {w : World} {B : Nat} {A : Option Addr} {n : Nat} {ps : List Part} (h : Raw w B A n ps) (hs : ∀ p ∈ ps, p.n ≤ 140737488355328) : Rds w B A n ps :=
  ⟨h.len, h.row, fun p hp => ⟨(h.parts p hp).1, (h.parts p hp).2, hs p hp⟩⟩
theorem cells_bytes : Tryd.prog.cellsOf 25 = 1 := by kernel_rfl
theorem open_parts {H : Type} {enc : TypeId × Value → H} {w : World} {r : Reach} {b0 base : Nat} {v : Value} {d : DataW H} {pl : List MemPlace}
    (hval : Value.okWide Tryd.prog w r b0 22 v) (hd : DataW.Trod enc Tryd.prog w base (fun _ => true) true 22 v d pl) :
    ∃ A n c ps, v = .slice A n c ∧ n ≤ c ∧ Raw w w.heap.size A n ps := by
  obtain ⟨A, n, c, rfl⟩ := okWide_slice Tryd.underlying22 hval
  obtain ⟨fuel, hf⟩ := hd
  rcases Deep.open_int_rows Tryd.underlying22 Tryd.underlying25 Tryd.underlying5 cells_bytes cells_u8 hf with ⟨hcs, _⟩ | ⟨a, len, cap, A', L, C, Z, hcs, _, hl, hm, _, hrow⟩
  · simp [Value.cells] at hcs
    obtain ⟨rfl, rfl, rfl⟩ := hcs
    exact ⟨_, _, _, [], rfl, Nat.le_refl _, rfl, fun h => absurd h (by omega), (fun p hp => by cases hp), fun p hp => by cases hp⟩
  · simp [Value.cells] at hcs
    obtain ⟨rfl, rfl, rfl⟩ := hcs
    refine ⟨_, _, _, (List.range n).map (fun r => ⟨A' r, L r, C r, (Z r).take (L r)⟩), rfl, hl, by simp, fun hn => ?_, fun p hp => ?_, fun p hp => ?_⟩
    · obtain ⟨b, off, spot⟩ := a
      have h0 := (hrow 0 (by omega)).1
      have hspot : spot = none := by simpa [Addr.add] using World.cell?_spot h0
      subst hspot
      refine ⟨b, off, rfl, ?_, fun i hi => ?_⟩
      · have := World.block_lt_of_cell? w _ h0
        simpa [Addr.add] using this
      · have h1 := (hrow i (by omega)).1
        rw [add_plain] at h1
        rw [h1]
        simp [hi, Part.v]
    · obtain ⟨r, hr, rfl⟩ := List.mem_map.1 hp
      have hrn := List.mem_range.1 hr
      obtain ⟨_, h1, h2, h3, h4, h5, h6⟩ := hrow r (by omega)
      refine ⟨⟨by rw [List.length_take, h3]; exact Nat.min_eq_left h1, fun hpos => ?_⟩, byt_of fun n hn => h4 n (List.mem_of_mem_take hn)⟩
      simp only at hpos
      cases hA : A' r with
      | none => have := h5 hA; omega
      | some a' =>
        obtain ⟨_, hc⟩ := h6 a' hA
        obtain ⟨b, off, rfl, hc'⟩ := ints_at (a := a') (k := .u8) (zs := Z r) (fun i hi => hc i (by omega)) (by omega)
        refine ⟨b, off, rfl, World.block_lt_of_cell? w _ (hc' 0 (by omega)), fun i hi => ?_⟩
        simp only at hi
        rw [hc' i (by omega), List.getElem?_take, if_pos hi]
        rfl
    · obtain ⟨r, hr, rfl⟩ := List.mem_map.1 hp
      have hrn := List.mem_range.1 hr
      obtain ⟨_, h1, _⟩ := hrow r (by omega)
      exact h1
theorem Raw.at_ {w : World} {B : Nat} {A : Option Addr} {n : Nat} {ps : List Part} (h : Raw w B A n ps) {k : Nat} (hk : k < n) :
    ∃ b off qA qn qc ql, A = some ⟨b, off, none⟩ ∧ b < B ∧ ps[k]? = some ⟨qA, qn, qc, ql⟩ ∧ w.cell? ⟨b, off + k, none⟩ = some (.slice qA qn qc) ∧ Rd w B .u8 qA qn ql ∧ Byt ql ∧ qn ≤ qc := by
  obtain ⟨b, off, rfl, hb, hc⟩ := h.row (by omega)
  have hk' : k < ps.length := by rw [h.len]; exact hk
  have he : ps[k]? = some ps[k] := List.getElem?_eq_getElem hk'
  have h1 := hc k hk
  rw [he] at h1
  have h2 := h.parts _ (List.getElem_mem hk')
  have h3 := h.room _ (List.getElem_mem hk')
  exact ⟨b, off, _, _, _, _, rfl, hb, he, h1, h2.1, h2.2, h3⟩
theorem take_all {ps : List Part} {k m : Nat} {q : Part} (h : ps[k]? = some q) (hq : q.n ≤ m) (ha : ∀ p ∈ ps.take k, p.n ≤ m) : ∀ p ∈ ps.take (k + 1), p.n ≤ m := by
  intro p hp
  rw [List.take_add_one, h] at hp
  rcases List.mem_append.1 hp with hp | hp
  · exact ha p hp
  · obtain rfl : p = q := by simpa using hp
    exact hq

end Go.Proofs.YtnojphkfniimgaaDoor
