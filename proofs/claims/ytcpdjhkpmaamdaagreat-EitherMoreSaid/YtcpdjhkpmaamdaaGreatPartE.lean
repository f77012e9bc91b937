/-
  A row of rows of entries that came in.
-/
import Derived.Test.YtcpdjhkpmaamdaaGreatEntO
namespace Go.Proofs.YtcpdjhkpmaamdaaGreat
open Go.RowKit Go.ChangeShapes Go.WideShapes

/-- A row of entries, as its slice tells it. -/
structure PartE where
  A : Option Addr
  n : Nat
  c : Nat
  l : List EnP
def PartE.v (p : PartE) : Value := .slice p.A p.n p.c
/-- A slice of slices of entries that came in: nothing is said of how long they are. -/
def RawE (w : World) (B : Nat) (A : Option Addr) (n : Nat) (ps : List PartE) : Prop :=
  Row 1 (fun p : PartE => [p.v]) w B A n ps ∧ ∀ p ∈ ps, Es w B p.A p.n p.l ∧ p.n ≤ p.c
theorem RawE.len {w : World} {B : Nat} {A : Option Addr} {n : Nat} {ps : List PartE} (h : RawE w B A n ps) : ps.length = n := h.1.1
theorem RawE.on {w w' : World} {B B' : Nat} {A : Option Addr} {n : Nat} {ps : List PartE} (h : RawE w B A n ps) (hb : Below B w w') (hB : B ≤ B') : RawE w' B' A n ps :=
  ⟨h.1.on hb hB, fun p hp => ⟨(h.2 p hp).1.on hb hB, (h.2 p hp).2⟩⟩
theorem RawE.at_ {w : World} {B : Nat} {A : Option Addr} {n : Nat} {ps : List PartE} (h : RawE w B A n ps) {k : Nat} (hk : k < n) :
    ∃ b off qA qn qc ql, A = some ⟨b, off, none⟩ ∧ b < B ∧ w.cell? ⟨b, off + k, none⟩ = some (.slice qA qn qc) ∧ Es w B qA qn ql ∧ qn ≤ qc := by
  obtain ⟨b, off, p, rfl, hb, hp, hc⟩ := Row.at_ h.1 hk
  have h0 := hc 0 (by omega)
  rw [Nat.mul_one, Nat.add_zero] at h0
  have h2 := h.2 p (List.mem_of_getElem? hp)
  exact ⟨b, off, p.A, p.n, p.c, p.l, rfl, hb, h0, h2.1, h2.2⟩
theorem cells_entries : Tryz.prog.cellsOf 22 = 1 := by kernel_rfl
section
variable {H : Type} {enc : TypeId × Value → H} {w : World} {base : Nat} {sp : Nat → Bool} {held : Bool} {fuel : Nat}
theorem open_es {cs : List Value} {x : DataW H × List MemPlace} (h : DataW.trod enc Tryz.prog w base sp held fuel 22 cs = some x) : ∃ p : PartE, cs = [p.v] ∧ Es w w.heap.size p.A p.n p.l ∧ p.n ≤ p.c := by
  rcases Deep.open_slice Tryz.underlying22 h with ⟨hc, _⟩ | ⟨a, len, cap, m, n', D, Pl, hc, _, hl, _, hm, _, hi⟩
  · exact ⟨⟨none, 0, 0, []⟩, hc, Row.nil, Nat.le_refl _⟩
  · have hlm : len ≤ m := by rw [hm]; split <;> omega
    rw [three_entry] at hi
    obtain ⟨l, hr, hp⟩ := rows_of (w := w) (cs := EnP.cs) (P := EnP.Ok) (a := a) (len := len) (K := 3) (by omega) (fun i hil => by
      obtain ⟨cs', h1, h2⟩ := hi i (by omega)
      obtain ⟨e, rfl, he⟩ := open_entry h2
      obtain ⟨_, h4, h5⟩ := World.cells?_some h1
      exact ⟨e, h5, h4, he⟩)
    exact ⟨⟨some a, len, cap, l⟩, hc, hr, hl⟩
set_option maxRecDepth 100000 in
/-- Rows of entries that came in. -/
theorem open_partsE {r : Reach} {b0 : Nat} {v : Value} {d : DataW H} {pl : List MemPlace} (hval : Value.okWide Tryz.prog w r b0 44 v) (hd : DataW.Trod enc Tryz.prog w base sp held 44 v d pl) :
    ∃ A n c ps, v = .slice A n c ∧ n ≤ c ∧ RawE w w.heap.size A n ps := by
  obtain ⟨A, n, c, rfl⟩ := okWide_slice Tryz.underlying44 hval
  obtain ⟨fuel, hd⟩ := hd
  rcases Deep.open_slice1 Tryz.underlying44 cells_entries hd with ⟨hc, _⟩ | ⟨a, len, cap, m, n', V, D, Pl, hc, _, hl, _, hm, _, hi⟩
  · simp [Value.cells] at hc
    obtain ⟨rfl, rfl, rfl⟩ := hc
    exact ⟨none, 0, 0, [], rfl, Nat.le_refl _, Row.nil, fun _ h => by cases h⟩
  · simp [Value.cells] at hc
    obtain ⟨rfl, rfl, rfl⟩ := hc
    have hlm : n ≤ m := by rw [hm]; split <;> omega
    obtain ⟨l, hr, hp⟩ := rows_of (w := w) (cs := fun p : PartE => [p.v]) (P := fun p => Es w w.heap.size p.A p.n p.l ∧ p.n ≤ p.c) (a := a) (len := n) (K := 1) (by omega) (fun i hil => by
      obtain ⟨h1, h2⟩ := hi i (by omega)
      obtain ⟨p, hp, he⟩ := open_es h2
      have hp' : V i = p.v := by simpa using hp
      refine ⟨p, fun j hj => ?_, rfl, he⟩
      obtain rfl : j = 0 := by omega
      have e : (a.add (i * 1)).add 0 = a.add i := by simp [Addr.add]
      rw [e, h1, hp']
      rfl)
    exact ⟨_, _, _, l, rfl, hl, hr, hp⟩
end
end Go.Proofs.YtcpdjhkpmaamdaaGreat
