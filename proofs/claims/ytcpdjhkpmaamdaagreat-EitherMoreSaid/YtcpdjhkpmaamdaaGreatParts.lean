/-
  Slices of slices of bytes in memory.
-/
import Derived.Test.YtcpdjhkpmaamdaaGreatBase
import Derived.Test.YtcpdjhkpmaamdaaGreatByt
namespace Go.Proofs.YtcpdjhkpmaamdaaGreat
open Go.RowKit

/-- A slice of bytes: its address, length, capacity, bytes. -/
structure Part where
  A : Option Addr
  n : Nat
  c : Nat
  l : List Int
def Part.v (p : Part) : Value := .slice p.A p.n p.c
def flat (ps : List Part) : List Int := (ps.map Part.l).flatten
theorem flat_nil : flat [] = [] := rfl
theorem flat_cons (p : Part) (ps : List Part) : flat (p :: ps) = p.l ++ flat ps := rfl
theorem flat_take {ps : List Part} {k : Nat} {q : Part} (h : ps[k]? = some q) : flat (ps.take (k + 1)) = flat (ps.take k) ++ q.l := by
  unfold flat
  rw [List.take_add_one, h]
  simp

/-- The slice of address A and length n holds the slices ps; all lies below B. -/
structure Rds (w : World) (B : Nat) (A : Option Addr) (n : Nat) (ps : List Part) : Prop where
  len : ps.length = n
  row : 0 < n → ∃ b off, A = some ⟨b, off, none⟩ ∧ b < B ∧ ∀ i, i < n → w.cell? ⟨b, off + i, none⟩ = ps[i]?.map Part.v
  parts : ∀ p ∈ ps, Rd w B .u8 p.A p.n p.l ∧ Byt p.l ∧ p.n ≤ 140737488355328
theorem Rds.at_ {w : World} {B : Nat} {A : Option Addr} {n : Nat} {ps : List Part} (h : Rds w B A n ps) {k : Nat} (hk : k < n) :
    ∃ b off q, A = some ⟨b, off, none⟩ ∧ b < B ∧ ps[k]? = some q ∧ w.cell? ⟨b, off + k, none⟩ = some (.slice q.A q.n q.c) ∧ Rd w B .u8 q.A q.n q.l ∧ Byt q.l ∧ q.n ≤ 140737488355328 := by
  obtain ⟨b, off, rfl, hb, hc⟩ := h.row (by omega)
  have hk' : k < ps.length := by rw [h.len]; exact hk
  have he : ps[k]? = some ps[k] := List.getElem?_eq_getElem hk'
  have h1 := hc k hk
  rw [he] at h1
  exact ⟨b, off, ps[k], rfl, hb, he, h1, h.parts _ (List.getElem_mem hk')⟩
theorem Rds.on {w w' : World} {B B' : Nat} {A : Option Addr} {n : Nat} {ps : List Part} (h : Rds w B A n ps) (hb : Below B w w') (hB : B ≤ B') : Rds w' B' A n ps where
  len := h.len
  row := fun hn => by
    obtain ⟨b, off, e, hlt, hc⟩ := h.row hn
    exact ⟨b, off, e, by omega, fun i hi => (hb.cell (p := ⟨b, off + i, none⟩) hlt).trans (hc i hi)⟩
  parts := fun p hp => ⟨(h.parts p hp).1.on hb hB, (h.parts p hp).2⟩

theorem flat_byt {w : World} {B : Nat} {A : Option Addr} {n : Nat} {ps : List Part} (h : Rds w B A n ps) : Byt (flat ps) := by
  intro x hx
  unfold flat at hx
  obtain ⟨l, hl, hxl⟩ := List.mem_flatten.1 hx
  obtain ⟨p, hp, rfl⟩ := List.mem_map.1 hl
  exact (h.parts p hp).2.1 x hxl

theorem flat_lt {ps : List Part} {k j : Nat} {q : Part} (h : ps[k]? = some q) (hj : j < q.l.length) : (flat (ps.take k) ++ q.l.take j).length < (flat ps).length := by
  obtain ⟨hk, he⟩ := List.getElem?_eq_some_iff.1 h
  have e1 : ps = ps.take k ++ q :: ps.drop (k + 1) := by
    rw [← he, ← List.drop_eq_getElem_cons hk, List.take_append_drop]
  have e2 : flat ps = flat (ps.take k) ++ (q.l ++ flat (ps.drop (k + 1))) := by
    conv => lhs; rw [e1]
    unfold flat
    simp
  rw [e2]
  simp only [List.length_append, List.length_take]
  omega

end Go.Proofs.YtcpdjhkpmaamdaaGreat
