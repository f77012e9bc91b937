/-
  num's contracts, as the laws' walks take them: each result's slice is written out.
-/
import Derived.Test.YtbpinikldcakfaaPureD
import Derived.Test.YtbpinikldcakfaaLong
import Derived.Test.YtbpinikldcakfaaTakes
import Derived.Test.YtbpinikldcakfaaSame
namespace Go.Proofs.Ytbpinikldcakfaa
open Go.RowKit

/-- A slice of q cells that holds R, in memory that lies behind. -/
def Row (k : IntKind) (R : List Int) (q : Nat) (A : Option Addr) (c : Nat) (w : World) : Prop := q ≤ c ∧ Rd w w.heap.size k A q R
theorem Row.rd {k : IntKind} {R : List Int} {q : Nat} {A : Option Addr} {c : Nat} {w : World} (h : Row k R q A c w) : Rd w w.heap.size k A q R := h.2
theorem Row.on {k : IntKind} {R : List Int} {q : Nat} {A : Option Addr} {c : Nat} {w w' : World} (h : Row k R q A c w) (hb : Below w.heap.size w w') : Row k R q A c w' := ⟨h.1, h.2.on hb hb.size⟩
theorem Gives.row {k : IntKind} {l R : List Int} {q : Nat} {v : Value} {w : World} (h : Gives k l v w) (hR : l = R) (hq : R.length = q) : ∃ A c, v = .slice A q c ∧ Row k R q A c w := by
  subst hR hq
  obtain ⟨A, c, rfl, hc, hr⟩ := h
  exact ⟨A, c, rfl, hc, hr⟩

/-- The slice that a literal makes. -/
theorem Rd.made (w : World) (k : IntKind) (t : TypeId) (l : List Int) {g : Nat} (hg : g = w.heap.size) : Rd (w.alloc (.cells (l.map (Value.int k)).toArray t)) (w.alloc (.cells (l.map (Value.int k)).toArray t)).heap.size k (some ⟨g, 0, none⟩) l.length l := by
  subst hg
  refine ⟨rfl, fun _ => ⟨w.heap.size, 0, rfl, by simp, fun i hi => ?_⟩⟩
  rw [cell_of_row _ _ _ _ _ _ (World.alloc_heap_new w _)]
  simp [hi]

section
variable (A : Option Addr) (n c : Nat) (l : List Int) (w : World)

theorem short_yes {R : List Int} {q : Nat} (hr : Rd w w.heap.size .i64 A n l) (hn : n ≤ 1099511627776) (ha : allNum l = true) (hR : shortsOf l = R) (hq : R.length = q) :
    Calls Try.prog 9 #[.slice A n c] w fun e w' => ∃ A' c', e = .returned (.tuple #[.slice A' q c', .int .i64 0]) ∧ Row .u8 R q A' c' w' ∧ Below w.heap.size w w' := by
  refine (callsIn_wide.1 (short_in A n c l w hr hn)).mono ?_
  rintro e w' ⟨⟨v, rfl, hg⟩, hb⟩
  rw [ha] at hg
  obtain ⟨A', c', rfl, h⟩ := hg.row hR hq
  exact ⟨A', c', by rw [ha]; rfl, h, hb⟩
theorem short_no (hr : Rd w w.heap.size .i64 A n l) (hn : n ≤ 1099511627776) (ha : allNum l = false) :
    Calls Try.prog 9 #[.slice A n c] w fun e w' => ∃ A' c', e = .returned (.tuple #[.slice A' 0 c', .int .i64 2]) ∧ Row .u8 [] 0 A' c' w' ∧ Below w.heap.size w w' := by
  refine (callsIn_wide.1 (short_in A n c l w hr hn)).mono ?_
  rintro e w' ⟨⟨v, rfl, hg⟩, hb⟩
  rw [ha] at hg
  obtain ⟨A', c', rfl, h⟩ := hg.row rfl (q := 0) rfl
  exact ⟨A', c', by rw [ha]; rfl, h, hb⟩
theorem long_yes {R : List Int} {q : Nat} (hr : Rd w w.heap.size .i64 A n l) (hn : n ≤ 1099511627776) (ha : allNum l = true) (hR : longsOf l = R) (hq : R.length = q) :
    Calls Try.prog 11 #[.slice A n c] w fun e w' => ∃ A' c', e = .returned (.tuple #[.slice A' q c', .int .i64 0]) ∧ Row .u8 R q A' c' w' ∧ Below w.heap.size w w' := by
  refine (callsIn_wide.1 (long_in A n c l w hr hn)).mono ?_
  rintro e w' ⟨⟨v, rfl, hg⟩, hb⟩
  rw [ha] at hg
  obtain ⟨A', c', rfl, h⟩ := hg.row hR hq
  exact ⟨A', c', by rw [ha]; rfl, h, hb⟩
theorem long_no (hr : Rd w w.heap.size .i64 A n l) (hn : n ≤ 1099511627776) (ha : allNum l = false) :
    Calls Try.prog 11 #[.slice A n c] w fun e w' => ∃ A' c', e = .returned (.tuple #[.slice A' 0 c', .int .i64 2]) ∧ Row .u8 [] 0 A' c' w' ∧ Below w.heap.size w w' := by
  refine (callsIn_wide.1 (long_in A n c l w hr hn)).mono ?_
  rintro e w' ⟨⟨v, rfl, hg⟩, hb⟩
  rw [ha] at hg
  obtain ⟨A', c', rfl, h⟩ := hg.row rfl (q := 0) rfl
  exact ⟨A', c', by rw [ha]; rfl, h, hb⟩

variable (hr : Rd w w.heap.size .u8 A n l) (hb : Byt l) (hnc : n ≤ c) (hn : n ≤ 1099511627776)
include hr hb hnc hn
theorem take_ok {x : Int} {m : Nat} {R : List Int} {q : Nat} (h : takeP l = (x, m, 0)) (hR : l.drop m = R) (hq : R.length = q) :
    Calls Try.prog 16 #[.slice A n c] w fun e w' => ∃ A' c', e = .returned (.tuple #[.int .i64 x, .slice A' q c', .int .i64 0]) ∧ Row .u8 R q A' c' w' ∧ Below w.heap.size w w' := by
  refine (Take_any A n c l w hr hb hnc (by omega)).mono ?_
  rintro e w' ⟨⟨v, rfl, hg⟩, hb⟩
  rw [h] at hg
  obtain ⟨A', c', rfl, h'⟩ := hg.row hR hq
  exact ⟨A', c', by rw [h], h', hb⟩
theorem take_err {x : Int} (h : takeP l = (0, 0, x)) (hx : x ≠ 0) :
    Calls Try.prog 16 #[.slice A n c] w fun e w' => ∃ A' c', e = .returned (.tuple #[.int .i64 0, .slice A' 0 c', .int .i64 x]) ∧ Row .u8 [] 0 A' c' w' ∧ Below w.heap.size w w' := by
  refine (Take_any A n c l w hr hb hnc (by omega)).mono ?_
  rintro e w' ⟨⟨v, rfl, hg⟩, hb⟩
  rw [h] at hg
  obtain ⟨A', c', rfl, h'⟩ := hg.row (R := []) (if_neg hx) (q := 0) rfl
  exact ⟨A', c', by rw [h], h', hb⟩
theorem long_out {x e : Int} {R : List Int} {q : Nat} (h : longP l = (x, R, e)) (hq : R.length = q) :
    Calls Try.prog 18 #[.slice A n c] w fun e' w' => ∃ A' c', e' = .returned (.tuple #[.int .i64 x, .slice A' q c', .int .i64 e]) ∧ Row .u8 R q A' c' w' ∧ Below w.heap.size w w' := by
  refine (long_any A n c l w hr hb hnc (by omega)).mono ?_
  rintro e w' ⟨⟨v, rfl, hg⟩, hb⟩
  rw [h] at hg
  obtain ⟨A', c', rfl, h'⟩ := hg.row rfl hq
  exact ⟨A', c', by rw [h], h', hb⟩
theorem takes_out {many e : Int} {R S : List Int} {q p : Nat} (h : takesP l many = (R, S, e)) (hq : R.length = q) (hp : S.length = p) :
    Calls Try.prog 20 #[.slice A n c, .int .i64 many] w fun e' w' => ∃ A' c' A'' c'', e' = .returned (.tuple #[.slice A' q c', .slice A'' p c'', .int .i64 e]) ∧ Row .i64 R q A' c' w' ∧ Row .u8 S p A'' c'' w' ∧ Below w.heap.size w w' := by
  refine (takes_any A n c l many w hr hb hnc hn).mono ?_
  rintro e w' ⟨⟨v, v', rfl, hg, hg'⟩, hb⟩
  rw [h] at hg hg'
  obtain ⟨A', c', rfl, h'⟩ := hg.row rfl hq
  obtain ⟨A'', c'', rfl, h''⟩ := hg'.row rfl hp
  exact ⟨A', c', A'', c'', by rw [h], h', h'', hb⟩
end

end Go.Proofs.Ytbpinikldcakfaa
