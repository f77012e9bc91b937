/-
  Rows of the call's own whose elements hold slices of bytes of the call's own: what an append, a store elsewhere leaves of them.
-/
import Derived.Test.YtmfiopopiikbmaaRefC
import Derived.RangeFuncNested
import Derived.Deep.Onto
namespace Go.Proofs.Ytmfiopopiikbmaa
open Go.RowKit

theorem own_below {w w' : World} {base : Nat} {e : TypeId} {size : Nat} {v : Value} {n : Nat} {xs : List Value} (h : w.ownsRow base e size v n xs) (hb : Below w.heap.size w w') : w'.ownsRow base e size v n xs := by
  refine ⟨h.1, ?_⟩
  rcases h.2 with a | ⟨g, cap, cur, e1, hbg, hh, r⟩
  · exact .inl a
  · exact .inr ⟨g, cap, cur, e1, hbg, (hb.block g (Array.getElem?_eq_some_iff.1 hh).1).trans hh, r⟩
/-- The bytes lie in a block from lo on, and not in g. -/
def Byts.Off (lo : Nat) (g : Option Nat) (p : Byts) : Prop := 0 < p.n → ∀ a, p.A = some a → lo ≤ a.block ∧ some a.block ≠ g
theorem Rd.grown {w w' : World} {B n : Nat} {A : Option Addr} {l : List Int} {row : Option Nat} (h : Rd w B .u8 A n l) (hg : w.grownBy w' row) (hB : B ≤ w.heap.size) (hne : 0 < n → ∀ a, A = some a → some a.block ≠ row) : Rd w' B .u8 A n l :=
  ⟨h.1, fun hn => by
    obtain ⟨b, off, e, hb, hc⟩ := h.2 hn
    refine ⟨b, off, e, hb, fun i hi => ?_⟩
    exact (World.cell?_of_block (a := ⟨b, off + i, none⟩) (hg.block b (by omega) (hne hn _ e))).trans (hc i hi)⟩
theorem Byts.Ok.grown {w w' : World} {p : Byts} {row : Option Nat} {lo : Nat} (h : p.Ok w w.heap.size) (hg : w.grownBy w' row) (ho : p.Off lo row) : p.Ok w' w'.heap.size :=
  ⟨(h.rd.grown hg (Nat.le_refl _) (fun hn a e => (ho hn a e).2)).more hg.size, h.byt, h.room⟩

/-- A row of the call's own, of n elements xs, of which each one's bytes (by) lie in blocks of the call's own, too. -/
structure Mine {α : Type} (m : Nat) (cs : α → List Value) (by_ : α → Byts) (e : TypeId) (lo : Nat) (w : World) (v : Value) (n : Nat) (xs : List α) : Prop where
  own : w.ownsRow lo e m v n (xs.flatMap cs)
  len : xs.length = n
  ok : ∀ x ∈ xs, (by_ x).Ok w w.heap.size ∧ (by_ x).Off lo v.ownBlock
section
variable {α : Type} {m : Nat} {cs : α → List Value} {by_ : α → Byts} {e : TypeId} {lo : Nat} {w w' : World} {v v' : Value} {n : Nat} {xs : List α}
theorem Mine.nil : Mine m cs by_ e lo w (.slice none 0 0) 0 [] := ⟨World.ownsRow_nil _ _ _ _, rfl, fun _ h => by cases h⟩
theorem Mine.below (h : Mine m cs by_ e lo w v n xs) (hb : Below w.heap.size w w') : Mine m cs by_ e lo w' v n xs :=
  ⟨own_below h.own hb, h.len, fun x hx => ⟨(h.ok x hx).1.on hb hb.size, (h.ok x hx).2⟩⟩
/-- Behind an append of one element whose bytes lie in a block from lo on, and not in the row's. -/
theorem Mine.push {x : α} (h : Mine m cs by_ e lo w v n xs) (hx : (by_ x).Ok w w.heap.size) (ho : (by_ x).Off lo v.ownBlock) (hL : Longer lo e m w v (n + 1) (xs.flatMap cs ++ cs x) v' w') : Mine m cs by_ e lo w' v' (n + 1) (xs ++ [x]) := by
  have hoff : ∀ y ∈ xs ++ [x], (by_ y).Ok w w.heap.size ∧ (by_ y).Off lo v.ownBlock := fun y hy => by
    rcases List.mem_append.1 hy with hy | hy
    · exact h.ok y hy
    · obtain rfl := List.mem_singleton.1 hy
      exact ⟨hx, ho⟩
  refine ⟨by rw [List.flatMap_append]; simpa using hL.1, by simp [h.len], fun y hy => ?_⟩
  obtain ⟨h1, h2⟩ := hoff y hy
  refine ⟨h1.grown hL.2.1 h2, fun hn0 a ha => ⟨(h2 hn0 a ha).1, ?_⟩⟩
  rcases hL.2.2 with e1 | e1
  · rw [e1]; exact (h2 hn0 a ha).2
  · rw [e1]
    intro he
    have hb := Option.some.inj he
    obtain ⟨b, off, e2, hlt, _⟩ := h1.rd.2 hn0
    rw [ha] at e2
    cases e2
    simp only at hb
    omega
/-- Behind a store below lo. -/
theorem Mine.set {b i : Nat} {u : Value} (h : Mine m cs by_ e lo w v n xs) (hb : b < lo) : Mine m cs by_ e lo (w.setCell ⟨b, i, none⟩ u) v n xs := by
  have hg : w.grownBy (w.setCell ⟨b, i, none⟩ u) (some b) := ⟨rfl, rfl, rfl, (KeepsWalks.setCell w _ u).size, fun k _ hk => Below.heap_setCell _ _ _ k (fun e => hk (by rw [e]))⟩
  refine ⟨h.own.kept hg ?_, h.len, fun x hx => ?_⟩
  · cases hv : v.ownBlock with
    | none => exact .inl rfl
    | some g =>
      right
      have := (h.own.lt g hv).1
      intro e1
      have := Option.some.inj e1
      omega
  · obtain ⟨h1, h2⟩ := h.ok x hx
    refine ⟨h1.grown hg (lo := lo) (fun hn a ha => ⟨(h2 hn a ha).1, fun e1 => ?_⟩), h2⟩
    have h3 := (h2 hn a ha).1
    have := Option.some.inj e1
    omega
end

/-- All blocks from lo on lie as they lay. -/
def Kept (lo : Nat) (w w' : World) : Prop := w.heap.size ≤ w'.heap.size ∧ ∀ b, lo ≤ b → b < w.heap.size → w'.heap[b]? = w.heap[b]?
theorem Kept.refl (lo : Nat) (w : World) : Kept lo w w := ⟨Nat.le_refl _, fun _ _ _ => rfl⟩
theorem Kept.trans {lo : Nat} {a b c : World} (h : Kept lo a b) (k : Kept lo b c) : Kept lo a c :=
  ⟨Nat.le_trans h.1 k.1, fun x h1 h2 => (k.2 x h1 (Nat.lt_of_lt_of_le h2 h.1)).trans (h.2 x h1 h2)⟩
theorem Kept.set {lo b i : Nat} {w w' : World} (h : Kept lo w w') (hb : b < lo) (u : Value) : Kept lo w (w'.setCell ⟨b, i, none⟩ u) :=
  h.trans ⟨(KeepsWalks.setCell w' _ u).size, fun k hk _ => Below.heap_setCell _ _ _ k (by simp only; omega)⟩
theorem Kept.below {lo : Nat} {w w' w'' : World} (h : Kept lo w w') (hb : Below w'.heap.size w' w'') : Kept lo w w'' := h.trans ⟨hb.size, fun b _ h2 => hb.block b h2⟩
theorem Mine.kept {α : Type} {m : Nat} {cs : α → List Value} {by_ : α → Byts} {e : TypeId} {lo : Nat} {w w' : World} {v : Value} {n : Nat} {xs : List α} (h : Mine m cs by_ e lo w v n xs) (hk : Kept lo w w') : Mine m cs by_ e lo w' v n xs := by
  refine ⟨⟨h.own.1, ?_⟩, h.len, fun x hx => ⟨⟨⟨(h.ok x hx).1.rd.1, fun hn => ?_⟩, (h.ok x hx).1.byt, (h.ok x hx).1.room⟩, (h.ok x hx).2⟩⟩
  · rcases h.own.2 with a | ⟨g, cap, cur, e1, hbg, hh, r⟩
    · exact .inl a
    · exact .inr ⟨g, cap, cur, e1, hbg, (hk.2 g hbg (Array.getElem?_eq_some_iff.1 hh).1).trans hh, r⟩
  · obtain ⟨b, off, e1, hb, hc⟩ := (h.ok x hx).1.rd.2 hn
    have h1 := ((h.ok x hx).2 hn _ e1).1
    exact ⟨b, off, e1, Nat.lt_of_lt_of_le hb hk.1, fun i hi => (World.cell?_of_block (a := ⟨b, off + i, none⟩) (hk.2 b h1 hb)).trans (hc i hi)⟩
theorem Mine.mono {α : Type} {m : Nat} {cs : α → List Value} {by_ : α → Byts} {e : TypeId} {lo lo' : Nat} {w : World} {v : Value} {n : Nat} {xs : List α} (h : Mine m cs by_ e lo w v n xs) (hl : lo' ≤ lo) : Mine m cs by_ e lo' w v n xs :=
  ⟨h.own.mono hl, h.len, fun x hx => ⟨(h.ok x hx).1, fun hn a ha => ⟨Nat.le_trans hl ((h.ok x hx).2 hn a ha).1, ((h.ok x hx).2 hn a ha).2⟩⟩⟩
theorem hold {p : Prop} (h : Hid p) : p := h
theorem unhold {p : Prop} (h : p) : Hid p := h
theorem Mine.fs {e : TypeId} {lo : Nat} {w : World} {A : Option Addr} {n c : Nat} {fs : List FileM} (h : Mine 2 FileM.cs FileM.p e lo w (.slice A n c) n fs) : Fs w w.heap.size A n fs :=
  ⟨Row.of_own (by omega) FileM.len h.own, fun f hf => (h.ok f hf).1⟩
theorem Mine.os {e : TypeId} {lo : Nat} {w : World} {A : Option Addr} {n c : Nat} {os : List OpM} (h : Mine 4 OpM.cs OpM.p e lo w (.slice A n c) n os) (hk : ∀ o ∈ os, 0 ≤ o.kind ∧ o.kind ≤ 255) : Os w w.heap.size A n os :=
  ⟨Row.of_own (by omega) OpM.len h.own, fun o ho => ⟨(h.ok o ho).1, hk o ho⟩⟩

end Go.Proofs.Ytmfiopopiikbmaa
