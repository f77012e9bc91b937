/-
  A disk's box: what stores into it make of it, and leave of all else.
-/
import Derived.Test.YtmfiopopiikbmaaRight
namespace Go.Proofs.Ytmfiopopiikbmaa
open Go.RowKit

/-- Block z holds five cells. -/
def Box5 (W : World) (z : Nat) (t : TypeId) (a b c d e : Value) : Prop := W.heap[z]? = some (.cells #[a, b, c, d, e] t (0, 0))
theorem heap_set {W : World} {z i : Nat} {t : TypeId} {cs : Array Value} {fz : Nat × Nat} (h : W.heap[z]? = some (.cells cs t fz)) (v : Value) : (W.setCell ⟨z, i, none⟩ v).heap[z]? = some (.cells (cs.setIfInBounds i v) t fz) := by
  obtain ⟨hlt, hk⟩ := Array.getElem?_eq_some_iff.1 h
  show (W.heap.modify z _)[z]? = _
  rw [Array.getElem?_eq_getElem (by rw [Array.size_modify]; exact hlt), Array.getElem_modify_self, hk]
  rfl
section
variable {W : World} {z : Nat} {t : TypeId} {a b c d e : Value}
theorem Box5.s0 (h : Box5 W z t a b c d e) (v : Value) : Box5 (W.setCell ⟨z, 0, none⟩ v) z t v b c d e := heap_set h v
theorem Box5.s1 (h : Box5 W z t a b c d e) (v : Value) : Box5 (W.setCell ⟨z, 1, none⟩ v) z t a v c d e := heap_set h v
theorem Box5.s2 (h : Box5 W z t a b c d e) (v : Value) : Box5 (W.setCell ⟨z, 2, none⟩ v) z t a b v d e := heap_set h v
theorem Box5.s3 (h : Box5 W z t a b c d e) (v : Value) : Box5 (W.setCell ⟨z, 3, none⟩ v) z t a b c v e := heap_set h v
theorem Box5.s4 (h : Box5 W z t a b c d e) (v : Value) : Box5 (W.setCell ⟨z, 4, none⟩ v) z t a b c d v := heap_set h v
theorem Box5.other {y i : Nat} (h : Box5 W z t a b c d e) (hne : z ≠ y) (v : Value) : Box5 (W.setCell ⟨y, i, none⟩ v) z t a b c d e :=
  (Below.heap_setCell _ _ _ z (by simpa using hne)).trans h
theorem Box5.below {W' : World} (h : Box5 W z t a b c d e) (hb : Below W.heap.size W W') : Box5 W' z t a b c d e := (hb.block z (Array.getElem?_eq_some_iff.1 h).1).trans h
theorem Box5.lt (h : Box5 W z t a b c d e) : z < W.heap.size := (Array.getElem?_eq_some_iff.1 h).1
end
/-- The five stores of a whole disk. -/
def put5 (W : World) (z : Nat) (a b c d e : Value) : World := ((((W.setCell ⟨z, 0, none⟩ a).setCell ⟨z, 1, none⟩ b).setCell ⟨z, 2, none⟩ c).setCell ⟨z, 3, none⟩ d).setCell ⟨z, 4, none⟩ e
theorem put5_box {W : World} {z : Nat} {t : TypeId} {a b c d e : Value} (h : Box5 W z t a b c d e) (a' b' c' d' e' : Value) : Box5 (put5 W z a' b' c' d' e') z t a' b' c' d' e' := ((((h.s0 a').s1 b').s2 c').s3 d').s4 e'
theorem put5_other {W : World} {z y : Nat} {t : TypeId} {a b c d e : Value} (h : Box5 W z t a b c d e) (hne : z ≠ y) (a' b' c' d' e' : Value) : Box5 (put5 W y a' b' c' d' e') z t a b c d e := ((((h.other hne a').other hne b').other hne c').other hne d').other hne e'
theorem put5_below {n : Nat} {w W : World} {z : Nat} (h : Below n w W) (hz : n ≤ z) (a b c d e : Value) : Below n w (put5 W z a b c d e) :=
  ((((h.setCell (p := ⟨z, 0, none⟩) hz a).setCell (p := ⟨z, 1, none⟩) hz b).setCell (p := ⟨z, 2, none⟩) hz c).setCell (p := ⟨z, 3, none⟩) hz d).setCell (p := ⟨z, 4, none⟩) hz e
theorem put5_kept {lo : Nat} {w W : World} {z : Nat} (h : Kept lo w W) (hz : z < lo) (a b c d e : Value) : Kept lo w (put5 W z a b c d e) := ((((h.set hz a).set hz b).set hz c).set hz d).set hz e
theorem put5_size (W : World) (z : Nat) (a b c d e : Value) : (put5 W z a b c d e).heap.size = W.heap.size := by simp [put5]

/-- No text, no byte lies in block z. -/
def NoData (W : World) (z : Nat) : Prop := ∀ x v, W.cell? ⟨z, x, none⟩ = some v → (∀ s, v ≠ .string s) ∧ ∀ n, v ≠ .int .u8 n
theorem Box5.noData {W : World} {z : Nat} {t : TypeId} {A B : Option Addr} {n c m k : Nat} {q u : Int} {dd : Bool} (h : Box5 W z t (.slice A n c) (.slice B m k) (.int .i64 q) (.int .i64 u) (.bool dd)) : NoData W z := by
  intro x v hv
  rw [cell_of_row _ _ _ _ _ _ h] at hv
  have hx : x < 5 := by
    have := (Array.getElem?_eq_some_iff.1 hv).1
    simpa using this
  rcases (by omega : x = 0 ∨ x = 1 ∨ x = 2 ∨ x = 3 ∨ x = 4) with rfl | rfl | rfl | rfl | rfl
  all_goals
    simp at hv
    subst hv
    exact ⟨fun s e => (by cases e), fun n e => (by cases e)⟩
section
variable {W : World} {z i : Nat} {v : Value}
theorem cell_set_other {b x : Nat} (hne : b ≠ z) : (W.setCell ⟨z, i, none⟩ v).cell? ⟨b, x, none⟩ = W.cell? ⟨b, x, none⟩ :=
  World.cell?_of_block (a := ⟨b, x, none⟩) (Below.heap_setCell _ _ _ b (by simpa using hne))
theorem Rd.apart {B n : Nat} {A : Option Addr} {l : List Int} (h : Rd W B .u8 A n l) (hz : NoData W z) : Rd (W.setCell ⟨z, i, none⟩ v) B .u8 A n l :=
  ⟨h.1, fun hn => by
    obtain ⟨b, off, e, hb, hc⟩ := h.2 hn
    have hne : b ≠ z := fun e1 => by
      subst e1
      exact (hz _ _ (hc 0 hn)).2 _ rfl
    exact ⟨b, off, e, hb, fun x hx => (cell_set_other hne).trans (hc x hx)⟩⟩
theorem Byts.Ok.apart {B : Nat} {p : Byts} (h : p.Ok W B) (hz : NoData W z) : p.Ok (W.setCell ⟨z, i, none⟩ v) B := ⟨h.rd.apart hz, h.byt, h.room⟩
theorem Fs.apart {B n : Nat} {A : Option Addr} {fs : List FileM} (h : Fs W B A n fs) (hz : NoData W z) : Fs (W.setCell ⟨z, i, none⟩ v) B A n fs := by
  refine ⟨⟨h.row.1, fun hn => ?_⟩, fun f hf => (h.ok f hf).apart hz⟩
  obtain ⟨b, off, e, hb, hc⟩ := h.row.2 hn
  have hl : 0 < fs.length := by rw [h.row.1]; exact hn
  have hne : b ≠ z := fun e1 => by
    subst e1
    have h1 := hc 0 _ (List.getElem?_eq_getElem hl) 0 (by omega)
    exact (hz _ _ h1).1 _ rfl
  exact ⟨b, off, e, hb, fun j x hx q hq => (cell_set_other hne).trans (hc j x hx q hq)⟩
theorem Os.apart {B n : Nat} {A : Option Addr} {os : List OpM} (h : Os W B A n os) (hz : NoData W z) : Os (W.setCell ⟨z, i, none⟩ v) B A n os := by
  refine ⟨⟨h.row.1, fun hn => ?_⟩, fun f hf => ⟨(h.ok f hf).1.apart hz, (h.ok f hf).2⟩⟩
  obtain ⟨b, off, e, hb, hc⟩ := h.row.2 hn
  have hl : 0 < os.length := by rw [h.row.1]; exact hn
  have hne : b ≠ z := fun e1 => by
    subst e1
    have h1 := hc 0 _ (List.getElem?_eq_getElem hl) 1 (by omega)
    exact (hz _ _ h1).1 _ rfl
  exact ⟨b, off, e, hb, fun j x hx q hq => (cell_set_other hne).trans (hc j x hx q hq)⟩
theorem DAt.apart {d : DiskP} {A : Option Addr} {n c : Nat} {B : Option Addr} {m k : Nat} (h : DAt W d A n c B m k) (hz : NoData W z) : DAt (W.setCell ⟨z, i, none⟩ v) d A n c B m k := by
  obtain ⟨fs, hf, h1⟩ := h.files
  obtain ⟨os, ho, h2⟩ := h.queue
  have hsz : (W.setCell ⟨z, i, none⟩ v).heap.size = W.heap.size := by simp
  exact ⟨h.nc, h.oc, ⟨fs, by rw [hsz]; exact hf.apart hz, h1⟩, ⟨os, by rw [hsz]; exact ho.apart hz, h2⟩⟩
end
/-- A disk lies on behind the five stores into a disk's box. -/
theorem DAt.put5 {W : World} {z : Nat} {t : TypeId} {A B : Option Addr} {n c m k : Nat} {q u : Int} {dd : Bool} {A' B' : Option Addr} {n' c' m' k' : Nat} {q' u' : Int} {dd' : Bool} {d : DiskP} {A'' : Option Addr} {n'' c'' : Nat} {B'' : Option Addr} {m'' k'' : Nat}
    (hb : Box5 W z t (.slice A n c) (.slice B m k) (.int .i64 q) (.int .i64 u) (.bool dd)) (h : DAt W d A'' n'' c'' B'' m'' k'') :
    DAt (Go.Proofs.Ytmfiopopiikbmaa.put5 W z (.slice A' n' c') (.slice B' m' k') (.int .i64 q') (.int .i64 u') (.bool dd')) d A'' n'' c'' B'' m'' k'' :=
  ((((h.apart hb.noData).apart (hb.s0 _).noData).apart ((hb.s0 _).s1 _).noData).apart (((hb.s0 _).s1 _).s2 _).noData).apart ((((hb.s0 _).s1 _).s2 _).s3 _).noData

end Go.Proofs.Ytmfiopopiikbmaa
