/-
  The calls of crc in a form for regions that draw: 'all that lay when the law began lies as it lay' before, and behind. Pieces of a slice; min and max of two.
-/
import Derived.Test.YtnojphkfniimgaaDoorWakes
import Derived.Test.YtnojphkfniimgaaDoorCut
import Derived.Deep.RegionHeld3
namespace Go.Proofs.YtnojphkfniimgaaDoor
open Go.RowKit

/-- A sum gone on from. -/
def nextI (s : Int) (l : List Int) : Int := ((nextN s.toNat (natL l) : Nat) : Int)
theorem nextI_range (s : Int) (l : List Int) : 0 ≤ nextI s l ∧ nextI s l < 4294967296 := by
  have := nextN_lt s.toNat (natL l)
  unfold nextI
  omega
theorem nextI_append (s : Int) (l m : List Int) : nextI (nextI s l) m = nextI s (l ++ m) := by
  unfold nextI
  rw [natL_append, nextN_append, Int.toNat_natCast]
theorem sumI_next (l : List Int) : sumI l = nextI 0 l := rfl
theorem nextI_nil {s : Int} (hs : 0 ≤ s ∧ s < 4294967296) : nextI s [] = s := by
  unfold nextI
  rw [show natL [] = [] from rfl, nextN_nil (by omega)]
  omega

theorem Rds.held {w w0 : World} {t : TypeId} {ps : List Part} {g : Nat} (hg : g = w0.heap.size) (hS : Below w.heap.size w (w0.alloc (.cells (ps.map Part.v).toArray t))) (h : ∀ p ∈ ps, Rd w w.heap.size .u8 p.A p.n p.l ∧ Byt p.l ∧ p.n ≤ 140737488355328) :
    Rds (w0.alloc (.cells (ps.map Part.v).toArray t)) (w0.alloc (.cells (ps.map Part.v).toArray t)).heap.size (some ⟨g, 0, none⟩) ps.length ps where
  len := rfl
  row := fun _ => ⟨g, 0, rfl, by subst hg; simp, fun i hi => by
    subst hg
    rw [cell_of_row _ _ _ _ _ _ (World.alloc_heap_new w0 _)]
    simp [hi]⟩
  parts := fun p hp => ⟨(h p hp).1.on hS hS.size, (h p hp).2⟩

theorem next_held {w W : World} {s : Int} {A : Option Addr} {n c : Nat} {l : List Int} (hT : Tab w) (hS : Below w.heap.size w W) (hs : 0 ≤ s ∧ s < 4294967296) (hr : Rd w w.heap.size .u8 A n l) (hb : Byt l) (hn : n ≤ 140737488355328) :
    Calls Tryd.prog 11 #[.int .u32 s, .slice A n c] W fun e W' => e = .returned (.int .u32 (nextI s l)) ∧ Below w.heap.size w W' :=
  (next_c s A n c l W (hT.on hS) hs (hr.on hS hS.size) hb hn).mono fun e w' ⟨⟨x, he, hx⟩, hB⟩ => by
    have h1 := hx.1
    have h2 := hx.2
    rw [show nextI s l = x by unfold nextI; omega]
    exact ⟨he, hS.trans (hB.mono hS.size)⟩
theorem sum_held1 {w w0 : World} {g : Nat} {t : TypeId} {A : Option Addr} {n c : Nat} {l : List Int} (hg : g = w0.heap.size) (hT : Tab w) (hS : Below w.heap.size w (w0.alloc (.cells #[.slice A n c] t))) (hr : Rd w w.heap.size .u8 A n l) (hb : Byt l) (hn : n ≤ 140737488355328) :
    Calls Tryd.prog 18 #[.slice (some ⟨g, 0, none⟩) 1 1] (w0.alloc (.cells #[.slice A n c] t)) fun e W' => e = .returned (.int .u32 (sumI l)) ∧ Below w.heap.size w W' :=
  (sum_parts 1 (R := l) _ (hT.on hS) (Rds.held (ps := [⟨A, n, c, l⟩]) hg hS (fun q hq => by
    obtain rfl := List.mem_singleton.1 hq
    exact ⟨hr, hb, hn⟩)) (by simp) (by rw [flat_cons, flat_nil, List.append_nil])).mono fun _ _ ⟨he, hB⟩ => ⟨he, hS.trans (hB.mono hS.size)⟩
theorem sum_held3 {w w0 : World} {g : Nat} {t : TypeId} {A A' A'' : Option Addr} {n c n' c' n'' c'' : Nat} {l l' l'' : List Int} (hg : g = w0.heap.size) (hT : Tab w) (hS : Below w.heap.size w (w0.alloc (.cells #[.slice A n c, .slice A' n' c', .slice A'' n'' c''] t)))
    (hr : Rd w w.heap.size .u8 A n l) (hb : Byt l) (hn : n ≤ 140737488355328) (hr' : Rd w w.heap.size .u8 A' n' l') (hb' : Byt l') (hn' : n' ≤ 140737488355328) (hr'' : Rd w w.heap.size .u8 A'' n'' l'') (hb'' : Byt l'') (hn'' : n'' ≤ 140737488355328) :
    Calls Tryd.prog 18 #[.slice (some ⟨g, 0, none⟩) 3 3] (w0.alloc (.cells #[.slice A n c, .slice A' n' c', .slice A'' n'' c''] t)) fun e W' => e = .returned (.int .u32 (sumI (l ++ (l' ++ l'')))) ∧ Below w.heap.size w W' :=
  (sum_parts 3 (R := l ++ (l' ++ l'')) _ (hT.on hS) (Rds.held (ps := [⟨A, n, c, l⟩, ⟨A', n', c', l'⟩, ⟨A'', n'', c'', l''⟩]) hg hS (fun q hq => by
    rcases List.mem_cons.1 hq with rfl | hq
    · exact ⟨hr, hb, hn⟩
    · rcases List.mem_cons.1 hq with rfl | hq
      · exact ⟨hr', hb', hn'⟩
      · obtain rfl := List.mem_singleton.1 hq
        exact ⟨hr'', hb'', hn''⟩)) (by simp) (by rw [flat_cons, flat_cons, flat_cons, flat_nil, List.append_nil])).mono fun _ _ ⟨he, hB⟩ => ⟨he, hS.trans (hB.mono hS.size)⟩
theorem undrew {n : Nat} {w W : World} (h : Below n w W.drew) : Below n w W := ⟨h.os, h.tape, h.output, h.size, h.block⟩
theorem Tab.drew {w : World} (h : Tab w) : Tab w.drew := h.on (Below.refl _ w).drew
/-- .. where the draw came first. -/
theorem sum_held3d {w w0 : World} {g : Nat} {t : TypeId} {A A' A'' : Option Addr} {n c n' c' n'' c'' : Nat} {l l' l'' : List Int} (hg : g = w0.heap.size) (hT : Tab w) (hS : Below w.heap.size w (w0.alloc (.cells #[.slice A n c, .slice A' n' c', .slice A'' n'' c''] t)).drew)
    (hr : Rd w w.heap.size .u8 A n l) (hb : Byt l) (hn : n ≤ 140737488355328) (hr' : Rd w w.heap.size .u8 A' n' l') (hb' : Byt l') (hn' : n' ≤ 140737488355328) (hr'' : Rd w w.heap.size .u8 A'' n'' l'') (hb'' : Byt l'') (hn'' : n'' ≤ 140737488355328) :
    Calls Tryd.prog 18 #[.slice (some ⟨g, 0, none⟩) 3 3] (w0.alloc (.cells #[.slice A n c, .slice A' n' c', .slice A'' n'' c''] t)).drew fun e W' => e = .returned (.int .u32 (sumI (l ++ (l' ++ l'')))) ∧ Below w.heap.size w W' :=
  (sum_parts 3 (R := l ++ (l' ++ l'')) _ (hT.on hS) ((Rds.held (ps := [⟨A, n, c, l⟩, ⟨A', n', c', l'⟩, ⟨A'', n'', c'', l''⟩]) hg (undrew hS) (fun q hq => by
    rcases List.mem_cons.1 hq with rfl | hq
    · exact ⟨hr, hb, hn⟩
    · rcases List.mem_cons.1 hq with rfl | hq
      · exact ⟨hr', hb', hn'⟩
      · obtain rfl := List.mem_singleton.1 hq
        exact ⟨hr'', hb'', hn''⟩)).on (Below.refl _ _).drew (Nat.le_refl _)) (by simp) (by rw [flat_cons, flat_cons, flat_cons, flat_nil, List.append_nil])).mono fun _ _ ⟨he, hB⟩ => ⟨he, hS.trans (hB.mono hS.size)⟩
theorem wakes_held {w W : World} (hT : Tab w) (hS : Below w.heap.size w W) : Calls Tryd.prog 8 #[] W fun e W' => e = .returned (.bool true) ∧ Below w.heap.size w W' :=
  (wakes_any W (hT.on hS)).mono fun _ _ ⟨he, hB⟩ => ⟨he, hS.trans (hB.mono hS.size)⟩

end Go.Proofs.YtnojphkfniimgaaDoor
