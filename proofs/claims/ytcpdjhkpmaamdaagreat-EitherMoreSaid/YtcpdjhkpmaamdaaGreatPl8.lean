/-
  Answers told piece by piece; appends onto rows that are made empty; what wakes asks.
-/
import Derived.Test.YtcpdjhkpmaamdaaGreatEq8
namespace Go.Proofs.YtcpdjhkpmaamdaaGreat
open Go.RowKit
set_option linter.unusedVariables false

theorem ScnT.yes {w w' : World} {b r : List Int} {e : Ending} {f : Int} {cs : List (List EnP)} {q u : Nat} (h : ScnT w b e w') (hs : ScanIs b f cs r) (hq : cs.flatten.length = q) (hu : (headLTw f ++ blksL (headE f) cs).length = u) :
    ∃ A c, e = .returned (.tuple #[.agg #[.int .i64 f, .slice A q c, .int .i64 (u : Nat)], .int .i64 0]) ∧ q ≤ c ∧ Es w' w'.heap.size A q cs.flatten ∧ Below w.heap.size w w' := by
  obtain ⟨g, A, n, c, v, x, y, er, rfl, hA, hb⟩ := h
  rcases hA with ⟨rfl, ds, s, h1, h2, h3, h4, h5, h6⟩ | ⟨_, h1, _⟩
  · obtain ⟨rfl, rfl, rfl⟩ := scan_same hs h1
    subst hq hu h2 h3
    exact ⟨A, c, rfl, h4, h5, hb⟩
  · exact absurd hs.head (h1 f)
theorem ScnT.no {w w' : World} {b : List Int} {e : Ending} (h : ScnT w b e w') (hs : ∀ f, ¬ HeadAt b f) :
    e = .returned (.tuple #[.agg #[.int .i64 0, .slice none 0 0, .int .i64 0], .int .i64 11]) ∧ Below w.heap.size w w' := by
  obtain ⟨g, A, n, c, v, x, y, er, rfl, hA, hb⟩ := h
  rcases hA with ⟨rfl, ds, s, h1, h2, h3, h4, h5, h6⟩ | ⟨rfl, h1, rfl, rfl, rfl, rfl, rfl, _⟩
  · exact absurd h1.head (hs g)
  · exact ⟨rfl, hb⟩
theorem TelTw.out {w w' : World} {R : List Int × Int} {L : List Int} {er : Int} {q : Nat} {e : Ending} (h : TelTw w R e w') (hR : R = (L, er)) (hq : L.length = q) :
    ∃ A c, e = .returned (.tuple #[.slice A q c, .int .i64 er]) ∧ q ≤ c ∧ Rd w' w'.heap.size .u8 A q L ∧ w'.ownsRow w.heap.size 5 1 (.slice A q c) q (L.map (Value.int .u8)) ∧ Below w.heap.size w w' := by
  subst hR hq
  obtain ⟨⟨A, c, rfl, hc, ho⟩, hb⟩ := h
  exact ⟨A, c, rfl, hc, Rd.of_own ho, ho, hb⟩
theorem TelR.out {w w' : World} {L : List Int} {er : Int} {q : Nat} {e : Ending} (h : TelR w L er e w') (hq : L.length = q) :
    ∃ A c, e = .returned (.tuple #[.slice A q c, .int .i64 er]) ∧ Rd w' w'.heap.size .u8 A q L ∧ Below w.heap.size w w' := by
  subst hq
  obtain ⟨⟨A, c, n, rfl, rfl, ho⟩, hb⟩ := h
  exact ⟨A, c, rfl, ho, hb⟩
theorem PutIs.yes {p : Int × Int} {l : List EnP} {L : List Int} {er : Int} (h : PutIs p l L er) (ha : allR l = true) : L = blksL p (chunks 4 l) ∧ er = 0 := by
  rcases h with ⟨_, h1, h2⟩ | ⟨h, _⟩
  · exact ⟨h1, h2⟩
  · rw [ha] at h; cases h
theorem MoreIs.yes {b : List Int} {l : List EnP} {L : List Int} {er : Int} {z : Int × Int} (h : MoreIs b l L er) (hz : EndIs b z) (ha : allR l = true) : L = blksL z (chunks 4 l) ∧ er = 0 := by
  rcases h with ⟨z', h1, h2⟩ | ⟨h, _⟩
  · rw [hz.same h1]; exact h2.yes ha
  · exact absurd hz (h z)
theorem MoreIs.no {b : List Int} {l : List EnP} {L : List Int} {er : Int} (h : MoreIs b l L er) (hz : ∀ z, ¬ EndIs b z) : L = [] ∧ er = 11 := by
  rcases h with ⟨z', h1, h2⟩ | ⟨_, h⟩
  · exact absurd h1 (hz z')
  · exact h
theorem fileP_yes {f : Int} {l : List EnP} (hf : Num f) (ha : allR l = true) : filePTw f l = (headLTw f ++ blksL (headE f) (chunks 4 l), 0) := if_pos ⟨hf, ha⟩
theorem file_byt {f : Int} {cs : List (List EnP)} (hf : Num f) (hg : Good cs) : Byt (headLTw f ++ blksL (headE f) cs) := (head_byt hf).append (blks_byt (headE_in f) hg)
/-- All of it is used. -/
theorem file_scan {f : Int} {cs : List (List EnP)} (hf : Num f) (hg : Good cs) : ScanIs (headLTw f ++ blksL (headE f) cs) f cs [] := by
  have h := scan_of (r := []) hf hg (noBlock_nil _)
  rwa [List.append_nil] at h
theorem file_end {f : Int} {cs : List (List EnP)} (hf : Num f) (hg : Good cs) : EndIs (headLTw f ++ blksL (headE f) cs) (blksE (headE f) cs) := ⟨f, cs, file_scan hf hg, rfl⟩
theorem not_end {b r : List Int} {f : Int} {cs : List (List EnP)} (h : ScanIs b f cs r) (hr : r ≠ []) : ∀ z, ¬ EndIs b z := by
  rintro z ⟨g, ds, h1, _⟩
  exact hr (scan_same h h1).2.2
theorem no_nine (p : Int × Int) : NoBlock p [9] := by
  rintro l ⟨_, r, e⟩
  have := congrArg List.length e
  rw [List.length_append, block_length] at this
  simp at this
  omega
/-- Rows of entries that a literal makes. -/
theorem Es.made (w : World) (l : List EnP) {g : Nat} (hg : g = w.heap.size) (t : TypeId) : Es (w.alloc (.cells (l.flatMap EnP.cs).toArray t)) (w.alloc (.cells (l.flatMap EnP.cs).toArray t)).heap.size (some ⟨g, 0, none⟩) l.length l := by
  subst hg
  refine ⟨rfl, fun _ => ⟨w.heap.size, 0, rfl, by simp, fun i x hi j hj => ?_⟩⟩
  rw [cell_of_row _ _ _ _ _ _ (World.alloc_heap_new w _)]
  simp only [List.getElem?_toArray, Nat.zero_add]
  rw [flat_get EnP.cs (by omega) EnP.len, show (i * 3 + j) / 3 = i by omega, show (i * 3 + j) % 3 = j by omega, hi]
  rfl

def wk1 : EnP := ⟨1, 0, 0⟩
def wk2 : EnP := ⟨2, 1, 7⟩
def wk3 : EnP := ⟨3, 0, 0⟩
theorem wk_right : allR [wk1, wk2] = true ∧ allR [wk3] = true := by
  refine ⟨?_, ?_⟩ <;> (simp [allR, rightB, RightP, wk1, wk2, wk3])
theorem num_300 : Num 300 := by unfold Num; omega
theorem num_1 : Num 1 := by unfold Num; omega
theorem head_one : headLTw 1 = [2, 1] := by kernel_rfl
theorem chunks_small {α : Type} {l : List α} (h1 : l ≠ []) (h2 : l.length ≤ 4) : chunks 4 l = [l] := by
  rw [chunks_cons h1 (by omega), List.take_of_length_le h2, List.drop_of_length_le h2, chunks_nil]
/-- What wakes asks of the bytes. -/
theorem wake_bytes : ∃ (B L : List Int) (q m : Nat), filePTw 300 [wk1, wk2] = (B, 0) ∧ B.length = q ∧ L.length = m ∧ q ≤ 1000 ∧ m ≤ 1000 ∧ Byt B ∧ Byt L ∧
    (∃ z, EndIs B z ∧ L = blksL z (chunks 4 [wk3])) ∧ (∃ cs, cs.flatten = [wk1, wk2] ∧ ScanIs (B ++ [9]) 300 cs [9] ∧ (headLTw 300 ++ blksL (headE 300) cs).length = q) ∧
    (∃ cs, cs.flatten = [wk1, wk2, wk3] ∧ ScanIs (B ++ L) 300 cs [] ∧ (headLTw 300 ++ blksL (headE 300) cs).length = q + m) := by
  obtain ⟨ha, hb⟩ := wk_right
  have hc1 : chunks 4 [wk1, wk2] = [[wk1, wk2]] := chunks_small (by simp) (by simp)
  have hc3 : chunks 4 [wk3] = [[wk3]] := chunks_small (by simp) (by simp)
  have g1 : Good [[wk1, wk2]] := by rw [← hc1]; exact chunks_good ha
  have g3 : Good [[wk3]] := by rw [← hc3]; exact chunks_good hb
  have hh := head_length num_300
  have l1 := blks_le (p := headE 300) g1
  have l3 := blks_le (p := blksE (headE 300) [[wk1, wk2]]) g3
  simp only [List.length_cons, List.length_nil] at l1 l3
  refine ⟨headLTw 300 ++ blksL (headE 300) [[wk1, wk2]], blksL (blksE (headE 300) [[wk1, wk2]]) [[wk3]], _, _, by rw [fileP_yes num_300 ha, hc1], rfl, rfl, by rw [List.length_append]; omega, by omega, file_byt num_300 g1, blks_byt (blksE_in (headE_in _) _) g3,
    ⟨_, file_end num_300 g1, by rw [hc3]⟩, ⟨[[wk1, wk2]], rfl, scan_of num_300 g1 (no_nine _), rfl⟩, ⟨[[wk1, wk2]] ++ [[wk3]], rfl, ?_, ?_⟩⟩
  · rw [List.append_assoc, ← blksL_append]
    exact file_scan num_300 (g1.append g3)
  · rw [blksL_append, ← List.append_assoc, List.length_append]
theorem wake_none : ∀ f, ¬ HeadAt [1, 1] f := by
  rintro f ⟨_, r, e⟩
  simp [headLTw] at e


theorem Source.rd {w : World} {B n : Nat} {A : Option Addr} {l : List Int} (h : Rd w B .u8 A n l) : Source w 1 A n (l.map (Value.int .u8)) := by
  refine ⟨by rw [List.length_map, h.1, Nat.mul_one], fun u hu => by obtain ⟨x, _, rfl⟩ := List.mem_map.1 hu; rfl, ?_⟩
  by_cases hn : n = 0
  · subst hn
    rcases A with _ | a
    · exact .inl ⟨rfl, rfl⟩
    · refine .inr ⟨a, rfl, fun j u hj => ?_⟩
      have := (List.getElem?_eq_some_iff.1 hj).1
      rw [List.length_map, h.1] at this
      omega
  · obtain ⟨b, off, e, _, _⟩ := h.2 (by omega)
    subst e
    exact .inr ⟨_, rfl, h.cells⟩
theorem Source.es {w : World} {B n : Nat} {A : Option Addr} {l : List EnP} (h : Es w B A n l) : Source w 3 A n (l.flatMap EnP.cs) := Row.source (by decide) EnP.len EnP.one h
section
variable {W w w' : World} {B base : Nat} {e : TypeId} {size n m c : Nat} {A : Option Addr} {xs ys : List Value} {v' : Value}
theorem Longer.made (h : Longer W.heap.size e size (W.alloc (.cells #[] e)) (.slice (some ⟨W.heap.size, 0, none⟩) 0 0) (0 + n) ([] ++ xs) v' w') :
    ∃ A c, v' = .slice A n c ∧ n ≤ c ∧ w'.ownsRow W.heap.size e size (.slice A n c) n xs ∧ Below W.heap.size W w' ∧ (∀ g, (Value.slice A n c).ownBlock = some g → W.heap.size ≤ g) := by
  have hB := h.below (B := W.heap.size) ((Below.refl _ W).alloc (Nat.le_refl _) _) (by simp) (fun g hg => by simp [Value.ownBlock] at hg; omega)
  have hN := h.new (B := W.heap.size) (fun g hg => by simp [Value.ownBlock] at hg; omega) (by simp)
  have ho := h.1
  rw [Nat.zero_add, List.nil_append] at ho
  obtain ⟨A, c, rfl, hc⟩ := own_slice ho
  exact ⟨A, c, rfl, hc, ho, hB, hN⟩
theorem Longer.madeG {g : Nat} (h : Longer W.heap.size e size (W.alloc (.cells #[] e)) (.slice (some ⟨g, 0, none⟩) 0 0) (0 + n) ([] ++ xs) v' w') (hg : g = W.heap.size) :
    ∃ A c, v' = .slice A n c ∧ n ≤ c ∧ w'.ownsRow W.heap.size e size (.slice A n c) n xs ∧ Below W.heap.size W w' ∧ (∀ g, (Value.slice A n c).ownBlock = some g → W.heap.size ≤ g) := by
  subst hg
  exact h.made
theorem Longer.more (hB : Below B W w) (hb : B ≤ w.heap.size) (hv : ∀ g, (Value.slice A n c).ownBlock = some g → B ≤ g) (h : Longer base e size w (.slice A n c) (n + m) (xs ++ ys) v' w') :
    ∃ A' c', v' = .slice A' (n + m) c' ∧ n + m ≤ c' ∧ w'.ownsRow base e size (.slice A' (n + m) c') (n + m) (xs ++ ys) ∧ Below B W w' ∧ (∀ g, (Value.slice A' (n + m) c').ownBlock = some g → B ≤ g) := by
  have hB' := h.below hB hb hv
  have hN := h.new hv hb
  have ho := h.1
  obtain ⟨A', c', rfl, hc⟩ := own_slice ho
  exact ⟨A', c', rfl, hc, ho, hB', hN⟩
end
theorem own_bytes {w : World} {base n m c : Nat} {e : TypeId} {A : Option Addr} {l k : List Int} (h : w.ownsRow base e 1 (.slice A n c) n (l.map (Value.int .u8) ++ k.map (Value.int .u8))) : Rd w w.heap.size .u8 A n (l ++ k) := by
  rw [← List.map_append] at h
  exact Rd.of_own h
theorem own_ents {w : World} {base n c : Nat} {e : TypeId} {A : Option Addr} {l k : List EnP} (h : w.ownsRow base e 3 (.slice A n c) n (l.flatMap EnP.cs ++ k.flatMap EnP.cs)) : Es w w.heap.size A n (l ++ k) := by
  rw [← List.flatMap_append] at h
  exact Row.of_own (by decide) EnP.len h
end Go.Proofs.YtcpdjhkpmaamdaaGreat
