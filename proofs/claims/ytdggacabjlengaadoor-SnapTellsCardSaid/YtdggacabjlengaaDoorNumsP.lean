/-
  What numbers stand at a snapshot's places, plainly.
-/
import Derived.Test.YtdggacabjlengaaDoorSnapS
namespace Go.Proofs.YtdggacabjlengaaDoor
open Go.RowKit
set_option linter.unusedVariables false

/-- What Take answers. -/
def TakeT (b : List Int) (f : Int) (w : World) (e : Ending) (w' : World) : Prop :=
  (∃ s er, TakeIs b f s er ∧ e = .returned (.tuple #[s.v, .int .i64 er])) ∧ Below w.heap.size w w'
/-- What Again's answer is; it is one. -/
def AgainIs (b : List Int) (f t : Int) (R : List Int × Int) : Prop := ∃ s er, TakeIs b f s er ∧ ((er ≠ 0 ∧ R = ([], er)) ∨ (er = 0 ∧ R = putP s t))
def AgainT (b : List Int) (f t : Int) (w : World) (e : Ending) (w' : World) : Prop := ∃ R, AgainIs b f t R ∧ Told w R e w'
theorem AgainIs.same {b : List Int} {f t : Int} {R S : List Int × Int} (h : AgainIs b f t R) (h' : AgainIs b f t S) : R = S := by
  obtain ⟨s, er, hs, h⟩ := h
  obtain ⟨s', er', hs', h'⟩ := h'
  obtain ⟨rfl, rfl⟩ := hs.same hs'
  rcases h with ⟨h0, rfl⟩ | ⟨h0, rfl⟩ <;> rcases h' with ⟨h1, rfl⟩ | ⟨h1, rfl⟩
  · rfl
  · exact absurd h1 h0
  · exact absurd h0 h1
  · rfl
theorem AgainIs.byt {b : List Int} {f t : Int} {R : List Int × Int} (h : AgainIs b f t R) : Byt R.1 ∧ R.1.length ≤ 60 := by
  obtain ⟨s, er, hs, ⟨h0, rfl⟩ | ⟨h0, rfl⟩⟩ := h
  · exact ⟨Byt.nil, by simp⟩
  · exact ⟨putP_byt s t, putP_len s t⟩
/-- What longs, shorts, numbersOf answer. -/
def NumsOut (f : Int) (b : List Int) (w : World) (e : Ending) (w' : World) : Prop :=
  ((∃ l A c, l.length = 5 ∧ e = .returned (.tuple #[.slice A 5 c, .bool true]) ∧ 5 ≤ c ∧ Rd w' w'.heap.size .i64 A 5 l ∧ ∀ s, IsSnap s f b → l = stN s) ∨
    ((∃ A n c, e = .returned (.tuple #[.slice A n c, .bool false])) ∧ ∀ s, ¬ IsSnap s f b)) ∧ Below w.heap.size w w'
/-- What the document's plain and chained answer. -/
def StateOut (f : Int) (b : List Int) (w : World) (e : Ending) (w' : World) : Prop :=
  ((∃ t : StP, e = .returned (.tuple #[t.v, .bool true]) ∧ ∀ s, IsSnap s f b → t = s) ∨
    (e = .returned (.tuple #[noneP.v, .bool false]) ∧ ∀ s, ¬ IsSnap s f b)) ∧ Below w.heap.size w w'
theorem one_of {s : StP} {b : List Int} (h : IsSnap s 1 b) : b.length = 22 ∧ chunks 5 ((b.drop 1).take 15) = [Nu.longOf s.ix, Nu.longOf s.tm, Nu.longOf s.sm] ∧ b[16]?.getD 0 = s.lv ∧ b[17]?.getD 0 = bitI s.fn := by
  have e := h.eq
  rw [snapL_one] at e
  subst e
  exact ⟨snap1_length s, one_parts s⟩
theorem one_len {s : StP} {b : List Int} (hn : b.length ≠ 22) : ¬ IsSnap s 1 b := fun h => hn (one_of h).1
theorem long_zero {n : Int} (h : 0 ≤ n ∧ n ≤ 1073741824) : Nu.longP (Nu.longOf n) = (n, [], 0) := by
  have := Nu.longP_long h.1 h.2 []
  rwa [List.append_nil] at this
theorem one_chunk {s : StP} {b c : List Int} (hc : c ∈ chunks 5 ((b.drop 1).take 15)) (he : (Nu.longP c).2.2 ≠ 0) : ¬ IsSnap s 1 b := fun h => by
  rw [(one_of h).2.1] at hc
  obtain ⟨a1, a2, a3, _⟩ := fineB_iff.1 h.fine
  simp only [List.mem_cons, List.not_mem_nil, or_false] at hc
  rcases hc with rfl | rfl | rfl
  · rw [long_zero a1] at he; exact he rfl
  · rw [long_zero a2] at he; exact he rfl
  · rw [long_zero a3] at he; exact he rfl
theorem one_nums {s : StP} {b : List Int} (h : IsSnap s 1 b) : (chunks 5 ((b.drop 1).take 15)).map (fun c => (Nu.longP c).1) ++ [b[16]?.getD 0, b[17]?.getD 0] = stN s := by
  obtain ⟨_, h1, h2, h3⟩ := one_of h
  obtain ⟨a1, a2, a3, _⟩ := fineB_iff.1 h.fine
  rw [h1, h2, h3]
  simp only [List.map_cons, List.map_nil, long_zero a1, long_zero a2, long_zero a3]
  rfl
theorem chunks_15 {l : List Int} (h : l.length = 15) : (chunks 5 l).length = 3 := by
  have ne : ∀ m : List Int, 0 < m.length → m ≠ [] := fun m hm e => by rw [e] at hm; simp at hm
  rw [chunks_cons (ne _ (by omega)) (by omega), List.length_cons, chunks_cons (ne _ (by rw [List.length_drop]; omega)) (by omega), List.length_cons, chunks_cons (ne _ (by rw [List.length_drop, List.length_drop]; omega)) (by omega), List.length_cons, List.drop_of_length_le (by rw [List.length_drop, List.length_drop]; omega), chunks_nil]
  rfl
/-! ### The second format's -/
theorem two_of {s : StP} {b : List Int} (h : IsSnap s 2 b) : 2 ≤ b.length ∧ Nu.takesP (stripL (b.drop 2)) 5 = (stN s, [], 0) := by
  have e := h.eq
  rw [snapL_two] at e
  subst e
  exact ⟨by rw [snap2_length]; omega, two_takes h.fine⟩
theorem takesGo_len : ∀ (k : Nat) (b acc : List Int), (Nu.takesGo k b acc).2.2 = 0 → (Nu.takesGo k b acc).1.length = k + acc.length
  | 0, b, acc, h => by simp [Nu.takesGo]
  | k + 1, b, acc, h => by
    unfold Nu.takesGo at h ⊢
    split at h
    · rename_i h0
      rw [if_pos h0]
      rw [takesGo_len k _ _ h, List.length_append]
      simp; omega
    · rename_i h0
      exact absurd h h0
theorem takes_len {b : List Int} (h : (Nu.takesP b 5).2.2 = 0) : (Nu.takesP b 5).1.length = 5 := by
  unfold Nu.takesP at h ⊢
  have := takesGo_len (5 : Int).toNat b [] h
  simpa using this
end Go.Proofs.YtdggacabjlengaaDoor
