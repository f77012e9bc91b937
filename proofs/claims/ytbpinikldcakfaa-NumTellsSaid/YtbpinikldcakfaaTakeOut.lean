/-
  bytes.Clone, num.Take, num.TakeLong, num.Takes: their contracts.
-/
import Derived.Test.YtbpinikldcakfaaTake
import Derived.Test.YtbpinikldcakfaaShelf
import Derived.Laws.Slices
import Derived.WalkSpells
namespace Go.Proofs.Ytbpinikldcakfaa
open Go.RowKit

/-- A result: a slice that holds l, in memory that lies behind. -/
def Gives (k : IntKind) (l : List Int) (v : Value) (w' : World) : Prop := ∃ A c, v = .slice A l.length c ∧ l.length ≤ c ∧ Rd w' w'.heap.size k A l.length l

theorem Gives.on {k : IntKind} {l : List Int} {v : Value} {w w' : World} (h : Gives k l v w) (hb : Below w.heap.size w w') : Gives k l v w' := by
  obtain ⟨A, c, rfl, hc, hr⟩ := h
  exact ⟨A, c, rfl, hc, hr.on hb hb.size⟩
theorem Gives.own {k : IntKind} {l : List Int} {v : Value} {w : World} {base : Nat} {e : TypeId} (h : w.ownsRow base e 1 v l.length (l.map (Value.int k))) : Gives k l v w := by
  obtain ⟨A, c, rfl, hc, hr⟩ := own_rd h
  exact ⟨A, c, rfl, hc, hr⟩

theorem clone_any (A : Option Addr) (n c : Nat) (l : List Int) (w : World) (hr : Rd w w.heap.size .u8 A n l) (hn : n ≤ 140737488355328) :
    Calls Try.prog 25 #[.slice A n c] w fun e w' => ∃ v, e = .returned v ∧ Gives .u8 l v w' ∧ Below w.heap.size w w' := by
  have hl := hr.1
  subst hl
  rcases A with _ | a
  · obtain ⟨h0, rfl⟩ := hr.none_
    refine (Try.bytes_Clone_nil _ c w).mono ?_
    rintro e w' ⟨rfl, rfl⟩
    exact ⟨_, rfl, ⟨none, 0, rfl, Nat.le_refl _, Rd.nil⟩, Below.refl _ _⟩
  · refine (Try.bytes_Clone_at a l.length c l w rfl hn ?_).mono ?_
    · intro i hi
      exact hr.cells i _ (by simp [List.getElem?_eq_getElem hi])
    · rintro e w' ⟨v, rfl, hown, _, hb⟩
      obtain ⟨A', c', rfl, hc', hrd⟩ := own_rd hown
      exact ⟨_, rfl, ⟨A', c', rfl, hc', hrd⟩, hb⟩

/-- Take's answer, as a whole. -/
def TakeOut (l : List Int) (e : Ending) (w' : World) : Prop :=
  ∃ v, e = .returned (.tuple #[.int .i64 (takeP l).1, v, .int .i64 (takeP l).2.2]) ∧ Gives .u8 (if (takeP l).2.2 = 0 then l.drop (takeP l).2.1 else []) v w'

set_option maxRecDepth 100000 in
set_option maxHeartbeats 400000 in
theorem Take_any (A : Option Addr) (n c : Nat) (l : List Int) (w : World) (hr : Rd w w.heap.size .u8 A n l) (hb : Byt l) (hnc : n ≤ c) (hn : n ≤ 140737488355328) :
    Calls Try.prog 16 #[.slice A n c] w fun e w' => TakeOut l e w' ∧ Below w.heap.size w w' := by
  rcases takeP_fine hb with h | ⟨x, m, h, h1, h2, h3, h4, h5⟩
  · go_enter Try.func16, Try.ntmps16
    go_wp2_with fail
    refine (take_any A n c l w hr hb (by omega)).mono ?_
    rintro e w' ⟨rfl, rfl⟩
    rcases h with h | h
    all_goals
      have H := Lib.hid h
      rw [h]
      go_wp2
      go_ret3
      refine ⟨⟨.slice none 0 0, ?_, ?_⟩, Below.refl _ _⟩
      · rw [H.out]; rfl
      · rw [H.out]; exact ⟨none, 0, rfl, Nat.le_refl _, Rd.nil⟩
  · rw [hr.1] at h5
    by_cases hcm : c = m
    · subst hcm
      have hd : l.drop c = [] := List.drop_of_length_le (by rw [hr.1]; omega)
      have Hd := Lib.hid hd
      clear hd
      go_enter Try.func16, Try.ntmps16
      go_wp2_with fail
      refine (take_any A n c l w hr hb (by omega)).mono ?_
      rintro e w' ⟨rfl, rfl⟩
      have H := Lib.hid h
      rw [h]
      clear h hr
      go_wp2_with fail
      refine (clone_any _ _ _ [] _ Rd.nil (by omega)).mono ?_
      rintro e w' ⟨v, rfl, hg, hbel⟩
      go_wp2
      go_ret3
      refine ⟨⟨v, ?_, ?_⟩, hbel⟩
      · rw [H.out]; rfl
      · rw [H.out]; show Gives .u8 (l.drop c) v _; rw [Hd.out]; exact hg
    · have hcut := hr.cut_off h5 hnc hcm
      go_enter Try.func16, Try.ntmps16
      go_wp2_with fail
      refine (take_any A n c l w hr hb (by omega)).mono ?_
      rintro e w' ⟨rfl, rfl⟩
      have H := Lib.hid h
      rw [h]
      clear h hr
      go_wp2_with fail
      refine (clone_any _ _ _ _ _ hcut (by omega)).mono ?_
      rintro e w' ⟨v, rfl, hg, hbel⟩
      go_wp2
      go_ret3
      refine ⟨⟨v, ?_, ?_⟩, hbel⟩
      · rw [H.out]; rfl
      · rw [H.out]; exact hg

end Go.Proofs.Ytbpinikldcakfaa
