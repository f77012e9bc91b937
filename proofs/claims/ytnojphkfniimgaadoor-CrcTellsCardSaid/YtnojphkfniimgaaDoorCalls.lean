/-
  The calls of crc, as the laws' walks take them.
-/
import Derived.Test.YtnojphkfniimgaaDoorCrc
namespace Go.Proofs.YtnojphkfniimgaaDoor
open Go.RowKit

theorem sumI_is {x : Int} {l : List Int} (h : Is32 x (sumN (natL l))) : x = sumI l := h.sum
/-- A row's sum, of one part, two, three, none. -/
theorem sum_parts {A : Option Addr} {n : Nat} (c : Nat) {ps : List Part} {R : List Int} (w : World) (hT : Tab w) (hr : Rds w w.heap.size A n ps) (hn : n ≤ 140737488355328) (hR : flat ps = R) :
    Calls Tryd.prog 18 #[.slice A n c] w fun e w' => e = .returned (.int .u32 (sumI R)) ∧ Below w.heap.size w w' :=
  (sum_c A n c ps w hT hr hn).mono fun e w' ⟨⟨x, he, hx⟩, hB⟩ => by
    rw [hR] at hx
    rw [← hx.sum]
    exact ⟨he, hB⟩
theorem Tab.alloc {w : World} (h : Tab w) (o : Obj) : Tab (w.alloc o) := h.on ((Below.refl _ w).alloc (Nat.le_refl _) o)
theorem sum_one {A : Option Addr} {n c : Nat} {l : List Int} (w : World) (g : Nat) (t : TypeId) (hg : g = w.heap.size) (hT : Tab w) (hr : Rd w w.heap.size .u8 A n l) (hb : Byt l) (hn : n ≤ 140737488355328) :
    Calls Tryd.prog 18 #[.slice (some ⟨g, 0, none⟩) 1 1] (w.alloc (.cells #[.slice A n c] t)) fun e w' => e = .returned (.int .u32 (sumI l)) ∧ Below w.heap.size w w' :=
  (sum_parts 1 (R := l) _ (hT.alloc _) (Rds.made w t [⟨A, n, c, l⟩] hg (fun q hq => by
    obtain rfl := List.mem_singleton.1 hq
    exact ⟨hr, hb, hn⟩)) (by simp) (by rw [flat_cons, flat_nil, List.append_nil])).mono fun e w' ⟨he, hB⟩ => ⟨he, ((Below.refl _ w).alloc (Nat.le_refl _) _).trans (hB.mono (by simp))⟩
theorem sum_three {A A' A'' : Option Addr} {n c n' c' n'' c'' : Nat} {l l' l'' : List Int} (w : World) (g : Nat) (t : TypeId) (hg : g = w.heap.size) (hT : Tab w) (hr : Rd w w.heap.size .u8 A n l) (hb : Byt l) (hn : n ≤ 140737488355328)
    (hr' : Rd w w.heap.size .u8 A' n' l') (hb' : Byt l') (hn' : n' ≤ 140737488355328) (hr'' : Rd w w.heap.size .u8 A'' n'' l'') (hb'' : Byt l'') (hn'' : n'' ≤ 140737488355328) :
    Calls Tryd.prog 18 #[.slice (some ⟨g, 0, none⟩) 3 3] (w.alloc (.cells #[.slice A n c, .slice A' n' c', .slice A'' n'' c''] t)) fun e w' => e = .returned (.int .u32 (sumI (l ++ (l' ++ l'')))) ∧ Below w.heap.size w w' :=
  (sum_parts 3 (R := l ++ (l' ++ l'')) _ (hT.alloc _) (Rds.made w t [⟨A, n, c, l⟩, ⟨A', n', c', l'⟩, ⟨A'', n'', c'', l''⟩] hg (fun q hq => by
    rcases List.mem_cons.1 hq with rfl | hq
    · exact ⟨hr, hb, hn⟩
    · rcases List.mem_cons.1 hq with rfl | hq
      · exact ⟨hr', hb', hn'⟩
      · obtain rfl := List.mem_singleton.1 hq
        exact ⟨hr'', hb'', hn''⟩)) (by simp) (by rw [flat_cons, flat_cons, flat_cons, flat_nil, List.append_nil])).mono fun e w' ⟨he, hB⟩ => ⟨he, ((Below.refl _ w).alloc (Nat.le_refl _) _).trans (hB.mono (by simp))⟩
theorem sum_none (w : World) (hT : Tab w) : Calls Tryd.prog 18 #[.slice none 0 0] w fun e w' => e = .returned (.int .u32 0) ∧ Below w.heap.size w w' :=
  (sum_parts 0 (R := []) w hT (Rds.none_ w _) (by omega) rfl).mono fun _ _ ⟨he, hB⟩ => ⟨he, hB⟩
theorem put_out {A : Option Addr} {n c : Nat} {l : List Int} (w : World) (hT : Tab w) (hr : Rd w w.heap.size .u8 A n l) (hb : Byt l) (hnc : n ≤ c) (hn : n ≤ 1048576) :
    Calls Tryd.prog 14 #[.slice A n c] w fun e w' => (∃ A' c', e = .returned (.slice A' (n + 4) c') ∧ n + 4 ≤ c' ∧ Rd w' w'.heap.size .u8 A' (n + 4) (l ++ fourI (sumI l))) ∧ Below w.heap.size w w' :=
  (put_c A n c l w hT hr hb hnc hn).mono fun e w' ⟨⟨x, A', c', hx, he, hc, hr'⟩, hB⟩ => by
    rw [hx.sum] at hr'
    exact ⟨⟨A', c', he, hc, hr'⟩, hB⟩
theorem take_yes {A : Option Addr} {n c : Nat} {l R : List Int} {q : Nat} (w : World) (hT : Tab w) (hr : Rd w w.heap.size .u8 A n l) (hb : Byt l) (hnc : n ≤ c) (hn : n ≤ 1048576) (hok : okB l = true) (hq : l.length - 4 = q) (hR : l.take q = R) :
    Calls Tryd.prog 9 #[.slice A n c] w fun e w' => (∃ A' c', e = .returned (.tuple #[.slice A' q c', .bool true]) ∧ q ≤ c' ∧ Rd w' w'.heap.size .u8 A' q R) ∧ Below w.heap.size w w' :=
  (take_c A n c l w hT hr hb hnc hn).mono fun e w' ⟨h, hB⟩ => by
    subst hq hR
    rcases h with ⟨h0, _⟩ | ⟨_, A', c', he, hc, hr'⟩
    · rw [hok] at h0; cases h0
    · exact ⟨⟨A', c', he, hc, hr'⟩, hB⟩
theorem take_no {A : Option Addr} {n c : Nat} {l : List Int} (w : World) (hT : Tab w) (hr : Rd w w.heap.size .u8 A n l) (hb : Byt l) (hnc : n ≤ c) (hn : n ≤ 1048576) (hok : okB l = false) :
    Calls Tryd.prog 9 #[.slice A n c] w fun e w' => e = .returned (.tuple #[.slice none 0 0, .bool false]) ∧ Below w.heap.size w w' :=
  (take_c A n c l w hT hr hb hnc hn).mono fun e w' ⟨h, hB⟩ => by
    rcases h with ⟨_, he⟩ | ⟨h1, _⟩
    · exact ⟨he, hB⟩
    · rw [hok] at h1; cases h1
/-- A row with its sum behind it is taken. -/
theorem okB_put (l : List Int) : okB (l ++ fourI (sumI l)) = true := by
  have h4 : (fourI (sumI l)).length = 4 := rfl
  unfold okB
  have hlen : (l ++ fourI (sumI l)).length - 4 = l.length := by rw [List.length_append, h4]; omega
  rw [hlen, List.take_left, eqB_true rfl, List.length_append, h4]
  simp
theorem same_true {A A' : Option Addr} {n n' c c' : Nat} {l m : List Int} (w : World) (hr : Rd w w.heap.size .u8 A n l) (hr' : Rd w w.heap.size .u8 A' n' m) (hl : Byt l) (he : l = m) :
    Calls Tryd.prog 13 #[.slice A n c, .slice A' n' c'] w fun e w' => e = .returned (.bool true) ∧ w = w' := by
  subst he
  have h := same_any A A' n n' c c' l l w hr hr' hl hl
  rwa [eqB_true rfl] at h
theorem step_out (s h : Int) (w : World) (hT : Tab w) (hs : 0 ≤ s ∧ s < 4294967296) (hh : 0 ≤ h ∧ h ≤ 255) :
    Calls Tryd.prog 16 #[.int .u32 s, .int .u8 h] w fun e w' => e = .returned (.int .u32 ((stepN s.toNat h.toNat : Nat) : Int)) ∧ Below w.heap.size w w' :=
  (step_c s h w hT hs hh).mono fun e w' ⟨⟨x, he, hx⟩, hB⟩ => by
    have h1 := hx.1
    have h2 := hx.2
    rw [show ((stepN s.toNat h.toNat : Nat) : Int) = x by omega]
    exact ⟨he, hB⟩

end Go.Proofs.YtnojphkfniimgaaDoor
