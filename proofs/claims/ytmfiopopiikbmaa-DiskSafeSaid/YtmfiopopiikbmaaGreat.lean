/-
  moultref04.Great: its contract.
-/
import Derived.Test.YtmfiopopiikbmaaSame4
namespace Go.Proofs.Ytmfiopopiikbmaa
open Go.RowKit

theorem all_of {α : Type} {P : α → Prop} {l : List α} {j : Nat} (h : ∀ i, i < j → ∀ x, l[i]? = some x → P x) (hj : l.length ≤ j) : ∀ x ∈ l, P x := fun x hx => by
  obtain ⟨i, hi⟩ := List.mem_iff_getElem?.1 hx
  have h1 := (List.getElem?_eq_some_iff.1 hi).1
  exact h i (by omega) x hi
theorem great_iff (d : DiskP) : greatP d = true ↔ 30 < d.files.length ∨ 60 < d.queue.length ∨ (∃ f ∈ d.files, 1000 < f.bytes.length) ∨ ∃ o ∈ d.queue, 1000 < o.bytes.length := by
  unfold greatP
  simp only [Bool.or_eq_true, decide_eq_true_eq, List.any_eq_true, or_assoc]

set_option maxRecDepth 100000 in
set_option maxHeartbeats 4000000 in
theorem great_any {w : World} {fl : List FileP} {qu : List OpP} {q u : Int} {dd : Bool} {A : Option Addr} {n c : Nat} {B : Option Addr} {m k : Nat} (h : DAt w ⟨fl, qu, q, u, dd⟩ A n c B m k) :
    Calls Try.prog 8 #[.agg #[.slice A n c, .slice B m k, .int .i64 q, .int .i64 u, .bool dd]] w fun e w' => Says (greatP ⟨fl, qu, q, u, dd⟩ = true) e ∧ Below w.heap.size w w' := by
  obtain ⟨p, hp⟩ : ∃ p, p = (greatP ⟨fl, qu, q, u, dd⟩ = true) := ⟨_, rfl⟩
  rw [← hp]
  obtain ⟨⟨fs, hf, e1⟩, ⟨os, ho, e2⟩⟩ := (⟨h.files, h.queue⟩ : _ ∧ _)
  have HG : Hid (p ↔ 30 < n ∨ 60 < m ∨ (∃ f ∈ fs, 1000 < f.p.n) ∨ ∃ o ∈ os, 1000 < o.p.n) := by
    have h1 := h.len
    refine Lib.hid ?_
    rw [hp, great_iff]
    show 30 < fl.length ∨ 60 < qu.length ∨ (∃ f ∈ fl, 1000 < f.bytes.length) ∨ (∃ o ∈ qu, 1000 < o.bytes.length) ↔ _
    rw [show fl.length = n from h1.1, show qu.length = m from h1.2, show fl = fs.map FileM.pure from e1.symm, show qu = os.map OpM.pure from e2.symm]
    refine or_congr Iff.rfl (or_congr Iff.rfl (or_congr ?_ ?_))
    · constructor
      · rintro ⟨f, hm, hl⟩
        obtain ⟨g, hg, rfl⟩ := List.mem_map.1 hm
        exact ⟨g, hg, by rw [← (hf.ok g hg).rd.1]; exact hl⟩
      · rintro ⟨g, hg, hl⟩
        exact ⟨g.pure, List.mem_map.2 ⟨g, hg, rfl⟩, by rw [← (hf.ok g hg).rd.1] at hl; exact hl⟩
    · constructor
      · rintro ⟨f, hm, hl⟩
        obtain ⟨g, hg, rfl⟩ := List.mem_map.1 hm
        exact ⟨g, hg, by rw [← (ho.ok g hg).1.rd.1]; exact hl⟩
      · rintro ⟨g, hg, hl⟩
        exact ⟨g.pure, List.mem_map.2 ⟨g, hg, rfl⟩, by rw [← (ho.ok g hg).1.rd.1] at hl; exact hl⟩
  clear hp h e1 e2
  have Hn := Lib.hid hf.len
  have Hm := Lib.hid ho.len
  go_enter Try.func8, Try.ntmps8
  go_wp2_with fail
  obtain ⟨z, hz⟩ : ∃ z, z = w.heap.size := ⟨_, rfl⟩
  obtain ⟨w0, hw0⟩ : ∃ w0, w0 = w.alloc (.cells #[.slice A n c, .slice B m k, .int .i64 q, .int .i64 u, .bool dd] 25) := ⟨_, rfl⟩
  have hb0 : Below w.heap.size w w0 := by rw [hw0]; exact (Below.refl _ _).alloc (Nat.le_refl _) _
  have bz0 : Box5 w0 z 25 (.slice A n c) (.slice B m k) (.int .i64 q) (.int .i64 u) (.bool dd) := by
    rw [hw0, hz]
    exact World.alloc_heap_new w _
  rw [← hw0, ← hz]
  clear hw0 hz
  go_loopw [3] (fun i wr => ∃ j : Nat, j ≤ n ∧ j ≤ 31 ∧ i = .int .i64 j ∧ Below w.heap.size w wr ∧ Box5 wr z 25 (.slice A n c) (.slice B m k) (.int .i64 q) (.int .i64 u) (.bool dd) ∧ ∀ i, i < j → ∀ f, fs[i]? = some f → f.p.n ≤ 1000) (fun i _ => n - (intOf i).toNat)
  case atStart => exact ⟨0, Nat.zero_le _, Nat.zero_le _, rfl, hb0, bz0, fun i h => absurd h (by omega)⟩
  case round =>
    obtain ⟨j, hj, hj31, rfl, hB, bz, hs⟩ := hrel
    have Hs := Lib.hid hs
    obtain ⟨⟨k0, k1', k2, k3, k4⟩, g0, g1, g2, g3, g4⟩ := box5 bz
    clear hs
    by_cases hlt : j < n ∧ j ≤ 30
    · obtain ⟨b, off, f, rfl, hbl, hfj, h0, h1, hok⟩ := (hf.on hB hB.size).at_ hlt.1
      have hj2 : (0 : Int) ≤ (j : Int) := by omega
      have hj3 : (j : Int) < (n : Int) := by omega
      have hj4 : (j : Int) ≤ 30 := by omega
      have Hf := Lib.hid hfj
      clear hfj hlt
      by_cases hbig : 1000 < f.p.n
      · have v1 : (1000 : Int) < (f.p.n : Int) := by omega
        go_wp2_with fail
        go_ret
        exact ⟨says_yes (HG.out.2 (.inr (.inr (.inl ⟨f, List.mem_of_getElem? Hf.out, hbig⟩)))), hB⟩
      · have v1 : ¬ (1000 : Int) < (f.p.n : Int) := by omega
        go_wp2_with fail
        go_roundw
        case rel => exact ⟨j + 1, by omega, by omega, by go_num, hB, bz, fun i hi g hg => by
          by_cases e : i = j
          · subst e
            rw [Hf.out] at hg
            cases hg
            omega
          · exact Hs.out i (by omega) g hg⟩
        case measure => simp [intOf]; omega
    · have H1 : Hid (n ≤ 30 → ∀ f ∈ fs, f.p.n ≤ 1000) := Lib.hid (fun hn => all_of Hs.out (by rw [Hn.out]; omega))
      clear Hs
      clear k0 k1' k2 k3 k4 g0 g1 g2 g3 g4 hb0 bz0
      obtain hx | ⟨hx, hx2⟩ : ¬ j < n ∨ j < n ∧ ¬ j ≤ 30 := by omega
      all_goals
        obtain ⟨⟨k0, k1', k2, k3, k4⟩, g0, g1, g2, g3, g4⟩ := box5 bz
        go_wp2_with fail
        clear k0 k1' k2 k3 k4 g0 g1 g2 g3 g4 hlt
        go_loopw [4] (fun i wr => ∃ j : Nat, j ≤ m ∧ j ≤ 61 ∧ i = .int .i64 j ∧ Below w.heap.size w wr ∧ Box5 wr z 25 (.slice A n c) (.slice B m k) (.int .i64 q) (.int .i64 u) (.bool dd) ∧ ∀ i, i < j → ∀ o, os[i]? = some o → o.p.n ≤ 1000) (fun i _ => m - (intOf i).toNat)
        case atStart => exact ⟨0, Nat.zero_le _, Nat.zero_le _, rfl, hB, bz, fun i h => absurd h (by omega)⟩
        case round =>
          obtain ⟨j2, hj2, hj61, rfl, hB2, bz2, hs⟩ := hrel
          have Hs := Lib.hid hs
          clear hs hB bz hx hj hj31
          obtain ⟨⟨k0, k1', k2, k3, k4⟩, g0, g1, g2, g3, g4⟩ := box5 bz2
          by_cases hlt : j2 < m ∧ j2 ≤ 60
          · obtain ⟨b, off, o, rfl, hbl, hoj, o0, o1, o2, o3, hok, _, _⟩ := (ho.on hB2 hB2.size).at_ hlt.1
            have a2 : (0 : Int) ≤ (j2 : Int) := by omega
            have a3 : (j2 : Int) < (m : Int) := by omega
            have a4 : (j2 : Int) ≤ 60 := by omega
            have Ho := Lib.hid hoj
            clear hoj hlt
            by_cases hbig : 1000 < o.p.n
            · have v1 : (1000 : Int) < (o.p.n : Int) := by omega
              go_wp2_with fail
              go_ret
              exact ⟨says_yes (HG.out.2 (.inr (.inr (.inr ⟨o, List.mem_of_getElem? Ho.out, hbig⟩)))), hB2⟩
            · have v1 : ¬ (1000 : Int) < (o.p.n : Int) := by omega
              go_wp2_with fail
              go_roundw
              case rel => exact ⟨j2 + 1, by omega, by omega, by go_num, hB2, bz2, fun i hi g hg => by
                by_cases e : i = j2
                · subst e
                  rw [Ho.out] at hg
                  cases hg
                  omega
                · exact Hs.out i (by omega) g hg⟩
              case measure => simp [intOf]; omega
          · have H2 : Hid (m ≤ 60 → ∀ o ∈ os, o.p.n ≤ 1000) := Lib.hid (fun hm => all_of Hs.out (by rw [Hm.out]; omega))
            clear Hs
            have hfin : Hid (¬ 30 < n → ¬ 60 < m → ¬ p) := Lib.hid (fun a b h => by
              rcases HG.out.1 h with h | h | ⟨f, hm, hl⟩ | ⟨o, hm, hl⟩
              · exact a h
              · exact b h
              · have := H1.out (by omega) f hm
                omega
              · have := H2.out (by omega) o hm
                omega)
            obtain hy | ⟨hy, hy2⟩ : ¬ j2 < m ∨ j2 < m ∧ ¬ j2 ≤ 60 := by omega
            all_goals
              clear hlt
              by_cases y1 : 30 < n
              · have y1' : (30 : Int) < (n : Int) := by omega
                go_wp2_with fail
                go_ret
                exact ⟨says_yes (HG.out.2 (.inl y1)), hB2⟩
              · have y1' : ¬ (30 : Int) < (n : Int) := by omega
                by_cases y2 : 60 < m
                · have y2' : (60 : Int) < (m : Int) := by omega
                  go_wp2_with fail
                  go_ret
                  exact ⟨says_yes (HG.out.2 (.inr (.inl y2))), hB2⟩
                · have y2' : ¬ (60 : Int) < (m : Int) := by omega
                  first
                    | (exfalso; omega)
                    | (go_wp2_with fail; go_ret; exact ⟨says_no (hfin.out y1 y2), hB2⟩)

end Go.Proofs.Ytmfiopopiikbmaa
