/-
  moultref04.Files, Great: their contracts.
-/
import Derived.Test.YtmfiopopiikbmaaFine
import Derived.Test.YtmfiopopiikbmaaTxt
namespace Go.Proofs.Ytmfiopopiikbmaa
open Go.RowKit

/-- The same file? -/
theorem file_same (f g : FileM) (hf : Byt f.p.l) (hg : Byt g.p.l) : (f.name.toList == g.name.toList) = true ∧ ((txt f.p.l).toList == (txt g.p.l).toList) = true ↔ f.pure = g.pure := by
  rw [beq_name, txt_beq hf hg, decide_eq_true_eq, eqB_iff]
  constructor
  · rintro ⟨h1, h2⟩
    unfold FileM.pure
    rw [h1, h2]
  · intro h
    injection h with h1 h2
    exact ⟨h1, h2⟩
theorem take_ne {α : Type} {l m : List α} {k : Nat} {x y : α} (hl : l[k]? = some x) (hm : m[k]? = some y) (h : x ≠ y) : l ≠ m := fun e => by
  subst e
  rw [hl] at hm
  exact h (Option.some.inj hm)
theorem take_eq {α : Type} {l m : List α} {k : Nat} {x y : α} (hl : l[k]? = some x) (hm : m[k]? = some y) (h : x = y) (ht : l.take k = m.take k) : l.take (k + 1) = m.take (k + 1) := by
  rw [List.take_add_one, List.take_add_one, hl, hm, ht, h]

set_option maxRecDepth 100000 in
set_option maxHeartbeats 1000000 in
theorem files_any (A : Option Addr) (n c : Nat) (fs : List FileM) (B : Option Addr) (m k : Nat) (gs : List FileM) (w : World) (hr : Fs w w.heap.size A n fs) (hr' : Fs w w.heap.size B m gs) (hn : n ≤ 100000) (hm : m ≤ 100000) :
    Calls Try.prog 22 #[.slice A n c, .slice B m k] w fun e w' => (∃ b, e = .returned (.bool b) ∧ (b = true ↔ fs.map FileM.pure = gs.map FileM.pure)) ∧ Below w.heap.size w w' := by
  have Hl := Lib.hid hr.len
  have Hl' := Lib.hid hr'.len
  by_cases hnm : n = m
  · subst hnm
    have hd : ((n : Int) == (n : Int)) = true := by simp
    go_enter Try.func22, Try.ntmps22
    go_wp2_with fail
    go_loopw [5] (fun i wr => ∃ j : Nat, j ≤ n ∧ i = .int .i64 j ∧ Below w.heap.size w wr ∧ (fs.map FileM.pure).take j = (gs.map FileM.pure).take j) (fun i _ => n - (intOf i).toNat)
    case atStart => exact ⟨0, Nat.zero_le _, rfl, Below.refl _ _, by simp⟩
    case round =>
      obtain ⟨j, hj, rfl, hB, ht⟩ := hrel
      have Ht := Lib.hid ht
      clear ht
      by_cases hlt : j < n
      · obtain ⟨b, off, f, rfl, hbl, hf, h0, h1, hok⟩ := (hr.on hB hB.size).at_ hlt
        obtain ⟨b', off', g, rfl, hbl', hg, h0', h1', hok'⟩ := (hr'.on hB hB.size).at_ hlt
        have hj2 : (0 : Int) ≤ (j : Int) := by omega
        have hj3 : (j : Int) < (n : Int) := by omega
        have t1 : ∀ q, (convert 26 9 (.slice f.p.A f.p.n f.p.c)).run Try.prog (wr.drewN q) = .ok (.string (txt f.p.l)) (wr.drewN q) := fun q =>
          run_txt 26 9 5 Try.underlying26 Try.underlying5 Try.underlying9 (hok.rd.below (below_drewN (Below.refl _ wr) q))
        have t2 : ∀ q, (convert 26 9 (.slice g.p.A g.p.n g.p.c)).run Try.prog (wr.drewN q) = .ok (.string (txt g.p.l)) (wr.drewN q) := fun q =>
          run_txt 26 9 5 Try.underlying26 Try.underlying5 Try.underlying9 (hok'.rd.below (below_drewN (Below.refl _ wr) q))
        have hl1 : (fs.map FileM.pure)[j]? = some f.pure := by rw [List.getElem?_map, hf]; rfl
        have hl2 : (gs.map FileM.pure)[j]? = some g.pure := by rw [List.getElem?_map, hg]; rfl
        have hsm := file_same f g hok.byt hok'.byt
        by_cases hn1 : (f.name.toList == g.name.toList) = true
        · by_cases hn2 : ((txt f.p.l).toList == (txt g.p.l).toList) = true
          · have He := Lib.hid (take_eq hl1 hl2 (hsm.1 ⟨hn1, hn2⟩) Ht.out)
            clear hsm hl1 hl2 hf hg hok hok'
            go_wp2_with fail
            go_quiet (fail)
            go_wp2_with fail
            go_roundw
            case rel => exact ⟨j + 1, by omega, by go_num, below_drewN hB _, He.out⟩
            case measure => simp [intOf]; omega
          · have He := Lib.hid (take_ne hl1 hl2 (fun e => hn2 (hsm.2 e).2))
            have hn3 : ((txt f.p.l).toList == (txt g.p.l).toList) = false := by simpa using hn2
            clear hsm hl1 hl2 hf hg hok hok' hn2
            go_wp2_with fail
            go_quiet (fail)
            go_wp2_with fail
            go_ret
            exact ⟨⟨_, rfl, by simp [He.out]⟩, below_drewN hB _⟩
        · have He := Lib.hid (take_ne hl1 hl2 (fun e => hn1 (hsm.2 e).1))
          have hn3 : (f.name.toList == g.name.toList) = false := by simpa using hn1
          clear hsm hl1 hl2 hf hg hok hok' hn1
          go_wp2_with fail
          go_quiet (fail)
          go_wp2_with fail
          go_ret
          exact ⟨⟨_, rfl, by simp [He.out]⟩, below_drewN hB _⟩
      · obtain rfl : j = n := by omega
        have He : Hid (fs.map FileM.pure = gs.map FileM.pure) := by
          have h1 := Ht.out
          rw [List.take_of_length_le (by rw [List.length_map, Hl.out]; exact Nat.le_refl _), List.take_of_length_le (by rw [List.length_map, Hl'.out]; exact Nat.le_refl _)] at h1
          exact Lib.hid h1
        go_wp2_with fail
        go_ret
        exact ⟨⟨_, rfl, by simp [He.out]⟩, hB⟩
  · have hd : ((n : Int) == (m : Int)) = false := by simp; omega
    have He := Lib.hid (show fs.map FileM.pure ≠ gs.map FileM.pure from fun e => hnm (by
      have h1 := congrArg List.length e
      rwa [List.length_map, List.length_map, Hl.out, Hl'.out] at h1))
    clear hnm
    go_enter Try.func22, Try.ntmps22
    go_wp2_with fail
    go_ret
    exact ⟨⟨_, rfl, by simp [He.out]⟩, Below.refl _ _⟩

end Go.Proofs.Ytmfiopopiikbmaa
