/-
  moultref05.Strings: its contract.
-/
import Derived.Test.YtbfdjjkphmchgaaDoorRest
import Derived.StillTailTactics
namespace Go.Proofs.YtbfdjjkphmchgaaDoor
open Go.RowKit Go.Maps

/-- A row of strings that lies below B. -/
abbrev Strs (w : World) (B : Nat) (A : Option Addr) (n : Nat) (l : List ByteArray) : Prop := Row 1 (fun s => [strV s]) w B A n l
theorem Strs.get {w : World} {B n : Nat} {A : Option Addr} {l : List ByteArray} (h : Strs w B A n l) {k : Nat} (hk : k < n) :
    ∃ b off s, A = some ⟨b, off, none⟩ ∧ b < B ∧ l[k]? = some s ∧ w.cell? ⟨b, off + k, none⟩ = some (.string s) := by
  obtain ⟨b, off, s, e, hb, hf, hc⟩ := Row.at_ h hk
  have h0 := hc 0 (by omega)
  rw [Nat.mul_one] at h0
  exact ⟨b, off, s, e, hb, hf, h0⟩
theorem flat_one (l : List ByteArray) : l.flatMap (fun s => [strV s]) = l.map strV := by
  induction l with
  | nil => rfl
  | cons a l ih => rw [List.flatMap_cons, ih]; rfl
theorem Strs.of_own {w : World} {base : Nat} {v : Value} {l : List ByteArray} (h : w.ownsRow base 9 1 v l.length (l.map strV)) : ∃ A c, v = .slice A l.length c ∧ Strs w w.heap.size A l.length l := by
  obtain ⟨A, c, rfl, _⟩ := own_slice h
  rw [← flat_one] at h
  exact ⟨A, c, rfl, Row.of_own (by omega) (fun _ => rfl) h⟩

set_option maxRecDepth 100000 in
set_option maxHeartbeats 2000000 in
theorem strings_any (A : Option Addr) (n c : Nat) (l : List ByteArray) (A2 : Option Addr) (m c2 : Nat) (l2 : List ByteArray) (w : World) (h1 : Strs w w.heap.size A n l) (h2 : Strs w w.heap.size A2 m l2) (hn : n ≤ 1000) (hm : m ≤ 1000) :
    Calls Tryd.prog 21 #[.slice A n c, .slice A2 m c2] w fun e w' => (∃ y, e = .returned (.bool y) ∧ (y = true ↔ l = l2)) ∧ Below w.heap.size w w' := by
  have Hl := Lib.hid (⟨h1, h2⟩ : _ ∧ _)
  have L1 := Lib.hid h1.1
  have L2 := Lib.hid h2.1
  clear h1 h2
  go_enter Tryd.func21, Tryd.ntmps21
  by_cases hnm : n = m
  · subst hnm
    go_wp2_with fail
    go_loopw [5] (fun i wr => ∃ (k : Nat), k ≤ n ∧ i = .int .i64 k ∧ l.take k = l2.take k ∧ Below w.heap.size w wr) (fun i _ => n - (intOf i).toNat)
    case atStart => exact ⟨0, Nat.zero_le _, rfl, rfl, below_d0 w⟩
    case round =>
      obtain ⟨k, hk, rfl, htk, hB⟩ := hrel
      by_cases hlt : k < n
      · obtain ⟨b, off, s, rfl, hb, hs, hc1⟩ := Strs.get (Hl.out.1.on hB (Nat.le_refl _)) hlt
        obtain ⟨b2, off2, t, rfl, hb2, ht, hc2⟩ := Strs.get (Hl.out.2.on hB (Nat.le_refl _)) hlt
        by_cases e : s = t
        · have t1 := names_eq e
          have Hk := Lib.hid (show l.take (k + 1) = l2.take (k + 1) by rw [List.take_add_one, List.take_add_one, htk, hs, ht, e])
          clear e hs ht htk
          go_wp2_with fail
          go_still_tail 8, (by kernel_rfl)
          change wpList _ _ _ _ _ wr.drew
          go_wp2_with fail
          go_roundw
          case rel => exact ⟨k + 1, by omega, by go_num, Hk.out, hB.drew⟩
          case measure => simp [intOf]; omega
        · have t1 := names_ne e
          have Hk := Lib.hid (show ¬ l = l2 from fun h => by subst h; rw [hs] at ht; injection ht with ht; exact e ht)
          clear e hs ht htk
          go_wp2_with fail
          go_still_tail 8, (by kernel_rfl)
          change wpList _ _ _ _ _ wr.drew
          go_wp2_with fail
          go_ret
          exact ⟨⟨false, rfl, by simpa using Hk.out⟩, hB.drew⟩
      · obtain rfl : k = n := by omega
        have Hk := Lib.hid (show l = l2 by
          rw [List.take_of_length_le (by rw [L1.out]; exact Nat.le_refl _), List.take_of_length_le (by rw [L2.out]; exact Nat.le_refl _)] at htk
          exact htk)
        clear htk
        go_wp2_with fail
        go_ret
        exact ⟨⟨true, rfl, by simpa using Hk.out⟩, hB⟩
  · have Hk := Lib.hid (show ¬ l = l2 from fun h => hnm (by rw [← L1.out, ← L2.out, h]))
    go_wp2_with fail
    go_ret
    exact ⟨⟨false, rfl, by simpa using Hk.out⟩, below_d0 w⟩

end Go.Proofs.YtbfdjjkphmchgaaDoor
