/-
  The developers' rising, rightOps: their contracts.
-/
import Derived.Test.YtmfiopopiikbmaaDevF
import Derived.Test.YtmfiopopiikbmaaSame4
namespace Go.Proofs.Ytmfiopopiikbmaa
open Go.RowKit Go.Maps

theorem less_empty (a : ByteArray) : lessL a ByteArray.empty = false := by
  unfold lessL
  rw [(nil_name ByteArray.empty).2 rfl]
  cases a.toList <;> rfl
theorem empty_less {a : ByteArray} (h : a ≠ ByteArray.empty) : lessL ByteArray.empty a = true := by
  cases h1 : lessL ByteArray.empty a
  · exact absurd (less_total h1 (less_empty a)).symm h
  · rfl
/-- The name ahead of a place; none at the first. -/
def aheadP (l : List FileP) (j : Nat) : ByteArray := if j = 0 then ByteArray.empty else ((l[j - 1]?).map FileP.name).getD ByteArray.empty
theorem rise_ahead (l : List FileP) : RiseP l ↔ ∀ i f, l[i]? = some f → lessL (aheadP l i) f.name = true := by
  constructor
  · intro h i f hf
    obtain ⟨h1, h2⟩ := h i f hf
    unfold aheadP
    split
    · exact empty_less h1
    · rename_i hi
      have hlt := (List.getElem?_eq_some_iff.1 hf).1
      have hg : l[i - 1]? = some l[i - 1] := List.getElem?_eq_getElem (by omega)
      rw [hg]
      exact h2 _ (by omega) hg
  · intro h i f hf
    have h1 := h i f hf
    refine ⟨fun e => (by rw [e, less_empty] at h1; cases h1), fun g hi hg => ?_⟩
    unfold aheadP at h1
    rw [if_neg (by omega), hg] at h1
    exact h1

set_option maxRecDepth 100000 in
set_option maxHeartbeats 1000000 in
theorem dev_rising {w : World} {A : Option Addr} {n c : Nat} {fs : List FileM} (hr : Fs w w.heap.size A n fs) (hn : n ≤ 1000) :
    Calls Try.prog 56 #[.slice A n c] w fun e w' => Says (RiseP (fs.map FileM.pure)) e ∧ Below w.heap.size w w' := by
  have Hl := Lib.hid hr.len
  go_enter Try.func56, Try.ntmps56
  go_wp2_with fail
  go_loopw [3, 8] (fun a i wr => ∃ j : Nat, j ≤ n ∧ i = .int .i64 j ∧ a = .string (aheadP (fs.map FileM.pure) j) ∧ Below w.heap.size w wr ∧ ∀ i f, i < j → (fs.map FileM.pure)[i]? = some f → lessL (aheadP (fs.map FileM.pure) i) f.name = true) (fun _ i _ => n - (intOf i).toNat)
  case atStart => exact ⟨0, Nat.zero_le _, rfl, rfl, Below.refl _ _, fun i f h => by omega⟩
  case round =>
    obtain ⟨j, hj, rfl, rfl, hB, ht⟩ := hrel
    by_cases hlt : j < n
    · obtain ⟨b, off, f, rfl, hbl, hfj, h0, h1, _⟩ := (hr.on hB hB.size).at_ hlt
      have hj2 : (0 : Int) ≤ (j : Int) := by omega
      have hj3 : (j : Int) < (n : Int) := by omega
      have hw1 : IntKind.i64.wrap ((j : Int) + 1) = ((j + 1 : Nat) : Int) := by rw [IntKind.wrap_i64]; omega
      have hl1 : (fs.map FileM.pure)[j]? = some f.pure := by rw [List.getElem?_map, hfj]; rfl
      have hnx : aheadP (fs.map FileM.pure) (j + 1) = f.name := by unfold aheadP; rw [if_neg (by omega), show j + 1 - 1 = j by omega, hl1]; rfl
      obtain ⟨a, ha⟩ : ∃ a, a = aheadP (fs.map FileM.pure) j := ⟨_, rfl⟩
      rw [← ha]
      by_cases hls : lessL a f.name = true
      · have t1 : Op.bytesLess f.name.toList a.toList = false := less_asymm hls
        have t2 : (f.name.toList == a.toList) = false := by rw [beq_name, decide_eq_false (fun e => less_ne hls e.symm)]
        have Ht := Lib.hid (show ∀ i f', i < j + 1 → (fs.map FileM.pure)[i]? = some f' → lessL (aheadP (fs.map FileM.pure) i) f'.name = true from fun i f' hi hf' => by
          by_cases hij : i = j
          · subst hij
            rw [hl1] at hf'
            cases hf'
            rw [← ha]
            exact hls
          · exact ht i f' (by omega) hf')
        have Hb := Lib.hid (hB.alloc hB.size (.cells #[.string f.name, .slice f.p.A f.p.n f.p.c] 47))
        have Hnx := Lib.hid hnx
        clear ht hl1 hfj hls ha hnx
        go_wp2_with fail
        go_roundw
        case rel => exact ⟨j + 1, by omega, by go_num, by rw [Hnx.out], Hb.out, Ht.out⟩
        case measure => simp [intOf]; omega
      · have He := Lib.hid (show ¬ RiseP (fs.map FileM.pure) from fun hr => hls (by rw [ha]; exact (rise_ahead _).1 hr j _ hl1))
        have Hb := Lib.hid (hB.alloc hB.size (.cells #[.string f.name, .slice f.p.A f.p.n f.p.c] 47))
        have t3 : (Op.bytesLess f.name.toList a.toList || (f.name.toList == a.toList)) = true := by
          cases h5 : Op.bytesLess f.name.toList a.toList
          · have h6 : lessL a f.name = false := by simpa using hls
            have : a = f.name := less_total h6 h5
            rw [this]
            simp
          · rfl
        clear ht hl1 hfj hls ha hnx
        go_wp2_with fail
        go_ret
        exact ⟨says_no He.out, Hb.out⟩
    · obtain rfl : j = n := by omega
      have He := Lib.hid ((rise_ahead (fs.map FileM.pure)).2 fun i f hf => ht i f (by have := (List.getElem?_eq_some_iff.1 hf).1; rw [List.length_map, Hl.out] at this; exact this) hf)
      clear ht
      go_wp2_with fail
      go_ret
      exact ⟨says_yes He.out, hB⟩

theorem bool_no {b : Bool} (h : b = true → False) : b = false := by
  cases b
  · rfl
  · exact (h rfl).elim
set_option maxRecDepth 100000 in
set_option maxHeartbeats 2000000 in
theorem dev_rightOps {w : World} {A : Option Addr} {m c : Nat} {os : List OpM} (hr : Os w w.heap.size A m os) (hm : m ≤ 1000) :
    Calls Try.prog 55 #[.slice A m c] w fun e w' => Says (∀ o ∈ os.map OpM.pure, fineP o = true) e ∧ Below w.heap.size w w' := by
  have Hl := Lib.hid hr.len
  go_enter Try.func55, Try.ntmps55
  go_wp2_with fail
  refine (dev_operations w).mono ?_
  rintro e w1 ⟨⟨g, rfl, hg, hwg⟩, hb1⟩
  go_wp2_with fail
  go_loopw [11] (fun i wr => ∃ j : Nat, j ≤ m ∧ i = .int .i64 j ∧ Below w1.heap.size w1 wr ∧ ∀ i o, i < j → (os.map OpM.pure)[i]? = some o → fineP o = true) (fun i _ => m - (intOf i).toNat)
  case atStart => exact ⟨0, Nat.zero_le _, rfl, Below.refl _ _, fun i f h => by omega⟩
  case round =>
    obtain ⟨j, hj, rfl, hB, ht⟩ := hrel
    have hBw : Below w.heap.size w wr := hb1.trans (hB.mono hb1.size)
    by_cases hlt : j < m
    · obtain ⟨b, off, o, rfl, hbl, ho, o0, o1, o2, o3, _, hk1, hk2⟩ := (hr.on hBw hBw.size).at_ hlt
      have hj2 : (0 : Int) ≤ (j : Int) := by omega
      have hj3 : (j : Int) < (m : Int) := by omega
      have hw1 : IntKind.i64.wrap ((j : Int) + 1) = ((j + 1 : Nat) : Int) := by rw [IntKind.wrap_i64]; omega
      have hl1 : (os.map OpM.pure)[j]? = some o.pure := by rw [List.getElem?_map, ho]; rfl
      have hom : o.pure ∈ os.map OpM.pure := List.mem_of_getElem? hl1
      have hB2 := hB.alloc hB.size (.cells #[.int .u8 o.kind, .string o.name, .string o.to, .slice o.p.A o.p.n o.p.c] 28)
      have hlk := ops_look (k := o.kind) (hg.below (hB2.block g hg.lt)) ⟨hk1, hk2⟩
      have Hb := Lib.hid (hBw.alloc hBw.size (.cells #[.int .u8 o.kind, .string o.name, .string o.to, .slice o.p.A o.p.n o.p.c] 28))
      have HB2 := Lib.hid hB2
      have Ht := Lib.hid (show fineP o.pure = true → ∀ i o', i < j + 1 → (os.map OpM.pure)[i]? = some o' → fineP o' = true from fun hf i o' hi ho' => by
        by_cases hij : i = j
        · subst hij
          rw [hl1] at ho'
          cases ho'
          exact hf
        · exact ht i o' (by omega) ho')
      have Hno := Lib.hid (show fineP o.pure = false → ¬ ∀ o ∈ os.map OpM.pure, fineP o = true from fun hf h => by have := h _ hom; rw [hf] at this; cases this)
      have Hf := Lib.hid (fine_iff o.pure)
      obtain ⟨v, hv⟩ : ∃ v, v = (if o.kind = 1 then fnV 65 else if o.kind = 2 then fnV 66 else if o.kind = 3 then fnV 67 else if o.kind = 4 then fnV 68 else .nilFunc) := ⟨_, rfl⟩
      rw [← hv] at hlk
      clear ht hl1 hom ho hB2 hg hb1 hBw hv
      by_cases hk : 1 ≤ o.kind ∧ o.kind ≤ 4
      · rw [decide_eq_true hk] at hlk
        by_cases he : o.name = ByteArray.empty
        · have t1 : o.name.toList = [] := (nil_name _).2 he
          have t2 : (o.name.toList == []) = true := by rw [t1]; rfl
          have He := Lib.hid (show fineP o.pure = false from bool_no fun h => absurd he ((Hf.out.1 h).2.2.1))
          clear hk he
          go_wp2_with fail
          go_ret
          exact ⟨says_no (Hno.out He.out), Hb.out⟩
        · have t1 : ¬ o.name.toList = [] := fun e => he ((nil_name _).1 e)
          have t2 : (o.name.toList == []) = false := by simpa using t1
          by_cases h3 : o.kind = 3
          · by_cases ht : o.to = ByteArray.empty
            · have t3 : o.to.toList = [] := (nil_name _).2 ht
              have t4 : (o.to.toList == []) = true := by rw [t3]; rfl
              have He := Lib.hid (show fineP o.pure = false from bool_no fun h => absurd ht ((Hf.out.1 h).2.2.2 h3))
              have t5 : (o.kind == 3) = true := by rw [h3]; rfl
              have t6 : decide (o.kind = 3) = true := decide_eq_true h3
              clear hk he ht h3
              go_wp2_with fail
              go_ret
              exact ⟨says_no (Hno.out He.out), Hb.out⟩
            · have t3 : ¬ o.to.toList = [] := fun e => ht ((nil_name _).1 e)
              have t4 : (o.to.toList == []) = false := by simpa using t3
              have He := Lib.hid (Ht.out (Hf.out.2 ⟨hk.1, hk.2, he, fun _ => ht⟩))
              have t5 : (o.kind == 3) = true := by rw [h3]; rfl
              have t6 : decide (o.kind = 3) = true := decide_eq_true h3
              clear hk he ht h3
              go_wp2_with fail
              go_roundw
              case rel => exact ⟨j + 1, by omega, by go_num, HB2.out, He.out⟩
              case measure => simp [intOf]; omega
          · have He := Lib.hid (Ht.out (Hf.out.2 ⟨hk.1, hk.2, he, fun e => absurd e h3⟩))
            have t5 : (o.kind == 3) = false := by simpa using h3
            have t6 : decide (o.kind = 3) = false := decide_eq_false h3
            clear hk he
            go_wp2_with fail
            go_roundw
            case rel => exact ⟨j + 1, by omega, by go_num, HB2.out, He.out⟩
            case measure => simp [intOf]; omega
      · rw [decide_eq_false hk] at hlk
        have He := Lib.hid (show fineP o.pure = false from bool_no fun h => absurd ⟨(Hf.out.1 h).1, (Hf.out.1 h).2.1⟩ hk)
        clear hk
        go_wp2_with fail
        go_ret
        exact ⟨says_no (Hno.out He.out), Hb.out⟩
    · obtain rfl : j = m := by omega
      have He := Lib.hid (mem_of_take (l := os.map OpM.pure) (p := fun o => fineP o = true) (n := j) (by rw [List.length_map, Hl.out]) ht)
      have Hb := Lib.hid hBw
      clear ht hb1 hg
      go_wp2_with fail
      go_ret
      exact ⟨says_yes He.out, Hb.out⟩

end Go.Proofs.Ytmfiopopiikbmaa
