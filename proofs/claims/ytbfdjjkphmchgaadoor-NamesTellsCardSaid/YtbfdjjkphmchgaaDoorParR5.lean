/-
  What the document's Parse reads, told plainly: digits, the number so far; a name of a numbered file.
-/
import Derived.Test.YtbfdjjkphmchgaaDoorParse
namespace Go.Proofs.YtbfdjjkphmchgaaDoor
open Go.RowKit Go.Lib
set_option linter.unusedVariables false
set_option linter.unusedSimpArgs false

/-- The number that digits say, behind what stood there. -/
def numN (t : Nat) (l : List UInt8) : Nat := l.foldl (fun s c => s * 10 + (c.toNat - 48)) t
theorem num_snoc (t : Nat) (l : List UInt8) (c : UInt8) : numN t (l ++ [c]) = numN t l * 10 + (c.toNat - 48) := by
  unfold numN
  rw [List.foldl_append]
  rfl
theorem num_ge : ∀ (l : List UInt8) (t : Nat), t ≤ numN t l
  | [], t => Nat.le_refl _
  | c :: l, t => Nat.le_trans (by omega) (num_ge l (t * 10 + (c.toNat - 48)))
theorem num_app (t : Nat) (a b : List UInt8) : numN t (a ++ b) = numN (numN t a) b := by
  unfold numN
  rw [List.foldl_append]
theorem num_take (l : List UInt8) (k : Nat) : numN 0 (l.take k) ≤ numN 0 l := by
  have h := num_ge (l.drop k) (numN 0 (l.take k))
  rwa [← num_app, List.take_append_drop] at h
theorem num_dec (u : Nat) : numN 0 (decDigits u) = u := by
  induction u using Nat.strongRecOn with
  | _ u ih =>
    by_cases h : u < 10
    · rw [decDigits_one h]
      show 0 * 10 + ((UInt8.ofNat (48 + u)).toNat - 48) = u
      rw [UInt8.toNat_ofNat_of_lt' (by simp [UInt8.size]; omega)]
      omega
    · rw [decDigits, dif_neg h, num_snoc, ih (u / 10) (by omega), UInt8.toNat_ofNat_of_lt' (by simp [UInt8.size]; omega)]
      omega
theorem dig_le (k : Nat) : ∀ u, u < 10 ^ (k + 1) → nDigits u ≤ k + 1 := by
  induction k with
  | zero => intro u h; rw [nDigits_small (by simpa using h)]; exact Nat.le_refl _
  | succ k ih =>
    intro u h
    by_cases h10 : u < 10
    · rw [nDigits_small h10]; omega
    · rw [nDigits_big h10]
      have := ih (u / 10) (by rw [Nat.pow_succ] at h; omega)
      omega

/-- What may be is what its name says. -/
theorem parse_told {x : IdP} (h : MayP x) : parseP (nameP x) = (x, true) := by
  have e : (nameP x).data.toList = txtP x := by rw [(name_yes h).1]
  have h2 : apartF (nameP x).data.toList = x := by rw [e, apart_txt h]
  rw [parse_yes (by rw [h2]; exact ⟨h, rfl⟩), h2]
/-- A name of a numbered file. -/
structure Seg (bs : List UInt8) (x : IdP) : Prop where
  seq : 1 ≤ x.seq ∧ x.seq ≤ 1073741824
  kind : x.kind = 3 ∨ x.kind = 4
  fmt : x.fmt = 1 ∨ x.fmt = 2
  eq : bs = (if x.kind = 3 then 115 else 112) :: (decDigits x.seq.toNat ++ [46, UInt8.ofNat (48 + x.fmt.toNat)])
/-- A name says nothing, or it is one of the two, or of a numbered file. -/
theorem parse_ways (nm : ByteArray) : parseP nm = (⟨0, 0, 0⟩, false) ∨ nm = ⟨#[77]⟩ ∨ nm = ⟨#[77, 46, 110, 101, 119]⟩ ∨ ∃ x, Seg nm.data.toList x ∧ MayP x ∧ nameP x = nm := by
  by_cases h : MayP (apartF nm.data.toList) ∧ nameP (apartF nm.data.toList) = nm
  · obtain ⟨hM, hN⟩ := h
    obtain ⟨x, hx⟩ : ∃ x, x = apartF nm.data.toList := ⟨_, rfl⟩
    rw [← hx] at hM hN
    have e : nm.data.toList = txtP x := by rw [← hN, (name_yes hM).1]
    have hM2 := hM
    rcases hM with ⟨hk, hs, hf⟩ | ⟨hk, h1, h2, hf⟩
    · have hnm := hN
      rw [(name_yes hM2).1] at hnm
      unfold txtP at hnm
      rcases hk with hk | hk
      · rw [if_pos hk] at hnm
        exact .inr (.inl hnm.symm)
      · rw [if_neg (by omega), if_pos hk] at hnm
        exact .inr (.inr (.inl hnm.symm))
    · exact .inr (.inr (.inr ⟨x, ⟨⟨h1, h2⟩, hk, hf, by rw [e, txt_seg ⟨h1, h2⟩ hk hf]⟩, hM2, hN⟩))
  · exact .inl (parse_no h)
section
variable {bs : List UInt8} {x : IdP}
theorem Seg.len (h : Seg bs x) : bs.length = nDigits x.seq.toNat + 3 := by
  rw [h.eq, List.length_cons, List.length_append, decDigits_length]
  rfl
theorem Seg.bound (h : Seg bs x) : 4 ≤ bs.length ∧ bs.length ≤ 13 := by
  have h1 := h.len
  have h2 := nDigits_pos x.seq.toNat
  have h3 := dig_le 9 x.seq.toNat (by have := h.seq; omega)
  omega
theorem Seg.mid (h : Seg bs x) : (bs.drop 1).take (bs.length - 3) = decDigits x.seq.toNat := by
  have h1 := h.len
  rw [h1, h.eq, List.drop_succ_cons, List.drop_zero, Nat.add_sub_cancel, ← decDigits_length, List.take_left]
theorem Seg.dig (h : Seg bs x) {i : Nat} {c : UInt8} (h1 : 1 ≤ i) (h2 : i < bs.length - 2) (hc : bs[i]? = some c) : isDig c = true := by
  refine dec_dig x.seq.toNat c ?_
  rw [← h.mid]
  refine List.mem_of_getElem? (i := i - 1) ?_
  rw [List.getElem?_take_of_lt (by omega), List.getElem?_drop, show 1 + (i - 1) = i by omega, hc]
theorem Seg.num (h : Seg bs x) {i : Nat} (h2 : i ≤ bs.length - 2) : numN 0 ((bs.drop 1).take (i - 1)) ≤ 1073741824 := by
  have e : (bs.drop 1).take (i - 1) = ((bs.drop 1).take (bs.length - 3)).take (i - 1) := by rw [List.take_take, Nat.min_eq_left (by omega)]
  rw [e]
  refine Nat.le_trans (num_take _ _) ?_
  rw [h.mid, num_dec]
  have := h.seq
  omega
theorem Seg.all (h : Seg bs x) : (numN 0 ((bs.drop 1).take (bs.length - 3)) : Int) = x.seq := by
  rw [h.mid, num_dec]
  have := h.seq
  omega
theorem Seg.first (h : Seg bs x) : bs[0]? = some (if x.kind = 3 then 115 else 112) := by rw [h.eq]; rfl
theorem Seg.last (h : Seg bs x) : bs[bs.length - 1]? = some (UInt8.ofNat (48 + x.fmt.toNat)) := by
  have h1 := h.len
  rw [h1, h.eq, show nDigits x.seq.toNat + 3 - 1 = nDigits x.seq.toNat + 1 + 1 by omega, List.getElem?_cons_succ, List.getElem?_append_right (by rw [decDigits_length]; omega), decDigits_length, show nDigits x.seq.toNat + 1 - nDigits x.seq.toNat = 1 by omega]
  rfl
end

end Go.Proofs.YtbfdjjkphmchgaaDoor
