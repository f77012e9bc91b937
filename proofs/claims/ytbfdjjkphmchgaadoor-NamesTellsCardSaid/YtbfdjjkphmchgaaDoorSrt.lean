/-
  slices.swapRangeCmpFunc, rotateCmpFunc at idents: their contracts. A row of idents of a call's own, by an array.
-/
import Derived.Test.YtbfdjjkphmchgaaDoorOrd
import Derived.Test.YtbfdjjkphmchgaaDoorRow
import Derived.Test.YtbfdjjkphmchgaaDoorBel
import Derived.Test.YtbfdjjkphmchgaaDoorSymA
import Derived.BigRegion
import Derived.BigQuiet
import Derived.RegionTactic
namespace Go.Proofs.YtbfdjjkphmchgaaDoor
open Go.RowKit Go.Sort
set_option linter.unusedVariables false
set_option linter.unusedSimpArgs false

instance : Inhabited IdP := ⟨⟨0, 0, 0⟩⟩
theorem IdP.one (x : IdP) : ∀ u ∈ x.cs, u.oneCell' = true := fun u hu => by
  simp only [IdP.cs, List.mem_cons, List.not_mem_nil, or_false] at hu
  rcases hu with rfl | rfl | rfl <;> rfl
/-- The row g of the call's own holds d. -/
def Srt (W : World) (base g n c : Nat) (d : Array IdP) : Prop := d.size = n ∧ W.ownsRow base 23 3 (.slice (some ⟨g, 0, none⟩) n c) n (d.toList.flatMap IdP.cs)
/-- An ident stored at a place. -/
def putI (W : World) (g i : Nat) (y : IdP) : World := ((W.setCell ⟨g, i * 3, none⟩ (.int .u8 y.kind)).setCell ⟨g, i * 3 + 1, none⟩ (.int .i64 y.seq)).setCell ⟨g, i * 3 + 2, none⟩ (.int .i64 y.fmt)
theorem flat_set {l : List IdP} {i : Nat} (h : i < l.length) (y : IdP) : (((l.flatMap IdP.cs).set (i * 3) (.int .u8 y.kind)).set (i * 3 + 1) (.int .i64 y.seq)).set (i * 3 + 2) (.int .i64 y.fmt) = (l.set i y).flatMap IdP.cs := by
  induction l generalizing i with
  | nil => simp at h
  | cons x l ih =>
    cases i with
    | zero => rfl
    | succ i =>
      have h1 := ih (i := i) (by simpa using h)
      rw [List.set_cons_succ, List.flatMap_cons, List.flatMap_cons, ← h1]
      have e : ∀ (k : Nat) (L : List Value) (v : Value), (x.cs ++ L).set (k + 3) v = x.cs ++ L.set k v := fun k L v => by
        rw [List.set_append_right _ _ (by rw [IdP.len]; omega), IdP.len]
        congr 1
      rw [show (i + 1) * 3 = i * 3 + 3 by omega, e, show i * 3 + 3 + 1 = i * 3 + 1 + 3 by omega, e, show i * 3 + 3 + 2 = i * 3 + 2 + 3 by omega, e]
section
variable {W W' : World} {base g n c : Nat} {d : Array IdP}
theorem Srt.cells (h : Srt W base g n c d) {i : Nat} (hi : i < n) : W.cell? ⟨g, i * 3, none⟩ = some (.int .u8 (d[i]!).kind) ∧ W.cell? ⟨g, i * 3 + 1, none⟩ = some (.int .i64 (d[i]!).seq) ∧ W.cell? ⟨g, i * 3 + 2, none⟩ = some (.int .i64 (d[i]!).fmt) := by
  have hs : i < d.size := by rw [h.1]; exact hi
  have hl : d.toList[i]? = some d[i]! := by rw [Array.getElem?_toList, Array.getElem?_eq_getElem hs, getElem!_pos d i hs]
  have hf : ∀ j, j < 3 → (d.toList.flatMap IdP.cs)[i * 3 + j]? = (d[i]!).cs[j]? := fun j hj => by
    rw [flat_get IdP.cs (by omega) IdP.len, show (i * 3 + j) / 3 = i by omega, show (i * 3 + j) % 3 = j by omega, hl]; rfl
  have h0 := hf 0 (by omega)
  have h1 := hf 1 (by omega)
  have h2 := hf 2 (by omega)
  rw [Nat.add_zero] at h0
  refine ⟨?_, ?_, ?_⟩
  · rw [h.2.cellAt _ (by omega), h0]; rfl
  · rw [h.2.cellAt _ (by omega), h1]; rfl
  · rw [h.2.cellAt _ (by omega), h2]; rfl
theorem Srt.frozen (h : Srt W base g n c d) (p : Nat) : W.frozen? ⟨g, p, none⟩ = false := h.2.frozenAt p
theorem Srt.put (h : Srt W base g n c d) {i : Nat} (hi : i < n) (y : IdP) : Srt (putI W g i y) base g n c (d.setIfInBounds i y) := by
  refine ⟨by rw [Array.size_setIfInBounds, h.1], ?_⟩
  have e := flat_set (l := d.toList) (i := i) (by rw [Array.length_toList, h.1]; exact hi) y
  rw [Array.toList_setIfInBounds, ← e]
  exact (((h.2.stored (i * 3) _).1).stored (i * 3 + 1) _).1.stored (i * 3 + 2) _ |>.1
theorem Srt.lt (h : Srt W base g n c d) : base ≤ g ∧ g < W.heap.size := h.2.lt g rfl
theorem Srt.on (h : Srt W base g n c d) (hb : Below W.heap.size W W') : Srt W' base g n c d := ⟨h.1, h.2.kept (row := none) ⟨hb.os, hb.tape, hb.output, hb.size, fun j hj _ => hb.block j hj⟩ (by
    rcases h.2.2 with ⟨h0, _⟩ | ⟨g', cap, cur, h0, _⟩
    · cases h0
    · exact .inr (by simp [Value.ownBlock]))⟩
theorem putI_below {B : Nat} {w : World} (hg : B ≤ g) (i : Nat) (y : IdP) (h : Below B w W) : Below B w (putI W g i y) :=
  ((h.setCell (p := ⟨g, i * 3, none⟩) hg _).setCell (p := ⟨g, i * 3 + 1, none⟩) hg _).setCell (p := ⟨g, i * 3 + 2, none⟩) hg _
end

/-- The exchange. -/
theorem Srt.swap {W : World} {base g n c : Nat} {d : Array IdP} (h : Srt W base g n c d) {i j : Nat} (hi : i < n) (hj : j < n) {x y : IdP} (hx : d[i]! = x) (hy : d[j]! = y) : Srt (putI (putI W g i y) g j x).drew base g n c (swp d i j) := by
  have h1 := (h.put hi y).put hj x
  rw [← hx, ← hy] at h1
  subst hx hy
  exact h1.on (Below.refl _ _).drew
theorem swap_below {W w : World} {B g : Nat} (hg : B ≤ g) (h : Below B w W) (i j : Nat) (x y : IdP) : Below B w (putI (putI W g i y) g j x).drew := (putI_below hg j x (putI_below hg i y h |> fun h => h) |> fun h => h).drew

set_option maxRecDepth 100000 in
set_option maxHeartbeats 4000000 in
theorem swapRange_any (base g n c : Nat) (d : Array IdP) (a b q : Nat) (fv : Value) (w : World) (X P M Q Y : List IdP) (hs : Srt w base g n c d) (hn : n ≤ 1000) (hd : d.toList = X ++ (P ++ (M ++ (Q ++ Y)))) (ha : X.length = a) (hp : P.length = q) (hq : Q.length = q) (hb : X.length + P.length + M.length = b) :
    Calls Tryd.prog 54 #[.slice (some ⟨g, 0, none⟩) n c, .int .i64 (a : Int), .int .i64 (b : Int), .int .i64 (q : Int), fv] w fun e w' => e = .returned (.tuple #[]) ∧ (∃ d', Srt w' base g n c d' ∧ d'.toList = X ++ (Q ++ (M ++ (P ++ Y)))) ∧ Below base w w' := by
  have hlen : a + q + M.length + q + Y.length = n := by
    have h1 := congrArg List.length hd
    rw [Array.length_toList, hs.1] at h1
    simp only [List.length_append] at h1
    omega
  have hbn : b + q ≤ n ∧ a + q ≤ b := by omega
  have HD := Lib.hid (⟨hd, ha, hp, hq, hb, hs⟩ : _ ∧ _ ∧ _ ∧ _ ∧ _ ∧ _)
  clear hd ha hp hq hb hs hlen
  go_enter Tryd.func54, Tryd.ntmps54
  go_wp2_with fail
  go_loopw [10] (fun v wr => ∃ (i : Nat) (d' : Array IdP), v = .int .i64 (i : Int) ∧ i ≤ q ∧ Srt wr base g n c d' ∧ d'.toList = X ++ ((Sym.swapped P Q i).1 ++ (M ++ ((Sym.swapped P Q i).2 ++ Y))) ∧ Below base w wr) (fun v _ => q - (intOf v).toNat)
  case atStart => exact ⟨0, d, rfl, Nat.zero_le _, HD.out.2.2.2.2.2, by rw [Sym.swapped_zero]; exact HD.out.1, Below.refl _ _⟩
  obtain ⟨i, d', rfl, hi, hs, hd', hB⟩ := hrel
  by_cases hlt : i < q
  · obtain ⟨ai, hai⟩ : ∃ k, k = a + i := ⟨_, rfl⟩
    obtain ⟨bi, hbi⟩ : ∃ k, k = b + i := ⟨_, rfl⟩
    have hw1 : IntKind.i64.wrap ((a : Int) + (i : Int)) = (ai : Int) := by rw [IntKind.wrap_i64] <;> omega
    have hw2 : IntKind.i64.wrap ((b : Int) + (i : Int)) = (bi : Int) := by rw [IntKind.wrap_i64] <;> omega
    have hn1 : ai < n := by omega
    have hn2 : bi < n := by omega
    obtain ⟨x, hx⟩ : ∃ x, d'[ai]! = x := ⟨_, rfl⟩
    obtain ⟨y, hy⟩ : ∃ y, d'[bi]! = y := ⟨_, rfl⟩
    have hsd := hs
    obtain ⟨k0, k1, k2⟩ := hsd.cells hn1
    obtain ⟨m0, m1, m2⟩ := hsd.cells hn2
    rw [hx] at k0 k1 k2
    rw [hy] at m0 m1 m2
    have f0 := hsd.frozen (ai * 3)
    have f1 := hsd.frozen (ai * 3 + 1)
    have f2 := hsd.frozen (ai * 3 + 2)
    have hs1 := hsd.put hn1 y
    obtain ⟨p0, p1, p2⟩ := hs1.cells hn2
    have q0 := hs1.frozen (bi * 3)
    have q1 := hs1.frozen (bi * 3 + 1)
    have q2 := hs1.frozen (bi * 3 + 2)
    unfold putI at p0 p1 p2 q0 q1 q2
    have HS := Lib.hid (⟨hs, hd', hB, hx, hy, hai, hbi⟩ : _ ∧ _ ∧ _ ∧ _ ∧ _ ∧ _ ∧ _)
    clear hs hd' hB hx hy hai hbi hsd hs1
    go_wp2_with fail
    go_region
    go_wp2_with fail
    go_roundw
    case rel =>
      obtain ⟨hs, hd', hB, hx, hy, hai, hbi⟩ := HS.out
      obtain ⟨-, ha, hp, hq, hb, -⟩ := HD.out
      have h1 := Sym.swap_round (d := d') hd' (by omega) (by omega)
      rw [ha, ← hai] at h1
      rw [show a + P.length + M.length + i = bi by omega] at h1
      exact ⟨i + 1, swp d' ai bi, by go_num, by omega, hs.swap hn1 hn2 hx hy, h1, swap_below hs.lt.1 hB ai bi x y⟩
    case measure => simp [intOf]; omega
  · obtain rfl : i = q := by omega
    have HS := Lib.hid (⟨hs, hd', hB⟩ : _ ∧ _ ∧ _)
    clear hs hd' hB
    go_wp2_with fail
    go_end0
    refine ⟨rfl, ⟨d', HS.out.1, ?_⟩, HS.out.2.2⟩
    have h1 := HS.out.2.1
    rw [← HD.out.2.2.1, Sym.swapped_all (by rw [HD.out.2.2.1, HD.out.2.2.2.1])] at h1
    exact h1

/-- What the walk of rotate asks of a turn. -/
theorem turn_form {X P M Q Y : List IdP} : X ++ P ++ M ++ Q ++ Y = X ++ (P ++ (M ++ (Q ++ Y))) := by simp
theorem turn_form2 {X P Q Y : List IdP} : X ++ P ++ Q ++ Y = X ++ (P ++ ([] ++ (Q ++ Y))) := by simp

set_option maxRecDepth 100000 in
set_option maxHeartbeats 4000000 in
theorem rotate_any (base g n c : Nat) (d : Array IdP) (a m b : Nat) (fv : Value) (w : World) (X U V Y : List IdP) (hs : Srt w base g n c d) (hn : n ≤ 1000) (hd : d.toList = X ++ U ++ V ++ Y) (ha : X.length = a) (hm : a + U.length = m) (hb : m + V.length = b) (hu : 0 < U.length) (hv : 0 < V.length) :
    Calls Tryd.prog 48 #[.slice (some ⟨g, 0, none⟩) n c, .int .i64 (a : Int), .int .i64 (m : Int), .int .i64 (b : Int), fv] w fun e w' => e = .returned (.tuple #[]) ∧ (∃ d', Srt w' base g n c d' ∧ d'.toList = X ++ V ++ U ++ Y) ∧ Below base w w' := by
  have hbn : b ≤ n := by
    have h1 := congrArg List.length hd
    rw [Array.length_toList, hs.1] at h1
    simp only [List.length_append] at h1
    omega
  obtain ⟨T, hT⟩ : ∃ T, T = X ++ V ++ U ++ Y := ⟨_, rfl⟩
  obtain ⟨i0, hi0⟩ : ∃ i, U.length = i := ⟨_, rfl⟩
  obtain ⟨j0, hj0⟩ : ∃ j, V.length = j := ⟨_, rfl⟩
  rw [hi0] at hm hu
  rw [hj0] at hb hv
  have hturn : Sym.Turns T a m d.toList i0 j0 := ⟨X, U, V, Y, hd, hi0, hj0, by omega, by omega, hT⟩
  have hw1 : IntKind.i64.wrap ((m : Int) - (a : Int)) = (i0 : Int) := by rw [IntKind.wrap_i64] <;> omega
  have hw2 : IntKind.i64.wrap ((b : Int) - (m : Int)) = (j0 : Int) := by rw [IntKind.wrap_i64] <;> omega
  have HD := Lib.hid (⟨hs, hturn, hT⟩ : _ ∧ _ ∧ _)
  have hb0 : i0 + j0 ≤ 1000 ∧ m + j0 ≤ 1000 := by omega
  have HB0 := Lib.hid (⟨hu, hv, hm, hb, hbn⟩ : _ ∧ _ ∧ _ ∧ _ ∧ _)
  clear hd hs hturn hT hi0 hj0 ha hu hv hm hb hbn
  rw [← HD.out.2.2]
  go_enter Tryd.func48, Tryd.ntmps48
  go_wp2_with fail
  clear hw1 hw2
  go_loopw [10, 11] (fun iv jv wr => ∃ (i j : Nat) (d' : Array IdP), iv = .int .i64 (i : Int) ∧ jv = .int .i64 (j : Int) ∧ 0 < i ∧ 0 < j ∧ i + j ≤ i0 + j0 ∧ Srt wr base g n c d' ∧ Sym.Turns T a m d'.toList i j ∧ Below base w wr) (fun iv jv _ => (intOf iv).toNat + (intOf jv).toNat)
  case atStart => exact ⟨i0, j0, d, rfl, rfl, HB0.out.1, HB0.out.2.1, Nat.le_refl _, HD.out.1, HD.out.2.1, Below.refl _ _⟩
  obtain ⟨i, j, d', rfl, rfl, hi, hj, hij, hs, ht, hB⟩ := hrel
  by_cases heq : i = j
  · subst heq
    obtain ⟨X', P, Q, Y', he, hP, hQ, hX, hTe⟩ := ht.last
    rw [turn_form2] at he
    have hsw := swapRange_any base g n c d' X'.length m i fv wr X' P [] Q Y' hs (by have := HB0.out; omega) he rfl hP hQ (by simp; omega)
    have hw3 : IntKind.i64.wrap ((m : Int) - (i : Int)) = (X'.length : Int) := by rw [IntKind.wrap_i64] <;> omega
    have HS := Lib.hid (⟨hB, hTe⟩ : _ ∧ _)
    clear hs ht hB he hP hQ hX hTe
    go_wp2_with fail
    refine hsw.mono ?_
    rintro e w2 ⟨rfl, ⟨d2, hs2, hd2⟩, hb2⟩
    have H2 := Lib.hid (⟨hs2, hd2, HS.out.1.trans hb2⟩ : _ ∧ _ ∧ _)
    clear hs2 hd2 hb2 hsw
    go_wp2_with fail
    go_end0
    exact ⟨rfl, ⟨d2, H2.out.1, by rw [H2.out.2.1, HS.out.2]; simp⟩, H2.out.2.2⟩
  · have hne : ((i : Int) == (j : Int)) = false := by simp; omega
    have hne' : ¬ ((i : Int) = (j : Int)) := by omega
    by_cases hlt : j < i
    · have hgt : decide ((j : Int) < (i : Int)) = true := by simp; omega
      obtain ⟨X', P, M, Q, Y', he, hP, hQ, hX, hX2, ht2⟩ := ht.more hlt hj
      rw [turn_form] at he ht2
      have hsw := swapRange_any base g n c d' X'.length m j fv wr X' P M Q Y' hs (by have := HB0.out; omega) he rfl hP hQ hX2
      have hw3 : IntKind.i64.wrap ((m : Int) - (i : Int)) = (X'.length : Int) := by rw [IntKind.wrap_i64] <;> omega
      obtain ⟨ij, hij'⟩ : ∃ k, k = i - j := ⟨_, rfl⟩
      have hw4 : IntKind.i64.wrap ((i : Int) - (j : Int)) = (ij : Int) := by rw [IntKind.wrap_i64] <;> omega
      have hij2 : 0 < ij ∧ ij + j ≤ i0 + j0 ∧ ij < i := by omega
      rw [← hij'] at ht2
      have HS := Lib.hid (⟨hB, ht2⟩ : _ ∧ _)
      clear hs ht hB he hP hQ hX hX2 ht2 hij' heq
      go_wp2_with fail
      refine hsw.mono ?_
      rintro e w2 ⟨rfl, ⟨d2, hs2, hd2⟩, hb2⟩
      have H2 := Lib.hid (⟨hs2, hd2, HS.out.1.trans hb2⟩ : _ ∧ _ ∧ _)
      clear hs2 hd2 hb2 hsw
      go_wp2_with fail
      go_roundw
      case rel => exact ⟨ij, j, d2, rfl, rfl, hij2.1, hj, hij2.2.1, H2.out.1, by rw [H2.out.2.1]; exact HS.out.2, H2.out.2.2⟩
      case measure => simp [intOf]; omega
    · have hgt : decide ((j : Int) < (i : Int)) = false := by simp; omega
      have hlt2 : i < j := by omega
      obtain ⟨X', P, M, Q, Y', he, hP, hQ, hX, hX2, ht2⟩ := ht.less hlt2
      rw [turn_form] at he ht2
      obtain ⟨ij, hij'⟩ : ∃ k, k = j - i := ⟨_, rfl⟩
      obtain ⟨mj, hmj⟩ : ∃ k, k = m + j := ⟨_, rfl⟩
      obtain ⟨mi, hmi⟩ : ∃ k, k = m + (j - i) := ⟨_, rfl⟩
      have hsw := swapRange_any base g n c d' X'.length mi i fv wr X' P M Q Y' hs (by have := HB0.out; omega) he rfl hP hQ (by omega)
      have hw3 : IntKind.i64.wrap ((m : Int) - (i : Int)) = (X'.length : Int) := by rw [IntKind.wrap_i64] <;> omega
      have hw4 : IntKind.i64.wrap ((j : Int) - (i : Int)) = (ij : Int) := by rw [IntKind.wrap_i64] <;> omega
      have hw5 : IntKind.i64.wrap ((m : Int) + (j : Int)) = (mj : Int) := by rw [IntKind.wrap_i64] <;> omega
      have hw6 : IntKind.i64.wrap ((mj : Int) - (i : Int)) = (mi : Int) := by rw [IntKind.wrap_i64] <;> omega
      have hij2 : 0 < ij ∧ i + ij ≤ i0 + j0 ∧ ij < j := by omega
      rw [← hij'] at ht2
      have HS := Lib.hid (⟨hB, ht2⟩ : _ ∧ _)
      clear hs ht hB he hP hQ hX hX2 ht2 hij' hmj hmi heq
      go_wp2_with fail
      refine hsw.mono ?_
      rintro e w2 ⟨rfl, ⟨d2, hs2, hd2⟩, hb2⟩
      have H2 := Lib.hid (⟨hs2, hd2, HS.out.1.trans hb2⟩ : _ ∧ _ ∧ _)
      clear hs2 hd2 hb2 hsw
      go_wp2_with fail
      go_roundw
      case rel => exact ⟨i, ij, d2, rfl, rfl, hi, hij2.1, hij2.2.1, H2.out.1, by rw [H2.out.2.1]; exact HS.out.2, H2.out.2.2⟩
      case measure => simp [intOf]; omega

end Go.Proofs.YtbfdjjkphmchgaaDoor
