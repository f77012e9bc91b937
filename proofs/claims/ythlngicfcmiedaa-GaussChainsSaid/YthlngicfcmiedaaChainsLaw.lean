/-
  GaussChains's walk: it returns true, and turns nothing that lay.
-/
import Derived.Test.YthlngicfcmiedaaAppend
namespace Go.Proofs.Ythlngicfcmiedaa
open Go.RowKit

theorem tmod_low (a : Int) {n : Nat} (hn : 0 < n) : ∃ q : Int, a.tmod n = q ∧ -(n : Int) < q ∧ q < n := by
  refine ⟨_, rfl, ?_⟩
  by_cases h : 0 ≤ a
  · rw [Int.tmod_eq_emod_of_nonneg h]
    have h1 := Int.emod_nonneg a (show (n : Int) ≠ 0 by omega)
    have h2 := Int.emod_lt_of_pos a (show (0 : Int) < n by omega)
    omega
  · have h0 := Int.neg_tmod (-a) n
    rw [Int.neg_neg, Int.tmod_eq_emod_of_nonneg (a := -a) (by omega)] at h0
    rw [h0]
    have h1 := Int.emod_nonneg (-a) (show (n : Int) ≠ 0 by omega)
    have h2 := Int.emod_lt_of_pos (-a) (show (0 : Int) < n by omega)
    omega
theorem place_of (q : Int) {n : Nat} (hn : 0 < n) : ∃ j : Nat, (q + n) % n = (j : Int) ∧ j < n := by
  have h1 := Int.emod_nonneg (q + n) (show (n : Int) ≠ 0 by omega)
  have h2 := Int.emod_lt_of_pos (q + n) (show (0 : Int) < n by omega)
  exact ⟨((q + n) % n).toNat, by omega, by omega⟩
theorem byte_nat (a : Nat) (ha : a < 256) : (BitVec.ofInt 8 (a : Int)).toNat = a := by
  rw [BitVec.ofInt_natCast, BitVec.toNat_ofNat]
  omega
theorem xor_nat (a b : Nat) (ha : a < 256) (hb : b < 256) : bits .xor .u8 (a : Int) (b : Int) = ((a ^^^ b : Nat) : Int) := by
  have hx : a ^^^ b < 256 := Nat.xor_lt_two_pow (n := 8) ha hb
  show IntKind.u8.wrap ((BitVec.ofInt 8 (a : Int) ^^^ BitVec.ofInt 8 (b : Int)).toNat : Int) = _
  rw [BitVec.toNat_xor, byte_nat a ha, byte_nat b hb, IntKind.wrap_u8]
  omega
theorem xor_byte {x y : Int} (hx : 0 ≤ x ∧ x ≤ 255) (hy : 0 ≤ y ∧ y ≤ 255) (h0 : ¬ y = 0) : ∃ z : Int, bits .xor .u8 x y = z ∧ (0 ≤ z ∧ z ≤ 255) ∧ z ≠ x := by
  have e := xor_nat x.toNat y.toNat (by omega) (by omega)
  rw [show ((x.toNat : Nat) : Int) = x by omega, show ((y.toNat : Nat) : Int) = y by omega] at e
  have hlt : x.toNat ^^^ y.toNat < 256 := Nat.xor_lt_two_pow (n := 8) (by omega) (by omega)
  refine ⟨_, e, by omega, fun h => h0 ?_⟩
  have h1 : x.toNat ^^^ y.toNat = x.toNat := by omega
  have h2 : x.toNat ^^^ (x.toNat ^^^ y.toNat) = x.toNat ^^^ x.toNat := by rw [h1]
  rw [← Nat.xor_assoc, Nat.xor_self, Nat.zero_xor] at h2
  omega

set_option maxRecDepth 100000 in
set_option maxHeartbeats 1000000 in
theorem chains_great (A : Option Addr) (n c : Nat) (A' : Option Addr) (n' c' : Nat) (at_ by_ : Int) (w : World) (h : 400 < n ∨ 400 < n') :
    Calls Try.prog 5 #[.slice A n c, .slice A' n' c', .int .i64 at_, .int .u8 by_] w fun e w' => e = .returned (.bool true) ∧ Below w.heap.size w w' := by
  by_cases h1 : 400 < n
  · have hd : decide ((400 : Int) < (n : Int)) = true := by simp; omega
    go_enter Try.func5, Try.ntmps5
    go_wp2_with fail
    refine (wakes_any w).mono ?_
    rintro e w' ⟨rfl, hb⟩
    go_wp2_with fail
    go_ret
    exact ⟨rfl, hb⟩
  · have hd : decide ((400 : Int) < (n : Int)) = false := by simp; omega
    have hd2 : decide ((400 : Int) < (n' : Int)) = true := by simp; omega
    go_enter Try.func5, Try.ntmps5
    go_wp2_with fail
    refine (wakes_any w).mono ?_
    rintro e w' ⟨rfl, hb⟩
    go_wp2_with fail
    go_ret
    exact ⟨rfl, hb⟩

set_option maxRecDepth 100000 in
set_option maxHeartbeats 1000000 in
theorem chains_in (A : Option Addr) (n c : Nat) (l : List Int) (A' : Option Addr) (n' c' : Nat) (m : List Int) (at_ by_ : Int) (w : World) (hr : Rd w w.heap.size .u8 A n l) (hl : Byt l) (hr' : Rd w w.heap.size .u8 A' n' m) (hl' : Byt m) (hn : n ≤ 400) (hn' : n' ≤ 400) (hby : 0 ≤ by_ ∧ by_ ≤ 255) :
    Calls Try.prog 5 #[.slice A n c, .slice A' n' c', .int .i64 at_, .int .u8 by_] w fun e w' => e = .returned (.bool true) ∧ Below w.heap.size w w' := by
  have hd : decide ((400 : Int) < (n : Int)) = false := by simp; omega
  have hd2 : decide ((400 : Int) < (n' : Int)) = false := by simp; omega
  have Hl := Lib.hid hr.1
  have Hm := Lib.hid hr'.1
  obtain ⟨i0, hi, hz0, hz1, hz2⟩ := info_parts info_u8
  go_enter Try.func5, Try.ntmps5
  go_wp2_with fail
  refine (chain_one _ _ _ rfl (.inl Pt.zero) hr hl (by omega)).mono ?_
  rintro e w1 ⟨⟨x1, y1, rfl, p1⟩, hB⟩
  have hsz := hB.size
  go_wp2_with fail
  refine (chain_one _ _ _ rfl (.inl p1) (hr'.on hB hsz) hl' (by omega)).mono ?_
  rintro e w2 ⟨⟨x2, y2, rfl, p2⟩, hb⟩
  replace hB : Below w.heap.size w w2 := hB.trans (hb.mono hsz)
  clear hb hsz
  have hsz := hB.size
  go_wp2_with fail
  refine (chain_two _ _ _ rfl (.inl Pt.zero) (hr.on hB hsz) hl (by omega) (hr'.on hB hsz) hl' (by omega)).mono ?_
  rintro e w3 ⟨⟨x3, y3, rfl, p3⟩, hb⟩
  replace hB : Below w.heap.size w w3 := hB.trans (hb.mono hsz)
  clear hb hsz
  have hsz := hB.size
  obtain ⟨o1, o2⟩ := p2.order p3 (chainP_append _ _ _).symm
  go_wp2_with (at_builtin; refine hold ?_)
  refine unhold (wpList_append_rdg (.tmp 36) (.tmp 37) 26 Try.underlying26 hi hz0 hz1 hz2 byte_cells (own_empty w3 w3.heap.size 5 (Nat.le_refl _)) ((hr.on hB hsz).below ((Below.refl _ w3).alloc (Nat.le_refl _) _)) (by unfold maxLen; omega) (by omega) (by simp) rfl rfl rfl rfl ?_)
  intro v1 w8 L3
  have hb8 : Below w3.heap.size w3 w8 := L3.below ((Below.refl _ w3).alloc (Nat.le_refl _) _) (by simp) (fun g hg => by simp [Value.ownBlock] at hg; omega)
  go_wp2_with (at_builtin; refine hold ?_)
  refine unhold (wpList_append_rdg (.tmp 38) (.tmp 39) 26 Try.underlying26 hi hz0 hz1 hz2 byte_cells L3.1 ((hr'.on hB hsz).below hb8) (by unfold maxLen; omega) (by omega) hb8.size rfl rfl rfl rfl ?_)
  intro v2 w9 L4
  obtain ⟨⟨A9, c9, rfl, hc9, r9⟩, hb9⟩ := L3.two L4
  rw [Nat.zero_add] at r9 hc9
  replace hB : Below w.heap.size w w9 := hB.trans (hb9.mono hsz)
  clear hb9 hb8 hsz L3 L4
  have hsz := hB.size
  go_wp2_with fail
  refine (chain_one _ _ _ rfl (.inl Pt.zero) r9 (hl.append hl') (by omega)).mono ?_
  rintro e w4 ⟨⟨x4, y4, rfl, p4⟩, hb⟩
  replace hB : Below w.heap.size w w4 := hB.trans (hb.mono hsz)
  clear hb hsz r9
  have hsz := hB.size
  obtain ⟨o3, o4⟩ := p2.order p4 (chainP_append _ _ _).symm
  go_wp2_with fail
  refine (chain_none _ (.inl p1)).mono ?_
  rintro e w5 ⟨⟨x5, y5, rfl, p5⟩, hb⟩
  replace hB : Below w.heap.size w w5 := hB.trans (hb.mono hsz)
  clear hb hsz
  have hsz := hB.size
  obtain ⟨o5, o6⟩ := p5.order p1 rfl
  by_cases h0 : n' = 0
  · have hd3 : ((n' : Int) == 0) = true := by simp; omega
    go_wp2_with fail
    refine (wakes_any _).mono ?_
    rintro e w' ⟨rfl, hbw⟩
    go_wp2_with fail
    go_ret
    exact ⟨rfl, hB.trans (hbw.mono hsz)⟩
  · have hd3 : ((n' : Int) == 0) = false := by simp; omega
    by_cases h1 : by_ = 0
    · subst h1
      go_wp2_with fail
      refine (wakes_any _).mono ?_
      rintro e w' ⟨rfl, hbw⟩
      go_wp2_with fail
      go_ret
      exact ⟨rfl, hB.trans (hbw.mono hsz)⟩
    · have hd4 : (by_ == 0) = false := by simpa using h1
      obtain ⟨q, hq, q0, q1⟩ := tmod_low at_ (show 0 < n' by omega)
      obtain ⟨j, hj, hjn⟩ := place_of q (show 0 < n' by omega)
      obtain ⟨X, hX, hX0, hX1⟩ := xor_byte (hl'.at_ j) hby h1
      have hn0 : ¬ (n' : Int) = 0 := by omega
      go_wp2_with (at_builtin; refine hold ?_)
      refine unhold (wpList_append_rdg (.tmp 69) (.tmp 70) 26 Try.underlying26 hi hz0 hz1 hz2 byte_cells (own_empty w5 w5.heap.size 5 (Nat.le_refl _)) ((hr'.on hB hsz).below ((Below.refl _ w5).alloc (Nat.le_refl _) _)) (by unfold maxLen; omega) (by omega) (by simp) rfl rfl rfl rfl ?_)
      intro v1 w6 L5
      have hb6 : Below w5.heap.size w5 w6 := L5.below ((Below.refl _ w5).alloc (Nat.le_refl _) _) (by simp) (fun g hg => by simp [Value.ownBlock] at hg; omega)
      have own := L5.1
      rw [Nat.zero_add, List.nil_append] at own
      obtain ⟨g, cap, rfl, hge, hgl⟩ := own.form (show 0 < n' by omega)
      have hfj := own.frozenAt j
      have hlt : j < m.length := by rw [Hm.out]; exact hjn
      have hcj : w6.cell? ⟨g, j, none⟩ = some (.int .u8 (m[j]?.getD 0)) := by
        rw [own.cellAt j (by omega), List.getElem?_map, List.getElem?_eq_getElem hlt]
        rfl
      obtain ⟨own2, hg2⟩ := own.stored j (.int .u8 X)
      rw [← List.map_set] at own2
      have Hr := Lib.hid (Rd.of_own own2)
      have hby2 : Byt (m.set j X) := fun x hx => by
        rcases List.mem_or_eq_of_mem_set hx with h | h
        · exact hl' x h
        · rw [h]; exact hX0
      have Hne := Lib.hid (chainP_set (p := chainP (0, 0) l) hlt hl' hX0 hX1)
      replace hB : Below w.heap.size w (w6.setCell ⟨g, j, none⟩ (.int .u8 X)) := (hB.trans (hb6.mono hsz)).setCell (by show w.heap.size ≤ g; omega) _
      clear own2 own L5 hb6 hsz hX1 hlt hg2
      have hsz := hB.size
      go_wp2_with fail
      refine (chain_one _ _ _ (by simp) (.inl p1) Hr.out hby2 (by omega)).mono ?_
      rintro e w7 ⟨⟨x7, y7, rfl, p7⟩, hb⟩
      replace hB : Below w.heap.size w w7 := hB.trans (hb.mono hsz)
      clear hb hsz
      have hsz := hB.size
      have hne : ((FloatKind.f64.format.order x7 x2 == some .eq) && (FloatKind.f64.format.order y7 y2 == some .eq)) = false := by
        rw [p7.same p2, decide_eq_false_iff_not]
        exact Hne.out
      go_wp2_with fail
      refine (wakes_any _).mono ?_
      rintro e w' ⟨rfl, hbw⟩
      go_wp2_with fail
      go_ret
      exact ⟨rfl, hB.trans (hbw.mono hsz)⟩

theorem chains_any (A : Option Addr) (n c : Nat) (l : List Int) (A' : Option Addr) (n' c' : Nat) (m : List Int) (at_ by_ : Int) (w : World) (hr : Rd w w.heap.size .u8 A n l) (hl : Byt l) (hr' : Rd w w.heap.size .u8 A' n' m) (hl' : Byt m) (hby : (Lit.int .u8 by_).wf = true) :
    Calls Try.prog 5 #[.slice A n c, .slice A' n' c', .int .i64 at_, .int .u8 by_] w fun e w' => e = .returned (.bool true) ∧ Below w.heap.size w w' := by
  simp only [Lit.wf, Bool.and_eq_true, decide_eq_true_eq] at hby
  by_cases h : 400 < n ∨ 400 < n'
  · exact chains_great A n c A' n' c' at_ by_ w h
  · exact chains_in A n c l A' n' c' m at_ by_ w hr hl hr' hl' (by omega) (by omega) hby

end Go.Proofs.Ythlngicfcmiedaa
