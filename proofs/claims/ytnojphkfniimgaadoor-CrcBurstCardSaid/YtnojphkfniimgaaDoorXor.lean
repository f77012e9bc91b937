/-
  Rows put together by exclusive or, as whole numbers; 'make' of a row of the call's own.
-/
import Derived.Test.YtnojphkfniimgaaDoorHeld
namespace Go.Proofs.YtnojphkfniimgaaDoor
open Go.RowKit

/-! ### Three rows put together -/
theorem byte_nat (a : Nat) (ha : a < 256) : (BitVec.ofInt 8 (a : Int)).toNat = a := by
  rw [BitVec.ofInt_natCast, BitVec.toNat_ofNat]
  omega
theorem xor_nat (a b : Nat) (ha : a < 256) (hb : b < 256) : bits .xor .u8 (a : Int) (b : Int) = ((a ^^^ b : Nat) : Int) := by
  have hx : a ^^^ b < 256 := Nat.xor_lt_two_pow (n := 8) ha hb
  show IntKind.u8.wrap ((BitVec.ofInt 8 (a : Int) ^^^ BitVec.ofInt 8 (b : Int)).toNat : Int) = _
  rw [BitVec.toNat_xor, byte_nat a ha, byte_nat b hb, IntKind.wrap_u8]
  omega
theorem xor_int {x y : Int} (hx : 0 ≤ x ∧ x ≤ 255) (hy : 0 ≤ y ∧ y ≤ 255) : bits .xor .u8 x y = ((x.toNat ^^^ y.toNat : Nat) : Int) := by
  have e := xor_nat x.toNat y.toNat (by omega) (by omega)
  rwa [show ((x.toNat : Nat) : Int) = x by omega, show ((y.toNat : Nat) : Int) = y by omega] at e
theorem xor_int_range (x y : Int) (hx : 0 ≤ x ∧ x ≤ 255) (hy : 0 ≤ y ∧ y ≤ 255) : 0 ≤ ((x.toNat ^^^ y.toNat : Nat) : Int) ∧ ((x.toNat ^^^ y.toNat : Nat) : Int) ≤ 255 := by
  have hlt : x.toNat ^^^ y.toNat < 256 := Nat.xor_lt_two_pow (n := 8) (by omega) (by omega)
  omega
/-- Two rows, by exclusive or. -/
def xorI (l m : List Int) : List Int := (xorL (natL l) (natL m)).map fun x : Nat => (x : Int)
theorem natL_cast (l : List Nat) : natL (l.map fun x : Nat => (x : Int)) = l := by
  unfold natL
  rw [List.map_map]
  exact (List.map_congr_left (fun x _ => Int.toNat_natCast x)).trans (List.map_id l)
theorem natL_xorI (l m : List Int) : natL (xorI l m) = xorL (natL l) (natL m) := natL_cast _
theorem natL_length (l : List Int) : (natL l).length = l.length := List.length_map ..
theorem xorI_length {l m : List Int} (h : l.length = m.length) : (xorI l m).length = l.length := by
  unfold xorI
  rw [List.length_map, xorL_length (by rw [natL_length, natL_length, h]), natL_length]
theorem xorI_byt {l m : List Int} (hl : Byt l) (hm : Byt m) : Byt (xorI l m) := fun x hx => by
  obtain ⟨y, hy, rfl⟩ := List.mem_map.1 hx
  have := xorL_byt _ _ (natL_byt hl) (natL_byt hm) y hy
  omega
theorem xorI_at {l m : List Int} {k : Nat} (hl : k < l.length) (hm : k < m.length) : (xorI l m)[k]? = some (((l[k]?.getD 0).toNat ^^^ (m[k]?.getD 0).toNat : Nat) : Int) := by
  unfold xorI xorL natL
  simp [List.getElem?_zipWith, List.getElem?_eq_getElem hl, List.getElem?_eq_getElem hm]
/-- A row of noughts, filled from its head on. -/
theorem fill_set {L : List Int} {n k : Nat} {v : Int} (hL : L.length = n) (hk : k < n) (hv : L[k]? = some v) : (L.take k ++ List.replicate (n - k) 0).set k v = L.take (k + 1) ++ List.replicate (n - (k + 1)) 0 := by
  have h1 : (L.take k).length = k := by rw [List.length_take]; omega
  rw [List.set_append_right _ _ (by omega), h1, Nat.sub_self, show n - k = (n - (k + 1)) + 1 by omega, List.replicate_succ, List.set_cons_zero, List.take_add_one, hv]
  simp
theorem fill_all {L : List Int} {n : Nat} (hL : L.length = n) : L.take n ++ List.replicate (n - n) 0 = L := by
  rw [Nat.sub_self, List.replicate_zero, List.append_nil, List.take_of_length_le (by omega)]

/-- 'make' of n noughts: a row of the call's own. -/
theorem wpList_make_mine {P : Program} {w : World} {ops : Array Oper} {rest : List Oper} {o : Oper} {a : Act} {Q : Exit → Act → World → Prop} {t e : TypeId} {i : TypeInfo} {kl kc : IntKind} {n : Nat}
    (hg : o.guard = none) (l c : Operand) (hop : o.op = Op.makeSlice t l c) (h1 : P.underlying t = some (.slice e)) (h2 : P.info? e = some i) (h3 : i.zero = some (.int .u8 0)) (h4 : i.size = 1) (h5 : i.bytes = 1)
    (hl : a.eval l = .int kl n) (hc : a.eval c = .int kc n) (b2 : n ≤ 1048576)
    (hK : ∀ w', w'.ownsRow w.heap.size e 1 (.slice (some ⟨w.heap.size, 0, none⟩) n n) n ((List.replicate n (0 : Int)).map (Value.int .u8)) → Below w.heap.size w w' → wpList P ops Q rest (a.put o.dst (.slice (some ⟨w.heap.size, 0, none⟩) n n)) w') :
    wpList P ops Q (o :: rest) a w := by
  refine wpList_plain hg fun K hK' => ?_
  obtain ⟨w', hrun, r1, r2⟩ := run_makeSlice_full (P := P) w w.heap.size t e i _ 1 h1 h2 h3 h4 kl kc n (by omega) (by rw [h5]; omega) (by unfold maxLen; omega) (Nat.le_refl _)
  rw [made_list] at r1
  unfold Oper.wp
  simp [execOp, hop, hl, hc, hrun, Result.andThen]
  exact hK' _ _ (hK w' r1 ((Below.refl _ w).grown r2 (Nat.le_refl _) (fun k e => by cases e)))

/-- Three sums. -/
theorem sum_three_xor {l m o : List Int} (h1 : l.length = m.length) (h2 : l.length = o.length) (hl : Byt l) (hm : Byt m) (ho : Byt o) :
    ∃ z, bits .xor .u32 (sumI l) (sumI m) = z ∧ bits .xor .u32 z (sumI o) = sumI (xorI (xorI l m) o) := by
  obtain ⟨z, e1, r1, t1⟩ := u32_xor (sumI_range l) (sumI_range m)
  obtain ⟨y, e2, r2, t2⟩ := u32_xor r1 (sumI_range o)
  refine ⟨z, e1, e2.trans ?_⟩
  have h := sumN_three (a := natL l) (b := natL m) (c := natL o) (by rw [natL_length, natL_length, h1]) (by rw [natL_length, natL_length, h2]) (natL_byt hl) (natL_byt hm) (natL_byt ho)
  have e : ∀ l : List Int, (sumI l).toNat = sumN (natL l) := fun l => Int.toNat_natCast _
  rw [t1, e, e, e, ← h, ← natL_xorI, ← natL_xorI] at t2
  unfold sumI
  omega
theorem step_three {s t h k : Int} (hs : 0 ≤ s ∧ s < 4294967296) (ht : 0 ≤ t ∧ t < 4294967296) (hh : 0 ≤ h ∧ h ≤ 255) (hk : 0 ≤ k ∧ k ≤ 255) :
    ∃ y q, bits .xor .u32 s t = y ∧ bits .xor .u8 h k = q ∧ (0 ≤ y ∧ y < 4294967296) ∧ (0 ≤ q ∧ q ≤ 255) ∧
      bits .xor .u32 ((stepN s.toNat h.toNat : Nat) : Int) ((stepN t.toNat k.toNat : Nat) : Int) = ((stepN y.toNat q.toNat : Nat) : Int) := by
  obtain ⟨y, e1, r1, t1⟩ := u32_xor hs ht
  refine ⟨y, _, e1, xor_int hh hk, r1, xor_int_range h k hh hk, ?_⟩
  rw [u32_xor_nat _ _ (stepN_lt _ (by omega)) (stepN_lt _ (by omega)), t1, Int.toNat_natCast, stepN_xor]

end Go.Proofs.YtnojphkfniimgaaDoor
