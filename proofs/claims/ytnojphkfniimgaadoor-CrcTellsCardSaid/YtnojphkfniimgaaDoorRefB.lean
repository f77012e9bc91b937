/-
  moultref03: Put, Take: their contracts.
-/
import Derived.Test.YtnojphkfniimgaaDoorRefA
import Derived.Test.YtnojphkfniimgaaDoorAppend
import Derived.Test.YtnojphkfniimgaaDoorOpenArr
import Derived.Test.YtnojphkfniimgaaDoorSame
import Derived.Deep.RegionHeld3
import Derived.Deep.AppendLies
namespace Go.Proofs.YtnojphkfniimgaaDoor
open Go.RowKit

theorem fourI_four {x : Int} (h : 0 ≤ x ∧ x < 4294967296) : natL (fourI x) = bytesN x.toNat := by
  unfold natL fourI bytesN
  simp only [List.map_cons, List.map_nil, List.cons.injEq, and_true]
  omega
theorem fourI_byt {x : Int} (h : 0 ≤ x ∧ x < 4294967296) : Byt (fourI x) := by
  intro y hy
  simp [fourI] at hy
  omega
/-- An append that is a region's step, of a slice that is read. -/
theorem step_append_rd {P : Program} {w : World} {base B : Nat} {e : TypeId} {i : TypeInfo} {z : Value} {bytes n m c : Nat} {v : Value} {xs : List Value} {A : Option Addr} {R : List Int} {k : IntKind}
    {ops : Array Oper} {o : Oper} {a : Act} {K : Act → World → Prop} {Q : Exit → Act → World → Prop} {E : Prop} (s x : Operand) (t : TypeId) (hgd : o.guard = none)
    (ho : o.op = .call { callee := .builtin .append, args := #[s, x], argTypes := #[t, t] })
    (ht : P.underlying t = some (.slice e)) (hi : P.info? e = some i) (hz : i.zero = some z) (h1 : i.size = 1) (h2 : i.bytes = bytes) (hzs : z.cells.size = 1)
    (hs : a.eval s = v) (hx : a.eval x = .slice A m c) (hown : w.ownsRow base e 1 v n xs) (hr : Rd w B k A m R) (b1 : n + m ≤ maxLen) (b2 : (n + m) * bytes ≤ 140737488355328) (b3 : base ≤ w.heap.size)
    (h : ∀ v' w', Longer base e w v (n + m) (xs ++ R.map (Value.int k)) v' w' → K (a.put o.dst v') w') :
    if Region.wanted o (yielded ops a.tmps) = true then Oper.wp P o a w K Q else E := by
  have hw : Region.wanted o (yielded ops a.tmps) = true := by simp [Region.wanted, hgd]
  rw [if_pos hw]
  exact wp_append_rd s x t ht hi hz h1 h2 hzs hown hr b1 b2 b3 ho hs hx h

/-- Where an appended row lies: where it lay, or in a new block. -/
theorem Longer.new {base B : Nat} {e : TypeId} {w w' : World} {v v' : Value} {n : Nat} {xs : List Value} (h : Longer base e w v n xs v' w') (hv : ∀ g, v.ownBlock = some g → B ≤ g) (hB : B ≤ w.heap.size) : ∀ g, v'.ownBlock = some g → B ≤ g := by
  intro g hg
  rcases h.2.2 with e1 | e1
  · exact hv g (by rw [← e1]; exact hg)
  · rw [e1] at hg
    have := Option.some.inj hg
    omega

set_option maxRecDepth 100000 in
set_option maxHeartbeats 1000000 in
theorem rput_any (A : Option Addr) (n c : Nat) (l : List Int) (w : World) (hr : Rd w w.heap.size .u8 A n l) (hb : Byt l) (hn : n ≤ 1048576) :
    Calls Tryd.prog 15 #[.slice A n c] w fun e w' => (∃ x A' c', Is32 x (sumN (natL l)) ∧ e = .returned (.slice A' (n + 4) c') ∧ n + 4 ≤ c' ∧ Rd w' w'.heap.size .u8 A' (n + 4) (l ++ fourI x)) ∧ Below w.heap.size w w' := by
  obtain ⟨i0, hi, hz0, hz1, hz2⟩ := info_parts info_u8
  go_enter Tryd.func15, Tryd.ntmps15
  go_wp2_with fail
  refine (rsum_any _ 1 1 [⟨A, n, c, l⟩] _ (Rds.made w _ [⟨A, n, c, l⟩] rfl (fun q hq => by
    obtain rfl := List.mem_singleton.1 hq
    exact ⟨hr, hb, by simp only; omega⟩)) (by omega)).mono ?_
  rintro e w1 ⟨⟨x, rfl, hx⟩, hb1⟩
  have hB : Below w.heap.size w w1 := ((Below.refl _ w).alloc (Nat.le_refl _) _).trans (hb1.mono (by simp))
  rw [flat_cons, flat_nil, List.append_nil] at hx
  have Hx := Lib.hid hx
  have hx0 := hx.1
  clear hx hb1
  have hsz := hB.size
  go_wp2_with fail
  refine (rfour_any x _ hx0).mono ?_
  rintro e w2 ⟨rfl, hb2⟩
  replace hB : Below w.heap.size w w2 := hB.trans (hb2.mono hsz)
  clear hb2 hsz
  have hsz := hB.size
  go_wp2_with fail
  obtain ⟨g, hg⟩ : ∃ g, g = w2.heap.size := ⟨_, rfl⟩
  obtain ⟨w3, hw3⟩ : ∃ w3, w3 = w2.alloc (.cells #[.int .u8 (x % 256), .int .u8 (x / 256 % 256), .int .u8 (x / 65536 % 256), .int .u8 (x / 16777216)] 33) := ⟨_, rfl⟩
  have hq3 : Rd w3 w3.heap.size .u8 (some ⟨g, 0, none⟩) 4 (fourI x) := by rw [hw3]; exact Rd.made w2 .u8 33 (fourI x) hg
  have hB3 : Below w.heap.size w w3 := by rw [hw3]; exact hB.alloc hsz _
  have hr3 : Rd w3 w3.heap.size .u8 A n l := hr.on hB3 hB3.size
  rw [← hw3, ← hg]
  clear hw3 hg hB hsz
  go_region_held3 (fun W => Below w3.heap.size w3 W)
    (first | assumption | exact Below.refl _ _ | exact (Below.refl _ _).drew | exact (Below.refl _ w3).alloc (Nat.le_refl _) _ | exact ((Below.refl _ w3).alloc (Nat.le_refl _) _).drew)
    (first
      | ((refine step_append_rd (.tmp 8) (.tmp 9) 25 (by rfl) (by rfl) Tryd.underlying25 hi hz0 hz1 hz2 byte_cells (by rfl) (by rfl) ((own_empty w3 w3.heap.size 5 (Nat.le_refl _)).drew) (hr3.below (((Below.refl _ w3).alloc (Nat.le_refl _) _).drew)) (by unfold maxLen; omega) (by omega) (by simp) ?_; intro v1 w4 L3; have hS4 : Below w3.heap.size w3 w4 := L3.below (((Below.refl _ w3).alloc (Nat.le_refl _) _).drew) (by simp) (fun g hg => by simp [Value.ownBlock] at hg; omega)))
      | ((refine step_append_rd (.tmp 10) (.tmp 11) 25 (by rfl) (by rfl) Tryd.underlying25 hi hz0 hz1 hz2 byte_cells (by rfl) (by rfl) L3.1 (hq3.below hS4) (by unfold maxLen; omega) (by omega) hS4.size ?_; intro v2 w5 L4; have hS5 : Below w3.heap.size w3 w5 := L4.below hS4 hS4.size (L3.new (fun g hg => by simp [Value.ownBlock] at hg; omega) (by simp)))))
  have own := L4.1
  rw [Nat.zero_add, List.nil_append, ← List.map_append] at own
  obtain ⟨A', c', rfl, hc', hr'⟩ := own_rd own
  clear L3 L4 own
  go_wp2
  go_ret
  exact ⟨⟨x, A', c', Hx.out, rfl, hc', hr'⟩, hB3.trans (hS5.mono hB3.size)⟩


/-- A row's sum. -/
def sumI (l : List Int) : Int := ((sumN (natL l) : Nat) : Int)
theorem sumI_range (l : List Int) : 0 ≤ sumI l ∧ sumI l < 4294967296 := by
  have := nextN_lt 0 (natL l)
  unfold sumI sumN
  omega
theorem Is32.sum {x : Int} {l : List Int} (h : Is32 x (sumN (natL l))) : x = sumI l := by
  have h1 := h.1
  have h2 := h.2
  unfold sumI
  omega
/-- Are a row's last four bytes those of the sum of what stands ahead? -/
def okB (l : List Int) : Bool := decide (4 ≤ l.length) && eqB (l.take (l.length - 4) ++ fourI (sumI (l.take (l.length - 4)))) l
/-- What Take answers. -/
def TakeOut (l : List Int) (e : Ending) (w' : World) : Prop :=
  (okB l = false ∧ e = .returned (.tuple #[.slice none 0 0, .bool false])) ∨
  (okB l = true ∧ ∃ A c, e = .returned (.tuple #[.slice A (l.length - 4) c, .bool true]) ∧ l.length - 4 ≤ c ∧ Rd w' w'.heap.size .u8 A (l.length - 4) (l.take (l.length - 4)))

set_option maxRecDepth 100000 in
set_option maxHeartbeats 1000000 in
theorem rtake_few (A : Option Addr) (n c : Nat) (w : World) (h : n < 4) :
    Calls Tryd.prog 10 #[.slice A n c] w fun e w' => e = .returned (.tuple #[.slice none 0 0, .bool false]) ∧ Below w.heap.size w w' := by
  have hd : decide ((n : Int) - 4 < 0) = true := by simp; omega
  go_enter Tryd.func10, Tryd.ntmps10
  go_wp2_with fail
  go_quiet (fail)
  go_wp2
  go_ret2
  exact ⟨rfl, below_drewN (Below.refl _ _) _⟩

set_option maxRecDepth 100000 in
set_option maxHeartbeats 1000000 in
theorem rtake_in (A : Option Addr) (n c : Nat) (l : List Int) (w : World) (hr : Rd w w.heap.size .u8 A n l) (hb : Byt l) (hnc : n ≤ c) (hn : 4 ≤ n ∧ n ≤ 1048576) :
    Calls Tryd.prog 10 #[.slice A n c] w fun e w' => TakeOut l e w' ∧ Below w.heap.size w w' := by
  obtain ⟨i0, hi, hz0, hz1, hz2⟩ := info_parts info_u8
  have hd : decide ((n : Int) - 4 < 0) = false := by simp; omega
  obtain ⟨k, hk⟩ : ∃ k : Nat, (n : Int) - 4 = (k : Int) := ⟨n - 4, by omega⟩
  have hkn : k ≤ n := by omega
  have hkc : (k : Int) ≤ (c : Int) := by omega
  have hk0 : (0 : Int) ≤ (k : Int) := Int.natCast_nonneg _
  have Hk := Lib.hid hk
  have hc0 : ∀ W, Below w.heap.size w W → (convert 25 9 (.slice A n c)).run Tryd.prog W = .ok (.string (txt l)) W := fun W hW =>
    run_txt 25 9 5 Tryd.underlying25 Tryd.underlying5 Tryd.underlying9 (hr.below hW)
  go_enter Tryd.func10, Tryd.ntmps10
  go_wp2_with fail
  go_region_held (fun W => Below w.heap.size w W)
    (first | assumption | exact Below.refl _ _ | exact (Below.refl _ _).drew)
    (first
      | (go_at_call 15; refine (rput_any A k c (l.take k) _ ((hr.below (Below.refl _ w).drew).first hkn) (hb.take k) (by omega)).mono ?_; rintro e w4 ⟨⟨x, A', c', hx, rfl, hc', hr'⟩, hb4⟩; have hS4 : Below w.heap.size w w4 := (Below.refl _ w).drew.trans hb4; have hc4 := run_txt (P := Tryd.prog) (c := c') 25 9 5 Tryd.underlying25 Tryd.underlying5 Tryd.underlying9 hr'))
  obtain rfl : x = sumI (l.take k) := hx.sum
  have Ht := Lib.hid (txt_beq ((hb.take k).append (fourI_byt hx.1)) hb)
  have Hkl := Lib.hid (show l.length - 4 = k by have := hr.1; omega)
  have H4 := Lib.hid (show decide (4 ≤ l.length) = true by rw [hr.1]; simp; omega)
  clear hb4 hc4 hc0 hx hr' hk
  have hkf : decide ((k : Int) < 0) = false := by simp
  obtain ⟨bv, hbv⟩ : ∃ bv, ((txt (l.take k ++ fourI (sumI (l.take k)))).toList == (txt l).toList) = bv := ⟨_, rfl⟩
  rw [hbv, hkf]
  have heq : eqB (l.take k ++ fourI (sumI (l.take k))) l = bv := by rw [← Ht.out, hbv]
  clear hbv hkf
  cases bv
  · have Hf : Hid (okB l = false) := by unfold okB; rw [Hkl.out, H4.out, heq]; rfl
    clear heq
    go_wp2
    go_ret2
    exact ⟨.inl ⟨Hf.out, rfl⟩, hS4⟩
  · have Hf : Hid (okB l = true) := by unfold okB; rw [Hkl.out, H4.out, heq]; rfl
    clear heq
    have hsz := hS4.size
    go_wp2_with (at_builtin; refine hold ?_)
    refine unhold (wpList_append_rdg (.tmp 20) (.tmp 23) 25 Tryd.underlying25 hi hz0 hz1 hz2 byte_cells (own_empty w4 w4.heap.size 5 (Nat.le_refl _)) (((hr.on hS4 hsz).below ((Below.refl _ w4).alloc (Nat.le_refl _) _)).first hkn) (by unfold maxLen; omega) (by omega) (by simp) rfl rfl rfl rfl ?_)
    intro v1 w5 L3
    have hb5 : Below w4.heap.size w4 w5 := L3.below ((Below.refl _ w4).alloc (Nat.le_refl _) _) (by simp) (fun g hg => by simp [Value.ownBlock] at hg; omega)
    have own := L3.1
    rw [Nat.zero_add, List.nil_append] at own
    obtain ⟨A', c', rfl, hc', hr'⟩ := own_rd own
    clear L3 own
    go_wp2_with fail
    go_ret2
    exact ⟨.inr ⟨Hf.out, A', c', by rw [Hkl.out]; rfl, by rw [Hkl.out]; exact hc', by rw [Hkl.out]; exact hr'⟩, hS4.trans (hb5.mono hsz)⟩

end Go.Proofs.YtnojphkfniimgaaDoor
