/-
  moultlaw05.NamesOrder: it returns true.
-/
import Derived.Test.YtbfdjjkphmchgaaDoorClone
import Derived.Test.YtbfdjjkphmchgaaDoorIds
import Derived.Test.YtbfdjjkphmchgaaDoorWakes
namespace Go.Proofs.YtbfdjjkphmchgaaDoor
open Go.RowKit Go.Maps
set_option linter.unusedVariables false
set_option linter.unusedSimpArgs false

/-- The three boxes. -/
def Trio (w : World) (q : Nat) (x y z : IdP) (W : World) : Prop := BoxI W q x ∧ BoxI W (q + 1) y ∧ BoxI W (q + 2) z ∧ Below w.heap.size w W
theorem Trio.on {w : World} {q : Nat} {x y z : IdP} {W W' : World} (h : Trio w q x y z W) (hb : Below W.heap.size W W') : Trio w q x y z W' :=
  ⟨h.1.below hb, h.2.1.below hb, h.2.2.1.below hb, below_on h.2.2.2 hb⟩
theorem Ids.cells {w : World} {B n b off : Nat} {l : List IdP} (h : Ids w B (some ⟨b, off, none⟩) n l) {k : Nat} {x : IdP} (hx : l[k]? = some x) :
    b < B ∧ w.cell? ⟨b, off + k * 3, none⟩ = some (.int .u8 x.kind) ∧ w.cell? ⟨b, off + k * 3 + 1, none⟩ = some (.int .i64 x.seq) ∧ w.cell? ⟨b, off + k * 3 + 2, none⟩ = some (.int .i64 x.fmt) := by
  have hk : k < n := by rw [← h.1]; exact (List.getElem?_eq_some_iff.1 hx).1
  obtain ⟨b', off', x', e, hb, hf, c0, c1, c2⟩ := Ids.get h hk
  cases e
  rw [hx] at hf
  cases hf
  exact ⟨hb, c0, c1, c2⟩
theorem less_asymm {x y : IdP} (h : LessP x y) : ¬ LessP y x := by
  unfold LessP at *
  omega
theorem less_irrefl (x : IdP) : ¬ LessP x x := by
  unfold LessP
  omega
theorem less_trans {x y z : IdP} (h : LessP x y) (h' : LessP y z) : LessP x z := by
  unfold LessP at *
  omega
theorem less_total {x y : IdP} (h : ¬ LessP x y) (h' : ¬ LessP y x) : x = y := by
  unfold LessP at *
  exact IdP.ext_ (by omega) (by omega) (by omega)
/-- How often: in the sorted less in the given, of the first k. -/
def cntI (r l : List IdP) (y : IdP) (k : Nat) : Int := ((r.take k).count y : Int) - ((l.take k).count y : Int)
theorem count_next (y : IdP) {l : List IdP} {k : Nat} {x : IdP} (h : l[k]? = some x) : (l.take (k + 1)).count y = (l.take k).count y + if x = y then 1 else 0 := by
  rw [List.take_add_one, h, List.count_append]
  by_cases e : x = y
  · subst e; simp
  · simp [e]
theorem cnt_zero (r l : List IdP) (y : IdP) : cntI r l y 0 = 0 := by simp [cntI]
theorem cnt_next {r l : List IdP} {y a b : IdP} {k : Nat} (ha : r[k]? = some a) (hb : l[k]? = some b) : cntI r l y (k + 1) = cntI r l y k + (if a = y then 1 else 0) - (if b = y then 1 else 0) := by
  unfold cntI
  rw [count_next y ha, count_next y hb]
  by_cases e1 : a = y <;> by_cases e2 : b = y <;> simp [e1, e2] <;> omega
theorem cnt_bound (r l : List IdP) (y : IdP) (k : Nat) (h : k ≤ 40) : -40 ≤ cntI r l y k ∧ cntI r l y k ≤ 40 := by
  have h1 := List.count_le_length (a := y) (l := r.take k)
  have h2 := List.count_le_length (a := y) (l := l.take k)
  rw [List.length_take] at h1 h2
  unfold cntI
  omega
theorem cnt_all {r l : List IdP} (h : r.Perm l) (y : IdP) {n : Nat} (hr : r.length = n) (hl : l.length = n) : cntI r l y n = 0 := by
  unfold cntI
  rw [List.take_of_length_le (by omega), List.take_of_length_le (by omega), h.count_eq]
  omega
theorem ord_get {r : List IdP} (h : Sym.Ord LEo r) {i j : Nat} {a b : IdP} (hij : i < j) (ha : r[i]? = some a) (hb : r[j]? = some b) : ¬ LessP b a := by
  obtain ⟨h1, rfl⟩ := List.getElem?_eq_some_iff.1 ha
  obtain ⟨h2, rfl⟩ := List.getElem?_eq_some_iff.1 hb
  exact List.pairwise_iff_getElem.1 h i j h1 h2 hij

set_option maxRecDepth 100000 in
set_option maxHeartbeats 8000000 in
theorem order_all (x y z : IdP) (A : Option Addr) (n c : Nat) (l : List IdP) (w : World) (hP : Pow w) (hl : Ids w w.heap.size A n l) :
    Calls Tryd.prog 5 #[x.v, y.v, z.v, .slice A n c] w fun e w' => e = .returned (.bool true) ∧ Below w.heap.size w w' := by
  have HP := Lib.hid (⟨hP, hl⟩ : _ ∧ _)
  have L1 := Lib.hid hl.1
  clear hP hl
  go_enter Tryd.func5, Tryd.ntmps5
  unfold IdP.v
  by_cases h40 : 40 < n
  · have t0 : decide ((40 : Int) < (n : Int)) = true := by simp; omega
    go_wp2_with fail
    refine (wakes_true _ (HP.out.1.on (below_al (below_al (below_al (below_d0 w) _) _) _))).mono ?_
    rintro e w1 ⟨rfl, hb1⟩
    go_wp2_with fail
    go_ret
    exact ⟨rfl, below_on (below_al (below_al (below_al (below_d0 w) _) _) _) hb1⟩
  have t0 : decide ((40 : Int) < (n : Int)) = false := by simp; omega
  go_upto_region 3 with fail
  obtain ⟨q, hq⟩ : ∃ q, q = w.heap.size := ⟨_, rfl⟩
  obtain ⟨wa, hwa⟩ : ∃ wa, wa = w.alloc (.cells #[.int .u8 x.kind, .int .i64 x.seq, .int .i64 x.fmt] 23) := ⟨_, rfl⟩
  obtain ⟨wb, hwb⟩ : ∃ wb, wb = wa.alloc (.cells #[.int .u8 y.kind, .int .i64 y.seq, .int .i64 y.fmt] 23) := ⟨_, rfl⟩
  obtain ⟨w0, hw0⟩ : ∃ w0, w0 = wb.alloc (.cells #[.int .u8 z.kind, .int .i64 z.seq, .int .i64 z.fmt] 23) := ⟨_, rfl⟩
  have hsa : wa.heap.size = q + 1 := by rw [hwa, hq]; simp
  have hsb : wb.heap.size = q + 2 := by rw [hwb]; simp [hsa]
  have hBa : Below w.heap.size w wa := by rw [hwa]; exact below_al (below_d0 w) _
  have hBb : Below w.heap.size w wb := by rw [hwb]; exact below_al hBa _
  have b0 : Trio w q x y z w0 := by
    refine ⟨?_, ?_, ?_, ?_⟩
    · rw [hw0]; exact BoxI.below (by rw [hwb]; exact BoxI.below (by rw [hwa, hq]; exact BoxI.new w x) (below_al (below_d0 wa) _)) (below_al (below_d0 wb) _)
    · rw [hw0]; exact BoxI.below (by rw [hwb, ← hsa]; exact BoxI.new wa y) (below_al (below_d0 wb) _)
    · rw [hw0, ← hsb]; exact BoxI.new wb z
    · rw [hw0]; exact below_al hBb _
  rw [← hwa, ← hwb, ← hw0, ← hq]
  try rw [hsa]
  try rw [hsb]
  try rw [show q + 1 + 1 = q + 2 from rfl]
  clear hw0 hwb hwa hsa hsb hBa hBb hq
  go_cut [63] (fun sv wx => sv = .bool false ∧ Trio w q x y z wx)
  case first => as_aux_lemma =>
    obtain ⟨x0, x1, x2⟩ := b0.1.cells
    obtain ⟨y0, y1, y2⟩ := b0.2.1.cells
    obtain ⟨z0, z1, z2⟩ := b0.2.2.1.cells
    go_wp2_with fail
    refine (less_any x x _).mono ?_
    rintro e w1 ⟨rfl, hb⟩
    rw [show decide (LessP x x) = false from decide_eq_false (less_irrefl x)]
    have b1 := b0.on hb
    clear b0 hb x0 x1 x2 y0 y1 y2 z0 z1 z2
    obtain ⟨x0, x1, x2⟩ := b1.1.cells
    obtain ⟨y0, y1, y2⟩ := b1.2.1.cells
    obtain ⟨z0, z1, z2⟩ := b1.2.2.1.cells
    go_wp2_with fail
    by_cases hxy : LessP x y
    · have hne : x ≠ y := fun e => less_irrefl x (by rw [← e] at hxy; exact hxy)
      have hyx := less_asymm hxy
      have t1 := id_neq_other hne
      have HH := Lib.hid (⟨hxy, hyx⟩ : _ ∧ _)
      clear hxy hyx hne
      refine (less_any x y _).mono ?_
      rintro e w2 ⟨rfl, hb⟩
      rw [show decide (LessP x y) = true from decide_eq_true HH.out.1]
      have b2 := b1.on hb
      clear b1 hb x0 x1 x2 y0 y1 y2 z0 z1 z2
      obtain ⟨x0, x1, x2⟩ := b2.1.cells
      obtain ⟨y0, y1, y2⟩ := b2.2.1.cells
      obtain ⟨z0, z1, z2⟩ := b2.2.2.1.cells
      go_wp2_with fail
      refine (less_any y x _).mono ?_
      rintro e w3 ⟨rfl, hb⟩
      rw [show decide (LessP y x) = false from decide_eq_false HH.out.2]
      have b3 := b2.on hb
      clear b2 hb x0 x1 x2 y0 y1 y2 z0 z1 z2
      obtain ⟨x0, x1, x2⟩ := b3.1.cells
      obtain ⟨y0, y1, y2⟩ := b3.2.1.cells
      obtain ⟨z0, z1, z2⟩ := b3.2.2.1.cells
      go_wp2_with fail
      refine (less_any x y _).mono ?_
      rintro e w4 ⟨rfl, hb⟩
      rw [show decide (LessP x y) = true from decide_eq_true HH.out.1]
      have b4 := b3.on hb
      clear b3 hb x0 x1 x2 y0 y1 y2 z0 z1 z2
      obtain ⟨x0, x1, x2⟩ := b4.1.cells
      obtain ⟨y0, y1, y2⟩ := b4.2.1.cells
      obtain ⟨z0, z1, z2⟩ := b4.2.2.1.cells
      go_wp2_with fail
      refine (less_any x y _).mono ?_
      rintro e w5 ⟨rfl, hb⟩
      rw [show decide (LessP x y) = true from decide_eq_true HH.out.1]
      have b5 := b4.on hb
      clear b4 hb x0 x1 x2 y0 y1 y2 z0 z1 z2
      obtain ⟨x0, x1, x2⟩ := b5.1.cells
      obtain ⟨y0, y1, y2⟩ := b5.2.1.cells
      obtain ⟨z0, z1, z2⟩ := b5.2.2.1.cells
      go_wp2_with fail
      by_cases hyz : LessP y z
      · have HZ := Lib.hid (⟨hyz, less_trans HH.out.1 hyz⟩ : _ ∧ _)
        clear hyz
        refine (less_any y z _).mono ?_
        rintro e w6 ⟨rfl, hb⟩
        rw [show decide (LessP y z) = true from decide_eq_true HZ.out.1]
        have b6 := b5.on hb
        clear b5 hb x0 x1 x2 y0 y1 y2 z0 z1 z2
        obtain ⟨x0, x1, x2⟩ := b6.1.cells
        obtain ⟨y0, y1, y2⟩ := b6.2.1.cells
        obtain ⟨z0, z1, z2⟩ := b6.2.2.1.cells
        go_wp2_with fail
        refine (less_any x z _).mono ?_
        rintro e w7 ⟨rfl, hb⟩
        rw [show decide (LessP x z) = true from decide_eq_true HZ.out.2]
        have b7 := b6.on hb
        clear b6 hb x0 x1 x2 y0 y1 y2 z0 z1 z2
        obtain ⟨x0, x1, x2⟩ := b7.1.cells
        obtain ⟨y0, y1, y2⟩ := b7.2.1.cells
        obtain ⟨z0, z1, z2⟩ := b7.2.2.1.cells
        go_wp2_with fail
        go_meet
        exact ⟨rfl, b7⟩
      · have HZ := Lib.hid hyz
        clear hyz
        refine (less_any y z _).mono ?_
        rintro e w6 ⟨rfl, hb⟩
        rw [show decide (LessP y z) = false from decide_eq_false HZ.out]
        have b6 := b5.on hb
        clear b5 hb x0 x1 x2 y0 y1 y2 z0 z1 z2
        obtain ⟨x0, x1, x2⟩ := b6.1.cells
        obtain ⟨y0, y1, y2⟩ := b6.2.1.cells
        obtain ⟨z0, z1, z2⟩ := b6.2.2.1.cells
        go_wp2_with fail
        go_meet
        exact ⟨rfl, b6⟩
    by_cases hyx : LessP y x
    · have hne : x ≠ y := fun e => less_irrefl x (by rw [← e] at hyx; exact hyx)
      have t1 := id_neq_other hne
      have HH := Lib.hid (⟨hxy, hyx⟩ : _ ∧ _)
      clear hxy hyx hne
      refine (less_any x y _).mono ?_
      rintro e w2 ⟨rfl, hb⟩
      rw [show decide (LessP x y) = false from decide_eq_false HH.out.1]
      have b2 := b1.on hb
      clear b1 hb x0 x1 x2 y0 y1 y2 z0 z1 z2
      obtain ⟨x0, x1, x2⟩ := b2.1.cells
      obtain ⟨y0, y1, y2⟩ := b2.2.1.cells
      obtain ⟨z0, z1, z2⟩ := b2.2.2.1.cells
      go_wp2_with fail
      refine (less_any x y _).mono ?_
      rintro e w3 ⟨rfl, hb⟩
      rw [show decide (LessP x y) = false from decide_eq_false HH.out.1]
      have b3 := b2.on hb
      clear b2 hb x0 x1 x2 y0 y1 y2 z0 z1 z2
      obtain ⟨x0, x1, x2⟩ := b3.1.cells
      obtain ⟨y0, y1, y2⟩ := b3.2.1.cells
      obtain ⟨z0, z1, z2⟩ := b3.2.2.1.cells
      go_wp2_with fail
      refine (less_any y x _).mono ?_
      rintro e w4 ⟨rfl, hb⟩
      rw [show decide (LessP y x) = true from decide_eq_true HH.out.2]
      have b4 := b3.on hb
      clear b3 hb x0 x1 x2 y0 y1 y2 z0 z1 z2
      obtain ⟨x0, x1, x2⟩ := b4.1.cells
      obtain ⟨y0, y1, y2⟩ := b4.2.1.cells
      obtain ⟨z0, z1, z2⟩ := b4.2.2.1.cells
      go_wp2_with fail
      refine (less_any x y _).mono ?_
      rintro e w5 ⟨rfl, hb⟩
      rw [show decide (LessP x y) = false from decide_eq_false HH.out.1]
      have b5 := b4.on hb
      clear b4 hb x0 x1 x2 y0 y1 y2 z0 z1 z2
      obtain ⟨x0, x1, x2⟩ := b5.1.cells
      obtain ⟨y0, y1, y2⟩ := b5.2.1.cells
      obtain ⟨z0, z1, z2⟩ := b5.2.2.1.cells
      go_wp2_with fail
      go_meet
      exact ⟨rfl, b5⟩
    obtain rfl := less_total hxy hyx
    have t1 := id_neq_same x
    have HH := Lib.hid hxy
    clear hxy hyx
    refine (less_any x x _).mono ?_
    rintro e w2 ⟨rfl, hb⟩
    rw [show decide (LessP x x) = false from decide_eq_false HH.out]
    have b2 := b1.on hb
    clear b1 hb x0 x1 x2 y0 y1 y2 z0 z1 z2
    obtain ⟨x0, x1, x2⟩ := b2.1.cells
    obtain ⟨y0, y1, y2⟩ := b2.2.1.cells
    obtain ⟨z0, z1, z2⟩ := b2.2.2.1.cells
    go_wp2_with fail
    refine (less_any x x _).mono ?_
    rintro e w3 ⟨rfl, hb⟩
    rw [show decide (LessP x x) = false from decide_eq_false HH.out]
    have b3 := b2.on hb
    clear b2 hb x0 x1 x2 y0 y1 y2 z0 z1 z2
    obtain ⟨x0, x1, x2⟩ := b3.1.cells
    obtain ⟨y0, y1, y2⟩ := b3.2.1.cells
    obtain ⟨z0, z1, z2⟩ := b3.2.2.1.cells
    go_wp2_with fail
    go_meet
    exact ⟨rfl, b3⟩
  obtain ⟨rfl, bx⟩ := hcut
  clear b0
  obtain ⟨i0, hi, hz0, hz1, hz2⟩ := info_partsV info_ident
  have hrow := HP.out.2.on bx.2.2.2 bx.2.2.2.size
  have hsrc := hrow.source (by omega) IdP.len IdP.one
  go_wp2_with (at_builtin; refine hold ?_)
  refine unhold (wpList_append (.tmp 64) (.tmp 65) 25 Tryd.underlying25 hi hz0 hz1 hz2 ident_cells (by omega) (own_empty wc wc.heap.size 23 3 (Nat.le_refl _)) (hsrc.alloc _) (by unfold maxLen; omega) (by omega) (by simp) rfl rfl rfl rfl ?_)
  intro v1 w5 L3
  have hb5 : Below wc.heap.size wc w5 := L3.below ((Below.refl _ wc).alloc (Nat.le_refl _) _) (by simp) (fun g hg => by simp [Value.ownBlock] at hg; omega)
  have own := L3.1
  rw [Nat.zero_add, List.nil_append] at own
  obtain ⟨A1, c1, rfl, _⟩ := own_slice own
  have hwas : Ids w5 w5.heap.size A1 n l := Row.of_own (by omega) IdP.len own
  have b5 := bx.on hb5
  have hrow5 := hrow.on hb5 hb5.size
  have H5 := Lib.hid (⟨hwas, b5, hrow5⟩ : _ ∧ _ ∧ _)
  clear L3 own hwas b5 hrow5 hb5 bx hrow hsrc hi hz0 hz1 hz2
  go_wp2_with fail
  refine (sortAll_any A n c l w5 H5.out.2.2 (by omega)).mono ?_
  rintro e w6 ⟨⟨A2, c2, r, rfl, hc2, hr, hord, hperm⟩, hb6⟩
  have H6 := Lib.hid (⟨hr, hord, hperm, hb6⟩ : _ ∧ _ ∧ _ ∧ _)
  clear hr hord hperm hb6 hc2
  go_wp2_with fail
  refine (idents_true A n c l A1 c1 w6 (H5.out.2.2.on H6.out.2.2.2 H6.out.2.2.2.size) (H5.out.1.on H6.out.2.2.2 H6.out.2.2.2.size) (by omega)).mono ?_
  rintro e w7 ⟨rfl, hb7⟩
  have b7 : Trio w q x y z w7 := (H5.out.2.1.on H6.out.2.2.2).on hb7
  have hL7 : Ids w7 w7.heap.size A n l := (H5.out.2.2.on H6.out.2.2.2 H6.out.2.2.2.size).on hb7 hb7.size
  have hR7 : Ids w7 w7.heap.size A2 n r := H6.out.1.on hb7 hb7.size
  have H7 := Lib.hid (⟨b7, hL7, hR7, H6.out.2.1, H6.out.2.2.1⟩ : _ ∧ _ ∧ _ ∧ _ ∧ _)
  clear b7 hL7 hR7 hb7 H6 H5
  go_wp2_with fail
  go_loopw [11] (fun s11 wr => ∃ (i : Nat), i ≤ n ∧ s11 = .int .i64 i ∧ Below w7.heap.size w7 wr) (fun s _ => n - (intOf s).toNat)
  case atStart => exact ⟨0, Nat.zero_le _, rfl, below_d0 _⟩
  obtain ⟨i, hi, rfl, hB⟩ := hrel
  by_cases hlt : i < n
  · obtain ⟨b, off, y', rfl, hb, hy, -⟩ := Ids.get H7.out.2.1 hlt
    obtain ⟨b2, off2, u, rfl, hb2, hu, -⟩ := Ids.get H7.out.2.2.1 hlt
    have HI := Lib.hid (⟨hy, hu, hb, hb2, hB⟩ : _ ∧ _ ∧ _ ∧ _ ∧ _)
    clear hy hu hb hb2 hB
    go_wp2_with fail
    go_loopw [12, 13] (fun s12 s13 wq => ∃ (k : Nat), k ≤ n ∧ s13 = .int .i64 k ∧ s12 = .int .i64 (cntI r l y' k) ∧ Below w7.heap.size w7 wq) (fun _ s _ => n - (intOf s).toNat)
    case atStart => exact ⟨0, Nat.zero_le _, rfl, by rw [cnt_zero], HI.out.2.2.2.2⟩
    obtain ⟨k, hk, rfl, rfl, hBq⟩ := hrel
    obtain ⟨p, hp⟩ : ∃ p, p = cntI r l y' k := ⟨_, rfl⟩
    rw [← hp]
    have hpb : -40 ≤ p ∧ p ≤ 40 := by rw [hp]; exact cnt_bound r l y' k (by omega)
    by_cases hlk : k < n
    · obtain ⟨a, ha⟩ : ∃ a, r[k]? = some a := ⟨_, List.getElem?_eq_getElem (by rw [H7.out.2.2.1.1]; exact hlk)⟩
      obtain ⟨d, hd⟩ : ∃ d, l[k]? = some d := ⟨_, List.getElem?_eq_getElem (by rw [L1.out]; exact hlk)⟩
      have hcn : cntI r l y' (k + 1) = p + (if a = y' then 1 else 0) - (if d = y' then 1 else 0) := by rw [cnt_next ha hd, hp]
      obtain ⟨p1, hp1⟩ : ∃ p1, p1 = p + 1 := ⟨_, rfl⟩
      obtain ⟨p2, hp2⟩ : ∃ p2, p2 = p - 1 := ⟨_, rfl⟩
      have a1 : IntKind.i64.wrap (p + 1) = p1 := by rw [IntKind.wrap_i64] <;> omega
      have a2 : IntKind.i64.wrap (p - 1) = p2 := by rw [IntKind.wrap_i64] <;> omega
      have a3 : IntKind.i64.wrap (p1 - 1) = p := by rw [IntKind.wrap_i64] <;> omega
      obtain ⟨-, k0, k1, k2⟩ := Ids.cells (H7.out.2.2.1.on hBq (Nat.le_refl _)) ha
      obtain ⟨-, m0, m1, m2⟩ := Ids.cells (H7.out.2.1.on hBq (Nat.le_refl _)) hd
      obtain ⟨-, f0, f1, f2⟩ := Ids.cells (H7.out.2.1.on hBq (Nat.le_refl _)) HI.out.1
      have HQ := Lib.hid (⟨ha, hd, hBq⟩ : _ ∧ _ ∧ _)
      by_cases ea : a = y'
      · have t1 := eql_yes (k := a.kind) (s := a.seq) (f := a.fmt) (k' := y'.kind) (s' := y'.seq) (f' := y'.fmt) (by rw [ea]; exact ⟨rfl, rfl, rfl⟩)
        by_cases ed : d = y'
        · have t2 := eql_yes (k := d.kind) (s := d.seq) (f := d.fmt) (k' := y'.kind) (s' := y'.seq) (f' := y'.fmt) (by rw [ed]; exact ⟨rfl, rfl, rfl⟩)
          have hv := Lib.hid (show cntI r l y' (k + 1) = p by rw [hcn, if_pos ea, if_pos ed]; omega)
          clear hcn hp1 hp2 hp ha hd hBq ea ed hpb
          go_wp2_with fail
          go_still_tail 8, (by kernel_rfl)
          change wpList _ _ _ _ _ wr.drew
          obtain ⟨wd, hwd⟩ : ∃ wd, wd = wr.drew := ⟨_, rfl⟩
          have hBd : Below w7.heap.size w7 wd := by rw [hwd]; exact HQ.out.2.2.drew
          rw [← hwd]
          clear hwd k0 k1 k2 m0 m1 m2 f0 f1 f2
          obtain ⟨-, m0, m1, m2⟩ := Ids.cells (H7.out.2.1.on hBd (Nat.le_refl _)) HQ.out.2.1
          obtain ⟨-, f0, f1, f2⟩ := Ids.cells (H7.out.2.1.on hBd (Nat.le_refl _)) HI.out.1
          have HD := Lib.hid hBd.drew
          clear hBd
          go_wp2_with fail
          go_still_tail 8, (by kernel_rfl)
          change wpList _ _ _ _ _ wd.drew
          go_wp2_with fail
          go_roundw
          case rel => exact ⟨k + 1, by omega, by go_num, by rw [hv.out], HD.out⟩
          case measure => simp [intOf]; omega
        · have t2 := eql_no (k := d.kind) (s := d.seq) (f := d.fmt) (k' := y'.kind) (s' := y'.seq) (f' := y'.fmt) (fun e => ed (IdP.ext_ e.1 e.2.1 e.2.2))
          have hv := Lib.hid (show cntI r l y' (k + 1) = p1 by rw [hcn, if_pos ea, if_neg ed]; omega)
          clear hcn hp1 hp2 hp ha hd hBq ea ed hpb
          go_wp2_with fail
          go_still_tail 8, (by kernel_rfl)
          change wpList _ _ _ _ _ wr.drew
          obtain ⟨wd, hwd⟩ : ∃ wd, wd = wr.drew := ⟨_, rfl⟩
          have hBd : Below w7.heap.size w7 wd := by rw [hwd]; exact HQ.out.2.2.drew
          rw [← hwd]
          clear hwd k0 k1 k2 m0 m1 m2 f0 f1 f2
          obtain ⟨-, m0, m1, m2⟩ := Ids.cells (H7.out.2.1.on hBd (Nat.le_refl _)) HQ.out.2.1
          obtain ⟨-, f0, f1, f2⟩ := Ids.cells (H7.out.2.1.on hBd (Nat.le_refl _)) HI.out.1
          have HD := Lib.hid hBd.drew
          clear hBd
          go_wp2_with fail
          go_still_tail 8, (by kernel_rfl)
          change wpList _ _ _ _ _ wd.drew
          go_wp2_with fail
          go_roundw
          case rel => exact ⟨k + 1, by omega, by go_num, by rw [hv.out], HD.out⟩
          case measure => simp [intOf]; omega
      · have t1 := eql_no (k := a.kind) (s := a.seq) (f := a.fmt) (k' := y'.kind) (s' := y'.seq) (f' := y'.fmt) (fun e => ea (IdP.ext_ e.1 e.2.1 e.2.2))
        by_cases ed : d = y'
        · have t2 := eql_yes (k := d.kind) (s := d.seq) (f := d.fmt) (k' := y'.kind) (s' := y'.seq) (f' := y'.fmt) (by rw [ed]; exact ⟨rfl, rfl, rfl⟩)
          have hv := Lib.hid (show cntI r l y' (k + 1) = p2 by rw [hcn, if_neg ea, if_pos ed]; omega)
          clear hcn hp1 hp2 hp ha hd hBq ea ed hpb
          go_wp2_with fail
          go_still_tail 8, (by kernel_rfl)
          change wpList _ _ _ _ _ wr.drew
          obtain ⟨wd, hwd⟩ : ∃ wd, wd = wr.drew := ⟨_, rfl⟩
          have hBd : Below w7.heap.size w7 wd := by rw [hwd]; exact HQ.out.2.2.drew
          rw [← hwd]
          clear hwd k0 k1 k2 m0 m1 m2 f0 f1 f2
          obtain ⟨-, m0, m1, m2⟩ := Ids.cells (H7.out.2.1.on hBd (Nat.le_refl _)) HQ.out.2.1
          obtain ⟨-, f0, f1, f2⟩ := Ids.cells (H7.out.2.1.on hBd (Nat.le_refl _)) HI.out.1
          have HD := Lib.hid hBd.drew
          clear hBd
          go_wp2_with fail
          go_still_tail 8, (by kernel_rfl)
          change wpList _ _ _ _ _ wd.drew
          go_wp2_with fail
          go_roundw
          case rel => exact ⟨k + 1, by omega, by go_num, by rw [hv.out], HD.out⟩
          case measure => simp [intOf]; omega
        · have t2 := eql_no (k := d.kind) (s := d.seq) (f := d.fmt) (k' := y'.kind) (s' := y'.seq) (f' := y'.fmt) (fun e => ed (IdP.ext_ e.1 e.2.1 e.2.2))
          have hv := Lib.hid (show cntI r l y' (k + 1) = p by rw [hcn, if_neg ea, if_neg ed]; omega)
          clear hcn hp1 hp2 hp ha hd hBq ea ed hpb
          go_wp2_with fail
          go_still_tail 8, (by kernel_rfl)
          change wpList _ _ _ _ _ wr.drew
          obtain ⟨wd, hwd⟩ : ∃ wd, wd = wr.drew := ⟨_, rfl⟩
          have hBd : Below w7.heap.size w7 wd := by rw [hwd]; exact HQ.out.2.2.drew
          rw [← hwd]
          clear hwd k0 k1 k2 m0 m1 m2 f0 f1 f2
          obtain ⟨-, m0, m1, m2⟩ := Ids.cells (H7.out.2.1.on hBd (Nat.le_refl _)) HQ.out.2.1
          obtain ⟨-, f0, f1, f2⟩ := Ids.cells (H7.out.2.1.on hBd (Nat.le_refl _)) HI.out.1
          have HD := Lib.hid hBd.drew
          clear hBd
          go_wp2_with fail
          go_still_tail 8, (by kernel_rfl)
          change wpList _ _ _ _ _ wd.drew
          go_wp2_with fail
          go_roundw
          case rel => exact ⟨k + 1, by omega, by go_num, by rw [hv.out], HD.out⟩
          case measure => simp [intOf]; omega
    · obtain rfl : k = n := by omega
      have hp0 : p = 0 := by rw [hp]; exact cnt_all H7.out.2.2.2.2 y' H7.out.2.2.1.1 L1.out
      clear hp hpb
      subst hp0
      by_cases hi0 : i = 0
      · have ti : decide ((0 : Int) < (i : Int)) = false := by simp; omega
        have ti' : decide (0 < i) = false := by simp; omega
        have tj : ¬ ((0 : Int) < (i : Int)) := by omega
        have HS := Lib.hid hBq
        clear hBq hi0
        go_wp2_with fail
        refine wp_region_held_drew (S := (fun W => Below wr.heap.size wr W)) (by kernel_rfl) (below_dr (below_d0 _)) (fun hHeld => ?_)
        refine take_at (i := 0) (d := 114) (oi := ?o1) (v := ?v1) ?hi1 ?hd1 (by kernel_rfl) (by kernel_rfl) (by kernel_rfl) ?hw1 ?hy1 ?hq1 (by assumption) ?r1
        case hi1 => (simp only [List.getElem?_toArray, List.getElem?_cons_zero]; rfl)
        case hd1 => rfl
        case hw1 => rfl
        case hy1 => ((intro w hSw; (try dsimp only at hSw); go_simp) <;> (with_reducible rfl))
        case hq1 => exact fun _ _ _ h => h
        simp only [List.set_cons_succ, List.set_cons_zero]
        refine take_at (i := 1) (d := 115) (oi := ?o2) (v := ?v2) ?hi2 ?hd2 (by kernel_rfl) (by kernel_rfl) (by kernel_rfl) ?hw2 ?hy2 ?hq2 (by assumption) ?r2
        case hi2 => (simp only [List.getElem?_toArray, List.getElem?_cons_succ, List.getElem?_cons_zero]; rfl)
        case hd2 => rfl
        case hw2 => rfl
        case hy2 => ((intro w hSw; (try dsimp only at hSw); go_simp) <;> (with_reducible rfl))
        case hq2 => exact fun _ _ _ h => h
        simp only [List.set_cons_succ, List.set_cons_zero]
        refine take_at (i := 2) (d := 116) (oi := ?o3) (v := ?v3) ?hi3 ?hd3 (by kernel_rfl) (by kernel_rfl) (by kernel_rfl) ?hw3 ?hy3 ?hq3 (by assumption) ?r3
        case hi3 => (simp only [List.getElem?_toArray, List.getElem?_cons_succ, List.getElem?_cons_zero]; rfl)
        case hd3 => rfl
        case hw3 => rfl
        case hy3 => ((intro w hSw; (try dsimp only at hSw); go_simp) <;> (with_reducible rfl))
        case hq3 => exact fun _ _ _ h => h
        simp only [List.set_cons_succ, List.set_cons_zero]
        refine take_at (i := 3) (d := 117) (oi := ?o4) (v := ?v4) ?hi4 ?hd4 (by kernel_rfl) (by kernel_rfl) (by kernel_rfl) ?hw4 ?hy4 ?hq4 (by assumption) ?r4
        case hi4 => (simp only [List.getElem?_toArray, List.getElem?_cons_succ, List.getElem?_cons_zero]; rfl)
        case hd4 => rfl
        case hw4 => rfl
        case hy4 => ((intro w hSw; (try dsimp only at hSw); go_simp) <;> (with_reducible rfl))
        case hq4 => exact fun _ _ _ h => h
        simp only [List.set_cons_succ, List.set_cons_zero]
        refine take_at (i := 4) (d := 118) (oi := ?o5) (v := ?v5) ?hi5 ?hd5 (by kernel_rfl) (by kernel_rfl) (by kernel_rfl) ?hw5 ?hy5 ?hq5 (by assumption) ?r5
        case hi5 => (simp only [List.getElem?_toArray, List.getElem?_cons_succ, List.getElem?_cons_zero]; rfl)
        case hd5 => rfl
        case hw5 => rfl
        case hy5 => ((intro w hSw; (try dsimp only at hSw); go_simp) <;> (with_reducible rfl))
        case hq5 => exact fun _ _ _ h => h
        simp only [List.set_cons_succ, List.set_cons_zero]
        refine take_at (i := 5) (d := 119) (oi := ?o6) (v := ?v6) ?hi6 ?hd6 (by kernel_rfl) (by kernel_rfl) (by kernel_rfl) ?hw6 ?hy6 ?hq6 (by assumption) ?r6
        case hi6 => (simp only [List.getElem?_toArray, List.getElem?_cons_succ, List.getElem?_cons_zero]; rfl)
        case hd6 => rfl
        case hw6 => rfl
        case hy6 => ((intro w hSw; (try dsimp only at hSw); go_simp) <;> (with_reducible rfl))
        case hq6 => exact fun _ _ _ h => h
        simp only [List.set_cons_succ, List.set_cons_zero]
        refine skip_at (i := 6) (d := 120) (oi := ?o7) ?hi7 ?hd7 (by kernel_rfl) (by kernel_rfl) (by kernel_rfl) ?hw7 ?hq7 (by assumption) ?r7
        case hi7 => (simp only [List.getElem?_toArray, List.getElem?_cons_succ, List.getElem?_cons_zero]; rfl)
        case hd7 => rfl
        case hw7 => rfl
        case hq7 => exact fun _ _ _ h => h
        simp only [List.set_cons_succ, List.set_cons_zero]
        refine skip_at (i := 7) (d := 121) (oi := ?o8) ?hi8 ?hd8 (by kernel_rfl) (by kernel_rfl) (by kernel_rfl) ?hw8 ?hq8 (by assumption) ?r8
        case hi8 => (simp only [List.getElem?_toArray, List.getElem?_cons_succ, List.getElem?_cons_zero]; rfl)
        case hd8 => rfl
        case hw8 => rfl
        case hq8 => exact fun _ _ _ h => h
        simp only [List.set_cons_succ, List.set_cons_zero]
        refine skip_at (i := 8) (d := 122) (oi := ?o9) ?hi9 ?hd9 (by kernel_rfl) (by kernel_rfl) (by kernel_rfl) ?hw9 ?hq9 (by assumption) ?r9
        case hi9 => (simp only [List.getElem?_toArray, List.getElem?_cons_succ, List.getElem?_cons_zero]; rfl)
        case hd9 => rfl
        case hw9 => rfl
        case hq9 => exact fun _ _ _ h => h
        simp only [List.set_cons_succ, List.set_cons_zero]
        refine skip_at (i := 9) (d := 123) (oi := ?o10) ?hi10 ?hd10 (by kernel_rfl) (by kernel_rfl) (by kernel_rfl) ?hw10 ?hq10 (by assumption) ?r10
        case hi10 => (simp only [List.getElem?_toArray, List.getElem?_cons_succ, List.getElem?_cons_zero]; rfl)
        case hd10 => rfl
        case hw10 => rfl
        case hq10 => exact fun _ _ _ h => h
        simp only [List.set_cons_succ, List.set_cons_zero]
        refine skip_at (i := 10) (d := 124) (oi := ?o11) ?hi11 ?hd11 (by kernel_rfl) (by kernel_rfl) (by kernel_rfl) ?hw11 ?hq11 (by assumption) ?r11
        case hi11 => (simp only [List.getElem?_toArray, List.getElem?_cons_succ, List.getElem?_cons_zero]; rfl)
        case hd11 => rfl
        case hw11 => rfl
        case hq11 => exact fun _ _ _ h => h
        simp only [List.set_cons_succ, List.set_cons_zero]
        refine skip_at (i := 11) (d := 125) (oi := ?o12) ?hi12 ?hd12 (by kernel_rfl) (by kernel_rfl) (by kernel_rfl) ?hw12 ?hq12 (by assumption) ?r12
        case hi12 => (simp only [List.getElem?_toArray, List.getElem?_cons_succ, List.getElem?_cons_zero]; rfl)
        case hd12 => rfl
        case hw12 => rfl
        case hq12 => exact fun _ _ _ h => h
        simp only [List.set_cons_succ, List.set_cons_zero]
        refine skip_at (i := 12) (d := 126) (oi := ?o13) ?hi13 ?hd13 (by kernel_rfl) (by kernel_rfl) (by kernel_rfl) ?hw13 ?hq13 (by assumption) ?r13
        case hi13 => (simp only [List.getElem?_toArray, List.getElem?_cons_succ, List.getElem?_cons_zero]; rfl)
        case hd13 => rfl
        case hw13 => rfl
        case hq13 => exact fun _ _ _ h => h
        simp only [List.set_cons_succ, List.set_cons_zero]
        refine skip_at (i := 13) (d := 127) (oi := ?o14) ?hi14 ?hd14 (by kernel_rfl) (by kernel_rfl) (by kernel_rfl) ?hw14 ?hq14 (by assumption) ?r14
        case hi14 => (simp only [List.getElem?_toArray, List.getElem?_cons_succ, List.getElem?_cons_zero]; rfl)
        case hd14 => rfl
        case hw14 => rfl
        case hq14 => exact fun _ _ _ h => h
        simp only [List.set_cons_succ, List.set_cons_zero]
        refine skip_at (i := 14) (d := 128) (oi := ?o15) ?hi15 ?hd15 (by kernel_rfl) (by kernel_rfl) (by kernel_rfl) ?hw15 ?hq15 (by assumption) ?r15
        case hi15 => (simp only [List.getElem?_toArray, List.getElem?_cons_succ, List.getElem?_cons_zero]; rfl)
        case hd15 => rfl
        case hw15 => rfl
        case hq15 => exact fun _ _ _ h => h
        simp only [List.set_cons_succ, List.set_cons_zero]
        refine skip_at (i := 15) (d := 129) (oi := ?o16) ?hi16 ?hd16 (by kernel_rfl) (by kernel_rfl) (by kernel_rfl) ?hw16 ?hq16 (by assumption) ?r16
        case hi16 => (simp only [List.getElem?_toArray, List.getElem?_cons_succ, List.getElem?_cons_zero]; rfl)
        case hd16 => rfl
        case hw16 => rfl
        case hq16 => exact fun _ _ _ h => h
        simp only [List.set_cons_succ, List.set_cons_zero]
        refine take_at (i := 16) (d := 130) (oi := ?o17) (v := ?v17) ?hi17 ?hd17 (by kernel_rfl) (by kernel_rfl) (by kernel_rfl) ?hw17 ?hy17 ?hq17 (by assumption) ?r17
        case hi17 => (simp only [List.getElem?_toArray, List.getElem?_cons_succ, List.getElem?_cons_zero]; rfl)
        case hd17 => rfl
        case hw17 => rfl
        case hy17 => ((intro w hSw; (try dsimp only at hSw); go_simp) <;> (with_reducible rfl))
        case hq17 => exact fun _ _ _ h => h
        simp only [List.set_cons_succ, List.set_cons_zero]
        refine take_at (i := 17) (d := 131) (oi := ?o18) (v := ?v18) ?hi18 ?hd18 (by kernel_rfl) (by kernel_rfl) (by kernel_rfl) ?hw18 ?hy18 ?hq18 (by assumption) ?r18
        case hi18 => (simp only [List.getElem?_toArray, List.getElem?_cons_succ, List.getElem?_cons_zero]; rfl)
        case hd18 => rfl
        case hw18 => rfl
        case hy18 => ((intro w hSw; (try dsimp only at hSw); go_simp) <;> (with_reducible rfl))
        case hq18 => exact fun _ _ _ h => h
        simp only [List.set_cons_succ, List.set_cons_zero]
        refine wpAnyH_done (by kernel_rfl) ?_ _
        have HZ := Lib.hid (below_on HS.out hHeld)
        go_wp2_with fail
        go_roundw
        case rel => exact ⟨i + 1, by omega, by go_num, HZ.out⟩
        case measure => simp [intOf]; omega
      · obtain ⟨i1, hi1⟩ : ∃ i1, i1 + 1 = i := ⟨i - 1, by omega⟩
        have ti : decide ((0 : Int) < (i : Int)) = true := by simp; omega
        have ti' : decide (0 < i) = true := by simp; omega
        have tj : (0 : Int) < (i : Int) := by omega
        have a4 : IntKind.i64.wrap ((i : Int) - 1) = (i1 : Int) := by rw [IntKind.wrap_i64] <;> omega
        have hlt1 : i1 < k := by omega
        obtain ⟨v, hv⟩ : ∃ v, r[i1]? = some v := ⟨_, List.getElem?_eq_getElem (by rw [H7.out.2.2.1.1]; omega)⟩
        have HN := Lib.hid (ord_get H7.out.2.2.2.1 (show i1 < i by omega) hv HI.out.2.1)
        obtain ⟨-, k0, k1, k2⟩ := Ids.cells (H7.out.2.2.1.on hBq (Nat.le_refl _)) HI.out.2.1
        obtain ⟨-, m0, m1, m2⟩ := Ids.cells (H7.out.2.2.1.on hBq (Nat.le_refl _)) hv
        have hgl : b2 < wr.heap.size := by have := HI.out.2.2.2.1; have := hBq.size; omega
        have HS := Lib.hid hBq
        clear hBq hv hi0 hi1
        go_wp2_with fail
        refine wp_region_held_drew (S := (fun W => Below wr.heap.size wr W)) (by kernel_rfl) (below_dr (below_d0 _)) (fun hHeld => ?_)
        refine take_at (i := 0) (d := 114) (oi := ?o19) (v := ?v19) ?hi19 ?hd19 (by kernel_rfl) (by kernel_rfl) (by kernel_rfl) ?hw19 ?hy19 ?hq19 (by assumption) ?r19
        case hi19 => (simp only [List.getElem?_toArray, List.getElem?_cons_zero]; rfl)
        case hd19 => rfl
        case hw19 => rfl
        case hy19 => ((intro w hSw; (try dsimp only at hSw); go_simp) <;> (with_reducible rfl))
        case hq19 => exact fun _ _ _ h => h
        simp only [List.set_cons_succ, List.set_cons_zero]
        refine take_at (i := 1) (d := 115) (oi := ?o20) (v := ?v20) ?hi20 ?hd20 (by kernel_rfl) (by kernel_rfl) (by kernel_rfl) ?hw20 ?hy20 ?hq20 (by assumption) ?r20
        case hi20 => (simp only [List.getElem?_toArray, List.getElem?_cons_succ, List.getElem?_cons_zero]; rfl)
        case hd20 => rfl
        case hw20 => rfl
        case hy20 => ((intro w hSw; (try dsimp only at hSw); go_simp) <;> (with_reducible rfl))
        case hq20 => exact fun _ _ _ h => h
        simp only [List.set_cons_succ, List.set_cons_zero]
        refine take_at (i := 2) (d := 116) (oi := ?o21) (v := ?v21) ?hi21 ?hd21 (by kernel_rfl) (by kernel_rfl) (by kernel_rfl) ?hw21 ?hy21 ?hq21 (by assumption) ?r21
        case hi21 => (simp only [List.getElem?_toArray, List.getElem?_cons_succ, List.getElem?_cons_zero]; rfl)
        case hd21 => rfl
        case hw21 => rfl
        case hy21 => ((intro w hSw; (try dsimp only at hSw); go_simp) <;> (with_reducible rfl))
        case hq21 => exact fun _ _ _ h => h
        simp only [List.set_cons_succ, List.set_cons_zero]
        refine take_at (i := 3) (d := 117) (oi := ?o22) (v := ?v22) ?hi22 ?hd22 (by kernel_rfl) (by kernel_rfl) (by kernel_rfl) ?hw22 ?hy22 ?hq22 (by assumption) ?r22
        case hi22 => (simp only [List.getElem?_toArray, List.getElem?_cons_succ, List.getElem?_cons_zero]; rfl)
        case hd22 => rfl
        case hw22 => rfl
        case hy22 => ((intro w hSw; (try dsimp only at hSw); go_simp) <;> (with_reducible rfl))
        case hq22 => exact fun _ _ _ h => h
        simp only [List.set_cons_succ, List.set_cons_zero]
        refine take_at (i := 4) (d := 118) (oi := ?o23) (v := ?v23) ?hi23 ?hd23 (by kernel_rfl) (by kernel_rfl) (by kernel_rfl) ?hw23 ?hy23 ?hq23 (by assumption) ?r23
        case hi23 => (simp only [List.getElem?_toArray, List.getElem?_cons_succ, List.getElem?_cons_zero]; rfl)
        case hd23 => rfl
        case hw23 => rfl
        case hy23 => ((intro w hSw; (try dsimp only at hSw); go_simp) <;> (with_reducible rfl))
        case hq23 => exact fun _ _ _ h => h
        simp only [List.set_cons_succ, List.set_cons_zero]
        refine take_at (i := 5) (d := 119) (oi := ?o24) (v := ?v24) ?hi24 ?hd24 (by kernel_rfl) (by kernel_rfl) (by kernel_rfl) ?hw24 ?hy24 ?hq24 (by assumption) ?r24
        case hi24 => (simp only [List.getElem?_toArray, List.getElem?_cons_succ, List.getElem?_cons_zero]; rfl)
        case hd24 => rfl
        case hw24 => rfl
        case hy24 => ((intro w hSw; (try dsimp only at hSw); go_simp) <;> (with_reducible rfl))
        case hq24 => exact fun _ _ _ h => h
        simp only [List.set_cons_succ, List.set_cons_zero]
        refine take_at (i := 6) (d := 120) (oi := ?o25) (v := ?v25) ?hi25 ?hd25 (by kernel_rfl) (by kernel_rfl) (by kernel_rfl) ?hw25 ?hy25 ?hq25 (by assumption) ?r25
        case hi25 => (simp only [List.getElem?_toArray, List.getElem?_cons_succ, List.getElem?_cons_zero]; rfl)
        case hd25 => rfl
        case hw25 => rfl
        case hy25 => ((intro w hSw; (try dsimp only at hSw); go_simp) <;> (with_reducible rfl))
        case hq25 => exact fun _ _ _ h => h
        simp only [List.set_cons_succ, List.set_cons_zero]
        refine take_at (i := 7) (d := 121) (oi := ?o26) (v := ?v26) ?hi26 ?hd26 (by kernel_rfl) (by kernel_rfl) (by kernel_rfl) ?hw26 ?hy26 ?hq26 (by assumption) ?r26
        case hi26 => (simp only [List.getElem?_toArray, List.getElem?_cons_succ, List.getElem?_cons_zero]; rfl)
        case hd26 => rfl
        case hw26 => rfl
        case hy26 => ((intro w hSw; (try dsimp only at hSw); go_simp) <;> (with_reducible rfl))
        case hq26 => exact fun _ _ _ h => h
        simp only [List.set_cons_succ, List.set_cons_zero]
        refine take_at (i := 8) (d := 122) (oi := ?o27) (v := ?v27) ?hi27 ?hd27 (by kernel_rfl) (by kernel_rfl) (by kernel_rfl) ?hw27 ?hy27 ?hq27 (by assumption) ?r27
        case hi27 => (simp only [List.getElem?_toArray, List.getElem?_cons_succ, List.getElem?_cons_zero]; rfl)
        case hd27 => rfl
        case hw27 => rfl
        case hy27 => ((intro w hSw; (try dsimp only at hSw); go_simp) <;> (with_reducible rfl))
        case hq27 => exact fun _ _ _ h => h
        simp only [List.set_cons_succ, List.set_cons_zero]
        refine take_at (i := 9) (d := 123) (oi := ?o28) (v := ?v28) ?hi28 ?hd28 (by kernel_rfl) (by kernel_rfl) (by kernel_rfl) ?hw28 ?hy28 ?hq28 (by assumption) ?r28
        case hi28 => (simp only [List.getElem?_toArray, List.getElem?_cons_succ, List.getElem?_cons_zero]; rfl)
        case hd28 => rfl
        case hw28 => rfl
        case hy28 => ((intro w hSw; (try dsimp only at hSw); have q0 := (Below.cell hSw (p := ⟨b2, off2 + i * 3, none⟩) hgl).trans k0; have q1 := (Below.cell hSw (p := ⟨b2, off2 + i * 3 + 1, none⟩) hgl).trans k1; have q2 := (Below.cell hSw (p := ⟨b2, off2 + i * 3 + 2, none⟩) hgl).trans k2; clear hSw; go_simp) <;> (with_reducible rfl))
        case hq28 => exact fun _ _ _ h => h
        simp only [List.set_cons_succ, List.set_cons_zero]
        refine take_at (i := 10) (d := 124) (oi := ?o29) (v := ?v29) ?hi29 ?hd29 (by kernel_rfl) (by kernel_rfl) (by kernel_rfl) ?hw29 ?hy29 ?hq29 (by assumption) ?r29
        case hi29 => (simp only [List.getElem?_toArray, List.getElem?_cons_succ, List.getElem?_cons_zero]; rfl)
        case hd29 => rfl
        case hw29 => rfl
        case hy29 => ((intro w hSw; (try dsimp only at hSw); go_simp) <;> (with_reducible rfl))
        case hq29 => exact fun _ _ _ h => h
        simp only [List.set_cons_succ, List.set_cons_zero]
        refine take_at (i := 11) (d := 125) (oi := ?o30) (v := ?v30) ?hi30 ?hd30 (by kernel_rfl) (by kernel_rfl) (by kernel_rfl) ?hw30 ?hy30 ?hq30 (by assumption) ?r30
        case hi30 => (simp only [List.getElem?_toArray, List.getElem?_cons_succ, List.getElem?_cons_zero]; rfl)
        case hd30 => rfl
        case hw30 => rfl
        case hy30 => ((intro w hSw; (try dsimp only at hSw); go_simp) <;> (with_reducible rfl))
        case hq30 => exact fun _ _ _ h => h
        simp only [List.set_cons_succ, List.set_cons_zero]
        refine take_at (i := 12) (d := 126) (oi := ?o31) (v := ?v31) ?hi31 ?hd31 (by kernel_rfl) (by kernel_rfl) (by kernel_rfl) ?hw31 ?hy31 ?hq31 (by assumption) ?r31
        case hi31 => (simp only [List.getElem?_toArray, List.getElem?_cons_succ, List.getElem?_cons_zero]; rfl)
        case hd31 => rfl
        case hw31 => rfl
        case hy31 => ((intro w hSw; (try dsimp only at hSw); go_simp) <;> (with_reducible rfl))
        case hq31 => exact fun _ _ _ h => h
        simp only [List.set_cons_succ, List.set_cons_zero]
        refine take_at (i := 13) (d := 127) (oi := ?o32) (v := ?v32) ?hi32 ?hd32 (by kernel_rfl) (by kernel_rfl) (by kernel_rfl) ?hw32 ?hy32 ?hq32 (by assumption) ?r32
        case hi32 => (simp only [List.getElem?_toArray, List.getElem?_cons_succ, List.getElem?_cons_zero]; rfl)
        case hd32 => rfl
        case hw32 => rfl
        case hy32 => ((intro w hSw; (try dsimp only at hSw); go_simp) <;> (with_reducible rfl))
        case hq32 => exact fun _ _ _ h => h
        simp only [List.set_cons_succ, List.set_cons_zero]
        refine take_at (i := 14) (d := 128) (oi := ?o33) (v := ?v33) ?hi33 ?hd33 (by kernel_rfl) (by kernel_rfl) (by kernel_rfl) ?hw33 ?hy33 ?hq33 (by assumption) ?r33
        case hi33 => (simp only [List.getElem?_toArray, List.getElem?_cons_succ, List.getElem?_cons_zero]; rfl)
        case hd33 => rfl
        case hw33 => rfl
        case hy33 => ((intro w hSw; (try dsimp only at hSw); have q0 := (Below.cell hSw (p := ⟨b2, off2 + i1 * 3, none⟩) hgl).trans m0; have q1 := (Below.cell hSw (p := ⟨b2, off2 + i1 * 3 + 1, none⟩) hgl).trans m1; have q2 := (Below.cell hSw (p := ⟨b2, off2 + i1 * 3 + 2, none⟩) hgl).trans m2; clear hSw; go_simp) <;> (with_reducible rfl))
        case hq33 => exact fun _ _ _ h => h
        simp only [List.set_cons_succ, List.set_cons_zero]
        refine call_at (i := 15) (d := 129) (oi := ?o34) (f := ?f34) (args := ?a34) ?hi34 ?hd34 (by kernel_rfl) ?hw34 ?he34 ?hc34
        case hi34 => (simp only [List.getElem?_toArray, List.getElem?_cons_succ, List.getElem?_cons_zero]; rfl)
        case hd34 => rfl
        case hw34 => rfl
        case he34 => (go_simp; constructor <;> with_reducible rfl)
        refine (less_any u v _).mono ?_
        rintro e wv ⟨rfl, hb1⟩
        rw [show decide (LessP u v) = false from decide_eq_false HN.out]
        have kb : Below wr.heap.size wr wv := hHeld.trans (hb1.mono hHeld.size)
        refine ⟨_, rfl, kb, fun hHeld => ?_⟩
        simp only [List.set_cons_succ, List.set_cons_zero]
        refine take_at (i := 16) (d := 130) (oi := ?o35) (v := ?v35) ?hi35 ?hd35 (by kernel_rfl) (by kernel_rfl) (by kernel_rfl) ?hw35 ?hy35 ?hq35 (by assumption) ?r35
        case hi35 => (simp only [List.getElem?_toArray, List.getElem?_cons_succ, List.getElem?_cons_zero]; rfl)
        case hd35 => rfl
        case hw35 => rfl
        case hy35 => ((intro w hSw; (try dsimp only at hSw); go_simp) <;> (with_reducible rfl))
        case hq35 => exact fun _ _ _ h => h
        simp only [List.set_cons_succ, List.set_cons_zero]
        refine take_at (i := 17) (d := 131) (oi := ?o36) (v := ?v36) ?hi36 ?hd36 (by kernel_rfl) (by kernel_rfl) (by kernel_rfl) ?hw36 ?hy36 ?hq36 (by assumption) ?r36
        case hi36 => (simp only [List.getElem?_toArray, List.getElem?_cons_succ, List.getElem?_cons_zero]; rfl)
        case hd36 => rfl
        case hw36 => rfl
        case hy36 => ((intro w hSw; (try dsimp only at hSw); go_simp) <;> (with_reducible rfl))
        case hq36 => exact fun _ _ _ h => h
        simp only [List.set_cons_succ, List.set_cons_zero]
        refine wpAnyH_done (by kernel_rfl) ?_ _
        have HZ := Lib.hid (below_on HS.out hHeld)
        clear k0 k1 k2 m0 m1 m2 hHeld
        go_wp2_with fail
        go_roundw
        case rel => exact ⟨i + 1, by omega, by go_num, HZ.out⟩
        case measure => simp [intOf]; omega
  · have hbx := H7.out.1.on hB
    obtain ⟨x0, x1, x2⟩ := hbx.1.cells
    obtain ⟨y0, y1, y2⟩ := hbx.2.1.cells
    by_cases hs : y.seq ≤ x.seq
    · have ts : decide (y.seq ≤ x.seq) = true := decide_eq_true hs
      go_wp2_with fail
      refine (wakes_true _ (HP.out.1.on hbx.2.2.2)).mono ?_
      rintro e w9 ⟨rfl, hb9⟩
      have H9 := Lib.hid (below_on hbx.2.2.2 hb9)
      clear hbx hb9 x0 x1 x2 y0 y1 y2
      go_wp2_with fail
      go_ret
      exact ⟨rfl, H9.out⟩
    · have ts : decide (y.seq ≤ x.seq) = false := decide_eq_false hs
      go_wp2_with fail
      refine (less_any x y _).mono ?_
      rintro e w8 ⟨rfl, hb8⟩
      rw [show decide (LessP x y) = true from decide_eq_true (.inl (by omega))]
      have hb8' := below_on hbx.2.2.2 hb8
      clear hbx hb8 x0 x1 x2 y0 y1 y2
      go_wp2_with fail
      refine (wakes_true _ (HP.out.1.on hb8')).mono ?_
      rintro e w9 ⟨rfl, hb9⟩
      have H9 := Lib.hid (below_on hb8' hb9)
      clear hb8' hb9
      go_wp2_with fail
      go_ret
      exact ⟨rfl, H9.out⟩

end Go.Proofs.YtbfdjjkphmchgaaDoor
