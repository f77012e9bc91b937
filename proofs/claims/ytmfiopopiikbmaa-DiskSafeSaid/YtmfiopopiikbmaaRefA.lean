/-
  moultref04.find, without, with: their contracts.
-/
import Derived.Test.YtmfiopopiikbmaaFileM
import Derived.Test.YtmfiopopiikbmaaDiskP
import Derived.Laws.Slices
import Derived.BigQuiet
import Derived.Deep.QuietTactic
import Derived.Outline
import Derived.WalkLawsBesides
namespace Go.Proofs.Ytmfiopopiikbmaa
open Go.RowKit

theorem info_file : (Try.prog.info? 47).map (fun i => (i.zero, i.size, i.bytes)) = some (some (.agg #[.string ByteArray.empty, .slice none 0 0]), 2, 40) := by kernel_rfl
theorem info_partsV {P : Program} {t : TypeId} {z : Value} {s b : Nat} (h : (P.info? t).map (fun i => (i.zero, i.size, i.bytes)) = some (some z, s, b)) : ∃ i, P.info? t = some i ∧ i.zero = some z ∧ i.size = s ∧ i.bytes = b := by
  obtain ⟨i, hi, e⟩ := Option.map_eq_some_iff.1 h
  simp only [Prod.mk.injEq] at e
  exact ⟨i, hi, e.1, e.2.1, e.2.2⟩

theorem file_cells : (Value.agg #[.string ByteArray.empty, .slice none 0 0]).cells.size = 2 := rfl

/-! ### Pieces of a row -/
theorem cut_to {P : Program} {t e : TypeId} {i : TypeInfo} {m : Nat} (ht : P.underlying t = some (.slice e)) (hi : P.info? e = some i) (h1 : i.size = m) (A : Option Addr) (n c k : Nat) (hk : k ≤ c) (W : World) :
    (Instr.slice t (.slice A n c) none (some (.int .i64 (k : Int))) none).run P W = .ok (.slice A k c) W := by
  have he : P.elem t = e := by simp [Program.elem, ht]
  have hu : P.underlying t = some (.slice (P.elem t)) := by rw [he]; exact ht
  rw [run_slice_h W t A n c hu .i64 (k : Int) (by omega) (by omega), he]
  simp [sizeOf, run_typeInfo, hi, h1, sliced, go_sem]
theorem cut_from {P : Program} {t e : TypeId} {i : TypeInfo} {m : Nat} (ht : P.underlying t = some (.slice e)) (hi : P.info? e = some i) (h1 : i.size = m) (A : Option Addr) (n c k : Nat) (hk : k ≤ n) (hnc : n ≤ c) :
    ∃ A' c', (∀ W : World, (Instr.slice t (.slice A n c) (some (.int .i64 (k : Int))) none none).run P W = .ok (.slice A' (n - k) c') W) ∧ ∀ {α : Type} {w : World} {B : Nat} {cs : α → List Value} {xs : List α}, Row m cs w B A n xs → Row m cs w B A' (n - k) (xs.drop k) := by
  have he : P.elem t = e := by simp [Program.elem, ht]
  have hu : P.underlying t = some (.slice (P.elem t)) := by rw [he]; exact ht
  refine ⟨if c = k then A else A.map (·.add (k * m)), c - k, fun W => ?_, fun h => ?_⟩
  · rw [run_slice_l W t A n c hu .i64 (k : Int) (by omega) (by omega), he]
    simp [sizeOf, run_typeInfo, hi, h1, sliced, go_sem]
  · by_cases hc : c = k
    · refine ⟨by rw [List.length_drop, h.1], fun h0 => by omega⟩
    · rw [if_neg hc]
      exact h.rest hk

set_option maxRecDepth 100000 in
set_option maxHeartbeats 400000 in
theorem find_any (A : Option Addr) (n c : Nat) (fs : List FileM) (name : ByteArray) (w : World) (hr : Fs w w.heap.size A n fs) (hn : n ≤ 1048576) :
    Calls Try.prog 36 #[.slice A n c, .string name] w fun e w' => e = .returned (.int .i64 (findG FileM.name fs name)) ∧ w' = w := by
  have Hl := Lib.hid hr.row.1
  go_enter Try.func36, Try.ntmps36
  go_wp2
  go_loop [5] (fun i => ∃ (k : Nat), k ≤ n ∧ i = .int .i64 k ∧ ∀ j y, j < k → fs[j]? = some y → y.name ≠ name) (fun i => n - (intOf i).toNat)
  case atStart => exact ⟨0, Nat.zero_le _, rfl, fun j y h => by omega⟩
  case round =>
    obtain ⟨k, hk, rfl, hm⟩ := hrel
    by_cases hlt : k < n
    · obtain ⟨b, off, f, rfl, hb, hf, h0, h1, hok⟩ := hr.at_ hlt
      by_cases he : f.name = name
      · have hd : (f.name.toList == name.toList) = true := by rw [beq_name, decide_eq_true he]
        have Hf := Lib.hid (find_hit FileM.name hf he hm)
        clear hm hf
        go_wp2
        go_ret
        exact ⟨ret_int Hf.out.symm, rfl⟩
      · have hd : (f.name.toList == name.toList) = false := by rw [beq_name, decide_eq_false he]
        have Hm := Lib.hid (show ∀ j y, j < k + 1 → fs[j]? = some y → y.name ≠ name from fun j y hj hy => by
          by_cases hjk : j = k
          · subst hjk
            rw [hf] at hy
            cases hy
            exact he
          · exact hm j y (by omega) hy)
        clear hm hf
        go_wp2
        go_round
        case rel => exact ⟨k + 1, by omega, by go_num, Hm.out⟩
        case measure => simp [intOf]; omega
    · obtain rfl : k = n := by omega
      have Hf := Lib.hid (find_miss FileM.name (l := fs) (s := name) fun y hy => by
        obtain ⟨j, hj, rfl⟩ := List.mem_iff_getElem.1 hy
        exact hm j _ (by rw [← Hl.out]; exact hj) (List.getElem?_eq_getElem hj))
      clear hm
      go_wp2
      go_ret
      exact ⟨ret_int Hf.out.symm, rfl⟩

/-- A slice of files, told in memory that lies behind. -/
def Told (fs : List FileM) (e : Ending) (w' : World) : Prop := ∃ A n c, e = .returned (.slice A n c) ∧ n ≤ c ∧ Fs w' w'.heap.size A n fs
theorem fs_own {w w' : World} {base : Nat} {e : TypeId} {A : Option Addr} {n c : Nat} {fs : List FileM} (h : w'.ownsRow base e 2 (.slice A n c) n (fs.flatMap FileM.cs)) (hok : ∀ f ∈ fs, f.p.Ok w w.heap.size) (hb : Below w.heap.size w w') : Fs w' w'.heap.size A n fs :=
  ⟨Row.of_own (by omega) FileM.len h, fun f hf => (hok f hf).on hb hb.size⟩

set_option maxRecDepth 100000 in
set_option maxHeartbeats 1000000 in
theorem without_at (A : Option Addr) (n c : Nat) (fs : List FileM) (k : Nat) (w : World) (hr : Fs w w.heap.size A n fs) (hnc : n ≤ c) (hn : n ≤ 100000) (hk : k < n) :
    Calls Try.prog 61 #[.slice A n c, .int .i64 k] w fun e w' => Told (withoutG fs k) e w' ∧ Below w.heap.size w w' := by
  obtain ⟨i0, hi, hz0, hz1, hz2⟩ := info_partsV info_file
  have hd : decide ((k : Int) < 0) = false := by simp
  have s1 := fun W => cut_to (P := Try.prog) Try.underlying22 hi hz1 A n c k (by omega) W
  obtain ⟨A2, c2, s2, r2⟩ := cut_from (P := Try.prog) Try.underlying22 hi hz1 A n c (k + 1) (by omega) hnc
  obtain ⟨q, hq⟩ : ∃ q : Int, ((k + 1 : Nat) : Int) = q := ⟨_, rfl⟩
  rw [hq] at s2
  have hw1 : IntKind.i64.wrap ((k : Int) + 1) = q := by rw [IntKind.wrap_i64]; omega
  have H1 := Lib.hid (hr.first (k := k) (by omega)).source
  have H2 := Lib.hid ((r2 hr.row).source (by omega) FileM.len FileM.one)
  have Hok := Lib.hid hr.ok
  have Hw := Lib.hid (show withoutG fs k = fs.take k ++ fs.drop (k + 1) by unfold withoutG; rw [if_neg (by omega)]; rfl)
  clear hq r2 hr
  go_enter Try.func61, Try.ntmps61
  go_wp2
  go_region_held3 (fun W => Below w.heap.size w W)
    (first | assumption | exact Below.refl _ _ | exact (Below.refl _ _).drew | exact (Below.refl _ w).alloc (Nat.le_refl _) _ | exact ((Below.refl _ w).alloc (Nat.le_refl _) _).drew)
    (first
      | ((refine step_append (.tmp 8) (.tmp 11) 22 (by rfl) (by rfl) Try.underlying22 hi hz0 hz1 hz2 file_cells (by omega) (by rfl) (by rfl) ((own_empty w w.heap.size 47 2 (Nat.le_refl _)).drew) (H1.out.on (((Below.refl _ w).alloc (Nat.le_refl _) _).drew)) (by unfold maxLen; omega) (by omega) (by simp) ?_; intro v1 w4 L3; have hS4 : Below w.heap.size w w4 := L3.below (((Below.refl _ w).alloc (Nat.le_refl _) _).drew) (by simp) (fun g hg => by simp [Value.ownBlock] at hg; omega)))
      | ((refine step_append (.tmp 12) (.tmp 16) 22 (by rfl) (by rfl) Try.underlying22 hi hz0 hz1 hz2 file_cells (by omega) (by rfl) (by rfl) L3.1 (H2.out.on hS4) (by unfold maxLen; omega) (by omega) hS4.size ?_; intro v2 w5 L4; have hS5 : Below w.heap.size w w5 := L4.below hS4 hS4.size (L3.new (fun g hg => by simp [Value.ownBlock] at hg; omega) (by simp)))))
  have own := L4.1
  rw [Nat.zero_add, List.nil_append, ← List.flatMap_append, ← Hw.out, show k + (n - (k + 1)) = n - 1 by omega] at own
  obtain ⟨A', c', rfl, hc'⟩ := own_slice own
  have hfs := fs_own own (fun f hf => Hok.out f (without_mem hf)) hS5
  clear L3 L4 own
  go_wp2
  go_ret
  exact ⟨⟨A', _, c', rfl, hc', hfs⟩, hS5⟩

set_option maxRecDepth 100000 in
set_option maxHeartbeats 400000 in
theorem without_any (A : Option Addr) (n c : Nat) (fs : List FileM) (k : Int) (w : World) (hr : Fs w w.heap.size A n fs) (hnc : n ≤ c) (hn : n ≤ 100000) (hk : k < n) :
    Calls Try.prog 61 #[.slice A n c, .int .i64 k] w fun e w' => Told (withoutG fs k) e w' ∧ Below w.heap.size w w' := by
  by_cases h0 : k < 0
  · have hd : decide (k < 0) = true := decide_eq_true h0
    have Hw := Lib.hid (show withoutG fs k = fs by unfold withoutG; rw [if_pos h0])
    clear h0 hk
    go_enter Try.func61, Try.ntmps61
    go_wp2
    go_ret
    exact ⟨⟨A, n, c, rfl, hnc, by rw [Hw.out]; exact hr⟩, Below.refl _ _⟩
  · obtain ⟨j, rfl⟩ : ∃ j : Nat, k = (j : Int) := ⟨k.toNat, by omega⟩
    exact without_at A n c fs j w hr hnc hn (by omega)

theorem with_pieces {A : Option Addr} {n c k : Nat} {fs : List FileM} {i : TypeInfo} (w : World) (hi : Try.prog.info? 47 = some i) (h1 : i.size = 2) (hr : Fs w w.heap.size A n fs) (hnc : n ≤ c) (hk : k ≤ n) :
    (∀ W : World, (Instr.slice 22 (.slice A n c) none (some (.int .i64 (k : Int))) none).run Try.prog W = .ok (.slice A k c) W) ∧ ∃ A' r c', k + r = n ∧ (∀ W : World, (Instr.slice 22 (.slice A n c) (some (.int .i64 (k : Int))) none none).run Try.prog W = .ok (.slice A' r c') W) ∧
      Source w 2 A k ((fs.take k).flatMap FileM.cs) ∧ Source w 2 A' r ((fs.drop k).flatMap FileM.cs) := by
  obtain ⟨A2, c2, s2, r2⟩ := cut_from (P := Try.prog) Try.underlying22 hi h1 A n c k hk hnc
  exact ⟨fun W => cut_to (P := Try.prog) Try.underlying22 hi h1 A n c k (by omega) W, A2, n - k, c2, by omega, s2, (hr.first hk).source, (r2 hr.row).source (by omega) FileM.len FileM.one⟩
/-- What comes of the row that the three appends made. -/
theorem with_out {A : Option Addr} {m k : Nat} {fs fs1 : List FileM} (r : Nat) (f : FileM) {w w1 wx : World} (hBx : Below w1.heap.size w1 wx) (hr1 : Fs w1 w1.heap.size A m fs1) (hfw : f.p.Ok w1 w1.heap.size) (HBw : Below w.heap.size w w1)
    (hfs : fs1 = withoutG fs (findG FileM.name fs f.name)) (hp : placeG FileM.name fs1 f.name = k) : ∀ (w6 : World) (A' : Option Addr) (c' : Nat), Below wx.heap.size wx w6 →
      w6.ownsRow wx.heap.size 47 2 (.slice A' (0 + k + 1 + r) c') (0 + k + 1 + r) ([] ++ (fs1.take k).flatMap FileM.cs ++ FileM.cs f ++ (fs1.drop k).flatMap FileM.cs) →
      Fs w6 w6.heap.size A' (0 + k + 1 + r) (withG FileM.name fs f) ∧ Below w.heap.size w w6 := by
  intro w6 A' c' hS own
  have h6 := hBx.trans (hS.mono hBx.size)
  have e : withG FileM.name fs f = fs1.take k ++ f :: fs1.drop k := by unfold withG; rw [← hfs, hp]
  have e2 : [] ++ (fs1.take k).flatMap FileM.cs ++ FileM.cs f ++ (fs1.drop k).flatMap FileM.cs = (withG FileM.name fs f).flatMap FileM.cs := by rw [e]; simp
  rw [e2] at own
  refine ⟨⟨Row.of_own (by omega) FileM.len own, fun g hg => ?_⟩, HBw.trans (h6.mono HBw.size)⟩
  rw [e] at hg
  rcases List.mem_append.1 hg with h | h
  · exact (hr1.ok g (List.mem_of_mem_take h)).on h6 h6.size
  · rcases List.mem_cons.1 h with rfl | h
    · exact hfw.on h6 h6.size
    · exact (hr1.ok g (List.mem_of_mem_drop h)).on h6 h6.size

set_option maxRecDepth 100000 in
set_option maxHeartbeats 1000000 in
theorem with_any (A : Option Addr) (n c : Nat) (fs : List FileM) (f : FileM) (w : World) (hr : Fs w w.heap.size A n fs) (hnc : n ≤ c) (hn : n ≤ 100000) (hf : f.p.Ok w w.heap.size) :
    Calls Try.prog 60 #[.slice A n c, .agg #[.string f.name, .slice f.p.A f.p.n f.p.c]] w fun e w' => Told (withG FileM.name fs f) e w' ∧ Below w.heap.size w w' := by
  obtain ⟨i0, hi, hz0, hz1, hz2⟩ := info_partsV info_file
  go_enter Try.func60, Try.ntmps60
  go_wp2_with fail
  obtain ⟨z, hz⟩ : ∃ z, z = w.heap.size := ⟨_, rfl⟩
  obtain ⟨w0, hw0⟩ : ∃ w0, w0 = w.alloc (.cells #[.string f.name, .slice f.p.A f.p.n f.p.c] 47) := ⟨_, rfl⟩
  have hB0 : Below w.heap.size w w0 := by rw [hw0]; exact (Below.refl _ _).alloc (Nat.le_refl _) _
  have hz0' : w0.cell? ⟨z, 0, none⟩ = some (.string f.name) := by rw [hw0, hz, cell_of_row _ _ _ _ _ _ (World.alloc_heap_new w _)]; simp
  have hz1' : w0.cell? ⟨z, 1, none⟩ = some (.slice f.p.A f.p.n f.p.c) := by rw [hw0, hz, cell_of_row _ _ _ _ _ _ (World.alloc_heap_new w _)]; simp
  have hzl : z < w0.heap.size := by rw [hw0, hz]; simp
  rw [← hw0, ← hz]
  clear hw0 hz
  refine (find_any A n c fs f.name _ (hr.on hB0 hB0.size) (by omega)).mono ?_
  rintro e w' ⟨rfl, rfl⟩
  go_wp2_with fail
  refine (without_any A n c fs _ _ (hr.on hB0 hB0.size) hnc hn (by rw [← hr.row.1]; exact (find_range FileM.name fs f.name).2)).mono ?_
  rintro e w1 ⟨⟨A1, m, c1, rfl, hc1, hr1⟩, hB1⟩
  obtain ⟨fs1, hfs1⟩ : ∃ fs1, fs1 = withoutG fs (findG FileM.name fs f.name) := ⟨_, rfl⟩
  rw [← hfs1] at hr1
  have hm : m ≤ 100000 := by
    have h1 := without_length fs (findG FileM.name fs f.name)
    rw [← hfs1, hr1.row.1, hr.row.1] at h1
    omega
  have Hfs := Lib.hid hfs1
  have k0 := (hB1.cell (p := ⟨z, 0, none⟩) hzl).trans hz0'
  have k1 := (hB1.cell (p := ⟨z, 1, none⟩) hzl).trans hz1'
  have hzl1 : z < w1.heap.size := Nat.lt_of_lt_of_le hzl hB1.size
  have HBw := Lib.hid (hB0.trans (hB1.mono hB0.size))
  have hfw := hf.on HBw.out HBw.out.size
  have Hl := Lib.hid hr1.row.1
  clear hz0' hz1' hfs1 hB1 hB0 hzl hr hf
  go_wp2_with fail
  go_loopw [5] (fun i wr => ∃ j : Nat, j ≤ m ∧ i = .int .i64 j ∧ Below w1.heap.size w1 wr ∧ ∀ q y, q < j → fs1[q]? = some y → lessL y.name f.name = true) (fun i _ => m - (intOf i).toNat)
  case atStart => exact ⟨0, Nat.zero_le _, rfl, Below.refl _ _, fun q y h => by omega⟩
  case round =>
    obtain ⟨j, hj, rfl, hB, hm2⟩ := hrel
    have c0 := (hB.cell (p := ⟨z, 0, none⟩) hzl1).trans k0
    have Hm := Lib.hid hm2
    clear hm2
    by_cases hlt : j < m
    · obtain ⟨b, off, g, rfl, hb, hg, h0, _, _⟩ := (hr1.on hB hB.size).at_ hlt
      have hi1 : (0 : Int) ≤ (j : Int) := by omega
      have hi2 : (j : Int) < (m : Int) := by omega
      have hi3 : decide ((j : Int) < (m : Int)) = true := by simp; omega
      by_cases hls : lessL g.name f.name = true
      · have hls' : Op.bytesLess g.name.toList f.name.toList = true := hls
        have Hm2 := Lib.hid (show ∀ q y, q < j + 1 → fs1[q]? = some y → lessL y.name f.name = true from fun q y hq hy => by
          by_cases hqj : q = j
          · subst hqj
            rw [hg] at hy
            cases hy
            exact hls
          · exact Hm.out q y (by omega) hy)
        clear hls hg
        go_wp2_with fail
        go_quiet (fail)
        go_wp2_with fail
        go_roundw
        case rel => exact ⟨j + 1, by omega, by go_num, below_drewN hB _, Hm2.out⟩
        case measure => simp [intOf]; omega
      · have hls' : Op.bytesLess g.name.toList f.name.toList = false := by simpa [lessL] using hls
        have Hp := Lib.hid (place_at FileM.name (l := fs1) (s := f.name) (k := j) (by rw [Hl.out]; omega) Hm.out (fun y hy => by rw [hg] at hy; cases hy; exact hls'))
        clear hls hg
        go_wp2_with fail
        go_quiet (fail)
        go_wp2_with fail
        obtain ⟨wx, hwx⟩ : ∃ wx, wx = wr.drewN nq := ⟨_, rfl⟩
        have hBx : Below w1.heap.size w1 wx := by rw [hwx]; exact below_drewN hB _
        rw [← hwx]
        obtain ⟨s1, A2, r, c2, hr0, s2, H1', H2'⟩ := with_pieces wx hi hz1 (hr1.on hBx hBx.size) hc1 (show j ≤ m by omega)
        have Hc := Lib.hid (with_out r f hBx hr1 hfw HBw.out Hfs.out Hp.out)
        have q0 : ∀ W, Below wx.heap.size wx W → W.cell? ⟨z, 0, none⟩ = some (.string f.name) := fun W hW => ((hBx.trans (hW.mono hBx.size)).cell (p := ⟨z, 0, none⟩) hzl1).trans k0
        have q1 : ∀ W, Below wx.heap.size wx W → W.cell? ⟨z, 1, none⟩ = some (.slice f.p.A f.p.n f.p.c) := fun W hW => ((hBx.trans (hW.mono hBx.size)).cell (p := ⟨z, 1, none⟩) hzl1).trans k1
        have H1 := Lib.hid H1'
        have H2 := Lib.hid H2'
        clear H1' H2' hwx c0
        go_region_held3 (fun W => Below wx.heap.size wx W)
          (first | assumption | exact Below.refl _ _ | exact (Below.refl _ _).drew | exact Below.drew (by assumption) | exact Below.alloc (by assumption) (Below.size (by assumption)) _)
          (first
            | ((refine step_append (.tmp 28) (.tmp 31) 22 (by rfl) (by rfl) Try.underlying22 hi hz0 hz1 hz2 file_cells (by omega) (by rfl) (by rfl) (base := wx.heap.size) (v := .slice (some ⟨wx.heap.size, 0, none⟩) 0 0) (size := 2) (n := 0) (xs := []) (by first | exact (own_emptyG (by simp) (by simp)).drew | exact ((own_emptyG (by simp) (by simp)).alloc _).drew) (H1.out.on (by assumption)) (by unfold maxLen; omega) (by omega) (by simp; try omega) ?_; intro v1 w4 L3; have hS4 : Below wx.heap.size wx w4 := L3.below (by assumption) (by simp; try omega) (fun g hg => by simp [Value.ownBlock] at hg; omega); have n4 : ∀ g, v1.ownBlock = some g → wx.heap.size ≤ g := L3.new (fun g hg => by simp [Value.ownBlock] at hg; omega) (by simp; try omega)))
            | ((refine step_append (.tmp 28) (.tmp 31) 22 (by rfl) (by rfl) Try.underlying22 hi hz0 hz1 hz2 file_cells (by omega) (by rfl) (by rfl) (base := wx.heap.size) (v := .slice (some ⟨wx.heap.size + 1, 0, none⟩) 0 0) (size := 2) (n := 0) (xs := []) (by first | exact (own_emptyG (by simp) (by simp)).drew | exact ((own_emptyG (by simp) (by simp)).alloc _).drew) (H1.out.on (by assumption)) (by unfold maxLen; omega) (by omega) (by simp; try omega) ?_; intro v1 w4 L3; have hS4 : Below wx.heap.size wx w4 := L3.below (by assumption) (by simp; try omega) (fun g hg => by simp [Value.ownBlock] at hg; omega); have n4 : ∀ g, v1.ownBlock = some g → wx.heap.size ≤ g := L3.new (fun g hg => by simp [Value.ownBlock] at hg; omega) (by simp; try omega)))
            | ((refine step_append (.tmp 32) (.tmp 34) 22 (by rfl) (by rfl) Try.underlying22 hi hz0 hz1 hz2 file_cells (by omega) (by rfl) (by rfl) (base := wx.heap.size) (v := v1) (size := 2) (n := 0 + j) (xs := [] ++ (fs1.take j).flatMap FileM.cs) (news := FileM.cs f) (by first | exact L3.1 | exact L3.1.alloc _) (by first | exact Source.one (cs := FileM.cs f) (size := 2) rfl (FileM.one f) (by simp) | exact ((Source.one (cs := FileM.cs f) (size := 2) rfl (FileM.one f) (by simp)).drew).grown L3.2.1 (by simp [Value.ownBlock]) | exact (((Source.one (cs := FileM.cs f) (size := 2) rfl (FileM.one f) (by simp)).alloc _).drew).grown L3.2.1 (by simp [Value.ownBlock])) (by unfold maxLen; omega) (by omega) (Below.size (by assumption)) ?_; intro v2 w5 L4; have hS5 : Below wx.heap.size wx w5 := L4.below (by assumption) (Below.size (by assumption)) n4; have n5 : ∀ g, v2.ownBlock = some g → wx.heap.size ≤ g := L4.new n4 (Below.size (by assumption))))
            | ((refine step_append (.tmp 35) (.tmp 38) 22 (by rfl) (by rfl) Try.underlying22 hi hz0 hz1 hz2 file_cells (by omega) (by rfl) (by rfl) L4.1 (H2.out.on hS5) (by unfold maxLen; omega) (by omega) hS5.size ?_; intro v3 w6 L5; have hS6 : Below wx.heap.size wx w6 := L5.below hS5 hS5.size n5)))
        all_goals
          have own := L5.1
          obtain ⟨A', c', rfl, hc'⟩ := own_slice own
          have ho := Hc.out w6 A' c' hS6 own
          clear L3 L4 L5 own
          go_wp2
          go_ret
          exact ⟨⟨A', _, c', rfl, hc', ho.1⟩, ho.2⟩
    · obtain rfl : m = j := by omega
      have hi3 : decide ((m : Int) < (m : Int)) = false := by simp
      go_wp2_with fail
      go_quiet (fail)
      go_wp2_with fail
      have Hp := Lib.hid (place_at FileM.name (l := fs1) (s := f.name) (k := m) (by rw [Hl.out]; omega) Hm.out (fun y hy => by have h1 := (List.getElem?_eq_some_iff.1 hy).1; rw [Hl.out] at h1; omega))
      obtain ⟨wx, hwx⟩ : ∃ wx, wx = wr.drewN nq := ⟨_, rfl⟩
      have hBx : Below w1.heap.size w1 wx := by rw [hwx]; exact below_drewN hB _
      rw [← hwx]
      obtain ⟨s1, A2, r, c2, hr0, s2, H1', H2'⟩ := with_pieces wx hi hz1 (hr1.on hBx hBx.size) hc1 (show m ≤ m by omega)
      have Hc := Lib.hid (with_out r f hBx hr1 hfw HBw.out Hfs.out Hp.out)
      have q0 : ∀ W, Below wx.heap.size wx W → W.cell? ⟨z, 0, none⟩ = some (.string f.name) := fun W hW => ((hBx.trans (hW.mono hBx.size)).cell (p := ⟨z, 0, none⟩) hzl1).trans k0
      have q1 : ∀ W, Below wx.heap.size wx W → W.cell? ⟨z, 1, none⟩ = some (.slice f.p.A f.p.n f.p.c) := fun W hW => ((hBx.trans (hW.mono hBx.size)).cell (p := ⟨z, 1, none⟩) hzl1).trans k1
      have H1 := Lib.hid H1'
      have H2 := Lib.hid H2'
      clear H1' H2' hwx c0
      go_region_held3 (fun W => Below wx.heap.size wx W)
        (first | assumption | exact Below.refl _ _ | exact (Below.refl _ _).drew | exact Below.drew (by assumption) | exact Below.alloc (by assumption) (Below.size (by assumption)) _)
        (first
          | ((refine step_append (.tmp 28) (.tmp 31) 22 (by rfl) (by rfl) Try.underlying22 hi hz0 hz1 hz2 file_cells (by omega) (by rfl) (by rfl) (base := wx.heap.size) (v := .slice (some ⟨wx.heap.size, 0, none⟩) 0 0) (size := 2) (n := 0) (xs := []) (by first | exact (own_emptyG (by simp) (by simp)).drew | exact ((own_emptyG (by simp) (by simp)).alloc _).drew) (H1.out.on (by assumption)) (by unfold maxLen; omega) (by omega) (by simp; try omega) ?_; intro v1 w4 L3; have hS4 : Below wx.heap.size wx w4 := L3.below (by assumption) (by simp; try omega) (fun g hg => by simp [Value.ownBlock] at hg; omega); have n4 : ∀ g, v1.ownBlock = some g → wx.heap.size ≤ g := L3.new (fun g hg => by simp [Value.ownBlock] at hg; omega) (by simp; try omega)))
          | ((refine step_append (.tmp 28) (.tmp 31) 22 (by rfl) (by rfl) Try.underlying22 hi hz0 hz1 hz2 file_cells (by omega) (by rfl) (by rfl) (base := wx.heap.size) (v := .slice (some ⟨wx.heap.size + 1, 0, none⟩) 0 0) (size := 2) (n := 0) (xs := []) (by first | exact (own_emptyG (by simp) (by simp)).drew | exact ((own_emptyG (by simp) (by simp)).alloc _).drew) (H1.out.on (by assumption)) (by unfold maxLen; omega) (by omega) (by simp; try omega) ?_; intro v1 w4 L3; have hS4 : Below wx.heap.size wx w4 := L3.below (by assumption) (by simp; try omega) (fun g hg => by simp [Value.ownBlock] at hg; omega); have n4 : ∀ g, v1.ownBlock = some g → wx.heap.size ≤ g := L3.new (fun g hg => by simp [Value.ownBlock] at hg; omega) (by simp; try omega)))
          | ((refine step_append (.tmp 32) (.tmp 34) 22 (by rfl) (by rfl) Try.underlying22 hi hz0 hz1 hz2 file_cells (by omega) (by rfl) (by rfl) (base := wx.heap.size) (v := v1) (size := 2) (n := 0 + m) (xs := [] ++ (fs1.take m).flatMap FileM.cs) (news := FileM.cs f) (by first | exact L3.1 | exact L3.1.alloc _) (by first | exact Source.one (cs := FileM.cs f) (size := 2) rfl (FileM.one f) (by simp) | exact ((Source.one (cs := FileM.cs f) (size := 2) rfl (FileM.one f) (by simp)).drew).grown L3.2.1 (by simp [Value.ownBlock]) | exact (((Source.one (cs := FileM.cs f) (size := 2) rfl (FileM.one f) (by simp)).alloc _).drew).grown L3.2.1 (by simp [Value.ownBlock])) (by unfold maxLen; omega) (by omega) (Below.size (by assumption)) ?_; intro v2 w5 L4; have hS5 : Below wx.heap.size wx w5 := L4.below (by assumption) (Below.size (by assumption)) n4; have n5 : ∀ g, v2.ownBlock = some g → wx.heap.size ≤ g := L4.new n4 (Below.size (by assumption))))
          | ((refine step_append (.tmp 35) (.tmp 38) 22 (by rfl) (by rfl) Try.underlying22 hi hz0 hz1 hz2 file_cells (by omega) (by rfl) (by rfl) L4.1 (H2.out.on hS5) (by unfold maxLen; omega) (by omega) hS5.size ?_; intro v3 w6 L5; have hS6 : Below wx.heap.size wx w6 := L5.below hS5 hS5.size n5)))
      all_goals
        have own := L5.1
        obtain ⟨A', c', rfl, hc'⟩ := own_slice own
        have ho := Hc.out w6 A' c' hS6 own
        clear L3 L4 L5 own
        go_wp2
        go_ret
        exact ⟨⟨A', _, c', rfl, hc', ho.1⟩, ho.2⟩

end Go.Proofs.Ytmfiopopiikbmaa
