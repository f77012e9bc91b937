/-
  moultref04.size, done, all: their contracts.
-/
import Derived.Test.YtmfiopopiikbmaaRefA
namespace Go.Proofs.Ytmfiopopiikbmaa
open Go.RowKit

def FileM.pure (f : FileM) : FileP := ⟨f.name, f.p.l⟩
def OpM.pure (o : OpM) : OpP := ⟨o.kind, o.name, o.to, o.p.l⟩
theorem info_u8 : (Try.prog.info? 5).map (fun i => (i.zero, i.size, i.bytes)) = some (some (.int .u8 0), 1, 1) := by kernel_rfl
theorem byte_cells : (Value.int .u8 0).cells.size = 1 := rfl
/-- A slice of files, told as a list. -/
def ToldP (l : List FileP) (e : Ending) (w' : World) : Prop := ∃ A n c fs, e = .returned (.slice A n c) ∧ n ≤ c ∧ Fs w' w'.heap.size A n fs ∧ fs.map FileM.pure = l
theorem Told.p {fs : List FileM} {l : List FileP} {e : Ending} {w' : World} (h : Told fs e w') (hl : fs.map FileM.pure = l) : ToldP l e w' := by
  obtain ⟨A, n, c, he, hc, hf⟩ := h
  exact ⟨A, n, c, fs, he, hc, hf, hl⟩
theorem find_pure (fs : List FileM) (s : ByteArray) : findG FileP.name (fs.map FileM.pure) s = findG FileM.name fs s := find_map FileM.name FileP.name FileM.pure (fun _ => rfl) fs s
theorem with_pure (fs : List FileM) (f : FileM) : (withG FileM.name fs f).map FileM.pure = withG FileP.name (fs.map FileM.pure) f.pure := (with_map FileM.name FileP.name FileM.pure (fun _ => rfl) fs f).symm
theorem without_pure (fs : List FileM) (k : Int) : (withoutG fs k).map FileM.pure = withoutG (fs.map FileM.pure) k := (without_map FileM.pure fs k).symm

set_option maxRecDepth 100000 in
set_option maxHeartbeats 400000 in
theorem size_any (A : Option Addr) (n c : Nat) (fs : List FileM) (w : World) (hr : Fs w w.heap.size A n fs) (hn : n ≤ 100000) (hs : ∀ f ∈ fs, f.p.n ≤ 1099511627776) :
    Calls Try.prog 37 #[.slice A n c] w fun e w' => e = .returned (.int .i64 (sizeP (fs.map FileM.pure) : Nat)) ∧ w' = w := by
  have Hl := Lib.hid hr.row.1
  have hb : ∀ k, k ≤ n → sizeP ((fs.take k).map FileM.pure) ≤ k * 1099511627776 := by
    intro k hk
    induction k with
    | zero => simp [sizeP]
    | succ k ih =>
      have hlt : k < fs.length := by rw [Hl.out]; omega
      have h1 : (fs[k]).p.n ≤ 1099511627776 := hs _ (List.getElem_mem hlt)
      have h2 := ((hr.ok _ (List.getElem_mem hlt)).rd).1
      have h3 := ih (by omega)
      rw [List.take_add_one, List.getElem?_eq_getElem hlt]
      simp only [sizeP, List.map_append, List.map_map, List.sum_append, Option.toList_some, List.map_cons, List.map_nil, List.sum_cons, List.sum_nil, FileM.pure] at h3 ⊢
      rw [h2]
      omega
  have Hb := Lib.hid hb
  clear hb hs
  go_enter Try.func37, Try.ntmps37
  go_wp2
  go_loop [3, 4] (fun x i => ∃ (k : Nat), k ≤ n ∧ i = .int .i64 k ∧ x = .int .i64 ((sizeP ((fs.take k).map FileM.pure) : Nat) : Int)) (fun _ i => n - (intOf i).toNat)
  case atStart => exact ⟨0, Nat.zero_le _, rfl, rfl⟩
  case round =>
    obtain ⟨k, hk, rfl, rfl⟩ := hrel
    have hb1 := Hb.out k hk
    by_cases hlt : k < n
    · obtain ⟨b, off, f, rfl, hbl, hf, h0, h1, hok⟩ := hr.at_ hlt
      have hb2 := Hb.out (k + 1) (by omega)
      have hS := Lib.hid (show sizeP ((fs.take (k + 1)).map FileM.pure) = sizeP ((fs.take k).map FileM.pure) + f.p.n by
        rw [List.take_add_one, hf]
        simp only [sizeP, List.map_append, List.map_map, List.sum_append, Option.toList_some, List.map_cons, List.map_nil, List.sum_cons, List.sum_nil, FileM.pure]
        rw [hok.rd.1]
        omega)
      obtain ⟨x, hx⟩ : ∃ x, sizeP ((fs.take k).map FileM.pure) = x := ⟨_, rfl⟩
      rw [hS.out] at hb2
      rw [hx] at hb1 hb2 ⊢
      have Hx := Lib.hid hx
      have hw : wrap64 ((x : Int) + (f.p.n : Int)) = (x : Int) + (f.p.n : Int) := by unfold wrap64; omega
      clear hx hok hf
      go_wp2
      go_round
      case rel => exact ⟨k + 1, by omega, by go_num, by rw [hS.out, Hx.out]; go_num⟩
      case measure => simp [intOf]; omega
    · obtain rfl : k = n := by omega
      have Hf := Lib.hid (show fs.take k = fs from List.take_of_length_le (by rw [Hl.out]; exact Nat.le_refl _))
      rw [Hf.out]
      go_wp2
      go_ret
      exact ⟨rfl, rfl⟩

theorem app_ok {w : World} {base : Nat} {e : TypeId} {A : Option Addr} {n c : Nat} {l l' : List Int} (h : w.ownsRow base e 1 (.slice A n c) n ([] ++ l.map (Value.int .u8) ++ l'.map (Value.int .u8))) (hnc : n ≤ c) (hl : Byt l) (hl' : Byt l') : Byts.Ok w w.heap.size ⟨A, n, c, l ++ l'⟩ := by
  rw [List.nil_append, ← List.map_append] at h
  exact ⟨Rd.of_own h, hl.append hl', hnc⟩
theorem without_held {w W : World} {A : Option Addr} {n c : Nat} {fs : List FileM} {k : Int} (hS : Below w.heap.size w W) (hr : Fs w w.heap.size A n fs) (hnc : n ≤ c) (hn : n ≤ 100000) (hk : k < n) :
    Calls Try.prog 61 #[.slice A n c, .int .i64 k] W fun e W' => Told (withoutG fs k) e W' ∧ Below w.heap.size w W' :=
  (without_any A n c fs k W (hr.on hS hS.size) hnc hn hk).mono fun _ _ ⟨h, hB⟩ => ⟨h, hS.trans (hB.mono hS.size)⟩
theorem with_held {w W : World} {A : Option Addr} {n c : Nat} {fs : List FileM} {f : FileM} (hS : Below w.heap.size w W) (hr : Fs W W.heap.size A n fs) (hnc : n ≤ c) (hn : n ≤ 100000) (hf : f.p.Ok w w.heap.size) :
    Calls Try.prog 60 #[.slice A n c, .agg #[.string f.name, .slice f.p.A f.p.n f.p.c]] W fun e W' => Told (withG FileM.name fs f) e W' ∧ Below w.heap.size w W' :=
  (with_any A n c fs f W hr hnc hn (hf.on hS hS.size)).mono fun _ _ ⟨h, hB⟩ => ⟨h, hS.trans (hB.mono hS.size)⟩

set_option maxRecDepth 100000 in
set_option maxHeartbeats 1000000 in
theorem done_any (A : Option Addr) (n c : Nat) (fs : List FileM) (o : OpM) (w : World) (hr : Fs w w.heap.size A n fs) (hnc : n ≤ c) (hn : n ≤ 90000) (ho : o.p.Ok w w.heap.size) (hs : ∀ f ∈ fs, f.p.n ≤ 1099511627776) (hos : o.p.n ≤ 1099511627776) :
    Calls Try.prog 50 #[.slice A n c, .agg #[.int .u8 o.kind, .string o.name, .string o.to, .slice o.p.A o.p.n o.p.c]] w fun e w' => ToldP (doneP (fs.map FileM.pure) o.pure) e w' ∧ Below w.heap.size w w' := by
  obtain ⟨i0, hi, hz0, hz1, hz2⟩ := info_partsV info_u8
  go_enter Try.func50, Try.ntmps50
  go_wp2_with fail
  obtain ⟨z, hz⟩ : ∃ z, z = w.heap.size := ⟨_, rfl⟩
  obtain ⟨w0, hw0⟩ : ∃ w0, w0 = w.alloc (.cells #[.int .u8 o.kind, .string o.name, .string o.to, .slice o.p.A o.p.n o.p.c] 28) := ⟨_, rfl⟩
  have hB0 : Below w.heap.size w w0 := by rw [hw0]; exact (Below.refl _ _).alloc (Nat.le_refl _) _
  have k0 : w0.cell? ⟨z, 0, none⟩ = some (.int .u8 o.kind) := by rw [hw0, hz, cell_of_row _ _ _ _ _ _ (World.alloc_heap_new w _)]; simp
  have k1 : w0.cell? ⟨z, 1, none⟩ = some (.string o.name) := by rw [hw0, hz, cell_of_row _ _ _ _ _ _ (World.alloc_heap_new w _)]; simp
  have k2 : w0.cell? ⟨z, 2, none⟩ = some (.string o.to) := by rw [hw0, hz, cell_of_row _ _ _ _ _ _ (World.alloc_heap_new w _)]; simp
  have k3 : w0.cell? ⟨z, 3, none⟩ = some (.slice o.p.A o.p.n o.p.c) := by rw [hw0, hz, cell_of_row _ _ _ _ _ _ (World.alloc_heap_new w _)]; simp
  have hzl : z < w0.heap.size := by rw [hw0, hz]; simp
  have hr0 := hr.on hB0 hB0.size
  have ho0 := ho.on hB0 hB0.size
  rw [← hw0, ← hz]
  clear hw0 hz ho
  refine (find_any A n c fs o.name _ hr0 (by omega)).mono ?_
  rintro e w' ⟨rfl, rfl⟩
  obtain ⟨k, hk⟩ : ∃ k, findG FileM.name fs o.name = k := ⟨_, rfl⟩
  have hkr := find_range FileM.name fs o.name
  rw [hk, hr.row.1] at hkr
  rw [hk]
  have Hk := Lib.hid (show findG FileP.name (fs.map FileM.pure) o.pure.name = k by rw [find_pure]; exact hk)
  have HB := Lib.hid hB0
  clear hk hr hB0
  by_cases c1 : o.kind = 1
  · have hd : (o.kind == 1) = true := by simpa using c1
    have He : Hid (doneP (fs.map FileM.pure) o.pure = (withG FileM.name fs ⟨o.name, ⟨none, 0, 0, []⟩⟩).map FileM.pure) := by
      rw [with_pure, done_create (o := o.pure) c1]
      rfl
    clear c1
    go_wp2_with fail
    refine (with_any A n c fs ⟨o.name, ⟨none, 0, 0, []⟩⟩ _ hr0 hnc (by omega) ⟨Rd.nil, Byt.nil, Nat.le_refl _⟩).mono ?_
    rintro e w1 ⟨ht, hb1⟩
    obtain ⟨A1, n1, c1, rfl, hc1, hf1⟩ := ht
    go_wp2_with fail
    go_ret
    exact ⟨⟨A1, n1, c1, _, rfl, hc1, hf1, He.out.symm⟩, HB.out.trans (hb1.mono HB.out.size)⟩
  · have hd : (o.kind == 1) = false := by simpa using c1
    by_cases c2 : k < 0
    · have hd2 : decide (k < 0) = true := decide_eq_true c2
      have He : Hid (doneP (fs.map FileM.pure) o.pure = fs.map FileM.pure) := done_gone (o := o.pure) c1 (by rw [Hk.out]; exact c2)
      clear c1 c2
      go_wp2_with fail
      go_ret
      exact ⟨⟨A, n, c, fs, rfl, hnc, hr0, He.out.symm⟩, HB.out⟩
    · have hd2 : decide (k < 0) = false := decide_eq_false c2
      obtain ⟨j, rfl⟩ : ∃ j : Nat, k = (j : Int) := ⟨k.toNat, by omega⟩
      have hjn : j < n := by omega
      obtain ⟨b, off, f, rfl, hbl, hf, h0, h1, hok⟩ := hr0.at_ hjn
      have hsf := hs f (List.mem_of_getElem? hf)
      have hn1 : n ≤ 100000 := by omega
      have hj0 : (0 : Int) ≤ (j : Int) := by omega
      have hj1 : (j : Int) < (n : Int) := by omega
      have Hat := Lib.hid (show atP (fs.map FileM.pure) j = f.p.l from atP_eq (f := f.pure) (by rw [List.getElem?_map, hf]; rfl))
      clear hs hf
      by_cases c3 : o.kind = 2
      · have hd3 : (o.kind == 2) = true := by simpa using c3
        have He : Hid (∀ p : Byts, p.l = f.p.l ++ o.p.l → (withG FileM.name fs ⟨o.name, p⟩).map FileM.pure = doneP (fs.map FileM.pure) o.pure) := fun p hp => by
          rw [with_pure, done_append (o := o.pure) c3 (by rw [Hk.out]; exact c2), Hk.out, Hat.out]
          show withG FileP.name _ ⟨o.name, p.l⟩ = _
          rw [hp]
          rfl
        clear c1 c2 c3
        go_wp2_with fail
        have q1 : ∀ W, Below w'.heap.size w' W → W.cell? ⟨z, 1, none⟩ = some (.string o.name) := fun W hW => (hW.cell (p := ⟨z, 1, none⟩) hzl).trans k1
        have q2 : ∀ W, Below w'.heap.size w' W → W.cell? ⟨z, 2, none⟩ = some (.string o.to) := fun W hW => (hW.cell (p := ⟨z, 2, none⟩) hzl).trans k2
        have q3 : ∀ W, Below w'.heap.size w' W → W.cell? ⟨z, 3, none⟩ = some (.slice o.p.A o.p.n o.p.c) := fun W hW => (hW.cell (p := ⟨z, 3, none⟩) hzl).trans k3
        have qf : ∀ W, Below w'.heap.size w' W → W.cell? ⟨b, off + j * 2 + 1, none⟩ = some (.slice f.p.A f.p.n f.p.c) := fun W hW => (hW.cell (p := ⟨b, off + j * 2 + 1, none⟩) hbl).trans h1
        have Hs1 := Lib.hid hok.rd.source
        have Hs2 := Lib.hid ho0.rd.source
        have Hb := Lib.hid (⟨hok.byt, ho0.byt⟩ : Byt f.p.l ∧ Byt o.p.l)
        have Hr := Lib.hid hr0
        clear k0 k1 k2 k3 h0 h1 hok ho0 hr0
        go_region_held3 (fun W => Below w'.heap.size w' W)
          (first | assumption | exact Below.refl _ _ | exact (Below.refl _ _).drew | exact Below.drew (by assumption) | exact Below.alloc (by assumption) (Below.size (by assumption)) _)
          (first
            | ((refine step_append (.tmp 29) (.tmp 34) 26 (by rfl) (by rfl) Try.underlying26 hi hz0 hz1 hz2 byte_cells (by omega) (by rfl) (by rfl) (base := w'.heap.size) (size := 1) (n := 0) (xs := []) (v := .slice (some ⟨w'.heap.size, 0, none⟩) 0 0) (own_emptyG rfl (Nat.le_refl _)).drew (Hs1.out.on (by assumption)) (by unfold maxLen; omega) (by omega) (by simp) ?_; intro v1 w4 L3; have hS4 : Below w'.heap.size w' w4 := L3.below (by assumption) (by simp) (fun g hg => by simp [Value.ownBlock] at hg; omega); have n4 : ∀ g, v1.ownBlock = some g → w'.heap.size ≤ g := L3.new (fun g hg => by simp [Value.ownBlock] at hg; omega) (by simp)))
            | ((refine step_append (.tmp 35) (.tmp 37) 26 (by rfl) (by rfl) Try.underlying26 hi hz0 hz1 hz2 byte_cells (by omega) (by rfl) (by rfl) L3.1 (Hs2.out.on hS4) (by unfold maxLen; omega) (by omega) hS4.size ?_; intro v2 w5 L4; have hS5 : Below w'.heap.size w' w5 := L4.below hS4 hS4.size n4; have own5 := L4.1; obtain ⟨N, hN⟩ : ∃ N, 0 + f.p.n + o.p.n = N := ⟨_, rfl⟩; rw [hN] at own5; clear L4 hN; obtain ⟨A2, c2, rfl, hc2⟩ := own_slice own5; have H5 := Lib.hid (app_ok own5 hc2 Hb.out.1 Hb.out.2)))
            | (go_at_call 60; (with_reducible refine (with_any _ n c fs ⟨o.name, ⟨A2, N, c2, f.p.l ++ o.p.l⟩⟩ w5 (Hr.out.on hS5 hS5.size) hnc hn1 H5.out).mono ?_); rintro e w6 ⟨⟨A3, n3, c3, rfl, hc3, hf3⟩, hb6⟩; have hS6 := hS5.trans (hb6.mono hS5.size)))
        go_wp2_with fail
        go_ret
        exact ⟨⟨A3, n3, c3, _, rfl, hc3, hf3, He.out _ rfl⟩, HB.out.trans (hS6.mono HB.out.size)⟩
      · have hd3 : (o.kind == 2) = false := by simpa using c3
        by_cases c4 : o.kind = 3 ∧ o.to ≠ o.name
        · have hd4 : (o.kind == 3) = true := by simpa using c4.1
          have hd5 : (o.to.toList == o.name.toList) = false := by rw [beq_name]; exact decide_eq_false c4.2
          have He : Hid ((withG FileM.name (withoutG fs j) ⟨o.to, f.p⟩).map FileM.pure = doneP (fs.map FileM.pure) o.pure) := by
            rw [with_pure, without_pure, done_rename (o := o.pure) c4.1 c4.2 (by rw [Hk.out]; exact c2), Hk.out, Hat.out]
            rfl
          clear c1 c2 c3 c4
          go_wp2_with fail
          have q1 : ∀ W, Below w'.heap.size w' W → W.cell? ⟨z, 1, none⟩ = some (.string o.name) := fun W hW => (hW.cell (p := ⟨z, 1, none⟩) hzl).trans k1
          have q2 : ∀ W, Below w'.heap.size w' W → W.cell? ⟨z, 2, none⟩ = some (.string o.to) := fun W hW => (hW.cell (p := ⟨z, 2, none⟩) hzl).trans k2
          have q3 : ∀ W, Below w'.heap.size w' W → W.cell? ⟨z, 3, none⟩ = some (.slice o.p.A o.p.n o.p.c) := fun W hW => (hW.cell (p := ⟨z, 3, none⟩) hzl).trans k3
          have qf : ∀ W, Below w'.heap.size w' W → W.cell? ⟨b, off + j * 2 + 1, none⟩ = some (.slice f.p.A f.p.n f.p.c) := fun W hW => (hW.cell (p := ⟨b, off + j * 2 + 1, none⟩) hbl).trans h1
          have Hf := Lib.hid hok
          have Hr := Lib.hid hr0
          have hm : ∀ m, (withoutG fs (j : Int)).length = m → m ≤ 100000 := fun m hm => by
            have h1 := without_length fs (j : Int)
            rw [hr0.row.1] at h1
            omega
          have Hm := Lib.hid hm
          clear k0 k1 k2 k3 h0 h1 hok ho0 hr0 hm
          go_region_held3 (fun W => Below w'.heap.size w' W)
            (first | assumption | exact Below.refl _ _ | exact (Below.refl _ _).drew | exact Below.drew (by assumption) | exact Below.alloc (by assumption) (Below.size (by assumption)) _)
            (first
              | (go_at_call 61; (with_reducible refine (without_held (w := w') (by assumption) Hr.out hnc hn1 hj1).mono ?_); rintro e w1 ⟨⟨A1, n1, c1, rfl, hc1, hf1⟩, hS1⟩)
              | (go_at_call 60; (with_reducible refine (with_held (w := w') (f := ⟨o.to, f.p⟩) (by assumption) hf1 hc1 (Hm.out n1 hf1.len) Hf.out).mono ?_); rintro e w6 ⟨⟨A3, n3, c3, rfl, hc3, hf3⟩, hS6⟩))
          go_wp2_with fail
          go_ret
          exact ⟨⟨A3, n3, c3, _, rfl, hc3, hf3, He.out⟩, HB.out.trans (hS6.mono HB.out.size)⟩
        · by_cases c5 : o.kind = 4
          · have hd5 : (o.kind == 4) = true := by simpa using c5
            have hd4 : (o.kind == 3) = false := by simp; omega
            have He : Hid ((withoutG fs j).map FileM.pure = doneP (fs.map FileM.pure) o.pure) := by
              rw [without_pure, done_remove (o := o.pure) c5 (by rw [Hk.out]; exact c2), Hk.out]
              rfl
            clear c1 c2 c3 c4 c5
            go_wp2_with fail
            refine (without_any _ n c fs j _ hr0 hnc (by omega) (by omega)).mono ?_
            rintro e w1 ⟨ht, hb1⟩
            obtain ⟨A1, n1, c1, rfl, hc1, hf1⟩ := ht
            go_wp2_with fail
            go_ret
            exact ⟨⟨A1, n1, c1, _, rfl, hc1, hf1, He.out⟩, HB.out.trans (hb1.mono HB.out.size)⟩
          · have hd5 : (o.kind == 4) = false := by simpa using c5
            have He : Hid (doneP (fs.map FileM.pure) o.pure = fs.map FileM.pure) := done_else (o := o.pure) c1 c3 c4 c5
            by_cases c6 : o.kind = 3
            · have hd4 : (o.kind == 3) = true := by simpa using c6
              have hd6 : (o.to.toList == o.name.toList) = true := by rw [beq_name]; exact decide_eq_true (Classical.byContradiction fun h => c4 ⟨c6, h⟩)
              clear c1 c2 c3 c4 c5 c6
              go_wp2_with fail
              go_ret
              exact ⟨⟨_, n, c, fs, rfl, hnc, hr0, He.out.symm⟩, HB.out⟩
            · have hd4 : (o.kind == 3) = false := by simpa using c6
              clear c1 c2 c3 c4 c5 c6
              go_wp2_with fail
              go_ret
              exact ⟨⟨_, n, c, fs, rfl, hnc, hr0, He.out.symm⟩, HB.out⟩

end Go.Proofs.Ytmfiopopiikbmaa
