/-
  moultref04.Own: its contract.
-/
import Derived.Test.YtmfiopopiikbmaaOwnRows
namespace Go.Proofs.Ytmfiopopiikbmaa
open Go.RowKit

theorem info_op : (Try.prog.info? 28).map (fun i => (i.zero, i.size, i.bytes)) = some (some (.agg #[.int .u8 0, .string ByteArray.empty, .string ByteArray.empty, .slice none 0 0]), 4, 64) := by kernel_rfl
theorem op_cells : (Value.agg #[.int .u8 0, .string ByteArray.empty, .string ByteArray.empty, .slice none 0 0]).cells.size = 4 := rfl

/-- A file whose bytes were copied. -/
theorem pure_copy (f : FileM) (A : Option Addr) (N c : Nat) : FileM.pure ⟨f.name, ⟨A, N, c, f.p.l⟩⟩ = f.pure := rfl
theorem copy_ok {w : World} {base : Nat} {e : TypeId} {A : Option Addr} {n c : Nat} {l : List Int} (h : w.ownsRow base e 1 (.slice A n c) n ([] ++ l.map (Value.int .u8))) (hnc : n ≤ c) (hl : Byt l) : Byts.Ok w w.heap.size ⟨A, n, c, l⟩ := by
  rw [List.nil_append] at h
  exact ⟨Rd.of_own h, hl, hnc⟩
theorem copy_off {w : World} {base : Nat} {e : TypeId} {A : Option Addr} {n c lo : Nat} {xs : List Value} {l : List Int} {g : Option Nat} (h : w.ownsRow base e 1 (.slice A n c) n xs) (hlo : lo ≤ base) (hg : ∀ k, g = some k → k < base) : Byts.Off lo g ⟨A, n, c, l⟩ := by
  intro hn a ha
  obtain ⟨b, cap, e1, hb, _⟩ := h.form hn
  injection e1 with e1
  simp only at ha
  rw [ha] at e1
  cases e1
  exact ⟨by simp only; omega, fun e2 => by have := hg _ e2.symm; simp only at this; omega⟩

set_option maxRecDepth 100000 in
set_option maxHeartbeats 2000000 in
theorem own_any (A : Option Addr) (n c : Nat) (fs : List FileM) (B : Option Addr) (m k : Nat) (os : List OpM) (q u : Int) (dd : Bool) (w : World) (hr : Fs w w.heap.size A n fs) (hr' : Os w w.heap.size B m os) (hn : n ≤ 1000) (hm : m ≤ 1000)
    (hs : ∀ f ∈ fs, f.p.n ≤ 1048576) (hs' : ∀ o ∈ os, o.p.n ≤ 1048576) :
    Calls Try.prog 34 #[.agg #[.slice A n c, .slice B m k, .int .i64 q, .int .i64 u, .bool dd]] w fun e w' =>
      (∃ A' c' fs' B' k' os', e = .returned (.agg #[.slice A' n c', .slice B' m k', .int .i64 q, .int .i64 u, .bool dd]) ∧ n ≤ c' ∧ m ≤ k' ∧ (∃ lim, w.heap.size ≤ lim ∧ lim ≤ w'.heap.size ∧ (∀ W, lim ≤ W.heap.size → (∀ b, w.heap.size ≤ b → b < lim → W.heap[b]? = w'.heap[b]?) → Fs W W.heap.size A' n fs') ∧ Mine 4 OpM.cs OpM.p 28 lim w' (.slice B' m k') m os') ∧
        fs'.map FileM.pure = fs.map FileM.pure ∧ os'.map OpM.pure = os.map OpM.pure) ∧ Below w.heap.size w w' := by
  obtain ⟨i1, hi, hz0, hz1, hz2⟩ := info_partsV info_u8
  obtain ⟨i2, hj, hy0, hy1, hy2⟩ := info_partsV info_file
  obtain ⟨i3, hk, hx0, hx1, hx2⟩ := info_partsV info_op
  have Hl := Lib.hid hr.len
  have Hl' := Lib.hid hr'.len
  go_enter Try.func34, Try.ntmps34
  go_wp2_with fail
  obtain ⟨z, hz⟩ : ∃ z, z = w.heap.size := ⟨_, rfl⟩
  obtain ⟨w0, hw0⟩ : ∃ w0, w0 = (w.alloc (.cells #[.slice A n c, .slice B m k, .int .i64 q, .int .i64 u, .bool dd] 25)).alloc (.cells #[.slice none 0 0, .slice none 0 0, .int .i64 0, .int .i64 0, .bool false] 25) := ⟨_, rfl⟩
  have hB0 : Below w.heap.size w w0 := by rw [hw0]; exact ((Below.refl _ _).alloc (Nat.le_refl _) _).alloc (by simp) _
  have hzc : w0.heap[z]? = some (.cells #[.slice A n c, .slice B m k, .int .i64 q, .int .i64 u, .bool dd] 25 (0, 0)) := by
    rw [hw0, hz]
    exact (Below.heap_alloc _ _ _ (by simp)).trans (World.alloc_heap_new w _)
  have hzr : w0.heap[z + 1]? = some (.cells #[.slice none 0 0, .slice none 0 0, .int .i64 0, .int .i64 0, .bool false] 25 (0, 0)) := by
    rw [hw0, hz]
    have := World.alloc_heap_new (w.alloc (.cells #[.slice A n c, .slice B m k, .int .i64 q, .int .i64 u, .bool dd] 25)) (.cells #[.slice none 0 0, .slice none 0 0, .int .i64 0, .int .i64 0, .bool false] 25)
    rwa [World.size_alloc] at this
  have hs0 : w0.heap.size = z + 2 := by rw [hw0, hz]; simp
  have hr0 := hr.on hB0 hB0.size
  have hr0' := hr'.on hB0 hB0.size
  have k0 : w0.cell? ⟨z, 0, none⟩ = some (.slice A n c) := by rw [cell_of_row _ _ _ _ _ _ hzc]; simp
  have k1 : w0.cell? ⟨z, 1, none⟩ = some (.slice B m k) := by rw [cell_of_row _ _ _ _ _ _ hzc]; simp
  rw [← hw0, ← hz]
  have hzl : z < w0.heap.size := by omega
  have Hs0 := Lib.hid hs0
  have Hz := Lib.hid hz
  have HB0 := Lib.hid hB0
  have Hzc := Lib.hid hzc
  have Hzr := Lib.hid hzr
  clear hw0 hr hr' hzc hzr hz hs0 hB0
  go_loopw [3, 4] (fun v i wr => ∃ (j : Nat) (xs : List FileM), j ≤ n ∧ i = .int .i64 j ∧ Mine 2 FileM.cs FileM.p 47 w0.heap.size wr v j xs ∧ xs.map FileM.pure = (fs.take j).map FileM.pure ∧ Below w0.heap.size w0 wr) (fun _ i _ => n - (intOf i).toNat)
  case atStart => exact ⟨0, [], Nat.zero_le _, rfl, Mine.nil, by simp, Below.refl _ _⟩
  case round =>
    obtain ⟨j, xs, hj1, rfl, hM, hxs, hB⟩ := hrel
    have hsz := hB.size
    obtain ⟨A1, c1, rfl, hc1⟩ := own_slice hM.own
    have q0 : ∀ W, Below w0.heap.size w0 W → W.cell? ⟨z, 0, none⟩ = some (.slice A n c) := fun W hW => (hW.cell (p := ⟨z, 0, none⟩) hzl).trans k0
    have q0r := q0 wr hB
    by_cases hlt : j < n
    · obtain ⟨b, off, f, rfl, hbl, hf, h0, h1, hok⟩ := hr0.at_ hlt
      have hj2 : (0 : Int) ≤ (j : Int) := by omega
      have hj3 : (j : Int) < (n : Int) := by omega
      have hfn : f.p.n ≤ 1048576 := hs f (List.mem_of_getElem? hf)
      have qn : ∀ W, Below w0.heap.size w0 W → W.cell? ⟨b, off + j * 2, none⟩ = some (.string f.name) := fun W hW => (hW.cell (p := ⟨b, off + j * 2, none⟩) hbl).trans h0
      have qp : ∀ W, Below w0.heap.size w0 W → W.cell? ⟨b, off + j * 2 + 1, none⟩ = some (.slice f.p.A f.p.n f.p.c) := fun W hW => (hW.cell (p := ⟨b, off + j * 2 + 1, none⟩) hbl).trans h1
      have Hsrc := Lib.hid ((hok.on hB hsz).rd.source)
      have Hby := Lib.hid hok.byt
      have HM := Lib.hid hM
      have Hxs := Lib.hid (show ∀ (A2 : Option Addr) (N c2 : Nat), (xs ++ [(⟨f.name, ⟨A2, N, c2, f.p.l⟩⟩ : FileM)]).map FileM.pure = (fs.take (j + 1)).map FileM.pure from fun A2 N c2 => by
        rw [List.map_append, hxs, List.take_add_one, hf, List.map_append]
        rfl)
      have b1 := ((Below.refl wr.heap.size wr).alloc (Nat.le_refl _) (.cells #[] 5)).drew
      have hB1 := (hB.alloc hsz (.cells #[] 5)).drew
      clear hM hxs hok hf h0 h1
      go_wp2_with fail
      go_region_held3 (fun W => Below w0.heap.size w0 W)
        (first | assumption | exact hB.drew | exact hB1 | exact Below.drew (by assumption) | exact Below.alloc (by assumption) (Below.size (by assumption)) _)
        (first
          | ((refine step_append (.tmp 22) (.tmp 28) 26 (by rfl) (by rfl) Try.underlying26 hi hz0 hz1 hz2 byte_cells (by omega) (by rfl) (by rfl) (base := wr.heap.size) (size := 1) (n := 0) (xs := []) (v := .slice (some ⟨wr.heap.size, 0, none⟩) 0 0) (own_emptyG rfl (Nat.le_refl _)).drew (Hsrc.out.on b1) (by unfold maxLen; omega) (by omega) (by simp) ?_; intro v1 w4 L3; have b4 : Below wr.heap.size wr w4 := L3.below b1 (by simp) (fun g hg => by simp [Value.ownBlock] at hg; omega); have hB4 : Below w0.heap.size w0 w4 := hB.trans (b4.mono hsz); have own4 := L3.1; obtain ⟨N, hN⟩ : ∃ N, 0 + f.p.n = N := ⟨_, rfl⟩; rw [hN] at own4; clear L3; obtain ⟨A2, c2, rfl, hc2⟩ := own_slice own4))
          | ((refine step_append (.tmp 15) (.tmp 31) 22 (by rfl) (by rfl) Try.underlying22 hj hy0 hy1 hy2 file_cells (by omega) (by rfl) (by rfl) (base := w0.heap.size) (size := 2) (n := j) (xs := xs.flatMap FileM.cs) (v := .slice A1 j c1) (own_below HM.out.own (b4.alloc b4.size _)) (Source.one (cs := FileM.cs ⟨f.name, ⟨A2, N, c2, f.p.l⟩⟩) (size := 2) rfl (FileM.one _) (by simp)) (by unfold maxLen; omega) (by omega) (Nat.le_trans hB4.size (by simp)) ?_; intro v2 w5 L4; have hB5 : Below w0.heap.size w0 w5 := L4.below (hB4.alloc hB4.size _) (Nat.le_trans hB4.size (by simp)) (fun g hg => (HM.out.own.lt g hg).1))))
      have hM5 := (HM.out.below (b4.alloc b4.size _)).push (x := ⟨f.name, ⟨A2, N, c2, f.p.l⟩⟩) ((copy_ok own4 hc2 Hby.out).on ((Below.refl _ w4).alloc (Nat.le_refl _) _) (by simp)) (copy_off own4 hsz (fun g hg => (HM.out.own.lt g hg).2)) L4
      clear L4 own4
      go_wp2_with fail
      go_roundw
      case rel => exact ⟨j + 1, _, by omega, by go_num, hM5, Hxs.out A2 N c2, hB5⟩
      case measure => simp [intOf]; omega
    · obtain rfl : j = n := by omega
      have hxs2 : xs.map FileM.pure = fs.map FileM.pure := by rw [hxs, List.take_of_length_le (by rw [Hl.out]; exact Nat.le_refl _)]
      obtain ⟨wL, hwL⟩ : ∃ wL, wL = wr := ⟨_, rfl⟩
      have HF := Lib.hid (show Mine 2 FileM.cs FileM.p 47 w0.heap.size wL (.slice A1 j c1) j xs by rw [hwL]; exact hM)
      have Hxs := Lib.hid hxs2
      have hBL : Below w0.heap.size w0 wL := by rw [hwL]; exact hB
      have hszL : w0.heap.size ≤ wL.heap.size := hBL.size
      have p1 : ∀ W, Below wL.heap.size wL W → W.cell? ⟨z, 1, none⟩ = some (.slice B m k) := fun W hW => ((hBL.trans (hW.mono hszL)).cell (p := ⟨z, 1, none⟩) hzl).trans k1
      have q0L : wL.cell? ⟨z, 0, none⟩ = some (.slice A j c) := by rw [hwL]; exact q0r
      rw [← hwL]
      clear hM hxs hxs2 hB hsz hwL q0r q0
      go_wp2_with fail
      go_loopw [5, 6] (fun v i wr => ∃ (j : Nat) (ys : List OpM), j ≤ m ∧ i = .int .i64 j ∧ Mine 4 OpM.cs OpM.p 28 wL.heap.size wr v j ys ∧ ys.map OpM.pure = (os.take j).map OpM.pure ∧ Below wL.heap.size wL wr) (fun _ i _ => m - (intOf i).toNat)
      case atStart => exact ⟨0, [], Nat.zero_le _, rfl, Mine.nil, by simp, Below.refl _ _⟩
      case round =>
        obtain ⟨i, ys, hi1, rfl, hM, hys, hB⟩ := hrel
        have hsz := hB.size
        obtain ⟨B1, d1, rfl, hd1⟩ := own_slice hM.own
        have p1r := p1 wr hB
        by_cases hlt2 : i < m
        · obtain ⟨b, off, o, rfl, hbl, ho, o0, o1, o2, o3, hok, _, _⟩ := (hr0'.on hBL hszL).at_ hlt2
          have hon : o.p.n ≤ 1048576 := hs' o (List.mem_of_getElem? ho)
          have e0 := (hB.cell (p := ⟨b, off + i * 4, none⟩) hbl).trans o0
          have e1 := (hB.cell (p := ⟨b, off + i * 4 + 1, none⟩) hbl).trans o1
          have e2 := (hB.cell (p := ⟨b, off + i * 4 + 2, none⟩) hbl).trans o2
          have e3 := (hB.cell (p := ⟨b, off + i * 4 + 3, none⟩) hbl).trans o3
          have Hsrc := Lib.hid ((hok.on hB hsz).rd.source)
          have Hby := Lib.hid hok.byt
          have HM := Lib.hid hM
          have Hys := Lib.hid (show ∀ (A2 : Option Addr) (N c2 : Nat), (ys ++ [(⟨o.kind, o.name, o.to, ⟨A2, N, c2, o.p.l⟩⟩ : OpM)]).map OpM.pure = (os.take (i + 1)).map OpM.pure from fun A2 N c2 => by
            rw [List.map_append, hys, List.take_add_one, ho, List.map_append]
            rfl)
          clear hM hys hok ho o0 o1 o2 o3
          go_wp2_with (at_builtin; refine hold ?_)
          obtain ⟨y, hy⟩ : ∃ y, y = wr.heap.size := ⟨_, rfl⟩
          obtain ⟨wa, hwa⟩ : ∃ wa, wa = wr.alloc (.cells #[.int .u8 o.kind, .string o.name, .string o.to, .slice o.p.A o.p.n o.p.c] 28) := ⟨_, rfl⟩
          have hya : wa.heap[y]? = some (.cells #[.int .u8 o.kind, .string o.name, .string o.to, .slice o.p.A o.p.n o.p.c] 28 (0, 0)) := by rw [hwa, hy]; exact World.alloc_heap_new wr _
          have hsa : wa.heap.size = y + 1 := by rw [hwa, hy]; simp
          have ba : Below wr.heap.size wr wa := by rw [hwa]; exact (Below.refl _ _).alloc (Nat.le_refl _) _
          have bb := ba.alloc ba.size (.cells #[] 5)
          rw [← hwa, ← hy]
          refine unhold (wpList_append (.tmp 45) (.tmp 47) 26 Try.underlying26 hi hz0 hz1 hz2 byte_cells (by omega) (base := y + 1) (v := .slice (some ⟨y + 1, 0, none⟩) 0 0) (n := 0) (xs := []) (own_emptyG hsa.symm (by omega)) (Hsrc.out.on bb) (by unfold maxLen; omega) (by omega) (by simp; omega) rfl rfl rfl rfl ?_)
          intro v1 w4 L3
          have b4' : Below (y + 1) wa w4 := L3.below ((Below.refl _ wa).alloc (by omega) _) (by simp; omega) (fun g hg => by simp [Value.ownBlock] at hg; omega)
          have hy4 : w4.heap[y]? = some (.cells #[.int .u8 o.kind, .string o.name, .string o.to, .slice o.p.A o.p.n o.p.c] 28 (0, 0)) := (b4'.block y (by omega)).trans hya
          have b4 : Below wr.heap.size wr w4 := ba.trans (b4'.mono (by omega))
          have own4 := L3.1
          obtain ⟨N, hN⟩ : ∃ N, 0 + o.p.n = N := ⟨_, rfl⟩
          rw [hN] at own4
          clear L3 bb ba b4' hwa hya hsa
          obtain ⟨A2, c2, rfl, hc2⟩ := own_slice own4
          have f0 : w4.cell? ⟨y, 0, none⟩ = some (.int .u8 o.kind) := by rw [cell_of_row _ _ _ _ _ _ hy4]; simp
          have f1 : w4.cell? ⟨y, 1, none⟩ = some (.string o.name) := by rw [cell_of_row _ _ _ _ _ _ hy4]; simp
          have f2 : w4.cell? ⟨y, 2, none⟩ = some (.string o.to) := by rw [cell_of_row _ _ _ _ _ _ hy4]; simp
          have f3 : w4.cell? ⟨y, 3, none⟩ = some (.slice o.p.A o.p.n o.p.c) := by rw [cell_of_row _ _ _ _ _ _ hy4]; simp
          have f4 : w4.frozen? ⟨y, 3, none⟩ = false := by simp [World.frozen?, hy4]
          have Hy := Lib.hid hy
          clear hy4 e0 e1 e2 e3 hy
          go_wp2_with (at_builtin; refine hold ?_)
          have hok4 : Byts.Ok (w4.setCell ⟨y, 3, none⟩ (.slice A2 N c2)) (w4.setCell ⟨y, 3, none⟩ (.slice A2 N c2)).heap.size ⟨A2, N, c2, o.p.l⟩ :=
            (copy_ok own4 hc2 Hby.out).grown (row := some y) (lo := y + 1) ⟨rfl, rfl, rfl, (KeepsWalks.setCell w4 _ _).size, fun k _ hk => Below.heap_setCell _ _ _ k (fun e => hk (by rw [e]))⟩ (copy_off own4 (Nat.le_refl _) (fun k e => by cases e; omega))
          obtain ⟨w5, hw5⟩ : ∃ w5, w5 = w4.setCell ⟨y, 3, none⟩ (.slice A2 N c2) := ⟨_, rfl⟩
          have b5 : Below wr.heap.size wr w5 := by rw [hw5]; exact b4.setCell (by rw [Hy.out]; exact Nat.le_refl _) _
          have hs5 : w4.heap.size = w5.heap.size := by rw [hw5]; simp
          rw [← hw5] at hok4 ⊢
          have hy1' : wL.heap.size ≤ y + 1 := by have h1 := Hy.out; omega
          clear f0 f1 f2 f3 f4 b4 hw5
          have h5 := b5.size
          refine unhold (wpList_append (.tmp 50) (.tmp 52) 23 Try.underlying23 hk hx0 hx1 hx2 op_cells (by omega) (base := wL.heap.size) (n := i) (xs := ys.flatMap OpM.cs) (v := .slice B1 i d1) (own_below HM.out.own (b5.alloc h5 _)) (Source.one (cs := OpM.cs ⟨o.kind, o.name, o.to, ⟨A2, N, c2, o.p.l⟩⟩) (size := 4) (g := w4.heap.size) rfl (OpM.one _) hs5) (by unfold maxLen; omega) (by omega) (by simp; omega) rfl rfl rfl rfl ?_)
          intro v2 w6 L4
          have hB6 : Below wL.heap.size wL w6 := L4.below ((hB.trans (b5.mono hsz)).alloc (by omega) _) (by simp; omega) (fun g hg => (HM.out.own.lt g hg).1)
          have hM6 := (HM.out.below (b5.alloc h5 _)).push (x := ⟨o.kind, o.name, o.to, ⟨A2, N, c2, o.p.l⟩⟩) (hok4.on ((Below.refl _ w5).alloc (Nat.le_refl _) _) (by simp)) (copy_off own4 hy1' (fun g hg => by have h1 := (HM.out.own.lt g hg).2; have h2 := Hy.out; omega)) L4
          clear L4 own4 hok4
          go_wp2_with fail
          go_roundw
          case rel => exact ⟨i + 1, _, by omega, by go_num, hM6, Hys.out A2 N c2, hB6⟩
          case measure => simp [intOf]; omega
        · obtain rfl : i = m := by omega
          have hys2 : ys.map OpM.pure = os.map OpM.pure := by rw [hys, List.take_of_length_le (by rw [Hl'.out]; exact Nat.le_refl _)]
          have hz1 : wr.heap[z]? = some (.cells #[.slice A j c, .slice B i k, .int .i64 q, .int .i64 u, .bool dd] 25 (0, 0)) := (hB.block z (Nat.lt_of_lt_of_le hzl hszL)).trans ((hBL.block z hzl).trans Hzc.out)
          have hzl2 : z + 1 < w0.heap.size := by have := Hs0.out; omega
          have hz2 : wr.heap[z + 1]? = some (.cells #[.slice none 0 0, .slice none 0 0, .int .i64 0, .int .i64 0, .bool false] 25 (0, 0)) := (hB.block (z + 1) (Nat.lt_of_lt_of_le hzl2 hszL)).trans ((hBL.block (z + 1) hzl2).trans Hzr.out)
          have c0 : wr.cell? ⟨z, 0, none⟩ = some (.slice A j c) := by rw [cell_of_row _ _ _ _ _ _ hz1]; simp
          have c1' : wr.cell? ⟨z, 1, none⟩ = some (.slice B i k) := by rw [cell_of_row _ _ _ _ _ _ hz1]; simp
          have c2 : wr.cell? ⟨z, 2, none⟩ = some (.int .i64 q) := by rw [cell_of_row _ _ _ _ _ _ hz1]; simp
          have c3 : wr.cell? ⟨z, 3, none⟩ = some (.int .i64 u) := by rw [cell_of_row _ _ _ _ _ _ hz1]; simp
          have c4 : wr.cell? ⟨z, 4, none⟩ = some (.bool dd) := by rw [cell_of_row _ _ _ _ _ _ hz1]; simp
          have g0 : wr.frozen? ⟨z, 0, none⟩ = false := by simp [World.frozen?, hz1]
          have g1 : wr.frozen? ⟨z, 1, none⟩ = false := by simp [World.frozen?, hz1]
          have r0 : wr.cell? ⟨z + 1, 0, none⟩ = some (.slice none 0 0) := by rw [cell_of_row _ _ _ _ _ _ hz2]; simp
          have t0 : wr.frozen? ⟨z + 1, 0, none⟩ = false := by simp [World.frozen?, hz2]
          have r1 : wr.cell? ⟨z + 1, 1, none⟩ = some (.slice none 0 0) := by rw [cell_of_row _ _ _ _ _ _ hz2]; simp
          have t1 : wr.frozen? ⟨z + 1, 1, none⟩ = false := by simp [World.frozen?, hz2]
          have r2 : wr.cell? ⟨z + 1, 2, none⟩ = some (.int .i64 0) := by rw [cell_of_row _ _ _ _ _ _ hz2]; simp
          have t2 : wr.frozen? ⟨z + 1, 2, none⟩ = false := by simp [World.frozen?, hz2]
          have r3 : wr.cell? ⟨z + 1, 3, none⟩ = some (.int .i64 0) := by rw [cell_of_row _ _ _ _ _ _ hz2]; simp
          have t3 : wr.frozen? ⟨z + 1, 3, none⟩ = false := by simp [World.frozen?, hz2]
          have r4 : wr.cell? ⟨z + 1, 4, none⟩ = some (.bool false) := by rw [cell_of_row _ _ _ _ _ _ hz2]; simp
          have t4 : wr.frozen? ⟨z + 1, 4, none⟩ = false := by simp [World.frozen?, hz2]
          go_wp2_with fail
          have hzw : w.heap.size ≤ z := by rw [Hz.out]; exact Nat.le_refl _
          have hz0L : z < wL.heap.size := Nat.lt_of_lt_of_le hzl hszL
          have hz1L : z + 1 < wL.heap.size := Nat.lt_of_lt_of_le hzl2 hszL
          have hzw1 : w.heap.size ≤ z + 1 := by omega
          have hBw : Below w.heap.size w wr := HB0.out.trans ((hBL.trans (hB.mono hszL)).mono HB0.out.size)
          refine bodyPost_ret (v := .agg #[.slice A1 j c1, .slice B1 i d1, .int .i64 q, .int .i64 u, .bool dd]) (by simp [results, Try.results34, go_sem, *]) rfl ⟨⟨A1, c1, xs, B1, d1, ys, rfl, hc1, hd1, ⟨wL.heap.size, Nat.le_trans HB0.out.size hszL, ?_, fun W hW hs => ?_, ?_⟩, Hxs.out, hys2⟩, ?_⟩
          · simp
            exact hB.size
          · have hk1 := ((((((((Kept.refl w0.heap.size wL).below hB).set hzl (.slice A1 j c1) (i := 0)).set hzl (.slice B1 i d1) (i := 1)).set hzl2 (.slice A1 j c1) (i := 0)).set hzl2 (.slice B1 i d1) (i := 1)).set hzl2 (.int .i64 q) (i := 2)).set hzl2 (.int .i64 u) (i := 3)).set hzl2 (.bool dd) (i := 4)
            exact (HF.out.kept ⟨hW, fun b h1 h2 => (hs b (Nat.le_trans HB0.out.size h1) h2).trans (hk1.2 b h1 h2)⟩).fs
          · exact ((((((hM.set hz0L).set hz0L).set hz1L).set hz1L).set hz1L).set hz1L).set hz1L
          · exact (((((((hBw.setCell hzw _).setCell hzw _).setCell hzw1 _).setCell hzw1 _).setCell hzw1 _).setCell hzw1 _).setCell hzw1 _)

end Go.Proofs.Ytmfiopopiikbmaa
