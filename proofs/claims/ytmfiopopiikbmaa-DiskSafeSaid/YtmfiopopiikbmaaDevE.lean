/-
  The developers' safe, used, now: their contracts.
-/
import Derived.Test.YtmfiopopiikbmaaDevC
namespace Go.Proofs.Ytmfiopopiikbmaa
open Go.RowKit Go.Maps

/-- The blocks that lay when a call began. -/
def Old (n : Nat) (k : Nat) : Prop := k < n
theorem KeepC.old {n : Nat} {w w' : World} (h : KeepC (Old n) w w') : Below n w w' := h.below fun _ hk => hk
theorem old_keep {n : Nat} {w w' : World} (h : Below n w w') : KeepC (Old n) w w' := keepC_of h fun _ hk => hk
theorem run_make_map (w : World) (k : Int) : (Instr.makeMap 59 (some (.int .i64 k))).run Try.prog w = .ok (.map (some w.heap.size)) (w.alloc (.map #[] 0)) := by
  simp [Instr.makeMap, run_underlying Try.underlying59, asInt, newObj, Result.andThen]
  rfl
/-- Block y holds a file. -/
def Box2 (W : World) (y : Nat) (f : FileM) : Prop := W.heap[y]? = some (.cells #[.string f.name, .slice f.p.A f.p.n f.p.c] 47 (0, 0))
theorem box2 {W : World} {y : Nat} {f : FileM} (h : Box2 W y f) :
    (W.cell? ⟨y, 0, none⟩ = some (.string f.name) ∧ W.cell? ⟨y, 1, none⟩ = some (.slice f.p.A f.p.n f.p.c)) ∧ W.frozen? ⟨y, 0, none⟩ = false ∧ W.frozen? ⟨y, 1, none⟩ = false := by
  refine ⟨⟨?_, ?_⟩, ?_, ?_⟩
  all_goals first
    | (rw [cell_of_row _ _ _ _ _ _ h]; simp)
    | simp [World.frozen?, show W.heap[y]? = _ from h]
theorem Box2.keep {C : Nat → Prop} {W W' : World} {y : Nat} {f : FileM} (h : Box2 W y f) (hb : KeepC C W W') (hy : C y) : Box2 W' y f := (hb.keep y hy).trans h
theorem Box2.below {W W' : World} {y : Nat} {f : FileM} (h : Box2 W y f) (hb : Below W.heap.size W W') : Box2 W' y f := (hb.block y (Array.getElem?_eq_some_iff.1 h).1).trans h
/-- A store of a copy behind a name that was not there. -/
theorem FM.fresh {w : World} {C : Nat → Prop} {b n : Nat} {fs : List FileM} (h : FM w C b n fs) (hC : ∀ k, C k → k < w.heap.size) {s : ByteArray} (hn : n < maxLen) (hs : s.size ≤ maxLen) {p : Byts} (ho : OwnB w p)
    {lo : Nat} (hlo : ∀ g, p.v.ownBlock = some g → lo ≤ g) (hCl : ∀ k, C k → k < lo) (hfl : ∀ f ∈ fs, ∀ g, f.p.v.ownBlock = some g → g < lo) :
    ∃ w', (Instr.mapUpdate 59 (.map (some b)) (.string s) (.slice p.A p.n p.c)).run Try.prog w = .ok () w' ∧ FM w' C b (n + 1) (putM fs ⟨s, p⟩) ∧ KeepC C w w' :=
  h.put_ hC ⟨s, p⟩ hn hs ho (fun g hg hc => by have := hlo g hg; have := hCl g hc; omega) (fun f hf _ g hg e => by have := hlo g hg; have := hfl f hf g e; omega)

set_option maxRecDepth 100000 in
set_option maxHeartbeats 2000000 in
theorem dev_safe {w : World} {A : Option Addr} {n c : Nat} {fs : List FileM} (B : Option Addr) (m k : Nat) (q u : Int) (dd : Bool) (hr : Fs w w.heap.size A n fs) (hn : n ≤ 1000) (hs : ∀ f ∈ fs, f.p.n ≤ 1048576) (hnm : NmF (fs.map FileM.pure)) :
    Calls Try.prog 47 #[.agg #[.slice A n c, .slice B m k, .int .i64 q, .int .i64 u, .bool dd]] w fun e w' =>
      (∃ b fs', e = .returned (.map (some b)) ∧ FM w' (Old w.heap.size) b n fs' ∧ fs'.map FileM.pure = firstsP (fs.map FileM.pure)) ∧ Below w.heap.size w w' := by
  have Hl := Lib.hid hr.len
  have Hs := Lib.hid hs
  have Hnm := Lib.hid hnm
  clear hs hnm
  have hmk := run_make_map
  go_enter Try.func47, Try.ntmps47
  go_wp2_with fail
  obtain ⟨b, hb⟩ : ∃ b, b = w.heap.size + 1 := ⟨_, rfl⟩
  obtain ⟨wa, hwa⟩ : ∃ wa, wa = w.alloc (.cells #[.slice A n c, .slice B m k, .int .i64 q, .int .i64 u, .bool dd] 25) := ⟨_, rfl⟩
  obtain ⟨w0, hw0⟩ : ∃ w0, w0 = wa.alloc (.map #[] 0) := ⟨_, rfl⟩
  have hsa : wa.heap.size = b := by rw [hwa, hb]; simp
  have hBa : Below w.heap.size w wa := by rw [hwa]; exact (Below.refl _ _).alloc (Nat.le_refl _) _
  have hB0 : Below w.heap.size w w0 := by rw [hw0]; exact hBa.alloc hBa.size _
  have h0 : FM w0 (Old w.heap.size) b 0 [] := by rw [hw0]; exact FM.made hsa.symm (fun k hk => Nat.lt_of_lt_of_le hk hBa.size)
  have k0 := old_keep hB0
  have he : w0 = (w.alloc (.cells #[.slice A n c, .slice B m k, .int .i64 q, .int .i64 u, .bool dd] 25)).alloc (.map #[] 0) := by rw [hw0, hwa]
  rw [← he, ← hb]
  clear hwa hw0 he hsa hBa hB0 hb
  go_loopw [15] (fun i wr => ∃ (j : Nat) (fs' : List FileM), j ≤ n ∧ i = .int .i64 j ∧ FM wr (Old w.heap.size) b j fs' ∧ fs'.map FileM.pure = ((fs.map FileM.pure).take j).foldl firstStep [] ∧ KeepC (Old w.heap.size) w wr) (fun i _ => n - (intOf i).toNat)
  case atStart => exact ⟨0, [], Nat.zero_le _, rfl, h0, rfl, k0⟩
  case round =>
    obtain ⟨j, fs1, hj1, rfl, h1, hf1, k1⟩ := hrel
    by_cases hlt : j < n
    · obtain ⟨bb, off, f, rfl, hbl, hf, c0, c1, hok⟩ := (hr.on k1.old k1.size).at_ hlt
      have hj2 : (0 : Int) ≤ (j : Int) := by omega
      have hj3 : (j : Int) < (n : Int) := by omega
      have hw1 : IntKind.i64.wrap ((j : Int) + 1) = ((j + 1 : Nat) : Int) := by rw [IntKind.wrap_i64]; omega
      have hfm : f ∈ fs := List.mem_of_getElem? hf
      have hstep : ((fs.map FileM.pure).take (j + 1)).foldl firstStep [] = firstStep (fs1.map FileM.pure) f.pure := by
        rw [hf1]
        exact foldl_take firstStep [] (l := fs.map FileM.pure) (k := j) (x := f.pure) (by rw [List.getElem?_map, hf]; rfl)
      have hfn : f.name.size ≤ maxLen := Hnm.out f.pure (List.mem_map_of_mem hfm)
      obtain ⟨y, hy⟩ : ∃ y, y = wr.heap.size := ⟨_, rfl⟩
      obtain ⟨wx, hwx⟩ : ∃ wx, wx = wr.alloc (.cells #[.string f.name, .slice f.p.A f.p.n f.p.c] 47) := ⟨_, rfl⟩
      have bx : Below wr.heap.size wr wx := by rw [hwx]; exact (Below.refl _ _).alloc (Nat.le_refl _) _
      have hsx : wx.heap.size = y + 1 := by rw [hwx, hy]; simp
      have hx2 : Box2 wx y f := by rw [hwx, hy]; exact World.alloc_heap_new wr _
      have h2 : FM wx (CBox (Old w.heap.size) y) b j fs1 := (h1.box (by omega)).below bx
      have hC2 : ∀ k, CBox (Old w.heap.size) y k → k < wx.heap.size := fun k hk => by
        rcases hk with hk | hk
        · exact Nat.lt_of_lt_of_le hk (Nat.le_trans k1.size bx.size)
        · omega
      have k2 : KeepC (Old w.heap.size) w wx := k1.on (fun k hk => hk) bx
      have hok2 := hok.on (bx.mono (Nat.le_refl _)) bx.size
      have r0 := h2.look_ok hfn
      have hfl : ∀ f' ∈ fs1, ∀ g, f'.p.v.ownBlock = some g → g < wx.heap.size := fun f' hf' g hg => (h2.own f' hf').lt hg
      cases hl : lookM fs1 f.name with
      | some f' =>
        have e1 : lookV fs1 f.name = .slice f'.p.A f'.p.n f'.p.c := by unfold lookV; rw [hl]; rfl
        rw [e1, hl] at r0
        simp only [Option.isSome_some] at r0
        have He := Lib.hid (((first_step (fs := fs1) (x := f) (A := none) (n := 0) (c := 0)).2 ⟨f', hl⟩).trans hstep.symm)
        have H2 := Lib.hid (h2.unbox.mono (Nat.le_succ j))
        have K2 := Lib.hid k2
        rw [hwx] at r0
        clear hstep hf1 h1 h2 k1 k2 hl e1 hfl hC2 hok hok2 hx2 hf hfm
        go_wp2_with fail
        go_roundw
        case rel => exact ⟨j + 1, fs1, by omega, by go_num, by rw [← hwx]; exact H2.out, He.out, by rw [← hwx]; exact K2.out⟩
        case measure => simp [intOf]; omega
      | none =>
        have e1 : lookV fs1 f.name = .slice none 0 0 := by unfold lookV; rw [hl]
        rw [e1, hl] at r0
        simp only [Option.isSome_none] at r0
        have He := Lib.hid (fun (A : Option Addr) (N c : Nat) => ((first_step (fs := fs1) (x := f) (A := A) (n := N) (c := c)).1 hl).trans hstep.symm)
        have Hcells := Lib.hid (show ∀ W, KeepC (CBox (Old w.heap.size) y) wx W → KeepC (CBox (Old w.heap.size) y) wx W ∧ W.cell? ⟨y, 0, none⟩ = some (.string f.name) ∧ W.cell? ⟨y, 1, none⟩ = some (.slice f.p.A f.p.n f.p.c) from fun W hW => ⟨hW, (box2 (hx2.keep hW (.inr rfl))).1⟩)
        have H2 := Lib.hid h2
        have K2 := Lib.hid k2
        have HC2 := Lib.hid hC2
        have Hok2 := Lib.hid hok2
        have Hfl := Lib.hid hfl
        have hpn := Hs.out f hfm
        rw [hwx] at r0
        clear hstep hf1 h1 h2 k1 k2 hl e1 hfl hC2 hok hok2 hx2 hf hfm
        go_wp2_with fail
        rw [← hwx, ← hy]
        have bd : Below wx.heap.size wx wx.drew := (Below.refl _ _).drew
        have Hy := Lib.hid hy
        have Hsx := Lib.hid hsx
        clear hwx hy r0 hsx bx
        go_region_held3 (fun W => KeepC (CBox (Old w.heap.size) y) wx W ∧ W.cell? ⟨y, 0, none⟩ = some (.string f.name) ∧ W.cell? ⟨y, 1, none⟩ = some (.slice f.p.A f.p.n f.p.c))
          (exact Hcells.out _ (by first | exact KeepC.refl _ _ | exact (KeepC.refl _ _).drew | assumption | exact And.left (by assumption)))
          (first
            | (go_at_call 54; (with_reducible refine (dev_clone f.p wx.drew (Hok2.out.on bd bd.size) (by omega)).mono ?_); rintro e w4 ⟨⟨p, rfl, hpl, hp, hpg⟩, hb4⟩; obtain ⟨w5, r5, h5, k5⟩ := ((H2.out.below bd).below hb4).fresh (fun k hk => Nat.lt_of_lt_of_le (HC2.out k hk) hb4.size) (s := f.name) (by unfold maxLen; omega) hfn hp hpg (fun k hk => HC2.out k hk) Hfl.out; replace k5 : KeepC (CBox (Old w.heap.size) y) wx w5 := ((KeepC.refl _ wx).drew.on (fun k hk => HC2.out k hk) hb4).trans k5; have k4 : KeepC (CBox (Old w.heap.size) y) wx w4 := (KeepC.refl _ wx).drew.on (fun k hk => HC2.out k hk) hb4))
        have H5 := Lib.hid h5
        have K5 := Lib.hid k5
        have Hpl := Lib.hid hpl
        clear h5 k5 k4 hb4 hp hpg hpl
        go_wp2_with fail
        go_roundw
        case rel => exact ⟨j + 1, _, by omega, by go_num, H5.out.unbox, by rw [← He.out p.A p.n p.c, ← Hpl.out], K2.out.trans K5.out.unbox⟩
        case measure => simp [intOf]; omega
    · obtain rfl : j = n := by omega
      have H1 := Lib.hid h1
      have K1 := Lib.hid k1
      have H2 := Lib.hid (show fs1.map FileM.pure = firstsP (fs.map FileM.pure) by rw [hf1, firsts_eq, List.take_of_length_le (by rw [List.length_map, Hl.out]; exact Nat.le_refl _)])
      clear h1 k1 hf1
      go_wp2_with fail
      go_ret
      exact ⟨⟨b, fs1, rfl, H1.out, H2.out⟩, K1.out.old⟩

end Go.Proofs.Ytmfiopopiikbmaa
