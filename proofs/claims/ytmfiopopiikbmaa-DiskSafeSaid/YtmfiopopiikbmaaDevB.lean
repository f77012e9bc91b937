/-
  The developers' operations of disk, by their kinds: the map of them, each one's function: their contracts.
-/
import Derived.Test.YtmfiopopiikbmaaDevA
namespace Go.Proofs.Ytmfiopopiikbmaa
open Go.RowKit Go.Maps

/-! ### The map of function values -/
theorem kind_keyed : Keyed Try.prog 5 := int_keyed Try.underlying5
theorem key_kind {k : Int} (hk : 0 ≤ k ∧ k ≤ 255) : keyOf Try.prog 5 (.int .u8 k) = some (.int .u8 k) := keyOf_int_mk Try.underlying5 (by simp only [Lit.wf, Bool.and_eq_true, decide_eq_true_eq]; exact hk)
theorem zero_func (w : World) : (zeroValue 85).run Try.prog w = .ok .nilFunc w := by kernel_rfl
def fnV (g : Nat) : Value := .func (.func g) #[] #[]
/-- The functions by kinds. -/
def opsD : DataW Value := ((((DataW.map []).put (.int .u8 1) (.held (fnV 65))).put (.int .u8 2) (.held (fnV 66))).put (.int .u8 3) (.held (fnV 67))).put (.int .u8 4) (.held (fnV 68))
/-- Block g holds them. -/
def OpsAt (w : World) (g : Nat) : Prop := w.ownsMap Try.prog 5 itself g 4 opsD
theorem OpsAt.below {w w' : World} {g : Nat} (h : OpsAt w g) (hb : w'.heap[g]? = w.heap[g]?) : OpsAt w' g := by
  obtain ⟨es, clock, h1, h2, h3, h4⟩ := h
  exact ⟨es, clock, hb.trans h1, h2, h3, h4⟩
theorem OpsAt.lt {w : World} {g : Nat} (h : OpsAt w g) : g < w.heap.size := World.ownsMap.lt h
theorem ops_at {w : World} {g : Nat} (h : OpsAt w g) {k : Int} (hk : 0 ≤ k ∧ k ≤ 255) {v : Value} {y : Bool} (hh : Maps.has opsD (.int .u8 k) = y) (hv : opsD.atKey (.int .u8 k) (.held .nilFunc) = .held v) :
    (Instr.lookup 83 (.map (some g)) (.int .u8 k) true).run Try.prog w = .ok (.tuple #[v, .bool y]) w := by
  obtain ⟨u, ps, hrun, hu⟩ := World.ownsMap.look_ok h kind_keyed Try.underlying83 (zero_func w) (zd := .held .nilFunc) (zp := []) rfl (key_kind hk)
  rw [hh] at hrun
  rw [hv] at hu
  have e : u = v := by
    unfold itself at hu
    cases hu
    rfl
  rw [e] at hrun
  exact hrun
theorem ops_look {w : World} {g : Nat} (h : OpsAt w g) {k : Int} (hk : 0 ≤ k ∧ k ≤ 255) :
    (Instr.lookup 83 (.map (some g)) (.int .u8 k) true).run Try.prog w =
      .ok (.tuple #[if k = 1 then fnV 65 else if k = 2 then fnV 66 else if k = 3 then fnV 67 else if k = 4 then fnV 68 else .nilFunc, .bool (decide (1 ≤ k ∧ k ≤ 4))]) w := by
  by_cases h1 : k = 1
  · subst h1; exact ops_at h hk rfl rfl
  by_cases h2 : k = 2
  · subst h2; exact ops_at h hk rfl rfl
  by_cases h3 : k = 3
  · subst h3; exact ops_at h hk rfl rfl
  by_cases h4 : k = 4
  · subst h4; exact ops_at h hk rfl rfl
  rw [if_neg h1, if_neg h2, if_neg h3, if_neg h4, decide_eq_false (by omega)]
  have n1 : (Lit.int .u8 k) ≠ .int .u8 1 := fun e => by cases e; exact h1 rfl
  have n2 : (Lit.int .u8 k) ≠ .int .u8 2 := fun e => by cases e; exact h2 rfl
  have n3 : (Lit.int .u8 k) ≠ .int .u8 3 := fun e => by cases e; exact h3 rfl
  have n4 : (Lit.int .u8 k) ≠ .int .u8 4 := fun e => by cases e; exact h4 rfl
  refine ops_at h hk ?_ ?_
  · unfold opsD
    rw [has_put_other n4, has_put_other n3, has_put_other n2, has_put_other n1]
    rfl
  · unfold opsD
    rw [atKey_put_other n4, atKey_put_other n3, atKey_put_other n2, atKey_put_other n1]
    rfl

set_option maxRecDepth 100000 in
set_option maxHeartbeats 400000 in
theorem dev_operations (w : World) : Calls Try.prog 59 #[] w fun e w' => (∃ g, e = .returned (.map (some g)) ∧ OpsAt w' g ∧ w.heap.size ≤ g) ∧ Below w.heap.size w w' := by
  have hmm := @run_makeMap Try.prog
  have h0 : (w.alloc (.map #[] 0)).ownsMap Try.prog 5 itself w.heap.size 0 (.map []) := World.ownsMap_made w _ _ _
  have b0 := (Below.refl w.heap.size w).alloc (Nat.le_refl _) (.map #[] 0)
  obtain ⟨w1, r1, h1, g1⟩ := h0.update kind_keyed Try.underlying83 (by decide) (key_kind (k := 1) (by decide)) (val := fnV 65) (d := .held (fnV 65)) (ps := []) rfl
  obtain ⟨w2, r2, h2, g2⟩ := h1.update kind_keyed Try.underlying83 (by decide) (key_kind (k := 2) (by decide)) (val := fnV 66) (d := .held (fnV 66)) (ps := []) rfl
  obtain ⟨w3, r3, h3, g3⟩ := h2.update kind_keyed Try.underlying83 (by decide) (key_kind (k := 3) (by decide)) (val := fnV 67) (d := .held (fnV 67)) (ps := []) rfl
  obtain ⟨w4, r4, h4, g4⟩ := h3.update kind_keyed Try.underlying83 (by decide) (key_kind (k := 4) (by decide)) (val := fnV 68) (d := .held (fnV 68)) (ps := []) rfl
  have b1 := b0.grown g1 b0.size (fun k e => by cases e; exact Nat.le_refl _)
  have b2 := b1.grown g2 b1.size (fun k e => by cases e; exact Nat.le_refl _)
  have b3 := b2.grown g3 b2.size (fun k e => by cases e; exact Nat.le_refl _)
  have b4 := b3.grown g4 b3.size (fun k e => by cases e; exact Nat.le_refl _)
  have Ho := Lib.hid (show OpsAt w4 w.heap.size from h4)
  clear h0 h1 h2 h3 h4 g1 g2 g3 g4 b0 b1 b2 b3
  unfold fnV at r1 r2 r3 r4
  go_enter Try.func59, Try.ntmps59
  go_wp2_with fail
  go_ret
  exact ⟨⟨w.heap.size, rfl, Ho.out, Nat.le_refl _⟩, b4⟩

/-! ### One operation -/
/-- Behind an operation: the map of the files behind it. -/
def Did (w : World) (C : Nat → Prop) (b n : Nat) (fs : List FileM) (o : OpP) (e : Ending) (w' : World) : Prop :=
  e = .returned (.tuple #[]) ∧ (∃ fs', FM w' C b (n + 1) fs' ∧ fs'.map FileM.pure = doneP (fs.map FileM.pure) o) ∧ KeepC C w w'

set_option maxRecDepth 100000 in
set_option maxHeartbeats 400000 in
theorem dev_create {w : World} {C : Nat → Prop} {b n : Nat} {fs : List FileM} (h : FM w C b n fs) (hC : ∀ k, C k → k < w.heap.size) (hn : n < maxLen) (o : OpM) (hk : o.kind = 1) (hs : o.name.size ≤ maxLen) :
    Calls Try.prog 65 #[.map (some b), .agg #[.int .u8 o.kind, .string o.name, .string o.to, .slice o.p.A o.p.n o.p.c]] w (Did w C b n fs o.pure) := by
  have b1 := (Below.refl w.heap.size w).alloc (Nat.le_refl _) (.cells #[.int .u8 o.kind, .string o.name, .string o.to, .slice o.p.A o.p.n o.p.c] 28)
  have k1 := (KeepC.refl C w).alloc hC (.cells #[.int .u8 o.kind, .string o.name, .string o.to, .slice o.p.A o.p.n o.p.c] 28)
  obtain ⟨w1, r1, h1, k2⟩ := (h.below b1).put_ (fun k hk => Nat.lt_of_lt_of_le (hC k hk) b1.size) ⟨o.name, ⟨none, 0, 0, []⟩⟩ hn hs (OwnB.none_ _) (fun g hg => by cases hg) (fun f' _ _ g hg => by cases hg)
  have H := Lib.hid (⟨h1, k1.trans k2, done1 (fs := fs) hk⟩ : _ ∧ _ ∧ _)
  clear h1 k1 k2 h b1 hk
  simp only [Byts.v] at r1
  go_enter Try.func65, Try.ntmps65
  go_wp2_with fail
  go_end0
  exact ⟨rfl, ⟨_, H.out.1, H.out.2.2⟩, H.out.2.1⟩

set_option maxRecDepth 100000 in
set_option maxHeartbeats 400000 in
theorem dev_remove {w : World} {C : Nat → Prop} {b n : Nat} {fs : List FileM} (h : FM w C b n fs) (hC : ∀ k, C k → k < w.heap.size) (o : OpM) (hk : o.kind = 4) (hs : o.name.size ≤ maxLen) :
    Calls Try.prog 68 #[.map (some b), .agg #[.int .u8 o.kind, .string o.name, .string o.to, .slice o.p.A o.p.n o.p.c]] w (Did w C b n fs o.pure) := by
  have b1 := (Below.refl w.heap.size w).alloc (Nat.le_refl _) (.cells #[.int .u8 o.kind, .string o.name, .string o.to, .slice o.p.A o.p.n o.p.c] 28)
  have k1 := (KeepC.refl C w).alloc hC (.cells #[.int .u8 o.kind, .string o.name, .string o.to, .slice o.p.A o.p.n o.p.c] 28)
  obtain ⟨w1, r1, h1, k2, _⟩ := (h.below b1).del_ (fun k hk => Nat.lt_of_lt_of_le (hC k hk) b1.size) hs 0
  have H := Lib.hid (⟨h1.mono (Nat.le_succ n), k1.trans k2, done4 (fs := fs) hk⟩ : _ ∧ _ ∧ _)
  clear h1 k1 k2 h b1 hk
  go_enter Try.func68, Try.ntmps68
  go_wp2_with fail
  go_end0
  exact ⟨rfl, ⟨_, H.out.1, H.out.2.2⟩, H.out.2.1⟩

/-- The blocks of C, and the box of what was handed over. -/
def CBox (C : Nat → Prop) (z : Nat) (k : Nat) : Prop := C k ∨ k = z
theorem FM.box {w : World} {C : Nat → Prop} {b n z : Nat} {fs : List FileM} (h : FM w C b n fs) (hz : w.heap.size ≤ z) : FM w (CBox C z) b n fs :=
  h.more fun k hk hc => by
    rcases hc with hc | hc
    · exact hc
    · omega
theorem FM.unbox {w : World} {C : Nat → Prop} {b n z : Nat} {fs : List FileM} (h : FM w (CBox C z) b n fs) : FM w C b n fs := h.more fun _ _ hc => .inl hc
theorem KeepC.unbox {C : Nat → Prop} {z : Nat} {w w' : World} (h : KeepC (CBox C z) w w') : KeepC C w w' := h.less fun _ hc => .inl hc
theorem Box4.keep {C : Nat → Prop} {W W' : World} {y : Nat} {o : OpM} (h : Box4 W y o) (hb : KeepC C W W') (hy : C y) : Box4 W' y o := (hb.keep y hy).trans h

set_option maxRecDepth 100000 in
set_option maxHeartbeats 400000 in
theorem dev_rename {w : World} {C : Nat → Prop} {b n : Nat} {fs : List FileM} (h : FM w C b n fs) (hC : ∀ k, C k → k < w.heap.size) (hn : n < maxLen) (o : OpM) (hk : o.kind = 3) (hs : o.name.size ≤ maxLen ∧ o.to.size ≤ maxLen) :
    Calls Try.prog 67 #[.map (some b), .agg #[.int .u8 o.kind, .string o.name, .string o.to, .slice o.p.A o.p.n o.p.c]] w (Did w C b n fs o.pure) := by
  have b1 := (Below.refl w.heap.size w).alloc (Nat.le_refl _) (.cells #[.int .u8 o.kind, .string o.name, .string o.to, .slice o.p.A o.p.n o.p.c] 28)
  have k1 := (KeepC.refl C w).alloc hC (.cells #[.int .u8 o.kind, .string o.name, .string o.to, .slice o.p.A o.p.n o.p.c] 28)
  have h0 := (h.box (Nat.le_refl _)).below b1
  obtain ⟨wa, hwa⟩ : ∃ wa, wa = w.alloc (.cells #[.int .u8 o.kind, .string o.name, .string o.to, .slice o.p.A o.p.n o.p.c] 28) := ⟨_, rfl⟩
  have hC1 : ∀ k, CBox C w.heap.size k → k < wa.heap.size := fun k hk => by
    rw [hwa]
    rcases hk with hk | hk
    · exact Nat.lt_of_lt_of_le (hC k hk) b1.size
    · rw [hk]; simp
  have bz : Box4 wa w.heap.size o := by rw [hwa]; exact World.alloc_heap_new w _
  rw [← hwa] at h0 k1
  have r0 := h0.look_ok hs.1
  cases hl : lookM fs o.name with
  | none =>
    have e1 : lookV fs o.name = .slice none 0 0 := by unfold lookV; rw [hl]
    rw [e1, hl] at r0
    simp only [Option.isSome_none] at r0
    have H := Lib.hid (⟨h0.unbox.mono (Nat.le_succ n), k1, doneNone (fs := fs) (o := o) (by omega) hl⟩ : _ ∧ _ ∧ _)
    rw [hwa] at r0 H
    clear h0 k1 h b1 hk hl e1 bz hC1 hwa
    go_enter Try.func67, Try.ntmps67
    go_wp2_with fail
    go_end0
    exact ⟨rfl, ⟨_, H.out.1, H.out.2.2⟩, H.out.2.1⟩
  | some f =>
    obtain ⟨hf, hfn⟩ := look_mem hl
    have e1 : lookV fs o.name = .slice f.p.A f.p.n f.p.c := by unfold lookV; rw [hl]; rfl
    rw [e1, hl] at r0
    simp only [Option.isSome_some] at r0
    obtain ⟨w1, r1, h1, k2, ho1⟩ := h0.del_ hC1 hs.1 0
    have hne : ∀ f' ∈ delM fs o.name, f'.name ≠ f.name := fun f' hf' => by rw [hfn]; exact del_gone h0.sort _ f' hf'
    obtain ⟨w2, r2, h2, k3⟩ := h1.put_ (fun k hk => Nat.lt_of_lt_of_le (hC1 k hk) k2.size) ⟨o.to, f.p⟩ hn hs.2 (ho1 _ (h0.own f hf)) (h0.off f hf)
      (fun f' hf' _ g hg => h0.apart f hf f' (del_mem hf') (hne f' hf').symm g hg)
    simp only [Byts.v] at r2
    have H := Lib.hid (⟨h2.unbox, k1.trans (k2.unbox.trans k3.unbox), done3 h0.sort hk hl⟩ : _ ∧ _ ∧ _)
    obtain ⟨⟨c0, c1, c2, c3⟩, _⟩ := box4 (bz.keep k2 (.inr rfl))
    rw [hwa] at r0 r1
    clear h0 k1 h b1 hk hl e1 bz hC1 hwa h1 h2 k2 k3 ho1 hne hf
    go_enter Try.func67, Try.ntmps67
    go_wp2_with fail
    go_end0
    exact ⟨rfl, ⟨_, H.out.1, H.out.2.2⟩, H.out.2.1⟩

set_option maxRecDepth 100000 in
set_option maxHeartbeats 1000000 in
theorem dev_append {w : World} {C : Nat → Prop} {b n : Nat} {fs : List FileM} (h : FM w C b n fs) (hC : ∀ k, C k → k < w.heap.size) (hn : n < maxLen) (o : OpM) (hk : o.kind = 2) (hs : o.name.size ≤ maxLen) (hp : o.p.Ok w w.heap.size) (hpn : o.p.n ≤ 1048576)
    (hX : Bnd 4398046511104 (fs.map FileM.pure)) :
    Calls Try.prog 66 #[.map (some b), .agg #[.int .u8 o.kind, .string o.name, .string o.to, .slice o.p.A o.p.n o.p.c]] w (Did w C b n fs o.pure) := by
  obtain ⟨i1, hi, hz0, hz1, hz2⟩ := info_partsV info_u8
  have b1 := (Below.refl w.heap.size w).alloc (Nat.le_refl _) (.cells #[.int .u8 o.kind, .string o.name, .string o.to, .slice o.p.A o.p.n o.p.c] 28)
  have k1 := (KeepC.refl C w).alloc hC (.cells #[.int .u8 o.kind, .string o.name, .string o.to, .slice o.p.A o.p.n o.p.c] 28)
  have h0 := (h.box (Nat.le_refl _)).below b1
  have hp0 := hp.on b1 b1.size
  obtain ⟨wa, hwa⟩ : ∃ wa, wa = w.alloc (.cells #[.int .u8 o.kind, .string o.name, .string o.to, .slice o.p.A o.p.n o.p.c] 28) := ⟨_, rfl⟩
  have hC1 : ∀ k, CBox C w.heap.size k → k < wa.heap.size := fun k hk => by
    rw [hwa]
    rcases hk with hk | hk
    · exact Nat.lt_of_lt_of_le (hC k hk) b1.size
    · rw [hk]; simp
  have bz : Box4 wa w.heap.size o := by rw [hwa]; exact World.alloc_heap_new w _
  rw [← hwa] at h0 k1 hp0
  have r0 := h0.look_ok hs
  cases hl : lookM fs o.name with
  | none =>
    have e1 : lookV fs o.name = .slice none 0 0 := by unfold lookV; rw [hl]
    rw [e1, hl] at r0
    simp only [Option.isSome_none] at r0
    have H := Lib.hid (⟨h0.unbox.mono (Nat.le_succ n), k1, doneNone (fs := fs) (o := o) (by omega) hl⟩ : _ ∧ _ ∧ _)
    rw [hwa] at r0 H
    clear h0 k1 h b1 hk hl e1 bz hC1 hwa
    go_enter Try.func66, Try.ntmps66
    go_wp2_with fail
    go_end0
    exact ⟨rfl, ⟨_, H.out.1, H.out.2.2⟩, H.out.2.1⟩
  | some f =>
    obtain ⟨hf, hfn⟩ := look_mem hl
    have e1 : lookV fs o.name = .slice f.p.A f.p.n f.p.c := by unfold lookV; rw [hl]; rfl
    rw [e1, hl] at r0
    simp only [Option.isSome_some] at r0
    have hfn1 : f.p.n ≤ 4398046511104 := by
      have h2 := hX f.pure (List.mem_map_of_mem hf)
      have h3 := (h0.own f hf).len
      show f.p.n ≤ _
      have : f.pure.bytes.length = f.p.l.length := rfl
      omega
    have hbox : ∀ W, KeepC (CBox C w.heap.size) wa W → W.cell? ⟨w.heap.size, 1, none⟩ = some (.string o.name) ∧ W.cell? ⟨w.heap.size, 3, none⟩ = some (.slice o.p.A o.p.n o.p.c) := fun W hW => by
      obtain ⟨⟨c0, c1, c2, c3⟩, _⟩ := box4 (bz.keep hW (.inr rfl))
      exact ⟨c1, c3⟩
    go_enter Try.func66, Try.ntmps66
    rw [hwa] at r0
    have Hd := Lib.hid (fun (A : Option Addr) (N c : Nat) => done2 (A := A) (n := N) (c := c) (o := o) hk hl)
    have Hl := Lib.hid hl
    clear hk hl e1
    go_wp2_with fail
    rw [← hwa]
    have Hcells := Lib.hid (show ∀ W, KeepC (CBox C w.heap.size) wa W → KeepC (CBox C w.heap.size) wa W ∧ W.cell? ⟨w.heap.size, 1, none⟩ = some (.string o.name) ∧ W.cell? ⟨w.heap.size, 3, none⟩ = some (.slice o.p.A o.p.n o.p.c) from fun W hW => ⟨hW, hbox W hW⟩)
    have Hsrc := Lib.hid hp0.rd.source
    have H0 := Lib.hid h0
    have HC1 := Lib.hid hC1
    have Hk1 := Lib.hid k1
    have Hpb := Lib.hid hp0.byt
    have bd : Below wa.heap.size wa wa.drew := (Below.refl _ _).drew
    clear h0 hC1 k1 h hbox r0 bz hwa b1 hp hp0 hC hX
    go_region_held3 (fun W => KeepC (CBox C w.heap.size) wa W ∧ W.cell? ⟨w.heap.size, 1, none⟩ = some (.string o.name) ∧ W.cell? ⟨w.heap.size, 3, none⟩ = some (.slice o.p.A o.p.n o.p.c))
      (exact Hcells.out _ (by first | exact KeepC.refl _ _ | exact (KeepC.refl _ _).drew | assumption | exact And.left (by assumption)))
      (first
        | ((with_reducible refine step_append (.tmp 17) (.tmp 19) 26 (by with_unfolding_all rfl) (by with_unfolding_all rfl) Try.underlying26 hi hz0 hz1 hz2 byte_cells (by omega) (by with_unfolding_all rfl) (by with_unfolding_all rfl) (base := 0) (size := 1) (n := f.p.n) (m := o.p.n) (xs := f.p.l.map (Value.int .u8)) (v := .slice f.p.A f.p.n f.p.c) ((H0.out.below bd).own f hf).row (Hsrc.out.on bd) (by unfold maxLen; omega) (by omega) (Nat.zero_le _) ?_); intro v1 w4 L3; obtain ⟨A2, c2, rfl, hx4, ho4, hoff4, hap4, k4⟩ := (H0.out.below bd).longer (fun k hk => HC1.out k hk) hf Hpb.out L3; clear L3; rw [hfn] at hx4 hap4; obtain ⟨w5, r5, h5, k5⟩ := FX.put_ (f := ⟨o.name, ⟨A2, f.p.n + o.p.n, c2, f.p.l ++ o.p.l⟩⟩) hx4 (fun k hk => Nat.lt_of_lt_of_le (HC1.out k hk) k4.size) hn hs ho4 hoff4 hap4; simp only [Byts.v] at r5; replace k4 : KeepC (CBox C w.heap.size) wa w4 := (KeepC.refl _ wa).drew.trans k4; replace k5 := k4.trans k5; clear hx4 ho4 hoff4 hap4))
    have Hh := Lib.hid h5
    have Hk := Lib.hid k5
    go_end0
    exact ⟨rfl, ⟨_, Hh.out.unbox, Hd.out A2 _ c2⟩, Hk1.out.trans Hk.out.unbox⟩

end Go.Proofs.Ytmfiopopiikbmaa
