/-
  More of what the laws of package disk share: a fuse, plainly: Own, Sync, Now by equations; a disk's fuse set in its box; a disk with a fuse beside the same without one.
-/
import Derived.Test.YtmfiopopiikbmaaLawKit
import Derived.Test.YtmfiopopiikbmaaDiskQ
namespace Go.Proofs.Ytmfiopopiikbmaa
open Go.RowKit Go.Maps

theorem right_fuse (d : DiskP) {f : Int} (b : Bool) (hf : 0 ≤ f) (hd : 0 ≤ d.fuse) : rightP { d with fuse := f, dead := b } = rightP d := by
  rw [Bool.eq_iff_iff, right_iff, right_iff]
  constructor
  · rintro ⟨a, b, c, e, _, g⟩
    exact ⟨a, b, c, e, hd, g⟩
  · rintro ⟨a, b, c, e, _, g⟩
    exact ⟨a, b, c, e, hf, g⟩
/-- The same operation on a disk without a fuse, and on the same with one. -/
theorem fuse_step (d : DiskP) (o : OpP) {f : Int} (h0 : d.fuse = 0) (hd : d.dead = false) (hf : 0 < f) :
    (doP d o).2 = 0 ∧ (doP d o).1 = { d with queue := d.queue ++ [o] } ∧ doP { d with fuse := f } o = ({ d with queue := d.queue ++ [o], fuse := f - 1, dead := decide (f - 1 = 0) }, 0) ∨
    (doP d o).2 ≠ 0 ∧ (doP d o).1 = d ∧ doP { d with fuse := f } o = ({ d with fuse := f }, (doP d o).2) := by
  have hr : rightP { d with fuse := f } = rightP d := by
    have := right_fuse d false (f := f) (by omega) (by omega)
    rwa [show ({ d with fuse := f, dead := false } : DiskP) = { d with fuse := f } by rw [← hd]] at this
  have hu : usedP { d with fuse := f } = usedP d := rfl
  have hn : nowP { d with fuse := f } = nowP d := rfl
  have b1 : burntP { d with queue := d.queue ++ [o] } = { d with queue := d.queue ++ [o] } := by
    unfold burntP
    rw [if_neg (by show ¬ 0 < d.fuse; omega)]
  have b2 : burntP { d with queue := d.queue ++ [o], fuse := f } = { d with queue := d.queue ++ [o], fuse := f - 1, dead := decide (f - 1 = 0) } := by
    unfold burntP
    rw [if_pos (by exact hf)]
  unfold doP
  rw [hr, hu, hn]
  simp only [hd, Bool.false_eq_true, if_false]
  by_cases a : rightP d = false
  · rw [if_pos a, if_pos a]
    exact .inr ⟨fun h => by simp at h, rfl, rfl⟩
  rw [if_neg a, if_neg a]
  by_cases c : fineP o = false
  · rw [if_pos c, if_pos c]
    exact .inr ⟨fun h => by simp at h, rfl, rfl⟩
  rw [if_neg c, if_neg c]
  by_cases e : o.kind ≠ 1 ∧ findG FileP.name (nowP d) o.name < 0
  · rw [if_pos e, if_pos e]
    exact .inr ⟨fun h => by simp at h, rfl, rfl⟩
  rw [if_neg e, if_neg e]
  by_cases g : (o.kind = 2 ∧ d.quota < (usedP d : Int) + o.bytes.length) ∨ 400 ≤ d.queue.length
  · rw [if_pos g, if_pos g]
    exact .inr ⟨fun h => by simp at h, rfl, rfl⟩
  rw [if_neg g, if_neg g]
  refine .inl ⟨rfl, ?_, ?_⟩
  · have := b1
    rw [hd] at this
    exact this
  · have := b2
    rw [hd] at this
    rw [this]


theorem own_step {W : World} {D : DiskP} {j : Nat} {A : Option Addr} {n c : Nat} {B : Option Addr} {m k : Nat} (h : DAt W D A n c B m k) (hr : Run j D) (hj : j ≤ 1000) :
    Calls Try.prog 27 #[.agg #[.slice A n c, .slice B m k, .int .i64 D.quota, .int .i64 D.fuse, .bool D.dead]] W fun e w' =>
      (∃ A' n' c' B' m' k', e = .returned (.agg #[.slice A' n' c', .slice B' m' k', .int .i64 D.quota, .int .i64 D.fuse, .bool D.dead]) ∧ DAt w' D A' n' c' B' m' k') ∧ Below W.heap.size W w' := by
  obtain ⟨fl, qu, q, u, dd⟩ := D
  refine (dev_own h (hr.small hj)).mono ?_
  rintro e w' ⟨⟨A', c', B', k', fs', os', rfl, h1⟩, hb⟩
  exact ⟨⟨A', n, c', B', m, k', rfl, h1.at_⟩, hb⟩
theorem sync_step {W : World} {D D' : DiskP} {er : Int} {j : Nat} {A : Option Addr} {n c : Nat} {B : Option Addr} {m k : Nat} (h : DAt W D A n c B m k) (hr : Run j D) (hj : j ≤ 1000) (e : syncP D = (D', er)) :
    Calls Try.prog 12 #[.agg #[.slice A n c, .slice B m k, .int .i64 D.quota, .int .i64 D.fuse, .bool D.dead]] W fun e w' =>
      (∃ A' n' c' B' m' k', e = .returned (.tuple #[.agg #[.slice A' n' c', .slice B' m' k', .int .i64 D'.quota, .int .i64 D'.fuse, .bool D'.dead], .int .i64 er]) ∧ DAt w' D' A' n' c' B' m' k') ∧ Below W.heap.size W w' := by
  obtain ⟨fl, qu, q, u, dd⟩ := D
  have h1 := dev_sync h (hr.small hj) hr.nms hr.fuse
  rw [e] at h1
  exact h1
theorem now_step {W : World} {D : DiskP} {j : Nat} {A : Option Addr} {n c : Nat} {B : Option Addr} {m k : Nat} (h : DAt W D A n c B m k) (hr : Run j D) (hj : j ≤ 1000) :
    Calls Try.prog 23 #[.agg #[.slice A n c, .slice B m k, .int .i64 D.quota, .int .i64 D.fuse, .bool D.dead]] W fun e w' =>
      (∃ A' n' c' fs, e = .returned (.slice A' n' c') ∧ n' ≤ c' ∧ Fs w' w'.heap.size A' n' fs ∧ fs.map FileM.pure = nowP D) ∧ Below W.heap.size W w' := dev_nowD h (hr.small hj) hr.nms
theorem DBox.fused {W : World} {z : Nat} {D : DiskP} {A : Option Addr} {n c : Nat} {B : Option Addr} {m k : Nat} (h : DBox W z D A n c B m k) (f : Int) : DBox (W.setCell ⟨z, 3, none⟩ (.int .i64 f)) z { D with fuse := f } A n c B m k := by
  refine ⟨h.1.s3 _, ?_⟩
  have h1 := h.2.apart (i := 3) (v := .int .i64 f) h.1.noData
  exact ⟨h1.nc, h1.oc, h1.files, h1.queue⟩
theorem DBox.fused_other {W : World} {z y : Nat} {D E : DiskP} {A : Option Addr} {n c : Nat} {B : Option Addr} {m k : Nat} {A' : Option Addr} {n' c' : Nat} {B' : Option Addr} {m' k' : Nat} (h : DBox W z D A n c B m k) (h' : DBox W y E A' n' c' B' m' k') (hne : z ≠ y) (f : Int) :
    DBox (W.setCell ⟨y, 3, none⟩ (.int .i64 f)) z D A n c B m k := ⟨h.1.other hne _, h.2.apart h'.1.noData⟩

/-- D with a fuse f: dead where f is 0. -/
def Dfu (D : DiskP) (f : Int) : DiskP := { D with fuse := f, dead := decide (f = 0) }
theorem Dfu.run {k : Nat} {D : DiskP} (h : Run k D) {f : Int} (hf : f ≤ 9223372036854775807) : Run k (Dfu D f) := ⟨h.files, h.queue, h.fb, h.ob, ⟨h.nms.files, h.nms.queue⟩, hf⟩
theorem Dfu.right {D : DiskP} (h : rightP D = true) {f : Int} (hf : 0 ≤ f) : rightP (Dfu D f) = true := by
  have h1 := right_fuse D (f := f) (decide (f = 0)) hf ((right_iff D).1 h).2.2.2.2.1
  exact h1.trans h
theorem Dfu.now (D : DiskP) (f : Int) : nowP (Dfu D f) = nowP D := rfl
theorem fuse_round (D : DiskP) (o : OpP) {f : Int} (h0 : D.fuse = 0) (hd : D.dead = false) (hr : rightP D = true) (hf : 0 < f) :
    ∃ D1 er f', doP D o = (D1, er) ∧ doP (Dfu D f) o = (Dfu D1 f', er) ∧ D1.fuse = 0 ∧ D1.dead = false ∧ rightP D1 = true ∧ (er = 0 ∧ f' = f - 1 ∨ er ≠ 0 ∧ f' = f) := by
  have hb : Dfu D f = { D with fuse := f } := by
    have : decide (f = 0) = D.dead := by rw [hd]; simp; omega
    unfold Dfu
    rw [this]
  have hR := do_right (o := o) hr
  rcases fuse_step D o h0 hd hf with ⟨a, b, c⟩ | ⟨a, b, c⟩
  · refine ⟨_, 0, f - 1, Prod.ext b a, ?_, h0, hd, by rw [b] at hR; exact hR, .inl ⟨rfl, rfl⟩⟩
    rw [hb, c]
    rfl
  · refine ⟨D, (doP D o).2, f, Prod.ext b rfl, ?_, h0, hd, hr, .inr ⟨a, rfl⟩⟩
    rw [hb, c]

/-- Box z holds the disk D, wherever its rows lie. -/
def Holds (W : World) (z : Nat) (D : DiskP) : Prop := ∃ A n c B m k, DBox W z D A n c B m k
theorem Holds.below {W W' : World} {z : Nat} {D : DiskP} (h : Holds W z D) (hb : Below W.heap.size W W') : Holds W' z D := by
  obtain ⟨A, n, c, B, m, k, x⟩ := h
  exact ⟨A, n, c, B, m, k, x.below hb⟩
theorem same_gen {w : World} {D D' : DiskP} {j : Nat} {A : Option Addr} {n c : Nat} {B : Option Addr} {m k : Nat} {A' : Option Addr} {n' c' : Nat} {B' : Option Addr} {m' k' : Nat} (h : DAt w D A n c B m k) (h' : DAt w D' A' n' c' B' m' k') (hr : Run j D) (hr' : Run j D') (hj : j ≤ 1000) :
    Calls Try.prog 16 #[.agg #[.slice A n c, .slice B m k, .int .i64 D.quota, .int .i64 D.fuse, .bool D.dead], .agg #[.slice A' n' c', .slice B' m' k', .int .i64 D'.quota, .int .i64 D'.fuse, .bool D'.dead]] w fun e w' =>
      Says (D = D') e ∧ Below w.heap.size w w' := by
  obtain ⟨fl, qu, q, u, dd⟩ := D
  obtain ⟨fl', qu', q', u', dd'⟩ := D'
  have h1 := h.len
  have h2 := h'.len
  have h3 := hr.files
  have h4 := hr.queue
  have h5 := hr'.files
  have h6 := hr'.queue
  exact same_disk h h' (by omega) (by omega) (by omega) (by omega)
theorem same_yes {w : World} {D : DiskP} {j : Nat} {A : Option Addr} {n c : Nat} {B : Option Addr} {m k : Nat} {A' : Option Addr} {n' c' : Nat} {B' : Option Addr} {m' k' : Nat} (h : DAt w D A n c B m k) (h' : DAt w D A' n' c' B' m' k') (hr : Run j D) (hj : j ≤ 1000) :
    Calls Try.prog 16 #[.agg #[.slice A n c, .slice B m k, .int .i64 D.quota, .int .i64 D.fuse, .bool D.dead], .agg #[.slice A' n' c', .slice B' m' k', .int .i64 D.quota, .int .i64 D.fuse, .bool D.dead]] w fun e w' =>
      e = .returned (.bool true) ∧ Below w.heap.size w w' := by
  refine (same_gen h h' hr hr hj).mono ?_
  rintro e w' ⟨⟨b, rfl, hb⟩, hB⟩
  obtain rfl : b = true := hb.2 rfl
  exact ⟨rfl, hB⟩
theorem files_yes {w : World} {A : Option Addr} {n c : Nat} {fs : List FileM} {B : Option Addr} {m k : Nat} {gs : List FileM} (hr : Fs w w.heap.size A n fs) (hr' : Fs w w.heap.size B m gs) (hn : n ≤ 100000) (e : fs.map FileM.pure = gs.map FileM.pure) :
    Calls Try.prog 22 #[.slice A n c, .slice B m k] w fun e w' => e = .returned (.bool true) ∧ Below w.heap.size w w' := by
  have h1 := congrArg List.length e
  rw [List.length_map, List.length_map, hr.len, hr'.len] at h1
  refine (files_any A n c fs B m k gs w hr hr' hn (by omega)).mono ?_
  rintro x w' ⟨⟨b, rfl, hb⟩, hB⟩
  obtain rfl : b = true := hb.2 e
  exact ⟨rfl, hB⟩

theorem DBox.dat {W : World} {z : Nat} {D : DiskP} {A : Option Addr} {n c : Nat} {B : Option Addr} {m k : Nat} (h : DBox W z D A n c B m k) : DAt W D A n c B m k := h.2
/-- A fresh box that a whole disk is stored into. -/
def fresh5 (W : World) (a b c d e : Value) : World := W.alloc (.cells #[a, b, c, d, e] 25)
theorem fresh5_below (W : World) (a b c d e : Value) : Below W.heap.size W (fresh5 W a b c d e) := below_al (below_d0 W) _
theorem fresh5_box {W : World} {D : DiskP} {A : Option Addr} {n c : Nat} {B : Option Addr} {m k : Nat} (g : DAt W D A n c B m k) :
    DBox (fresh5 W (.slice A n c) (.slice B m k) (.int .i64 D.quota) (.int .i64 D.fuse) (.bool D.dead)) W.heap.size D A n c B m k :=
  ⟨World.alloc_heap_new W _, g.on (below_al (below_d0 W) _)⟩
theorem crash_step {w : World} {D : DiskP} {j : Nat} {A : Option Addr} {n c : Nat} {B : Option Addr} {m k : Nat} (keep torn : Int) (h : DAt w D A n c B m k) (hr : Run j D) (hj : j ≤ 1000) :
    Calls Try.prog 20 #[.agg #[.slice A n c, .slice B m k, .int .i64 D.quota, .int .i64 D.fuse, .bool D.dead], .int .i64 keep, .int .i64 torn] w fun e w' => DOne (crashP D keep torn) e w' ∧ Below w.heap.size w w' := by
  obtain ⟨fl, qu, q, u, dd⟩ := D
  exact dev_crash keep torn h (hr.small hj) hr.nms

end Go.Proofs.Ytmfiopopiikbmaa
