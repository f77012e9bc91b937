/-
  What the law DiskSafe needs: a fuse, plainly; Own, Sync, Now by equations (as in LawKit2, whose text this one repeats: a claim holds few files); rows of slices of files; Do, Now told in memory of a kind of its own; the rows of files behind each beginning of the queue.
-/
import Derived.Test.YtmfiopopiikbmaaLawKit
import Derived.Test.YtmfiopopiikbmaaDiskQ
import Derived.Test.YtmfiopopiikbmaaSafe
import Derived.Test.YtmfiopopiikbmaaTxt
namespace Go.Proofs.Ytmfiopopiikbmaa
open Go.RowKit Go.Maps

theorem right_fuse (d : DiskP) {f : Int} (b : Bool) (hf : 0 ≤ f) (hd : 0 ≤ d.fuse) : rightP { d with fuse := f, dead := b } = rightP d := by
  rw [Bool.eq_iff_iff, right_iff, right_iff]
  constructor
  · rintro ⟨a, b, c, e, _, g⟩
    exact ⟨a, b, c, e, hd, g⟩
  · rintro ⟨a, b, c, e, _, g⟩
    exact ⟨a, b, c, e, hf, g⟩
/-- The same operation on a disk without a fuse, and on the same with one. -/
theorem fuse_step (d : DiskP) (o : OpP) {f : Int} (h0 : d.fuse = 0) (hd : d.dead = false) (hf : 0 < f) :
    (doP d o).2 = 0 ∧ (doP d o).1 = { d with queue := d.queue ++ [o] } ∧ doP { d with fuse := f } o = ({ d with queue := d.queue ++ [o], fuse := f - 1, dead := decide (f - 1 = 0) }, 0) ∨
    (doP d o).2 ≠ 0 ∧ (doP d o).1 = d ∧ doP { d with fuse := f } o = ({ d with fuse := f }, (doP d o).2) := by
  have hr : rightP { d with fuse := f } = rightP d := by
    have := right_fuse d false (f := f) (by omega) (by omega)
    rwa [show ({ d with fuse := f, dead := false } : DiskP) = { d with fuse := f } by rw [← hd]] at this
  have hu : usedP { d with fuse := f } = usedP d := rfl
  have hn : nowP { d with fuse := f } = nowP d := rfl
  have b1 : burntP { d with queue := d.queue ++ [o] } = { d with queue := d.queue ++ [o] } := by
    unfold burntP
    rw [if_neg (by show ¬ 0 < d.fuse; omega)]
  have b2 : burntP { d with queue := d.queue ++ [o], fuse := f } = { d with queue := d.queue ++ [o], fuse := f - 1, dead := decide (f - 1 = 0) } := by
    unfold burntP
    rw [if_pos (by exact hf)]
  unfold doP
  rw [hr, hu, hn]
  simp only [hd, Bool.false_eq_true, if_false]
  by_cases a : rightP d = false
  · rw [if_pos a, if_pos a]
    exact .inr ⟨fun h => by simp at h, rfl, rfl⟩
  rw [if_neg a, if_neg a]
  by_cases c : fineP o = false
  · rw [if_pos c, if_pos c]
    exact .inr ⟨fun h => by simp at h, rfl, rfl⟩
  rw [if_neg c, if_neg c]
  by_cases e : o.kind ≠ 1 ∧ findG FileP.name (nowP d) o.name < 0
  · rw [if_pos e, if_pos e]
    exact .inr ⟨fun h => by simp at h, rfl, rfl⟩
  rw [if_neg e, if_neg e]
  by_cases g : (o.kind = 2 ∧ d.quota < (usedP d : Int) + o.bytes.length) ∨ 400 ≤ d.queue.length
  · rw [if_pos g, if_pos g]
    exact .inr ⟨fun h => by simp at h, rfl, rfl⟩
  rw [if_neg g, if_neg g]
  refine .inl ⟨rfl, ?_, ?_⟩
  · have := b1
    rw [hd] at this
    exact this
  · have := b2
    rw [hd] at this
    rw [this]


theorem own_step {W : World} {D : DiskP} {j : Nat} {A : Option Addr} {n c : Nat} {B : Option Addr} {m k : Nat} (h : DAt W D A n c B m k) (hr : Run j D) (hj : j ≤ 1000) :
    Calls Try.prog 27 #[.agg #[.slice A n c, .slice B m k, .int .i64 D.quota, .int .i64 D.fuse, .bool D.dead]] W fun e w' =>
      (∃ A' n' c' B' m' k', e = .returned (.agg #[.slice A' n' c', .slice B' m' k', .int .i64 D.quota, .int .i64 D.fuse, .bool D.dead]) ∧ DAt w' D A' n' c' B' m' k') ∧ Below W.heap.size W w' := by
  obtain ⟨fl, qu, q, u, dd⟩ := D
  refine (dev_own h (hr.small hj)).mono ?_
  rintro e w' ⟨⟨A', c', B', k', fs', os', rfl, h1⟩, hb⟩
  exact ⟨⟨A', n, c', B', m, k', rfl, h1.at_⟩, hb⟩
theorem sync_step {W : World} {D D' : DiskP} {er : Int} {j : Nat} {A : Option Addr} {n c : Nat} {B : Option Addr} {m k : Nat} (h : DAt W D A n c B m k) (hr : Run j D) (hj : j ≤ 1000) (e : syncP D = (D', er)) :
    Calls Try.prog 12 #[.agg #[.slice A n c, .slice B m k, .int .i64 D.quota, .int .i64 D.fuse, .bool D.dead]] W fun e w' =>
      (∃ A' n' c' B' m' k', e = .returned (.tuple #[.agg #[.slice A' n' c', .slice B' m' k', .int .i64 D'.quota, .int .i64 D'.fuse, .bool D'.dead], .int .i64 er]) ∧ DAt w' D' A' n' c' B' m' k') ∧ Below W.heap.size W w' := by
  obtain ⟨fl, qu, q, u, dd⟩ := D
  have h1 := dev_sync h (hr.small hj) hr.nms hr.fuse
  rw [e] at h1
  exact h1
theorem now_step {W : World} {D : DiskP} {j : Nat} {A : Option Addr} {n c : Nat} {B : Option Addr} {m k : Nat} (h : DAt W D A n c B m k) (hr : Run j D) (hj : j ≤ 1000) :
    Calls Try.prog 23 #[.agg #[.slice A n c, .slice B m k, .int .i64 D.quota, .int .i64 D.fuse, .bool D.dead]] W fun e w' =>
      (∃ A' n' c' fs, e = .returned (.slice A' n' c') ∧ n' ≤ c' ∧ Fs w' w'.heap.size A' n' fs ∧ fs.map FileM.pure = nowP D) ∧ Below W.heap.size W w' := dev_nowD h (hr.small hj) hr.nms
theorem DBox.fused {W : World} {z : Nat} {D : DiskP} {A : Option Addr} {n c : Nat} {B : Option Addr} {m k : Nat} (h : DBox W z D A n c B m k) (f : Int) : DBox (W.setCell ⟨z, 3, none⟩ (.int .i64 f)) z { D with fuse := f } A n c B m k := by
  refine ⟨h.1.s3 _, ?_⟩
  have h1 := h.2.apart (i := 3) (v := .int .i64 f) h.1.noData
  exact ⟨h1.nc, h1.oc, h1.files, h1.queue⟩
theorem DBox.fused_other {W : World} {z y : Nat} {D E : DiskP} {A : Option Addr} {n c : Nat} {B : Option Addr} {m k : Nat} {A' : Option Addr} {n' c' : Nat} {B' : Option Addr} {m' k' : Nat} (h : DBox W z D A n c B m k) (h' : DBox W y E A' n' c' B' m' k') (hne : z ≠ y) (f : Int) :
    DBox (W.setCell ⟨y, 3, none⟩ (.int .i64 f)) z D A n c B m k := ⟨h.1.other hne _, h.2.apart h'.1.noData⟩

/-- D with a fuse f: dead where f is 0. -/
def Dfu (D : DiskP) (f : Int) : DiskP := { D with fuse := f, dead := decide (f = 0) }
theorem Dfu.run {k : Nat} {D : DiskP} (h : Run k D) {f : Int} (hf : f ≤ 9223372036854775807) : Run k (Dfu D f) := ⟨h.files, h.queue, h.fb, h.ob, ⟨h.nms.files, h.nms.queue⟩, hf⟩
theorem Dfu.right {D : DiskP} (h : rightP D = true) {f : Int} (hf : 0 ≤ f) : rightP (Dfu D f) = true := by
  have h1 := right_fuse D (f := f) (decide (f = 0)) hf ((right_iff D).1 h).2.2.2.2.1
  exact h1.trans h
theorem Dfu.now (D : DiskP) (f : Int) : nowP (Dfu D f) = nowP D := rfl
theorem fuse_round (D : DiskP) (o : OpP) {f : Int} (h0 : D.fuse = 0) (hd : D.dead = false) (hr : rightP D = true) (hf : 0 < f) :
    ∃ D1 er f', doP D o = (D1, er) ∧ doP (Dfu D f) o = (Dfu D1 f', er) ∧ D1.fuse = 0 ∧ D1.dead = false ∧ rightP D1 = true ∧ (er = 0 ∧ f' = f - 1 ∨ er ≠ 0 ∧ f' = f) := by
  have hb : Dfu D f = { D with fuse := f } := by
    have : decide (f = 0) = D.dead := by rw [hd]; simp; omega
    unfold Dfu
    rw [this]
  have hR := do_right (o := o) hr
  rcases fuse_step D o h0 hd hf with ⟨a, b, c⟩ | ⟨a, b, c⟩
  · refine ⟨_, 0, f - 1, Prod.ext b a, ?_, h0, hd, by rw [b] at hR; exact hR, .inl ⟨rfl, rfl⟩⟩
    rw [hb, c]
    rfl
  · refine ⟨D, (doP D o).2, f, Prod.ext b rfl, ?_, h0, hd, hr, .inr ⟨a, rfl⟩⟩
    rw [hb, c]

/-- Box z holds the disk D, wherever its rows lie. -/
def Holds (W : World) (z : Nat) (D : DiskP) : Prop := ∃ A n c B m k, DBox W z D A n c B m k
theorem Holds.below {W W' : World} {z : Nat} {D : DiskP} (h : Holds W z D) (hb : Below W.heap.size W W') : Holds W' z D := by
  obtain ⟨A, n, c, B, m, k, x⟩ := h
  exact ⟨A, n, c, B, m, k, x.below hb⟩
theorem same_gen {w : World} {D D' : DiskP} {j : Nat} {A : Option Addr} {n c : Nat} {B : Option Addr} {m k : Nat} {A' : Option Addr} {n' c' : Nat} {B' : Option Addr} {m' k' : Nat} (h : DAt w D A n c B m k) (h' : DAt w D' A' n' c' B' m' k') (hr : Run j D) (hr' : Run j D') (hj : j ≤ 1000) :
    Calls Try.prog 16 #[.agg #[.slice A n c, .slice B m k, .int .i64 D.quota, .int .i64 D.fuse, .bool D.dead], .agg #[.slice A' n' c', .slice B' m' k', .int .i64 D'.quota, .int .i64 D'.fuse, .bool D'.dead]] w fun e w' =>
      Says (D = D') e ∧ Below w.heap.size w w' := by
  obtain ⟨fl, qu, q, u, dd⟩ := D
  obtain ⟨fl', qu', q', u', dd'⟩ := D'
  have h1 := h.len
  have h2 := h'.len
  have h3 := hr.files
  have h4 := hr.queue
  have h5 := hr'.files
  have h6 := hr'.queue
  exact same_disk h h' (by omega) (by omega) (by omega) (by omega)
theorem same_yes {w : World} {D : DiskP} {j : Nat} {A : Option Addr} {n c : Nat} {B : Option Addr} {m k : Nat} {A' : Option Addr} {n' c' : Nat} {B' : Option Addr} {m' k' : Nat} (h : DAt w D A n c B m k) (h' : DAt w D A' n' c' B' m' k') (hr : Run j D) (hj : j ≤ 1000) :
    Calls Try.prog 16 #[.agg #[.slice A n c, .slice B m k, .int .i64 D.quota, .int .i64 D.fuse, .bool D.dead], .agg #[.slice A' n' c', .slice B' m' k', .int .i64 D.quota, .int .i64 D.fuse, .bool D.dead]] w fun e w' =>
      e = .returned (.bool true) ∧ Below w.heap.size w w' := by
  refine (same_gen h h' hr hr hj).mono ?_
  rintro e w' ⟨⟨b, rfl, hb⟩, hB⟩
  obtain rfl : b = true := hb.2 rfl
  exact ⟨rfl, hB⟩
theorem files_yes {w : World} {A : Option Addr} {n c : Nat} {fs : List FileM} {B : Option Addr} {m k : Nat} {gs : List FileM} (hr : Fs w w.heap.size A n fs) (hr' : Fs w w.heap.size B m gs) (hn : n ≤ 100000) (e : fs.map FileM.pure = gs.map FileM.pure) :
    Calls Try.prog 22 #[.slice A n c, .slice B m k] w fun e w' => e = .returned (.bool true) ∧ Below w.heap.size w w' := by
  have h1 := congrArg List.length e
  rw [List.length_map, List.length_map, hr.len, hr'.len] at h1
  refine (files_any A n c fs B m k gs w hr hr' hn (by omega)).mono ?_
  rintro x w' ⟨⟨b, rfl, hb⟩, hB⟩
  obtain rfl : b = true := hb.2 e
  exact ⟨rfl, hB⟩

theorem DBox.dat {W : World} {z : Nat} {D : DiskP} {A : Option Addr} {n c : Nat} {B : Option Addr} {m k : Nat} (h : DBox W z D A n c B m k) : DAt W D A n c B m k := h.2
/-- A fresh box that a whole disk is stored into. -/
def fresh5 (W : World) (a b c d e : Value) : World := W.alloc (.cells #[a, b, c, d, e] 25)
theorem fresh5_below (W : World) (a b c d e : Value) : Below W.heap.size W (fresh5 W a b c d e) := below_al (below_d0 W) _
theorem fresh5_box {W : World} {D : DiskP} {A : Option Addr} {n c : Nat} {B : Option Addr} {m k : Nat} (g : DAt W D A n c B m k) :
    DBox (fresh5 W (.slice A n c) (.slice B m k) (.int .i64 D.quota) (.int .i64 D.fuse) (.bool D.dead)) W.heap.size D A n c B m k :=
  ⟨World.alloc_heap_new W _, g.on (below_al (below_d0 W) _)⟩
theorem crash_step {w : World} {D : DiskP} {j : Nat} {A : Option Addr} {n c : Nat} {B : Option Addr} {m k : Nat} (keep torn : Int) (h : DAt w D A n c B m k) (hr : Run j D) (hj : j ≤ 1000) :
    Calls Try.prog 20 #[.agg #[.slice A n c, .slice B m k, .int .i64 D.quota, .int .i64 D.fuse, .bool D.dead], .int .i64 keep, .int .i64 torn] w fun e w' => DOne (crashP D keep torn) e w' ∧ Below w.heap.size w w' := by
  obtain ⟨fl, qu, q, u, dd⟩ := D
  exact dev_crash keep torn h (hr.small hj) hr.nms

end Go.Proofs.Ytmfiopopiikbmaa
namespace Go.Proofs.Ytmfiopopiikbmaa
open Go.RowKit Go.Maps Go.Shelf

attribute [local go_sem] Oper.semAt_some

/-- Files in a row of files, each one's bytes in a row of bytes. -/
structure FT (w : World) (A : Option Addr) (n c : Nat) (fs : List FileM) : Prop where
  row : w.ownsRow 0 47 2 (.slice A n c) n (fs.flatMap FileM.cs)
  own : ∀ f ∈ fs, OwnB w f.p
theorem FT.fs {w : World} {A : Option Addr} {n c : Nat} {fs : List FileM} (h : FT w A n c fs) : Fs w w.heap.size A n fs := ⟨Row.of_own (by omega) FileM.len h.row, fun f hf => (h.own f hf).ok⟩
theorem FT.below {w w' : World} {A : Option Addr} {n c : Nat} {fs : List FileM} (h : FT w A n c fs) (hb : Below w.heap.size w w') : FT w' A n c fs := ⟨own_below h.row hb, fun f hf => (h.own f hf).below hb⟩
theorem FT.nc {w : World} {A : Option Addr} {n c : Nat} {fs : List FileM} (h : FT w A n c fs) : n ≤ c := by
  obtain ⟨A', c', e, hc⟩ := own_slice h.row
  cases e
  exact hc

/-- Files told in a slice, in rows of their own. -/
def ListOut2 (fs : List FileM) (w : World) (e : Ending) (w' : World) : Prop := (∃ A c, e = .returned (.slice A fs.length c) ∧ fs.length ≤ c ∧ w'.ownsRow 0 47 2 (.slice A fs.length c) fs.length (fs.flatMap FileM.cs) ∧ ∀ f ∈ fs, OwnB w' f.p) ∧ Below w.heap.size w w'

set_option maxRecDepth 100000 in
set_option maxHeartbeats 2000000 in
theorem list_in2 {w : World} {C : Nat → Prop} {b n : Nat} {fs : List FileM} (h : FM w C b n fs) (hnm : ∀ f ∈ fs, f.name.size ≤ maxLen) (hl : fs.length ≤ 100000) :
    CallsIn Fence.wide 4 Try.prog 40 #[.map (some b)] w (ListOut2 fs w) := by
  obtain ⟨i2, hj, hy0, hy1, hy2⟩ := info_partsV info_file
  have hlr := fun ty => h.len_run ty
  obtain ⟨w1, hmk, hrow1, hg1⟩ := run_make_own (P := Try.prog) w w.heap.size 22 47 i2 _ 2 Try.underlying22 hj hy0 hy1 .i64 .i64 fs.length (by rw [hy2]; omega) (by unfold maxLen; omega) (Nat.le_refl _)
  have hB1 : Below w.heap.size w w1 := (Below.refl _ w).grown hg1 (Nat.le_refl _) (fun k e => by cases e)
  have hbl := h.lt
  have Hh := Lib.hid h
  have Hoks := Lib.hid h.own
  refine callsIn_of_wp_marks Try.func40 rfl trivial ?_ rfl
  simp only [Try.ntmps40, List.size_toArray, List.length_cons, List.length_nil, Nat.reduceAdd, Nat.reduceSub, Array.replicate_succ, Array.replicate_zero, List.push_toArray, List.append_toArray, List.nil_append, List.cons_append]
  gi_wp2_with fail
  obtain ⟨bl, hbl0⟩ : ∃ bl, bl = w1.heap.size := ⟨_, rfl⟩
  obtain ⟨w2, hw2⟩ : ∃ w2, w2 = w1.alloc (.cells #[.slice (some ⟨w.heap.size, 0, none⟩) 0 fs.length] 22) := ⟨_, rfl⟩
  have bx2 : Boxed w2 bl 22 (.slice (some ⟨w.heap.size, 0, none⟩) 0 fs.length) := by rw [hw2, hbl0]; exact Boxed.new w1 _ _
  have hB2 : Below w.heap.size w w2 := by rw [hw2]; exact hB1.alloc hB1.size _
  have hrow2 : w2.ownsRow w.heap.size 47 2 (.slice (some ⟨w.heap.size, 0, none⟩) 0 fs.length) 0 [] := by rw [hw2]; exact hrow1.alloc _
  have hwl : w.heap.size ≤ bl := by rw [hbl0]; exact hB1.size
  rw [← hw2, ← hbl0]
  clear hw2 hbl0 hB1 hrow1 hg1 hmk hlr h
  refine ⟨trivial, ?_⟩
  refine (callsIn_wide.2 (callsIn_wide.1 (dev_sorted (some b) w2))).mono ?_
  rintro e w3' ⟨rfl, rfl⟩
  obtain ⟨Bf, hBf⟩ : ∃ Bf, Bf = w2.heap.size := ⟨_, rfl⟩
  obtain ⟨w3, hw3⟩ : ∃ w3, w3 = w2.alloc (.cells #[.map (some b)] 59) := ⟨_, rfl⟩
  have bf3 : Boxed w3 Bf 59 (.map (some b)) := by rw [hw3, hBf]; exact Boxed.new w2 _ _
  have bx3 : Boxed w3 bl 22 (.slice (some ⟨w.heap.size, 0, none⟩) 0 fs.length) := by rw [hw3]; exact bx2.alloc _
  have hB3 : Below w.heap.size w w3 := by rw [hw3]; exact hB2.alloc hB2.size _
  have hrow3 : w3.ownsRow w.heap.size 47 2 (.slice (some ⟨w.heap.size, 0, none⟩) 0 fs.length) 0 [] := by rw [hw3]; exact hrow2.alloc _
  have hm3 := (Hh.out.below hB3).map
  have hs3 := Hh.out.sort
  rw [← hw3, ← hBf]
  clear hw3 hBf hB2 hrow2 bx2
  have hwB3 := hB3.size
  gi_wp2_with fail
  refine wpIn_rangeFunc_ownH rfl (by omega) (gf := 62) (lb := #[.pointer (some ⟨Bf, 0, none⟩)]) rfl trivial (enters_of Try.func62 (by kernel_rfl) rfl)
    (files_stops Bf b n hs3 hnm hl w3 bf3 hm3) (fun h h' => h.trans h') (KpF.put (by omega)) (Below.refl _ _) (fun _ => rfl)
    (fun pre W => (∃ v, Boxed W bl 22 v ∧ W.ownsRow w.heap.size 47 2 v pre.length (pre.flatMap FileM.cs) ∧ True) ∧ Below w.heap.size w W)
    (fun _ _ _ => False)
    (OwnFrom.and (Own.from (holdsRow_own w.heap.size bl 22 47 2 (fun pre : List FileM => pre.length) (fun pre => pre.flatMap FileM.cs) (fun _ _ => True)) _) (ownFrom_below (Nat.le_refl _) hwB3))
    (fun _ _ _ _ _ hs _ _ => hs)
    ⟨⟨_, bx3, hrow3, trivial⟩, hB3⟩
    (fun x a' W => ∃ Bx, Box2 W Bx x ∧ a' = { tmps := #[.map (some b), undef, .slice none 0 0, .pointer (some ⟨bl, 0, none⟩), .pointer (some ⟨Bx, 0, none⟩), .map (some b), .int .i64 (fs.length : Nat), .slice (some ⟨w.heap.size, 0, none⟩) 0 fs.length, .map (some b), .func (.func 62) #[] #[.pointer (some ⟨Bf, 0, none⟩)], .agg #[.string x.name, .slice x.p.A x.p.n x.p.c], undef, undef, undef, undef, undef], defers := [] })
    (fun x a' _ X Y row hs hg hr => by
      obtain ⟨Bx, h1, h2⟩ := hs
      refine ⟨Bx, (hg.block Bx (Array.getElem?_eq_some_iff.1 h1).1 (fun e => ?_)).trans h1, h2⟩
      obtain ⟨_, o, ho, hc⟩ := hr Bx e.symm
      rw [show X.heap[Bx]? = _ from h1] at ho
      cases ho
      cases hc)
    ?assign ?body ?done ?stop
  case assign =>
    rintro l pre x W K ⟨⟨v, hv, hr, _⟩, hB⟩ hK
    have hbW : b < W.heap.size := Nat.lt_of_lt_of_le hbl hB.size
    gi_wp2
    exact hK _ _ ((KeepsOthers.alloc _ _).from _) (KpF.alloc hbW _) ⟨⟨v, hv.alloc _, hr.alloc _, trivial⟩, hB.alloc hB.size _⟩ ⟨W.heap.size, World.alloc_heap_new W _, rfl⟩
  case body =>
    rintro l pre x a' W hlw ⟨r, hr⟩ ⟨⟨v, hv, hrow, _⟩, hB⟩ ⟨Bx, hx2, rfl⟩ hlt
    have hbW : b < W.heap.size := Nat.lt_of_lt_of_le hbl hB.size
    obtain ⟨A1, c1, rfl, hc1⟩ := own_slice hrow
    have hvc := hv.cell
    have hvf := hv.frozen
    obtain ⟨⟨x0, x1⟩, _⟩ := box2 hx2
    gi_wp2_with (gi_at_builtin; refine hold ?_)
    refine unhold (wpListIn_append_own _ rfl _ _ 22 rfl w.heap.size 47 i2 _ 2 40 Try.underlying22 hj hy0 hy1 hy2 file_cells (by omega) _ _ _ rfl (hrow.alloc _) ⟨W.heap.size, 0, none⟩ 1 1 (FileM.cs x) rfl rfl (fun j u hu => ?_) (FileM.one x) (by unfold maxLen; omega) (by omega) (by have := hB.size; simp; omega) ?_)
    · rw [add_plain', Nat.zero_add, cell_of_row _ _ _ _ _ _ (World.alloc_heap_new W _)]
      have := (List.getElem?_eq_some_iff.1 hu).1
      simpa [FileM.cs] using hu
    intro v' w4 hown' hgrow _
    obtain ⟨g', cap', rfl⟩ := ownsRow_succ hown'
    obtain ⟨hv1, hv2, hr2, hk2, hb2⟩ := hv.appended (by decide) hrow hB.size hwl hown' hgrow
    have hc4 := hv1.cell
    have hf4 := hv1.frozen
    have hkp : KpF b W (w4.setCell ⟨bl, 0, none⟩ (.slice (some ⟨g', 0, none⟩) (pre.length + 1) cap')) := by
      refine ((KpF.alloc hbW _).trans (KpF.grown (by simp; omega) hgrow fun g e => ?_)).trans (KpF.grown (Nat.lt_of_lt_of_le (by simp; omega) hgrow.size) (grownBy_setCell' w4 bl _) fun g e => ?_)
      · have hlt' := hrow.lt g e.symm.symm
        refine ⟨by omega, fun cur t fr hk => ?_⟩
        rcases (hrow.alloc (.cells #[.string x.name, .slice x.p.A x.p.n x.p.c] 47)).2 with ⟨e1, _⟩ | ⟨g1, cap, cur1, e1, _, hg1, _⟩
        · rw [e1] at e; cases e
        · rw [e1] at e
          cases e
          rw [hg1] at hk
          cases hk
          exact ⟨by decide, by decide⟩
      · cases e
        refine ⟨by omega, fun cur t fr hk => ?_⟩
        rw [show w4.heap[bl]? = _ from hv1] at hk
        cases hk
        exact ⟨by decide, by decide⟩
    have H1 := Lib.hid (⟨hk2, hkp, hv2, hr2, hB.trans hb2⟩ : _ ∧ _ ∧ _ ∧ _ ∧ _)
    clear hk2 hkp hv2 hr2 hb2 hown' hgrow hv1 hx2 hrow hv
    gi_wp2_with fail
    exact ⟨H1.out.1.from _, H1.out.2.1, ⟨_, H1.out.2.2.1, by rw [List.flatMap_append, List.length_append]; simpa using H1.out.2.2.2.1, trivial⟩, H1.out.2.2.2.2⟩
  case done =>
    rintro D ys W hD rfl ⟨⟨v, hv, hrow, _⟩, hB⟩ hK
    obtain ⟨A1, c1, rfl, hc1⟩ := own_slice hrow
    have hvc := hv.cell
    have hrow' := ownsRow_putObj hrow (.deferred none) hK rfl
    have hB' := hB.trans (belowK_b (w := w) (Nat.le_refl _) W D _ (.deferred none) (by omega) hK rfl rfl)
    have Hr := Lib.hid hrow'
    have HB := Lib.hid hB'
    gi_wp2_with fail
    refine ⟨by simp, .inl ⟨_, _, rfl, run_takeDeferred hK, ?_⟩⟩
    refine ⟨_, results_tmp rfl _ _ _, ⟨A1, c1, rfl, hc1, Hr.out.mono (Nat.zero_le _), fun f hf => (Hoks.out f hf).below HB.out⟩, HB.out⟩
  case stop =>
    rintro D c pre W _ _ hf _
    exact hf.elim


theorem dev_list2 {w : World} {C : Nat → Prop} {b n : Nat} {fs : List FileM} (h : FM w C b n fs) (hnm : ∀ f ∈ fs, f.name.size ≤ maxLen) (hl : fs.length ≤ 100000) :
    Calls Try.prog 40 #[.map (some b)] w (ListOut2 fs w) := callsIn_wide.1 (list_in2 h hnm hl)
/-- Files now, in rows of their own. -/
theorem now_own {w : World} {D : DiskP} {j : Nat} {A : Option Addr} {n c : Nat} {B : Option Addr} {m k : Nat} (h : DAt w D A n c B m k) (hr : Run j D) (hj : j ≤ 1000) :
    Calls Try.prog 23 #[.agg #[.slice A n c, .slice B m k, .int .i64 D.quota, .int .i64 D.fuse, .bool D.dead]] w fun e w' =>
      (∃ A' n' c' fs, e = .returned (.slice A' n' c') ∧ FT w' A' n' c' fs ∧ fs.map FileM.pure = nowP D) ∧ Below w.heap.size w w' := by
  obtain ⟨fl, qu, q, u, dd⟩ := D
  simp only
  have Hs := Lib.hid (hr.small hj)
  have Hn := Lib.hid hr.nms
  clear hr
  go_enter Try.func23, Try.ntmps23
  go_wp2_with fail
  have hB0 : Below w.heap.size w (w.alloc (.cells #[.slice A n c, .slice B m k, .int .i64 q, .int .i64 u, .bool dd] 25)) := (Below.refl _ _).alloc (Nat.le_refl _) _
  refine (dev_now (h.on hB0) Hs.out Hn.out).mono ?_
  rintro e w1 ⟨⟨b, fs1, rfl, hF, hp⟩, hb1⟩
  have HF := Lib.hid hF
  have Hp := Lib.hid hp
  have hB1 := hB0.trans (hb1.mono hB0.size)
  have HB1 := Lib.hid hB1
  clear hF hp hb1 hB0 h hB1
  go_wp2_with fail
  refine (dev_list2 HF.out (fm_names Hp.out Hn.out) (fm_length Hp.out Hs.out)).mono ?_
  rintro e w2 ⟨⟨A2, c2, rfl, hc2, hf2, ho2⟩, hb2⟩
  go_wp2_with fail
  go_ret
  exact ⟨⟨A2, _, c2, fs1, rfl, ⟨hf2, ho2⟩, Hp.out⟩, HB1.out.trans (hb2.mono HB1.out.size)⟩

/-- A slice of files. -/
structure SlM where
  A : Option Addr
  n : Nat
  c : Nat
  fs : List FileM
def SlM.v (s : SlM) : Value := .slice s.A s.n s.c
def SlM.pure (s : SlM) : List FileP := s.fs.map FileM.pure
/-- A row of the call's own, of slices of files. -/
structure Was (lo : Nat) (w : World) (v : Value) (ms : List SlM) : Prop where
  own : w.ownsRow lo 22 1 v ms.length (ms.map SlM.v)
  ok : ∀ m ∈ ms, FT w m.A m.n m.c m.fs
theorem Was.nil (lo : Nat) (w : World) : Was lo w (.slice none 0 0) [] := ⟨World.ownsRow_nil _ _ _ _, fun _ h => by cases h⟩
theorem Was.below {lo : Nat} {w w' : World} {v : Value} {ms : List SlM} (h : Was lo w v ms) (hb : Below w.heap.size w w') : Was lo w' v ms := ⟨own_below h.own hb, fun m hm => (h.ok m hm).below hb⟩
theorem FT.set {w : World} {A : Option Addr} {n c : Nat} {fs : List FileM} {g i : Nat} {cur : Array Value} {e : TypeId} {fr : Nat × Nat} {u : Value} (h : FT w A n c fs) (hg : w.heap[g]? = some (.cells cur e fr)) (h1 : 47 ≠ e) (h2 : 5 ≠ e) : FT (w.setCell ⟨g, i, none⟩ u) A n c fs :=
  ⟨own_other h.row hg h1, fun f hf => (h.own f hf).row_set hg h2⟩
theorem FT.put5 {w : World} {A : Option Addr} {n c : Nat} {fs : List FileM} {z : Nat} {a b d e f : Value} {a' b' d' e' f' : Value} (h : FT w A n c fs) (hz : Box5 w z 25 a b d e f) : FT (Go.Proofs.Ytmfiopopiikbmaa.put5 w z a' b' d' e' f') A n c fs :=
  ((((h.set hz (by decide) (by decide)).set (hz.s0 _) (by decide) (by decide)).set ((hz.s0 _).s1 _) (by decide) (by decide)).set (((hz.s0 _).s1 _).s2 _) (by decide) (by decide)).set ((((hz.s0 _).s1 _).s2 _).s3 _) (by decide) (by decide)
theorem Was.put5 {lo : Nat} {w : World} {v : Value} {ms : List SlM} {z : Nat} {a b d e f : Value} {a' b' d' e' f' : Value} (h : Was lo w v ms) (hz : Box5 w z 25 a b d e f) : Was lo (Go.Proofs.Ytmfiopopiikbmaa.put5 w z a' b' d' e' f') v ms :=
  ⟨own_other (own_other (own_other (own_other (own_other h.own hz (by decide)) (hz.s0 _) (by decide)) ((hz.s0 _).s1 _) (by decide)) (((hz.s0 _).s1 _).s2 _) (by decide)) ((((hz.s0 _).s1 _).s2 _).s3 _) (by decide), fun m hm => (h.ok m hm).put5 hz⟩
theorem OwnB.grown2 {w w' : World} {p : Byts} {base2 n2 : Nat} {e2 : TypeId} {size2 : Nat} {v2 : Value} {xs2 : List Value} (h : OwnB w p) (h2 : w.ownsRow base2 e2 size2 v2 n2 xs2) (hne : 5 ≠ e2) (hg : w.grownBy w' v2.ownBlock) : OwnB w' p := ⟨own_grown h.1 h2 hne hg, h.2⟩
theorem FT.grown {w w' : World} {A : Option Addr} {n c : Nat} {fs : List FileM} {base2 n2 : Nat} {v2 : Value} {xs2 : List Value} (h : FT w A n c fs) (h2 : w.ownsRow base2 22 1 v2 n2 xs2) (hg : w.grownBy w' v2.ownBlock) : FT w' A n c fs :=
  ⟨own_grown h.row h2 (by decide) hg, fun f hf => (h.own f hf).grown2 h2 (by decide) hg⟩
theorem Was.push {lo : Nat} {w w' : World} {v v' : Value} {ms : List SlM} {m : SlM} (h : Was lo w v ms) (hm : FT w m.A m.n m.c m.fs) (hL : Longer lo 22 1 w v (ms.length + 1) (ms.map SlM.v ++ [m.v]) v' w') : Was lo w' v' (ms ++ [m]) :=
  ⟨by simpa using hL.1, fun x hx => by
    rcases List.mem_append.1 hx with hx | hx
    · exact (h.ok x hx).grown h.own hL.2.1
    · obtain rfl := List.mem_singleton.1 hx
      exact hm.grown h.own hL.2.1⟩
/-- What lies elsewhere stands behind an append onto it. -/
theorem Was.push_box {lo : Nat} {w w' : World} {v v' : Value} {ms : List SlM} {n : Nat} {xs : List Value} {z : Nat} {a b d e f : Value} (h : Was lo w v ms) (hz : Box5 w z 25 a b d e f) (hL : Longer lo 22 1 w v n xs v' w') : Box5 w' z 25 a b d e f := by
  have hz0 : w.heap[z]? = some (.cells #[a, b, d, e, f] 25 (0, 0)) := hz
  refine (hL.2.1.block z hz.lt (fun e1 => ?_)).trans hz
  rcases h.own.2 with ⟨rfl, _⟩ | ⟨g, cap, cur, rfl, _, hg, _⟩
  · cases e1
  · cases e1
    rw [hz0] at hg
    injection hg with h1
    injection h1 with _ h2
    exact absurd h2 (by decide)
theorem info_files : (Try.prog.info? 22).map (fun i => (i.zero, i.size, i.bytes)) = some (some (.slice none 0 0), 1, 24) := by kernel_rfl
theorem files_cells : (Value.slice none 0 0).cells.size = 1 := rfl
theorem Was.at_ {lo : Nat} {w : World} {v : Value} {ms : List SlM} (h : Was lo w v ms) {k : Nat} (hk : k < ms.length) :
    ∃ g c m, v = .slice (some ⟨g, 0, none⟩) ms.length c ∧ ms.length ≤ c ∧ g < w.heap.size ∧ ms[k]? = some m ∧ w.cell? ⟨g, k, none⟩ = some (.slice m.A m.n m.c) ∧ FT w m.A m.n m.c m.fs := by
  rcases h.own.2 with ⟨rfl, h0⟩ | ⟨g, cap, cur, rfl, _, hg, hn, _, _, ht⟩
  · omega
  · have hm : ms[k]? = some ms[k] := List.getElem?_eq_getElem hk
    refine ⟨g, cap, ms[k], rfl, hn, (Array.getElem?_eq_some_iff.1 hg).1, hm, ?_, h.ok _ (List.getElem_mem hk)⟩
    rw [cell_of_row _ _ _ _ _ _ hg]
    have h1 : (ms.map SlM.v)[k]? = some (ms[k]).v := by rw [List.getElem?_map, hm]; rfl
    rw [← ht, List.getElem?_take_of_lt (by omega)] at h1
    simpa [SlM.v] using h1

end Go.Proofs.Ytmfiopopiikbmaa
namespace Go.Proofs.Ytmfiopopiikbmaa
open Go.RowKit Go.Maps Go.Shelf

attribute [local go_sem] Oper.semAt_some

def DOwnOut (D : DiskP) (er : Int) (e : Ending) (w' : World) : Prop :=
  ∃ A n c B m k lo fs os, e = .returned (.tuple #[.agg #[.slice A n c, .slice B m k, .int .i64 D.quota, .int .i64 D.fuse, .bool D.dead], .int .i64 er]) ∧ DOwn w' lo D A n c B m k fs os
theorem burnt_own {w : World} {lo : Nat} {D : DiskP} {A : Option Addr} {n c : Nat} {B : Option Addr} {m k : Nat} {fs : List FileM} {os : List OpM} (h : DOwn w lo D A n c B m k fs os) : DOwn w lo (burntP D) A n c B m k fs os := by
  obtain ⟨a, b, _, _⟩ := burnt_same D
  exact ⟨h.nc, h.oc, h.frow, h.fown, by rw [a]; exact h.fe, h.qrow, h.qown, by rw [b]; exact h.qe⟩

set_option maxRecDepth 100000 in
set_option maxHeartbeats 4000000 in
theorem do_own {w : World} {fl : List FileP} {qu : List OpP} {q u : Int} {dd : Bool} {A : Option Addr} {n c : Nat} {B : Option Addr} {m k : Nat} (o : OpM) (h : DAt w ⟨fl, qu, q, u, dd⟩ A n c B m k) (hs : Small ⟨fl, qu, q, u, dd⟩) (hn : Nms ⟨fl, qu, q, u, dd⟩) (hu : u ≤ 9223372036854775807)
    (ho : o.p.Ok w w.heap.size) (hok : 0 ≤ o.kind ∧ o.kind ≤ 255) (hon : o.p.n ≤ 1048576) (hos : o.name.size ≤ maxLen) :
    Calls Try.prog 10 #[.agg #[.slice A n c, .slice B m k, .int .i64 q, .int .i64 u, .bool dd], .agg #[.int .u8 o.kind, .string o.name, .string o.to, .slice o.p.A o.p.n o.p.c]] w fun e w' => DOwnOut (doP ⟨fl, qu, q, u, dd⟩ o.pure).1 (doP ⟨fl, qu, q, u, dd⟩ o.pure).2 e w' ∧ Below w.heap.size w w' := by
  obtain ⟨i3, hk, hx0, hx1, hx2⟩ := info_partsV info_op
  have Hs := Lib.hid hs
  have Hn := Lib.hid hn
  have hm : m ≤ 1000 := by rw [← h.len.2]; exact hs.queue
  clear hs hn
  go_enter Try.func10, Try.ntmps10
  go_wp2_with fail
  obtain ⟨z, hz⟩ : ∃ z, z = w.heap.size := ⟨_, rfl⟩
  obtain ⟨wa, hwa⟩ : ∃ wa, wa = w.alloc (.cells #[.slice A n c, .slice B m k, .int .i64 q, .int .i64 u, .bool dd] 25) := ⟨_, rfl⟩
  obtain ⟨wb, hwb⟩ : ∃ wb, wb = wa.alloc (.cells #[.int .u8 o.kind, .string o.name, .string o.to, .slice o.p.A o.p.n o.p.c] 28) := ⟨_, rfl⟩
  obtain ⟨w0, hw0⟩ : ∃ w0, w0 = wb.alloc (.cells #[.slice none 0 0, .slice none 0 0, .int .i64 0, .int .i64 0, .bool false] 25) := ⟨_, rfl⟩
  have hsa : wa.heap.size = z + 1 := by rw [hwa, hz]; simp
  have hsb : wb.heap.size = z + 2 := by rw [hwb]; simp [hsa]
  have hs0 : w0.heap.size = z + 3 := by rw [hw0]; simp [hsb]
  have hBa : Below w.heap.size w wa := by rw [hwa]; exact (Below.refl _ _).alloc (Nat.le_refl _) _
  have hBb : Below w.heap.size w wb := by rw [hwb]; exact hBa.alloc hBa.size _
  have hB0 : Below w.heap.size w w0 := by rw [hw0]; exact hBb.alloc hBb.size _
  have bz0 : Box5 w0 z 25 (.slice A n c) (.slice B m k) (.int .i64 q) (.int .i64 u) (.bool dd) := by
    have h1 : Box5 wa z 25 (.slice A n c) (.slice B m k) (.int .i64 q) (.int .i64 u) (.bool dd) := by rw [hwa, hz]; exact World.alloc_heap_new w _
    have h2 := h1.below (W' := wb) (by rw [hwb]; exact (Below.refl _ _).alloc (Nat.le_refl _) _)
    exact h2.below (by rw [hw0]; exact (Below.refl _ _).alloc (Nat.le_refl _) _)
  have by0 : Box4 w0 (z + 1) o := by
    have h1 : Box4 wb (z + 1) o := by rw [hwb, ← hsa]; exact World.alloc_heap_new wa _
    exact h1.below (by rw [hw0]; exact (Below.refl _ _).alloc (Nat.le_refl _) _)
  have br0 : Box5 w0 (z + 2) 25 (.slice none 0 0) (.slice none 0 0) (.int .i64 0) (.int .i64 0) (.bool false) := by rw [hw0, ← hsb]; exact World.alloc_heap_new wb _
  have he : w0 = ((w.alloc (.cells #[.slice A n c, .slice B m k, .int .i64 q, .int .i64 u, .bool dd] 25)).alloc (.cells #[.int .u8 o.kind, .string o.name, .string o.to, .slice o.p.A o.p.n o.p.c] 28)).alloc (.cells #[.slice none 0 0, .slice none 0 0, .int .i64 0, .int .i64 0, .bool false] 25) := by rw [hw0, hwb, hwa]
  rw [← he, ← hz]
  have hzw : w.heap.size ≤ z := by omega
  have hzw2 : w.heap.size ≤ z + 2 := by omega
  have ho0 := ho.on hB0 hB0.size
  have H0 := Lib.hid hs0
  clear hwa hwb hw0 he hz hsa hsb hs0 hBa hBb ho
  refine (dev_refusal o (h.on hB0) Hs.out Hn.out ho0 hok hon hos).mono ?_
  rintro e w1 ⟨rfl, hb1⟩
  have hB1 : Below w.heap.size w w1 := hB0.trans (hb1.mono hB0.size)
  have h1 := h.on hB1
  have bz1 := bz0.below hb1
  have by1 := by0.below hb1
  have br1 := br0.below hb1
  have ho1 := ho0.on hb1 hb1.size
  have H1 := Lib.hid (show z + 3 ≤ w1.heap.size by have := hb1.size; have := H0.out; omega)
  clear h hB0 bz0 by0 br0 hb1 ho0
  obtain ⟨⟨k0, k1, k2, k3, k4⟩, g0, g1, g2, g3, g4⟩ := box5 bz1
  obtain ⟨er, her⟩ : ∃ er, (doP ⟨fl, qu, q, u, dd⟩ o.pure).2 = er := ⟨_, rfl⟩
  rw [her]
  have Her := Lib.hid her
  clear her
  go_wp2_with fail
  refine (dev_own h1 Hs.out).mono ?_
  rintro e w2 ⟨⟨A2, c2, B2, k2', fs, os, rfl, d2⟩, hb2⟩
  have hB2 : Below w.heap.size w w2 := hB1.trans (hb2.mono hB1.size)
  have bz2 := bz1.below hb2
  have by2 := by1.below hb2
  have br2 := br1.below hb2
  have ho2 := ho1.on hb2 hb2.size
  have H2 := Lib.hid hb2.size
  clear hB1 bz1 by1 br1 h1 hb2 ho1 k0 k1 k2 k3 k4 g0 g1 g2 g3 g4
  obtain ⟨⟨k0, k1, k2, k3, k4⟩, g0, g1, g2, g3, g4⟩ := box5 bz2
  have hw3 : ∀ w3, w3 = put5 w2 z (.slice A2 n c2) (.slice B2 m k2') (.int .i64 q) (.int .i64 u) (.bool dd) → (Below w.heap.size w w3 ∧ Box5 w3 z 25 (.slice A2 n c2) (.slice B2 m k2') (.int .i64 q) (.int .i64 u) (.bool dd) ∧ Box4 w3 (z + 1) o ∧
      Box5 w3 (z + 2) 25 (.slice none 0 0) (.slice none 0 0) (.int .i64 0) (.int .i64 0) (.bool false) ∧ DOwn w3 w1.heap.size ⟨fl, qu, q, u, dd⟩ A2 n c2 B2 m k2' fs os ∧ o.p.Ok w3 w3.heap.size ∧ (z + 3 ≤ w3.heap.size ∧ w1.heap.size ≤ w3.heap.size)) := fun w3 hw3 => by
    refine ⟨?_, ?_, ?_, ?_, ?_, ?_, ?_⟩
    · rw [hw3]; exact put5_below hB2 hzw _ _ _ _ _
    · rw [hw3]; exact put5_box bz2 _ _ _ _ _
    · rw [hw3]; exact put5_box4 by2 (by omega) _ _ _ _ _
    · rw [hw3]; exact put5_other br2 (by omega) _ _ _ _ _
    · rw [hw3]; exact d2.put5 bz2 _ _ _ _ _
    · rw [hw3, put5_size]
      exact ((((ho2.apart bz2.noData).apart (bz2.s0 _).noData).apart ((bz2.s0 _).s1 _).noData).apart (((bz2.s0 _).s1 _).s2 _).noData).apart ((((bz2.s0 _).s1 _).s2 _).s3 _).noData
    · rw [hw3, put5_size]; exact ⟨Nat.le_trans H1.out H2.out, H2.out⟩
  have H3 := Lib.hid hw3
  clear hw3 hB2 ho2 by2 d2 bz2
  by_cases h0 : er = 0
  · subst h0
    have He := Lib.hid (do_zero Her.out)
    go_wp2_with fail
    obtain ⟨w3, hw3⟩ : ∃ w3, w3 = put5 w2 z (.slice A2 n c2) (.slice B2 m k2') (.int .i64 q) (.int .i64 u) (.bool dd) := ⟨_, rfl⟩
    obtain ⟨hB3, bz3, by3, br3, d3, ho3, hs3⟩ := H3.out w3 hw3
    have hw3' : w3 = ((((w2.setCell ⟨z, 0, none⟩ (.slice A2 n c2)).setCell ⟨z, 1, none⟩ (.slice B2 m k2')).setCell ⟨z, 2, none⟩ (.int .i64 q)).setCell ⟨z, 3, none⟩ (.int .i64 u)).setCell ⟨z, 4, none⟩ (.bool dd) := hw3
    rw [← hw3']
    clear hw3 hw3' H3 br2 k0 k1 k2 k3 k4 g0 g1 g2 g3 g4
    have Hlo := Lib.hid hs3
    have Hbz := Lib.hid bz3
    have Hbr := Lib.hid br3
    have Hd3 := Lib.hid d3
    have HB3 := Lib.hid hB3
    have Hby := Lib.hid by3
    have bd : Below w3.heap.size w3 w3.drew := (Below.refl _ _).drew
    have Ho3 := Lib.hid (ho3.on bd bd.size)
    obtain ⟨⟨k0, k1, k2, k3, k4⟩, g0, g1, g2, g3, g4⟩ := box5 (bz3.below bd)
    obtain ⟨⟨y0, y1, y2, y3⟩, _⟩ := box4 (by3.below bd)
    clear bz3 br3 d3 hB3 hs3 ho3 by3
    go_region_law (first
      | (go_simp; go_at_call 32; (with_reducible refine (dev_ownOp o w3.drew Ho3.out (by omega)).mono ?_); rintro e w4 ⟨⟨p, rfl, hpl, hp, hpg⟩, hb4⟩; (have hB4 : Below w3.heap.size w3 w4 := bd.trans (hb4.mono bd.size)); obtain ⟨⟨l0, l1, l2, l3, l4⟩, _⟩ := box5 (Hbz.out.below hB4); (have b4a : Below w4.heap.size w4 (w4.alloc (.cells #[.int .u8 o.kind, .string o.name, .string o.to, .slice p.A p.n p.c] 28)) := (Below.refl _ _).alloc (Nat.le_refl _) _); (have hB5 := hB4.trans (b4a.mono hB4.size)); (have Hd5 := Lib.hid (Hd3.out.below hB5)); (have Hsrc := Lib.hid (show Source (w4.alloc (.cells #[.int .u8 o.kind, .string o.name, .string o.to, .slice p.A p.n p.c] 28)) 4 (some ⟨w4.heap.size, 0, none⟩) 1 (OpM.cs ⟨o.kind, o.name, o.to, p⟩) from Source.one (cs := OpM.cs ⟨o.kind, o.name, o.to, p⟩) rfl (OpM.one _) rfl)); (have Hb3 := Lib.hid (show w1.heap.size ≤ (w4.alloc (.cells #[.int .u8 o.kind, .string o.name, .string o.to, .slice p.A p.n p.c] 28)).heap.size from Nat.le_trans Hlo.out.2 hB5.size)); (have Hp5 := Lib.hid (hp.below b4a)); obtain ⟨⟨k0, k1, k2, k3, k4⟩, g0, g1, g2, g3, g4⟩ := box5 (Hbz.out.below hB5))
      | (refine step_append (base := w1.heap.size) (w := _) (n := m) (m := 1) (.tmp 17) (.tmp 20) 23 rfl rfl Try.underlying23 hk hx0 hx1 hx2 op_cells (by decide) rfl rfl Hd5.out.qrow Hsrc.out (by unfold maxLen; omega) (by omega) Hb3.out ?_; intro v2 w6 L6; obtain ⟨B6, k6, rfl, d6⟩ := Hd5.out.push (o := ⟨o.kind, o.name, o.to, p⟩) Hp5.out hok L6; (have bz6 := box5_longer (Hbz.out.below hB5) Hd5.out.qrow L6 (by have := Hlo.out; have := H1.out; omega)); obtain ⟨⟨k0, k1, k2, k3, k4⟩, g0, g1, g2, g3, g4⟩ := box5 bz6))
    all_goals
      have hB6 : Below w.heap.size w w6 := L6.below (HB3.out.trans (hB5.mono HB3.out.size)) (Nat.le_trans HB3.out.size hB5.size) (fun g hg => by have := (Hd5.out.qrow.lt g hg).1; have := H1.out; omega)
      have br6 := box5_longer (Hbr.out.below hB5) Hd5.out.qrow L6 (by have := H1.out; omega)
      obtain ⟨w7, hw7⟩ : ∃ w7, w7 = w6.setCell ⟨z, 1, none⟩ (.slice B6 (m + 1) k6) := ⟨_, rfl⟩
      have bz7 : Box5 w7 z 25 (.slice A2 n c2) (.slice B6 (m + 1) k6) (.int .i64 q) (.int .i64 u) (.bool dd) := by rw [hw7]; exact bz6.s1 _
      have br7 : Box5 w7 (z + 2) 25 (.slice none 0 0) (.slice none 0 0) (.int .i64 0) (.int .i64 0) (.bool false) := by rw [hw7]; exact br6.other (by omega) _
      have d7 : DOwn w7 w1.heap.size ⟨fl, qu ++ [o.pure], q, u, dd⟩ A2 n c2 B6 (m + 1) k6 fs (os ++ [⟨o.kind, o.name, o.to, p⟩]) := by
        rw [hw7]
        have h1 := d6.set (i := 1) bz6 (.slice B6 (m + 1) k6)
        rw [show (OpM.pure ⟨o.kind, o.name, o.to, p⟩) = o.pure by unfold OpM.pure; rw [hpl]] at h1
        exact h1
      have hB7 : Below w.heap.size w w7 := by rw [hw7]; exact hB6.setCell (p := ⟨z, 1, none⟩) hzw _
      rw [← hw7]
      clear hw7 bz6 br6 hB6 d6 L6 l0 l1 l2 l3 l4 k0 k1 k2 k3 k4 g0 g1 g2 g3 g4 y0 y1 y2 y3 Hbz Hbr Hd3 HB3 Hby Hd5 Hsrc Hp5 hB5 b4a hB4 hp hpl hpg hb4 bd Ho3
      obtain ⟨⟨k0, k1, k2, k3, k4⟩, g0, g1, g2, g3, g4⟩ := box5 bz7
      go_wp2_with fail
      refine (dev_burn ⟨fl, qu ++ [o.pure], q, u, dd⟩ A2 n c2 B6 (m + 1) k6 w7 hu).mono ?_
      rintro e w8 ⟨rfl, hb8⟩
      have hB8 : Below w.heap.size w w8 := hB7.trans (hb8.mono hB7.size)
      have br8 := br7.below hb8
      have d8 := burnt_own (d7.below hb8)
      have Hquo := Lib.hid (burnt_quota ⟨fl, qu ++ [o.pure], q, u, dd⟩)
      clear bz7 br7 d7 hB7 hb8 k0 k1 k2 k3 k4 g0 g1 g2 g3 g4
      obtain ⟨⟨r0, r1, r2, r3, r4⟩, t0, t1, t2, t3, t4⟩ := box5 br8
      go_wp2_with fail
      rw [He.out]
      refine bodyPost_ret (v := .tuple #[.agg #[.slice A2 n c2, .slice B6 (m + 1) k6, .int .i64 q, .int .i64 (burntP ⟨fl, qu ++ [o.pure], q, u, dd⟩).fuse, .bool (burntP ⟨fl, qu ++ [o.pure], q, u, dd⟩).dead], .int .i64 0]) (by simp [results, Try.results10, go_sem, *]) rfl
        ⟨⟨A2, n, c2, B6, m + 1, k6, _, _, _, by rw [Her.out, Hquo.out], d8.put5 br8 _ _ _ _ _⟩, put5_below hB8 hzw2 _ _ _ _ _⟩
  · have e0 : (er != 0) = true := by simpa using h0
    have He := Lib.hid (do_err (by rw [Her.out]; exact h0))
    clear h0
    obtain ⟨⟨r0, r1, r2, r3, r4⟩, t0, t1, t2, t3, t4⟩ := box5 br2
    go_wp2_with fail
    rw [He.out]
    obtain ⟨hB3, bz3, by3, br3, d3, ho3, hs3⟩ := H3.out _ rfl
    refine bodyPost_ret (v := .tuple #[.agg #[.slice A2 n c2, .slice B2 m k2', .int .i64 q, .int .i64 u, .bool dd], .int .i64 er]) (by simp [results, Try.results10, go_sem, *]) rfl ⟨⟨A2, n, c2, B2, m, k2', _, _, _, by rw [Her.out], d3.put5 br3 _ _ _ _ _⟩, put5_below hB3 hzw2 _ _ _ _ _⟩


theorem DOwn.grown {w w' : World} {lo : Nat} {D : DiskP} {A : Option Addr} {n c : Nat} {B : Option Addr} {m k : Nat} {fs : List FileM} {os : List OpM} {base2 n2 : Nat} {v2 : Value} {xs2 : List Value} (h : DOwn w lo D A n c B m k fs os) (h2 : w.ownsRow base2 22 1 v2 n2 xs2) (hg : w.grownBy w' v2.ownBlock) : DOwn w' lo D A n c B m k fs os :=
  ⟨h.nc, h.oc, own_grown h.frow h2 (by decide) hg, fun f hf => (h.fown f hf).grown2 h2 (by decide) hg, h.fe, own_grown h.qrow h2 (by decide) hg, fun o ho => ⟨(h.qown o ho).1.grown2 h2 (by decide) hg, (h.qown o ho).2⟩, h.qe⟩
/-- A disk that lies where it lay at first, or in memory of a kind of its own. -/
def Stays (w W : World) (D : DiskP) (A : Option Addr) (n c : Nat) (B : Option Addr) (m k : Nat) : Prop := (Below w.heap.size w W ∧ DAt w D A n c B m k) ∨ ∃ lo fs os, DOwn W lo D A n c B m k fs os
theorem Stays.at_ {w W : World} {D : DiskP} {A : Option Addr} {n c : Nat} {B : Option Addr} {m k : Nat} (h : Stays w W D A n c B m k) : DAt W D A n c B m k := by
  rcases h with ⟨a, b⟩ | ⟨lo, fs, os, a⟩
  · exact b.on a
  · exact a.at_
theorem Stays.below {w W W' : World} {D : DiskP} {A : Option Addr} {n c : Nat} {B : Option Addr} {m k : Nat} (h : Stays w W D A n c B m k) (hb : Below W.heap.size W W') : Stays w W' D A n c B m k := by
  rcases h with ⟨a, b⟩ | ⟨lo, fs, os, a⟩
  · exact .inl ⟨below_on a hb, b⟩
  · exact .inr ⟨lo, fs, os, a.below hb⟩
theorem Stays.put5 {w W : World} {D : DiskP} {A : Option Addr} {n c : Nat} {B : Option Addr} {m k : Nat} {z : Nat} {A2 : Option Addr} {n2 c2 : Nat} {B2 : Option Addr} {m2 k2 : Nat} {q2 u2 : Int} {dd2 : Bool} {a' b' d' e' f' : Value} (h : Stays w W D A n c B m k) (hz : Box5 W z 25 (.slice A2 n2 c2) (.slice B2 m2 k2) (.int .i64 q2) (.int .i64 u2) (.bool dd2)) (hl : w.heap.size ≤ z) :
    Stays w (Go.Proofs.Ytmfiopopiikbmaa.put5 W z a' b' d' e' f') D A n c B m k := by
  rcases h with ⟨a, b⟩ | ⟨lo, fs, os, a⟩
  · exact .inl ⟨put5_below a hl _ _ _ _ _, b⟩
  · exact .inr ⟨lo, fs, os, a.put5 hz _ _ _ _ _⟩
theorem Stays.push {w W W' : World} {D : DiskP} {A : Option Addr} {n c : Nat} {B : Option Addr} {m k : Nat} {v v' : Value} {ms : List SlM} {N : Nat} {xs : List Value} (h : Stays w W D A n c B m k) (hw : Was w.heap.size W v ms) (hL : Longer w.heap.size 22 1 W v N xs v' W') (hs : w.heap.size ≤ W.heap.size) : Stays w W' D A n c B m k := by
  rcases h with ⟨a, b⟩ | ⟨lo, fs, os, a⟩
  · exact .inl ⟨hL.below a hs (fun g hg => (hw.own.lt g hg).1), b⟩
  · exact .inr ⟨lo, fs, os, a.grown hw.own hL.2.1⟩
theorem do_stays {w W : World} {D D' : DiskP} {er : Int} {j : Nat} {A : Option Addr} {n c : Nat} {B : Option Addr} {m k : Nat} (o : OpM) (h : DAt W D A n c B m k) (hr : Run j D) (hj : j ≤ 1000) (ho : o.p.Ok W W.heap.size) (hk : 0 ≤ o.kind ∧ o.kind ≤ 255) (hn : o.p.n ≤ 1048576) (hs : o.name.size ≤ maxLen)
    (e : doP D o.pure = (D', er)) :
    Calls Try.prog 10 #[.agg #[.slice A n c, .slice B m k, .int .i64 D.quota, .int .i64 D.fuse, .bool D.dead], .agg #[.int .u8 o.kind, .string o.name, .string o.to, .slice o.p.A o.p.n o.p.c]] W fun e w' =>
      (∃ A' n' c' B' m' k', e = .returned (.tuple #[.agg #[.slice A' n' c', .slice B' m' k', .int .i64 D'.quota, .int .i64 D'.fuse, .bool D'.dead], .int .i64 er]) ∧ Stays w w' D' A' n' c' B' m' k') ∧ Below W.heap.size W w' := by
  obtain ⟨fl, qu, q, u, dd⟩ := D
  have h1 := do_own o h (hr.small hj) hr.nms hr.fuse ho hk hn hs
  rw [e] at h1
  refine h1.mono ?_
  rintro e w' ⟨⟨A', n', c', B', m', k', lo, fs, os, rfl, h2⟩, hb⟩
  exact ⟨⟨A', n', c', B', m', k', rfl, .inr ⟨lo, fs, os, h2⟩⟩, hb⟩

end Go.Proofs.Ytmfiopopiikbmaa
namespace Go.Proofs.Ytmfiopopiikbmaa
open Go.RowKit

/-- A disk without a fuse, that is small, its files as they were. -/
structure LiveF (fl : List FileP) (k : Nat) (D : DiskP) : Prop where
  fuse : D.fuse = 0
  dead : D.dead = false
  right : rightP D = true
  run : Run k D
  files : D.files = fl
theorem safe_start {fl : List FileP} {q u : Int} (hr : rightP ⟨fl, [], q, u, false⟩ = true) (hR : Run 60 ⟨fl, [], q, u, false⟩) : LiveF fl (60 + 0) ⟨fl, [], q, 0, false⟩ := by
  have h1 := right_fuse ⟨fl, [], q, u, false⟩ (f := 0) false (Int.le_refl 0) ((right_iff _).1 hr).2.2.2.2.1
  exact ⟨rfl, rfl, h1.trans hr, ⟨hR.files, hR.queue, hR.fb, hR.ob, ⟨hR.nms.files, hR.nms.queue⟩, (show (0 : Int) ≤ 9223372036854775807 by decide)⟩, rfl⟩
/-- The rows: the files behind each beginning of the queue. -/
def RowsP (D : DiskP) (ms : List SlM) : Prop := ms.map SlM.pure = (List.range (D.queue.length + 1)).map fun k => allP D.files (D.queue.take k)
theorem rows_first {D : DiskP} {m : SlM} (hq : D.queue = []) (hm : m.pure = nowP D) : RowsP D [m] := by
  unfold RowsP
  rw [hq]
  simp only [List.map_cons, List.map_nil, hm, List.length_nil, Nat.zero_add, List.range_one]
  unfold nowP
  rw [hq]
  rfl
theorem rows_step {D : DiskP} {ms : List SlM} {o : OpP} {m : SlM} (h : RowsP D ms) (hm : m.pure = nowP { D with queue := D.queue ++ [o] }) : RowsP { D with queue := D.queue ++ [o] } (ms ++ [m]) := by
  unfold RowsP at h ⊢
  simp only [List.length_append, List.length_cons, List.length_nil, Nat.zero_add]
  rw [List.range_succ, List.map_append, List.map_append, h]
  congr 1
  · refine List.map_congr_left fun k hk => ?_
    have := List.mem_range.1 hk
    rw [List.take_append_of_le_length (by omega)]
  · rw [List.map_cons, List.map_nil, List.map_cons, List.map_nil, hm]
    unfold nowP
    simp only
    rw [List.take_of_length_le (by simp)]
theorem rows_len {D : DiskP} {ms : List SlM} (h : RowsP D ms) : ms.length = D.queue.length + 1 := by
  have h1 := congrArg List.length h
  simpa using h1
theorem rows_at {D : DiskP} {ms : List SlM} {k : Nat} {m : SlM} (h : RowsP D ms) (hm : ms[k]? = some m) : m.pure = allP D.files (D.queue.take k) := by
  have h1 : (ms.map SlM.pure)[k]? = some m.pure := by rw [List.getElem?_map, hm]; rfl
  have hk : k < ms.length := (List.getElem?_eq_some_iff.1 hm).1
  rw [h, List.getElem?_map, List.getElem?_range (by rw [rows_len h] at hk; omega)] at h1
  exact (Option.some.inj h1).symm
theorem cells5v {w : World} {z : Nat} {t : TypeId} {a b c d e : Value} (h : Box5 w z t a b c d e) : w.cell? ⟨z, 0, none⟩ = some a ∧ w.cell? ⟨z, 1, none⟩ = some b ∧ w.cell? ⟨z, 2, none⟩ = some c ∧ w.cell? ⟨z, 3, none⟩ = some d ∧ w.cell? ⟨z, 4, none⟩ = some e := (box5 h).1
theorem safe_round (D : DiskP) (o : OpP) (h0 : D.fuse = 0) (hd : D.dead = false) : ∃ D1 er, doP D o = (D1, er) ∧ (er = 0 ∧ D1 = { D with queue := D.queue ++ [o] } ∨ er ≠ 0 ∧ D1 = D) := by
  rcases fuse_step D o h0 hd (f := 1) (by omega) with ⟨a, b, _⟩ | ⟨a, b, _⟩
  · exact ⟨_, _, rfl, .inl ⟨a, b⟩⟩
  · exact ⟨_, _, rfl, .inr ⟨a, b⟩⟩
theorem safe_next {fl : List FileP} {j : Nat} {D D1 : DiskP} {o : OpP} (h : LiveF fl (60 + j) D) (e : doP D o = (D1, 0)) (h2 : D1 = { D with queue := D.queue ++ [o] }) (ho : o.bytes.length ≤ 1000) (hn : o.name.size ≤ maxLen ∧ o.to.size ≤ maxLen) : LiveF fl (60 + (j + 1)) D1 := by
  have h3 := h.run.step e ho hn
  have h4 := do_right (o := o) h.right
  rw [e] at h4
  refine ⟨?_, ?_, h4, h3, ?_⟩ <;> rw [h2]
  · exact h.fuse
  · exact h.dead
  · exact h.files
theorem safe_stay {fl : List FileP} {j : Nat} {D : DiskP} (h : LiveF fl (60 + j) D) : LiveF fl (60 + (j + 1)) D :=
  ⟨h.fuse, h.dead, h.right, ⟨h.run.files, Nat.le_succ_of_le h.run.queue, h.run.fb, h.run.ob, h.run.nms, h.run.fuse⟩, h.files⟩
theorem tmod_low (a : Int) {n : Nat} (hn : 0 < n) : ∃ q : Int, a.tmod n = q ∧ -(n : Int) < q ∧ q < n := by
  refine ⟨_, rfl, ?_⟩
  by_cases h : 0 ≤ a
  · rw [Int.tmod_eq_emod_of_nonneg h]
    have h1 := Int.emod_nonneg a (show (n : Int) ≠ 0 by omega)
    have h2 := Int.emod_lt_of_pos a (show (0 : Int) < n by omega)
    omega
  · have h0 := Int.neg_tmod (-a) n
    rw [Int.neg_neg, Int.tmod_eq_emod_of_nonneg (a := -a) (by omega)] at h0
    rw [h0]
    have h1 := Int.emod_nonneg (-a) (show (n : Int) ≠ 0 by omega)
    have h2 := Int.emod_lt_of_pos (-a) (show (0 : Int) < n by omega)
    omega
theorem place_of (q : Int) {n : Nat} (hn : 0 < n) : ∃ j : Nat, (q + n) % n = (j : Int) ∧ j < n := by
  have h1 := Int.emod_nonneg (q + n) (show (n : Int) ≠ 0 by omega)
  have h2 := Int.emod_lt_of_pos (q + n) (show (0 : Int) < n by omega)
  exact ⟨((q + n) % n).toNat, by omega, by omega⟩
theorem cut_place {K n : Nat} (h : K ≤ n) : cutP (K : Int) n = K := by
  have h1 := (cut_val (K : Int) n).1
  omega
/-- What a crash leaves that tears nothing. -/
theorem whole_crash {fl : List FileP} {j : Nat} {D : DiskP} (h : LiveF fl j D) {K : Nat} (hK : K ≤ D.queue.length) : (crashP D K 0).files = allP D.files (D.queue.take K) ∧ (crashP D K 0).queue = [] ∧ (crashP D K 0).dead = false := by
  rw [crash_right h.right, cut_place hK, left_whole]
  exact ⟨rfl, rfl, rfl⟩
theorem part_crash {fl : List FileP} {j : Nat} {D : DiskP} (h : LiveF fl j D) {K : Nat} (hK : K ≤ D.queue.length) (torn : Int) : (crashP D K torn).files = leftP D K torn ∧ (crashP D K torn).queue = [] ∧ (crashP D K torn).dead = false := by
  rw [crash_right h.right, cut_place hK]
  exact ⟨rfl, rfl, rfl⟩
theorem was_at {lo : Nat} {w : World} {g N c : Nat} {ms : List SlM} (h : Was lo w (.slice (some ⟨g, 0, none⟩) N c) ms) {k : Nat} {m : SlM} (hm : ms[k]? = some m) : w.cell? ⟨g, k, none⟩ = some (.slice m.A m.n m.c) ∧ FT w m.A m.n m.c m.fs := by
  obtain ⟨g', c', m', e, _, _, hm', hc, hf⟩ := h.at_ (List.getElem?_eq_some_iff.1 hm).1
  rw [hm] at hm'
  cases hm'
  cases e
  exact ⟨hc, hf⟩
/-- One's name, and its bytes as far as the other's go. -/
def Mt (g f : FileM) : Prop := g.name = f.name ∧ g.p.l.take (min g.p.n f.p.n) = f.p.l
def Mq (g f : FileM) : Prop := g.name = f.name ∧ g.p.l = f.p.l
theorem any_step {l : List FileM} {t : Nat} {g : FileM} (hg : l[t]? = some g) (P : FileM → Prop) : (∃ x ∈ l.take (t + 1), P x) ↔ (∃ x ∈ l.take t, P x) ∨ P g := by
  rw [List.take_add_one, hg]
  constructor
  · rintro ⟨x, hx, h⟩
    rcases List.mem_append.1 hx with hx | hx
    · exact .inl ⟨x, hx, h⟩
    · obtain rfl : x = g := by simpa using hx
      exact .inr h
  · rintro (⟨x, hx, h⟩ | h)
    · exact ⟨x, List.mem_append.2 (.inl hx), h⟩
    · exact ⟨g, List.mem_append.2 (.inr (by simp)), h⟩
theorem torn_fine {D : DiskP} {K : Nat} {torn : Int} {fp : List FileM} {mn mK : SlM} (hp : fp.map FileM.pure = leftP D K torn) (h1 : mn.pure = allP D.files (D.queue.take (K + 1))) (h0 : mK.pure = allP D.files (D.queue.take K))
    (hl : ∀ f ∈ fp, f.p.l.length = f.p.n) (hl1 : ∀ g ∈ mn.fs, g.p.l.length = g.p.n) {f : FileM} (hf : f ∈ fp) : (∃ g ∈ mn.fs, Mt g f) ∨ ∃ g ∈ mK.fs, Mq g f := by
  have hm : f.pure ∈ leftP D K torn := by rw [← hp]; exact List.mem_map_of_mem hf
  rcases left_torn D K torn _ hm with h | ⟨g, hg, a, b, c⟩
  · rw [← h0] at h
    obtain ⟨g, hg, e⟩ := List.mem_map.1 h
    refine .inr ⟨g, hg, ?_⟩
    unfold FileM.pure at e
    injection e with e1 e2
    exact ⟨e1, e2⟩
  · rw [← h1] at hg
    obtain ⟨x, hx, e⟩ := List.mem_map.1 hg
    subst e
    refine .inl ⟨x, hx, a, ?_⟩
    have b' : f.p.l.length ≤ x.p.l.length := b
    have c' : x.p.l.take f.p.l.length = f.p.l := c
    rw [← hl1 x hx, ← hl f hf, Nat.min_eq_right b', c']
theorem next_row {D : DiskP} {ms : List SlM} {K K2 : Nat} {mn : SlM} (h : RowsP D ms) (hK : K ≤ D.queue.length) (h2 : K2 ≤ K + 1) (h3 : K2 = K + 1 ∨ K2 = D.queue.length) (hm : ms[K2]? = some mn) : mn.pure = allP D.files (D.queue.take (K + 1)) := by
  rw [rows_at h hm]
  rcases h3 with h3 | h3
  · rw [h3]
  · rcases (by omega : K2 = K + 1 ∨ K = D.queue.length) with h4 | h4
    · rw [h4]
    · rw [h3, List.take_of_length_le (Nat.le_refl _), List.take_of_length_le (by omega)]
theorem byt_take {l : List Int} (h : Byt l) (k : Nat) : Byt (l.take k) := fun x hx => h x (List.mem_of_mem_take hx)
theorem beq_txt {l m : List Int} (hl : Byt l) (hm : Byt m) : ((txt l).toList == (txt m).toList) = decide (l = m) := by
  rw [txt_beq hl hm, Bool.eq_iff_iff, eqB_iff, decide_eq_true_eq]
/-- A box that holds a file. -/
def BoxF (W : World) (z : Nat) (f : FileM) : Prop := W.heap[z]? = some (.cells #[.string f.name, .slice f.p.A f.p.n f.p.c] 47 (0, 0))
theorem BoxF.cells {W : World} {z : Nat} {f : FileM} (h : BoxF W z f) : W.cell? ⟨z, 0, none⟩ = some (.string f.name) ∧ W.cell? ⟨z, 1, none⟩ = some (.slice f.p.A f.p.n f.p.c) := by
  refine ⟨?_, ?_⟩ <;> (rw [cell_of_row _ _ _ _ _ _ h]; simp)
theorem BoxF.below {W W' : World} {z : Nat} {f : FileM} (h : BoxF W z f) (hb : Below W.heap.size W W') : BoxF W' z f := (hb.block z (Array.getElem?_eq_some_iff.1 h).1).trans h
theorem left_len {k : Nat} {D : DiskP} (h : Run k D) (hk : k ≤ 1000) {K : Nat} {torn : Int} : (leftP D K torn).length ≤ 100000 := by
  have h1 := h.files
  have h2 := h.queue
  have h3 := all_length D.files (D.queue.take K)
  have h4 : (D.queue.take K).length ≤ D.queue.length := by rw [List.length_take]; exact Nat.min_le_right _ _
  unfold leftP
  split
  · split
    · refine Nat.le_trans (done_length _ _) ?_
      omega
    · omega
  · omega
theorem row_len {k : Nat} {D : DiskP} (h : Run k D) (hk : k ≤ 1000) {K : Nat} {m : SlM} (hm : m.fs.length = m.n) (hp : m.pure = allP D.files (D.queue.take K)) : m.n ≤ 100000 := by
  have h1 := h.files
  have h2 := h.queue
  have h3 := all_length D.files (D.queue.take K)
  have h4 : (D.queue.take K).length ≤ D.queue.length := by rw [List.length_take]; exact Nat.min_le_right _ _
  have h5 := congrArg List.length hp
  unfold SlM.pure at h5
  rw [List.length_map] at h5
  omega
theorem Run.now_len2 {k : Nat} {D : DiskP} (h : Run k D) : (nowP D).length ≤ 30 + k := by
  have h1 := h.files
  have h2 := h.queue
  have h3 := all_length D.files D.queue
  unfold nowP
  omega
theorem synced {fl : List FileP} {j : Nat} {D : DiskP} (h : LiveF fl j D) (hj : j ≤ 200) : ∃ D4, syncP D = (D4, 0) ∧ Small D4 ∧ Nms D4 ∧ D4.files = nowP D ∧ (crashP D4 0 0).files = nowP D := by
  obtain ⟨a, b, c, _, e⟩ := sync_now h.right h.dead
  have h1 := h.run.files
  have h2 := h.run.queue
  have h3 := all_length D.files D.queue
  have h4 := all_bnd (X := 1000) (Y := 1000) h.run.fb h.run.ob
  refine ⟨(syncP D).1, Prod.ext rfl a, ⟨?_, ?_, ?_, ?_⟩, h.run.nms.sync, b, ?_⟩
  · rw [b]
    unfold nowP
    omega
  · rw [c]
    simp
  · rw [b]
    refine Bnd.mono (l := nowP D) h4 ?_
    have h5 : D.queue.length * 1000 ≤ 200 * 1000 := Nat.mul_le_mul_right _ (by omega)
    omega
  · rw [c]
    intro o ho
    cases ho
  · rw [crash_right e]
    show leftP (syncP D).1 _ 0 = _
    rw [left_whole, c, b, List.take_nil]
    exact all_nil (sorted_now D)
theorem field_files (A : Option Addr) (n c : Nat) (b d e f : Value) (W : World) : (Instr.field 25 (.agg #[.slice A n c, b, d, e, f]) 0).run Try.prog W = .ok (.slice A n c) W := by kernel_rfl

end Go.Proofs.Ytmfiopopiikbmaa
