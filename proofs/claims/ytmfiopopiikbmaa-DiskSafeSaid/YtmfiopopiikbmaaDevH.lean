/-
  The developers' rightNow, Right, Used, Read: their contracts.
-/
import Derived.Test.YtmfiopopiikbmaaDevG
import Derived.Test.YtmfiopopiikbmaaNames
import Derived.BigQuiet
namespace Go.Proofs.Ytmfiopopiikbmaa
open Go.RowKit Go.Maps

/-- May the disk be? and if it may, its files now. -/
def RightAt (w : World) (d : DiskP) (N : Nat) (e : Ending) (w' : World) : Prop :=
  (rightP d = false ∧ e = .returned (.tuple #[.map none, .bool false])) ∨
  (rightP d = true ∧ ∃ b fs', e = .returned (.tuple #[.map (some b), .bool true]) ∧ FM w' (Old w.heap.size) b N fs' ∧ fs'.map FileM.pure = nowP d)
theorem size_now {d : DiskP} (hs : Small d) : sizeP (nowP d) ≤ 4611686018427387904 := by
  have := used_bound hs
  unfold usedP at this
  omega
theorem used_held2 {w W : World} {C : Nat → Prop} {b n : Nat} {fs : List FileM} (h : FM w C b n fs) (hS : Below w.heap.size w W) (hs : sizeP (fs.map FileM.pure) ≤ 4611686018427387904) :
    Calls Try.prog 51 #[.map (some b)] W fun e w' => e = .returned (.int .i64 (sizeP (fs.map FileM.pure) : Nat)) ∧ Below w.heap.size w w' :=
  (dev_used (h.below hS) hs).mono fun _ _ ⟨he, hB⟩ => ⟨he, hS.trans (hB.mono hS.size)⟩

set_option maxRecDepth 100000 in
set_option maxHeartbeats 2000000 in
theorem dev_rightNow {w : World} {fl : List FileP} {qu : List OpP} {q u : Int} {dd : Bool} {A : Option Addr} {n c : Nat} {B : Option Addr} {m k : Nat} (h : DAt w ⟨fl, qu, q, u, dd⟩ A n c B m k) (hs : Small ⟨fl, qu, q, u, dd⟩) (hn : Nms ⟨fl, qu, q, u, dd⟩) :
    Calls Try.prog 39 #[.agg #[.slice A n c, .slice B m k, .int .i64 q, .int .i64 u, .bool dd]] w fun e w' => RightAt w ⟨fl, qu, q, u, dd⟩ (n + m) e w' ∧ Below w.heap.size w w' := by
  obtain ⟨fs, hf, e1⟩ := h.files
  obtain ⟨os, ho, e2⟩ := h.queue
  have hl := h.len
  have hn1 : n ≤ 1000 := by rw [← hl.1]; exact hs.files
  have hm1 : m ≤ 1000 := by rw [← hl.2]; exact hs.queue
  have hlq : qu.length = m := hl.2
  have Hr := Lib.hid (right_iff ⟨fl, qu, q, u, dd⟩)
  have Hno := Lib.hid (show (¬ rightP ⟨fl, qu, q, u, dd⟩ = true) → rightP ⟨fl, qu, q, u, dd⟩ = false from fun h => bool_no h)
  have Hlq := Lib.hid hlq
  have Hs := Lib.hid hs
  have Hn := Lib.hid hn
  have Hd := Lib.hid h
  have E1 := Lib.hid e1
  have E2 := Lib.hid e2
  clear hl h hs hn e1 e2 hlq
  go_enter Try.func39, Try.ntmps39
  by_cases h1 : q < 0
  · have He := Lib.hid (Hno.out fun h => by have := (Hr.out.1 h).2.2.2.1; simp only at this; omega)
    have t1 : decide (q < 0) = true := decide_eq_true h1
    go_wp2_with fail
    go_ret2
    exact ⟨.inl ⟨He.out, rfl⟩, (Below.refl _ _).alloc (Nat.le_refl _) _⟩
  have t1 : decide (q < 0) = false := decide_eq_false h1
  by_cases h2 : u < 0
  · have He := Lib.hid (Hno.out fun h => by have := (Hr.out.1 h).2.2.2.2.1; simp only at this; omega)
    have t2 : decide (u < 0) = true := decide_eq_true h2
    go_wp2_with fail
    go_ret2
    exact ⟨.inl ⟨He.out, rfl⟩, (Below.refl _ _).alloc (Nat.le_refl _) _⟩
  have t2 : decide (u < 0) = false := decide_eq_false h2
  by_cases h3 : (400 : Int) < (m : Int)
  · have He := Lib.hid (Hno.out fun h => by have := (Hr.out.1 h).2.2.1; simp only at this; have := Hlq.out; omega)
    have t3 : decide ((400 : Int) < (m : Int)) = true := decide_eq_true h3
    go_wp2_with fail
    go_ret2
    exact ⟨.inl ⟨He.out, rfl⟩, (Below.refl _ _).alloc (Nat.le_refl _) _⟩
  have t3 : decide ((400 : Int) < (m : Int)) = false := decide_eq_false h3
  go_wp2_with fail
  obtain ⟨z, hz⟩ : ∃ z, z = w.heap.size := ⟨_, rfl⟩
  obtain ⟨w0, hw0⟩ : ∃ w0, w0 = w.alloc (.cells #[.slice A n c, .slice B m k, .int .i64 q, .int .i64 u, .bool dd] 25) := ⟨_, rfl⟩
  have hB0 : Below w.heap.size w w0 := by rw [hw0]; exact (Below.refl _ _).alloc (Nat.le_refl _) _
  have bz0 : Box5 w0 z 25 (.slice A n c) (.slice B m k) (.int .i64 q) (.int .i64 u) (.bool dd) := by rw [hw0, hz]; exact World.alloc_heap_new w _
  rw [← hw0, ← hz]
  clear hw0 hz
  refine (dev_rising (hf.on hB0 hB0.size) hn1).mono ?_
  rintro e w1 ⟨⟨y1, rfl, hy1⟩, hb1⟩
  have hB1 : Below w.heap.size w w1 := hB0.trans (hb1.mono hB0.size)
  have bz1 := bz0.below hb1
  obtain ⟨⟨k0, k1, k2, k3, k4⟩, _⟩ := box5 bz1
  rw [E1.out] at hy1
  clear bz0 hb1 hB0
  cases y1
  · have He := Lib.hid (Hno.out fun h => by have := hy1.2 (Hr.out.1 h).1; cases this)
    clear hy1
    go_wp2_with fail
    go_ret2
    exact ⟨.inl ⟨He.out, rfl⟩, hB1⟩
  have Hy1 := Lib.hid (hy1.1 rfl)
  clear hy1
  go_wp2_with fail
  refine (dev_rightOps (ho.on hB1 hB1.size) hm1).mono ?_
  rintro e w2 ⟨⟨y2, rfl, hy2⟩, hb2⟩
  have hB2 : Below w.heap.size w w2 := hB1.trans (hb2.mono hB1.size)
  have bz2 := bz1.below hb2
  clear k0 k1 k2 k3 k4
  obtain ⟨⟨k0, k1, k2, k3, k4⟩, _⟩ := box5 bz2
  rw [E2.out] at hy2
  clear bz1 hb2 hB1
  cases y2
  · have He := Lib.hid (Hno.out fun h => by have := hy2.2 (Hr.out.1 h).2.1; cases this)
    clear hy2
    go_wp2_with fail
    go_ret2
    exact ⟨.inl ⟨He.out, rfl⟩, hB2⟩
  have Hy2 := Lib.hid (hy2.1 rfl)
  clear hy2
  go_wp2_with fail
  refine (dev_now (Hd.out.on hB2) Hs.out Hn.out).mono ?_
  rintro e w3 ⟨⟨b, fs3, rfl, hF, hp3⟩, hb3⟩
  have hB3 : Below w.heap.size w w3 := hB2.trans (hb3.mono hB2.size)
  have bz3 := bz2.below hb3
  have hF' : FM w3 (Old w.heap.size) b (n + m) fs3 := hF.more fun j _ hj => Nat.lt_of_lt_of_le hj hB2.size
  have Hcells := Lib.hid (show ∀ W, Below w3.heap.size w3 W → Below w3.heap.size w3 W ∧ W.cell? ⟨z, 2, none⟩ = some (.int .i64 q) from fun W hW => by
    obtain ⟨⟨_, _, a2, _⟩, _⟩ := box5 (bz3.below hW)
    exact ⟨hW, a2⟩)
  have HF := Lib.hid hF'
  have Hp3 := Lib.hid hp3
  have HB3 := Lib.hid hB3
  have hsz : sizeP (fs3.map FileM.pure) ≤ 4611686018427387904 := by rw [hp3]; exact size_now Hs.out
  obtain ⟨S, hS⟩ : ∃ S, S = sizeP (fs3.map FileM.pure) := ⟨_, rfl⟩
  have Hsz := Lib.hid hsz
  have HS := Lib.hid hS
  clear k0 k1 k2 k3 k4 hF hF' hp3 hb3 hB2 bz2 bz3 hB3 hsz hS
  go_wp2_with fail
  go_region_held3 (fun W => Below w3.heap.size w3 W ∧ W.cell? ⟨z, 2, none⟩ = some (.int .i64 q))
    (exact Hcells.out _ (by first | exact Below.refl _ _ | exact (Below.refl _ _).drew | assumption | exact And.left (by assumption)))
    (first
      | (go_at_call 51; (with_reducible refine (used_held2 (w := w3) HF.out (Below.refl _ _).drew Hsz.out).mono ?_); rintro e w4 ⟨rfl, hS4⟩; rw [← HS.out]))
  have HS4 := Lib.hid hS4
  clear hS4
  have Hu := Lib.hid (show usedP ⟨fl, qu, q, u, dd⟩ = S by rw [HS.out, Hp3.out]; rfl)
  by_cases h4 : q < (S : Int)
  · have t4 : decide (q < (S : Int)) = true := decide_eq_true h4
    have He := Lib.hid (Hno.out fun h => by have := (Hr.out.1 h).2.2.2.2.2; rw [Hu.out] at this; have h5 : (S : Int) ≤ q := this; omega)
    go_wp2_with fail
    go_ret2
    exact ⟨.inl ⟨He.out, rfl⟩, HB3.out.trans (HS4.out.mono HB3.out.size)⟩
  · have t4 : decide (q < (S : Int)) = false := decide_eq_false h4
    have He := Lib.hid (Hr.out.2 ⟨Hy1.out, Hy2.out, by have := Hlq.out; show qu.length ≤ 400; omega, by show 0 ≤ q; omega, by show 0 ≤ u; omega, by rw [Hu.out]; show (S : Int) ≤ q; omega⟩)
    go_wp2_with fail
    go_ret2
    exact ⟨.inr ⟨He.out, b, fs3, rfl, HF.out.below HS4.out, Hp3.out⟩, HB3.out.trans (HS4.out.mono HB3.out.size)⟩

set_option maxRecDepth 100000 in
set_option maxHeartbeats 1000000 in
theorem dev_right {w : World} {d : DiskP} {A : Option Addr} {n c : Nat} {B : Option Addr} {m k : Nat} (h : DAt w d A n c B m k) (hs : Small d) (hn : Nms d) :
    Calls Try.prog 17 #[.agg #[.slice A n c, .slice B m k, .int .i64 d.quota, .int .i64 d.fuse, .bool d.dead]] w fun e w' => e = .returned (.bool (rightP d)) ∧ Below w.heap.size w w' := by
  obtain ⟨fl, qu, q, u, dd⟩ := d
  simp only
  have Hs := Lib.hid hs
  have Hn := Lib.hid hn
  clear hs hn
  go_enter Try.func17, Try.ntmps17
  go_wp2_with fail
  have hB0 : Below w.heap.size w (w.alloc (.cells #[.slice A n c, .slice B m k, .int .i64 q, .int .i64 u, .bool dd] 25)) := (Below.refl _ _).alloc (Nat.le_refl _) _
  refine (dev_rightNow (h.on hB0) Hs.out Hn.out).mono ?_
  rintro e w1 ⟨⟨hr, rfl⟩ | ⟨hr, b, fs1, rfl, _, _⟩, hb1⟩
  · have He := Lib.hid hr
    have Hb := Lib.hid (hB0.trans (hb1.mono hB0.size))
    clear hr hb1 hB0 h
    go_wp2_with fail
    go_ret
    exact ⟨by rw [He.out]; rfl, Hb.out⟩
  · have He := Lib.hid hr
    have Hb := Lib.hid (hB0.trans (hb1.mono hB0.size))
    clear hr hb1 hB0 h
    go_wp2_with fail
    go_ret
    exact ⟨by rw [He.out]; rfl, Hb.out⟩

set_option maxRecDepth 100000 in
set_option maxHeartbeats 1000000 in
theorem dev_usedD {w : World} {d : DiskP} {A : Option Addr} {n c : Nat} {B : Option Addr} {m k : Nat} (h : DAt w d A n c B m k) (hs : Small d) (hn : Nms d) :
    Calls Try.prog 25 #[.agg #[.slice A n c, .slice B m k, .int .i64 d.quota, .int .i64 d.fuse, .bool d.dead]] w fun e w' => e = .returned (.int .i64 (usedP d : Nat)) ∧ Below w.heap.size w w' := by
  obtain ⟨fl, qu, q, u, dd⟩ := d
  simp only
  have Hs := Lib.hid hs
  have Hn := Lib.hid hn
  clear hs hn
  go_enter Try.func25, Try.ntmps25
  go_wp2_with fail
  have hB0 : Below w.heap.size w (w.alloc (.cells #[.slice A n c, .slice B m k, .int .i64 q, .int .i64 u, .bool dd] 25)) := (Below.refl _ _).alloc (Nat.le_refl _) _
  refine (dev_now (h.on hB0) Hs.out Hn.out).mono ?_
  rintro e w1 ⟨⟨b, fs1, rfl, hF, hp⟩, hb1⟩
  have HF := Lib.hid hF
  have Hp := Lib.hid hp
  have hB1 := hB0.trans (hb1.mono hB0.size)
  have HB1 := Lib.hid hB1
  clear hF hp hb1 hB0 h hB1
  go_wp2_with fail
  refine (dev_used HF.out (by rw [Hp.out]; exact size_now Hs.out)).mono ?_
  rintro e w2 ⟨rfl, hb2⟩
  go_wp2_with fail
  go_ret
  exact ⟨by rw [Hp.out]; rfl, HB1.out.trans (hb2.mono HB1.out.size)⟩

set_option maxRecDepth 100000 in
set_option maxHeartbeats 1000000 in
theorem dev_read {w : World} {d : DiskP} {A : Option Addr} {n c : Nat} {B : Option Addr} {m k : Nat} (s : ByteArray) (h : DAt w d A n c B m k) (hs : Small d) (hn : Nms d) (hsz : s.size ≤ maxLen) :
    Calls Try.prog 14 #[.agg #[.slice A n c, .slice B m k, .int .i64 d.quota, .int .i64 d.fuse, .bool d.dead], .string s] w fun e w' => ReadOut (readP d s).1 (readP d s).2 e w' ∧ Below w.heap.size w w' := by
  obtain ⟨fl, qu, q, u, dd⟩ := d
  simp only
  have Hs := Lib.hid hs
  have Hn := Lib.hid hn
  have Hsz := Lib.hid hsz
  clear hs hn hsz
  go_enter Try.func14, Try.ntmps14
  go_wp2_with fail
  have hB0 : Below w.heap.size w (w.alloc (.cells #[.slice A n c, .slice B m k, .int .i64 q, .int .i64 u, .bool dd] 25)) := (Below.refl _ _).alloc (Nat.le_refl _) _
  refine (dev_now (h.on hB0) Hs.out Hn.out).mono ?_
  rintro e w1 ⟨⟨b, fs1, rfl, hF, hp⟩, hb1⟩
  have r0 := hF.look_ok Hsz.out
  have HF := Lib.hid hF
  have hB1 := hB0.trans (hb1.mono hB0.size)
  have HB1 := Lib.hid hB1
  have hlk := look_pure fs1 s
  rw [hp] at hlk
  clear hp hb1 hB0 h hB1
  cases hl : lookM fs1 s with
  | none =>
    have e1 : lookV fs1 s = .slice none 0 0 := by unfold lookV; rw [hl]
    rw [e1, hl] at r0
    simp only [Option.isSome_none] at r0
    rw [hl] at hlk
    have He := Lib.hid (read_none hlk)
    clear hl e1 hlk hF
    go_wp2_with fail
    go_ret2
    rw [He.out]
    exact ⟨⟨none, 0, 0, rfl, Nat.le_refl _, Rd.nil⟩, HB1.out⟩
  | some f =>
    have e1 : lookV fs1 s = .slice f.p.A f.p.n f.p.c := by unfold lookV; rw [hl]; rfl
    rw [e1, hl] at r0
    simp only [Option.isSome_some] at r0
    rw [hl] at hlk
    have He := Lib.hid (read_some hlk)
    have Hok := Lib.hid (hF.own f (look_mem hl).1).ok
    clear hl e1 hlk hF
    go_wp2_with fail
    go_ret2
    rw [He.out]
    exact ⟨⟨_, _, _, rfl, Hok.out.room, Hok.out.rd⟩, HB1.out⟩

end Go.Proofs.Ytmfiopopiikbmaa
