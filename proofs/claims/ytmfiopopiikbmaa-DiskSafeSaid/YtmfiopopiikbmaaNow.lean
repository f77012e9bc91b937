/-
  moultref04.Now, Used, Read, New, fine, burnt: their contracts.
-/
import Derived.Test.YtmfiopopiikbmaaOwn
namespace Go.Proofs.Ytmfiopopiikbmaa
open Go.RowKit

/-- A disk, by its five fields. -/
abbrev diskV (A : Option Addr) (n c : Nat) (B : Option Addr) (m k : Nat) (q u : Int) (dd : Bool) : Value := .agg #[.slice A n c, .slice B m k, .int .i64 q, .int .i64 u, .bool dd]
/-- The value is the disk d, in memory. -/
structure DAt (w : World) (d : DiskP) (A : Option Addr) (n c : Nat) (B : Option Addr) (m k : Nat) : Prop where
  nc : n ≤ c
  oc : m ≤ k
  files : ∃ fs, Fs w w.heap.size A n fs ∧ fs.map FileM.pure = d.files
  queue : ∃ os, Os w w.heap.size B m os ∧ os.map OpM.pure = d.queue
theorem DAt.on {w w' : World} {d : DiskP} {A : Option Addr} {n c : Nat} {B : Option Addr} {m k : Nat} (h : DAt w d A n c B m k) (hb : Below w.heap.size w w') : DAt w' d A n c B m k := by
  obtain ⟨fs, hf, h1⟩ := h.files
  obtain ⟨os, ho, h2⟩ := h.queue
  exact ⟨h.nc, h.oc, ⟨fs, hf.on hb hb.size, h1⟩, ⟨os, ho.on hb hb.size, h2⟩⟩
/-- A disk that is not great: what the walks want of it. -/
structure Small (d : DiskP) : Prop where
  files : d.files.length ≤ 1000
  queue : d.queue.length ≤ 1000
  fbytes : Bnd 1048576 d.files
  obytes : ∀ o ∈ d.queue, o.bytes.length ≤ 1048576
theorem DAt.len {w : World} {d : DiskP} {A : Option Addr} {n c : Nat} {B : Option Addr} {m k : Nat} (h : DAt w d A n c B m k) : d.files.length = n ∧ d.queue.length = m := by
  obtain ⟨fs, hf, h1⟩ := h.files
  obtain ⟨os, ho, h2⟩ := h.queue
  rw [← h1, ← h2, List.length_map, List.length_map, hf.len, ho.len]
  exact ⟨rfl, rfl⟩
theorem fbytes_m {w : World} {B : Nat} {A : Option Addr} {n : Nat} {fs : List FileM} (hf : Fs w B A n fs) {l : List FileP} (h1 : fs.map FileM.pure = l) (h : Bnd 1048576 l) : ∀ f ∈ fs, f.p.n ≤ 1048576 := by
  rw [← h1] at h
  exact bnd_mem hf h
theorem obytes_m {w : World} {B : Nat} {A : Option Addr} {n : Nat} {os : List OpM} (ho : Os w B A n os) {l : List OpP} (h1 : os.map OpM.pure = l) (h : ∀ o ∈ l, o.bytes.length ≤ 1048576) : ∀ o ∈ os, o.p.n ≤ 1048576 := fun o hm => by
  have h2 := h o.pure (by rw [← h1]; exact List.mem_map_of_mem hm)
  have h3 := (ho.ok o hm).1.rd.1
  rw [← h3]
  exact h2

/-- The cells of a disk's box, none of them frozen. -/
theorem box5 {W : World} {z : Nat} {t : TypeId} {a b c d e : Value} (h : W.heap[z]? = some (.cells #[a, b, c, d, e] t (0, 0))) :
    (W.cell? ⟨z, 0, none⟩ = some a ∧ W.cell? ⟨z, 1, none⟩ = some b ∧ W.cell? ⟨z, 2, none⟩ = some c ∧ W.cell? ⟨z, 3, none⟩ = some d ∧ W.cell? ⟨z, 4, none⟩ = some e) ∧
    (W.frozen? ⟨z, 0, none⟩ = false ∧ W.frozen? ⟨z, 1, none⟩ = false ∧ W.frozen? ⟨z, 2, none⟩ = false ∧ W.frozen? ⟨z, 3, none⟩ = false ∧ W.frozen? ⟨z, 4, none⟩ = false) := by
  refine ⟨⟨?_, ?_, ?_, ?_, ?_⟩, ?_, ?_, ?_, ?_, ?_⟩
  all_goals first
    | (rw [cell_of_row _ _ _ _ _ _ h]; simp)
    | simp [World.frozen?, h]
/-- Behind stores into a box that lies ahead of what is read, nothing of it has turned. -/
theorem DAt.from_ {w w' : World} {d : DiskP} {A : Option Addr} {n c : Nat} {B : Option Addr} {m k : Nat} (h : DAt w d A n c B m k) (hb : Below w.heap.size w w') : DAt w' d A n c B m k := h.on hb

/-- A disk in memory of the call's own, from lo on: its files lie ahead of lim, its queue is a row of the call's own behind. -/
def DNew (lo : Nat) (w : World) (d : DiskP) (A : Option Addr) (n c : Nat) (B : Option Addr) (m k : Nat) : Prop :=
  n ≤ c ∧ m ≤ k ∧ ∃ lim fs os, lo ≤ lim ∧ lim ≤ w.heap.size ∧ fs.map FileM.pure = d.files ∧ os.map OpM.pure = d.queue ∧ (∀ o ∈ os, 0 ≤ o.kind ∧ o.kind ≤ 255) ∧
    (∀ W, lim ≤ W.heap.size → (∀ b, lo ≤ b → b < lim → W.heap[b]? = w.heap[b]?) → Fs W W.heap.size A n fs) ∧ Mine 4 OpM.cs OpM.p 28 lim w (.slice B m k) m os
theorem DNew.kept {lo : Nat} {w w' : World} {d : DiskP} {A : Option Addr} {n c : Nat} {B : Option Addr} {m k : Nat} (h : DNew lo w d A n c B m k) (hk : Kept lo w w') : DNew lo w' d A n c B m k := by
  obtain ⟨h1, h2, lim, fs, os, l1, l2, e1, e2, hkd, hF, hM⟩ := h
  refine ⟨h1, h2, lim, fs, os, l1, Nat.le_trans l2 hk.1, e1, e2, hkd, fun W hW hs => hF W hW (fun b a c => (hs b a c).trans (hk.2 b a (by omega))), hM.kept ⟨hk.1, fun b a c => hk.2 b (by omega) c⟩⟩
theorem DNew.now {lo : Nat} {w : World} {d : DiskP} {A : Option Addr} {n c : Nat} {B : Option Addr} {m k : Nat} (h : DNew lo w d A n c B m k) : DAt w d A n c B m k := by
  obtain ⟨h1, h2, lim, fs, os, l1, l2, e1, e2, hkd, hF, hM⟩ := h
  exact ⟨h1, h2, ⟨fs, hF w l2 (fun _ _ _ => rfl), e1⟩, ⟨os, hM.os hkd, e2⟩⟩
/-- Own: the same disk, in memory of its own. -/
theorem own_c {w : World} {d : DiskP} {A : Option Addr} {n c : Nat} {B : Option Addr} {m k : Nat} (h : DAt w d A n c B m k) (hs : Small d) :
    Calls Try.prog 34 #[.agg #[.slice A n c, .slice B m k, .int .i64 d.quota, .int .i64 d.fuse, .bool d.dead]] w fun e w' =>
      (∃ A' c' B' k', e = .returned (.agg #[.slice A' n c', .slice B' m k', .int .i64 d.quota, .int .i64 d.fuse, .bool d.dead]) ∧ DNew w.heap.size w' d A' n c' B' m k') ∧ Below w.heap.size w w' := by
  obtain ⟨fs, hf, h1⟩ := h.files
  obtain ⟨os, ho, h2⟩ := h.queue
  have hl := h.len
  refine (own_any A n c fs B m k os d.quota d.fuse d.dead w hf ho (by rw [← hl.1]; exact hs.files) (by rw [← hl.2]; exact hs.queue) (fbytes_m hf h1 hs.fbytes) (obytes_m ho h2 hs.obytes)).mono ?_
  rintro e w' ⟨⟨A', c', fs', B', k', os', rfl, hc, hk, ⟨lim, l1, l2, hF, hM⟩, e1, e2⟩, hB⟩
  refine ⟨⟨A', c', B', k', rfl, hc, hk, lim, fs', os', l1, l2, e1.trans h1, e2.trans h2, ?_, hF, hM⟩, hB⟩
  intro o ho'
  have h3 : o.pure ∈ os.map OpM.pure := by rw [← e2]; exact List.mem_map_of_mem ho'
  obtain ⟨o1, ho1, h4⟩ := List.mem_map.1 h3
  have h5 := (ho.ok o1 ho1).2
  have h6 : o1.kind = o.kind := congrArg OpP.kind h4
  rw [← h6]
  exact h5

set_option maxRecDepth 100000 in
set_option maxHeartbeats 1000000 in
theorem now_any {w : World} {d : DiskP} {A : Option Addr} {n c : Nat} {B : Option Addr} {m k : Nat} (h : DAt w d A n c B m k) (hs : Small d) :
    Calls Try.prog 24 #[.agg #[.slice A n c, .slice B m k, .int .i64 d.quota, .int .i64 d.fuse, .bool d.dead]] w fun e w' => ToldP (nowP d) e w' ∧ Below w.heap.size w w' := by
  have Hs := Lib.hid hs
  have hl := h.len
  have hn : n ≤ 1000 := by rw [← hl.1]; exact hs.files
  have hm : m ≤ 1000 := by rw [← hl.2]; exact hs.queue
  clear hl hs
  go_enter Try.func24, Try.ntmps24
  go_wp2_with fail
  obtain ⟨z, hz⟩ : ∃ z, z = w.heap.size := ⟨_, rfl⟩
  obtain ⟨w0, hw0⟩ : ∃ w0, w0 = w.alloc (.cells #[.slice A n c, .slice B m k, .int .i64 d.quota, .int .i64 d.fuse, .bool d.dead] 25) := ⟨_, rfl⟩
  have hB0 : Below w.heap.size w w0 := by rw [hw0]; exact (Below.refl _ _).alloc (Nat.le_refl _) _
  have hzc : w0.heap[z]? = some (.cells #[.slice A n c, .slice B m k, .int .i64 d.quota, .int .i64 d.fuse, .bool d.dead] 25 (0, 0)) := by rw [hw0, hz]; exact World.alloc_heap_new w _
  have hzl : z < w0.heap.size := by rw [hw0, hz]; simp
  rw [← hw0, ← hz]
  have Hz := Lib.hid hz
  clear hw0 hz
  refine (own_c (h.on hB0) Hs.out).mono ?_
  rintro e w1 ⟨⟨A1, c1, B1, k1, rfl, h1⟩, hb1⟩
  obtain ⟨⟨k0, k1', k2, k3, k4⟩, g0, g1, g2, g3, g4⟩ := box5 ((hb1.block z hzl).trans hzc)
  have hB1 : Below w.heap.size w w1 := hB0.trans (hb1.mono hB0.size)
  have hzw : w.heap.size ≤ z := by rw [Hz.out]; exact Nat.le_refl _
  have hK := (((((Kept.refl w0.heap.size w1).set hzl (.slice A1 n c1) (i := 0)).set hzl (.slice B1 m k1) (i := 1)).set hzl (.int .i64 d.quota) (i := 2)).set hzl (.int .i64 d.fuse) (i := 3)).set hzl (.bool d.dead) (i := 4)
  have hB2 := ((((hB1.setCell (p := ⟨z, 0, none⟩) hzw (.slice A1 n c1)).setCell (p := ⟨z, 1, none⟩) hzw (.slice B1 m k1)).setCell (p := ⟨z, 2, none⟩) hzw (.int .i64 d.quota)).setCell (p := ⟨z, 3, none⟩) hzw (.int .i64 d.fuse)).setCell (p := ⟨z, 4, none⟩) hzw (.bool d.dead)
  obtain ⟨⟨fs, hf, e1⟩, ⟨os, ho, e2⟩⟩ := (⟨(h1.kept hK).now.files, (h1.kept hK).now.queue⟩ : _ ∧ _)
  have Hf := Lib.hid (⟨hf, ho⟩ : _ ∧ _)
  have Hb := Lib.hid hB2
  have He := Lib.hid (⟨fbytes_m hf e1 Hs.out.fbytes, obytes_m ho e2 Hs.out.obytes⟩ : _ ∧ _)
  have Hn := Lib.hid (show allP (fs.map FileM.pure) (os.map OpM.pure) = nowP d by rw [e1, e2]; rfl)
  clear hK hB2 hf ho e1 e2 h1
  go_wp2_with fail
  refine (all_any A1 n c1 fs B1 m k1 os _ Hf.out.1 Hf.out.2 hn hm He.out.1 He.out.2).mono ?_
  rintro e w3 ⟨⟨A3, n3, c3, fs3, rfl, hc3, hf3, hp3⟩, hb3⟩
  go_wp2_with fail
  go_ret
  exact ⟨⟨A3, n3, c3, fs3, rfl, hc3, hf3, by rw [hp3, Hn.out]⟩, Hb.out.trans (hb3.mono Hb.out.size)⟩

end Go.Proofs.Ytmfiopopiikbmaa
