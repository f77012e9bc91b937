/-
  moultref04.Do: its contract.
-/
import Derived.Test.YtmfiopopiikbmaaSync
namespace Go.Proofs.Ytmfiopopiikbmaa
open Go.RowKit

theorem do_wrong {d : DiskP} {o : OpP} (h : rightP d = false) : doP d o = (d, 2) := by unfold doP; rw [if_pos h]
theorem do_dead {d : DiskP} {o : OpP} (h : rightP d = true) (hd : d.dead = true) : doP d o = (d, 40) := by unfold doP; rw [if_neg (by rw [h]; decide), if_pos hd]
theorem do_kind {d : DiskP} {o : OpP} (h : rightP d = true) (hd : d.dead = false) (hf : fineP o = false) : doP d o = (d, 2) := by
  unfold doP; rw [if_neg (by rw [h]; decide), if_neg (by rw [hd]; decide), if_pos hf]
theorem do_file {d : DiskP} {o : OpP} (h : rightP d = true) (hd : d.dead = false) (hf : fineP o = true) (h1 : o.kind ≠ 1) (h2 : findG FileP.name (nowP d) o.name < 0) : doP d o = (d, 42) := by
  unfold doP; rw [if_neg (by rw [h]; decide), if_neg (by rw [hd]; decide), if_neg (by rw [hf]; decide), if_pos ⟨h1, h2⟩]
theorem do_full {d : DiskP} {o : OpP} (h : rightP d = true) (hd : d.dead = false) (hf : fineP o = true) (h1 : ¬ (o.kind ≠ 1 ∧ findG FileP.name (nowP d) o.name < 0)) (h2 : (o.kind = 2 ∧ d.quota < (usedP d : Int) + o.bytes.length) ∨ 400 ≤ d.queue.length) : doP d o = (d, 41) := by
  unfold doP; rw [if_neg (by rw [h]; decide), if_neg (by rw [hd]; decide), if_neg (by rw [hf]; decide), if_neg h1, if_pos h2]
theorem do_done {d : DiskP} {o : OpP} (h : rightP d = true) (hd : d.dead = false) (hf : fineP o = true) (h1 : ¬ (o.kind ≠ 1 ∧ findG FileP.name (nowP d) o.name < 0)) (h2 : ¬ ((o.kind = 2 ∧ d.quota < (usedP d : Int) + o.bytes.length) ∨ 400 ≤ d.queue.length)) :
    doP d o = (burntP { d with queue := d.queue ++ [o] }, 0) := by
  unfold doP; rw [if_neg (by rw [h]; decide), if_neg (by rw [hd]; decide), if_neg (by rw [hf]; decide), if_neg h1, if_neg h2]
theorem used_bound {d : DiskP} (hs : Small d) : usedP d ≤ 2000 * 1099511627776 := by
  have h := now_small hs
  have key : ∀ (l : List FileP), Bnd 1099511627776 l → sizeP l ≤ l.length * 1099511627776 := by
    intro l
    induction l with
    | nil => intro _; simp [sizeP]
    | cons f r ih =>
      intro hb
      have h1 := ih (fun g hg => hb g (by simp [hg]))
      have h2 := hb f (by simp)
      simp only [sizeP, List.map_cons, List.sum_cons, List.length_cons] at h1 ⊢
      omega
  exact Nat.le_trans (key _ h.2) (Nat.mul_le_mul_right _ h.1)
/-- Block y holds an operation. -/
def Box4 (W : World) (y : Nat) (o : OpM) : Prop := W.heap[y]? = some (.cells #[.int .u8 o.kind, .string o.name, .string o.to, .slice o.p.A o.p.n o.p.c] 28 (0, 0))
theorem box4 {W : World} {y : Nat} {o : OpM} (h : Box4 W y o) :
    (W.cell? ⟨y, 0, none⟩ = some (.int .u8 o.kind) ∧ W.cell? ⟨y, 1, none⟩ = some (.string o.name) ∧ W.cell? ⟨y, 2, none⟩ = some (.string o.to) ∧ W.cell? ⟨y, 3, none⟩ = some (.slice o.p.A o.p.n o.p.c)) ∧ W.frozen? ⟨y, 3, none⟩ = false := by
  refine ⟨⟨?_, ?_, ?_, ?_⟩, ?_⟩
  all_goals first
    | (rw [cell_of_row _ _ _ _ _ _ h]; simp)
    | simp [World.frozen?, show W.heap[y]? = _ from h]
theorem Box4.below {W W' : World} {y : Nat} {o : OpM} (h : Box4 W y o) (hb : Below W.heap.size W W') : Box4 W' y o := (hb.block y (Array.getElem?_eq_some_iff.1 h).1).trans h
theorem put5_box4 {W : World} {z y : Nat} {o : OpM} (h : Box4 W y o) (hne : y ≠ z) (a b c d e : Value) : Box4 (put5 W z a b c d e) y o := by
  have key : ∀ {W : World} {i : Nat} {v : Value}, Box4 W y o → Box4 (W.setCell ⟨z, i, none⟩ v) y o := fun h => (Below.heap_setCell _ _ _ y (by simpa using hne)).trans h
  exact key (key (key (key (key h))))

/-- Behind an append onto the disk's queue. -/
theorem push_new {lo lim : Nat} {w w' : World} {d : DiskP} {A : Option Addr} {n c : Nat} {B : Option Addr} {m k : Nat} {fs : List FileM} {os : List OpM} {o : OpM} {v' : Value} (hnc : n ≤ c) (l1 : lo ≤ lim) (l2 : lim ≤ w.heap.size) (e1 : fs.map FileM.pure = d.files) (e2 : os.map OpM.pure = d.queue)
    (hkd : ∀ o ∈ os, 0 ≤ o.kind ∧ o.kind ≤ 255) (hk : 0 ≤ o.kind ∧ o.kind ≤ 255) (hF : ∀ W, lim ≤ W.heap.size → (∀ b, lo ≤ b → b < lim → W.heap[b]? = w.heap[b]?) → Fs W W.heap.size A n fs) (hM : Mine 4 OpM.cs OpM.p 28 lim w (.slice B m k) m os)
    (ho : o.p.Ok w w.heap.size) (hoff : o.p.Off lim (Value.slice B m k).ownBlock) (hL : Longer lim 28 4 w (.slice B m k) (m + 1) (os.flatMap OpM.cs ++ OpM.cs o) v' w') :
    ∃ B' k', v' = .slice B' (m + 1) k' ∧ DNew lo w' { d with queue := d.queue ++ [o.pure] } A n c B' (m + 1) k' := by
  have hM2 := hM.push ho hoff hL
  obtain ⟨B', k', rfl, hk'⟩ := own_slice hM2.own
  refine ⟨B', k', rfl, hnc, hk', lim, fs, os ++ [o], l1, Nat.le_trans l2 hL.2.1.size, e1, by rw [List.map_append, e2]; rfl, fun x hx => ?_, fun W hW hs => hF W hW (fun b a c => (hs b a c).trans ?_), hM2⟩
  · rcases List.mem_append.1 hx with hx | hx
    · exact hkd x hx
    · obtain rfl := List.mem_singleton.1 hx
      exact hk
  · refine hL.2.1.block b (by omega) (fun e => ?_)
    have := (hM.own.lt b e.symm).1
    omega
theorem DNew.from_ {lo : Nat} {w w' : World} {d : DiskP} {A : Option Addr} {n c : Nat} {B : Option Addr} {m k : Nat} (h : DNew lo w d A n c B m k) (hb : Below w.heap.size w w') : DNew lo w' d A n c B m k := h.kept ((Kept.refl _ _).below hb)
theorem burnt_at {W : World} {d : DiskP} {A : Option Addr} {n c : Nat} {B : Option Addr} {m k : Nat} (hd : DAt W d A n c B m k) : DAt W (burntP d) A n c B m k := by
  unfold burntP
  split <;> exact ⟨hd.nc, hd.oc, hd.files, hd.queue⟩
theorem burnt_quota (d : DiskP) : (burntP d).quota = d.quota := by unfold burntP; split <;> rfl

set_option maxRecDepth 100000 in
set_option maxHeartbeats 4000000 in
theorem do_any {w : World} {fl : List FileP} {qu : List OpP} {q u : Int} {dd : Bool} {A : Option Addr} {n c : Nat} {B : Option Addr} {m k : Nat} (o : OpM) (h : DAt w ⟨fl, qu, q, u, dd⟩ A n c B m k) (hs : Small ⟨fl, qu, q, u, dd⟩) (hu : u ≤ 9223372036854775807)
    (ho : o.p.Ok w w.heap.size) (hok : 0 ≤ o.kind ∧ o.kind ≤ 255) (hon : o.p.n ≤ 1048576) :
    Calls Try.prog 11 #[.agg #[.slice A n c, .slice B m k, .int .i64 q, .int .i64 u, .bool dd], .agg #[.int .u8 o.kind, .string o.name, .string o.to, .slice o.p.A o.p.n o.p.c]] w fun e w' => DOut (doP ⟨fl, qu, q, u, dd⟩ o.pure).1 (doP ⟨fl, qu, q, u, dd⟩ o.pure).2 e w' ∧ Below w.heap.size w w' := by
  obtain ⟨i1, hi, hz0, hz1, hz2⟩ := info_partsV info_u8
  obtain ⟨i3, hk, hx0, hx1, hx2⟩ := info_partsV info_op
  have Hs := Lib.hid hs
  have hl := h.len
  have hm : m ≤ 1000 := by rw [← hl.2]; exact hs.queue
  have Hl := Lib.hid hl
  clear hs hl
  go_enter Try.func11, Try.ntmps11
  go_wp2_with fail
  obtain ⟨z, hz⟩ : ∃ z, z = w.heap.size := ⟨_, rfl⟩
  obtain ⟨wa, hwa⟩ : ∃ wa, wa = w.alloc (.cells #[.slice A n c, .slice B m k, .int .i64 q, .int .i64 u, .bool dd] 25) := ⟨_, rfl⟩
  obtain ⟨wb, hwb⟩ : ∃ wb, wb = wa.alloc (.cells #[.int .u8 o.kind, .string o.name, .string o.to, .slice o.p.A o.p.n o.p.c] 28) := ⟨_, rfl⟩
  obtain ⟨w0, hw0⟩ : ∃ w0, w0 = wb.alloc (.cells #[.slice none 0 0, .slice none 0 0, .int .i64 0, .int .i64 0, .bool false] 25) := ⟨_, rfl⟩
  have hsa : wa.heap.size = z + 1 := by rw [hwa, hz]; simp
  have hsb : wb.heap.size = z + 2 := by rw [hwb]; simp [hsa]
  have hs0 : w0.heap.size = z + 3 := by rw [hw0]; simp [hsb]
  have hBa : Below w.heap.size w wa := by rw [hwa]; exact (Below.refl _ _).alloc (Nat.le_refl _) _
  have hBb : Below w.heap.size w wb := by rw [hwb]; exact hBa.alloc hBa.size _
  have hB0 : Below w.heap.size w w0 := by rw [hw0]; exact hBb.alloc hBb.size _
  have bz0 : Box5 w0 z 25 (.slice A n c) (.slice B m k) (.int .i64 q) (.int .i64 u) (.bool dd) := by
    have h1 : Box5 wa z 25 (.slice A n c) (.slice B m k) (.int .i64 q) (.int .i64 u) (.bool dd) := by rw [hwa, hz]; exact World.alloc_heap_new w _
    have h2 := h1.below (W' := wb) (by rw [hwb]; exact (Below.refl _ _).alloc (Nat.le_refl _) _)
    exact h2.below (by rw [hw0]; exact (Below.refl _ _).alloc (Nat.le_refl _) _)
  have by0 : Box4 w0 (z + 1) o := by
    have h1 : Box4 wb (z + 1) o := by rw [hwb, ← hsa]; exact World.alloc_heap_new wa _
    exact h1.below (by rw [hw0]; exact (Below.refl _ _).alloc (Nat.le_refl _) _)
  have br0 : Box5 w0 (z + 2) 25 (.slice none 0 0) (.slice none 0 0) (.int .i64 0) (.int .i64 0) (.bool false) := by rw [hw0, ← hsb]; exact World.alloc_heap_new wb _
  have he : w0 = ((w.alloc (.cells #[.slice A n c, .slice B m k, .int .i64 q, .int .i64 u, .bool dd] 25)).alloc (.cells #[.int .u8 o.kind, .string o.name, .string o.to, .slice o.p.A o.p.n o.p.c] 28)).alloc (.cells #[.slice none 0 0, .slice none 0 0, .int .i64 0, .int .i64 0, .bool false] 25) := by rw [hw0, hwb, hwa]
  rw [← he, ← hz]
  have hzw : w.heap.size ≤ z := by omega
  have hzw1 : w.heap.size ≤ z + 1 := by omega
  have hzw2 : w.heap.size ≤ z + 2 := by omega
  have hzz : z ≠ z + 2 := by omega
  have hzy : z + 1 ≠ z := by omega
  have ho0 := ho.on hB0 hB0.size
  have H0 := Lib.hid hs0
  clear hwa hwb hw0 he hz hsa hsb hs0 hBa hBb ho
  refine (own_c (d := ⟨fl, qu, q, u, dd⟩) (h.on hB0) Hs.out).mono ?_
  rintro e w1 ⟨⟨A1, c1, B1, k1, rfl, h1⟩, hb1⟩
  have hB1 : Below w.heap.size w w1 := hB0.trans (hb1.mono hB0.size)
  have bz1 := bz0.below hb1
  have by1 := by0.below hb1
  have br1 := br0.below hb1
  have ho1 := ho0.on hb1 hb1.size
  clear h hB0 bz0 by0 br0 hb1 ho0
  obtain ⟨⟨k0, k1', k2, k3, k4⟩, g0, g1, g2, g3, g4⟩ := box5 bz1
  go_wp2_with fail
  obtain ⟨w2, hw2⟩ : ∃ w2, w2 = put5 w1 z (.slice A1 n c1) (.slice B1 m k1) (.int .i64 q) (.int .i64 u) (.bool dd) := ⟨_, rfl⟩
  have hw2' : w2 = ((((w1.setCell ⟨z, 0, none⟩ (.slice A1 n c1)).setCell ⟨z, 1, none⟩ (.slice B1 m k1)).setCell ⟨z, 2, none⟩ (.int .i64 q)).setCell ⟨z, 3, none⟩ (.int .i64 u)).setCell ⟨z, 4, none⟩ (.bool dd) := hw2
  have hB2 : Below w.heap.size w w2 := by rw [hw2]; exact put5_below hB1 hzw _ _ _ _ _
  have bz2 : Box5 w2 z 25 (.slice A1 n c1) (.slice B1 m k1) (.int .i64 q) (.int .i64 u) (.bool dd) := by rw [hw2]; exact put5_box bz1 _ _ _ _ _
  have by2 : Box4 w2 (z + 1) o := by rw [hw2]; exact put5_box4 by1 hzy _ _ _ _ _
  have br2 : Box5 w2 (z + 2) 25 (.slice none 0 0) (.slice none 0 0) (.int .i64 0) (.int .i64 0) (.bool false) := by rw [hw2]; exact put5_other br1 (Ne.symm hzz) _ _ _ _ _
  have d2 : DNew w0.heap.size w2 ⟨fl, qu, q, u, dd⟩ A1 n c1 B1 m k1 := by rw [hw2]; exact h1.kept (put5_kept (Kept.refl _ _) (by have := H0.out; omega) _ _ _ _ _)
  have ho2 : o.p.Ok w2 w2.heap.size := by
    rw [hw2, put5_size]
    exact ((((ho1.apart bz1.noData).apart (bz1.s0 _).noData).apart ((bz1.s0 _).s1 _).noData).apart (((bz1.s0 _).s1 _).s2 _).noData).apart ((((bz1.s0 _).s1 _).s2 _).s3 _).noData
  rw [← hw2']
  clear hw2 hw2' bz1 by1 br1 h1 hB1 ho1 k0 k1' k2 k3 k4 g0 g1 g2 g3 g4
  refine (right_any (d := ⟨fl, qu, q, u, dd⟩) d2.now Hs.out).mono ?_
  rintro e w3 ⟨rfl, hb3⟩
  have hB3 : Below w.heap.size w w3 := hB2.trans (hb3.mono hB2.size)
  have bz3 := bz2.below hb3
  have by3 := by2.below hb3
  have br3 := br2.below hb3
  have d3 := d2.kept ((Kept.refl _ _).below hb3)
  have ho3 := ho2.on hb3 hb3.size
  clear hB2 bz2 by2 br2 d2 hb3 ho2
  obtain ⟨⟨k0, k1', k2, k3, k4⟩, g0, g1, g2, g3, g4⟩ := box5 bz3
  obtain ⟨⟨r0, r1, r2, r3, r4⟩, t0, t1, t2, t3, t4⟩ := box5 br3
  obtain ⟨⟨y0, y1, y2, y3⟩, y4⟩ := box4 by3
  obtain ⟨bv, hbv⟩ : ∃ bv, rightP ⟨fl, qu, q, u, dd⟩ = bv := ⟨_, rfl⟩
  rw [hbv]
  have Hbv := Lib.hid hbv
  clear hbv
  cases bv
  · go_wp2_with fail
    rw [do_wrong Hbv.out]
    refine bodyPost_ret (v := .tuple #[.agg #[.slice A1 n c1, .slice B1 m k1, .int .i64 q, .int .i64 u, .bool dd], .int .i64 2]) (by simp [results, Try.results11, go_sem, *]) rfl ⟨⟨A1, n, c1, B1, m, k1, rfl, DAt.put5 br3 d3.now⟩, put5_below hB3 hzw2 _ _ _ _ _⟩
  · cases dd
    · go_wp2_with fail
      refine (fine_any o.pure _ _ hok).mono ?_
      rintro e w4 ⟨rfl, hb4⟩
      have hB4 : Below w.heap.size w w4 := hB3.trans (hb4.mono hB3.size)
      have bz4 := bz3.below hb4
      have by4 := by3.below hb4
      have br4 := br3.below hb4
      have d4 := d3.kept ((Kept.refl _ _).below hb4)
      have ho4 := ho3.on hb4 hb4.size
      clear hB3 bz3 by3 br3 d3 hb4 ho3 k0 k1' k2 k3 k4 g0 g1 g2 g3 g4 r0 r1 r2 r3 r4 t0 t1 t2 t3 t4 y0 y1 y2 y3 y4
      obtain ⟨⟨k0, k1', k2, k3, k4⟩, g0, g1, g2, g3, g4⟩ := box5 bz4
      obtain ⟨⟨r0, r1, r2, r3, r4⟩, t0, t1, t2, t3, t4⟩ := box5 br4
      obtain ⟨fv, hfv⟩ : ∃ fv, fineP o.pure = fv := ⟨_, rfl⟩
      rw [hfv]
      have Hfv := Lib.hid hfv
      clear hfv
      cases fv
      · go_wp2_with fail
        rw [do_kind Hbv.out rfl Hfv.out]
        refine bodyPost_ret (v := .tuple #[.agg #[.slice A1 n c1, .slice B1 m k1, .int .i64 q, .int .i64 u, .bool false], .int .i64 2]) (by simp [results, Try.results11, go_sem, *]) rfl ⟨⟨A1, n, c1, B1, m, k1, rfl, DAt.put5 br4 d4.now⟩, put5_below hB4 hzw2 _ _ _ _ _⟩
      · go_wp2_with fail
        refine (now_any (d := ⟨fl, qu, q, u, false⟩) d4.now Hs.out).mono ?_
        rintro e w5 ⟨⟨A5, n5, c5, fs5, rfl, hc5, hf5, hp5⟩, hb5⟩
        have hB5 : Below w.heap.size w w5 := hB4.trans (hb5.mono hB4.size)
        have bz5 := bz4.below hb5
        have by5 := by4.below hb5
        have br5 := br4.below hb5
        have d5 := d4.kept ((Kept.refl _ _).below hb5)
        have ho5 := ho4.on hb5 hb5.size
        clear hB4 bz4 by4 br4 d4 hb5 ho4 k0 k1' k2 k3 k4 g0 g1 g2 g3 g4 r0 r1 r2 r3 r4 t0 t1 t2 t3 t4
        obtain ⟨⟨k0, k1', k2, k3, k4⟩, g0, g1, g2, g3, g4⟩ := box5 bz5
        obtain ⟨⟨r0, r1, r2, r3, r4⟩, t0, t1, t2, t3, t4⟩ := box5 br5
        obtain ⟨⟨y0, y1, y2, y3⟩, y4⟩ := box4 by5
        have hsm := now_small Hs.out
        rw [← hp5, List.length_map, hf5.len] at hsm
        have hn5 : n5 ≤ 100000 := by omega
        have hub := used_bound Hs.out
        obtain ⟨U, hU⟩ : ∃ U, usedP ⟨fl, qu, q, u, false⟩ = U := ⟨_, rfl⟩
        rw [hU] at hub
        have hsq : ∀ t, Calls Try.prog 37 #[.slice A5 n5 c5] (w5.drewN t) fun e w' => e = .returned (.int .i64 (U : Nat)) ∧ w' = w5.drewN t := fun t => by
          have h1 := size_any A5 n5 c5 fs5 (w5.drewN t) (hf5.on (below_drewN (Below.refl _ _) t) (below_drewN (Below.refl w5.heap.size w5) t).size) hn5 (bnd_mem hf5 hsm.2)
          rw [hp5, show sizeP (nowP ⟨fl, qu, q, u, false⟩) = U from hU] at h1
          exact h1
        obtain ⟨X, hX⟩ : ∃ X : Int, (U : Int) + (o.p.n : Int) = X := ⟨_, rfl⟩
        have hw1 : wrap64 X = X := by unfold wrap64; omega
        have hw2 : IntKind.i64.wrap X = X := by rw [IntKind.wrap_i64]; omega
        have HX := Lib.hid (show (usedP ⟨fl, qu, q, u, false⟩ : Int) + o.pure.bytes.length = X by rw [hU, ← hX, ← ho5.rd.1]; rfl)
        have Hfind := Lib.hid (find_pure fs5 o.name)
        rw [hp5] at Hfind
        have Hq := Lib.hid (show qu.length = m from Hl.out.2)
        clear hp5 hub hU
        by_cases e1 : o.kind = 1
        · have hd1 : (o.kind != 1) = false := by simpa using e1
          have hd2 : (o.kind == 2) = false := by simp; omega
          have Hno := Lib.hid (show ¬ (o.pure.kind ≠ 1 ∧ findG FileP.name (nowP ⟨fl, qu, q, u, false⟩) o.pure.name < 0) from fun h => h.1 e1)
          have Hk2 := Lib.hid (show ¬ o.pure.kind = 2 from fun h => by have h1 : o.kind = 2 := h; omega)
          clear e1
          by_cases e3 : 400 ≤ m
          · have v1 : decide ((400 : Int) ≤ (m : Int)) = true := by simp; omega
            have v2 : decide (400 ≤ m) = true := by simpa using e3
            go_wp2_with fail
            go_quiet (fail)
            obtain ⟨w6, hw6⟩ : ∃ w6, w6 = w5.drewN nq := ⟨_, rfl⟩
            rw [← hw6]
            have b6 : Below w5.heap.size w5 w6 := by rw [hw6]; exact below_drewN (Below.refl _ _) _
            clear hw6
            obtain ⟨⟨r0, r1, r2, r3, r4⟩, t0, t1, t2, t3, t4⟩ := box5 (br5.below b6)
            obtain ⟨⟨k0, k1', k2, k3, k4⟩, g0, g1, g2, g3, g4⟩ := box5 (bz5.below b6)
            go_wp2_with fail
            rw [do_full Hbv.out rfl Hfv.out Hno.out (.inr (by rw [Hq.out]; exact e3))]
            refine bodyPost_ret (v := .tuple #[.agg #[.slice A1 n c1, .slice B1 m k1, .int .i64 q, .int .i64 u, .bool false], .int .i64 41]) (by simp [results, Try.results11, go_sem, *]) rfl ⟨⟨A1, n, c1, B1, m, k1, rfl, DAt.put5 (br5.below b6) (d5.kept ((Kept.refl _ _).below b6)).now⟩, put5_below (hB5.trans (b6.mono hB5.size)) hzw2 _ _ _ _ _⟩
          · have v1 : decide ((400 : Int) ≤ (m : Int)) = false := by simp; omega
            have v2 : decide (400 ≤ m) = false := by simpa using e3
            go_wp2_with fail
            go_quiet (fail)
            obtain ⟨w6, hw6⟩ : ∃ w6, w6 = w5.drewN nq := ⟨_, rfl⟩
            rw [← hw6]
            have b6 : Below w5.heap.size w5 w6 := by rw [hw6]; exact below_drewN (Below.refl _ _) _
            clear hw6
            have Hd := Lib.hid (do_done Hbv.out rfl Hfv.out Hno.out (fun h => h.elim (fun h1 => Hk2.out h1.1) (fun h1 => e3 (by rw [← Hq.out]; exact h1))))
            have hB6 := hB5.trans (b6.mono hB5.size)
            have bz6 := bz5.below b6
            have by6 := by5.below b6
            have br6 := br5.below b6
            have d6 := d5.kept ((Kept.refl _ _).below b6)
            have ho6 := ho5.on b6 b6.size
            clear b6 hB5 bz5 by5 br5 d5 ho5 hsq
            have Hsrc := Lib.hid ho6.rd.source
            have Hby := Lib.hid ho6.byt
            obtain ⟨wc, hwc⟩ : ∃ wc, wc = w6.alloc (.cells #[] 5) := ⟨_, rfl⟩
            have bc : Below w6.heap.size w6 wc := by rw [hwc]; exact (Below.refl _ _).alloc (Nat.le_refl _) _
            have y3c : (w6.alloc (.cells #[] 5)).cell? ⟨z + 1, 3, none⟩ = some (.slice o.p.A o.p.n o.p.c) := by
              have h1 := (box4 (by6.below bc)).1.2.2.2
              rwa [hwc] at h1
            go_wp2_with (at_builtin; refine hold ?_)
            refine unhold (wpList_append (.tmp 54) (.tmp 56) 26 Try.underlying26 hi hz0 hz1 hz2 byte_cells (by omega) (base := w6.heap.size) (v := .slice (some ⟨w6.heap.size, 0, none⟩) 0 0) (n := 0) (xs := []) (own_emptyG rfl (Nat.le_refl _)) (Hsrc.out.alloc _) (by unfold maxLen; omega) (by omega) (by simp) rfl rfl rfl rfl ?_)
            intro v1 w7 L3
            have b7 : Below w6.heap.size w6 w7 := L3.below ((Below.refl _ w6).alloc (Nat.le_refl _) _) (by simp) (fun g hg => by simp [Value.ownBlock] at hg; omega)
            have own4 := L3.1
            obtain ⟨N, hN⟩ : ∃ N, 0 + o.p.n = N := ⟨_, rfl⟩
            rw [hN] at own4
            clear L3 y3c hwc bc wc
            obtain ⟨A2, c2, rfl, hc2⟩ := own_slice own4
            obtain ⟨oN, hoN⟩ : ∃ oN : OpM, oN = ⟨o.kind, o.name, o.to, ⟨A2, N, c2, o.p.l⟩⟩ := ⟨_, rfl⟩
            have by7 := by6.below b7
            have bz7 := bz6.below b7
            have br7 := br6.below b7
            have K7 : Kept w0.heap.size w6 w7 := (Kept.refl _ _).below b7
            have hB7 := hB6.trans (b7.mono hB6.size)
            have hok7 := copy_ok own4 hc2 Hby.out
            obtain ⟨⟨y0, y1, y2, y3⟩, y4⟩ := box4 by7
            obtain ⟨⟨k0, k1', k2, k3, k4⟩, g0, g1, g2, g3, g4⟩ := box5 bz7
            obtain ⟨w8, hw8⟩ : ∃ w8, w8 = w7.setCell ⟨z + 1, 3, none⟩ (.slice A2 N c2) := ⟨_, rfl⟩
            have hzlt : z + 1 < w6.heap.size := (Array.getElem?_eq_some_iff.1 by6).1
            have hoff7 : Byts.Off (z + 2) (some (z + 1)) ⟨A2, N, c2, o.p.l⟩ := copy_off own4 (by omega) (fun k e => by cases e; omega)
            have hok8 : Byts.Ok w8 w8.heap.size ⟨A2, N, c2, o.p.l⟩ := by
              rw [hw8]
              exact hok7.grown (row := some (z + 1)) (lo := z + 2) ⟨rfl, rfl, rfl, (KeepsWalks.setCell w7 _ _).size, fun k _ hk => Below.heap_setCell _ _ _ k (fun e => hk (by rw [e]))⟩ hoff7
            have by8 : Box4 w8 (z + 1) oN := by rw [hw8, hoN]; exact heap_set by7 _
            have bz8 : Box5 w8 z 25 (.slice A1 n c1) (.slice B1 m k1) (.int .i64 q) (.int .i64 u) (.bool false) := by rw [hw8]; exact bz7.other (by omega) _
            have br8 : Box5 w8 (z + 2) 25 (.slice none 0 0) (.slice none 0 0) (.int .i64 0) (.int .i64 0) (.bool false) := by rw [hw8]; exact br7.other (by omega) _
            have K8 : Kept w0.heap.size w6 w8 := by rw [hw8]; exact K7.set (by have := H0.out; omega) _
            have hB8 : Below w.heap.size w w8 := by rw [hw8]; exact hB7.setCell (p := ⟨z + 1, 3, none⟩) hzw1 _
            have hs8 : w7.heap.size = w8.heap.size := by rw [hw8]; simp
            have Hw8 := Lib.hid hw8
            have Hsz8 := Lib.hid (show w6.heap.size ≤ w7.heap.size from b7.size)
            clear by6 bz6 br6 b7 hB6 by7 bz7 br7 K7 hB7 hok7 hw8
            go_wp2_with (at_builtin; refine hold ?_)
            rw [← Hw8.out]
            obtain ⟨hnc, hmk, lim, fs, os, l1, l26, e1, e2, hkd, hF6, hM6⟩ := d6
            have hM : Mine 4 OpM.cs OpM.p 28 lim w8 (.slice B1 m k1) m os := hM6.kept ⟨K8.1, fun b a cc => K8.2 b (by omega) cc⟩
            have hF : ∀ W, lim ≤ W.heap.size → (∀ b, w0.heap.size ≤ b → b < lim → W.heap[b]? = w8.heap[b]?) → Fs W W.heap.size A1 n fs := fun W hW hs => hF6 W hW (fun b a cc => (hs b a cc).trans (K8.2 b a (by omega)))
            have l2 : lim ≤ w8.heap.size := Nat.le_trans l26 K8.1
            obtain ⟨wd, hwd⟩ : ∃ wd, wd = w8.alloc (.cells (OpM.cs ⟨o.kind, o.name, o.to, ⟨A2, N, c2, o.p.l⟩⟩).toArray 28) := ⟨_, rfl⟩
            have bd : Below w8.heap.size w8 wd := by rw [hwd]; exact (Below.refl _ _).alloc (Nat.le_refl _) _
            have hMd := hM.below bd
            have hsrc : Source wd 4 (some ⟨w8.heap.size, 0, none⟩) 1 (OpM.cs ⟨o.kind, o.name, o.to, ⟨A2, N, c2, o.p.l⟩⟩) := by rw [hwd]; exact Source.one rfl (OpM.one _) rfl
            have hwd' : wd = w8.alloc (.cells #[.int .u8 o.kind, .string o.name, .string o.to, .slice A2 N c2] 28) := hwd
            rw [← hwd']
            refine unhold (wpList_append (.tmp 60) (.tmp 62) 23 Try.underlying23 hk hx0 hx1 hx2 op_cells (by omega) (base := lim) (n := m) (xs := os.flatMap OpM.cs) (v := .slice B1 m k1) hMd.own hsrc (by unfold maxLen; omega) (by omega) (Nat.le_trans l2 bd.size) rfl rfl rfl rfl ?_)
            intro v2 w9 L4
            have hlim : z + 2 < lim := by have h1 := H0.out; omega
            have hlimw : w.heap.size ≤ lim := by omega
            obtain ⟨B2, k2, rfl, d9⟩ := push_new (w := wd) (d := ⟨fl, qu, q, u, false⟩) (o := ⟨o.kind, o.name, o.to, ⟨A2, N, c2, o.p.l⟩⟩) hnc l1 (Nat.le_trans l2 bd.size) e1 e2 hkd hok (fun W hW hs => hF W hW (fun b a cc => (hs b a cc).trans (bd.block b (by omega)))) hMd (hok8.on bd bd.size) (copy_off own4 l26 (fun g hg => (hM6.own.lt g hg).2)) L4
            have same : ∀ b, b < lim → w9.heap[b]? = w8.heap[b]? := fun b hb => (L4.2.1.block b (by have := bd.size; omega) (fun e => by have := (hMd.own.lt b e.symm).1; omega)).trans (bd.block b (by omega))
            have bz9 : Box5 w9 z 25 (.slice A1 n c1) (.slice B1 m k1) (.int .i64 q) (.int .i64 u) (.bool false) := (same z (by omega)).trans bz8
            have br9 : Box5 w9 (z + 2) 25 (.slice none 0 0) (.slice none 0 0) (.int .i64 0) (.int .i64 0) (.bool false) := (same (z + 2) hlim).trans br8
            have hB9 : Below w.heap.size w w9 := L4.below (hB8.trans (bd.mono hB8.size)) (Nat.le_trans hB8.size bd.size) (fun g hg => Nat.le_trans hlimw (hMd.own.lt g hg).1)
            have hB10 : Below w.heap.size w (w9.setCell ⟨z, 1, none⟩ (.slice B2 (m + 1) k2)) := hB9.setCell (p := ⟨z, 1, none⟩) hzw _
            obtain ⟨⟨k0, k1', k2', k3, k4⟩, g0, g1, g2, g3, g4⟩ := box5 bz9
            go_wp2_with fail
            obtain ⟨w10, hw10⟩ : ∃ w10, w10 = w9.setCell ⟨z, 1, none⟩ (.slice B2 (m + 1) k2) := ⟨_, rfl⟩
            have br10 : Box5 w10 (z + 2) 25 (.slice none 0 0) (.slice none 0 0) (.int .i64 0) (.int .i64 0) (.bool false) := by rw [hw10]; exact br9.other (by omega) _
            have d10 : DAt w10 ⟨fl, qu ++ [o.pure], q, u, false⟩ A1 n c1 B2 (m + 1) k2 := by rw [hw10]; exact (d9.kept ((Kept.refl _ _).set (by have := H0.out; omega) _)).now
            rw [← hw10] at hB10 ⊢
            clear hw10 bz9 br9 d9 hB9 k0 k1' k2' k3 k4 g0 g1 g2 g3 g4 same L4
            refine (burnt_any ⟨fl, qu ++ [o.pure], q, u, false⟩ A1 n c1 B2 (m + 1) k2 w10 hu).mono ?_
            rintro e w11 ⟨rfl, hb11⟩
            have hB11 : Below w.heap.size w w11 := hB10.trans (hb11.mono hB10.size)
            have br11 := br10.below hb11
            have d11 := burnt_at (d10.on hb11)
            clear hB10 br10 d10 hb11
            obtain ⟨⟨r0, r1, r2, r3, r4⟩, t0, t1, t2, t3, t4⟩ := box5 br11
            have Hquo := Lib.hid (burnt_quota ⟨fl, qu ++ [o.pure], q, u, false⟩)
            go_wp2_with fail
            rw [Hd.out]
            refine bodyPost_ret (v := .tuple #[.agg #[.slice A1 n c1, .slice B2 (m + 1) k2, .int .i64 q, .int .i64 (burntP ⟨fl, qu ++ [o.pure], q, u, false⟩).fuse, .bool (burntP ⟨fl, qu ++ [o.pure], q, u, false⟩).dead], .int .i64 0]) (by simp [results, Try.results11, go_sem, *]) rfl
              ⟨⟨A1, n, c1, B2, m + 1, k2, by rw [Hquo.out], DAt.put5 br11 d11⟩, put5_below hB11 hzw2 _ _ _ _ _⟩
        · have hd1 : (o.kind != 1) = true := by simpa using e1
          go_wp2_with fail
          refine (find_any A5 n5 c5 fs5 o.name _ hf5 (by omega)).mono ?_
          rintro e w' ⟨rfl, hww⟩
          obtain rfl : w5 = w' := hww.symm
          by_cases e2 : findG FileM.name fs5 o.name < 0
          · have hd3 : decide (findG FileM.name fs5 o.name < 0) = true := decide_eq_true e2
            have He := Lib.hid (do_file (o := o.pure) Hbv.out rfl Hfv.out e1 (by rw [show o.pure.name = o.name from rfl, Hfind.out]; exact e2))
            go_wp2_with fail
            rw [He.out]
            refine bodyPost_ret (v := .tuple #[.agg #[.slice A1 n c1, .slice B1 m k1, .int .i64 q, .int .i64 u, .bool false], .int .i64 42]) (by simp [results, Try.results11, go_sem, *]) rfl ⟨⟨A1, n, c1, B1, m, k1, rfl, DAt.put5 br5 d5.now⟩, put5_below hB5 hzw2 _ _ _ _ _⟩
          · have hd3 : decide (findG FileM.name fs5 o.name < 0) = false := decide_eq_false e2
            have Hno := Lib.hid (show ¬ (o.pure.kind ≠ 1 ∧ findG FileP.name (nowP ⟨fl, qu, q, u, false⟩) o.pure.name < 0) from fun h => e2 (by have h1 := h.2; rwa [show o.pure.name = o.name from rfl, Hfind.out] at h1))
            by_cases e4 : o.kind = 2
            · have hd2 : (o.kind == 2) = true := by simpa using e4
              have Hk2 := Lib.hid (show o.pure.kind = 2 from e4)
              clear e1 e2 e4
              by_cases e5 : q < X
              · have v3 : decide (q < X) = true := decide_eq_true e5
                go_wp2_with fail
                go_quiet (exact Calls.quiet_of_same (hsq _))
                obtain ⟨w6, hw6⟩ : ∃ w6, w6 = w5.drewN nq := ⟨_, rfl⟩
                rw [← hw6]
                have b6 : Below w5.heap.size w5 w6 := by rw [hw6]; exact below_drewN (Below.refl _ _) _
                clear hw6
                obtain ⟨⟨r0, r1, r2, r3, r4⟩, t0, t1, t2, t3, t4⟩ := box5 (br5.below b6)
                obtain ⟨⟨k0, k1', k2, k3, k4⟩, g0, g1, g2, g3, g4⟩ := box5 (bz5.below b6)
                go_wp2_with fail
                rw [do_full Hbv.out rfl Hfv.out Hno.out (.inl ⟨Hk2.out, by rw [HX.out]; exact e5⟩)]
                refine bodyPost_ret (v := .tuple #[.agg #[.slice A1 n c1, .slice B1 m k1, .int .i64 q, .int .i64 u, .bool false], .int .i64 41]) (by simp [results, Try.results11, go_sem, *]) rfl ⟨⟨A1, n, c1, B1, m, k1, rfl, DAt.put5 (br5.below b6) (d5.kept ((Kept.refl _ _).below b6)).now⟩, put5_below (hB5.trans (b6.mono hB5.size)) hzw2 _ _ _ _ _⟩
              · have v3 : decide (q < X) = false := decide_eq_false e5
                by_cases e3 : 400 ≤ m
                · have v1 : decide ((400 : Int) ≤ (m : Int)) = true := by simp; omega
                  have v2 : decide (400 ≤ m) = true := by simpa using e3
                  go_wp2_with fail
                  go_quiet (exact Calls.quiet_of_same (hsq _))
                  obtain ⟨w6, hw6⟩ : ∃ w6, w6 = w5.drewN nq := ⟨_, rfl⟩
                  rw [← hw6]
                  have b6 : Below w5.heap.size w5 w6 := by rw [hw6]; exact below_drewN (Below.refl _ _) _
                  clear hw6
                  obtain ⟨⟨r0, r1, r2, r3, r4⟩, t0, t1, t2, t3, t4⟩ := box5 (br5.below b6)
                  obtain ⟨⟨k0, k1', k2, k3, k4⟩, g0, g1, g2, g3, g4⟩ := box5 (bz5.below b6)
                  go_wp2_with fail
                  rw [do_full Hbv.out rfl Hfv.out Hno.out (.inr (by rw [Hq.out]; exact e3))]
                  refine bodyPost_ret (v := .tuple #[.agg #[.slice A1 n c1, .slice B1 m k1, .int .i64 q, .int .i64 u, .bool false], .int .i64 41]) (by simp [results, Try.results11, go_sem, *]) rfl ⟨⟨A1, n, c1, B1, m, k1, rfl, DAt.put5 (br5.below b6) (d5.kept ((Kept.refl _ _).below b6)).now⟩, put5_below (hB5.trans (b6.mono hB5.size)) hzw2 _ _ _ _ _⟩
                · have v1 : decide ((400 : Int) ≤ (m : Int)) = false := by simp; omega
                  have v2 : decide (400 ≤ m) = false := by simpa using e3
                  go_wp2_with fail
                  go_quiet (exact Calls.quiet_of_same (hsq _))
                  obtain ⟨w6, hw6⟩ : ∃ w6, w6 = w5.drewN nq := ⟨_, rfl⟩
                  rw [← hw6]
                  have b6 : Below w5.heap.size w5 w6 := by rw [hw6]; exact below_drewN (Below.refl _ _) _
                  clear hw6
                  have Hd := Lib.hid (do_done Hbv.out rfl Hfv.out Hno.out (fun h => h.elim (fun h1 => by have h2 := h1.2; rw [HX.out] at h2; have h3 : q < X := h2; omega) (fun h1 => e3 (by rw [← Hq.out]; exact h1))))
                  have hB6 := hB5.trans (b6.mono hB5.size)
                  have bz6 := bz5.below b6
                  have by6 := by5.below b6
                  have br6 := br5.below b6
                  have d6 := d5.kept ((Kept.refl _ _).below b6)
                  have ho6 := ho5.on b6 b6.size
                  clear b6 hB5 bz5 by5 br5 d5 ho5 hsq
                  have Hsrc := Lib.hid ho6.rd.source
                  have Hby := Lib.hid ho6.byt
                  obtain ⟨wc, hwc⟩ : ∃ wc, wc = w6.alloc (.cells #[] 5) := ⟨_, rfl⟩
                  have bc : Below w6.heap.size w6 wc := by rw [hwc]; exact (Below.refl _ _).alloc (Nat.le_refl _) _
                  have y3c : (w6.alloc (.cells #[] 5)).cell? ⟨z + 1, 3, none⟩ = some (.slice o.p.A o.p.n o.p.c) := by
                    have h1 := (box4 (by6.below bc)).1.2.2.2
                    rwa [hwc] at h1
                  go_wp2_with (at_builtin; refine hold ?_)
                  refine unhold (wpList_append (.tmp 54) (.tmp 56) 26 Try.underlying26 hi hz0 hz1 hz2 byte_cells (by omega) (base := w6.heap.size) (v := .slice (some ⟨w6.heap.size, 0, none⟩) 0 0) (n := 0) (xs := []) (own_emptyG rfl (Nat.le_refl _)) (Hsrc.out.alloc _) (by unfold maxLen; omega) (by omega) (by simp) rfl rfl rfl rfl ?_)
                  intro v1 w7 L3
                  have b7 : Below w6.heap.size w6 w7 := L3.below ((Below.refl _ w6).alloc (Nat.le_refl _) _) (by simp) (fun g hg => by simp [Value.ownBlock] at hg; omega)
                  have own4 := L3.1
                  obtain ⟨N, hN⟩ : ∃ N, 0 + o.p.n = N := ⟨_, rfl⟩
                  rw [hN] at own4
                  clear L3 y3c hwc bc wc
                  obtain ⟨A2, c2, rfl, hc2⟩ := own_slice own4
                  obtain ⟨oN, hoN⟩ : ∃ oN : OpM, oN = ⟨o.kind, o.name, o.to, ⟨A2, N, c2, o.p.l⟩⟩ := ⟨_, rfl⟩
                  have by7 := by6.below b7
                  have bz7 := bz6.below b7
                  have br7 := br6.below b7
                  have K7 : Kept w0.heap.size w6 w7 := (Kept.refl _ _).below b7
                  have hB7 := hB6.trans (b7.mono hB6.size)
                  have hok7 := copy_ok own4 hc2 Hby.out
                  obtain ⟨⟨y0, y1, y2, y3⟩, y4⟩ := box4 by7
                  obtain ⟨⟨k0, k1', k2, k3, k4⟩, g0, g1, g2, g3, g4⟩ := box5 bz7
                  obtain ⟨w8, hw8⟩ : ∃ w8, w8 = w7.setCell ⟨z + 1, 3, none⟩ (.slice A2 N c2) := ⟨_, rfl⟩
                  have hzlt : z + 1 < w6.heap.size := (Array.getElem?_eq_some_iff.1 by6).1
                  have hoff7 : Byts.Off (z + 2) (some (z + 1)) ⟨A2, N, c2, o.p.l⟩ := copy_off own4 (by omega) (fun k e => by cases e; omega)
                  have hok8 : Byts.Ok w8 w8.heap.size ⟨A2, N, c2, o.p.l⟩ := by
                    rw [hw8]
                    exact hok7.grown (row := some (z + 1)) (lo := z + 2) ⟨rfl, rfl, rfl, (KeepsWalks.setCell w7 _ _).size, fun k _ hk => Below.heap_setCell _ _ _ k (fun e => hk (by rw [e]))⟩ hoff7
                  have by8 : Box4 w8 (z + 1) oN := by rw [hw8, hoN]; exact heap_set by7 _
                  have bz8 : Box5 w8 z 25 (.slice A1 n c1) (.slice B1 m k1) (.int .i64 q) (.int .i64 u) (.bool false) := by rw [hw8]; exact bz7.other (by omega) _
                  have br8 : Box5 w8 (z + 2) 25 (.slice none 0 0) (.slice none 0 0) (.int .i64 0) (.int .i64 0) (.bool false) := by rw [hw8]; exact br7.other (by omega) _
                  have K8 : Kept w0.heap.size w6 w8 := by rw [hw8]; exact K7.set (by have := H0.out; omega) _
                  have hB8 : Below w.heap.size w w8 := by rw [hw8]; exact hB7.setCell (p := ⟨z + 1, 3, none⟩) hzw1 _
                  have hs8 : w7.heap.size = w8.heap.size := by rw [hw8]; simp
                  have Hw8 := Lib.hid hw8
                  have Hsz8 := Lib.hid (show w6.heap.size ≤ w7.heap.size from b7.size)
                  clear by6 bz6 br6 b7 hB6 by7 bz7 br7 K7 hB7 hok7 hw8
                  go_wp2_with (at_builtin; refine hold ?_)
                  rw [← Hw8.out]
                  obtain ⟨hnc, hmk, lim, fs, os, l1, l26, e1, e2, hkd, hF6, hM6⟩ := d6
                  have hM : Mine 4 OpM.cs OpM.p 28 lim w8 (.slice B1 m k1) m os := hM6.kept ⟨K8.1, fun b a cc => K8.2 b (by omega) cc⟩
                  have hF : ∀ W, lim ≤ W.heap.size → (∀ b, w0.heap.size ≤ b → b < lim → W.heap[b]? = w8.heap[b]?) → Fs W W.heap.size A1 n fs := fun W hW hs => hF6 W hW (fun b a cc => (hs b a cc).trans (K8.2 b a (by omega)))
                  have l2 : lim ≤ w8.heap.size := Nat.le_trans l26 K8.1
                  obtain ⟨wd, hwd⟩ : ∃ wd, wd = w8.alloc (.cells (OpM.cs ⟨o.kind, o.name, o.to, ⟨A2, N, c2, o.p.l⟩⟩).toArray 28) := ⟨_, rfl⟩
                  have bd : Below w8.heap.size w8 wd := by rw [hwd]; exact (Below.refl _ _).alloc (Nat.le_refl _) _
                  have hMd := hM.below bd
                  have hsrc : Source wd 4 (some ⟨w8.heap.size, 0, none⟩) 1 (OpM.cs ⟨o.kind, o.name, o.to, ⟨A2, N, c2, o.p.l⟩⟩) := by rw [hwd]; exact Source.one rfl (OpM.one _) rfl
                  have hwd' : wd = w8.alloc (.cells #[.int .u8 o.kind, .string o.name, .string o.to, .slice A2 N c2] 28) := hwd
                  rw [← hwd']
                  refine unhold (wpList_append (.tmp 60) (.tmp 62) 23 Try.underlying23 hk hx0 hx1 hx2 op_cells (by omega) (base := lim) (n := m) (xs := os.flatMap OpM.cs) (v := .slice B1 m k1) hMd.own hsrc (by unfold maxLen; omega) (by omega) (Nat.le_trans l2 bd.size) rfl rfl rfl rfl ?_)
                  intro v2 w9 L4
                  have hlim : z + 2 < lim := by have h1 := H0.out; omega
                  have hlimw : w.heap.size ≤ lim := by omega
                  obtain ⟨B2, k2, rfl, d9⟩ := push_new (w := wd) (d := ⟨fl, qu, q, u, false⟩) (o := ⟨o.kind, o.name, o.to, ⟨A2, N, c2, o.p.l⟩⟩) hnc l1 (Nat.le_trans l2 bd.size) e1 e2 hkd hok (fun W hW hs => hF W hW (fun b a cc => (hs b a cc).trans (bd.block b (by omega)))) hMd (hok8.on bd bd.size) (copy_off own4 l26 (fun g hg => (hM6.own.lt g hg).2)) L4
                  have same : ∀ b, b < lim → w9.heap[b]? = w8.heap[b]? := fun b hb => (L4.2.1.block b (by have := bd.size; omega) (fun e => by have := (hMd.own.lt b e.symm).1; omega)).trans (bd.block b (by omega))
                  have bz9 : Box5 w9 z 25 (.slice A1 n c1) (.slice B1 m k1) (.int .i64 q) (.int .i64 u) (.bool false) := (same z (by omega)).trans bz8
                  have br9 : Box5 w9 (z + 2) 25 (.slice none 0 0) (.slice none 0 0) (.int .i64 0) (.int .i64 0) (.bool false) := (same (z + 2) hlim).trans br8
                  have hB9 : Below w.heap.size w w9 := L4.below (hB8.trans (bd.mono hB8.size)) (Nat.le_trans hB8.size bd.size) (fun g hg => Nat.le_trans hlimw (hMd.own.lt g hg).1)
                  have hB10 : Below w.heap.size w (w9.setCell ⟨z, 1, none⟩ (.slice B2 (m + 1) k2)) := hB9.setCell (p := ⟨z, 1, none⟩) hzw _
                  obtain ⟨⟨k0, k1', k2', k3, k4⟩, g0, g1, g2, g3, g4⟩ := box5 bz9
                  go_wp2_with fail
                  obtain ⟨w10, hw10⟩ : ∃ w10, w10 = w9.setCell ⟨z, 1, none⟩ (.slice B2 (m + 1) k2) := ⟨_, rfl⟩
                  have br10 : Box5 w10 (z + 2) 25 (.slice none 0 0) (.slice none 0 0) (.int .i64 0) (.int .i64 0) (.bool false) := by rw [hw10]; exact br9.other (by omega) _
                  have d10 : DAt w10 ⟨fl, qu ++ [o.pure], q, u, false⟩ A1 n c1 B2 (m + 1) k2 := by rw [hw10]; exact (d9.kept ((Kept.refl _ _).set (by have := H0.out; omega) _)).now
                  rw [← hw10] at hB10 ⊢
                  clear hw10 bz9 br9 d9 hB9 k0 k1' k2' k3 k4 g0 g1 g2 g3 g4 same L4
                  refine (burnt_any ⟨fl, qu ++ [o.pure], q, u, false⟩ A1 n c1 B2 (m + 1) k2 w10 hu).mono ?_
                  rintro e w11 ⟨rfl, hb11⟩
                  have hB11 : Below w.heap.size w w11 := hB10.trans (hb11.mono hB10.size)
                  have br11 := br10.below hb11
                  have d11 := burnt_at (d10.on hb11)
                  clear hB10 br10 d10 hb11
                  obtain ⟨⟨r0, r1, r2, r3, r4⟩, t0, t1, t2, t3, t4⟩ := box5 br11
                  have Hquo := Lib.hid (burnt_quota ⟨fl, qu ++ [o.pure], q, u, false⟩)
                  go_wp2_with fail
                  rw [Hd.out]
                  refine bodyPost_ret (v := .tuple #[.agg #[.slice A1 n c1, .slice B2 (m + 1) k2, .int .i64 q, .int .i64 (burntP ⟨fl, qu ++ [o.pure], q, u, false⟩).fuse, .bool (burntP ⟨fl, qu ++ [o.pure], q, u, false⟩).dead], .int .i64 0]) (by simp [results, Try.results11, go_sem, *]) rfl
                    ⟨⟨A1, n, c1, B2, m + 1, k2, by rw [Hquo.out], DAt.put5 br11 d11⟩, put5_below hB11 hzw2 _ _ _ _ _⟩
            · have hd2 : (o.kind == 2) = false := by simpa using e4
              have Hk2 := Lib.hid (show ¬ o.pure.kind = 2 from e4)
              clear e1 e2 e4
              by_cases e3 : 400 ≤ m
              · have v1 : decide ((400 : Int) ≤ (m : Int)) = true := by simp; omega
                have v2 : decide (400 ≤ m) = true := by simpa using e3
                go_wp2_with fail
                go_quiet (fail)
                obtain ⟨w6, hw6⟩ : ∃ w6, w6 = w5.drewN nq := ⟨_, rfl⟩
                rw [← hw6]
                have b6 : Below w5.heap.size w5 w6 := by rw [hw6]; exact below_drewN (Below.refl _ _) _
                clear hw6
                obtain ⟨⟨r0, r1, r2, r3, r4⟩, t0, t1, t2, t3, t4⟩ := box5 (br5.below b6)
                obtain ⟨⟨k0, k1', k2, k3, k4⟩, g0, g1, g2, g3, g4⟩ := box5 (bz5.below b6)
                go_wp2_with fail
                rw [do_full Hbv.out rfl Hfv.out Hno.out (.inr (by rw [Hq.out]; exact e3))]
                refine bodyPost_ret (v := .tuple #[.agg #[.slice A1 n c1, .slice B1 m k1, .int .i64 q, .int .i64 u, .bool false], .int .i64 41]) (by simp [results, Try.results11, go_sem, *]) rfl ⟨⟨A1, n, c1, B1, m, k1, rfl, DAt.put5 (br5.below b6) (d5.kept ((Kept.refl _ _).below b6)).now⟩, put5_below (hB5.trans (b6.mono hB5.size)) hzw2 _ _ _ _ _⟩
              · have v1 : decide ((400 : Int) ≤ (m : Int)) = false := by simp; omega
                have v2 : decide (400 ≤ m) = false := by simpa using e3
                go_wp2_with fail
                go_quiet (fail)
                obtain ⟨w6, hw6⟩ : ∃ w6, w6 = w5.drewN nq := ⟨_, rfl⟩
                rw [← hw6]
                have b6 : Below w5.heap.size w5 w6 := by rw [hw6]; exact below_drewN (Below.refl _ _) _
                clear hw6
                have Hd := Lib.hid (do_done Hbv.out rfl Hfv.out Hno.out (fun h => h.elim (fun h1 => Hk2.out h1.1) (fun h1 => e3 (by rw [← Hq.out]; exact h1))))
                have hB6 := hB5.trans (b6.mono hB5.size)
                have bz6 := bz5.below b6
                have by6 := by5.below b6
                have br6 := br5.below b6
                have d6 := d5.kept ((Kept.refl _ _).below b6)
                have ho6 := ho5.on b6 b6.size
                clear b6 hB5 bz5 by5 br5 d5 ho5 hsq
                have Hsrc := Lib.hid ho6.rd.source
                have Hby := Lib.hid ho6.byt
                obtain ⟨wc, hwc⟩ : ∃ wc, wc = w6.alloc (.cells #[] 5) := ⟨_, rfl⟩
                have bc : Below w6.heap.size w6 wc := by rw [hwc]; exact (Below.refl _ _).alloc (Nat.le_refl _) _
                have y3c : (w6.alloc (.cells #[] 5)).cell? ⟨z + 1, 3, none⟩ = some (.slice o.p.A o.p.n o.p.c) := by
                  have h1 := (box4 (by6.below bc)).1.2.2.2
                  rwa [hwc] at h1
                go_wp2_with (at_builtin; refine hold ?_)
                refine unhold (wpList_append (.tmp 54) (.tmp 56) 26 Try.underlying26 hi hz0 hz1 hz2 byte_cells (by omega) (base := w6.heap.size) (v := .slice (some ⟨w6.heap.size, 0, none⟩) 0 0) (n := 0) (xs := []) (own_emptyG rfl (Nat.le_refl _)) (Hsrc.out.alloc _) (by unfold maxLen; omega) (by omega) (by simp) rfl rfl rfl rfl ?_)
                intro v1 w7 L3
                have b7 : Below w6.heap.size w6 w7 := L3.below ((Below.refl _ w6).alloc (Nat.le_refl _) _) (by simp) (fun g hg => by simp [Value.ownBlock] at hg; omega)
                have own4 := L3.1
                obtain ⟨N, hN⟩ : ∃ N, 0 + o.p.n = N := ⟨_, rfl⟩
                rw [hN] at own4
                clear L3 y3c hwc bc wc
                obtain ⟨A2, c2, rfl, hc2⟩ := own_slice own4
                obtain ⟨oN, hoN⟩ : ∃ oN : OpM, oN = ⟨o.kind, o.name, o.to, ⟨A2, N, c2, o.p.l⟩⟩ := ⟨_, rfl⟩
                have by7 := by6.below b7
                have bz7 := bz6.below b7
                have br7 := br6.below b7
                have K7 : Kept w0.heap.size w6 w7 := (Kept.refl _ _).below b7
                have hB7 := hB6.trans (b7.mono hB6.size)
                have hok7 := copy_ok own4 hc2 Hby.out
                obtain ⟨⟨y0, y1, y2, y3⟩, y4⟩ := box4 by7
                obtain ⟨⟨k0, k1', k2, k3, k4⟩, g0, g1, g2, g3, g4⟩ := box5 bz7
                obtain ⟨w8, hw8⟩ : ∃ w8, w8 = w7.setCell ⟨z + 1, 3, none⟩ (.slice A2 N c2) := ⟨_, rfl⟩
                have hzlt : z + 1 < w6.heap.size := (Array.getElem?_eq_some_iff.1 by6).1
                have hoff7 : Byts.Off (z + 2) (some (z + 1)) ⟨A2, N, c2, o.p.l⟩ := copy_off own4 (by omega) (fun k e => by cases e; omega)
                have hok8 : Byts.Ok w8 w8.heap.size ⟨A2, N, c2, o.p.l⟩ := by
                  rw [hw8]
                  exact hok7.grown (row := some (z + 1)) (lo := z + 2) ⟨rfl, rfl, rfl, (KeepsWalks.setCell w7 _ _).size, fun k _ hk => Below.heap_setCell _ _ _ k (fun e => hk (by rw [e]))⟩ hoff7
                have by8 : Box4 w8 (z + 1) oN := by rw [hw8, hoN]; exact heap_set by7 _
                have bz8 : Box5 w8 z 25 (.slice A1 n c1) (.slice B1 m k1) (.int .i64 q) (.int .i64 u) (.bool false) := by rw [hw8]; exact bz7.other (by omega) _
                have br8 : Box5 w8 (z + 2) 25 (.slice none 0 0) (.slice none 0 0) (.int .i64 0) (.int .i64 0) (.bool false) := by rw [hw8]; exact br7.other (by omega) _
                have K8 : Kept w0.heap.size w6 w8 := by rw [hw8]; exact K7.set (by have := H0.out; omega) _
                have hB8 : Below w.heap.size w w8 := by rw [hw8]; exact hB7.setCell (p := ⟨z + 1, 3, none⟩) hzw1 _
                have hs8 : w7.heap.size = w8.heap.size := by rw [hw8]; simp
                have Hw8 := Lib.hid hw8
                have Hsz8 := Lib.hid (show w6.heap.size ≤ w7.heap.size from b7.size)
                clear by6 bz6 br6 b7 hB6 by7 bz7 br7 K7 hB7 hok7 hw8
                go_wp2_with (at_builtin; refine hold ?_)
                rw [← Hw8.out]
                obtain ⟨hnc, hmk, lim, fs, os, l1, l26, e1, e2, hkd, hF6, hM6⟩ := d6
                have hM : Mine 4 OpM.cs OpM.p 28 lim w8 (.slice B1 m k1) m os := hM6.kept ⟨K8.1, fun b a cc => K8.2 b (by omega) cc⟩
                have hF : ∀ W, lim ≤ W.heap.size → (∀ b, w0.heap.size ≤ b → b < lim → W.heap[b]? = w8.heap[b]?) → Fs W W.heap.size A1 n fs := fun W hW hs => hF6 W hW (fun b a cc => (hs b a cc).trans (K8.2 b a (by omega)))
                have l2 : lim ≤ w8.heap.size := Nat.le_trans l26 K8.1
                obtain ⟨wd, hwd⟩ : ∃ wd, wd = w8.alloc (.cells (OpM.cs ⟨o.kind, o.name, o.to, ⟨A2, N, c2, o.p.l⟩⟩).toArray 28) := ⟨_, rfl⟩
                have bd : Below w8.heap.size w8 wd := by rw [hwd]; exact (Below.refl _ _).alloc (Nat.le_refl _) _
                have hMd := hM.below bd
                have hsrc : Source wd 4 (some ⟨w8.heap.size, 0, none⟩) 1 (OpM.cs ⟨o.kind, o.name, o.to, ⟨A2, N, c2, o.p.l⟩⟩) := by rw [hwd]; exact Source.one rfl (OpM.one _) rfl
                have hwd' : wd = w8.alloc (.cells #[.int .u8 o.kind, .string o.name, .string o.to, .slice A2 N c2] 28) := hwd
                rw [← hwd']
                refine unhold (wpList_append (.tmp 60) (.tmp 62) 23 Try.underlying23 hk hx0 hx1 hx2 op_cells (by omega) (base := lim) (n := m) (xs := os.flatMap OpM.cs) (v := .slice B1 m k1) hMd.own hsrc (by unfold maxLen; omega) (by omega) (Nat.le_trans l2 bd.size) rfl rfl rfl rfl ?_)
                intro v2 w9 L4
                have hlim : z + 2 < lim := by have h1 := H0.out; omega
                have hlimw : w.heap.size ≤ lim := by omega
                obtain ⟨B2, k2, rfl, d9⟩ := push_new (w := wd) (d := ⟨fl, qu, q, u, false⟩) (o := ⟨o.kind, o.name, o.to, ⟨A2, N, c2, o.p.l⟩⟩) hnc l1 (Nat.le_trans l2 bd.size) e1 e2 hkd hok (fun W hW hs => hF W hW (fun b a cc => (hs b a cc).trans (bd.block b (by omega)))) hMd (hok8.on bd bd.size) (copy_off own4 l26 (fun g hg => (hM6.own.lt g hg).2)) L4
                have same : ∀ b, b < lim → w9.heap[b]? = w8.heap[b]? := fun b hb => (L4.2.1.block b (by have := bd.size; omega) (fun e => by have := (hMd.own.lt b e.symm).1; omega)).trans (bd.block b (by omega))
                have bz9 : Box5 w9 z 25 (.slice A1 n c1) (.slice B1 m k1) (.int .i64 q) (.int .i64 u) (.bool false) := (same z (by omega)).trans bz8
                have br9 : Box5 w9 (z + 2) 25 (.slice none 0 0) (.slice none 0 0) (.int .i64 0) (.int .i64 0) (.bool false) := (same (z + 2) hlim).trans br8
                have hB9 : Below w.heap.size w w9 := L4.below (hB8.trans (bd.mono hB8.size)) (Nat.le_trans hB8.size bd.size) (fun g hg => Nat.le_trans hlimw (hMd.own.lt g hg).1)
                have hB10 : Below w.heap.size w (w9.setCell ⟨z, 1, none⟩ (.slice B2 (m + 1) k2)) := hB9.setCell (p := ⟨z, 1, none⟩) hzw _
                obtain ⟨⟨k0, k1', k2', k3, k4⟩, g0, g1, g2, g3, g4⟩ := box5 bz9
                go_wp2_with fail
                obtain ⟨w10, hw10⟩ : ∃ w10, w10 = w9.setCell ⟨z, 1, none⟩ (.slice B2 (m + 1) k2) := ⟨_, rfl⟩
                have br10 : Box5 w10 (z + 2) 25 (.slice none 0 0) (.slice none 0 0) (.int .i64 0) (.int .i64 0) (.bool false) := by rw [hw10]; exact br9.other (by omega) _
                have d10 : DAt w10 ⟨fl, qu ++ [o.pure], q, u, false⟩ A1 n c1 B2 (m + 1) k2 := by rw [hw10]; exact (d9.kept ((Kept.refl _ _).set (by have := H0.out; omega) _)).now
                rw [← hw10] at hB10 ⊢
                clear hw10 bz9 br9 d9 hB9 k0 k1' k2' k3 k4 g0 g1 g2 g3 g4 same L4
                refine (burnt_any ⟨fl, qu ++ [o.pure], q, u, false⟩ A1 n c1 B2 (m + 1) k2 w10 hu).mono ?_
                rintro e w11 ⟨rfl, hb11⟩
                have hB11 : Below w.heap.size w w11 := hB10.trans (hb11.mono hB10.size)
                have br11 := br10.below hb11
                have d11 := burnt_at (d10.on hb11)
                clear hB10 br10 d10 hb11
                obtain ⟨⟨r0, r1, r2, r3, r4⟩, t0, t1, t2, t3, t4⟩ := box5 br11
                have Hquo := Lib.hid (burnt_quota ⟨fl, qu ++ [o.pure], q, u, false⟩)
                go_wp2_with fail
                rw [Hd.out]
                refine bodyPost_ret (v := .tuple #[.agg #[.slice A1 n c1, .slice B2 (m + 1) k2, .int .i64 q, .int .i64 (burntP ⟨fl, qu ++ [o.pure], q, u, false⟩).fuse, .bool (burntP ⟨fl, qu ++ [o.pure], q, u, false⟩).dead], .int .i64 0]) (by simp [results, Try.results11, go_sem, *]) rfl
                  ⟨⟨A1, n, c1, B2, m + 1, k2, by rw [Hquo.out], DAt.put5 br11 d11⟩, put5_below hB11 hzw2 _ _ _ _ _⟩
    · go_wp2_with fail
      rw [do_dead Hbv.out rfl]
      refine bodyPost_ret (v := .tuple #[.agg #[.slice A1 n c1, .slice B1 m k1, .int .i64 q, .int .i64 u, .bool true], .int .i64 40]) (by simp [results, Try.results11, go_sem, *]) rfl ⟨⟨A1, n, c1, B1, m, k1, rfl, DAt.put5 br3 d3.now⟩, put5_below hB3 hzw2 _ _ _ _ _⟩

end Go.Proofs.Ytmfiopopiikbmaa
