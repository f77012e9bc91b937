/-
  The developers' Now, Own: their contracts.
-/
import Derived.Test.YtmfiopopiikbmaaDevL
import Derived.Test.YtmfiopopiikbmaaDevH
import Derived.Deep.RegionWith
namespace Go.Proofs.Ytmfiopopiikbmaa
open Go.RowKit Go.Maps

theorem fm_names {fs : List FileM} {d : DiskP} (hp : fs.map FileM.pure = nowP d) (hn : Nms d) : ∀ f ∈ fs, f.name.size ≤ maxLen := fun f hf => hn.now f.pure (by rw [← hp]; exact List.mem_map_of_mem hf)
theorem fm_length {fs : List FileM} {d : DiskP} (hp : fs.map FileM.pure = nowP d) (hs : Small d) : fs.length ≤ 100000 := by
  have h1 := (now_small hs).1
  rw [← hp, List.length_map] at h1
  omega

set_option maxRecDepth 100000 in
set_option maxHeartbeats 1000000 in
theorem dev_nowD {w : World} {d : DiskP} {A : Option Addr} {n c : Nat} {B : Option Addr} {m k : Nat} (h : DAt w d A n c B m k) (hs : Small d) (hn : Nms d) :
    Calls Try.prog 23 #[.agg #[.slice A n c, .slice B m k, .int .i64 d.quota, .int .i64 d.fuse, .bool d.dead]] w fun e w' => ToldP (nowP d) e w' ∧ Below w.heap.size w w' := by
  obtain ⟨fl, qu, q, u, dd⟩ := d
  simp only
  have Hs := Lib.hid hs
  have Hn := Lib.hid hn
  clear hs hn
  go_enter Try.func23, Try.ntmps23
  go_wp2_with fail
  have hB0 : Below w.heap.size w (w.alloc (.cells #[.slice A n c, .slice B m k, .int .i64 q, .int .i64 u, .bool dd] 25)) := (Below.refl _ _).alloc (Nat.le_refl _) _
  refine (dev_now (h.on hB0) Hs.out Hn.out).mono ?_
  rintro e w1 ⟨⟨b, fs1, rfl, hF, hp⟩, hb1⟩
  have HF := Lib.hid hF
  have Hp := Lib.hid hp
  have hB1 := hB0.trans (hb1.mono hB0.size)
  have HB1 := Lib.hid hB1
  clear hF hp hb1 hB0 h hB1
  go_wp2_with fail
  refine (dev_list HF.out (fm_names Hp.out Hn.out) (fm_length Hp.out Hs.out)).mono ?_
  rintro e w2 ⟨⟨A2, c2, rfl, hc2, hf2⟩, hb2⟩
  go_wp2_with fail
  go_ret
  exact ⟨⟨A2, _, c2, fs1, rfl, hc2, hf2, Hp.out⟩, HB1.out.trans (hb2.mono HB1.out.size)⟩

/-- A disk in memory of the call's own: a row of files, a row of operations, each one's bytes in a row. -/
structure DOwn (w : World) (lo : Nat) (d : DiskP) (A : Option Addr) (n c : Nat) (B : Option Addr) (m k : Nat) (fs : List FileM) (os : List OpM) : Prop where
  nc : n ≤ c
  oc : m ≤ k
  frow : w.ownsRow lo 47 2 (.slice A n c) n (fs.flatMap FileM.cs)
  fown : ∀ f ∈ fs, OwnB w f.p
  fe : fs.map FileM.pure = d.files
  qrow : w.ownsRow lo 28 4 (.slice B m k) m (os.flatMap OpM.cs)
  qown : ∀ o ∈ os, OwnB w o.p ∧ 0 ≤ o.kind ∧ o.kind ≤ 255
  qe : os.map OpM.pure = d.queue
theorem DOwn.at_ {w : World} {lo : Nat} {d : DiskP} {A : Option Addr} {n c : Nat} {B : Option Addr} {m k : Nat} {fs : List FileM} {os : List OpM} (h : DOwn w lo d A n c B m k fs os) : DAt w d A n c B m k :=
  ⟨h.nc, h.oc, ⟨fs, ⟨Row.of_own (by omega) FileM.len h.frow, fun f hf => (h.fown f hf).ok⟩, h.fe⟩, ⟨os, ⟨Row.of_own (by omega) OpM.len h.qrow, fun o ho => ⟨(h.qown o ho).1.ok, (h.qown o ho).2⟩⟩, h.qe⟩⟩
theorem DOwn.below {w w' : World} {lo : Nat} {d : DiskP} {A : Option Addr} {n c : Nat} {B : Option Addr} {m k : Nat} {fs : List FileM} {os : List OpM} (h : DOwn w lo d A n c B m k fs os) (hb : Below w.heap.size w w') : DOwn w' lo d A n c B m k fs os :=
  ⟨h.nc, h.oc, own_below h.frow hb, fun f hf => (h.fown f hf).below hb, h.fe, own_below h.qrow hb, fun o ho => ⟨(h.qown o ho).1.below hb, (h.qown o ho).2⟩, h.qe⟩

theorem set_same {α : Type} {l : List α} {j : Nat} {x : α} (h : l[j]? = some x) : l.set j x = l := by
  refine List.ext_getElem? fun i => ?_
  rw [List.getElem?_set]
  split
  · rename_i e
    subst e
    have := (List.getElem?_eq_some_iff.1 h).1
    rw [if_pos this, h]
  · rfl
theorem set_file : ∀ (xs : List FileM) (j : Nat) (f : FileM) (p : Byts), xs[j]? = some f → (xs.flatMap FileM.cs).set (j * 2 + 1) (.slice p.A p.n p.c) = (xs.set j ⟨f.name, p⟩).flatMap FileM.cs
  | [], j, f, p, h => by simp at h
  | x :: r, 0, f, p, h => by simp at h; subst h; rfl
  | x :: r, j + 1, f, p, h => by
    have ih := set_file r j f p (by simpa using h)
    rw [List.flatMap_cons, show (j + 1) * 2 + 1 = (j * 2 + 1) + 1 + 1 by omega]
    show (Value.string x.name :: Value.slice x.p.A x.p.n x.p.c :: r.flatMap FileM.cs).set (j * 2 + 1 + 1 + 1) _ = _
    rw [List.set_cons_succ, List.set_cons_succ, ih]
    rfl
theorem set_op : ∀ (xs : List OpM) (j : Nat) (o : OpM) (p : Byts), xs[j]? = some o →
    ((((xs.flatMap OpM.cs).set (j * 4) (.int .u8 o.kind)).set (j * 4 + 1) (.string o.name)).set (j * 4 + 2) (.string o.to)).set (j * 4 + 3) (.slice p.A p.n p.c) = (xs.set j ⟨o.kind, o.name, o.to, p⟩).flatMap OpM.cs
  | [], j, o, p, h => by simp at h
  | x :: r, 0, o, p, h => by simp at h; subst h; rfl
  | x :: r, j + 1, o, p, h => by
    have ih := set_op r j o p (by simpa using h)
    rw [List.flatMap_cons, show (j + 1) * 4 = j * 4 + 1 + 1 + 1 + 1 by omega, show j * 4 + 1 + 1 + 1 + 1 + 1 = (j * 4 + 1) + 1 + 1 + 1 + 1 by omega, show j * 4 + 1 + 1 + 1 + 1 + 2 = (j * 4 + 2) + 1 + 1 + 1 + 1 by omega, show j * 4 + 1 + 1 + 1 + 1 + 3 = (j * 4 + 3) + 1 + 1 + 1 + 1 by omega]
    show ((((Value.int .u8 x.kind :: Value.string x.name :: Value.string x.to :: Value.slice x.p.A x.p.n x.p.c :: r.flatMap OpM.cs).set _ _).set _ _).set _ _).set _ _ = _
    simp only [List.set_cons_succ]
    rw [ih]
    rfl

theorem cells_below {w W : World} {g j : Nat} (hb : Below w.heap.size w W) (hg : g < w.heap.size) : W.cell? ⟨g, j, none⟩ = w.cell? ⟨g, j, none⟩ ∧ W.frozen? ⟨g, j, none⟩ = w.frozen? ⟨g, j, none⟩ :=
  ⟨hb.cell (p := ⟨g, j, none⟩) hg, hb.frozen (p := ⟨g, j, none⟩) hg⟩
/-- The block of a row of the call's own. -/
theorem own_block {w : World} {base : Nat} {e : TypeId} {size n c : Nat} {A : Option Addr} {xs : List Value} (h : w.ownsRow base e size (.slice A n c) n xs) (hn : 0 < n) : ∃ g, A = some ⟨g, 0, none⟩ ∧ base ≤ g ∧ g < w.heap.size ∧ ∃ cur, w.heap[g]? = some (.cells cur e (0, 0)) := by
  rcases h.2 with ⟨_, h0⟩ | ⟨g, cap, cur, e1, hb, hg, _⟩
  · omega
  · cases e1
    exact ⟨g, rfl, hb, (Array.getElem?_eq_some_iff.1 hg).1, cur, hg⟩
/-- A row of another type lies on behind a store. -/
theorem own_other {w : World} {base : Nat} {e e' : TypeId} {size n : Nat} {v : Value} {xs : List Value} {g i : Nat} {cur : Array Value} {fr : Nat × Nat} {u : Value} (h : w.ownsRow base e size v n xs) (hg : w.heap[g]? = some (.cells cur e' fr)) (hne : e ≠ e') : (w.setCell ⟨g, i, none⟩ u).ownsRow base e size v n xs := by
  refine h.kept (row := some g) ⟨rfl, rfl, rfl, (KeepsWalks.setCell w _ u).size, fun j _ hj => Below.heap_setCell _ _ _ j (fun e => hj (by rw [e]))⟩ ?_
  rcases h.2 with ⟨rfl, _⟩ | ⟨g1, cap, cur1, rfl, _, hg1, _⟩
  · exact .inl rfl
  · refine .inr fun e1 => hne ?_
    cases e1
    rw [hg] at hg1
    cases hg1
    rfl
theorem OwnB.row_set {w : World} {p : Byts} {g i : Nat} {cur : Array Value} {e : TypeId} {fr : Nat × Nat} {u : Value} (h : OwnB w p) (hg : w.heap[g]? = some (.cells cur e fr)) (hne : 5 ≠ e) : OwnB (w.setCell ⟨g, i, none⟩ u) p := ⟨own_other h.1 hg hne, h.2⟩
/-- A file's bytes stored anew in the row of files. -/
theorem file_step {w : World} {lo g c n j : Nat} {xs fs : List FileM} {f : FileM} {p : Byts} {cur : Array Value} (hrow : w.ownsRow lo 47 2 (.slice (some ⟨g, 0, none⟩) n c) n (xs.flatMap FileM.cs)) (hg : w.heap[g]? = some (.cells cur 47 (0, 0)))
    (hf : xs[j]? = some f) (hpl : p.l = f.p.l) (hp : OwnB w p) (hxs : xs.map FileM.pure = fs.map FileM.pure) (hown : ∀ k f, k < j → xs[k]? = some f → OwnB w f.p) (horig : ∀ k, j ≤ k → xs[k]? = fs[k]?) :
    (w.setCell ⟨g, j * 2 + 1, none⟩ (.slice p.A p.n p.c)).ownsRow lo 47 2 (.slice (some ⟨g, 0, none⟩) n c) n ((xs.set j ⟨f.name, p⟩).flatMap FileM.cs) ∧ (xs.set j ⟨f.name, p⟩).map FileM.pure = fs.map FileM.pure ∧
      (∀ k f', k < j + 1 → (xs.set j ⟨f.name, p⟩)[k]? = some f' → OwnB (w.setCell ⟨g, j * 2 + 1, none⟩ (.slice p.A p.n p.c)) f'.p) ∧ (∀ k, j + 1 ≤ k → (xs.set j ⟨f.name, p⟩)[k]? = fs[k]?) := by
  refine ⟨?_, ?_, fun k f' hk hf' => ?_, fun k hk => ?_⟩
  · have h1 := (hrow.stored (j * 2 + 1) (.slice p.A p.n p.c)).1
    rw [set_file xs j f p hf] at h1
    exact h1
  · rw [← hxs, List.map_set]
    have h1 : (xs.map FileM.pure)[j]? = some (FileM.pure ⟨f.name, p⟩) := by
      rw [List.getElem?_map, hf]
      show some (FileM.pure f) = _
      unfold FileM.pure
      rw [hpl]
    exact set_same h1
  · rw [List.getElem?_set] at hf'
    split at hf'
    · split at hf'
      · cases hf'
        exact hp.row_set hg (by decide)
      · cases hf'
    · exact (hown k f' (by omega) hf').row_set hg (by decide)
  · rw [List.getElem?_set, if_neg (by omega)]
    exact horig k (by omega)
/-- An operation stored anew in the row of operations. -/
theorem op_step {w : World} {lo g c n j : Nat} {xs os : List OpM} {o : OpM} {p : Byts} {cur : Array Value} (hrow : w.ownsRow lo 28 4 (.slice (some ⟨g, 0, none⟩) n c) n (xs.flatMap OpM.cs)) (hg : w.heap[g]? = some (.cells cur 28 (0, 0)))
    (ho : xs[j]? = some o) (hpl : p.l = o.p.l) (hp : OwnB w p) (hxs : xs.map OpM.pure = os.map OpM.pure) (hown : ∀ k o, k < j → xs[k]? = some o → OwnB w o.p) (horig : ∀ k, j ≤ k → xs[k]? = os[k]?) :
    ((((w.setCell ⟨g, j * 4, none⟩ (.int .u8 o.kind)).setCell ⟨g, j * 4 + 1, none⟩ (.string o.name)).setCell ⟨g, j * 4 + 2, none⟩ (.string o.to)).setCell ⟨g, j * 4 + 3, none⟩ (.slice p.A p.n p.c)).ownsRow lo 28 4 (.slice (some ⟨g, 0, none⟩) n c) n ((xs.set j ⟨o.kind, o.name, o.to, p⟩).flatMap OpM.cs) ∧
      (xs.set j ⟨o.kind, o.name, o.to, p⟩).map OpM.pure = os.map OpM.pure ∧
      (∀ k o', k < j + 1 → (xs.set j ⟨o.kind, o.name, o.to, p⟩)[k]? = some o' → OwnB ((((w.setCell ⟨g, j * 4, none⟩ (.int .u8 o.kind)).setCell ⟨g, j * 4 + 1, none⟩ (.string o.name)).setCell ⟨g, j * 4 + 2, none⟩ (.string o.to)).setCell ⟨g, j * 4 + 3, none⟩ (.slice p.A p.n p.c)) o'.p) ∧
      (∀ k, j + 1 ≤ k → (xs.set j ⟨o.kind, o.name, o.to, p⟩)[k]? = os[k]?) ∧
      ∀ q : Byts, OwnB w q → OwnB ((((w.setCell ⟨g, j * 4, none⟩ (.int .u8 o.kind)).setCell ⟨g, j * 4 + 1, none⟩ (.string o.name)).setCell ⟨g, j * 4 + 2, none⟩ (.string o.to)).setCell ⟨g, j * 4 + 3, none⟩ (.slice p.A p.n p.c)) q := by
  have key : ∀ q : Byts, OwnB w q → OwnB ((((w.setCell ⟨g, j * 4, none⟩ (.int .u8 o.kind)).setCell ⟨g, j * 4 + 1, none⟩ (.string o.name)).setCell ⟨g, j * 4 + 2, none⟩ (.string o.to)).setCell ⟨g, j * 4 + 3, none⟩ (.slice p.A p.n p.c)) q := fun q hq =>
    (((hq.row_set hg (by decide)).row_set (heap_set hg _) (by decide)).row_set (heap_set (heap_set hg _) _) (by decide)).row_set (heap_set (heap_set (heap_set hg _) _) _) (by decide)
  refine ⟨?_, ?_, fun k o' hk ho' => ?_, fun k hk => ?_, key⟩
  · have h1 := ((((hrow.stored (j * 4) (.int .u8 o.kind)).1.stored (j * 4 + 1) (.string o.name)).1.stored (j * 4 + 2) (.string o.to)).1.stored (j * 4 + 3) (.slice p.A p.n p.c)).1
    rw [set_op xs j o p ho] at h1
    exact h1
  · rw [← hxs, List.map_set]
    have h1 : (xs.map OpM.pure)[j]? = some (OpM.pure ⟨o.kind, o.name, o.to, p⟩) := by
      rw [List.getElem?_map, ho]
      show some (OpM.pure o) = _
      unfold OpM.pure
      rw [hpl]
    exact set_same h1
  · rw [List.getElem?_set] at ho'
    split at ho'
    · split at ho'
      · cases ho'
        exact key _ hp
      · cases ho'
    · exact key _ (hown k o' (by omega) ho')
  · rw [List.getElem?_set, if_neg (by omega)]
    exact horig k (by omega)
theorem put5_row {w : World} {base : Nat} {e : TypeId} {size n : Nat} {v : Value} {xs : List Value} {z : Nat} {a b c d e' a' b' c' d' e'' : Value} (h : w.ownsRow base e size v n xs) (hz : Box5 w z 25 a b c d e') (hne : e ≠ 25) : (put5 w z a' b' c' d' e'').ownsRow base e size v n xs :=
  own_other (own_other (own_other (own_other (own_other h hz hne) (hz.s0 _) hne) ((hz.s0 _).s1 _) hne) (((hz.s0 _).s1 _).s2 _) hne) ((((hz.s0 _).s1 _).s2 _).s3 _) hne
/-- A post of what goes on alone. -/
def AtEnd (R : Act → World → Prop) : Exit → Act → World → Prop
  | .normal, a, w => R a w
  | _, _, _ => False
theorem AtEnd.out {R : Act → World → Prop} {e : Exit} {a : Act} {w : World} (h : AtEnd R e a w) : e = .normal ∧ R a w := by
  cases e <;> first | exact ⟨rfl, h⟩ | exact h.elim
/-- All old blocks but one. -/
def OldBut (n g : Nat) (k : Nat) : Prop := k < n ∧ k ≠ g

set_option maxRecDepth 100000 in
set_option maxHeartbeats 4000000 in
theorem dev_own {w : World} {fl : List FileP} {qu : List OpP} {q u : Int} {dd : Bool} {A : Option Addr} {n c : Nat} {B : Option Addr} {m k : Nat} (h : DAt w ⟨fl, qu, q, u, dd⟩ A n c B m k) (hs : Small ⟨fl, qu, q, u, dd⟩) :
    Calls Try.prog 27 #[.agg #[.slice A n c, .slice B m k, .int .i64 q, .int .i64 u, .bool dd]] w fun e w' =>
      (∃ A' c' B' k' fs' os', e = .returned (.agg #[.slice A' n c', .slice B' m k', .int .i64 q, .int .i64 u, .bool dd]) ∧ DOwn w' w.heap.size ⟨fl, qu, q, u, dd⟩ A' n c' B' m k' fs' os') ∧ Below w.heap.size w w' := by
  obtain ⟨fs, hf, e1⟩ := h.files
  obtain ⟨os, ho, e2⟩ := h.queue
  have hl := h.len
  have hn : n ≤ 1000 := by rw [← hl.1]; exact hs.files
  have hm : m ≤ 1000 := by rw [← hl.2]; exact hs.queue
  have Hl := Lib.hid hf.len
  have Hl' := Lib.hid ho.len
  have Hfb := Lib.hid (fbytes_m hf e1 hs.fbytes)
  have Hob := Lib.hid (obytes_m ho e2 hs.obytes)
  have E1 := Lib.hid e1
  have E2 := Lib.hid e2
  clear hl h hs e1 e2
  go_enter Try.func27, Try.ntmps27
  go_wp2_with fail
  obtain ⟨z, hz⟩ : ∃ z, z = w.heap.size := ⟨_, rfl⟩
  obtain ⟨wa, hwa⟩ : ∃ wa, wa = w.alloc (.cells #[.slice A n c, .slice B m k, .int .i64 q, .int .i64 u, .bool dd] 25) := ⟨_, rfl⟩
  obtain ⟨w0, hw0⟩ : ∃ w0, w0 = wa.alloc (.cells #[.slice none 0 0, .slice none 0 0, .int .i64 0, .int .i64 0, .bool false] 25) := ⟨_, rfl⟩
  have hsa : wa.heap.size = z + 1 := by rw [hwa, hz]; simp
  have hs0 : w0.heap.size = z + 2 := by rw [hw0]; simp [hsa]
  have hBa : Below w.heap.size w wa := by rw [hwa]; exact (Below.refl _ _).alloc (Nat.le_refl _) _
  have hB0 : Below w.heap.size w w0 := by rw [hw0]; exact hBa.alloc hBa.size _
  have bz0 : Box5 w0 z 25 (.slice A n c) (.slice B m k) (.int .i64 q) (.int .i64 u) (.bool dd) := by
    have h1 : Box5 wa z 25 (.slice A n c) (.slice B m k) (.int .i64 q) (.int .i64 u) (.bool dd) := by rw [hwa, hz]; exact World.alloc_heap_new w _
    exact h1.below (by rw [hw0]; exact (Below.refl _ _).alloc (Nat.le_refl _) _)
  have br0 : Box5 w0 (z + 1) 25 (.slice none 0 0) (.slice none 0 0) (.int .i64 0) (.int .i64 0) (.bool false) := by rw [hw0, ← hsa]; exact World.alloc_heap_new wa _
  have he : w0 = (w.alloc (.cells #[.slice A n c, .slice B m k, .int .i64 q, .int .i64 u, .bool dd] 25)).alloc (.cells #[.slice none 0 0, .slice none 0 0, .int .i64 0, .int .i64 0, .bool false] 25) := by rw [hw0, hwa]
  rw [← he, ← hz]
  have hzw : w.heap.size ≤ z := by omega
  have H0 := Lib.hid hs0
  have hf0 := hf.on hB0 hB0.size
  have ho0 := ho.on hB0 hB0.size
  have bd : Below w0.heap.size w0 w0.drew := (Below.refl _ _).drew
  have Hf0 := Lib.hid (hf0.on bd bd.size)
  have Ho0 := Lib.hid ho0
  have Bz0 := Lib.hid bz0
  obtain ⟨⟨k0, k1, k2, k3, k4⟩, g0, g1, g2, g3, g4⟩ := box5 (bz0.below bd)
  clear hwa hw0 he hsa hs0 hBa hz hf0 ho0
  go_wp2_with fail
  refine wp_mono (Q := AtEnd fun a' w' => ∃ A4 c4 B5 k5 w5, (n ≤ c4 ∧ m ≤ k5 ∧ w5.ownsRow w.heap.size 47 2 (.slice A4 n c4) n (fs.flatMap FileM.cs) ∧ w5.ownsRow w.heap.size 28 4 (.slice B5 m k5) m (os.flatMap OpM.cs) ∧ Below w0.heap.size w0 w5) ∧
    a' = { tmps := #[.agg #[.slice A n c, .slice B m k, .int .i64 q, .int .i64 u, .bool dd], .pointer (some ⟨z, 0, none⟩), .pointer (some ⟨z + 1, 0, none⟩), undef, undef, undef, undef, .pointer (some ⟨z, 0, none⟩), .slice A n c, .slice A4 n c4, .pointer (some ⟨z, 1, none⟩), .slice B m k, .slice B5 m k5, .pointer (some ⟨z, 0, none⟩), .pointer (some ⟨z, 1, none⟩), undef, undef, undef, undef, undef, undef, undef, undef, undef, undef, undef, undef, undef, undef, undef, undef, undef, undef, undef, undef, undef, undef, undef, undef, undef, undef, undef, undef, undef, undef, undef, undef, undef], defers := [] } ∧
    w' = (w5.setCell ⟨z, 0, none⟩ (.slice A4 n c4)).setCell ⟨z, 1, none⟩ (.slice B5 m k5)) ?reg ?rest
  case reg =>
    go_region_with (first
      | (go_at_call 52; (with_reducible refine (dev_cloneF A n c fs w0.drew Hf0.out (by omega)).mono ?_); rintro e w4 ⟨⟨A4, c4, rfl, hc4, hr4⟩, hb4⟩; (have hB4 : Below w0.heap.size w0 w4 := bd.trans (hb4.mono bd.size)); obtain ⟨⟨p0, p1, p2, p3, p4⟩, t0, t1, t2, t3, t4⟩ := box5 (Bz0.out.below hB4))
      | (go_at_call 53; (with_reducible refine (dev_cloneO B m k os w4 (Ho0.out.on hB4 hB4.size) (by omega)).mono ?_); rintro e w5 ⟨⟨B5, k5, rfl, hk5, hr5⟩, hb5⟩; (have hB5 : Below w0.heap.size w0 w5 := hB4.trans (hb5.mono hB4.size)); obtain ⟨⟨r0, r1, r2, r3, r4⟩, s0, s1, s2, s3, s4⟩ := box5 (Bz0.out.below hB5)))
    all_goals exact ⟨A4, c4, B5, k5, w5, ⟨hc4, hk5, (own_below hr4 hb5).mono (Nat.le_trans hB0.size bd.size), hr5.mono (Nat.le_trans hB0.size hB4.size), hB5⟩, rfl, rfl⟩
  case rest =>
    intro e a' w' hend
    obtain ⟨rfl, A4, c4, B5, k5, w5, ⟨hc4, hk5, hr4, hr5, hB5⟩, rfl, rfl⟩ := hend.out
    obtain ⟨w6, hw6⟩ : ∃ w6, w6 = (w5.setCell ⟨z, 0, none⟩ (.slice A4 n c4)).setCell ⟨z, 1, none⟩ (.slice B5 m k5) := ⟨_, rfl⟩
    have bz6 : Box5 w6 z 25 (.slice A4 n c4) (.slice B5 m k5) (.int .i64 q) (.int .i64 u) (.bool dd) := by rw [hw6]; exact ((Bz0.out.below hB5).s0 _).s1 _
    have br6 : Box5 w6 (z + 1) 25 (.slice none 0 0) (.slice none 0 0) (.int .i64 0) (.int .i64 0) (.bool false) := by rw [hw6]; exact ((br0.below hB5).other (by omega) _).other (by omega) _
    have hB6 : Below w.heap.size w w6 := by rw [hw6]; exact ((hB0.trans (hB5.mono hB0.size)).setCell (p := ⟨z, 0, none⟩) hzw _).setCell (p := ⟨z, 1, none⟩) hzw _
    have hr6 : w6.ownsRow w.heap.size 47 2 (.slice A4 n c4) n (fs.flatMap FileM.cs) := by
      rw [hw6]
      exact own_other (own_other hr4 (Bz0.out.below hB5) (by decide)) ((Bz0.out.below hB5).s0 _) (by decide)
    have hq6 : w6.ownsRow w.heap.size 28 4 (.slice B5 m k5) m (os.flatMap OpM.cs) := by
      rw [hw6]
      exact own_other (own_other hr5 (Bz0.out.below hB5) (by decide)) ((Bz0.out.below hB5).s0 _) (by decide)
    rw [← hw6]
    have Hw6 := Lib.hid hB6
    clear hw6 hr4 hr5 hB5 Hf0 Ho0 Bz0 br0 bd k0 k1 k2 k3 k4 g0 g1 g2 g3 g4 hB0 bz0
    obtain ⟨⟨k0, k1, k2, k3, k4⟩, _⟩ := box5 bz6
    go_wp2_with fail
    go_loopw [18] (fun i wr => ∃ (j : Nat) (xs : List FileM), j ≤ n ∧ i = .int .i64 j ∧ wr.ownsRow w.heap.size 47 2 (.slice A4 n c4) n (xs.flatMap FileM.cs) ∧ xs.map FileM.pure = fs.map FileM.pure ∧ (∀ k f, k < j → xs[k]? = some f → OwnB wr f.p) ∧ (∀ k, j ≤ k → xs[k]? = fs[k]?) ∧
      wr.ownsRow w.heap.size 28 4 (.slice B5 m k5) m (os.flatMap OpM.cs) ∧ Box5 wr z 25 (.slice A4 n c4) (.slice B5 m k5) (.int .i64 q) (.int .i64 u) (.bool dd) ∧ Box5 wr (z + 1) 25 (.slice none 0 0) (.slice none 0 0) (.int .i64 0) (.int .i64 0) (.bool false) ∧ Below w.heap.size w wr) (fun i _ => n - (intOf i).toNat)
    case atStart => exact ⟨0, fs, Nat.zero_le _, rfl, hr6, rfl, fun k f hk => by omega, fun k _ => rfl, hq6, bz6, br6, Hw6.out⟩
    case round =>
      obtain ⟨j, xs, hj, rfl, hrow, hxs, hown, horig, hq, bz, br, hB⟩ := hrel
      clear hr6 hq6 bz6 br6 k0 k1 k2 k3 k4
      by_cases hlt : j < n
      · obtain ⟨g, rfl, hgw, hgl, cur, hgc⟩ := own_block hrow (by omega)
        obtain ⟨f, hf1⟩ : ∃ f, xs[j]? = some f := by
          have h1 : xs.length = n := by have := congrArg List.length hxs; rw [List.length_map, List.length_map, Hl.out] at this; exact this
          exact ⟨_, List.getElem?_eq_getElem (by omega)⟩
        have hf2 : fs[j]? = some f := by rw [← horig j (Nat.le_refl _), hf1]
        have hfm : f ∈ fs := List.mem_of_getElem? hf2
        have hbf : f.p.n ≤ 1048576 := Hfb.out f hfm
        have hj2 : (0 : Int) ≤ (j : Int) := by omega
        have hj3 : (j : Int) < (n : Int) := by omega
        have hw1 : IntKind.i64.wrap ((j : Int) + 1) = ((j + 1 : Nat) : Int) := by rw [IntKind.wrap_i64]; omega
        have c0 : wr.cell? ⟨g, j * 2, none⟩ = some (.string f.name) := by
          rw [hrow.cellAt _ (by omega), flat_get FileM.cs (by omega) FileM.len, show j * 2 / 2 = j by omega, show j * 2 % 2 = 0 by omega, hf1]
          rfl
        have c1 : wr.cell? ⟨g, j * 2 + 1, none⟩ = some (.slice f.p.A f.p.n f.p.c) := by
          rw [hrow.cellAt _ (by omega), flat_get FileM.cs (by omega) FileM.len, show (j * 2 + 1) / 2 = j by omega, show (j * 2 + 1) % 2 = 1 by omega, hf1]
          rfl
        have f1 := hrow.frozenAt (j * 2 + 1)
        obtain ⟨y, hy⟩ : ∃ y, y = wr.heap.size := ⟨_, rfl⟩
        obtain ⟨wx, hwx⟩ : ∃ wx, wx = wr.alloc (.cells #[.string f.name, .slice f.p.A f.p.n f.p.c] 47) := ⟨_, rfl⟩
        have bx : Below wr.heap.size wr wx := by rw [hwx]; exact (Below.refl _ _).alloc (Nat.le_refl _) _
        have hx2 : Box2 wx y f := by rw [hwx, hy]; exact World.alloc_heap_new wr _
        have hsx : wx.heap.size = y + 1 := by rw [hwx, hy]; simp
        have bzx := bz.below bx
        have hBx : Below w.heap.size w wx := hB.trans (bx.mono hB.size)
        have hgx : g < wx.heap.size := Nat.lt_of_lt_of_le hgl bx.size
        have hzg : z ≠ g := fun e => by
          rw [← e, show wr.heap[z]? = _ from bz] at hgc
          cases hgc
        have hzg1 : z + 1 ≠ g := fun e => by
          rw [← e, show wr.heap[z + 1]? = _ from br] at hgc
          cases hgc
        have hyg : y ≠ g := by omega
        have hC5 : ∀ k, OldBut wx.heap.size g k → k < wx.heap.size := fun k hk => hk.1
        have Hcells := Lib.hid (show ∀ W, KeepC (OldBut wx.heap.size g) wx W → KeepC (OldBut wx.heap.size g) wx W ∧ W.cell? ⟨z, 0, none⟩ = some (.slice (some ⟨g, 0, none⟩) n c4) ∧ W.cell? ⟨y, 1, none⟩ = some (.slice f.p.A f.p.n f.p.c) from fun W hW =>
          ⟨hW, (hW.cell (p := ⟨z, 0, none⟩) ⟨bzx.lt, hzg⟩).trans (box5 bzx).1.1, (hW.cell (p := ⟨y, 1, none⟩) ⟨by rw [hsx]; exact Nat.lt_succ_self _, hyg⟩).trans (box2 hx2).1.2⟩)
        have bd : Below wx.heap.size wx wx.drew := (Below.refl _ _).drew
        have Hok := Lib.hid ((hf.on (hBx.trans (bd.mono hBx.size)) (Nat.le_trans hBx.size bd.size)).ok f hfm)
        have HX := Lib.hid (⟨own_below hrow bx, own_below hq bx, bzx, br.below bx, hBx, hsx, hgx, hgw, (bx.block g hgl).trans hgc⟩ : _ ∧ _ ∧ _ ∧ _ ∧ _ ∧ _ ∧ _ ∧ _ ∧ _)
        have Hown := Lib.hid (show ∀ k f, k < j → xs[k]? = some f → OwnB wx f.p from fun k f hk hf => (hown k f hk hf).below bx)
        have Hxs := Lib.hid hxs
        have Horig := Lib.hid horig
        have Hf1 := Lib.hid hf1
        have Hx := Lib.hid (⟨cells_below bx hgl, cells_below bx hgl, hzg, hzg1, hyg⟩ : (wx.cell? ⟨g, j * 2 + 1, none⟩ = _ ∧ _) ∧ (wx.cell? ⟨g, j * 2, none⟩ = _ ∧ wx.frozen? ⟨g, j * 2, none⟩ = _) ∧ z ≠ g ∧ z + 1 ≠ g ∧ y ≠ g)
        have Hc1 := Lib.hid c1
        have Hfz := Lib.hid f1
        have Hgg := Lib.hid (show ¬ OldBut wx.heap.size g g from fun h => h.2 rfl)
        clear hown horig hxs hf1 hf2 hfm bz br hrow hq hB bzx hBx hgx hsx hx2 hzg hzg1 hyg hgc
        go_wp2_with fail
        rw [← hwx, ← hy]
        have Hy := Lib.hid hy
        clear hwx hy bx c0 c1 f1
        go_region_held3 (fun W => KeepC (OldBut wx.heap.size g) wx W ∧ W.cell? ⟨z, 0, none⟩ = some (.slice (some ⟨g, 0, none⟩) n c4) ∧ W.cell? ⟨y, 1, none⟩ = some (.slice f.p.A f.p.n f.p.c))
          (exact Hcells.out _ (by first | exact KeepC.refl _ _ | exact (KeepC.refl _ _).drew | assumption | exact And.left (by assumption) | exact KeepC.set (by assumption) Hgg.out _))
          (first
            | (go_at_call 54; (with_reducible refine (dev_clone f.p wx.drew Hok.out (by omega)).mono ?_); rintro e w4 ⟨⟨p, rfl, hpl, hp, hpg⟩, hb4⟩; (have hB4 : Below wx.heap.size wx w4 := bd.trans (hb4.mono bd.size)); (have k4 : KeepC (OldBut wx.heap.size g) wx w4 := keepC_of hB4 hC5); (have hc4' : w4.cell? ⟨g, j * 2 + 1, none⟩ = some (.slice f.p.A f.p.n f.p.c) := (cells_below hB4 HX.out.2.2.2.2.2.2.1).1.trans (Hx.out.1.1.trans Hc1.out)); (have hf4' : w4.frozen? ⟨g, j * 2 + 1, none⟩ = false := (cells_below hB4 HX.out.2.2.2.2.2.2.1).2.trans (Hx.out.1.2.trans Hfz.out))))
        have own4 := own_below HX.out.1 hB4
        have hg4 := (hB4.block g HX.out.2.2.2.2.2.2.1).trans HX.out.2.2.2.2.2.2.2.2
        have Hst := Lib.hid (file_step (fs := fs) own4 hg4 Hf1.out hpl hp Hxs.out (fun k f hk hf => (Hown.out k f hk hf).below hB4) Horig.out)
        have Hre := Lib.hid (show (w4.setCell ⟨g, j * 2 + 1, none⟩ (.slice p.A p.n p.c)).ownsRow w.heap.size 28 4 (.slice B5 m k5) m (os.flatMap OpM.cs) ∧ Box5 (w4.setCell ⟨g, j * 2 + 1, none⟩ (.slice p.A p.n p.c)) z 25 (.slice (some ⟨g, 0, none⟩) n c4) (.slice B5 m k5) (.int .i64 q) (.int .i64 u) (.bool dd) ∧
            Box5 (w4.setCell ⟨g, j * 2 + 1, none⟩ (.slice p.A p.n p.c)) (z + 1) 25 (.slice none 0 0) (.slice none 0 0) (.int .i64 0) (.int .i64 0) (.bool false) ∧ Below w.heap.size w (w4.setCell ⟨g, j * 2 + 1, none⟩ (.slice p.A p.n p.c)) from
          ⟨own_other (own_below HX.out.2.1 hB4) hg4 (by decide), (HX.out.2.2.1.below hB4).other Hx.out.2.2.1 _, (HX.out.2.2.2.1.below hB4).other Hx.out.2.2.2.1 _, (HX.out.2.2.2.2.1.trans (hB4.mono HX.out.2.2.2.2.1.size)).setCell (p := ⟨g, j * 2 + 1, none⟩) HX.out.2.2.2.2.2.2.2.1 _⟩)
        clear own4 hg4 hB4 k4 hb4 hp hpl hpg hc4' hf4'
        go_wp2_with fail
        go_roundw
        case rel => exact ⟨j + 1, _, by omega, by go_num, Hst.out.1, Hst.out.2.1, Hst.out.2.2.1, Hst.out.2.2.2, Hre.out.1, Hre.out.2.1, Hre.out.2.2.1, Hre.out.2.2.2⟩
        case measure => simp [intOf]; omega
      · obtain rfl : j = n := by omega
        have hxl : xs.length = j := by have := congrArg List.length hxs; rw [List.length_map, List.length_map, Hl.out] at this; exact this
        have hall : ∀ f ∈ xs, OwnB wr f.p := fun f hf => by
          obtain ⟨i, hi, rfl⟩ := List.mem_iff_getElem.1 hf
          exact hown i _ (by omega) (List.getElem?_eq_getElem hi)
        obtain ⟨wL, hwL⟩ : ∃ wL, wL = wr := ⟨_, rfl⟩
        rw [← hwL] at hrow hall hq bz br hB ⊢
        have HL := Lib.hid (⟨hrow, hall, hq, bz, br, hB⟩ : _ ∧ _ ∧ _ ∧ _ ∧ _ ∧ _)
        have Hxs := Lib.hid hxs
        have hBl := hB.size
        obtain ⟨⟨k0, k1, k2, k3, k4⟩, _⟩ := box5 bz
        clear hwL hrow hall hq bz br hB hown horig hxs hxl
        go_wp2_with fail
        go_loopw [35] (fun i wr => ∃ (r : Nat) (ys : List OpM), r ≤ m ∧ i = .int .i64 r ∧ wr.ownsRow w.heap.size 47 2 (.slice A4 j c4) j (xs.flatMap FileM.cs) ∧ (∀ f ∈ xs, OwnB wr f.p) ∧ wr.ownsRow w.heap.size 28 4 (.slice B5 m k5) m (ys.flatMap OpM.cs) ∧ ys.map OpM.pure = os.map OpM.pure ∧
          (∀ k o, k < r → ys[k]? = some o → OwnB wr o.p) ∧ (∀ k, r ≤ k → ys[k]? = os[k]?) ∧ Box5 wr z 25 (.slice A4 j c4) (.slice B5 m k5) (.int .i64 q) (.int .i64 u) (.bool dd) ∧ Box5 wr (z + 1) 25 (.slice none 0 0) (.slice none 0 0) (.int .i64 0) (.int .i64 0) (.bool false) ∧ Below w.heap.size w wr) (fun i _ => m - (intOf i).toNat)
        case atStart => exact ⟨0, os, Nat.zero_le _, rfl, HL.out.1, HL.out.2.1, HL.out.2.2.1, rfl, fun k o hk => by omega, fun k _ => rfl, HL.out.2.2.2.1, HL.out.2.2.2.2.1, HL.out.2.2.2.2.2⟩
        case round =>
          obtain ⟨r, ys, hr, rfl, hrow, hall, hq, hys, hown, horig, bz, br, hB⟩ := hrel
          clear k0 k1 k2 k3 k4
          by_cases hlt2 : r < m
          · obtain ⟨g, rfl, hgw, hgl, cur, hgc⟩ := own_block hq (by omega)
            obtain ⟨o, ho1⟩ : ∃ o, ys[r]? = some o := by
              have h1 : ys.length = m := by have := congrArg List.length hys; rw [List.length_map, List.length_map, Hl'.out] at this; exact this
              exact ⟨_, List.getElem?_eq_getElem (by omega)⟩
            have ho2 : os[r]? = some o := by rw [← horig r (Nat.le_refl _), ho1]
            have hom : o ∈ os := List.mem_of_getElem? ho2
            have hbo : o.p.n ≤ 1048576 := Hob.out o hom
            have hj2 : (0 : Int) ≤ (r : Int) := by omega
            have hj3 : (r : Int) < (m : Int) := by omega
            have hw1 : IntKind.i64.wrap ((r : Int) + 1) = ((r + 1 : Nat) : Int) := by rw [IntKind.wrap_i64]; omega
            have c0 : wr.cell? ⟨g, r * 4, none⟩ = some (.int .u8 o.kind) := by
              rw [hq.cellAt _ (by omega), flat_get OpM.cs (by omega) OpM.len, show r * 4 / 4 = r by omega, show r * 4 % 4 = 0 by omega, ho1]
              rfl
            have c1 : wr.cell? ⟨g, r * 4 + 1, none⟩ = some (.string o.name) := by
              rw [hq.cellAt _ (by omega), flat_get OpM.cs (by omega) OpM.len, show (r * 4 + 1) / 4 = r by omega, show (r * 4 + 1) % 4 = 1 by omega, ho1]
              rfl
            have c2 : wr.cell? ⟨g, r * 4 + 2, none⟩ = some (.string o.to) := by
              rw [hq.cellAt _ (by omega), flat_get OpM.cs (by omega) OpM.len, show (r * 4 + 2) / 4 = r by omega, show (r * 4 + 2) % 4 = 2 by omega, ho1]
              rfl
            have c3 : wr.cell? ⟨g, r * 4 + 3, none⟩ = some (.slice o.p.A o.p.n o.p.c) := by
              rw [hq.cellAt _ (by omega), flat_get OpM.cs (by omega) OpM.len, show (r * 4 + 3) / 4 = r by omega, show (r * 4 + 3) % 4 = 3 by omega, ho1]
              rfl
            have hfz := hq.frozenAt
            obtain ⟨y, hy⟩ : ∃ y, y = wr.heap.size := ⟨_, rfl⟩
            obtain ⟨wx, hwx⟩ : ∃ wx, wx = wr.alloc (.cells #[.int .u8 o.kind, .string o.name, .string o.to, .slice o.p.A o.p.n o.p.c] 28) := ⟨_, rfl⟩
            have bx : Below wr.heap.size wr wx := by rw [hwx]; exact (Below.refl _ _).alloc (Nat.le_refl _) _
            have hx4 : Box4 wx y o := by rw [hwx, hy]; exact World.alloc_heap_new wr _
            have hsx : wx.heap.size = y + 1 := by rw [hwx, hy]; simp
            have bzx := bz.below bx
            have hBx : Below w.heap.size w wx := hB.trans (bx.mono hB.size)
            have hgx : g < wx.heap.size := Nat.lt_of_lt_of_le hgl bx.size
            have hzg : z ≠ g := fun e => by
              rw [← e, show wr.heap[z]? = _ from bz] at hgc
              cases hgc
            have hzg1 : z + 1 ≠ g := fun e => by
              rw [← e, show wr.heap[z + 1]? = _ from br] at hgc
              cases hgc
            have hyg : y ≠ g := by omega
            have hC5 : ∀ k, OldBut wx.heap.size g k → k < wx.heap.size := fun k hk => hk.1
            have Hcells := Lib.hid (show ∀ W, KeepC (OldBut wx.heap.size g) wx W → KeepC (OldBut wx.heap.size g) wx W ∧ W.cell? ⟨z, 1, none⟩ = some (.slice (some ⟨g, 0, none⟩) m k5) ∧ W.cell? ⟨y, 0, none⟩ = some (.int .u8 o.kind) ∧ W.cell? ⟨y, 1, none⟩ = some (.string o.name) ∧ W.cell? ⟨y, 2, none⟩ = some (.string o.to) ∧ W.cell? ⟨y, 3, none⟩ = some (.slice o.p.A o.p.n o.p.c) from fun W hW => by
              obtain ⟨⟨a0, a1, a2, a3⟩, _⟩ := box4 (hx4.keep hW ⟨by rw [hsx]; exact Nat.lt_succ_self _, hyg⟩)
              exact ⟨hW, (hW.cell (p := ⟨z, 1, none⟩) ⟨bzx.lt, hzg⟩).trans (box5 bzx).1.2.1, a0, a1, a2, a3⟩)
            have bd : Below wx.heap.size wx wx.drew := (Below.refl _ _).drew
            have Hok := Lib.hid (((ho.on (hBx.trans (bd.mono hBx.size)) (Nat.le_trans hBx.size bd.size)).ok o hom).1)
            have HX := Lib.hid (⟨own_below hrow bx, own_below hq bx, bzx, br.below bx, hBx, hsx, hgx, hgw, (bx.block g hgl).trans hgc⟩ : _ ∧ _ ∧ _ ∧ _ ∧ _ ∧ _ ∧ _ ∧ _ ∧ _)
            have Hown := Lib.hid (show (∀ k o, k < r → ys[k]? = some o → OwnB wx o.p) ∧ ∀ f ∈ xs, OwnB wx f.p from ⟨fun k f hk hf => (hown k f hk hf).below bx, fun f hf => (hall f hf).below bx⟩)
            have Hys := Lib.hid hys
            have Horig := Lib.hid horig
            have Ho1 := Lib.hid ho1
            have Hx := Lib.hid (⟨hzg, hzg1, hyg⟩ : _ ∧ _ ∧ _)
            have Hc := Lib.hid (show ∀ W, Below wx.heap.size wx W → (W.cell? ⟨g, r * 4, none⟩ = some (.int .u8 o.kind) ∧ W.cell? ⟨g, r * 4 + 1, none⟩ = some (.string o.name) ∧ W.cell? ⟨g, r * 4 + 2, none⟩ = some (.string o.to) ∧ W.cell? ⟨g, r * 4 + 3, none⟩ = some (.slice o.p.A o.p.n o.p.c)) ∧
                (W.frozen? ⟨g, r * 4, none⟩ = false ∧ W.frozen? ⟨g, r * 4 + 1, none⟩ = false ∧ W.frozen? ⟨g, r * 4 + 2, none⟩ = false ∧ W.frozen? ⟨g, r * 4 + 3, none⟩ = false) from fun W hW => by
              have h1 : ∀ i, W.cell? ⟨g, i, none⟩ = wr.cell? ⟨g, i, none⟩ ∧ W.frozen? ⟨g, i, none⟩ = wr.frozen? ⟨g, i, none⟩ := fun i => ⟨(cells_below hW hgx).1.trans (cells_below bx hgl).1, (cells_below hW hgx).2.trans (cells_below bx hgl).2⟩
              exact ⟨⟨(h1 _).1.trans c0, (h1 _).1.trans c1, (h1 _).1.trans c2, (h1 _).1.trans c3⟩, (h1 _).2.trans (hfz _), (h1 _).2.trans (hfz _), (h1 _).2.trans (hfz _), (h1 _).2.trans (hfz _)⟩)
            have Hgg := Lib.hid (show ¬ OldBut wx.heap.size g g from fun h => h.2 rfl)
            clear hown horig hys ho1 ho2 hom bz br hrow hall hq hB bzx hBx hgx hsx hx4 hzg hzg1 hyg hgc hfz
            go_wp2_with fail
            rw [← hwx, ← hy]
            have Hy := Lib.hid hy
            clear hwx hy bx c0 c1 c2 c3
            go_region_held3 (fun W => KeepC (OldBut wx.heap.size g) wx W ∧ W.cell? ⟨z, 1, none⟩ = some (.slice (some ⟨g, 0, none⟩) m k5) ∧ W.cell? ⟨y, 0, none⟩ = some (.int .u8 o.kind) ∧ W.cell? ⟨y, 1, none⟩ = some (.string o.name) ∧ W.cell? ⟨y, 2, none⟩ = some (.string o.to) ∧ W.cell? ⟨y, 3, none⟩ = some (.slice o.p.A o.p.n o.p.c))
              (exact Hcells.out _ (by first | exact KeepC.refl _ _ | exact (KeepC.refl _ _).drew | assumption | exact And.left (by assumption) | exact KeepC.set (KeepC.set (KeepC.set (KeepC.set (by assumption) Hgg.out _) Hgg.out _) Hgg.out _) Hgg.out _))
              (first
                | (go_at_call 32; (with_reducible refine (dev_ownOp o wx.drew Hok.out (by omega)).mono ?_); rintro e w4 ⟨⟨p, rfl, hpl, hp, hpg⟩, hb4⟩; (have hB4 : Below wx.heap.size wx w4 := bd.trans (hb4.mono bd.size)); (have k4 : KeepC (OldBut wx.heap.size g) wx w4 := keepC_of hB4 hC5); obtain ⟨⟨b0, b1, b2, b3⟩, d0, d1, d2, d3⟩ := Hc.out w4 hB4))
            have own4 := own_below HX.out.2.1 hB4
            have hg4 := (hB4.block g HX.out.2.2.2.2.2.2.1).trans HX.out.2.2.2.2.2.2.2.2
            have hst := op_step (os := os) own4 hg4 Ho1.out hpl hp Hys.out (fun k f hk hf => (Hown.out.1 k f hk hf).below hB4) Horig.out
            have Hst := Lib.hid hst
            have hmk' : ∀ W', W' = (((w4.setCell ⟨g, r * 4, none⟩ (.int .u8 o.kind)).setCell ⟨g, r * 4 + 1, none⟩ (.string o.name)).setCell ⟨g, r * 4 + 2, none⟩ (.string o.to)).setCell ⟨g, r * 4 + 3, none⟩ (.slice p.A p.n p.c) →
                (W'.ownsRow w.heap.size 47 2 (.slice A4 j c4) j (xs.flatMap FileM.cs) ∧ (∀ f ∈ xs, OwnB W' f.p) ∧ Box5 W' z 25 (.slice A4 j c4) (.slice (some ⟨g, 0, none⟩) m k5) (.int .i64 q) (.int .i64 u) (.bool dd) ∧ Box5 W' (z + 1) 25 (.slice none 0 0) (.slice none 0 0) (.int .i64 0) (.int .i64 0) (.bool false) ∧ Below w.heap.size w W') := by
              rintro W' rfl
              exact
                ⟨own_other (own_other (own_other (own_other (own_below HX.out.1 hB4) hg4 (by decide)) (heap_set hg4 (.int .u8 o.kind)) (by decide)) (heap_set (heap_set hg4 (.int .u8 o.kind)) (.string o.name)) (by decide)) (heap_set (heap_set (heap_set hg4 (.int .u8 o.kind)) (.string o.name)) (.string o.to)) (by decide),
                  (fun f hf => hst.2.2.2.2 f.p ((Hown.out.2 f hf).below hB4) : ∀ f ∈ xs, OwnB _ f.p),
                  ((((HX.out.2.2.1.below hB4).other Hx.out.1 _).other Hx.out.1 _).other Hx.out.1 _).other Hx.out.1 _, ((((HX.out.2.2.2.1.below hB4).other Hx.out.2.1 _).other Hx.out.2.1 _).other Hx.out.2.1 _).other Hx.out.2.1 _,
                  ((((HX.out.2.2.2.2.1.trans (hB4.mono HX.out.2.2.2.2.1.size)).setCell (p := ⟨g, r * 4, none⟩) HX.out.2.2.2.2.2.2.2.1 _).setCell (p := ⟨g, r * 4 + 1, none⟩) HX.out.2.2.2.2.2.2.2.1 _).setCell (p := ⟨g, r * 4 + 2, none⟩) HX.out.2.2.2.2.2.2.2.1 _).setCell (p := ⟨g, r * 4 + 3, none⟩) HX.out.2.2.2.2.2.2.2.1 _⟩
            have Hre := Lib.hid (hmk' _ rfl)
            clear own4 hg4 hB4 k4 hb4 hp hpl hpg b0 b1 b2 b3 d0 d1 d2 d3 hst hmk'
            go_wp2_with fail
            go_roundw
            case rel => exact ⟨r + 1, _, by omega, by go_num, Hre.out.1, Hre.out.2.1, Hst.out.1, Hst.out.2.1, Hst.out.2.2.1, Hst.out.2.2.2.1, Hre.out.2.2.1, Hre.out.2.2.2.1, Hre.out.2.2.2.2⟩
            case measure => simp [intOf]; omega
          · obtain rfl : r = m := by omega
            have hyl : ys.length = r := by have := congrArg List.length hys; rw [List.length_map, List.length_map, Hl'.out] at this; exact this
            have hallo : ∀ o ∈ ys, OwnB wr o.p ∧ 0 ≤ o.kind ∧ o.kind ≤ 255 := fun o ho' => by
              have hk : 0 ≤ o.kind ∧ o.kind ≤ 255 := by
                have h3 : o.pure ∈ os.map OpM.pure := by rw [← hys]; exact List.mem_map_of_mem ho'
                obtain ⟨o1, ho1, h4⟩ := List.mem_map.1 h3
                have h5 := (ho.ok o1 ho1).2
                have h6 : o1.kind = o.kind := congrArg OpP.kind h4
                rw [← h6]
                exact h5
              obtain ⟨i, hi, rfl⟩ := List.mem_iff_getElem.1 ho'
              exact ⟨hown i _ (by omega) (List.getElem?_eq_getElem hi), hk⟩
            have Hd := Lib.hid (show DOwn (put5 wr (z + 1) (.slice A4 j c4) (.slice B5 r k5) (.int .i64 q) (.int .i64 u) (.bool dd)) w.heap.size ⟨fl, qu, q, u, dd⟩ A4 j c4 B5 r k5 xs ys from
              ⟨hc4, hk5, put5_row hrow br (by decide), fun f hf => ⟨put5_row (hall f hf).1 br (by decide), (hall f hf).2⟩, Hxs.out.trans E1.out, put5_row hq br (by decide), fun o ho' => ⟨⟨put5_row (hallo o ho').1.1 br (by decide), (hallo o ho').1.2⟩, (hallo o ho').2⟩, hys.trans E2.out⟩)
            have Hb := Lib.hid (put5_below hB (show w.heap.size ≤ z + 1 by omega) (.slice A4 j c4) (.slice B5 r k5) (.int .i64 q) (.int .i64 u) (.bool dd))
            obtain ⟨⟨k0, k1, k2, k3, k4⟩, _⟩ := box5 bz
            obtain ⟨⟨r0, r1, r2, r3, r4⟩, t0, t1, t2, t3, t4⟩ := box5 br
            clear hrow hall hq hys hown horig bz br hB hallo
            go_wp2_with fail
            refine bodyPost_ret (v := .agg #[.slice A4 j c4, .slice B5 r k5, .int .i64 q, .int .i64 u, .bool dd]) (by simp [results, Try.results27, go_sem, *]) rfl ⟨⟨A4, c4, B5, k5, xs, ys, rfl, Hd.out⟩, Hb.out⟩

end Go.Proofs.Ytmfiopopiikbmaa
