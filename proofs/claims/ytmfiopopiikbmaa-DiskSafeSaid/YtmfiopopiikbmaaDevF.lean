/-
  The developers' used, now: their contracts.
-/
import Derived.Test.YtmfiopopiikbmaaDevE
import Derived.Test.YtmfiopopiikbmaaDevC
namespace Go.Proofs.Ytmfiopopiikbmaa
open Go.RowKit Go.Maps

theorem key_text_inv {key : Value} {kl : Lit} (h : keyOf Try.prog 9 key = some kl) : ∃ s, key = .string s ∧ kl = keyL s := by
  have hk : Try.prog.underlying 9 = some .string := Try.underlying9
  cases key <;> simp [keyOf, hk, mapKey] at h
  rename_i s
  exact ⟨s, rfl, h.2.symm⟩
/-- What a round of a range over the map of files is handed. -/
theorem ranged {fs : List FileM} {x : ByteArray} {c : Value} {kl : Lit} {y : DataW Value × List MemPlace} (hk : keyOf Try.prog 9 (.string x) = some kl) (hR : itself c = some y) (hat : ∀ zd, (mapD fs).atKey kl zd = y.1) :
    ∃ f, lookM fs x = some f ∧ c = .slice f.p.A f.p.n f.p.c ∧ kl = keyL x := by
  obtain ⟨s, e, rfl⟩ := key_text_inv hk
  cases e
  cases hR
  cases hl : lookM fs x with
  | none =>
    have h1 := hat .nil
    rw [at_mapD, hl] at h1
    cases h1
  | some f =>
    have h1 := hat .nil
    rw [at_mapD, hl] at h1
    refine ⟨f, rfl, ?_, rfl⟩
    cases h1
    rfl
/-- How many bytes those have that have come. -/
def restN (left : Lit → Bool) (fs : List FileM) : Nat := (fs.map fun f => if left (keyL f.name) then 0 else f.p.n).sum
theorem rest_cons (left : Lit → Bool) (f : FileM) (fs : List FileM) : restN left (f :: fs) = (if left (keyL f.name) then 0 else f.p.n) + restN left fs := by
  unfold restN
  rw [List.map_cons, List.sum_cons]
theorem rest_same {left left' : Lit → Bool} : ∀ fs : List FileM, (∀ f ∈ fs, left (keyL f.name) = left' (keyL f.name)) → restN left fs = restN left' fs
  | [], _ => rfl
  | f :: fs, h => by rw [rest_cons, rest_cons, h f (by simp), rest_same fs (fun g hg => h g (by simp [hg]))]
theorem rest_step {left : Lit → Bool} {x : ByteArray} : ∀ {fs : List FileM} {f : FileM}, SortM fs → lookM fs x = some f → left (keyL x) = true → restN (fun z => left z && !z.sameKey (keyL x)) fs = restN left fs + f.p.n
  | [], f, _, hl, _ => by cases hl
  | g :: fs, f, hs, hl, h => by
    have hs' := List.pairwise_cons.1 hs
    rw [rest_cons, rest_cons]
    unfold lookM at hl
    rw [List.find?_cons] at hl
    by_cases hg : g.name = x
    · rw [decide_eq_true hg] at hl
      cases hl
      subst hg
      rw [rest_same (left' := left) fs (fun y hy => by
        have h1 : lessL g.name y.name = true := hs'.1 y.pure (List.mem_map_of_mem hy)
        rw [key_same, decide_eq_false (fun e => less_ne h1 e.symm)]
        simp)]
      rw [key_same, h]
      simp
      omega
    · rw [decide_eq_false hg] at hl
      have ih := rest_step (fs := fs) (f := f) hs'.2 hl h
      rw [ih, key_same, decide_eq_false hg]
      simp
      omega
theorem rest_start (fs : List FileM) : ∀ gs : List FileM, (∀ f ∈ fs, f ∈ gs) → restN (Maps.has (mapD gs)) fs = 0 := by
  intro gs h
  induction fs with
  | nil => rfl
  | cons f fs ih =>
    rw [rest_cons, ih (fun g hg => h g (by simp [hg])), has_mapD]
    have h1 : (lookM gs f.name).isSome = true := List.find?_isSome.2 ⟨f, h f (by simp), by simp⟩
    rw [h1]
    rfl
theorem rest_end {left : Lit → Bool} (h : ∀ kl, left kl = false) : ∀ fs : List FileM, (∀ f ∈ fs, f.p.l.length = f.p.n) → restN left fs = sizeP (fs.map FileM.pure)
  | [], _ => rfl
  | f :: fs, hl => by
    rw [rest_cons, h, rest_end h fs (fun g hg => hl g (by simp [hg])), List.map_cons, size_cons]
    have := hl f (by simp)
    show f.p.n + _ = f.p.l.length + _
    rw [this]
theorem rest_le (left : Lit → Bool) : ∀ fs : List FileM, (∀ f ∈ fs, f.p.l.length = f.p.n) → restN left fs ≤ sizeP (fs.map FileM.pure)
  | [], _ => Nat.le_refl _
  | f :: fs, hl => by
    rw [rest_cons, List.map_cons, size_cons]
    have := rest_le left fs (fun g hg => hl g (by simp [hg]))
    have h2 := hl f (by simp)
    have h3 : f.pure.bytes.length = f.p.l.length := rfl
    split <;> omega

set_option maxRecDepth 100000 in
set_option maxHeartbeats 1000000 in
theorem dev_used {w : World} {C : Nat → Prop} {b n : Nat} {fs : List FileM} (h : FM w C b n fs) (hS : sizeP (fs.map FileM.pure) ≤ 4611686018427387904) :
    Calls Try.prog 51 #[.map (some b)] w fun e w' => e = .returned (.int .i64 (sizeP (fs.map FileM.pure) : Nat)) ∧ Below w.heap.size w w' := by
  have hown := h.map
  have Hlen := Lib.hid (fun f hf => (h.own f hf).len)
  have Hsort := Lib.hid h.sort
  go_enter Try.func51, Try.ntmps51
  go_wp2_with (first | (at_range; refine wpList_range_own _ rfl _ 59 rfl 9 26 text_keyed Try.underlying59 itself b n (mapD fs) rfl hown ?_; intro w0 hrg0 hg0 hs0))
  go_frame
  have hB0 : Below w.heap.size w w0 := (Below.refl _ w).grown hg0 (Nat.le_refl _) (fun k e => by cases e)
  clear h hown hg0
  go_loopw [3] (fun s wr => ∃ left cnt, wr.ranges Try.prog 9 itself b w.heap.size n (mapD fs) left cnt ∧ s = .int .i64 (restN left fs : Nat) ∧ Below w.heap.size w wr) (fun _ wr => wr.rangeLeft b w.heap.size)
  case atStart => exact ⟨_, _, hrg0, by rw [rest_start fs fs (fun _ hf => hf)]; rfl, hB0⟩
  case round =>
    obtain ⟨left, cnt, hrg, rfl, hB⟩ := hrel
    go_wp2_with (first | (at_next; refine wpList_next_ranges (α := ByteArray) (β := Value) _ rfl _ rfl 9 text_keyed itself (fun s => .string s) (fun v => v) (fun key kl hk => (key_text_inv hk).imp fun s hs => hs.1) (fun v _ _ => ⟨v, rfl⟩) b w.heap.size n (mapD fs) left cnt rfl hrg ?_ ?_))
    · intro _ hl0
      have He := Lib.hid (rest_end hl0 fs Hlen.out)
      clear hrg hl0
      go_wp2_with fail
      go_ret
      exact ⟨ret_int (by rw [He.out]), hB⟩
    · intro x c kl y1 y2 w1 cnt1 hkx hlk hR hat hrg1 hlt hg1 hs1 hen
      obtain ⟨f, hlf, rfl, rfl⟩ := ranged hkx hR hat
      have h1 := rest_step Hsort.out hlf hlk
      have h2 := rest_le (fun z => left z && !z.sameKey (keyL x)) fs Hlen.out
      have hw1 : IntKind.i64.wrap (((restN left fs : Nat) : Int) + (f.p.n : Int)) = ((restN (fun z => left z && !z.sameKey (keyL x)) fs : Nat) : Int) := by
        rw [h1] at h2 ⊢
        rw [IntKind.wrap_i64] <;> omega
      have Hr := Lib.hid (⟨hrg1, hrg.left_eq, hrg1.left_eq, hlt⟩ : _ ∧ _ ∧ _ ∧ _)
      have hB1 : Below w.heap.size w w1 := hB.grown hg1 hB.size (fun k e => by cases e; exact Nat.le_refl _)
      clear hkx hR hat hrg1 hlt hg1 hrg h1 h2 hlf hlk
      go_wp2_with fail
      go_roundw
      case rel => exact ⟨_, _, Hr.out.1, rfl, hB1⟩
      case measure => rw [Hr.out.2.1, Hr.out.2.2.1]; exact Hr.out.2.2.2

/-- The map of the files now. -/
def NowAt (w : World) (d : DiskP) (N : Nat) (e : Ending) (w' : World) : Prop := ∃ b fs', e = .returned (.map (some b)) ∧ FM w' (Old w.heap.size) b N fs' ∧ fs'.map FileM.pure = nowP d
theorem now_bnd {d : DiskP} (hs : Small d) : Bnd 2199023255552 (firstsP d.files) := (firsts_bnd hs.fbytes [] (fun f (hf : f ∈ []) => (by cases hf))).mono (by omega)

set_option maxRecDepth 100000 in
set_option maxHeartbeats 1000000 in
theorem dev_now {w : World} {fl : List FileP} {qu : List OpP} {q u : Int} {dd : Bool} {A : Option Addr} {n c : Nat} {B : Option Addr} {m k : Nat} (h : DAt w ⟨fl, qu, q, u, dd⟩ A n c B m k) (hs : Small ⟨fl, qu, q, u, dd⟩) (hn : Nms ⟨fl, qu, q, u, dd⟩) :
    Calls Try.prog 41 #[.agg #[.slice A n c, .slice B m k, .int .i64 q, .int .i64 u, .bool dd]] w fun e w' => NowAt w ⟨fl, qu, q, u, dd⟩ (n + m) e w' ∧ Below w.heap.size w w' := by
  obtain ⟨fs, hf, e1⟩ := h.files
  obtain ⟨os, ho, e2⟩ := h.queue
  have hl := h.len
  have hn1 : n ≤ 1000 := by rw [← hl.1]; exact hs.files
  have hm1 : m ≤ 1000 := by rw [← hl.2]; exact hs.queue
  have Hs := Lib.hid hs
  have Hn := Lib.hid hn
  have E1 := Lib.hid e1
  have E2 := Lib.hid e2
  clear hl h hs hn e1 e2
  go_enter Try.func41, Try.ntmps41
  go_wp2_with fail
  obtain ⟨z, hz⟩ : ∃ z, z = w.heap.size := ⟨_, rfl⟩
  obtain ⟨w0, hw0⟩ : ∃ w0, w0 = w.alloc (.cells #[.slice A n c, .slice B m k, .int .i64 q, .int .i64 u, .bool dd] 25) := ⟨_, rfl⟩
  have hB0 : Below w.heap.size w w0 := by rw [hw0]; exact (Below.refl _ _).alloc (Nat.le_refl _) _
  have bz0 : Box5 w0 z 25 (.slice A n c) (.slice B m k) (.int .i64 q) (.int .i64 u) (.bool dd) := by rw [hw0, hz]; exact World.alloc_heap_new w _
  rw [← hw0, ← hz]
  clear hw0 hz
  have hf0 := hf.on hB0 hB0.size
  refine (dev_safe B m k q u dd hf0 hn1 (fbytes_m hf E1.out Hs.out.fbytes) (by rw [E1.out]; exact Hn.out.files)).mono ?_
  rintro e w2 ⟨⟨b, fs2, rfl, h2, hp2⟩, hb2⟩
  have hB2 : Below w.heap.size w w2 := hB0.trans (hb2.mono hB0.size)
  have h2' : FM w2 (Old w.heap.size) b n fs2 := h2.more fun k _ hk => Nat.lt_of_lt_of_le hk hB0.size
  obtain ⟨⟨k0, k1, k2, k3, k4⟩, _⟩ := box5 (bz0.below hb2)
  have H2 := Lib.hid h2'
  have Hp2 := Lib.hid hp2
  have HB2 := Lib.hid hB2
  clear h2 hp2 hb2 bz0 hB0 hf0 h2' hB2
  go_wp2_with fail
  refine (dev_do (os := os) H2.out (fun k hk => Nat.lt_of_lt_of_le hk HB2.out.size) (fun W hW => ho.on (HB2.out.trans hW.old) (Nat.le_trans HB2.out.size hW.size)) (by omega) hm1 (by rw [E2.out]; exact Hn.out.queue) (obytes_m ho E2.out Hs.out.obytes)
    (by rw [Hp2.out, E1.out]; exact now_bnd Hs.out)).mono ?_
  rintro e w3 ⟨rfl, ⟨fs3, h3, hp3⟩, k5⟩
  have H3 := Lib.hid (⟨h3, hp3⟩ : _ ∧ _)
  have K5 := Lib.hid k5
  clear h3 hp3 k5 k0 k1 k2 k3 k4
  go_wp2_with fail
  go_ret
  exact ⟨⟨b, fs3, rfl, H3.out.1, by rw [H3.out.2, Hp2.out, E1.out, E2.out]; rfl⟩, HB2.out.trans K5.out.old⟩

end Go.Proofs.Ytmfiopopiikbmaa
