/-
  A map of files in memory: each file's bytes in a row of the call's own, no two in one; which blocks lie as they lay (C).
-/
import Derived.Test.YtmfiopopiikbmaaMapP
import Derived.Test.YtmfiopopiikbmaaOwnRows
import Derived.Maps.RangeWalk
namespace Go.Proofs.Ytmfiopopiikbmaa
open Go.RowKit Go.Maps

theorem text_keyed : Keyed Try.prog 9 := string_keyed Try.underlying9
theorem zero_row (w : World) : (zeroValue 26).run Try.prog w = .ok (.slice none 0 0) w := by kernel_rfl
theorem key_text {s : ByteArray} (hs : s.size ≤ maxLen) : keyOf Try.prog 9 (.string s) = some (keyL s) := WideMaps.keyOf_string_mk Try.underlying9 hs

/-- Of what was there the blocks of C lie as they lay. -/
structure KeepC (C : Nat → Prop) (w w' : World) : Prop where
  base : Below 0 w w'
  keep : ∀ k, C k → w'.heap[k]? = w.heap[k]?
section
variable {C C' : Nat → Prop} {a b c w w' : World} {n : Nat}
theorem KeepC.refl (C : Nat → Prop) (w : World) : KeepC C w w := ⟨Below.refl 0 w, fun _ _ => rfl⟩
theorem KeepC.trans (h : KeepC C a b) (k : KeepC C b c) : KeepC C a c := ⟨h.base.trans k.base, fun i hi => (k.keep i hi).trans (h.keep i hi)⟩
theorem KeepC.size (h : KeepC C a b) : a.heap.size ≤ b.heap.size := h.base.size
theorem KeepC.below (h : KeepC C a b) (hn : ∀ k, k < n → C k) : Below n a b := ⟨h.base.os, h.base.tape, h.base.output, h.base.size, fun k hk => h.keep k (hn k hk)⟩
theorem keepC_of (h : Below n a b) (hn : ∀ k, C k → k < n) : KeepC C a b := ⟨h.mono (Nat.zero_le _), fun k hk => h.block k (hn k hk)⟩
theorem KeepC.less (h : KeepC C a b) (hC : ∀ k, C' k → C k) : KeepC C' a b := ⟨h.base, fun k hk => h.keep k (hC k hk)⟩
theorem KeepC.drew (h : KeepC C a b) : KeepC C a b.drew := h.trans ⟨(Below.refl 0 b).drew, fun _ _ => rfl⟩
theorem KeepC.alloc (h : KeepC C a b) (hC : ∀ k, C k → k < a.heap.size) (o : Obj) : KeepC C a (b.alloc o) :=
  h.trans (keepC_of ((Below.refl b.heap.size b).alloc (Nat.le_refl _) o) fun k hk => Nat.lt_of_lt_of_le (hC k hk) h.size)
theorem KeepC.on (h : KeepC C a b) (hC : ∀ k, C k → k < a.heap.size) (hb : Below b.heap.size b c) : KeepC C a c :=
  h.trans (keepC_of hb fun k hk => Nat.lt_of_lt_of_le (hC k hk) h.size)
theorem KeepC.grown {row : Option Nat} (h : KeepC C a b) (hC : ∀ k, C k → k < a.heap.size) (hg : b.grownBy c row) (hr : ∀ k, row = some k → ¬ C k) : KeepC C a c :=
  h.trans ⟨(Below.refl 0 b).grown hg (Nat.zero_le _) (fun _ _ => Nat.zero_le _), fun k hk => hg.block k (Nat.lt_of_lt_of_le (hC k hk) h.size) (fun e => hr k e.symm hk)⟩
theorem KeepC.set {k i : Nat} (h : KeepC C a b) (hk : ¬ C k) (u : Value) : KeepC C a (b.setCell ⟨k, i, none⟩ u) :=
  h.trans ⟨(Below.refl 0 b).setCell (Nat.zero_le _) u, fun j hj => Below.heap_setCell _ _ _ j (fun e => hk (by subst e; exact hj))⟩
theorem KeepC.cell (h : KeepC C a b) {p : Addr} (hp : C p.block) : b.cell? p = a.cell? p := World.cell?_of_block (h.keep p.block hp)
theorem KeepC.frozen (h : KeepC C a b) {p : Addr} (hp : C p.block) : b.frozen? p = a.frozen? p := World.frozen?_of_block (h.keep p.block hp)
end

/-- A row of the call's own of those bytes. -/
def OwnB (w : World) (p : Byts) : Prop := w.ownsRow 0 5 1 p.v p.n (p.l.map (Value.int .u8)) ∧ Byt p.l
theorem OwnB.row {w : World} {p : Byts} (h : OwnB w p) : w.ownsRow 0 5 1 (.slice p.A p.n p.c) p.n (p.l.map (Value.int .u8)) := h.1
theorem OwnB.none_ (w : World) : OwnB w ⟨none, 0, 0, []⟩ := ⟨World.ownsRow_nil _ _ _ _, Byt.nil⟩
theorem OwnB.ok {w : World} {p : Byts} (h : OwnB w p) : p.Ok w w.heap.size := by
  obtain ⟨A, n, c, l⟩ := p
  refine ⟨Rd.of_own h.1, h.2, ?_⟩
  obtain ⟨A', c', e, hc⟩ := own_slice h.1
  cases e
  exact hc
theorem OwnB.len {w : World} {p : Byts} (h : OwnB w p) : p.l.length = p.n := h.ok.rd.1
theorem OwnB.kept {w w' : World} {p : Byts} {row : Option Nat} (h : OwnB w p) (hg : w.grownBy w' row) (hne : ∀ g, p.v.ownBlock = some g → some g ≠ row) : OwnB w' p :=
  ⟨h.1.kept hg (by
    cases hv : p.v.ownBlock with
    | none => exact .inl rfl
    | some g => exact .inr (hne g hv)), h.2⟩
theorem OwnB.below {w w' : World} {p : Byts} (h : OwnB w p) (hb : Below w.heap.size w w') : OwnB w' p := ⟨own_below h.1 hb, h.2⟩
theorem OwnB.lt {w : World} {p : Byts} (h : OwnB w p) {g : Nat} (hg : p.v.ownBlock = some g) : g < w.heap.size := (h.1.lt g hg).2
theorem OwnB.cells {w : World} {p : Byts} (h : OwnB w p) {g : Nat} (hg : p.v.ownBlock = some g) : ∃ cur, w.heap[g]? = some (.cells cur 5 (0, 0)) := by
  rcases h.1.2 with ⟨e, _⟩ | ⟨g', cap, cur, e, _, hh, _⟩
  · rw [e] at hg; cases hg
  · rw [e] at hg
    cases hg
    exact ⟨cur, hh⟩

/-- Block b is the map of those files; each one's bytes lie in a row of the call's own, no two of them in one; none of these blocks is one of C. -/
structure FM (w : World) (C : Nat → Prop) (b n : Nat) (fs : List FileM) : Prop where
  map : w.ownsMap Try.prog 9 itself b n (mapD fs)
  blk : ¬ C b
  sort : SortM fs
  own : ∀ f ∈ fs, OwnB w f.p
  off : ∀ f ∈ fs, ∀ g, f.p.v.ownBlock = some g → ¬ C g
  apart : ∀ f ∈ fs, ∀ f' ∈ fs, f.name ≠ f'.name → ∀ g, f.p.v.ownBlock = some g → f'.p.v.ownBlock ≠ some g

/-- What a look-up answers. -/
def lookV (fs : List FileM) (s : ByteArray) : Value := match lookM fs s with | some f => f.p.v | none => .slice none 0 0
section
variable {w w' : World} {C C' : Nat → Prop} {b n : Nat} {fs : List FileM}
theorem FM.map_obj (h : FM w C b n fs) : ∃ es clock, w.heap[b]? = some (.map es clock) := by
  obtain ⟨es, clock, hb, _⟩ := h.map
  exact ⟨es, clock, hb⟩
theorem FM.ne (h : FM w C b n fs) {p : Byts} (hp : OwnB w p) {g : Nat} (hg : p.v.ownBlock = some g) : g ≠ b := by
  intro e
  obtain ⟨cur, h1⟩ := hp.cells hg
  obtain ⟨es, clock, h2⟩ := h.map_obj
  rw [e, h2] at h1
  cases h1
theorem FM.lt (h : FM w C b n fs) : b < w.heap.size := h.map.lt
theorem FM.len (h : FM w C b n fs) : fs.length ≤ n := by
  have := h.map.size_le
  rwa [size_mapD] at this
theorem FM.below (h : FM w C b n fs) (hb : Below w.heap.size w w') : FM w' C b n fs := by
  obtain ⟨es, clock, h1, h2, h3, h4⟩ := h.map
  exact ⟨⟨es, clock, (hb.block b h.lt).trans h1, h2, h3, h4⟩, h.blk, h.sort, fun f hf => (h.own f hf).below hb, h.off, h.apart⟩
theorem FM.mono (h : FM w C b n fs) {m : Nat} (hm : n ≤ m) : FM w C b m fs := ⟨h.map.mono hm, h.blk, h.sort, h.own, h.off, h.apart⟩
theorem FM.more (h : FM w C b n fs) (hC : ∀ k, k < w.heap.size → C' k → C k) : FM w C' b n fs :=
  ⟨h.map, fun hc => h.blk (hC b h.lt hc), h.sort, h.own, fun f hf g hg hc => h.off f hf g hg (hC g ((h.own f hf).lt hg) hc), h.apart⟩
theorem FM.made {o : Nat} (ho : o = w.heap.size) (hC : ∀ k, C k → k < w.heap.size) : FM (w.alloc (.map #[] 0)) C o 0 [] := by
  subst ho
  exact ⟨World.ownsMap_made _ _ _ _, fun hc => Nat.lt_irrefl _ (hC _ hc), List.Pairwise.nil, fun f hf => (by cases hf), fun f hf => (by cases hf), fun f hf => (by cases hf)⟩
theorem FM.look_ok (h : FM w C b n fs) {s : ByteArray} (hs : s.size ≤ maxLen) : (Instr.lookup 59 (.map (some b)) (.string s) true).run Try.prog w = .ok (.tuple #[lookV fs s, .bool (lookM fs s).isSome]) w := by
  obtain ⟨v, ps, hrun, hv⟩ := h.map.look_ok text_keyed Try.underlying59 (zero_row w) (zd := .held (.slice none 0 0)) (zp := []) rfl (key_text hs)
  rw [has_mapD] at hrun
  rw [at_mapD] at hv
  have e : v = lookV fs s := by
    unfold itself at hv
    unfold lookV
    cases hl : lookM fs s <;> rw [hl] at hv <;> cases hv <;> rfl
  rw [e] at hrun
  exact hrun
theorem FM.look (h : FM w C b n fs) {s : ByteArray} (hs : s.size ≤ maxLen) : (Instr.lookup 59 (.map (some b)) (.string s) false).run Try.prog w = .ok (lookV fs s) w := by
  obtain ⟨v, ps, hrun, hv⟩ := h.map.lookup text_keyed Try.underlying59 (zero_row w) (zd := .held (.slice none 0 0)) (zp := []) rfl (key_text hs)
  rw [at_mapD] at hv
  have e : v = lookV fs s := by
    unfold itself at hv
    unfold lookV
    cases hl : lookM fs s <;> rw [hl] at hv <;> cases hv <;> rfl
  rw [e] at hrun
  exact hrun
theorem FM.len_run (h : FM w C b n fs) (ty : TypeId) : (Builtin.len_ #[59] ty #[.map (some b)]).run Try.prog w = .ok (.int .i64 (fs.length : Nat)) w := by
  have := h.map.len Try.underlying59 ty
  rwa [size_mapD] at this
/-- The map of those files, of which the one called s is not asked for its bytes. -/
structure FX (w : World) (C : Nat → Prop) (b n : Nat) (fs : List FileM) (s : ByteArray) : Prop where
  map : w.ownsMap Try.prog 9 itself b n (mapD fs)
  blk : ¬ C b
  sort : SortM fs
  own : ∀ f ∈ fs, f.name ≠ s → OwnB w f.p
  off : ∀ f ∈ fs, f.name ≠ s → ∀ g, f.p.v.ownBlock = some g → ¬ C g
  apart : ∀ f ∈ fs, f.name ≠ s → ∀ f' ∈ fs, f'.name ≠ s → f.name ≠ f'.name → ∀ g, f.p.v.ownBlock = some g → f'.p.v.ownBlock ≠ some g
theorem FM.x (h : FM w C b n fs) (s : ByteArray) : FX w C b n fs s :=
  ⟨h.map, h.blk, h.sort, fun f hf _ => h.own f hf, fun f hf _ => h.off f hf, fun f hf _ f' hf' _ => h.apart f hf f' hf'⟩
theorem FX.map_obj {s : ByteArray} (h : FX w C b n fs s) : ∃ es clock, w.heap[b]? = some (.map es clock) := by
  obtain ⟨es, clock, hb, _⟩ := h.map
  exact ⟨es, clock, hb⟩
theorem FX.ne {s : ByteArray} (h : FX w C b n fs s) {p : Byts} (hp : OwnB w p) {g : Nat} (hg : p.v.ownBlock = some g) : g ≠ b := by
  intro e
  obtain ⟨cur, h1⟩ := hp.cells hg
  obtain ⟨es, clock, h2⟩ := h.map_obj
  rw [e, h2] at h1
  cases h1
/-- A store. -/
theorem FX.put_ {f : FileM} (h : FX w C b n fs f.name) (hC : ∀ k, C k → k < w.heap.size) (hn : n < maxLen) (hs : f.name.size ≤ maxLen) (ho : OwnB w f.p) (hoff : ∀ g, f.p.v.ownBlock = some g → ¬ C g)
    (hap : ∀ f' ∈ fs, f'.name ≠ f.name → ∀ g, f.p.v.ownBlock = some g → f'.p.v.ownBlock ≠ some g) :
    ∃ w', (Instr.mapUpdate 59 (.map (some b)) (.string f.name) f.p.v).run Try.prog w = .ok () w' ∧ FM w' C b (n + 1) (putM fs f) ∧ KeepC C w w' := by
  obtain ⟨w', hrun, hm, hg⟩ := h.map.update text_keyed Try.underlying59 hn (key_text hs) (val := f.p.v) (d := .held f.p.v) (ps := []) rfl
  rw [mapD_put h.sort] at hm
  have hown : ∀ p, OwnB w p → OwnB w' p := fun p hp => hp.kept hg fun g hgv e => h.ne hp hgv (Option.some.inj e)
  refine ⟨w', hrun, ⟨hm, h.blk, h.sort.put f, fun x hx => ?_, fun x hx => ?_, fun x hx y hy hne => ?_⟩, (KeepC.refl C w).grown hC hg (fun k e => by cases e; exact h.blk)⟩
  · rcases put_mem h.sort hx with rfl | hx
    · exact hown _ ho
    · exact hown _ (h.own x hx.1 hx.2)
  · rcases put_mem h.sort hx with rfl | hx
    · exact hoff
    · exact h.off x hx.1 hx.2
  · rcases put_mem h.sort hx with rfl | hx
    · rcases put_mem h.sort hy with rfl | hy
      · exact absurd rfl hne
      · exact hap y hy.1 hy.2
    · rcases put_mem h.sort hy with rfl | hy
      · exact fun g hgv e => hap x hx.1 hx.2 g e hgv
      · exact h.apart x hx.1 hx.2 y hy.1 hy.2 hne
theorem FM.put_ (h : FM w C b n fs) (hC : ∀ k, C k → k < w.heap.size) (f : FileM) (hn : n < maxLen) (hs : f.name.size ≤ maxLen) (ho : OwnB w f.p) (hoff : ∀ g, f.p.v.ownBlock = some g → ¬ C g)
    (hap : ∀ f' ∈ fs, f'.name ≠ f.name → ∀ g, f.p.v.ownBlock = some g → f'.p.v.ownBlock ≠ some g) :
    ∃ w', (Instr.mapUpdate 59 (.map (some b)) (.string f.name) f.p.v).run Try.prog w = .ok () w' ∧ FM w' C b (n + 1) (putM fs f) ∧ KeepC C w w' := (h.x f.name).put_ hC hn hs ho hoff hap
/-- Behind an append onto one file's bytes. -/
theorem FM.longer (h : FM w C b n fs) (hC : ∀ k, C k → k < w.heap.size) {f : FileM} (hf : f ∈ fs) {m : Nat} {l : List Int} {v' : Value} (hl : Byt l) (hL : Longer 0 5 1 w f.p.v (f.p.n + m) (f.p.l.map (Value.int .u8) ++ l.map (Value.int .u8)) v' w') :
    ∃ A c, v' = .slice A (f.p.n + m) c ∧ FX w' C b n fs f.name ∧ OwnB w' ⟨A, f.p.n + m, c, f.p.l ++ l⟩ ∧ (∀ g, (Value.slice A (f.p.n + m) c).ownBlock = some g → ¬ C g) ∧
      (∀ f' ∈ fs, f'.name ≠ f.name → ∀ g, (Value.slice A (f.p.n + m) c).ownBlock = some g → f'.p.v.ownBlock ≠ some g) ∧ KeepC C w w' := by
  obtain ⟨hown, hg, hat⟩ := hL
  obtain ⟨A, c, rfl, hc⟩ := own_slice hown
  have hr : ∀ k, f.p.v.ownBlock = some k → ¬ C k := h.off f hf
  have hmap : w'.ownsMap Try.prog 9 itself b n (mapD fs) := h.map.kept hg (fun e => h.ne (h.own f hf) e.symm rfl)
  refine ⟨A, c, rfl, ⟨hmap, h.blk, h.sort, fun x hx hne => (h.own x hx).kept hg fun g hgv e => h.apart x hx f hf hne g hgv e.symm, fun x hx _ => h.off x hx, fun x hx _ y hy _ => h.apart x hx y hy⟩,
    ⟨by rw [List.map_append]; exact hown, (h.own f hf).2.append hl⟩, fun g hgv => ?_, fun x hx hne g hgv => ?_, (KeepC.refl C w).grown hC hg hr⟩
  · rcases hat with e | e
    · exact hr g (e ▸ hgv)
    · rw [e] at hgv
      cases hgv
      exact fun hc => Nat.lt_irrefl _ (hC _ hc)
  · rcases hat with e | e
    · exact fun e2 => h.apart x hx f hf hne g e2 (e ▸ hgv)
    · rw [e] at hgv
      cases hgv
      exact fun e2 => Nat.lt_irrefl _ ((h.own x hx).lt e2)
/-- A removal. -/
theorem FM.del_ (h : FM w C b n fs) (hC : ∀ k, C k → k < w.heap.size) {s : ByteArray} (hs : s.size ≤ maxLen) (ty : TypeId) :
    ∃ w', (Builtin.delete_ #[59, 9] ty #[.map (some b), .string s]).run Try.prog w = .ok (.tuple #[]) w' ∧ FM w' C b n (delM fs s) ∧ KeepC C w w' ∧ ∀ p, OwnB w p → OwnB w' p := by
  obtain ⟨w', hrun, hm, ht⟩ := h.map.drop text_keyed Try.underlying59 (key_text hs) ty
  rw [mapD_del h.sort] at hm
  have hg : w.grownBy w' (some b) := ht.grown
  have hown : ∀ p, OwnB w p → OwnB w' p := fun p hp => hp.kept hg fun g hgv e => h.ne hp hgv (Option.some.inj e)
  exact ⟨w', hrun, ⟨hm, h.blk, h.sort.del s, fun x hx => hown _ (h.own x (del_mem hx)), fun x hx => h.off x (del_mem hx), fun x hx y hy => h.apart x (del_mem hx) y (del_mem hy)⟩,
    (KeepC.refl C w).grown hC hg (fun k e => by cases e; exact h.blk), hown⟩
/-- The files' bytes can be read. -/
theorem FM.oks (h : FM w C b n fs) : ∀ f ∈ fs, f.p.Ok w w.heap.size := fun f hf => (h.own f hf).ok
end

end Go.Proofs.Ytmfiopopiikbmaa
