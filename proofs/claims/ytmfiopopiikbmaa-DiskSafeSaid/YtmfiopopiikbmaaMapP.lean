/-
  A map from names to slices of bytes, as a list of files that rises: what a look-up, a store, a removal make of it. No program is named here.
-/
import Derived.Test.YtmfiopopiikbmaaRefC
import Derived.Test.YtmfiopopiikbmaaSafe
import Derived.Maps.OwnSet
namespace Go.Proofs.Ytmfiopopiikbmaa

theorem toList_data (s : ByteArray) : s.toList = s.data.toList := ByteArray.toList_eq s
theorem data_inj {a b : ByteArray} (h : a.data.toList = b.data.toList) : a = b := toList_inj (by rw [toList_data, toList_data, h])
/-- A name as a key. -/
def keyL (s : ByteArray) : Lit := .string s.data.toList
/-- An element reads as itself. -/
def itself (v : Value) : Option (DataW Value × List MemPlace) := some (.held v, [])
def entD (f : FileM) : Lit × DataW Value := (keyL f.name, .held f.p.v)
/-- The map of those files. -/
def mapD (fs : List FileM) : DataW Value := .map (fs.map entD)
def putM (fs : List FileM) (f : FileM) : List FileM := withG FileM.name fs f
def delM (fs : List FileM) (s : ByteArray) : List FileM := withoutG fs (findG FileM.name fs s)
def lookM (fs : List FileM) (s : ByteArray) : Option FileM := fs.find? fun f => decide (f.name = s)
def SortM (fs : List FileM) : Prop := Sorted (fs.map FileM.pure)

theorem key_same (a b : ByteArray) : (keyL a).sameKey (keyL b) = decide (a = b) := by
  show (a.data.toList == b.data.toList) = decide (a = b)
  rw [Bool.eq_iff_iff, beq_iff_eq, decide_eq_true_eq]
  exact ⟨data_inj, fun h => by rw [h]⟩
theorem before_less : ∀ x y : List UInt8, bytesBefore x y = Op.bytesLess x y
  | [], [] => rfl
  | [], _ :: _ => rfl
  | _ :: _, [] => rfl
  | a :: x, b :: y => by
    show (decide (a < b) || (a == b && bytesBefore x y)) = (decide (a < b) || (a == b && Op.bytesLess x y))
    rw [before_less x y]
theorem key_before (a b : ByteArray) : (keyL a).before (keyL b) = lessL a b := by
  show bytesBefore a.data.toList b.data.toList = Op.bytesLess a.toList b.toList
  rw [before_less, toList_data, toList_data]

/-! ### Looked up -/
theorem look_mem {fs : List FileM} {s : ByteArray} {f : FileM} (h : lookM fs s = some f) : f ∈ fs ∧ f.name = s :=
  ⟨List.mem_of_find?_eq_some h, by have := List.find?_some h; simpa using this⟩
theorem look_no {fs : List FileM} {s : ByteArray} (h : lookM fs s = none) : ∀ f ∈ fs, f.name ≠ s := fun f hf => by
  have := List.find?_eq_none.1 h f hf
  simpa using this
theorem look_pure (fs : List FileM) (s : ByteArray) : lookP (fs.map FileM.pure) s = (lookM fs s).map fun f => f.p.l := by
  unfold lookP lookM
  rw [List.find?_map, Option.map_map]
  rfl
theorem any_find {α : Type} (q : α → Bool) (l : List α) : l.any q = (l.find? q).isSome := by
  induction l with
  | nil => rfl
  | cons x r ih =>
    rw [List.any_cons, List.find?_cons, ih]
    cases q x <;> rfl
theorem has_mapD (fs : List FileM) (s : ByteArray) : Maps.has (mapD fs) (keyL s) = (lookM fs s).isSome := by
  show (fs.map entD).any (fun p => p.1.sameKey (keyL s)) = _
  rw [List.any_map, any_find]
  unfold lookM
  congr 2
  funext f
  exact key_same f.name s
theorem at_mapD (fs : List FileM) (s : ByteArray) (z : DataW Value) : (mapD fs).atKey (keyL s) z = match lookM fs s with | some f => .held f.p.v | none => z := by
  unfold mapD
  simp only [DataW.atKey]
  rw [List.find?_map]
  have h : ((fun p : Lit × DataW Value => p.1.sameKey (keyL s)) ∘ entD) = fun f : FileM => decide (f.name = s) := by
    funext f
    exact key_same f.name s
  rw [h]
  have e : (fs.find? fun f : FileM => decide (f.name = s)) = lookM fs s := rfl
  rw [e]
  cases lookM fs s <;> rfl
theorem size_mapD (fs : List FileM) : Maps.size (mapD fs) = fs.length := by
  show (fs.map entD).length = _
  rw [List.length_map]

/-! ### Removed, put -/
theorem del_pure (fs : List FileM) (s : ByteArray) : (delM fs s).map FileM.pure = withoutG (fs.map FileM.pure) (findG FileP.name (fs.map FileM.pure) s) := by
  unfold delM
  rw [find_pure, without_map]
theorem put_pure (fs : List FileM) (f : FileM) : (putM fs f).map FileM.pure = withG FileP.name (fs.map FileM.pure) f.pure :=
  (with_map FileM.name FileP.name FileM.pure (fun _ => rfl) fs f).symm
theorem del_gone {fs : List FileM} (h : SortM fs) (s : ByteArray) : ∀ f ∈ delM fs s, f.name ≠ s := fun f hf => by
  have h1 : f.pure ∈ (delM fs s).map FileM.pure := List.mem_map_of_mem hf
  rw [del_pure] at h1
  exact Sorted.gone h s f.pure h1
theorem del_mem {fs : List FileM} {s : ByteArray} {f : FileM} (hf : f ∈ delM fs s) : f ∈ fs := without_mem hf
theorem put_mem {fs : List FileM} (h : SortM fs) {f g : FileM} (hg : g ∈ putM fs f) : g = f ∨ (g ∈ fs ∧ g.name ≠ f.name) := by
  unfold putM withG at hg
  have h1 : ∀ x ∈ delM fs f.name, x ∈ fs ∧ x.name ≠ f.name := fun x hx => ⟨del_mem hx, del_gone h f.name x hx⟩
  rcases List.mem_append.1 hg with hg | hg
  · exact .inr (h1 g (List.mem_of_mem_take hg))
  · rcases List.mem_cons.1 hg with hg | hg
    · exact .inl hg
    · exact .inr (h1 g (List.mem_of_mem_drop hg))
theorem SortM.del {fs : List FileM} (h : SortM fs) (s : ByteArray) : SortM (delM fs s) := by
  unfold SortM
  rw [del_pure]
  exact Sorted.without h _
theorem SortM.put {fs : List FileM} (h : SortM fs) (f : FileM) : SortM (putM fs f) := by
  unfold SortM
  rw [put_pure]
  exact Sorted.with_ h _
theorem del_filter {fs : List FileM} (h : SortM fs) (s : ByteArray) : fs.filter (fun f => !decide (f.name = s)) = delM fs s := by
  have h1 := del_gone h s
  have h2 : (delM fs s).filter (fun f => !decide (f.name = s)) = delM fs s := List.filter_eq_self.2 (fun f hf => by simpa using h1 f hf)
  rw [← h2]
  by_cases hk : findG FileM.name fs s < 0
  · unfold delM withoutG
    rw [if_pos hk]
  · obtain ⟨k, hk2⟩ : ∃ k : Nat, findG FileM.name fs s = k := ⟨(findG FileM.name fs s).toNat, by omega⟩
    obtain ⟨x, hx, hn⟩ := find_at FileM.name hk2
    have e1 : fs = fs.take k ++ x :: fs.drop (k + 1) := by
      obtain ⟨hlt, hk3⟩ := List.getElem?_eq_some_iff.1 hx
      rw [← hk3, ← List.drop_eq_getElem_cons hlt, List.take_append_drop]
    have e2 : delM fs s = fs.take k ++ fs.drop (k + 1) := by
      unfold delM withoutG
      rw [hk2, if_neg (by omega), Int.toNat_natCast]
    rw [e2]
    conv => lhs; rw [e1]
    rw [List.filter_append, List.filter_append, List.filter_cons]
    simp [hn]
theorem mapD_del {fs : List FileM} (h : SortM fs) (s : ByteArray) : (mapD fs).del (keyL s) = mapD (delM fs s) := by
  show DataW.map ((fs.map entD).filter fun p => !p.1.sameKey (keyL s)) = _
  rw [List.filter_map]
  have e : ((fun p : Lit × DataW Value => !p.1.sameKey (keyL s)) ∘ entD) = fun f : FileM => !decide (f.name = s) := by
    funext f
    show (!(keyL f.name).sameKey (keyL s)) = _
    rw [key_same]
  rw [e, del_filter h]
  rfl
theorem insert_while (f : FileM) : ∀ l : List FileM, (∀ y ∈ l, y.name ≠ f.name) →
    DataW.insert (entD f) (l.map entD) = (l.takeWhile (fun g => lessL g.name f.name) ++ f :: l.dropWhile (fun g => lessL g.name f.name)).map entD
  | [], _ => rfl
  | y :: r, h => by
    have hy := h y (by simp)
    rw [List.map_cons, DataW.insert, List.takeWhile_cons, List.dropWhile_cons]
    show (if (keyL f.name).before (keyL y.name) then _ else _) = _
    rw [key_before]
    by_cases hb : lessL f.name y.name = true
    · rw [if_pos hb, less_asymm hb]
      simp
    · have h1 : lessL f.name y.name = false := by simpa using hb
      have h2 : lessL y.name f.name = true := by
        cases h3 : lessL y.name f.name
        · exact absurd (less_total h3 h1) hy
        · rfl
      rw [if_neg hb, h2, insert_while f r (fun z hz => h z (by simp [hz]))]
      simp
theorem mapD_put {fs : List FileM} (h : SortM fs) (f : FileM) : (mapD fs).put (keyL f.name) (.held f.p.v) = mapD (putM fs f) := by
  have h1 := mapD_del h f.name
  have h2 : (fs.map entD).filter (fun p => !p.1.sameKey (keyL f.name)) = (delM fs f.name).map entD := DataW.map.inj h1
  show DataW.map (DataW.insert (entD f) ((fs.map entD).filter fun p => !p.1.sameKey (keyL f.name))) = _
  rw [h2, insert_while f _ (del_gone h f.name)]
  unfold mapD putM withG placeG
  have h3 := take_while (fun g : FileM => lessL g.name f.name) (delM fs f.name)
  unfold delM at h3 ⊢
  rw [h3.1, h3.2]
theorem put_len (fs : List FileM) (f : FileM) : (putM fs f).length ≤ fs.length + 1 := with_length _ _ _
theorem put_in (fs : List FileM) (f : FileM) : f ∈ putM fs f := by
  unfold putM withG
  simp

/-! ### What an operation makes of it -/
theorem find_look {fs : List FileM} {s : ByteArray} : (findG FileP.name (fs.map FileM.pure) s < 0 ↔ lookM fs s = none) ∧ ∀ f, lookM fs s = some f → atP (fs.map FileM.pure) (findG FileP.name (fs.map FileM.pure) s) = f.p.l := by
  have h := look_find (fs.map FileM.pure) s
  rw [look_pure] at h
  by_cases hk : findG FileP.name (fs.map FileM.pure) s < 0
  · rw [if_pos hk] at h
    have h1 : lookM fs s = none := by cases hl : lookM fs s <;> simp_all
    exact ⟨⟨fun _ => h1, fun _ => hk⟩, fun f hf => by rw [h1] at hf; cases hf⟩
  · rw [if_neg hk] at h
    refine ⟨⟨fun hc => absurd hc hk, fun h1 => by rw [h1] at h; cases h⟩, fun f hf => ?_⟩
    rw [hf] at h
    simpa using h.symm
theorem done1 {fs : List FileM} {o : OpM} (hk : o.kind = 1) : (putM fs ⟨o.name, ⟨none, 0, 0, []⟩⟩).map FileM.pure = doneP (fs.map FileM.pure) o.pure := by
  rw [put_pure, done_create (o := o.pure) hk]
  rfl
theorem done2 {fs : List FileM} {o : OpM} {f : FileM} {A : Option Addr} {n c : Nat} (hk : o.kind = 2) (hl : lookM fs o.name = some f) : (putM fs ⟨o.name, ⟨A, n, c, f.p.l ++ o.p.l⟩⟩).map FileM.pure = doneP (fs.map FileM.pure) o.pure := by
  have h := find_look (fs := fs) (s := o.name)
  rw [put_pure, done_append (o := o.pure) hk (fun hc => by have := h.1.1 hc; rw [hl] at this; cases this)]
  have h2 := h.2 f hl
  show withG FileP.name _ ⟨o.name, f.p.l ++ o.p.l⟩ = withG FileP.name _ ⟨o.name, atP (fs.map FileM.pure) (findG FileP.name (fs.map FileM.pure) o.name) ++ o.p.l⟩
  rw [h2]
theorem done4 {fs : List FileM} {o : OpM} (hk : o.kind = 4) : (delM fs o.name).map FileM.pure = doneP (fs.map FileM.pure) o.pure := by
  rw [del_pure]
  by_cases hc : findG FileP.name (fs.map FileM.pure) o.name < 0
  · rw [done_gone (o := o.pure) (by show ¬ o.kind = 1; omega) hc]
    unfold withoutG
    rw [if_pos hc]
  · rw [done_remove (o := o.pure) hk hc]
    rfl
theorem doneNone {fs : List FileM} {o : OpM} (hk : ¬ o.kind = 1) (hl : lookM fs o.name = none) : fs.map FileM.pure = doneP (fs.map FileM.pure) o.pure :=
  (done_gone (o := o.pure) hk (find_look.1.2 hl)).symm
theorem done3 {fs : List FileM} (hs : SortM fs) {o : OpM} {f : FileM} (hk : o.kind = 3) (hl : lookM fs o.name = some f) : (putM (delM fs o.name) ⟨o.to, f.p⟩).map FileM.pure = doneP (fs.map FileM.pure) o.pure := by
  have h := find_look (fs := fs) (s := o.name)
  have hc : ¬ findG FileP.name (fs.map FileM.pure) o.name < 0 := fun hc => by have := h.1.1 hc; rw [hl] at this; cases this
  rw [put_pure, del_pure]
  by_cases ht : o.to = o.name
  · rw [done_else (o := o.pure) (by show ¬ o.kind = 1; omega) (by show ¬ o.kind = 2; omega) (fun h3 => h3.2 ht) (by show ¬ o.kind = 4; omega)]
    have s1 := Sorted.without hs (findG FileP.name (fs.map FileM.pure) o.name)
    refine sorted_ext (Sorted.with_ s1 _) hs (fun s => ?_)
    rw [look_with s1, look_without hs]
    show (if o.to = s then some f.p.l else _) = _
    rw [ht]
    split
    · rename_i e
      rw [look_pure, ← e, hl]
      rfl
    · rfl
  · rw [done_rename (o := o.pure) hk ht hc]
    have h2 := h.2 f hl
    show withG FileP.name _ ⟨o.to, f.p.l⟩ = withG FileP.name _ ⟨o.to, atP (fs.map FileM.pure) (findG FileP.name (fs.map FileM.pure) o.name)⟩
    rw [h2]
    rfl
theorem doneElse {fs : List FileM} {o : OpM} (hk : ¬ (1 ≤ o.kind ∧ o.kind ≤ 4)) : fs.map FileM.pure = doneP (fs.map FileM.pure) o.pure :=
  (done_else (o := o.pure) (by show ¬ o.kind = 1; omega) (by show ¬ o.kind = 2; omega) (fun h3 => by have : o.kind = 3 := h3.1; omega) (by show ¬ o.kind = 4; omega)).symm
/-- The first one of a name. -/
theorem first_step {fs : List FileM} {x : FileM} {A : Option Addr} {n c : Nat} : (lookM fs x.name = none → (putM fs ⟨x.name, ⟨A, n, c, x.p.l⟩⟩).map FileM.pure = firstStep (fs.map FileM.pure) x.pure) ∧
    ((∃ f, lookM fs x.name = some f) → fs.map FileM.pure = firstStep (fs.map FileM.pure) x.pure) := by
  have h := find_look (fs := fs) (s := x.name)
  refine ⟨fun hl => ?_, fun ⟨f, hl⟩ => ?_⟩
  · show _ = if findG FileP.name (fs.map FileM.pure) x.name < 0 then _ else _
    rw [if_pos (h.1.2 hl), put_pure]
    rfl
  · show _ = if findG FileP.name (fs.map FileM.pure) x.name < 0 then _ else _
    rw [if_neg (fun hc => by have := h.1.1 hc; rw [hl] at this; cases this)]

end Go.Proofs.Ytmfiopopiikbmaa
