/-
  Plain mathematics of disks: what is created, appended, renamed, removed.
-/
import Derived.Test.YtmfiopopiikbmaaRise
namespace Go.Proofs.Ytmfiopopiikbmaa

theorem found_look {l : List FileP} {s : ByteArray} {b : List Int} (h : lookP l s = some b) : ¬ findG FileP.name l s < 0 ∧ atP l (findG FileP.name l s) = b := by
  rw [look_find] at h
  by_cases hf : findG FileP.name l s < 0
  · rw [if_pos hf] at h
    cases h
  · rw [if_neg hf] at h
    exact ⟨hf, Option.some.inj h⟩
theorem look_create {l : List FileP} (h : Sorted l) {o : OpP} (hk : o.kind = 1) (s : ByteArray) : lookP (doneP l o) s = if o.name = s then some [] else lookP l s := by
  rw [done_create hk, look_with h]
theorem look_append {l : List FileP} (h : Sorted l) {o : OpP} (hk : o.kind = 2) {b : List Int} (hb : lookP l o.name = some b) (s : ByteArray) : lookP (doneP l o) s = if o.name = s then some (b ++ o.bytes) else lookP l s := by
  obtain ⟨h1, h2⟩ := found_look hb
  rw [done_append hk h1, look_with h, h2]
theorem look_rename {l : List FileP} (h : Sorted l) {o : OpP} (hk : o.kind = 3) (ht : o.to ≠ o.name) {b : List Int} (hb : lookP l o.name = some b) (s : ByteArray) :
    lookP (doneP l o) s = if o.to = s then some b else if o.name = s then none else lookP l s := by
  obtain ⟨h1, h2⟩ := found_look hb
  rw [done_rename hk ht h1, look_with (h.without _), h2, look_without h]
theorem look_remove {l : List FileP} (h : Sorted l) {o : OpP} (hk : o.kind = 4) {b : List Int} (hb : lookP l o.name = some b) (s : ByteArray) : lookP (doneP l o) s = if o.name = s then none else lookP l s := by
  obtain ⟨h1, _⟩ := found_look hb
  rw [done_remove hk h1, look_without h]
theorem read_some {d : DiskP} {s : ByteArray} {b : List Int} (h : lookP (nowP d) s = some b) : readP d s = (b, 0) := by rw [read_look, h]
theorem read_none {d : DiskP} {s : ByteArray} (h : lookP (nowP d) s = none) : readP d s = ([], 42) := by rw [read_look, h]
/-- An operation that is done on a disk without a fuse. -/
theorem do_ok {d : DiskP} {o : OpP} (hr : rightP d = true) (hd : d.dead = false) (hu : d.fuse = 0) (hf : fineP o = true) (hn : o.kind = 1 ∨ ∃ b, lookP (nowP d) o.name = some b) (hq : o.kind = 2 → (usedP d : Int) + o.bytes.length ≤ d.quota) (hl : d.queue.length < 400) :
    doP d o = ({ d with queue := d.queue ++ [o] }, 0) := by
  unfold doP
  have hb : burntP { d with queue := d.queue ++ [o] } = { d with queue := d.queue ++ [o] } := by
    unfold burntP
    rw [if_neg (by show ¬ 0 < d.fuse; omega)]
  rw [if_neg (by rw [hr]; decide), if_neg (by rw [hd]; decide), if_neg (by rw [hf]; decide), if_neg, if_neg, hb]
  · rintro (⟨h1, h2⟩ | h)
    · have := hq h1
      omega
    · omega
  · rintro ⟨h1, h2⟩
    rcases hn with hn | ⟨b, hn⟩
    · exact h1 hn
    · exact (found_look hn).1 h2
theorem names_run {d : DiskP} {a b : ByteArray} {l : List Int} (hr : rightP d = true) (hd : d.dead = false) (hu : d.fuse = 0) (ha : a ≠ ByteArray.empty) (hb : b ≠ ByteArray.empty) (hab : a ≠ b) (hl : l.length ≤ 100) (hq : d.queue.length ≤ 40)
    (hquo : (usedP d : Int) + 100 ≤ d.quota) : ∃ d1 d2 d3 d4 : DiskP,
    doP d ⟨1, a, ByteArray.empty, []⟩ = (d1, 0) ∧ readP d1 a = ([], 0) ∧ doP d1 ⟨2, a, ByteArray.empty, l⟩ = (d2, 0) ∧ readP d2 a = (l, 0) ∧
    doP d2 ⟨3, a, b, []⟩ = (d3, 0) ∧ readP d3 b = (l, 0) ∧ readP d3 a = ([], 42) ∧ doP d3 ⟨4, b, ByteArray.empty, []⟩ = (d4, 0) ∧ readP d4 b = ([], 42) := by
  have e1 := do_ok (d := d) (o := ⟨1, a, ByteArray.empty, []⟩) hr hd hu ((fine_iff _).2 ⟨by simp, by simp, ha, by simp⟩) (.inl rfl) (by simp) (by omega)
  have r1 : rightP _ = true := do_right (o := ⟨1, a, ByteArray.empty, []⟩) hr
  rw [e1] at r1
  have n1 : nowP { d with queue := d.queue ++ [⟨1, a, ByteArray.empty, []⟩] } = _ := now_snoc d ⟨1, a, ByteArray.empty, []⟩
  have l1 : lookP (nowP { d with queue := d.queue ++ [⟨1, a, ByteArray.empty, []⟩] }) a = some [] := by rw [n1, look_create (sorted_now d) rfl, if_pos rfl]
  have u1 : usedP { d with queue := d.queue ++ [⟨1, a, ByteArray.empty, []⟩] } ≤ usedP d := by
    have := size_done (nowP d) ⟨1, a, ByteArray.empty, []⟩
    rw [if_neg (by show ¬ (1 : Int) = 2; decide)] at this
    unfold usedP
    rw [n1]
    omega
  obtain ⟨d1, hd1⟩ : ∃ d1 : DiskP, d1 = { d with queue := d.queue ++ [⟨1, a, ByteArray.empty, []⟩] } := ⟨_, rfl⟩
  have a1 : d1.dead = false ∧ d1.fuse = 0 ∧ d1.quota = d.quota ∧ d1.queue.length ≤ 41 := by rw [hd1]; exact ⟨hd, hu, rfl, by simp; omega⟩
  simp only [← hd1] at e1 r1 l1 u1
  clear hd1 n1
  have e2 := do_ok (d := d1) (o := ⟨2, a, ByteArray.empty, l⟩) r1 a1.1 a1.2.1 ((fine_iff _).2 ⟨by simp, by simp, ha, by simp⟩) (.inr ⟨_, l1⟩) (fun _ => by simp only; omega) (by omega)
  have r2 : rightP _ = true := do_right (o := ⟨2, a, ByteArray.empty, l⟩) r1
  rw [e2] at r2
  have n2 : nowP { d1 with queue := d1.queue ++ [⟨2, a, ByteArray.empty, l⟩] } = _ := now_snoc d1 ⟨2, a, ByteArray.empty, l⟩
  have l2 : lookP (nowP { d1 with queue := d1.queue ++ [⟨2, a, ByteArray.empty, l⟩] }) a = some l := by rw [n2, look_append (sorted_now d1) rfl l1, if_pos rfl]; rfl
  obtain ⟨d2, hd2⟩ : ∃ d2 : DiskP, d2 = { d1 with queue := d1.queue ++ [⟨2, a, ByteArray.empty, l⟩] } := ⟨_, rfl⟩
  have a2 : d2.dead = false ∧ d2.fuse = 0 ∧ d2.queue.length ≤ 42 := by rw [hd2]; exact ⟨a1.1, a1.2.1, by simp; omega⟩
  simp only [← hd2] at e2 r2 l2
  clear hd2 n2
  have e3 := do_ok (d := d2) (o := ⟨3, a, b, []⟩) r2 a2.1 a2.2.1 ((fine_iff _).2 ⟨by simp, by simp, ha, fun _ => hb⟩) (.inr ⟨_, l2⟩) (by simp) (by omega)
  have r3 : rightP _ = true := do_right (o := ⟨3, a, b, []⟩) r2
  rw [e3] at r3
  have n3 : nowP { d2 with queue := d2.queue ++ [⟨3, a, b, []⟩] } = _ := now_snoc d2 ⟨3, a, b, []⟩
  have l3 : lookP (nowP { d2 with queue := d2.queue ++ [⟨3, a, b, []⟩] }) b = some l := by rw [n3, look_rename (sorted_now d2) rfl (Ne.symm hab) l2, if_pos rfl]
  have m3 : lookP (nowP { d2 with queue := d2.queue ++ [⟨3, a, b, []⟩] }) a = none := by rw [n3, look_rename (sorted_now d2) rfl (Ne.symm hab) l2, if_neg (Ne.symm hab), if_pos rfl]
  obtain ⟨d3, hd3⟩ : ∃ d3 : DiskP, d3 = { d2 with queue := d2.queue ++ [⟨3, a, b, []⟩] } := ⟨_, rfl⟩
  have a3 : d3.dead = false ∧ d3.fuse = 0 ∧ d3.queue.length ≤ 43 := by rw [hd3]; exact ⟨a2.1, a2.2.1, by simp; omega⟩
  simp only [← hd3] at e3 r3 l3 m3
  clear hd3 n3
  have e4 := do_ok (d := d3) (o := ⟨4, b, ByteArray.empty, []⟩) r3 a3.1 a3.2.1 ((fine_iff _).2 ⟨by simp, by simp, hb, by simp⟩) (.inr ⟨_, l3⟩) (by simp) (by omega)
  have n4 : nowP { d3 with queue := d3.queue ++ [⟨4, b, ByteArray.empty, []⟩] } = _ := now_snoc d3 ⟨4, b, ByteArray.empty, []⟩
  have l4 : lookP (nowP { d3 with queue := d3.queue ++ [⟨4, b, ByteArray.empty, []⟩] }) b = none := by rw [n4, look_remove (sorted_now d3) rfl l3, if_pos rfl]
  exact ⟨d1, d2, d3, _, e1, read_some l1, e2, read_some l2, e3, read_some l3, read_none m3, e4, read_none l4⟩

end Go.Proofs.Ytmfiopopiikbmaa
