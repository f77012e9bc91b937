/-
  Disks as plain lists: what the document says of them. No program is named here.
-/
import GoSem.Op.String
import Derived.WideShapes
import Derived.Laws.Strings
namespace Go.Proofs.Ytmfiopopiikbmaa

/-! ### Names -/
def lessL (a b : ByteArray) : Bool := Op.bytesLess a.toList b.toList
theorem bl_irrefl : ∀ x : List UInt8, Op.bytesLess x x = false := by
  intro x
  induction x with
  | nil => rfl
  | cons a x ih => simp [Op.bytesLess, ih]
theorem bl_trans : ∀ x y z : List UInt8, Op.bytesLess x y = true → Op.bytesLess y z = true → Op.bytesLess x z = true := by
  intro x
  induction x with
  | nil =>
    intro y z h1 h2
    cases z with
    | nil => cases y <;> simp [Op.bytesLess] at h2
    | cons c z => rfl
  | cons a x ih =>
    intro y z h1 h2
    cases y with
    | nil => simp [Op.bytesLess] at h1
    | cons b y =>
      cases z with
      | nil => simp [Op.bytesLess] at h2
      | cons c z =>
        simp only [Op.bytesLess, Bool.or_eq_true, decide_eq_true_eq, Bool.and_eq_true, beq_iff_eq, UInt8.lt_iff_toNat_lt] at h1 h2 ⊢
        rcases h1 with h1 | ⟨rfl, h1⟩
        · rcases h2 with h2 | ⟨rfl, h2⟩
          · exact .inl (Nat.lt_trans h1 h2)
          · exact .inl h1
        · rcases h2 with h2 | ⟨rfl, h2⟩
          · exact .inl h2
          · exact .inr ⟨rfl, ih y z h1 h2⟩
theorem bl_total : ∀ x y : List UInt8, Op.bytesLess x y = false → Op.bytesLess y x = false → x = y := by
  intro x
  induction x with
  | nil =>
    intro y h1 _
    cases y with
    | nil => rfl
    | cons b y => simp [Op.bytesLess] at h1
  | cons a x ih =>
    intro y h1 h2
    cases y with
    | nil => simp [Op.bytesLess] at h2
    | cons b y =>
      simp only [Op.bytesLess, Bool.or_eq_false_iff, decide_eq_false_iff_not, Bool.and_eq_false_iff, beq_eq_false_iff_ne, UInt8.lt_iff_toNat_lt] at h1 h2
      have hab : a = b := UInt8.toNat_inj.1 (by omega)
      subst hab
      rw [ih y (h1.2.resolve_left (by simp)) (h2.2.resolve_left (by simp))]
theorem toList_inj {a b : ByteArray} (h : a.toList = b.toList) : a = b := Go.WideShapes.bytes_inj (by rw [ByteArray.toList_eq, ByteArray.toList_eq] at h; exact h)
theorem less_irrefl (a : ByteArray) : lessL a a = false := bl_irrefl _
theorem less_trans {a b c : ByteArray} (h1 : lessL a b = true) (h2 : lessL b c = true) : lessL a c = true := bl_trans _ _ _ h1 h2
theorem less_total {a b : ByteArray} (h1 : lessL a b = false) (h2 : lessL b a = false) : a = b := toList_inj (bl_total _ _ h1 h2)
theorem less_ne {a b : ByteArray} (h : lessL a b = true) : a ≠ b := fun e => by rw [e, less_irrefl] at h; cases h
theorem less_asymm {a b : ByteArray} (h : lessL a b = true) : lessL b a = false := by
  cases hb : lessL b a
  · rfl
  · have := less_trans h hb
    rw [less_irrefl] at this
    cases this
theorem beq_name (a b : ByteArray) : (a.toList == b.toList) = decide (a = b) := by
  rw [Bool.eq_iff_iff, beq_iff_eq, decide_eq_true_eq]
  exact ⟨toList_inj, fun h => by rw [h]⟩

/-! ### Rows of named things -/
section
variable {α β : Type} (nm : α → ByteArray)
/-- The place of a name; -1: there is none. -/
def findG : List α → ByteArray → Int
  | [], _ => -1
  | x :: r, s => if nm x = s then 0 else if findG r s < 0 then -1 else findG r s + 1
def withoutG (l : List α) (at_ : Int) : List α := if at_ < 0 then l else l.take at_.toNat ++ l.drop (at_.toNat + 1)
def placeG (l : List α) (s : ByteArray) : Nat := (l.takeWhile fun x => lessL (nm x) s).length
def withG (l : List α) (x : α) : List α :=
  (withoutG l (findG nm l (nm x))).take (placeG nm (withoutG l (findG nm l (nm x))) (nm x)) ++ x :: (withoutG l (findG nm l (nm x))).drop (placeG nm (withoutG l (findG nm l (nm x))) (nm x))
theorem find_range (l : List α) (s : ByteArray) : -1 ≤ findG nm l s ∧ findG nm l s < l.length := by
  induction l with
  | nil => exact ⟨Int.le_refl _, by simp [findG]⟩
  | cons x r ih =>
    unfold findG
    rw [List.length_cons]
    split
    · omega
    · split
      · omega
      · omega
theorem find_hit {l : List α} {s : ByteArray} {k : Nat} {x : α} (hk : l[k]? = some x) (hx : nm x = s) (hm : ∀ j y, j < k → l[j]? = some y → nm y ≠ s) : findG nm l s = k := by
  induction l generalizing k with
  | nil => simp at hk
  | cons z r ih =>
    cases k with
    | zero =>
      simp only [List.getElem?_cons_zero, Option.some.injEq] at hk
      subst hk
      unfold findG
      rw [if_pos hx]
      rfl
    | succ k =>
      have h0 := hm 0 z (by omega) rfl
      have h1 := ih (k := k) hk (fun j y hj hy => hm (j + 1) y (by omega) hy)
      unfold findG
      rw [if_neg h0, h1, if_neg (by omega)]
      omega
theorem find_miss {l : List α} {s : ByteArray} (hm : ∀ y ∈ l, nm y ≠ s) : findG nm l s = -1 := by
  induction l with
  | nil => rfl
  | cons z r ih =>
    unfold findG
    rw [if_neg (hm z (by simp)), ih (fun y hy => hm y (by simp [hy]))]
    rfl
theorem find_at {l : List α} {s : ByteArray} {k : Nat} (h : findG nm l s = k) : ∃ x, l[k]? = some x ∧ nm x = s := by
  induction l generalizing k with
  | nil => unfold findG at h; omega
  | cons z r ih =>
    unfold findG at h
    split at h
    · rename_i hz
      obtain rfl : k = 0 := by omega
      exact ⟨z, rfl, hz⟩
    · split at h
      · omega
      · obtain ⟨j, rfl⟩ : ∃ j, k = j + 1 := ⟨k - 1, by omega⟩
        obtain ⟨x, hx, hn⟩ := ih (k := j) (by omega)
        exact ⟨x, hx, hn⟩
theorem find_none {l : List α} {s : ByteArray} (h : findG nm l s < 0) : ∀ y ∈ l, nm y ≠ s := by
  induction l with
  | nil => intro y hy; cases hy
  | cons z r ih =>
    unfold findG at h
    split at h
    · omega
    · rename_i hz
      split at h
      · rename_i hr
        intro y hy
        rcases List.mem_cons.1 hy with rfl | hy
        · exact hz
        · exact ih hr y hy
      · omega
theorem find_map (nm' : β → ByteArray) (g : α → β) (hg : ∀ x, nm' (g x) = nm x) (l : List α) (s : ByteArray) : findG nm' (l.map g) s = findG nm l s := by
  induction l with
  | nil => rfl
  | cons x r ih => rw [List.map_cons, findG, findG, hg, ih]
theorem without_map (g : α → β) (l : List α) (k : Int) : withoutG (l.map g) k = (withoutG l k).map g := by
  unfold withoutG
  split
  · rfl
  · rw [List.map_append, List.map_take, List.map_drop]
theorem place_map (nm' : β → ByteArray) (g : α → β) (hg : ∀ x, nm' (g x) = nm x) (l : List α) (s : ByteArray) : placeG nm' (l.map g) s = placeG nm l s := by
  unfold placeG
  induction l with
  | nil => rfl
  | cons x r ih =>
    rw [List.map_cons, List.takeWhile_cons, List.takeWhile_cons, hg]
    split
    · simp [ih]
    · rfl
theorem with_map (nm' : β → ByteArray) (g : α → β) (hg : ∀ x, nm' (g x) = nm x) (l : List α) (x : α) : withG nm' (l.map g) (g x) = (withG nm l x).map g := by
  unfold withG
  rw [hg, find_map nm nm' g hg, without_map, place_map nm nm' g hg, List.map_append, List.map_cons, List.map_take, List.map_drop]
theorem place_le (l : List α) (s : ByteArray) : placeG nm l s ≤ l.length := (List.takeWhile_sublist _).length_le
theorem place_at {l : List α} {s : ByteArray} {k : Nat} (hk : k ≤ l.length) (h : ∀ j y, j < k → l[j]? = some y → lessL (nm y) s = true) (h' : ∀ y, l[k]? = some y → lessL (nm y) s = false) : placeG nm l s = k := by
  unfold placeG
  induction l generalizing k with
  | nil => simp at hk; simp [hk]
  | cons x r ih =>
    cases k with
    | zero => rw [List.takeWhile_cons, h' x rfl]; rfl
    | succ k =>
      rw [List.takeWhile_cons, h 0 x (by omega) rfl]
      simp only [if_true, List.length_cons]
      rw [ih (k := k) (by simpa using hk) (fun j y hj hy => h (j + 1) y (by omega) hy) (fun y hy => h' y hy)]
theorem without_mem {l : List α} {k : Int} {x : α} (h : x ∈ withoutG l k) : x ∈ l := by
  unfold withoutG at h
  split at h
  · exact h
  · rcases List.mem_append.1 h with h | h
    · exact List.mem_of_mem_take h
    · exact List.mem_of_mem_drop h
theorem with_mem {l : List α} {x y : α} (h : y ∈ withG nm l x) : y = x ∨ y ∈ l := by
  unfold withG at h
  rcases List.mem_append.1 h with h | h
  · exact .inr (without_mem (List.mem_of_mem_take h))
  · rcases List.mem_cons.1 h with h | h
    · exact .inl h
    · exact .inr (without_mem (List.mem_of_mem_drop h))
theorem without_length (l : List α) (k : Int) : (withoutG l k).length ≤ l.length := by
  unfold withoutG
  split
  · exact Nat.le_refl _
  · simp only [List.length_append, List.length_take, List.length_drop]
    omega
theorem with_length (l : List α) (x : α) : (withG nm l x).length ≤ l.length + 1 := by
  unfold withG
  have h1 := without_length l (findG nm l (nm x))
  have h2 := place_le nm (withoutG l (findG nm l (nm x))) (nm x)
  simp only [List.length_append, List.length_take, List.length_cons, List.length_drop]
  omega
end

/-! ### Disks -/
structure FileP where
  name : ByteArray
  bytes : List Int
structure OpP where
  kind : Int
  name : ByteArray
  to : ByteArray
  bytes : List Int
structure DiskP where
  files : List FileP
  queue : List OpP
  quota : Int
  fuse : Int
  dead : Bool
/-- The bytes of the file at a place. -/
def atP (l : List FileP) (k : Int) : List Int := ((l[k.toNat]?).map FileP.bytes).getD []
/-- Files behind an operation. -/
def doneP (l : List FileP) (o : OpP) : List FileP :=
  if o.kind = 1 then withG FileP.name l ⟨o.name, []⟩
  else if findG FileP.name l o.name < 0 then l
  else if o.kind = 2 then withG FileP.name l ⟨o.name, atP l (findG FileP.name l o.name) ++ o.bytes⟩
  else if o.kind = 3 ∧ o.to ≠ o.name then withG FileP.name (withoutG l (findG FileP.name l o.name)) ⟨o.to, atP l (findG FileP.name l o.name)⟩
  else if o.kind = 4 then withoutG l (findG FileP.name l o.name)
  else l
theorem done_create {l : List FileP} {o : OpP} (h : o.kind = 1) : doneP l o = withG FileP.name l ⟨o.name, []⟩ := by unfold doneP; rw [if_pos h]
theorem done_gone {l : List FileP} {o : OpP} (h : ¬ o.kind = 1) (h1 : findG FileP.name l o.name < 0) : doneP l o = l := by unfold doneP; rw [if_neg h, if_pos h1]
theorem done_append {l : List FileP} {o : OpP} (h : o.kind = 2) (h1 : ¬ findG FileP.name l o.name < 0) : doneP l o = withG FileP.name l ⟨o.name, atP l (findG FileP.name l o.name) ++ o.bytes⟩ := by
  unfold doneP; rw [if_neg (by omega), if_neg h1, if_pos h]
theorem done_rename {l : List FileP} {o : OpP} (h : o.kind = 3) (ht : o.to ≠ o.name) (h1 : ¬ findG FileP.name l o.name < 0) :
    doneP l o = withG FileP.name (withoutG l (findG FileP.name l o.name)) ⟨o.to, atP l (findG FileP.name l o.name)⟩ := by
  unfold doneP; rw [if_neg (by omega), if_neg h1, if_neg (by omega), if_pos ⟨h, ht⟩]
theorem done_remove {l : List FileP} {o : OpP} (h : o.kind = 4) (h1 : ¬ findG FileP.name l o.name < 0) : doneP l o = withoutG l (findG FileP.name l o.name) := by
  unfold doneP; rw [if_neg (by omega), if_neg h1, if_neg (by omega), if_neg (fun h2 => by have := h2.1; omega), if_pos h]
theorem done_else {l : List FileP} {o : OpP} (h : ¬ o.kind = 1) (h2 : ¬ o.kind = 2) (h3 : ¬ (o.kind = 3 ∧ o.to ≠ o.name)) (h4 : ¬ o.kind = 4) : doneP l o = l := by
  unfold doneP
  rw [if_neg h, if_neg h2, if_neg h3, if_neg h4]
  split <;> rfl
theorem atP_eq {l : List FileP} {k : Nat} {f : FileP} (h : l[k]? = some f) : atP l k = f.bytes := by unfold atP; rw [Int.toNat_natCast, h]; rfl
/-- The first one of each name, sorted. -/
def firstsP (files : List FileP) : List FileP := files.foldl (fun l f => if findG FileP.name l f.name < 0 then withG FileP.name l f else l) []
def allP (files : List FileP) (queue : List OpP) : List FileP := queue.foldl doneP (firstsP files)
theorem foldl_take {α β : Type} (f : β → α → β) (b : β) {l : List α} {k : Nat} {x : α} (h : l[k]? = some x) : (l.take (k + 1)).foldl f b = f ((l.take k).foldl f b) x := by
  rw [List.take_add_one, h, List.foldl_append]
  rfl
/-- No file has more bytes than X. -/
def Bnd (X : Nat) (l : List FileP) : Prop := ∀ f ∈ l, f.bytes.length ≤ X
theorem Bnd.mono {X Y : Nat} {l : List FileP} (h : Bnd X l) (hXY : X ≤ Y) : Bnd Y l := fun f hf => Nat.le_trans (h f hf) hXY
theorem Bnd.with_ {X : Nat} {l : List FileP} {f : FileP} (h : Bnd X l) (hf : f.bytes.length ≤ X) : Bnd X (withG FileP.name l f) := fun g hg => by
  rcases with_mem FileP.name hg with rfl | hg
  · exact hf
  · exact h g hg
theorem Bnd.without {X : Nat} {l : List FileP} {k : Int} (h : Bnd X l) : Bnd X (withoutG l k) := fun g hg => h g (without_mem hg)
theorem Bnd.at_ {X : Nat} {l : List FileP} (h : Bnd X l) (k : Int) : (atP l k).length ≤ X := by
  unfold atP
  cases hk : l[k.toNat]? with
  | none => simp
  | some f => exact h f (List.mem_of_getElem? hk)
theorem Bnd.done {X Y : Nat} {l : List FileP} {o : OpP} (h : Bnd X l) (ho : o.bytes.length ≤ Y) : Bnd (X + Y) (doneP l o) := by
  have h1 := h.at_ (findG FileP.name l o.name)
  have h2 : Bnd (X + Y) l := h.mono (by omega)
  unfold doneP
  split
  · exact h2.with_ (by simp)
  · split
    · exact h2
    · split
      · exact h2.with_ (by simp only [List.length_append]; omega)
      · split
        · exact h2.without.with_ (by simp only; omega)
        · split
          · exact h2.without
          · exact h2
theorem done_length (l : List FileP) (o : OpP) : (doneP l o).length ≤ l.length + 1 := by
  have h0 := without_length l (findG FileP.name l o.name)
  unfold doneP
  split
  · exact with_length _ _ _
  · split
    · omega
    · split
      · exact with_length _ _ _
      · split
        · have := with_length FileP.name (withoutG l (findG FileP.name l o.name)) ⟨o.to, atP l (findG FileP.name l o.name)⟩
          omega
        · split <;> omega
def firstStep (l : List FileP) (f : FileP) : List FileP := if findG FileP.name l f.name < 0 then withG FileP.name l f else l
theorem firsts_eq (files : List FileP) : firstsP files = files.foldl firstStep [] := rfl
theorem firsts_bnd {X : Nat} {files : List FileP} (h : Bnd X files) : ∀ l, Bnd X l → Bnd X (files.foldl firstStep l) := by
  induction files with
  | nil => intro l hl; exact hl
  | cons f r ih =>
    intro l hl
    refine ih (fun g hg => h g (by simp [hg])) _ ?_
    unfold firstStep
    split
    · exact hl.with_ (h f (by simp))
    · exact hl
theorem firsts_length (files : List FileP) : ∀ l, (files.foldl firstStep l).length ≤ l.length + files.length := by
  induction files with
  | nil => intro l; simp
  | cons f r ih =>
    intro l
    have h1 := ih (firstStep l f)
    have h2 : (firstStep l f).length ≤ l.length + 1 := by
      unfold firstStep
      split
      · exact with_length _ _ _
      · omega
    rw [List.foldl_cons, List.length_cons]
    omega
theorem dones_bnd {X Y : Nat} (q : List OpP) : ∀ l, Bnd X l → (∀ o ∈ q, o.bytes.length ≤ Y) → Bnd (X + q.length * Y) (q.foldl doneP l) := by
  induction q generalizing X with
  | nil => intro l hl _; simpa using hl
  | cons o r ih =>
    intro l hl hq
    have h1 := ih (X := X + Y) (doneP l o) (hl.done (hq o (by simp))) (fun p hp => hq p (by simp [hp]))
    rw [List.foldl_cons, List.length_cons, Nat.succ_mul]
    exact h1.mono (by omega)
theorem dones_length (q : List OpP) : ∀ l : List FileP, (q.foldl doneP l).length ≤ l.length + q.length := by
  induction q with
  | nil => intro l; simp
  | cons o r ih =>
    intro l
    have h1 := ih (doneP l o)
    have h2 := done_length l o
    rw [List.foldl_cons, List.length_cons]
    omega
theorem all_bnd {X Y : Nat} {files : List FileP} {q : List OpP} (h : Bnd X files) (hq : ∀ o ∈ q, o.bytes.length ≤ Y) : Bnd (X + q.length * Y) (allP files q) :=
  dones_bnd q _ (firsts_bnd h [] (fun f hf => by cases hf)) hq
theorem all_length (files : List FileP) (q : List OpP) : (allP files q).length ≤ files.length + q.length := by
  have h1 := dones_length q (firstsP files)
  have h2 := firsts_length files []
  rw [← firsts_eq] at h2
  unfold allP
  simp only [List.length_nil] at h2
  omega
def nowP (d : DiskP) : List FileP := allP d.files d.queue
def sizeP (l : List FileP) : Nat := (l.map fun f => f.bytes.length).sum
def usedP (d : DiskP) : Nat := sizeP (nowP d)
def fineP (o : OpP) : Bool := decide (1 ≤ o.kind ∧ o.kind ≤ 4 ∧ o.name ≠ ByteArray.empty ∧ (o.kind = 3 → o.to ≠ ByteArray.empty))
/-- The names of files rise, none is empty. -/
def RiseP (l : List FileP) : Prop := ∀ i f, l[i]? = some f → f.name ≠ ByteArray.empty ∧ ∀ g, 0 < i → l[i - 1]? = some g → lessL g.name f.name = true
open Classical in
/-- May the disk be? -/
noncomputable def rightP (d : DiskP) : Bool := decide (RiseP d.files) && d.queue.all fineP && decide (d.queue.length ≤ 400) && decide (0 ≤ d.quota) && decide (0 ≤ d.fuse) && decide ((usedP d : Int) ≤ d.quota)
theorem right_rise {d : DiskP} (h : ¬ RiseP d.files) : rightP d = false := by unfold rightP; simp [h]
theorem right_fine {d : DiskP} {o : OpP} (ho : o ∈ d.queue) (h : fineP o = false) : rightP d = false := by
  have h1 : d.queue.all fineP = false := by
    rw [List.all_eq_false]
    exact ⟨o, ho, by simp [h]⟩
  unfold rightP
  rw [h1]
  simp
theorem right_rest {d : DiskP} (h : RiseP d.files) (hq : ∀ o ∈ d.queue, fineP o = true) : rightP d = (decide (d.queue.length ≤ 400) && decide (0 ≤ d.quota) && decide (0 ≤ d.fuse) && decide ((usedP d : Int) ≤ d.quota)) := by
  have h1 : d.queue.all fineP = true := List.all_eq_true.2 hq
  unfold rightP
  rw [h1]
  simp [h]
def burntP (d : DiskP) : DiskP := if 0 < d.fuse then { d with fuse := d.fuse - 1, dead := decide (d.fuse - 1 = 0) } else d
noncomputable def doP (d : DiskP) (o : OpP) : DiskP × Int :=
  if rightP d = false then (d, 2)
  else if d.dead then (d, 40)
  else if fineP o = false then (d, 2)
  else if o.kind ≠ 1 ∧ findG FileP.name (nowP d) o.name < 0 then (d, 42)
  else if (o.kind = 2 ∧ d.quota < (usedP d : Int) + o.bytes.length) ∨ 400 ≤ d.queue.length then (d, 41)
  else (burntP { d with queue := d.queue ++ [o] }, 0)
noncomputable def syncP (d : DiskP) : DiskP × Int :=
  if rightP d = false then (d, 2)
  else if d.dead then (d, 40)
  else (burntP { d with files := nowP d, queue := [] }, 0)
/-- How many, of n: below 0 none, more than there are all. -/
def cutP (k : Int) (n : Nat) : Nat := (min (max k 0) n).toNat
noncomputable def crashP (d : DiskP) (keep torn : Int) : DiskP :=
  if rightP d = false then d
  else
    let l := allP d.files (d.queue.take (cutP keep d.queue.length))
    let m := match d.queue[cutP keep d.queue.length]? with
      | some o => if o.kind = 2 then doneP l { o with bytes := o.bytes.take (cutP torn o.bytes.length) } else l
      | none => l
    { files := m, queue := [], quota := d.quota, fuse := 0, dead := false }
def readP (d : DiskP) (s : ByteArray) : List Int × Int :=
  if findG FileP.name (nowP d) s < 0 then ([], 42) else (atP (nowP d) (findG FileP.name (nowP d) s), 0)
def newP (quota : Int) : DiskP := { files := [], queue := [], quota := max quota 0, fuse := 0, dead := false }
def greatP (d : DiskP) : Bool := decide (30 < d.files.length) || decide (60 < d.queue.length) || d.files.any (fun f => decide (1000 < f.bytes.length)) || d.queue.any (fun o => decide (1000 < o.bytes.length))

end Go.Proofs.Ytmfiopopiikbmaa
