/-
  A name taken apart, told plainly; what may be is what its name is taken apart to.
-/
import Derived.Test.YtbfdjjkphmchgaaDoorKind
namespace Go.Proofs.YtbfdjjkphmchgaaDoor
open Go.RowKit Go.Lib

/-- A digit? -/
def isDig (c : UInt8) : Bool := decide (48 ≤ c.toNat) && decide (c.toNat ≤ 57)
/-- One digit on. -/
def stepD (s : Int) (c : UInt8) : Int := IntKind.i64.wrap (IntKind.i64.wrap (s * 10) + ((c.toNat : Int) - 48))
/-- The digits behind the letter. -/
def digs (bs : List UInt8) : List UInt8 := (bs.drop 1).takeWhile isDig
/-- The byte behind the dot, as a number: what is below '0' goes round. -/
def subD (c : UInt8) : Int := IntKind.u8.wrap ((c.toNat : Int) - 48)
def fmtF (bs : List UInt8) : Int := if (digs bs).length + 3 = bs.length ∧ bs[(digs bs).length + 1]?.getD 0 = 46 then subD (bs[(digs bs).length + 2]?.getD 0) else 0
def apartF (bs : List UInt8) : IdP :=
  if bs = [] then ⟨0, 0, 0⟩ else if bs = [77] then ⟨1, 0, 0⟩ else if bs = [77, 46, 110, 101, 119] then ⟨2, 0, 0⟩ else ⟨kindP ((bs[0]?.getD 0).toNat : Int), (digs bs).foldl stepD 0, fmtF bs⟩

theorem takeWhile_at {α : Type} (p : α → Bool) : ∀ (l : List α) (i : Nat) (x : α), (l.takeWhile p)[i]? = some x → l[i]? = some x ∧ p x = true := by
  intro l
  induction l with
  | nil => intro i x h; simp at h
  | cons a l ih =>
    intro i x h
    rw [List.takeWhile_cons] at h
    by_cases ha : p a = true
    · rw [if_pos ha] at h
      cases i with
      | zero => simp at h; subst h; exact ⟨rfl, ha⟩
      | succ i => simpa using ih i x (by simpa using h)
    · rw [if_neg ha] at h; simp at h
theorem takeWhile_end {α : Type} (p : α → Bool) : ∀ (l : List α) (x : α), l[(l.takeWhile p).length]? = some x → p x = false := by
  intro l
  induction l with
  | nil => intro x h; simp at h
  | cons a l ih =>
    intro x h
    rw [List.takeWhile_cons] at h
    by_cases ha : p a = true
    · rw [if_pos ha] at h
      exact ih x (by simpa using h)
    · rw [if_neg ha] at h
      simp at h
      subst h
      simpa using ha
theorem takeWhile_len {α : Type} (p : α → Bool) (l : List α) : (l.takeWhile p).length ≤ l.length := by
  induction l with
  | nil => simp
  | cons a l ih => rw [List.takeWhile_cons]; split <;> simp; exact ih
theorem takeWhile_app {α : Type} (p : α → Bool) (x : α) (r : List α) (hx : p x = false) : ∀ l : List α, (∀ y ∈ l, p y = true) → (l ++ x :: r).takeWhile p = l := by
  intro l
  induction l with
  | nil => intro _; rw [List.nil_append, List.takeWhile_cons, if_neg (by rw [hx]; decide)]
  | cons a l ih => intro h; rw [List.cons_append, List.takeWhile_cons, if_pos (h a (by simp)), ih fun y hy => h y (by simp [hy])]

theorem dec_dig (u : Nat) : ∀ c ∈ decDigits u, isDig c = true := by
  induction u using Nat.strongRecOn with
  | _ u ih =>
    intro c hc
    have key : ∀ d : Nat, d < 10 → isDig (UInt8.ofNat (48 + d)) = true := fun d hd => by
      unfold isDig
      rw [UInt8.toNat_ofNat_of_lt' (by simp [UInt8.size]; omega)]
      simp; omega
    by_cases h : u < 10
    · rw [decDigits_one h] at hc
      rw [List.mem_singleton.1 hc]
      exact key u h
    · rw [decDigits, dif_neg h] at hc
      rcases List.mem_append.1 hc with hc | hc
      · exact ih (u / 10) (by omega) c hc
      · rw [List.mem_singleton.1 hc]
        exact key _ (by omega)
theorem dec_fold (u : Nat) (hu : u ≤ 1073741824) : (decDigits u).foldl stepD 0 = (u : Int) := by
  induction u using Nat.strongRecOn with
  | _ u ih =>
    have key : ∀ (s : Int) (d : Nat), 0 ≤ s ∧ s ≤ 1073741824 → d < 10 → stepD s (UInt8.ofNat (48 + d)) = s * 10 + d := fun s d hs hd => by
      unfold stepD
      rw [UInt8.toNat_ofNat_of_lt' (by simp [UInt8.size]; omega), IntKind.wrap_i64, IntKind.wrap_i64]
      omega
    by_cases h : u < 10
    · rw [decDigits_one h]
      show stepD 0 _ = _
      rw [key 0 u (by omega) h]
      omega
    · rw [decDigits, dif_neg h, List.foldl_append, ih (u / 10) (by omega) (by omega)]
      show stepD _ _ = _
      rw [key _ _ (by omega) (by omega)]
      omega
theorem dec_pos (u : Nat) : 0 < (decDigits u).length := by
  rw [decDigits_length]
  exact nDigits_pos u
theorem txt_seg {x : IdP} (h : 1 ≤ x.seq ∧ x.seq ≤ 1073741824) (hk : x.kind = 3 ∨ x.kind = 4) (hf : x.fmt = 1 ∨ x.fmt = 2) : txtP x = (if x.kind = 3 then 115 else 112) :: (decDigits x.seq.toNat ++ [46, UInt8.ofNat (48 + x.fmt.toNat)]) := by
  unfold txtP
  rw [if_neg (by omega), if_neg (by omega)]
  unfold itoa
  rw [if_neg (show ¬ x.seq < 0 by omega), if_neg (show ¬ x.fmt < 0 by omega), decDigits_one (i := x.fmt.toNat) (by omega)]
theorem apart_txt {x : IdP} (h : MayP x) : apartF (txtP x) = x := by
  rcases h with ⟨hk, hs, hf⟩ | ⟨hk, h1, h2, hf⟩
  · obtain ⟨k, s, f⟩ := x
    dsimp only at hk hs hf
    subst hs hf
    rcases hk with rfl | rfl <;> rfl
  · have ht := txt_seg ⟨h1, h2⟩ hk hf
    have hd : digs (txtP x) = decDigits x.seq.toNat := by
      unfold digs
      rw [ht, List.drop_succ_cons, List.drop_zero]
      exact takeWhile_app isDig 46 _ (by decide) _ (dec_dig _)
    have hl : (txtP x).length = (decDigits x.seq.toNat).length + 3 := by rw [ht]; simp
    have hp := dec_pos x.seq.toNat
    unfold apartF
    rw [if_neg (fun e => by rw [e] at hl; simp at hl), if_neg (fun e => by rw [e] at hl; simp at hl)]
    rw [if_neg (fun e => by
      rw [ht] at e
      injection e with e1 e2
      rcases hk with hk | hk
      · rw [if_pos hk] at e1; cases e1
      · rw [if_neg (by omega)] at e1; cases e1)]
    have e0 : ((txtP x)[0]?.getD 0) = (if x.kind = 3 then (115 : UInt8) else 112) := by rw [ht]; rfl
    have ef : fmtF (txtP x) = x.fmt := by
      unfold fmtF
      rw [hd, if_pos]
      · rw [ht]
        rw [List.getElem?_cons_succ, List.getElem?_append_right (by omega)]
        rw [show (decDigits x.seq.toNat).length + 1 - (decDigits x.seq.toNat).length = 1 by omega]
        show subD (UInt8.ofNat (48 + x.fmt.toNat)) = _
        rcases hf with hf | hf <;> rw [hf] <;> rfl
      · refine ⟨hl.symm, ?_⟩
        rw [ht, List.getElem?_cons_succ, List.getElem?_append_right (by omega), Nat.sub_self]
        rfl
    rw [e0, hd, ef, dec_fold _ (by omega)]
    refine IdP.ext_ ?_ (by show ((x.seq.toNat : Nat) : Int) = _; omega) rfl
    rcases hk with hk | hk
    · rw [if_pos hk, hk]; rfl
    · rw [if_neg (by omega), hk]; rfl
/-- No two have one name. -/
theorem txt_inj {x y : IdP} (hx : MayP x) (hy : MayP y) (h : txtP x = txtP y) : x = y := by
  rw [← apart_txt hx, ← apart_txt hy, h]

end Go.Proofs.YtbfdjjkphmchgaaDoor
