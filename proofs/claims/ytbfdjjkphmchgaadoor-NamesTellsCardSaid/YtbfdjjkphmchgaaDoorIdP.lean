/-
  What a file's name says, told plainly: which may be, their names, their order.
-/
import Derived.Lib.ItoaNum
import Derived.Test.YtbfdjjkphmchgaaDoorBase
namespace Go.Proofs.YtbfdjjkphmchgaaDoor
open Go.RowKit Go.Lib

/-- What a file's name says. -/
structure IdP where
  kind : Int
  seq : Int
  fmt : Int
def IdP.v (x : IdP) : Value := .agg #[.int .u8 x.kind, .int .i64 x.seq, .int .i64 x.fmt]
def IdP.cs (x : IdP) : List Value := [.int .u8 x.kind, .int .i64 x.seq, .int .i64 x.fmt]
theorem IdP.len (x : IdP) : x.cs.length = 3 := rfl
/-- Its kind is a byte, its numbers are ints. -/
structure IdP.Ok (x : IdP) : Prop where
  k0 : 0 ≤ x.kind
  k1 : x.kind ≤ 255
  s0 : -9223372036854775808 ≤ x.seq
  s1 : x.seq ≤ 9223372036854775807
  f0 : -9223372036854775808 ≤ x.fmt
  f1 : x.fmt ≤ 9223372036854775807
theorem IdP.ext_ {x y : IdP} (a : x.kind = y.kind) (b : x.seq = y.seq) (c : x.fmt = y.fmt) : x = y := by
  cases x
  cases y
  simp only at a b c
  subst a b c
  rfl
/-- May it be? -/
def MayP (x : IdP) : Prop := ((x.kind = 1 ∨ x.kind = 2) ∧ x.seq = 0 ∧ x.fmt = 0) ∨ ((x.kind = 3 ∨ x.kind = 4) ∧ 1 ≤ x.seq ∧ x.seq ≤ 1073741824 ∧ (x.fmt = 1 ∨ x.fmt = 2))
instance (x : IdP) : Decidable (MayP x) := by unfold MayP; infer_instance
/-- The name of what may be. -/
def txtP (x : IdP) : List UInt8 :=
  if x.kind = 1 then [77] else if x.kind = 2 then [77, 46, 110, 101, 119] else (if x.kind = 3 then 115 else 112) :: (itoa x.seq ++ 46 :: itoa x.fmt)
def nameP (x : IdP) : ByteArray := if MayP x then ⟨(txtP x).toArray⟩ else ⟨#[]⟩
def errP (x : IdP) : Int := if MayP x then 0 else 2
/-- -1, 0, 1. -/
def cmpP (x y : Int) : Int := if x < y then -1 else if y < x then 1 else 0
def orderP (a b : IdP) : Int := if cmpP a.seq b.seq ≠ 0 then cmpP a.seq b.seq else if cmpP a.kind b.kind ≠ 0 then cmpP a.kind b.kind else cmpP a.fmt b.fmt
/-- a stands ahead of b. -/
def LessP (a b : IdP) : Prop := a.seq < b.seq ∨ a.seq = b.seq ∧ (a.kind < b.kind ∨ a.kind = b.kind ∧ a.fmt < b.fmt)
instance (a b : IdP) : Decidable (LessP a b) := by unfold LessP; infer_instance
theorem cmp_val (x y : Int) : (x < y ∧ cmpP x y = -1) ∨ (y < x ∧ cmpP x y = 1) ∨ (x = y ∧ cmpP x y = 0) := by
  unfold cmpP
  by_cases h : x < y
  · exact .inl ⟨h, if_pos h⟩
  by_cases h2 : y < x
  · exact .inr (.inl ⟨h2, by rw [if_neg h, if_pos h2]⟩)
  · exact .inr (.inr ⟨by omega, by rw [if_neg h, if_neg h2]⟩)
theorem order_val (a b : IdP) : (LessP a b ∧ orderP a b = -1) ∨ (LessP b a ∧ orderP a b = 1) ∨ (a = b ∧ orderP a b = 0) := by
  unfold orderP LessP
  rcases cmp_val a.seq b.seq with ⟨h, e⟩ | ⟨h, e⟩ | ⟨h, e⟩
  · exact .inl ⟨.inl h, by rw [e]; rfl⟩
  · exact .inr (.inl ⟨.inl h, by rw [e]; rfl⟩)
  rw [e, if_neg (by simp)]
  rcases cmp_val a.kind b.kind with ⟨h2, e2⟩ | ⟨h2, e2⟩ | ⟨h2, e2⟩
  · exact .inl ⟨.inr ⟨h, .inl h2⟩, by rw [e2]; rfl⟩
  · exact .inr (.inl ⟨.inr ⟨h.symm, .inl h2⟩, by rw [e2]; rfl⟩)
  rw [e2, if_neg (by simp)]
  rcases cmp_val a.fmt b.fmt with ⟨h3, e3⟩ | ⟨h3, e3⟩ | ⟨h3, e3⟩
  · exact .inl ⟨.inr ⟨h, .inr ⟨h2, h3⟩⟩, e3⟩
  · exact .inr (.inl ⟨.inr ⟨h.symm, .inr ⟨h2.symm, h3⟩⟩, e3⟩)
  · exact .inr (.inr ⟨IdP.ext_ h2 h h3, e3⟩)
theorem less_iff (a b : IdP) : orderP a b < 0 ↔ LessP a b := by
  rcases order_val a b with ⟨h, e⟩ | ⟨h, e⟩ | ⟨h, e⟩
  · rw [e]; exact ⟨fun _ => h, fun _ => by decide⟩
  · rw [e]
    refine ⟨fun h1 => absurd h1 (by decide), fun h1 => ?_⟩
    unfold LessP at h h1
    omega
  · rw [e]
    subst h
    refine ⟨fun h1 => absurd h1 (by decide), fun h1 => ?_⟩
    unfold LessP at h1
    omega

end Go.Proofs.YtbfdjjkphmchgaaDoor
