/-
  What TupleRight asks, plainly: deeds, and what comes of them.
-/
import Derived.Test.YtbhnlmlaebngmaaTupL
namespace Go.Proofs.Ytbhnlmlaebngmaa
open Go.RowKit
set_option linter.unusedVariables false

/-- A deed: what it is, a row of entries, an index, a state, a term, a vote. -/
structure DeedP where
  what : Int
  A : Option Addr
  n : Nat
  c : Nat
  lg : List EnP
  at_ : Int
  s : StP
  tm : Int
  vt : Int
def DeedP.cs (d : DeedP) : List Value := [.int .u8 d.what, .slice d.A d.n d.c, .int .i64 d.at_, .int .i64 d.s.ix, .int .i64 d.s.tm, .int .i64 d.s.sm, .int .i64 d.s.lv, .bool d.s.fn, .int .i64 d.tm, .int .i64 d.vt]
def DeedP.v (d : DeedP) : Value := .agg #[.int .u8 d.what, .slice d.A d.n d.c, .int .i64 d.at_, .int .i64 d.s.ix, .int .i64 d.s.tm, .int .i64 d.s.sm, .int .i64 d.s.lv, .bool d.s.fn, .int .i64 d.tm, .int .i64 d.vt]
theorem DeedP.len (d : DeedP) : d.cs.length = 10 := rfl
structure DeedP.Ok (w : World) (B : Nat) (d : DeedP) : Prop where
  what : 0 ≤ d.what ∧ d.what ≤ 255
  row : Es w B d.A d.n d.lg
  cap : d.n ≤ d.c
  at_ : I64 d.at_
  ix : I64 d.s.ix
theorem DeedP.Ok.on {w w' : World} {B B' : Nat} {d : DeedP} (h : DeedP.Ok w B d) (hb : Below B w w') (hB : B ≤ B') : DeedP.Ok w' B' d := ⟨h.what, Row.on h.row hb hB, h.cap, h.at_, h.ix⟩
/-- What comes of a deed. -/
def DoesIs (t : TupP) (d : DeedP) (o : TupP) (e : Int) : Prop :=
  (d.what % 5 = 0 ∧ AppendIs t d.lg o e) ∨ (d.what % 5 = 1 ∧ CutIs t d.at_ o e) ∨ (d.what % 5 = 2 ∧ stateP t d.at_ = none ∧ o = t ∧ e = 2) ∨ (d.what % 5 = 2 ∧ ∃ s, stateP t d.at_ = some s ∧ SaveIs t s o e) ∨ (d.what % 5 = 3 ∧ InstallIs t d.s o e) ∨ (d.what % 5 = 4 ∧ HardIs t d.tm d.vt o e)
/-- It is as it should be. -/
structure Good (t o : TupP) (e : Int) : Prop where
  may : MayT o
  or : e = 0 ∨ (e = 2 ∧ o = t)
  tm : t.tm ≤ o.tm
  ix : t.sn.ix ≤ o.sn.ix
  vt : o.tm = t.tm → 0 < t.vt → o.vt = t.vt
theorem good_same {t : TupP} (h : MayT t) : Good t t 2 := ⟨h, .inr ⟨rfl, rfl⟩, Int.le_refl _, Int.le_refl _, fun _ _ => rfl⟩
theorem good_told {t u o : TupP} {q : Prop} {e : Int} (h : MayT t) (ht : ToldIs t u q o e) (h1 : q → t.tm ≤ u.tm) (h2 : q → t.sn.ix ≤ u.sn.ix) (h3 : q → u.tm = t.tm → 0 < t.vt → u.vt = t.vt) : Good t o e := by
  rcases ht with ⟨hq, _, hu, rfl, rfl⟩ | ⟨_, rfl, rfl⟩
  · exact ⟨hu, .inl rfl, h1 hq, h2 hq, h3 hq⟩
  · exact good_same h
theorem does_good {t o : TupP} {d : DeedP} {e : Int} (h : MayT t) (hd : DoesIs t d o e) : Good t o e := by
  rcases hd with ⟨_, hd⟩ | ⟨_, hd⟩ | ⟨_, _, rfl, rfl⟩ | ⟨_, s, _, hd⟩ | ⟨_, hd⟩ | ⟨_, hd⟩
  · exact good_told h hd (fun _ => Int.le_refl _) (fun _ => Int.le_refl _) (fun _ _ _ => rfl)
  · exact good_told h hd (fun _ => Int.le_refl _) (fun _ => Int.le_refl _) (fun _ _ _ => rfl)
  · exact good_same h
  · exact good_told h hd (fun _ => Int.le_refl _) (fun hq => (termAt_range hq.1).1) (fun _ _ _ => rfl)
  · rcases hd with ⟨_, hd⟩ | ⟨_, hd⟩
    · exact good_told h hd (fun _ => Int.le_refl _) (fun hq => Int.le_of_lt hq.1.1) (fun _ _ _ => rfl)
    · exact good_told h hd (fun _ => Int.le_refl _) (fun hq => Int.le_of_lt hq.1) (fun _ _ _ => rfl)
  · refine good_told h hd (fun hq => ?_) (fun _ => Int.le_refl _) (fun hq he hv => ?_)
    · show t.tm ≤ d.tm
      omega
    · have he' : d.tm = t.tm := he
      show d.vt = t.vt
      omega
end Go.Proofs.Ytbhnlmlaebngmaa
