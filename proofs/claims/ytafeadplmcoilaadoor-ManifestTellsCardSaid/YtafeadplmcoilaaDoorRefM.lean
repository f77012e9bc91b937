import Derived.Test.YtafeadplmcoilaaDoorNumU
import Derived.Test.YtafeadplmcoilaaDoorReadP
import Derived.Test.YtafeadplmcoilaaDoorTakesN
import Derived.Test.YtafeadplmcoilaaDoorSameL
import Derived.Test.YtafeadplmcoilaaDoorManK
import Derived.Test.YtafeadplmcoilaaDoorAppM
import Derived.Test.YtafeadplmcoilaaDoorTakeM
/-
  The document's Takes: its contract, with a rest that is made for the call.
-/
namespace Go.Proofs.YtafeadplmcoilaaDoor.Nu
open Go.RowKit
set_option linter.unusedVariables false

def ManyNew (l : List Int) (many : Int) (B : Nat) (e : Ending) (w' : World) : Prop :=
  ∃ v v', e = .returned (.tuple #[v, v', .int .i64 (takesP l many).2.2]) ∧ Gives .i64 (takesP l many).1 v w' ∧ Gives .u8 (takesP l many).2.1 v' w' ∧ (∀ g, v'.ownBlock = some g → B ≤ g) ∧ ∀ g, v.ownBlock = some g → B ≤ g
theorem ManyNew.mk {l : List Int} {many : Int} {B : Nat} {e : Int} {a r : List Int} {v v' : Value} {w' : World} (h : takesP l many = (a, r, e)) (hg : Gives .i64 a v w') (hg' : Gives .u8 r v' w') (hn : ∀ g, v'.ownBlock = some g → B ≤ g) (hv : ∀ g, v.ownBlock = some g → B ≤ g) : ManyNew l many B (.returned (.tuple #[v, v', .int .i64 e])) w' := by
  refine ⟨v, v', ?_, ?_, ?_, hn, hv⟩
  · rw [h]
  · rw [h]; exact hg
  · rw [h]; exact hg'

set_option maxRecDepth 100000 in
set_option maxHeartbeats 1000000 in
theorem rtakesN_any (A : Option Addr) (n c : Nat) (l : List Int) (many : Int) (w : World) (hr : Rd w w.heap.size .u8 A n l) (hb : Byt l) (hn : n ≤ 1099511627776) (hmany : many ≤ 1000) :
    Calls Tryd.prog 37 #[.slice A n c, .int .i64 many] w fun e w' => ManyNew l many w.heap.size e w' ∧ Below w.heap.size w w' := by
  have Hl := Lib.hid hr.1
  obtain ⟨i0, hi, hz0, hz1, hz2⟩ := info_parts info_byte
  obtain ⟨i1, hi1, hy0, hy1, hy2⟩ := info_parts info_int
  go_enter Tryd.func37, Tryd.ntmps37
  go_wp2_with (at_builtin; refine hold ?_)
  refine unhold (wpList_append_rdg (.tmp 13) (.tmp 14) 27 Tryd.underlying27 hi hz0 hz1 hz2 byte_cells (own_empty w w.heap.size 5 (Nat.le_refl _)) (hr.on ((Below.refl _ _).alloc (Nat.le_refl _) _) (Nat.le_refl _)) (by unfold maxLen; omega) (by omega) (by simp) rfl rfl rfl rfl ?_)
  intro v3 w3 L3
  have hnew3 : ∀ g, v3.ownBlock = some g → w.heap.size ≤ g := fun g hg => by have := (L3.1.lt g hg).1; (try simp at this); omega
  obtain ⟨⟨A3, c3, q3, rfl, r3⟩, hB3⟩ := L3.one
  have H3 := Lib.hid (⟨hnew3, r3, hB3⟩ : _ ∧ _ ∧ _)
  clear hnew3 r3 hB3
  clear L3
  go_wp2_with fail
  go_loopw [7, 8, 9] (fun v o i wr => ∃ (j p q9 : Nat) (A9 : Option Addr) (c9 : Nat) (acc : List Int), i = .int .i64 j ∧ v = .slice A9 q9 c9 ∧ acc.length = j ∧ j ≤ 1000 ∧ AtMany l many p acc ∧ Row .u8 (l.drop p) q9 A9 c9 wr ∧ (∀ g, (Value.slice A9 q9 c9).ownBlock = some g → w.heap.size ≤ g) ∧ wr.ownsRow w.heap.size 3 1 o acc.length (acc.map (Value.int .i64)) ∧ Below w.heap.size w wr) (fun _ _ i _ => many.toNat - (intOf i).toNat)
  case atStart => exact ⟨0, 0, q3, A3, c3, [], rfl, rfl, rfl, by omega, AtMany.first l many, H3.out.2.1, H3.out.1, World.ownsRow_nil _ _ _ _, H3.out.2.2⟩
  case round =>
    obtain ⟨j, p, q9, A9, c9, acc, rfl, rfl, hacc, hj1, hat, r9, hnew9, hrow, hB⟩ := hrel
    have H9 := Lib.hid hnew9
    clear hnew9
    have hsz := hB.size
    have hq9 : q9 ≤ n := by
      have h1 := r9.rd.1
      rw [List.length_drop, Hl.out] at h1
      omega
    have Hacc := Lib.hid hacc
    rw [hacc] at hrow
    clear hacc
    by_cases hlt : (j : Int) < many
    · rcases takeP_fine (hb.drop p) with h | ⟨x, m, h, h1, h2, h3, h4, h5⟩
      · obtain ⟨f, hf, hf0⟩ : ∃ f, takeP (l.drop p) = (0, 0, f) ∧ f ≠ 0 := by
          rcases h with h | h
          · exact ⟨10, h, by decide⟩
          · exact ⟨11, h, by decide⟩
        have Hm := Lib.hid (hat.err (by rw [Hacc.out]; exact hlt) hf hf0)
        have H := Lib.hid hf
        have H0 := Lib.hid hf0
        have hne : (f != 0) = true := by simpa using hf0
        clear h hf hf0 hat
        go_wp2_with fail
        refine (rtake_err A9 q9 c9 _ wr r9.rd (hb.drop p) r9.1 (by omega) H.out H0.out).mono ?_
        rintro e w9 ⟨A10, c10, rfl, r10, hb10⟩
        go_wp2_with fail
        go_ret3
        exact ⟨ManyNew.mk Hm.out (Gives.nil _ _) (Gives.nil _ _) (nil_new _) (nil_new _), hB.trans (hb10.mono hsz)⟩
      · rw [List.length_drop] at h5
        have hnx := Lib.hid (hat.next (by rw [Hacc.out]; exact hlt) h h3 h5)
        have H := Lib.hid h
        clear h hat
        obtain ⟨d, hd9⟩ : ∃ d, ((l.drop p).drop m).length = d := ⟨_, rfl⟩
        have Hd := Lib.hid hd9
        clear hd9
        go_wp2_with fail
        refine (rtake_ok A9 q9 c9 _ wr r9.rd (hb.drop p) r9.1 (by omega) H.out rfl Hd.out).mono ?_
        rintro e w9 ⟨A10, c10, rfl, r10, hnew, hb10⟩
        have Hnew := Lib.hid hnew
        have HS := Lib.hid hB.size
        clear hnew
        have hB9 : Below w.heap.size w w9 := hB.trans (hb10.mono hsz)
        have Hlt := Lib.hid (fun g hg => (hrow.lt g hg).2)
        have hrow9 := own_below hrow hb10
        have hsz9 := hB9.size
        clear hb10 hrow r9
        go_wp2_with (at_builtin; refine hold ?_)
        refine unhold (wpList_append_rdg (.tmp 30) (.tmp 32) 59 Tryd.underlying59 hi1 hy0 hy1 hy2 int_cells (hrow9.alloc _) (Rd.made w9 .i64 3 [x] rfl) (by unfold maxLen; simp; omega) (by simp; omega) (by simp; omega) rfl rfl rfl rfl ?_)
        intro v4 w4 L4
        have hB4 : Below w.heap.size w w4 := L4.below (hB9.alloc hsz9 _) (by simp; omega) (fun g hg => (hrow9.lt g hg).1)
        have hrow4 := own_next L4 Hacc.out rfl
        have r4 := r10.over L4.2.1 (fun g hg e => by have h8 := Hnew.out g hg; have h9 := Hlt.out g e; omega)
        clear r10 L4
        go_wp2_with fail
        go_roundw
        case rel => exact ⟨j + 1, p + m, d, A10, c10, acc ++ [x], by go_num, rfl, by rw [List.length_append, Hacc.out]; rfl, by omega, hnx.out, by rw [← List.drop_drop]; exact r4, (fun g hg => Nat.le_trans HS.out (Hnew.out g hg)), hrow4, hB4⟩
        case measure => simp [intOf]; omega
    · have Hf := Lib.hid (hat.full (by rw [Hacc.out]; omega))
      rw [← Hacc.out] at hrow
      go_wp2_with fail
      go_ret3
      exact ⟨ManyNew.mk Hf.out (Gives.own hrow) r9.gives H9.out (fun g hg => (hrow.lt g hg).1), hB⟩
section
variable (A : Option Addr) (n c : Nat) (l : List Int) (w : World)
variable (hr : Rd w w.heap.size .u8 A n l) (hb : Byt l) (hn : n ≤ 1099511627776)
include hr hb hn
theorem rtakes_new {many e : Int} (hmany : many ≤ 1000) {R S : List Int} {q p : Nat} (h : takesP l many = (R, S, e)) (hq : R.length = q) (hp : S.length = p) :
    Calls Tryd.prog 37 #[.slice A n c, .int .i64 many] w fun e' w' => ∃ A' c' A'' c'', e' = .returned (.tuple #[.slice A' q c', .slice A'' p c'', .int .i64 e]) ∧ Row .i64 R q A' c' w' ∧ Row .u8 S p A'' c'' w' ∧ (∀ g, (Value.slice A'' p c'').ownBlock = some g → w.heap.size ≤ g) ∧ (∀ g, (Value.slice A' q c').ownBlock = some g → w.heap.size ≤ g) ∧ Below w.heap.size w w' := by
  refine (rtakesN_any A n c l many w hr hb hn hmany).mono ?_
  rintro e w' ⟨⟨v, v', rfl, hg, hg', hnew, hnv⟩, hb⟩
  rw [h] at hg hg'
  obtain ⟨A', c', rfl, h'⟩ := hg.row rfl hq
  obtain ⟨A'', c'', rfl, h''⟩ := hg'.row rfl hp
  exact ⟨A', c', A'', c'', by rw [h], h', h'', hnew, hnv, hb⟩
end
end Go.Proofs.YtafeadplmcoilaaDoor.Nu

/-
  What the document's Take of a manifest finds on its way. No program is named here.
-/
namespace Go.Proofs.YtafeadplmcoilaaDoor
open Go.RowKit
set_option linter.unusedVariables false

/-- i segments have been taken off r. -/
def TkS (r : List Int) (i : Nat) (l : List SegP) (rest : List Int) : Prop := l.length = i ∧ r = Nu.shortsOf (l.flatMap segN) ++ rest ∧ Nu.allNum (l.flatMap segN) = true
theorem TkS.first (r : List Int) : TkS r 0 [] r := ⟨rfl, rfl, rfl⟩
theorem TkS.next {r rest s behind : List Int} {i : Nat} {l : List SegP} (h : TkS r i l rest) (hb : Byt rest) (ht : Nu.takesP rest 4 = (s, behind, 0)) : TkS r (i + 1) (l ++ [segOf s]) behind ∧ s.length = 4 := by
  obtain ⟨h1, h2, h3⟩ := Nu.takesP_back (k := 4) hb ht
  obtain ⟨a, b, c, d, rfl⟩ : ∃ a b c d, s = [a, b, c, d] := by
    match s, h1 with
    | [a, b, c, d], _ => exact ⟨a, b, c, d, rfl⟩
  have e : [segOf [a, b, c, d]].flatMap segN = [a, b, c, d] := by
    show [a, b, c, d - 1 + 1] = _
    rw [show d - 1 + 1 = d by omega]
  refine ⟨⟨by rw [List.length_append, h.1]; rfl, ?_, ?_⟩, rfl⟩
  · rw [List.flatMap_append, e, shortsOf_append, List.append_assoc, ← h3]
    exact h.2.1
  · rw [List.flatMap_append, e]
    exact all_append.2 ⟨h.2.2, h2⟩
theorem TkS.is {t : ManP} {b p o r rest : List Int} {i k : Nat} {l : List SegP} (h : TkS r i l rest) (ht : IsMan t b) (hp : b.take (b.length - 4) = p) (h1 : Nu.takesP (p.drop 1) 6 = (o, r, 0)) (h5 : o[5]?.getD 0 = (k : Int)) (hi : i ≤ k) :
    headN t = o ∧ t.sg.length = k ∧ l = t.sg.take i ∧ rest = Nu.shortsOf ((t.sg.drop i).flatMap segN) := by
  rw [(man_ok ht).2] at hp
  subst hp
  rw [man_head ht.1] at h1
  simp only [Prod.mk.injEq, and_true] at h1
  obtain ⟨rfl, rfl⟩ := h1
  have hk : t.sg.length = k := by simp [headN] at h5; omega
  obtain ⟨hl, hr, ha⟩ := h
  have ha2 := segs_all ht.1
  rw [← List.take_append_drop i t.sg, List.flatMap_append] at ha2 hr
  rw [shortsOf_append] at hr
  have hlen : (t.sg.take i).length = i := by rw [List.length_take]; omega
  obtain ⟨e1, e2⟩ := shorts_same (all_append.1 ha2).1 ha (by rw [segN_len, segN_len, hlen, hl]) hr
  exact ⟨rfl, hk, (segs_inj (by rw [hlen, hl]) e1).symm, e2.symm⟩
theorem TkS.err {b p o r rest : List Int} {i k : Nat} {l : List SegP} (h : TkS r i l rest) (hp : b.take (b.length - 4) = p) (h1 : Nu.takesP (p.drop 1) 6 = (o, r, 0)) (h5 : o[5]?.getD 0 = (k : Int)) (hi : i < k) (he : (Nu.takesP rest 4).2.2 ≠ 0) : ∀ t, ¬ IsMan t b := fun t ht => by
  obtain ⟨-, e2, -, e4⟩ := h.is ht hp h1 h5 (by omega)
  obtain ⟨s, hs⟩ : ∃ s, t.sg[i]? = some s := ⟨_, List.getElem?_eq_getElem (by omega)⟩
  rw [e4, man_seg ht.1 hs] at he
  exact he rfl
theorem TkS.man {t : ManP} {b p r rest : List Int} {k : Nat} {l : List SegP} {o0 o1 o2 o3 o4 o5 : Int} (h : TkS r k l rest) (hp : b.take (b.length - 4) = p) (h1 : Nu.takesP (p.drop 1) 6 = ([o0, o1, o2, o3, o4, o5], r, 0)) (h5 : o5 = (k : Int)) (ht : IsMan t b) : t = ⟨o0, o1, o2, o3, o4, l⟩ := by
  obtain ⟨e1, e2, e3, -⟩ := h.is ht hp h1 (k := k) (by simpa using h5) (Nat.le_refl _)
  rw [List.take_of_length_le (by omega)] at e3
  simp only [headN, List.cons.injEq, and_true] at e1
  obtain ⟨a1, a2, a3, a4, a5, -⟩ := e1
  obtain ⟨c1, c2, c3, c4, c5, c6⟩ := t
  simp only at a1 a2 a3 a4 a5 e3
  subst a1 a2 a3 a4 a5 e3
  rfl
/-- The count of segments is a number of the head's. -/
theorem head_count {b o r : List Int} (hb : Byt b) (h : Nu.takesP b 6 = (o, r, 0)) : ∃ (o0 o1 o2 o3 o4 : Int) (k : Nat), o = [o0, o1, o2, o3, o4, (k : Int)] ∧ Byt r := by
  obtain ⟨h1, h2, h3⟩ := Nu.takesP_back (k := 6) hb h
  obtain ⟨a, b', c, d, e, f, rfl⟩ := list6 o h1
  have hf := Nu.isNum_iff.1 (List.all_eq_true.1 h2 f (by simp))
  refine ⟨a, b', c, d, e, f.toNat, by rw [show ((f.toNat : Nat) : Int) = f by omega], fun x hx => hb x ?_⟩
  rw [h3]
  exact List.mem_append_right _ hx
theorem takes_byt {b o r : List Int} {k : Nat} (hb : Byt b) (h : Nu.takesP b (k : Int) = (o, r, 0)) : Byt r := fun x hx => hb x (by
  rw [(Nu.takesP_back hb h).2.2]
  exact List.mem_append_right _ hx)
end Go.Proofs.YtafeadplmcoilaaDoor

/-
  The document's Put (of manifests): its contract.
-/
namespace Go.Proofs.YtafeadplmcoilaaDoor
open Go.RowKit
set_option linter.unusedVariables false
set_option linter.unusedSimpArgs false

theorem own_ge {w : World} {base size n : Nat} {e : TypeId} {v : Value} {xs : List Value} (h : w.ownsRow base e size v n xs) : ∀ g, v.ownBlock = some g → base ≤ g := by
  intro g hg
  rcases h.2 with ⟨rfl, _⟩ | ⟨g', cap, cur, rfl, hb, _⟩
  · cases hg
  · obtain rfl : g' = g := Option.some.inj hg
    exact hb
/-- The numbers of the head and of the first k segments. -/
def preN (m : ManP) (k : Nat) : List Int := headN m ++ (m.sg.take k).flatMap segN
theorem preN_zero (m : ManP) : preN m 0 = headN m := by simp [preN]
theorem preN_all {m : ManP} {n : Nat} (hn : m.sg.length = n) : preN m n = numsM m := by rw [preN, List.take_of_length_le (by omega)]; rfl
abbrev OwnN (w : World) (base : Nat) (v : Value) (n : Nat) (l : List Int) : Prop := w.ownsRow base 3 1 v n (l.map (Value.int .i64))
theorem ownN_head (w : World) (m : ManP) {n g : Nat} (hn : m.sg.length = n) (hg : g = w.heap.size) :
    OwnN (w.alloc (.cells #[.int .i64 m.nx, .int .i64 m.tm, .int .i64 m.vt, .int .i64 m.ss, .int .i64 m.sf, .int .i64 n] 3)) w.heap.size (.slice (some ⟨g, 0, none⟩) 6 6) 6 (headN m) := by
  have h := own_litM w (base := w.heap.size) (g := g) (m := 1) (e := 3) [.int .i64 m.nx, .int .i64 m.tm, .int .i64 m.vt, .int .i64 m.ss, .int .i64 m.sf, .int .i64 n] 6 hg (Nat.le_refl _) (by unfold maxLen; omega) rfl
  unfold OwnN headN
  rw [hn]
  exact h

set_option maxRecDepth 100000 in
set_option maxHeartbeats 8000000 in
theorem rputM_any (m : ManP) (A : Option Addr) (n c : Nat) (w : World) (hS : Sg w w.heap.size A n m.sg) (hn : n ≤ 1000000) :
    Calls Tryd.prog 11 #[manV m (.slice A n c)] w (PutT m w) := by
  obtain ⟨i0, hi, hz0, hz1, hz2⟩ := info_parts Nu.info_byte
  obtain ⟨i1, hi1, hy0, hy1, hy2⟩ := info_parts Nu.info_int
  by_cases hM : May m
  · have hn60 : n ≤ 60 := by have h := hM.few; rw [hS.len] at h; exact h
    have HM := Lib.hid (⟨hM, hS.len⟩ : _ ∧ _)
    clear hM
    obtain ⟨z1, hz1⟩ : ∃ z, z = w.heap.size := ⟨_, rfl⟩
    obtain ⟨w1, hw1⟩ : ∃ x, x = w.alloc (.cells #[.int .i64 m.nx, .int .i64 m.tm, .int .i64 m.vt, .int .i64 m.ss, .int .i64 m.sf, .slice A n c] 26) := ⟨_, rfl⟩
    have bb : Below w.heap.size w w1 := by rw [hw1]; exact below_al (below_d0 _) _
    have bz : BoxM w1 z1 m (.slice A n c) := by rw [hw1, hz1]; exact BoxM.new w m _
    replace hS := hS.on bb bb.size
    have B1 := bb
    clear bb
    have HE := Lib.hid (⟨hw1, hz1⟩ : _ ∧ _)
    clear hw1 hz1
    unfold manV
    go_enter Tryd.func11, Tryd.ntmps11
    obtain ⟨k0, k1, k2, k3, k4, k5⟩ := bz.cells
    rw [HE.out.1, HE.out.2] at k0 k1 k2 k3 k4 k5
    go_wp2_with fail
    rw [← HE.out.1, ← HE.out.2]
    clear HE
    clear k0 k1 k2 k3 k4 k5
    refine Calls.mono (show Calls Tryd.prog 19 #[.agg #[.int .i64 m.nx, .int .i64 m.tm, .int .i64 m.vt, .int .i64 m.ss, .int .i64 m.sf, .slice A n c]] w1 (fun e w' => (∃ r, CheckIs m r ∧ e = .returned (.int .i64 r)) ∧ Below w1.heap.size w1 w') from rcheck_any m A n c w1 hS hn) ?_
    intro e w2 hh
    obtain ⟨⟨r, hr, rfl⟩, bb⟩ := hh
    (try clear hh)
    replace bz := bz.below bb
    replace hS := hS.on bb bb.size
    have B2 := B1.trans (bb.mono B1.size)
    clear bb B1
    obtain rfl := hr.same (.inl ⟨HM.out.1, rfl⟩)
    clear hr
    have HL := Lib.hid (⟨hS, bz, B2⟩ : _ ∧ _ ∧ _)
    obtain ⟨z3, hz3⟩ : ∃ z, z = w2.heap.size := ⟨_, rfl⟩
    obtain ⟨w3, hw3⟩ : ∃ x, x = w2.alloc (.cells #[.int .i64 m.nx, .int .i64 m.tm, .int .i64 m.vt, .int .i64 m.ss, .int .i64 m.sf, .int .i64 n] 3) := ⟨_, rfl⟩
    have b3 : Below w2.heap.size w2 w3 := by rw [hw3]; exact below_al (below_d0 _) _
    have own3 : OwnN w3 w2.heap.size (.slice (some ⟨z3, 0, none⟩) 6 6) 6 (headN m) := by rw [hw3]; exact ownN_head w2 m HM.out.2 hz3
    have H3 := Lib.hid (⟨b3, own3⟩ : _ ∧ _)
    clear b3 own3 hS B2
    obtain ⟨k0, k1, k2, k3, k4, k5⟩ := bz.cells
    go_wp2_with fail
    clear k0 k1 k2 k3 k4 k5
    rw [← hw3, ← hz3]
    clear hw3 hz3 bz
    go_loopw [4, 5] (fun v i wr => ∃ (k : Nat) (A9 : Option Addr) (c9 : Nat), k ≤ n ∧ v = .slice A9 (6 + 4 * k) c9 ∧ i = .int .i64 k ∧ OwnN wr w2.heap.size (.slice A9 (6 + 4 * k) c9) (6 + 4 * k) (preN m k) ∧ Below w2.heap.size w2 wr) (fun _ i _ => n - (intOf i).toNat)
    case atStart => exact ⟨0, some ⟨z3, 0, none⟩, 6, Nat.zero_le _, rfl, rfl, by rw [preN_zero]; exact H3.out.2, H3.out.1⟩
    clear H3
    obtain ⟨k, A9, c9, hk, rfl, rfl, own, hB⟩ := hrel
    by_cases hlt : k < n
    · obtain ⟨k0, k1, k2, k3, k4, k5⟩ := (HL.out.2.1.below hB).cells
      obtain ⟨b, off, s, rfl, hb, hs, d0, d1, d2, d3⟩ := (HL.out.1.on hB hB.size).at_ hlt
      have hct := (HM.out.1.segs k s hs).count
      have q1 : -1 ≤ s.ct := by omega
      have q2 : s.ct ≤ 4 := by omega
      have Hs := Lib.hid hs
      obtain ⟨x4, hx4⟩ : ∃ x, x = wr.alloc (.cells #[.int .i64 s.sq, .int .i64 s.fm, .int .i64 s.fi, .int .i64 s.ct] 51) := ⟨_, rfl⟩
      obtain ⟨x5, hx5⟩ : ∃ x, x = x4.alloc (.cells #[.int .i64 s.sq, .int .i64 s.fm, .int .i64 s.fi, .int .i64 (s.ct + 1)] 3) := ⟨_, rfl⟩
      obtain ⟨zl, hzl⟩ : ∃ z, z = x4.heap.size := ⟨_, rfl⟩
      have hzr : wr.heap.size + 1 = zl := by rw [hzl, hx4]; simp
      have b4 : Below wr.heap.size wr x4 := by rw [hx4]; exact below_al (below_d0 _) _
      have b5 : Below x4.heap.size x4 x5 := by rw [hx5]; exact below_al (below_d0 _) _
      have b45 : Below wr.heap.size wr x5 := b4.trans (b5.mono b4.size)
      have own5 := own_keep own b45
      have hB5 := hB.trans (b45.mono hB.size)
      have rl : Rd x5 x5.heap.size .i64 (some ⟨zl, 0, none⟩) 4 (segN s) := by rw [hx5, hzl]; exact Nu.Rd.made x4 .i64 3 (segN s) rfl
      have HR := Lib.hid (⟨own5, hB5, rl⟩ : _ ∧ _ ∧ _)
      have HW := Lib.hid (⟨hx4, hx5, hzr⟩ : _ ∧ _ ∧ _)
      clear own hB hs hb hct hx4 hx5 hzl hzr b4 b5 b45 own5 hB5 rl k0 k1 k2 k3 k4
      go_wp2_with (at_builtin; refine hold ?_)
      rw [← HW.out.1, ← HW.out.2.1, HW.out.2.2]
      refine unhold (wpList_append (.tmp 40) (.tmp 50) 59 Tryd.underlying59 hi1 hy0 hy1 hy2 Nu.int_cells (by decide) HR.out.1 (Source.rd HR.out.2.2) (by unfold maxLen; omega) (by omega) HR.out.2.1.size rfl rfl rfl rfl ?_)
      intro va wa La
      obtain ⟨Aa, ca, rfl, hca, owna, ba, na⟩ := Longer.more HR.out.2.1 HR.out.2.1.size (own_ge HR.out.1) La
      rw [← List.map_append, preN, ← segs_succ Hs.out] at owna
      have HA := Lib.hid (⟨owna, ba⟩ : _ ∧ _)
      clear La HR HW hca owna ba na
      go_wp2_with fail
      go_roundw
      case rel => exact ⟨k + 1, Aa, ca, by omega, rfl, by go_num, HA.out.1, HA.out.2⟩
      case measure => simp [intOf]; omega
    · obtain rfl : k = n := by omega
      obtain ⟨k0, k1, k2, k3, k4, k5⟩ := (HL.out.2.1.below hB).cells
      have rn := Rd.of_own own
      rw [preN_all HM.out.2] at rn
      obtain ⟨q, hq⟩ : ∃ q, (Nu.shortsOf (numsM m)).length = q := ⟨_, rfl⟩
      have hql := manT_len HM.out.1
      have hqT : (manT m).length = 1 + q := by rw [manT, List.length_cons, hq]; omega
      rw [hqT] at hql
      have Hq := Lib.hid (⟨hq, hqT, hB⟩ : _ ∧ _ ∧ _)
      clear own hq hqT hB k0 k1 k2 k3
      go_wp2_with fail
      refine Calls.mono (rshort_yes A9 (6 + 4 * k) c9 (numsM m) wr rn (by omega) (nums_all HM.out.1) rfl Hq.out.1) ?_
      rintro e w4 ⟨A4, c4, rfl, row4, b4⟩
      have hB4 := Hq.out.2.2.trans (b4.mono Hq.out.2.2.size)
      clear rn b4 k4 k5
      obtain ⟨x5, hx5⟩ : ∃ x, x = w4.alloc (.cells #[.int .u8 77] 5) := ⟨_, rfl⟩
      obtain ⟨z5, hz5⟩ : ∃ z, z = w4.heap.size := ⟨_, rfl⟩
      have b5 : Below w4.heap.size w4 x5 := by rw [hx5]; exact below_al (below_d0 _) _
      have own5 : x5.ownsRow w4.heap.size 5 1 (.slice (some ⟨z5, 0, none⟩) 1 1) 1 ([77].map (Value.int .u8)) := by rw [hx5]; exact own_litM w4 (m := 1) [.int .u8 77] 1 hz5 (Nat.le_refl _) (by unfold maxLen; omega) rfl
      have r5 := row4.2.on b5 b5.size
      have HR := Lib.hid (⟨own5, b5, r5, hB4⟩ : _ ∧ _ ∧ _ ∧ _)
      clear own5 b5 r5 hB4 row4
      go_wp2_with (at_builtin; refine hold ?_)
      rw [← hx5, ← hz5]
      clear hx5 hz5
      refine unhold (wpList_append (.tmp 57) (.tmp 58) 27 Tryd.underlying27 hi hz0 hz1 hz2 Nu.byte_cells (by decide) HR.out.1 (Source.rd HR.out.2.2.1) (by unfold maxLen; omega) (by omega) HR.out.2.1.size rfl rfl rfl rfl ?_)
      intro va wa La
      obtain ⟨Aa, ca, rfl, hca, owna, ba, na⟩ := Longer.more HR.out.2.1 HR.out.2.1.size (own_ge HR.out.1) La
      have ra : Rd wa wa.heap.size .u8 Aa (1 + q) (manT m) := own_bytes (m := 0) owna
      have hBa := HR.out.2.2.2.trans (ba.mono HR.out.2.2.2.size)
      have HA := Lib.hid (⟨ra, hBa⟩ : _ ∧ _)
      clear La HR owna ba na ra hBa
      go_wp2_with fail
      refine Calls.mono (Cr.rput_any Aa (1 + q) ca (manT m) wa HA.out.1 (manT_byt HM.out.1) (by omega)) ?_
      rintro e wb ⟨⟨x, Ab, cb, hx, rfl, hcb, rb⟩, bb⟩
      have e9 : manT m ++ Cr.fourI x = manL m := by rw [manL, sealL, hx.sum]
      rw [e9] at rb
      have hBb := HL.out.2.2.trans ((HA.out.2.trans (bb.mono HA.out.2.size)).mono HL.out.2.2.size)
      have HB := Lib.hid (⟨rb, hBb⟩ : _ ∧ _)
      clear rb hBb bb hx e9
      go_wp2_with fail
      go_ret2
      exact ⟨⟨_, _, _, manL m, 0, rfl, .inl ⟨HM.out.1, rfl, rfl⟩, by rw [manL_len, Hq.out.2.1], hcb, HB.out.1⟩, HB.out.2⟩
  · have HM := Lib.hid hM
    clear hM
    obtain ⟨z1, hz1⟩ : ∃ z, z = w.heap.size := ⟨_, rfl⟩
    obtain ⟨w1, hw1⟩ : ∃ x, x = w.alloc (.cells #[.int .i64 m.nx, .int .i64 m.tm, .int .i64 m.vt, .int .i64 m.ss, .int .i64 m.sf, .slice A n c] 26) := ⟨_, rfl⟩
    have bb : Below w.heap.size w w1 := by rw [hw1]; exact below_al (below_d0 _) _
    have bz : BoxM w1 z1 m (.slice A n c) := by rw [hw1, hz1]; exact BoxM.new w m _
    replace hS := hS.on bb bb.size
    have B1 := bb
    clear bb
    have HE := Lib.hid (⟨hw1, hz1⟩ : _ ∧ _)
    clear hw1 hz1
    unfold manV
    go_enter Tryd.func11, Tryd.ntmps11
    obtain ⟨k0, k1, k2, k3, k4, k5⟩ := bz.cells
    rw [HE.out.1, HE.out.2] at k0 k1 k2 k3 k4 k5
    go_wp2_with fail
    rw [← HE.out.1, ← HE.out.2]
    clear HE
    clear k0 k1 k2 k3 k4 k5
    refine Calls.mono (show Calls Tryd.prog 19 #[.agg #[.int .i64 m.nx, .int .i64 m.tm, .int .i64 m.vt, .int .i64 m.ss, .int .i64 m.sf, .slice A n c]] w1 (fun e w' => (∃ r, CheckIs m r ∧ e = .returned (.int .i64 r)) ∧ Below w1.heap.size w1 w') from rcheck_any m A n c w1 hS hn) ?_
    intro e w2 hh
    obtain ⟨⟨r, hr, rfl⟩, bb⟩ := hh
    (try clear hh)
    replace bz := bz.below bb
    replace hS := hS.on bb bb.size
    have B2 := B1.trans (bb.mono B1.size)
    clear bb B1
    obtain rfl := hr.same (.inr ⟨HM.out, rfl⟩)
    clear hr
    go_wp2_with fail
    go_ret2
    exact ⟨⟨none, 0, 0, [], 2, rfl, .inr ⟨HM.out, rfl, rfl⟩, rfl, Nat.le_refl _, ⟨rfl, fun h => absurd h (by omega)⟩⟩, B2⟩
end Go.Proofs.YtafeadplmcoilaaDoor

/-
  The files of a manifest that may be: each has a name, no two the same; the document's Names; which formats, which places.
-/
namespace Go.Proofs.YtafeadplmcoilaaDoor
open Go.RowKit
set_option linter.unusedVariables false
set_option linter.unusedSimpArgs false

def Apart (x y : IdP) : Prop := ¬ (x.kind = y.kind ∧ x.seq = y.seq ∧ x.fmt = y.fmt)
theorem mfile_in {m : ManP} {x : IdP} (h : x ∈ filesP m) : (m.ss ≠ 0 ∧ x = ⟨4, m.ss, m.sf⟩) ∨ ∃ (i : Nat) (s : SegP), m.sg[i]? = some s ∧ x = segF s := by
  rcases List.mem_append.1 h with h | h
  · by_cases h0 : m.ss = 0
    · rw [snap_none h0] at h
      cases h
    · rw [snap_one h0] at h
      exact .inl ⟨h0, List.mem_singleton.1 h⟩
  · obtain ⟨s, hs, e⟩ := List.mem_map.1 h
    obtain ⟨i, hi⟩ := List.mem_iff_getElem?.1 hs
    exact .inr ⟨i, s, hi, e.symm⟩
theorem snap_seq {m : ManP} (h : May m) (h0 : m.ss ≠ 0) : FileM m m.ss m.sf := by
  rcases h.snap with a | a
  · exact absurd a.1 h0
  · exact a
theorem file_may {m : ManP} (h : May m) {k sq fm : Int} (hk : k = 3 ∨ k = 4) (f : FileM m sq fm) : MayP ⟨k, sq, fm⟩ := by
  obtain ⟨a, b, c⟩ := f
  have := h.nx.2
  exact .inr ⟨hk, a, by show sq ≤ 1073741824; omega, c⟩
theorem keep_mayP {m : ManP} (h : May m) : ∀ x ∈ keepP m, MayP x := by
  intro x hx
  rcases List.mem_cons.1 hx with rfl | hx
  · exact .inl ⟨.inl rfl, rfl, rfl⟩
  · rcases mfile_in hx with ⟨h0, rfl⟩ | ⟨i, s, hi, rfl⟩
    · exact file_may h (.inr rfl) (snap_seq h h0)
    · exact file_may h (.inl rfl) (h.segs i s hi).file
theorem keep_apart {m : ManP} (h : May m) : (keepP m).Pairwise Apart := by
  refine List.pairwise_cons.2 ⟨fun x hx e => ?_, List.pairwise_append.2 ⟨?_, ?_, fun x hx y hy e => ?_⟩⟩
  · have e1 : (1 : Int) = x.kind := e.1
    rcases mfile_in hx with ⟨-, rfl⟩ | ⟨i, s, -, rfl⟩
    · exact absurd e1 (by show (1 : Int) ≠ 4; decide)
    · exact absurd e1 (by show (1 : Int) ≠ 3; decide)
  · by_cases h0 : m.ss = 0
    · rw [snap_none h0]
      exact .nil
    · rw [snap_one h0]
      exact List.pairwise_singleton _ _
  · refine List.pairwise_map.2 (List.pairwise_iff_getElem.2 fun i j hi hj hij e => ?_)
    have e1 : (m.sg[i]).sq = (m.sg[j]).sq := e.2.1
    exact (h.segs j _ (List.getElem?_eq_getElem hj)).new i _ hij (List.getElem?_eq_getElem hi) e1
  · by_cases h0 : m.ss = 0
    · rw [snap_none h0] at hx
      cases hx
    · rw [snap_one h0] at hx
      rw [List.mem_singleton.1 hx] at e
      obtain ⟨s, hs, rfl⟩ := List.mem_map.1 hy
      exact absurd e.1 (by show (4 : Int) ≠ 3; decide)
theorem keep_len {m : ManP} {n : Nat} (hn : m.sg.length = n) : (keepP m).length = 1 + n + (if m.ss = 0 then 0 else 1) := by
  by_cases h0 : m.ss = 0
  · simp [keepP, filesP, snap_none h0, h0, hn, Nat.add_comm]
  · simp [keepP, filesP, snap_one h0, h0, hn]
    omega
theorem two_files {m : ManP} (h : May m) : TwoIs m ((filesP m).any fun x => x.fmt == 2) := by
  refine List.any_eq_true.trans ⟨fun ⟨x, hx, e⟩ => ?_, fun t => ?_⟩
  · have e2 : x.fmt = 2 := by simpa using e
    rcases mfile_in hx with ⟨-, rfl⟩ | ⟨i, s, hi, rfl⟩
    · exact .inl e2
    · exact .inr ⟨i, s, hi, e2⟩
  · rcases t with t | ⟨i, s, hi, e⟩
    · have h0 : m.ss ≠ 0 := fun h0 => by
        rcases h.snap with a | a
        · rw [a.2] at t
          exact absurd t (by decide)
        · have := a.1
          omega
      exact ⟨⟨4, m.ss, m.sf⟩, List.mem_append.2 (.inl (by rw [snap_one h0]; exact List.mem_singleton.2 rfl)), by simpa using t⟩
    · exact ⟨segF s, List.mem_append.2 (.inr (List.mem_map.2 ⟨s, List.mem_iff_getElem?.2 ⟨i, hi⟩, rfl⟩)), by show (s.fm == 2) = true; simpa using e⟩
theorem any_next {l : List IdP} {p : IdP → Bool} {k : Nat} {x : IdP} (hx : l[k]? = some x) : (l.take (k + 1)).any p = ((l.take k).any p || p x) := by
  rw [List.take_add_one, hx, List.any_append]
  simp
theorem keep_next {m : ManP} {k : Nat} (hk : 0 < k) : (keepP m)[k]? = (filesP m)[k - 1]? := by
  obtain ⟨j, rfl⟩ : ∃ j, k = j + 1 := ⟨k - 1, by omega⟩
  rfl
/-- Which segment is open, by its place. -/
theorem open_place {m : ManP} (h : May m) {i : Int} {ok : Bool} (ho : OpenIs m i ok) {k : Nat} {s : SegP} (hs : m.sg[k]? = some s) :
    (ok = true ∧ ((k : Int) == i) = true ∧ (s.ct == -1) = true) ∨ (ok = true ∧ ((k : Int) == i) = false ∧ (s.ct == -1) = false) ∨ (ok = false ∧ (s.ct == -1) = false) := by
  obtain ⟨n, hn, a⟩ := ho
  have hk := (List.getElem?_eq_some_iff.1 hs).1
  have hc := (h.segs k s hs).count
  rcases a with ⟨⟨t, ht, h0, ht1⟩, rfl, rfl⟩ | ⟨hno, rfl, rfl⟩
  · by_cases hkn : k = n - 1
    · subst hkn
      obtain rfl : s = t := Option.some.inj (hs.symm.trans ht)
      exact .inl ⟨rfl, by simp; omega, by simpa using ht1⟩
    · exact .inr (.inl ⟨rfl, by simp; omega, by simp; omega⟩)
  · refine .inr (.inr ⟨rfl, ?_⟩)
    by_cases hc1 : s.ct = -1
    · exact absurd ⟨s, by rw [show n - 1 = k by omega]; exact hs, by omega, hc1⟩ hno
    · simpa using hc1

set_option maxRecDepth 100000 in
set_option maxHeartbeats 2000000 in
theorem rnames_true (A : Option Addr) (n c : Nat) (l : List IdP) (w : World) (h1 : Ids w w.heap.size A n l) (hn : n ≤ 1000) (hm : ∀ x ∈ l, MayP x) (ha : l.Pairwise Apart) :
    Calls Tryd.prog 27 #[.slice A n c] w fun e w' => e = .returned (.bool true) ∧ Below w.heap.size w w' := by
  have Hl := Lib.hid (⟨h1, hm, ha⟩ : _ ∧ _ ∧ _)
  clear h1 hm ha
  go_enter Tryd.func27, Tryd.ntmps27
  go_wp2_with fail
  go_loopw [3] (fun i wr => ∃ (k : Nat), k ≤ n ∧ i = .int .i64 k ∧ Below w.heap.size w wr) (fun i _ => n - (intOf i).toNat)
  case atStart => exact ⟨0, Nat.zero_le _, rfl, below_d0 w⟩
  case round =>
    obtain ⟨k, hk, rfl, hB⟩ := hrel
    by_cases hlt : k < n
    · obtain ⟨b, off, x, rfl, hb, hs, c0, c1, c2'⟩ := Ids.get (Hl.out.1.on hB (Nat.le_refl _)) hlt
      have Hx := Lib.hid hs
      clear hs hb
      have Hm := Lib.hid (decide_eq_true (Hl.out.2.1 x (List.mem_iff_getElem?.2 ⟨k, Hx.out⟩)))
      go_wp2_with fail
      clear c0 c1 c2'
      refine Calls.mono (may_any x wr) ?_
      rintro e w1 ⟨rfl, bb⟩
      rw [Hm.out]
      have hB1 : Below w.heap.size w w1 := hB.trans (bb.mono hB.size)
      clear bb hB Hm
      go_wp2_with fail
      go_loopw [4] (fun i wr => ∃ (j : Nat), j ≤ k ∧ i = .int .i64 j ∧ Below w.heap.size w wr) (fun i _ => k - (intOf i).toNat)
      case atStart => exact ⟨0, Nat.zero_le _, rfl, hB1⟩
      case round =>
        clear hB1
        obtain ⟨j, hj, rfl, hB⟩ := hrel
        by_cases hlj : j < k
        · obtain ⟨b1, off1, y, e1, hb1, hs1, d0, d1, d2⟩ := Ids.get (Hl.out.1.on hB (Nat.le_refl _)) (show j < n by omega)
          obtain ⟨b2, off2, x2, e2, hb2, hs2, g0, g1, g2⟩ := Ids.get (Hl.out.1.on hB (Nat.le_refl _)) hlt
          obtain ⟨rfl, rfl⟩ : b = b1 ∧ off = off1 := by injection e1 with e; injection e with a a'; exact ⟨a, a'⟩
          obtain ⟨rfl, rfl⟩ : b = b2 ∧ off = off2 := by injection e2 with e; injection e with a a'; exact ⟨a, a'⟩
          obtain rfl : x = x2 := Option.some.inj (Hx.out.symm.trans hs2)
          have hap : Apart y x := by
            have hj1 := (List.getElem?_eq_some_iff.1 hs1)
            have hk1 := (List.getElem?_eq_some_iff.1 hs2)
            obtain ⟨a1, rfl⟩ := hj1
            obtain ⟨a2, rfl⟩ := hk1
            exact List.pairwise_iff_getElem.1 Hl.out.2.2 j k a1 a2 hlj
          have t1 := eql_no hap
          have hjn : j < n := by omega
          clear hap hs1 hs2 e1 e2 hb1 hb2
          go_wp2_with fail
          go_still_tail 8, (by kernel_rfl)
          change wpList _ _ _ _ _ wr.drew
          go_wp2_with fail
          go_roundw
          case rel => exact ⟨j + 1, by omega, by go_num, hB.drew⟩
          case measure => simp [intOf]; omega
        · obtain rfl : j = k := by omega
          go_wp2_with fail
          go_roundw
          case rel => exact ⟨j + 1, by omega, by go_num, hB⟩
          case measure => simp [intOf]; omega
    · obtain rfl : k = n := by omega
      go_wp2_with fail
      go_ret
      exact ⟨rfl, hB⟩
end Go.Proofs.YtafeadplmcoilaaDoor

/-
  The document's Keep (of manifests): its contract.
-/
namespace Go.Proofs.YtafeadplmcoilaaDoor
open Go.RowKit
set_option linter.unusedVariables false
set_option linter.unusedSimpArgs false

theorem ids_made (w : World) {l : List IdP} {t : TypeId} {g k : Nat} (hg : g = w.heap.size) (hk : l.length = k) : Ids (w.alloc (.cells (l.flatMap IdP.cs).toArray t)) (w.alloc (.cells (l.flatMap IdP.cs).toArray t)).heap.size (some ⟨g, 0, none⟩) k l := by
  subst hg
  refine ⟨hk, fun _ => ⟨w.heap.size, 0, rfl, by simp, fun i x hi j hj => ?_⟩⟩
  rw [cell_of_row _ _ _ _ _ _ (World.alloc_heap_new w _), Nat.zero_add, List.getElem?_toArray, flat_get IdP.cs (by omega) IdP.len, show (i * 3 + j) / 3 = i by omega, show (i * 3 + j) % 3 = j by omega, hi]
  rfl
/-- The idents of the manifest's own, the snapshot's, and the first k segments' files. -/
def preK (m : ManP) (k : Nat) : List IdP := (ownF :: snapF m) ++ (m.sg.take k).map segF
theorem preK_zero (m : ManP) : preK m 0 = ownF :: snapF m := by simp [preK]
theorem preK_all {m : ManP} {n : Nat} (hn : m.sg.length = n) : preK m n = keepP m := by rw [preK, List.take_of_length_le (by omega)]; rfl
theorem preK_succ {m : ManP} {k : Nat} {s : SegP} (h : m.sg[k]? = some s) : preK m (k + 1) = preK m k ++ [segF s] := by
  rw [preK, List.take_add_one, h, preK, List.map_append, List.append_assoc]
  rfl
theorem ownI_lit (w : World) (x : IdP) {g : Nat} (hg : g = w.heap.size) : OwnI (w.alloc (.cells #[.int .u8 x.kind, .int .i64 x.seq, .int .i64 x.fmt] 49)) w.heap.size (.slice (some ⟨g, 0, none⟩) 1 1) 1 [x] :=
  own_litM w (m := 3) ([x].flatMap IdP.cs) 1 hg (Nat.le_refl _) (by unfold maxLen; omega) rfl
theorem ids_lit (w : World) (x : IdP) {g : Nat} (hg : g = w.heap.size) : Ids (w.alloc (.cells #[.int .u8 x.kind, .int .i64 x.seq, .int .i64 x.fmt] 49)) (w.alloc (.cells #[.int .u8 x.kind, .int .i64 x.seq, .int .i64 x.fmt] 49)).heap.size (some ⟨g, 0, none⟩) 1 [x] :=
  ids_made w (l := [x]) hg rfl
theorem ids_source {w : World} {B n : Nat} {A : Option Addr} {l : List IdP} (h : Ids w B A n l) : Source w 3 A n (l.flatMap IdP.cs) := Row.source (by omega) IdP.len IdP.one h

set_option maxRecDepth 100000 in
set_option maxHeartbeats 8000000 in
theorem rkeep_none (m : ManP) (A : Option Addr) (n c : Nat) (w : World) (hS : Sg w w.heap.size A n m.sg) (hn : n ≤ 1000000) (h0 : m.ss = 0) :
    Calls Tryd.prog 22 #[manV m (.slice A n c)] w fun e w' => (∃ A' q c', e = .returned (.slice A' q c') ∧ q ≤ c' ∧ q = (keepP m).length ∧ Ids w' w'.heap.size A' q (keepP m)) ∧ Below w.heap.size w w' := by
  obtain ⟨i0, hi, hz0, hz1, hz2⟩ := info_partsV info_ident
  have v0 : (m.ss == 0) = true := by simpa using h0
  have HM := Lib.hid (⟨hS.len, h0⟩ : _ ∧ _)
  clear h0
  obtain ⟨z1, hz1⟩ : ∃ z, z = w.heap.size := ⟨_, rfl⟩
  obtain ⟨w1, hw1⟩ : ∃ x, x = w.alloc (.cells #[.int .i64 m.nx, .int .i64 m.tm, .int .i64 m.vt, .int .i64 m.ss, .int .i64 m.sf, .slice A n c] 26) := ⟨_, rfl⟩
  have bb : Below w.heap.size w w1 := by rw [hw1]; exact below_al (below_d0 _) _
  have bz : BoxM w1 z1 m (.slice A n c) := by rw [hw1, hz1]; exact BoxM.new w m _
  replace hS := hS.on bb bb.size
  have B1 := bb
  clear bb
  have HL := Lib.hid (⟨hS, bz, B1⟩ : _ ∧ _ ∧ _)
  obtain ⟨z3, hz3⟩ : ∃ z, z = w1.heap.size := ⟨_, rfl⟩
  obtain ⟨w3, hw3⟩ : ∃ x, x = w1.alloc (.cells #[.int .u8 1, .int .i64 0, .int .i64 0] 49) := ⟨_, rfl⟩
  have b3 : Below w1.heap.size w1 w3 := by rw [hw3]; exact below_al (below_d0 _) _
  have own3 : OwnI w3 w1.heap.size (.slice (some ⟨z3, 0, none⟩) 1 1) 1 [ownF] := by rw [hw3]; exact ownI_lit w1 ownF hz3
  have hzz : z1 + 1 = z3 := by rw [hz3, hw1, hz1]; simp
  have HE := Lib.hid (⟨hw1, hz1, hw3, hzz⟩ : _ ∧ _ ∧ _ ∧ _)
  have H3 := Lib.hid (⟨b3, own3⟩ : _ ∧ _)
  clear b3 own3 hS B1 hw1 hz1 hw3 hzz hz3
  unfold manV
  go_enter Tryd.func22, Tryd.ntmps22
  obtain ⟨k0, k1, k2, k3, k4, k5⟩ := (bz.below H3.out.1).cells
  rw [HE.out.2.2.1, HE.out.1, HE.out.2.1] at k3
  go_wp2_with fail
  rw [← HE.out.1, ← HE.out.2.1, ← HE.out.2.2.1, HE.out.2.2.2]
  clear HE bz v0 k0 k1 k2 k3 k4 k5
  go_loopw [3, 4] (fun v i wr => ∃ (k : Nat) (A9 : Option Addr) (c9 : Nat), k ≤ n ∧ v = .slice A9 (1 + k) c9 ∧ i = .int .i64 k ∧ 1 + k ≤ c9 ∧ OwnI wr w1.heap.size (.slice A9 (1 + k) c9) (1 + k) (preK m k) ∧ Below w1.heap.size w1 wr) (fun _ i _ => n - (intOf i).toNat)
  case atStart => exact ⟨0, some ⟨z3, 0, none⟩, 1, Nat.zero_le _, rfl, rfl, Nat.le_refl _, by rw [preK_zero, snap_none HM.out.2]; exact H3.out.2, H3.out.1⟩
  clear H3
  obtain ⟨k, A9, c9, hk, rfl, rfl, hc9, own, hB⟩ := hrel
  by_cases hlt : k < n
  · obtain ⟨b, off, s, rfl, hb, hs, d0, d1, d2, d3⟩ := HL.out.1.at_ hlt
    obtain ⟨k0, k1, k2, k3, k4, k5⟩ := HL.out.2.1.cells
    have hzl1 := HL.out.2.1.lt
    have HC := Lib.hid (fun (W : World) (hW : Below w1.heap.size w1 W) => (⟨(World.cell?_of_block (hW.block z1 hzl1)).trans k5, (World.cell?_of_block (hW.block b hb)).trans d0, (World.cell?_of_block (hW.block b hb)).trans d1⟩ : W.cell? ⟨z1, 5, none⟩ = some (.slice (some ⟨b, off, none⟩) n c) ∧ W.cell? ⟨b, off + k * 4, none⟩ = some (.int .i64 s.sq) ∧ W.cell? ⟨b, off + k * 4 + 1, none⟩ = some (.int .i64 s.fm)))
    have Hs := Lib.hid hs
    clear d0 d1 d2 d3 k0 k1 k2 k3 k4 k5 hb hs hzl1
    have k5 := (HC.out wr hB).1
    obtain ⟨x5, hx5⟩ : ∃ x, x = wr.drew.alloc (.cells #[.int .u8 3, .int .i64 s.sq, .int .i64 s.fm] 49) := ⟨_, rfl⟩
    obtain ⟨zl, hzl⟩ : ∃ z, z = wr.drew.heap.size := ⟨_, rfl⟩
    have bd : Below w1.heap.size w1 wr.drew := hB.drew
    have hdd : Below wr.heap.size wr wr.drew := (Below.refl _ _).drew
    have b5 : Below wr.drew.heap.size wr.drew x5 := by rw [hx5]; exact below_al (below_d0 _) _
    have own5 := own_keep (own_keep own hdd) b5
    have hB5 := bd.trans (b5.mono bd.size)
    have r5 : Ids x5 x5.heap.size (some ⟨zl, 0, none⟩) 1 [segF s] := by rw [hx5]; exact ids_lit wr.drew (segF s) hzl
    have HR := Lib.hid (⟨own5, hB5, r5⟩ : _ ∧ _ ∧ _)
    have HD := Lib.hid bd
    have HW := Lib.hid (⟨hx5, hzl⟩ : _ ∧ _)
    clear own hB hx5 hzl bd hdd b5 own5 hB5 r5
    go_wp2_with fail
    clear k5
    refine wp_region_held_drew (S := (fun W => Below w1.heap.size w1 W)) (by kernel_rfl) HD.out (fun hHeld => ?_)
    refine take_at (i := 0) (d := 28) (oi := ?o1) (v := ?v1) ?hi1 ?hd1 (by kernel_rfl) (by kernel_rfl) (by kernel_rfl) ?hw1 ?hy1 ?hq1 (by assumption) ?r1
    case hi1 => (simp only [List.getElem?_toArray, List.getElem?_cons_zero]; rfl)
    case hd1 => rfl
    case hw1 => rfl
    case hy1 => ((intro w hSw; (try dsimp only at hSw); obtain ⟨s0, s1, s2⟩ := HC.out w hSw; go_simp) <;> (with_reducible rfl))
    case hq1 => exact fun _ _ _ h => h
    simp only [List.set_cons_succ, List.set_cons_zero]
    refine take_at (i := 1) (d := 29) (oi := ?o2) (v := ?v2) ?hi2 ?hd2 (by kernel_rfl) (by kernel_rfl) (by kernel_rfl) ?hw2 ?hy2 ?hq2 (by assumption) ?r2
    case hi2 => (simp only [List.getElem?_toArray, List.getElem?_cons_succ, List.getElem?_cons_zero]; rfl)
    case hd2 => rfl
    case hw2 => rfl
    case hy2 => ((intro w hSw; (try dsimp only at hSw); obtain ⟨s0, s1, s2⟩ := HC.out w hSw; go_simp) <;> (with_reducible rfl))
    case hq2 => exact fun _ _ _ h => h
    simp only [List.set_cons_succ, List.set_cons_zero]
    refine take_at (i := 2) (d := 30) (oi := ?o3) (v := ?v3) ?hi3 ?hd3 (by kernel_rfl) (by kernel_rfl) (by kernel_rfl) ?hw3 ?hy3 ?hq3 (by assumption) ?r3
    case hi3 => (simp only [List.getElem?_toArray, List.getElem?_cons_succ, List.getElem?_cons_zero]; rfl)
    case hd3 => rfl
    case hw3 => rfl
    case hy3 => ((intro w hSw; (try dsimp only at hSw); obtain ⟨s0, s1, s2⟩ := HC.out w hSw; go_simp) <;> (with_reducible rfl))
    case hq3 => exact fun _ _ _ h => h
    simp only [List.set_cons_succ, List.set_cons_zero]
    refine take_at (i := 3) (d := 31) (oi := ?o4) (v := ?v4) ?hi4 ?hd4 (by kernel_rfl) (by kernel_rfl) (by kernel_rfl) ?hw4 ?hy4 ?hq4 (by assumption) ?r4
    case hi4 => (simp only [List.getElem?_toArray, List.getElem?_cons_succ, List.getElem?_cons_zero]; rfl)
    case hd4 => rfl
    case hw4 => rfl
    case hy4 => ((intro w hSw; (try dsimp only at hSw); obtain ⟨s0, s1, s2⟩ := HC.out w hSw; go_simp) <;> (with_reducible rfl))
    case hq4 => exact fun _ _ _ h => h
    simp only [List.set_cons_succ, List.set_cons_zero]
    refine take_at (i := 4) (d := 32) (oi := ?o5) (v := ?v5) ?hi5 ?hd5 (by kernel_rfl) (by kernel_rfl) (by kernel_rfl) ?hw5 ?hy5 ?hq5 (by assumption) ?r5
    case hi5 => (simp only [List.getElem?_toArray, List.getElem?_cons_succ, List.getElem?_cons_zero]; rfl)
    case hd5 => rfl
    case hw5 => rfl
    case hy5 => ((intro w hSw; (try dsimp only at hSw); obtain ⟨s0, s1, s2⟩ := HC.out w hSw; go_simp) <;> (with_reducible rfl))
    case hq5 => exact fun _ _ _ h => h
    simp only [List.set_cons_succ, List.set_cons_zero]
    refine take_at (i := 5) (d := 33) (oi := ?o6) (v := ?v6) ?hi6 ?hd6 (by kernel_rfl) (by kernel_rfl) (by kernel_rfl) ?hw6 ?hy6 ?hq6 (by assumption) ?r6
    case hi6 => (simp only [List.getElem?_toArray, List.getElem?_cons_succ, List.getElem?_cons_zero]; rfl)
    case hd6 => rfl
    case hw6 => rfl
    case hy6 => ((intro w hSw; (try dsimp only at hSw); obtain ⟨s0, s1, s2⟩ := HC.out w hSw; go_simp) <;> (with_reducible rfl))
    case hq6 => exact fun _ _ _ h => h
    simp only [List.set_cons_succ, List.set_cons_zero]
    refine take_at (i := 6) (d := 34) (oi := ?o7) (v := ?v7) ?hi7 ?hd7 (by kernel_rfl) (by kernel_rfl) (by kernel_rfl) ?hw7 ?hy7 ?hq7 (by assumption) ?r7
    case hi7 => (simp only [List.getElem?_toArray, List.getElem?_cons_succ, List.getElem?_cons_zero]; rfl)
    case hd7 => rfl
    case hw7 => rfl
    case hy7 => ((intro w hSw; (try dsimp only at hSw); obtain ⟨s0, s1, s2⟩ := HC.out w hSw; go_simp) <;> (with_reducible rfl))
    case hq7 => exact fun _ _ _ h => h
    simp only [List.set_cons_succ, List.set_cons_zero]
    refine take_at (i := 7) (d := 35) (oi := ?o8) (v := ?v8) ?hi8 ?hd8 (by kernel_rfl) (by kernel_rfl) (by kernel_rfl) ?hw8 ?hy8 ?hq8 (by assumption) ?r8
    case hi8 => (simp only [List.getElem?_toArray, List.getElem?_cons_succ, List.getElem?_cons_zero]; rfl)
    case hd8 => rfl
    case hw8 => rfl
    case hy8 => ((intro w hSw; (try dsimp only at hSw); obtain ⟨s0, s1, s2⟩ := HC.out w hSw; go_simp) <;> (with_reducible rfl))
    case hq8 => exact fun _ _ _ h => h
    simp only [List.set_cons_succ, List.set_cons_zero]
    refine take_at (i := 8) (d := 36) (oi := ?o9) (v := ?v9) ?hi9 ?hd9 (by kernel_rfl) (by kernel_rfl) (by kernel_rfl) ?hw9 ?hy9 ?hq9 (by assumption) ?r9
    case hi9 => (simp only [List.getElem?_toArray, List.getElem?_cons_succ, List.getElem?_cons_zero]; rfl)
    case hd9 => rfl
    case hw9 => rfl
    case hy9 => ((intro w hSw; (try dsimp only at hSw); obtain ⟨s0, s1, s2⟩ := HC.out w hSw; go_simp) <;> (with_reducible rfl))
    case hq9 => exact fun _ _ _ h => h
    simp only [List.set_cons_succ, List.set_cons_zero]
    refine take_at (i := 9) (d := 37) (oi := ?o10) (v := ?v10) ?hi10 ?hd10 (by kernel_rfl) (by kernel_rfl) (by kernel_rfl) ?hw10 ?hy10 ?hq10 (by assumption) ?r10
    case hi10 => (simp only [List.getElem?_toArray, List.getElem?_cons_succ, List.getElem?_cons_zero]; rfl)
    case hd10 => rfl
    case hw10 => rfl
    case hy10 => ((intro w hSw; (try dsimp only at hSw); obtain ⟨s0, s1, s2⟩ := HC.out w hSw; go_simp) <;> (with_reducible rfl))
    case hq10 => exact fun _ _ _ h => h
    simp only [List.set_cons_succ, List.set_cons_zero]
    refine take_at (i := 10) (d := 38) (oi := ?o11) (v := ?v11) ?hi11 ?hd11 (by kernel_rfl) (by kernel_rfl) (by kernel_rfl) ?hw11 ?hy11 ?hq11 (by assumption) ?r11
    case hi11 => (simp only [List.getElem?_toArray, List.getElem?_cons_succ, List.getElem?_cons_zero]; rfl)
    case hd11 => rfl
    case hw11 => rfl
    case hy11 => ((intro w hSw; (try dsimp only at hSw); obtain ⟨s0, s1, s2⟩ := HC.out w hSw; go_simp) <;> (with_reducible rfl))
    case hq11 => exact fun _ _ _ h => h
    simp only [List.set_cons_succ, List.set_cons_zero]
    refine take_at (i := 11) (d := 39) (oi := ?o12) (v := ?v12) ?hi12 ?hd12 (by kernel_rfl) (by kernel_rfl) (by kernel_rfl) ?hw12 ?hy12 ?hq12 (by assumption) ?r12
    case hi12 => (simp only [List.getElem?_toArray, List.getElem?_cons_succ, List.getElem?_cons_zero]; rfl)
    case hd12 => rfl
    case hw12 => rfl
    case hy12 => ((intro w hSw; (try dsimp only at hSw); obtain ⟨s0, s1, s2⟩ := HC.out w hSw; go_simp) <;> (with_reducible rfl))
    case hq12 => exact fun _ _ _ h => h
    simp only [List.set_cons_succ, List.set_cons_zero]
    refine take_at (i := 12) (d := 40) (oi := ?o13) (v := ?v13) ?hi13 ?hd13 (by kernel_rfl) (by kernel_rfl) (by kernel_rfl) ?hw13 ?hy13 ?hq13 (by assumption) ?r13
    case hi13 => (simp only [List.getElem?_toArray, List.getElem?_cons_succ, List.getElem?_cons_zero]; rfl)
    case hd13 => rfl
    case hw13 => rfl
    case hy13 => ((intro w hSw; (try dsimp only at hSw); obtain ⟨s0, s1, s2⟩ := HC.out w hSw; go_simp) <;> (with_reducible rfl))
    case hq13 => exact fun _ _ _ h => h
    simp only [List.set_cons_succ, List.set_cons_zero]
    refine take_at (i := 13) (d := 41) (oi := ?o14) (v := ?v14) ?hi14 ?hd14 (by kernel_rfl) (by kernel_rfl) (by kernel_rfl) ?hw14 ?hy14 ?hq14 (by assumption) ?r14
    case hi14 => (simp only [List.getElem?_toArray, List.getElem?_cons_succ, List.getElem?_cons_zero]; rfl)
    case hd14 => rfl
    case hw14 => rfl
    case hy14 => ((intro w hSw; (try dsimp only at hSw); obtain ⟨s0, s1, s2⟩ := HC.out w hSw; go_simp) <;> (with_reducible rfl))
    case hq14 => exact fun _ _ _ h => h
    simp only [List.set_cons_succ, List.set_cons_zero]
    refine wpAnyH_ready (rs := [14]) (by kernel_rfl) (by simp) ?_
    refine br_val (i := 14) (d := 42) (oi := ?o15) (v := (.slice (some ⟨zl, 0, none⟩) 1 1)) (w' := x5) ?hi15 ?hd15 ?hw15 ?he15 HR.out.2.1 ?hc15
    case hi15 => (simp only [List.getElem?_toArray, List.getElem?_cons_succ, List.getElem?_cons_zero]; rfl)
    case hd15 => rfl
    case hw15 => rfl
    case he15 => (rw [HW.out.1, HW.out.2]; go_simp <;> with_reducible rfl)
    intro hHeld
    simp only [List.set_cons_succ, List.set_cons_zero]
    refine wpAnyH_ready (rs := [15]) (by kernel_rfl) (by simp) ?_
    refine br_append (i := 15) (d := 43) (oi := ?o503) (t := 41) (c := 1) (.tmp 28) (.tmp 42) Tryd.underlying41 hi hz0 hz1 hz2 ident_cells (by decide) HR.out.1 (ids_source HR.out.2.2) (by unfold maxLen; omega) (by omega) HR.out.2.1.size ?hi503 ?hd503 ?hw503 ?ho503 ?hs503 ?hx503 ?hc503
    case hi503 => (simp only [List.getElem?_toArray, List.getElem?_cons_succ, List.getElem?_cons_zero]; rfl)
    case hd503 => rfl
    case hw503 => rfl
    case ho503 => rfl
    case hs503 => rfl
    case hx503 => rfl
    intro va wa La
    obtain ⟨Aa, ca, hva, hca, owna, ba, na⟩ := Longer.more HR.out.2.1 HR.out.2.1.size (own_ge HR.out.1) La
    subst hva
    refine ⟨ba, fun hHeld => ?_⟩
    simp only [List.set_cons_succ, List.set_cons_zero]
    refine take_at (i := 16) (d := 3) (oi := ?o16) (v := ?v16) ?hi16 ?hd16 (by kernel_rfl) (by kernel_rfl) (by kernel_rfl) ?hw16 ?hy16 ?hq16 (by assumption) ?r16
    case hi16 => (simp only [List.getElem?_toArray, List.getElem?_cons_succ, List.getElem?_cons_zero]; rfl)
    case hd16 => rfl
    case hw16 => rfl
    case hy16 => ((intro w hSw; go_simp) <;> (with_reducible rfl))
    case hq16 => exact fun _ _ _ h => h
    simp only [List.set_cons_succ, List.set_cons_zero]
    refine wpAnyH_done (by kernel_rfl) ?_ _
    have HA := Lib.hid (⟨(by rw [preK_succ Hs.out]; unfold OwnI; rw [List.flatMap_append]; exact owna : OwnI wa w1.heap.size (.slice Aa (1 + k + 1) ca) (1 + k + 1) (preK m (k + 1))), ba⟩ : _ ∧ _)
    clear La HR HW owna ba na HC HD hHeld
    go_wp2_with fail
    go_roundw
    case rel => exact ⟨k + 1, Aa, ca, by omega, rfl, by go_num, hca, HA.out.1, HA.out.2⟩
    case measure => simp [intOf]; omega
  · obtain rfl : k = n := by omega
    obtain ⟨k0, k1, k2, k3, k4, k5⟩ := (HL.out.2.1.below hB).cells
    have HQ := Lib.hid (⟨own, hB⟩ : _ ∧ _)
    clear own hB k0 k1 k2 k3
    go_wp2_with fail
    go_ret
    exact ⟨⟨A9, 1 + k, c9, rfl, hc9, by rw [keep_len HM.out.1, if_pos HM.out.2]; omega, by rw [← preK_all HM.out.1]; exact OwnI.ids HQ.out.1⟩, HL.out.2.2.trans (HQ.out.2.mono HL.out.2.2.size)⟩
set_option maxRecDepth 100000 in
set_option maxHeartbeats 8000000 in
theorem rkeep_snap (m : ManP) (A : Option Addr) (n c : Nat) (w : World) (hS : Sg w w.heap.size A n m.sg) (hn : n ≤ 1000000) (h0 : ¬ m.ss = 0) :
    Calls Tryd.prog 22 #[manV m (.slice A n c)] w fun e w' => (∃ A' q c', e = .returned (.slice A' q c') ∧ q ≤ c' ∧ q = (keepP m).length ∧ Ids w' w'.heap.size A' q (keepP m)) ∧ Below w.heap.size w w' := by
  obtain ⟨i0, hi, hz0, hz1, hz2⟩ := info_partsV info_ident
  have v0 : (m.ss == 0) = false := by simpa using h0
  have HM := Lib.hid (⟨hS.len, h0⟩ : _ ∧ _)
  clear h0
  obtain ⟨z1, hz1⟩ : ∃ z, z = w.heap.size := ⟨_, rfl⟩
  obtain ⟨w1, hw1⟩ : ∃ x, x = w.alloc (.cells #[.int .i64 m.nx, .int .i64 m.tm, .int .i64 m.vt, .int .i64 m.ss, .int .i64 m.sf, .slice A n c] 26) := ⟨_, rfl⟩
  have bb : Below w.heap.size w w1 := by rw [hw1]; exact below_al (below_d0 _) _
  have bz : BoxM w1 z1 m (.slice A n c) := by rw [hw1, hz1]; exact BoxM.new w m _
  replace hS := hS.on bb bb.size
  have B1 := bb
  clear bb
  have HL := Lib.hid (⟨hS, bz, B1⟩ : _ ∧ _ ∧ _)
  obtain ⟨z3, hz3⟩ : ∃ z, z = w1.heap.size := ⟨_, rfl⟩
  obtain ⟨w3, hw3⟩ : ∃ x, x = w1.alloc (.cells #[.int .u8 1, .int .i64 0, .int .i64 0] 49) := ⟨_, rfl⟩
  have b3 : Below w1.heap.size w1 w3 := by rw [hw3]; exact below_al (below_d0 _) _
  have own3 : OwnI w3 w1.heap.size (.slice (some ⟨z3, 0, none⟩) 1 1) 1 [ownF] := by rw [hw3]; exact ownI_lit w1 ownF hz3
  have hzz : z1 + 1 = z3 := by rw [hz3, hw1, hz1]; simp
  have HE := Lib.hid (⟨hw1, hz1, hw3, hzz⟩ : _ ∧ _ ∧ _ ∧ _)
  obtain ⟨z4, hz4⟩ : ∃ z, z = w3.heap.size := ⟨_, rfl⟩
  obtain ⟨w4, hw4⟩ : ∃ x, x = w3.alloc (.cells #[.int .u8 4, .int .i64 m.ss, .int .i64 m.sf] 49) := ⟨_, rfl⟩
  have b4 : Below w3.heap.size w3 w4 := by rw [hw4]; exact below_al (below_d0 _) _
  have hzz4 : z1 + 1 + 1 = z4 := by rw [hzz, hz4, hw3, hz3]; simp
  have own4 := own_keep own3 b4
  have b34 : Below w1.heap.size w1 w4 := b3.trans (b4.mono b3.size)
  have r4 : Ids w4 w4.heap.size (some ⟨z4, 0, none⟩) 1 [⟨4, m.ss, m.sf⟩] := by rw [hw4]; exact ids_lit w3 ⟨4, m.ss, m.sf⟩ hz4
  have H4 := Lib.hid (⟨own4, b34, r4⟩ : _ ∧ _ ∧ _)
  have HF := Lib.hid (⟨hw4, hzz4⟩ : _ ∧ _)
  have H3 := Lib.hid (⟨b3, own3⟩ : _ ∧ _)
  clear b3 own3 hS B1 hw1 hz1 hw3 hzz hz3 hw4 hz4 b4 hzz4 own4 b34 r4
  unfold manV
  go_enter Tryd.func22, Tryd.ntmps22
  obtain ⟨k0, k1, k2, k3, k4, k5⟩ := (bz.below H3.out.1).cells
  rw [HE.out.2.2.1, HE.out.1, HE.out.2.1] at k3 k4
  go_wp2_with (at_builtin; refine hold ?_)
  rw [← HE.out.1, ← HE.out.2.1, ← HE.out.2.2.1, ← HF.out.1, HF.out.2, HE.out.2.2.2]
  clear HE HF bz v0 k0 k1 k2 k3 k4 k5
  refine unhold (wpList_append (.tmp 11) (.tmp 19) 41 Tryd.underlying41 hi hz0 hz1 hz2 ident_cells (by decide) H4.out.1 (ids_source H4.out.2.2) (by unfold maxLen; omega) (by omega) H4.out.2.1.size rfl rfl rfl rfl ?_)
  intro va wa La
  obtain ⟨Aa, ca, rfl, hca, owna, ba, na⟩ := Longer.more H4.out.2.1 H4.out.2.1.size (own_ge H4.out.1) La
  have HA := Lib.hid (⟨ba, (owna : OwnI wa w1.heap.size (.slice Aa 2 ca) 2 ([ownF] ++ [⟨4, m.ss, m.sf⟩]))⟩ : _ ∧ _)
  clear La owna ba na H4
  go_wp2_with fail
  go_loopw [3, 4] (fun v i wr => ∃ (k : Nat) (A9 : Option Addr) (c9 : Nat), k ≤ n ∧ v = .slice A9 (2 + k) c9 ∧ i = .int .i64 k ∧ 2 + k ≤ c9 ∧ OwnI wr w1.heap.size (.slice A9 (2 + k) c9) (2 + k) (preK m k) ∧ Below w1.heap.size w1 wr) (fun _ i _ => n - (intOf i).toNat)
  case atStart => exact ⟨0, Aa, ca, Nat.zero_le _, rfl, rfl, hca, by rw [preK_zero, snap_one HM.out.2]; exact HA.out.2, HA.out.1⟩
  clear HA
  obtain ⟨k, A9, c9, hk, rfl, rfl, hc9, own, hB⟩ := hrel
  by_cases hlt : k < n
  · obtain ⟨b, off, s, rfl, hb, hs, d0, d1, d2, d3⟩ := HL.out.1.at_ hlt
    obtain ⟨k0, k1, k2, k3, k4, k5⟩ := HL.out.2.1.cells
    have hzl1 := HL.out.2.1.lt
    have HC := Lib.hid (fun (W : World) (hW : Below w1.heap.size w1 W) => (⟨(World.cell?_of_block (hW.block z1 hzl1)).trans k5, (World.cell?_of_block (hW.block b hb)).trans d0, (World.cell?_of_block (hW.block b hb)).trans d1⟩ : W.cell? ⟨z1, 5, none⟩ = some (.slice (some ⟨b, off, none⟩) n c) ∧ W.cell? ⟨b, off + k * 4, none⟩ = some (.int .i64 s.sq) ∧ W.cell? ⟨b, off + k * 4 + 1, none⟩ = some (.int .i64 s.fm)))
    have Hs := Lib.hid hs
    clear d0 d1 d2 d3 k0 k1 k2 k3 k4 k5 hb hs hzl1
    have k5 := (HC.out wr hB).1
    obtain ⟨x5, hx5⟩ : ∃ x, x = wr.drew.alloc (.cells #[.int .u8 3, .int .i64 s.sq, .int .i64 s.fm] 49) := ⟨_, rfl⟩
    obtain ⟨zl, hzl⟩ : ∃ z, z = wr.drew.heap.size := ⟨_, rfl⟩
    have bd : Below w1.heap.size w1 wr.drew := hB.drew
    have hdd : Below wr.heap.size wr wr.drew := (Below.refl _ _).drew
    have b5 : Below wr.drew.heap.size wr.drew x5 := by rw [hx5]; exact below_al (below_d0 _) _
    have own5 := own_keep (own_keep own hdd) b5
    have hB5 := bd.trans (b5.mono bd.size)
    have r5 : Ids x5 x5.heap.size (some ⟨zl, 0, none⟩) 1 [segF s] := by rw [hx5]; exact ids_lit wr.drew (segF s) hzl
    have HR := Lib.hid (⟨own5, hB5, r5⟩ : _ ∧ _ ∧ _)
    have HD := Lib.hid bd
    have HW := Lib.hid (⟨hx5, hzl⟩ : _ ∧ _)
    clear own hB hx5 hzl bd hdd b5 own5 hB5 r5
    go_wp2_with fail
    clear k5
    refine wp_region_held_drew (S := (fun W => Below w1.heap.size w1 W)) (by kernel_rfl) HD.out (fun hHeld => ?_)
    refine take_at (i := 0) (d := 28) (oi := ?o17) (v := ?v17) ?hi17 ?hd17 (by kernel_rfl) (by kernel_rfl) (by kernel_rfl) ?hw17 ?hy17 ?hq17 (by assumption) ?r17
    case hi17 => (simp only [List.getElem?_toArray, List.getElem?_cons_zero]; rfl)
    case hd17 => rfl
    case hw17 => rfl
    case hy17 => ((intro w hSw; (try dsimp only at hSw); obtain ⟨s0, s1, s2⟩ := HC.out w hSw; go_simp) <;> (with_reducible rfl))
    case hq17 => exact fun _ _ _ h => h
    simp only [List.set_cons_succ, List.set_cons_zero]
    refine take_at (i := 1) (d := 29) (oi := ?o18) (v := ?v18) ?hi18 ?hd18 (by kernel_rfl) (by kernel_rfl) (by kernel_rfl) ?hw18 ?hy18 ?hq18 (by assumption) ?r18
    case hi18 => (simp only [List.getElem?_toArray, List.getElem?_cons_succ, List.getElem?_cons_zero]; rfl)
    case hd18 => rfl
    case hw18 => rfl
    case hy18 => ((intro w hSw; (try dsimp only at hSw); obtain ⟨s0, s1, s2⟩ := HC.out w hSw; go_simp) <;> (with_reducible rfl))
    case hq18 => exact fun _ _ _ h => h
    simp only [List.set_cons_succ, List.set_cons_zero]
    refine take_at (i := 2) (d := 30) (oi := ?o19) (v := ?v19) ?hi19 ?hd19 (by kernel_rfl) (by kernel_rfl) (by kernel_rfl) ?hw19 ?hy19 ?hq19 (by assumption) ?r19
    case hi19 => (simp only [List.getElem?_toArray, List.getElem?_cons_succ, List.getElem?_cons_zero]; rfl)
    case hd19 => rfl
    case hw19 => rfl
    case hy19 => ((intro w hSw; (try dsimp only at hSw); obtain ⟨s0, s1, s2⟩ := HC.out w hSw; go_simp) <;> (with_reducible rfl))
    case hq19 => exact fun _ _ _ h => h
    simp only [List.set_cons_succ, List.set_cons_zero]
    refine take_at (i := 3) (d := 31) (oi := ?o20) (v := ?v20) ?hi20 ?hd20 (by kernel_rfl) (by kernel_rfl) (by kernel_rfl) ?hw20 ?hy20 ?hq20 (by assumption) ?r20
    case hi20 => (simp only [List.getElem?_toArray, List.getElem?_cons_succ, List.getElem?_cons_zero]; rfl)
    case hd20 => rfl
    case hw20 => rfl
    case hy20 => ((intro w hSw; (try dsimp only at hSw); obtain ⟨s0, s1, s2⟩ := HC.out w hSw; go_simp) <;> (with_reducible rfl))
    case hq20 => exact fun _ _ _ h => h
    simp only [List.set_cons_succ, List.set_cons_zero]
    refine take_at (i := 4) (d := 32) (oi := ?o21) (v := ?v21) ?hi21 ?hd21 (by kernel_rfl) (by kernel_rfl) (by kernel_rfl) ?hw21 ?hy21 ?hq21 (by assumption) ?r21
    case hi21 => (simp only [List.getElem?_toArray, List.getElem?_cons_succ, List.getElem?_cons_zero]; rfl)
    case hd21 => rfl
    case hw21 => rfl
    case hy21 => ((intro w hSw; (try dsimp only at hSw); obtain ⟨s0, s1, s2⟩ := HC.out w hSw; go_simp) <;> (with_reducible rfl))
    case hq21 => exact fun _ _ _ h => h
    simp only [List.set_cons_succ, List.set_cons_zero]
    refine take_at (i := 5) (d := 33) (oi := ?o22) (v := ?v22) ?hi22 ?hd22 (by kernel_rfl) (by kernel_rfl) (by kernel_rfl) ?hw22 ?hy22 ?hq22 (by assumption) ?r22
    case hi22 => (simp only [List.getElem?_toArray, List.getElem?_cons_succ, List.getElem?_cons_zero]; rfl)
    case hd22 => rfl
    case hw22 => rfl
    case hy22 => ((intro w hSw; (try dsimp only at hSw); obtain ⟨s0, s1, s2⟩ := HC.out w hSw; go_simp) <;> (with_reducible rfl))
    case hq22 => exact fun _ _ _ h => h
    simp only [List.set_cons_succ, List.set_cons_zero]
    refine take_at (i := 6) (d := 34) (oi := ?o23) (v := ?v23) ?hi23 ?hd23 (by kernel_rfl) (by kernel_rfl) (by kernel_rfl) ?hw23 ?hy23 ?hq23 (by assumption) ?r23
    case hi23 => (simp only [List.getElem?_toArray, List.getElem?_cons_succ, List.getElem?_cons_zero]; rfl)
    case hd23 => rfl
    case hw23 => rfl
    case hy23 => ((intro w hSw; (try dsimp only at hSw); obtain ⟨s0, s1, s2⟩ := HC.out w hSw; go_simp) <;> (with_reducible rfl))
    case hq23 => exact fun _ _ _ h => h
    simp only [List.set_cons_succ, List.set_cons_zero]
    refine take_at (i := 7) (d := 35) (oi := ?o24) (v := ?v24) ?hi24 ?hd24 (by kernel_rfl) (by kernel_rfl) (by kernel_rfl) ?hw24 ?hy24 ?hq24 (by assumption) ?r24
    case hi24 => (simp only [List.getElem?_toArray, List.getElem?_cons_succ, List.getElem?_cons_zero]; rfl)
    case hd24 => rfl
    case hw24 => rfl
    case hy24 => ((intro w hSw; (try dsimp only at hSw); obtain ⟨s0, s1, s2⟩ := HC.out w hSw; go_simp) <;> (with_reducible rfl))
    case hq24 => exact fun _ _ _ h => h
    simp only [List.set_cons_succ, List.set_cons_zero]
    refine take_at (i := 8) (d := 36) (oi := ?o25) (v := ?v25) ?hi25 ?hd25 (by kernel_rfl) (by kernel_rfl) (by kernel_rfl) ?hw25 ?hy25 ?hq25 (by assumption) ?r25
    case hi25 => (simp only [List.getElem?_toArray, List.getElem?_cons_succ, List.getElem?_cons_zero]; rfl)
    case hd25 => rfl
    case hw25 => rfl
    case hy25 => ((intro w hSw; (try dsimp only at hSw); obtain ⟨s0, s1, s2⟩ := HC.out w hSw; go_simp) <;> (with_reducible rfl))
    case hq25 => exact fun _ _ _ h => h
    simp only [List.set_cons_succ, List.set_cons_zero]
    refine take_at (i := 9) (d := 37) (oi := ?o26) (v := ?v26) ?hi26 ?hd26 (by kernel_rfl) (by kernel_rfl) (by kernel_rfl) ?hw26 ?hy26 ?hq26 (by assumption) ?r26
    case hi26 => (simp only [List.getElem?_toArray, List.getElem?_cons_succ, List.getElem?_cons_zero]; rfl)
    case hd26 => rfl
    case hw26 => rfl
    case hy26 => ((intro w hSw; (try dsimp only at hSw); obtain ⟨s0, s1, s2⟩ := HC.out w hSw; go_simp) <;> (with_reducible rfl))
    case hq26 => exact fun _ _ _ h => h
    simp only [List.set_cons_succ, List.set_cons_zero]
    refine take_at (i := 10) (d := 38) (oi := ?o27) (v := ?v27) ?hi27 ?hd27 (by kernel_rfl) (by kernel_rfl) (by kernel_rfl) ?hw27 ?hy27 ?hq27 (by assumption) ?r27
    case hi27 => (simp only [List.getElem?_toArray, List.getElem?_cons_succ, List.getElem?_cons_zero]; rfl)
    case hd27 => rfl
    case hw27 => rfl
    case hy27 => ((intro w hSw; (try dsimp only at hSw); obtain ⟨s0, s1, s2⟩ := HC.out w hSw; go_simp) <;> (with_reducible rfl))
    case hq27 => exact fun _ _ _ h => h
    simp only [List.set_cons_succ, List.set_cons_zero]
    refine take_at (i := 11) (d := 39) (oi := ?o28) (v := ?v28) ?hi28 ?hd28 (by kernel_rfl) (by kernel_rfl) (by kernel_rfl) ?hw28 ?hy28 ?hq28 (by assumption) ?r28
    case hi28 => (simp only [List.getElem?_toArray, List.getElem?_cons_succ, List.getElem?_cons_zero]; rfl)
    case hd28 => rfl
    case hw28 => rfl
    case hy28 => ((intro w hSw; (try dsimp only at hSw); obtain ⟨s0, s1, s2⟩ := HC.out w hSw; go_simp) <;> (with_reducible rfl))
    case hq28 => exact fun _ _ _ h => h
    simp only [List.set_cons_succ, List.set_cons_zero]
    refine take_at (i := 12) (d := 40) (oi := ?o29) (v := ?v29) ?hi29 ?hd29 (by kernel_rfl) (by kernel_rfl) (by kernel_rfl) ?hw29 ?hy29 ?hq29 (by assumption) ?r29
    case hi29 => (simp only [List.getElem?_toArray, List.getElem?_cons_succ, List.getElem?_cons_zero]; rfl)
    case hd29 => rfl
    case hw29 => rfl
    case hy29 => ((intro w hSw; (try dsimp only at hSw); obtain ⟨s0, s1, s2⟩ := HC.out w hSw; go_simp) <;> (with_reducible rfl))
    case hq29 => exact fun _ _ _ h => h
    simp only [List.set_cons_succ, List.set_cons_zero]
    refine take_at (i := 13) (d := 41) (oi := ?o30) (v := ?v30) ?hi30 ?hd30 (by kernel_rfl) (by kernel_rfl) (by kernel_rfl) ?hw30 ?hy30 ?hq30 (by assumption) ?r30
    case hi30 => (simp only [List.getElem?_toArray, List.getElem?_cons_succ, List.getElem?_cons_zero]; rfl)
    case hd30 => rfl
    case hw30 => rfl
    case hy30 => ((intro w hSw; (try dsimp only at hSw); obtain ⟨s0, s1, s2⟩ := HC.out w hSw; go_simp) <;> (with_reducible rfl))
    case hq30 => exact fun _ _ _ h => h
    simp only [List.set_cons_succ, List.set_cons_zero]
    refine wpAnyH_ready (rs := [14]) (by kernel_rfl) (by simp) ?_
    refine br_val (i := 14) (d := 42) (oi := ?o31) (v := (.slice (some ⟨zl, 0, none⟩) 1 1)) (w' := x5) ?hi31 ?hd31 ?hw31 ?he31 HR.out.2.1 ?hc31
    case hi31 => (simp only [List.getElem?_toArray, List.getElem?_cons_succ, List.getElem?_cons_zero]; rfl)
    case hd31 => rfl
    case hw31 => rfl
    case he31 => (rw [HW.out.1, HW.out.2]; go_simp <;> with_reducible rfl)
    intro hHeld
    simp only [List.set_cons_succ, List.set_cons_zero]
    refine wpAnyH_ready (rs := [15]) (by kernel_rfl) (by simp) ?_
    refine br_append (i := 15) (d := 43) (oi := ?o503) (t := 41) (c := 1) (.tmp 28) (.tmp 42) Tryd.underlying41 hi hz0 hz1 hz2 ident_cells (by decide) HR.out.1 (ids_source HR.out.2.2) (by unfold maxLen; omega) (by omega) HR.out.2.1.size ?hi503 ?hd503 ?hw503 ?ho503 ?hs503 ?hx503 ?hc503
    case hi503 => (simp only [List.getElem?_toArray, List.getElem?_cons_succ, List.getElem?_cons_zero]; rfl)
    case hd503 => rfl
    case hw503 => rfl
    case ho503 => rfl
    case hs503 => rfl
    case hx503 => rfl
    intro va wa La
    obtain ⟨Aa, ca, hva, hca, owna, ba, na⟩ := Longer.more HR.out.2.1 HR.out.2.1.size (own_ge HR.out.1) La
    subst hva
    refine ⟨ba, fun hHeld => ?_⟩
    simp only [List.set_cons_succ, List.set_cons_zero]
    refine take_at (i := 16) (d := 3) (oi := ?o32) (v := ?v32) ?hi32 ?hd32 (by kernel_rfl) (by kernel_rfl) (by kernel_rfl) ?hw32 ?hy32 ?hq32 (by assumption) ?r32
    case hi32 => (simp only [List.getElem?_toArray, List.getElem?_cons_succ, List.getElem?_cons_zero]; rfl)
    case hd32 => rfl
    case hw32 => rfl
    case hy32 => ((intro w hSw; go_simp) <;> (with_reducible rfl))
    case hq32 => exact fun _ _ _ h => h
    simp only [List.set_cons_succ, List.set_cons_zero]
    refine wpAnyH_done (by kernel_rfl) ?_ _
    have HA := Lib.hid (⟨(by rw [preK_succ Hs.out]; unfold OwnI; rw [List.flatMap_append]; exact owna : OwnI wa w1.heap.size (.slice Aa (2 + k + 1) ca) (2 + k + 1) (preK m (k + 1))), ba⟩ : _ ∧ _)
    clear La HR HW owna ba na HC HD hHeld
    go_wp2_with fail
    go_roundw
    case rel => exact ⟨k + 1, Aa, ca, by omega, rfl, by go_num, hca, HA.out.1, HA.out.2⟩
    case measure => simp [intOf]; omega
  · obtain rfl : k = n := by omega
    obtain ⟨k0, k1, k2, k3, k4, k5⟩ := (HL.out.2.1.below hB).cells
    have HQ := Lib.hid (⟨own, hB⟩ : _ ∧ _)
    clear own hB k0 k1 k2 k3
    go_wp2_with fail
    go_ret
    exact ⟨⟨A9, 2 + k, c9, rfl, hc9, by rw [keep_len HM.out.1, if_neg HM.out.2]; omega, by rw [← preK_all HM.out.1]; exact OwnI.ids HQ.out.1⟩, HL.out.2.2.trans (HQ.out.2.mono HL.out.2.2.size)⟩
theorem rkeep_any (m : ManP) (A : Option Addr) (n c : Nat) (w : World) (hS : Sg w w.heap.size A n m.sg) (hn : n ≤ 1000000) :
    Calls Tryd.prog 22 #[manV m (.slice A n c)] w fun e w' => (∃ A' q c', e = .returned (.slice A' q c') ∧ q ≤ c' ∧ q = (keepP m).length ∧ Ids w' w'.heap.size A' q (keepP m)) ∧ Below w.heap.size w w' := by
  by_cases h0 : m.ss = 0
  · exact rkeep_none m A n c w hS hn h0
  · exact rkeep_snap m A n c w hS hn h0

end Go.Proofs.YtafeadplmcoilaaDoor

/-
  The document's Take (of manifests): its contract.
-/
namespace Go.Proofs.YtafeadplmcoilaaDoor
open Go.RowKit
set_option linter.unusedVariables false
set_option linter.unusedSimpArgs false

theorem rtakeC_any (A : Option Addr) (n c : Nat) (l : List Int) (w : World) (hr : Rd w w.heap.size .u8 A n l) (hb : Byt l) (hnc : n ≤ c) (hn : n ≤ 1048576) :
    Calls Tryd.prog 36 #[.slice A n c] w fun e w' => Cr.TakeOut l e w' ∧ Below w.heap.size w w' := by
  by_cases h : n < 4
  · refine (Cr.rtake_few A n c w h).mono ?_
    rintro e w' ⟨rfl, hb'⟩
    exact ⟨.inl ⟨by unfold Cr.okB; rw [hr.1]; simp; intro h4; omega, rfl⟩, hb'⟩
  · exact Cr.rtake_in A n c l w hr hb hnc ⟨by omega, hn⟩
theorem takes_few {b o r : List Int} {k n q : Nat} (hb : Byt b) (h : Nu.takesP b (k : Int) = (o, r, 0)) (hn : b.length ≤ n) (hq : r.length = q) : q ≤ n := by
  have h1 := congrArg List.length (Nu.takesP_back hb h).2.2
  rw [List.length_append, hq] at h1
  omega
theorem rd_stay {w w' : World} {k : IntKind} {A : Option Addr} {n : Nat} {l : List Int} (h : Rd w w.heap.size k A n l) (hs : w.heap.size ≤ w'.heap.size) (hb : ∀ b off, A = some ⟨b, off, none⟩ → b < w.heap.size → w'.heap[b]? = w.heap[b]?) : Rd w' w'.heap.size k A n l := by
  refine ⟨h.1, fun hn => ?_⟩
  obtain ⟨b, off, e, hlt, hc⟩ := h.2 hn
  exact ⟨b, off, e, Nat.lt_of_lt_of_le hlt hs, fun i hi => (World.cell?_of_block (a := ⟨b, off + i, none⟩) (hb b off e hlt)).trans (hc i hi)⟩

theorem sg_lit (w : World) (s : SegP) : Sg (w.alloc (.cells #[.int .i64 s.sq, .int .i64 s.fm, .int .i64 s.fi, .int .i64 s.ct] 51)) (w.alloc (.cells #[.int .i64 s.sq, .int .i64 s.fm, .int .i64 s.fi, .int .i64 s.ct] 51)).heap.size (some ⟨w.heap.size, 0, none⟩) 1 [s] := by
  refine ⟨rfl, fun _ => ⟨w.heap.size, 0, rfl, by simp, fun i x hi j hj => ?_⟩⟩
  have hi0 : i = 0 := by have := (List.getElem?_eq_some_iff.1 hi).1; simp at this; omega
  subst hi0
  obtain rfl : s = x := Option.some.inj hi
  rw [cell_of_row _ _ _ _ _ _ (World.alloc_heap_new w _)]
  simp [SegP.cs]

set_option maxRecDepth 100000 in
set_option maxHeartbeats 16000000 in
theorem rtakeM_any (A : Option Addr) (n c : Nat) (b : List Int) (w : World) (hl : Rd w w.heap.size .u8 A n b) (hb : Byt b) (hnc : n ≤ c) (hn : n ≤ 1000000) :
    Calls Tryd.prog 13 #[.slice A n c] w (TakeT b w) := by
  obtain ⟨i0, hi, hz0, hz1, hz2⟩ := info_partsV info_seg
  obtain ⟨i8, hi8, hy0, hy1, hy2⟩ := info_parts Cr.info_u8
  obtain ⟨z, hz⟩ : ∃ z, z = w.heap.size := ⟨_, rfl⟩
  obtain ⟨w1, hw1⟩ : ∃ x, x = w.alloc (.cells #[.int .i64 0, .int .i64 0, .int .i64 0, .int .i64 0, .int .i64 0, .slice none 0 0] 26) := ⟨_, rfl⟩
  have B1 : Below w.heap.size w w1 := by rw [hw1]; exact below_al (below_d0 w) _
  have x1 : BoxM w1 z noneM (.slice none 0 0) := by rw [hw1, hz]; exact BoxM.new w noneM _
  have l1 := hl.on B1 B1.size
  have HW := Lib.hid (⟨hw1, hz, hb, hl, (show w.heap.size ≤ z by omega)⟩ : _ ∧ _ ∧ _ ∧ _ ∧ _)
  have H1 := Lib.hid (⟨x1, B1, x1.lt⟩ : _ ∧ _ ∧ _)
  clear hw1 hz hb hl B1 x1
  go_enter Tryd.func13, Tryd.ntmps13
  go_wp2_with fail
  rw [← HW.out.1, ← HW.out.2.1]
  refine Calls.mono (rtakeC_any A n c b w1 l1 HW.out.2.2.1 hnc (by omega)) ?_
  rintro e w2 ⟨hto, bb⟩
  have x2 := H1.out.1.below bb
  have B2 := H1.out.2.1.trans (bb.mono H1.out.2.1.size)
  have hz2' := Nat.lt_of_lt_of_le H1.out.2.2 bb.size
  clear bb l1
  rcases hto with ⟨hok, rfl⟩ | ⟨hok, A2, c2, rfl, hc2, r2⟩
  · skip
    obtain ⟨d0, d1, d2, d3, d4, d5⟩ := (x2).cells
    have f0 := (x2).frozen 0
    have f1 := (x2).frozen 1
    have f2 := (x2).frozen 2
    have f3 := (x2).frozen 3
    have f4 := (x2).frozen 4
    have f5 := (x2).frozen 5
    have H9 := Lib.hid (⟨x2, B2, take_no_seal hok⟩ : _ ∧ _ ∧ _)
    clear x2 B2 hok hz2'
    go_wp2_with fail
    obtain ⟨W', hW'⟩ : ∃ x, x = putM w2 z noneM (.slice none 0 0) := ⟨_, rfl⟩
    have b9 := putM_box H9.out.1 noneM (.slice none 0 0)
    have hB9 := putM_below HW.out.2.2.2.2 noneM (.slice none 0 0) H9.out.2.1
    rw [← hW'] at b9 hB9
    have e9 : W' = (((((w2.setCell ⟨z, 0, none⟩ (.int .i64 0)).setCell ⟨z, 1, none⟩ (.int .i64 0)).setCell ⟨z, 2, none⟩ (.int .i64 0)).setCell ⟨z, 3, none⟩ (.int .i64 0)).setCell ⟨z, 4, none⟩ (.int .i64 0)).setCell ⟨z, 5, none⟩ (.slice none 0 0) := hW'
    rw [← e9]
    clear e9 hW' d0 d1 d2 d3 d4 d5 f0 f1 f2 f3 f4 f5
    obtain ⟨d0, d1, d2, d3, d4, d5⟩ := b9.cells
    exact bodyPost_ret (v := .tuple #[.agg #[.int .i64 0, .int .i64 0, .int .i64 0, .int .i64 0, .int .i64 0, .slice none 0 0], .int .i64 11]) (by simp [results, Tryd.results13, go_sem, d0, d1, d2, d3, d4, d5, noneM]) rfl ⟨⟨noneM, none, 0, 0, 11, rfl, .inr ⟨rfl, rfl, H9.out.2.2⟩, by omega, World.ownsRow_nil _ _ _ _⟩, hB9⟩
  obtain ⟨p, hp⟩ : ∃ p, b.take (b.length - 4) = p := ⟨_, rfl⟩
  obtain ⟨q, hq⟩ : ∃ q, b.length - 4 = q := ⟨_, rfl⟩
  rw [hp, hq] at r2
  rw [hq] at hc2 ⊢
  have hpb : Byt p := fun x hx => HW.out.2.2.1 x (List.mem_of_mem_take (by rw [hp]; exact hx))
  have hql : q ≤ 1000000 := by have := HW.out.2.2.2.1.1; omega
  by_cases h0 : q < 1
  · have e0 : decide ((q : Int) < 1) = true := by simp; omega
    have hpn : p = [] := List.eq_nil_of_length_eq_zero (by have := r2.1; omega)
    obtain ⟨d0, d1, d2, d3, d4, d5⟩ := (x2).cells
    have f0 := (x2).frozen 0
    have f1 := (x2).frozen 1
    have f2 := (x2).frozen 2
    have f3 := (x2).frozen 3
    have f4 := (x2).frozen 4
    have f5 := (x2).frozen 5
    have H9 := Lib.hid (⟨x2, B2, take_no_head hp (by rw [hpn]; simp)⟩ : _ ∧ _ ∧ _)
    clear x2 B2 hok hz2' hp hq r2 hc2 hpb hpn h0 hql
    go_wp2_with fail
    obtain ⟨W', hW'⟩ : ∃ x, x = putM w2 z noneM (.slice none 0 0) := ⟨_, rfl⟩
    have b9 := putM_box H9.out.1 noneM (.slice none 0 0)
    have hB9 := putM_below HW.out.2.2.2.2 noneM (.slice none 0 0) H9.out.2.1
    rw [← hW'] at b9 hB9
    have e9 : W' = (((((w2.setCell ⟨z, 0, none⟩ (.int .i64 0)).setCell ⟨z, 1, none⟩ (.int .i64 0)).setCell ⟨z, 2, none⟩ (.int .i64 0)).setCell ⟨z, 3, none⟩ (.int .i64 0)).setCell ⟨z, 4, none⟩ (.int .i64 0)).setCell ⟨z, 5, none⟩ (.slice none 0 0) := hW'
    rw [← e9]
    clear e9 hW' d0 d1 d2 d3 d4 d5 f0 f1 f2 f3 f4 f5
    obtain ⟨d0, d1, d2, d3, d4, d5⟩ := b9.cells
    exact bodyPost_ret (v := .tuple #[.agg #[.int .i64 0, .int .i64 0, .int .i64 0, .int .i64 0, .int .i64 0, .slice none 0 0], .int .i64 11]) (by simp [results, Tryd.results13, go_sem, d0, d1, d2, d3, d4, d5, noneM]) rfl ⟨⟨noneM, none, 0, 0, 11, rfl, .inr ⟨rfl, rfl, H9.out.2.2⟩, by omega, World.ownsRow_nil _ _ _ _⟩, hB9⟩
  have e0 : decide ((q : Int) < 1) = false := by simp; omega
  obtain ⟨A3, hrun, hcut⟩ := cut_tailM Tryd.underlying27 hi8 hy1 A2 q c2 1 (by omega) hc2
  have hrun2 : ∀ W : World, (Instr.slice 27 (.slice A2 q c2) (some (.int .i64 1)) none none).run Tryd.prog W = .ok (.slice A3 (q - 1) (c2 - 1)) W := hrun
  obtain ⟨n3, hn3⟩ : ∃ n3, q - 1 = n3 := ⟨_, rfl⟩
  obtain ⟨c3, hc3⟩ : ∃ c3, c2 - 1 = c3 := ⟨_, rfl⟩
  have r3 := hcut r2
  rw [hn3, hc3] at hrun2
  rw [hn3] at r3
  obtain ⟨o, r, e6, h6⟩ : ∃ o r e6, Nu.takesP (p.drop 1) 6 = (o, r, e6) := ⟨_, _, _, rfl⟩
  obtain ⟨qo, hqo⟩ : ∃ q, o.length = q := ⟨_, rfl⟩
  obtain ⟨qr, hqr⟩ : ∃ q, r.length = q := ⟨_, rfl⟩
  have Ht := Lib.hid (Nu.rtakes_new A3 n3 c3 (p.drop 1) w2 r3 (hpb.drop 1) (by omega) (many := 6) (by omega) h6 hqo hqr)
  have H2 := Lib.hid (⟨x2, B2, hok, hp, hpb, h6, hqo, hqr, hz2', hql⟩ : _ ∧ _ ∧ _ ∧ _ ∧ _ ∧ _ ∧ _ ∧ _ ∧ _ ∧ _)
  clear x2 B2 hok hp hpb h6 hqo hqr r2 r3 hc2 hq hcut hrun hn3 hc3 h0 hz2' hql
  go_wp2_with fail
  clear hrun2 e0
  refine Calls.mono Ht.out ?_
  clear Ht
  rintro e w3 ⟨A4, c4, A5, c5, rfl, row4, row5, -, -, bb⟩
  obtain ⟨x2, B2, hok, hp, hpb, h6, hqo, hqr, hz2', hql⟩ := H2.out
  have x3 := x2.below bb
  have B3 := B2.trans (bb.mono B2.size)
  have hz3' := Nat.lt_of_lt_of_le hz2' bb.size
  clear bb x2 B2 hz2'
  by_cases he6 : e6 = 0
  case neg =>
    have q6 : (e6 != 0) = true := by simpa using he6
    obtain ⟨d0, d1, d2, d3, d4, d5⟩ := (x3).cells
    have f0 := (x3).frozen 0
    have f1 := (x3).frozen 1
    have f2 := (x3).frozen 2
    have f3 := (x3).frozen 3
    have f4 := (x3).frozen 4
    have f5 := (x3).frozen 5
    have H9 := Lib.hid (⟨x3, B3, take_no_read hp (read_no1 (by rw [h6]; exact he6))⟩ : _ ∧ _ ∧ _)
    clear x3 B3 hok hp hpb h6 hqo hqr row4 row5 hz3' hql he6
    go_wp2_with fail
    obtain ⟨W', hW'⟩ : ∃ x, x = putM w3 z noneM (.slice none 0 0) := ⟨_, rfl⟩
    have b9 := putM_box H9.out.1 noneM (.slice none 0 0)
    have hB9 := putM_below HW.out.2.2.2.2 noneM (.slice none 0 0) H9.out.2.1
    rw [← hW'] at b9 hB9
    have e9 : W' = (((((w3.setCell ⟨z, 0, none⟩ (.int .i64 0)).setCell ⟨z, 1, none⟩ (.int .i64 0)).setCell ⟨z, 2, none⟩ (.int .i64 0)).setCell ⟨z, 3, none⟩ (.int .i64 0)).setCell ⟨z, 4, none⟩ (.int .i64 0)).setCell ⟨z, 5, none⟩ (.slice none 0 0) := hW'
    rw [← e9]
    clear e9 hW' d0 d1 d2 d3 d4 d5 f0 f1 f2 f3 f4 f5
    obtain ⟨d0, d1, d2, d3, d4, d5⟩ := b9.cells
    exact bodyPost_ret (v := .tuple #[.agg #[.int .i64 0, .int .i64 0, .int .i64 0, .int .i64 0, .int .i64 0, .slice none 0 0], .int .i64 11]) (by simp [results, Tryd.results13, go_sem, d0, d1, d2, d3, d4, d5, noneM]) rfl ⟨⟨noneM, none, 0, 0, 11, rfl, .inr ⟨rfl, rfl, H9.out.2.2⟩, by omega, World.ownsRow_nil _ _ _ _⟩, hB9⟩
  subst he6
  have q6 : ((0 : Int) != 0) = false := rfl
  obtain ⟨o0, o1, o2, o3, o4, k, rfl, hrb⟩ := head_count (hpb.drop 1) h6
  obtain rfl : 6 = qo := hqo
  obtain ⟨g1, off, hA4, hg1, hcell⟩ := row4.2.at_ (show 0 < 6 by omega)
  cases hA4
  have m0 : w3.cell? ⟨g1, off, none⟩ = some (.int .i64 o0) := hcell 0 (by omega)
  have m1 : w3.cell? ⟨g1, off + 1, none⟩ = some (.int .i64 o1) := hcell 1 (by omega)
  have m2 : w3.cell? ⟨g1, off + 2, none⟩ = some (.int .i64 o2) := hcell 2 (by omega)
  have m3 : w3.cell? ⟨g1, off + 3, none⟩ = some (.int .i64 o3) := hcell 3 (by omega)
  have m4 : w3.cell? ⟨g1, off + 4, none⟩ = some (.int .i64 o4) := hcell 4 (by omega)
  have m5 : w3.cell? ⟨g1, off + 5, none⟩ = some (.int .i64 k) := hcell 5 (by omega)
  clear hcell
  by_cases hk : 60 < k
  · have e5 : decide ((60 : Int) < (k : Int)) = true := by simp; omega
    obtain ⟨d0, d1, d2, d3, d4, d5⟩ := (x3).cells
    have f0 := (x3).frozen 0
    have f1 := (x3).frozen 1
    have f2 := (x3).frozen 2
    have f3 := (x3).frozen 3
    have f4 := (x3).frozen 4
    have f5 := (x3).frozen 5
    have H9 := Lib.hid (⟨x3, B3, take_no_read hp (read_no2 h6 (by show (60 : Int) < (k : Int); omega))⟩ : _ ∧ _ ∧ _)
    clear x3 B3 hok hp hpb h6 hqr row4 row5 hz3' hql hrb m0 m1 m2 m3 m4 hg1 hk
    go_wp2_with fail
    obtain ⟨W', hW'⟩ : ∃ x, x = putM w3 z noneM (.slice none 0 0) := ⟨_, rfl⟩
    have b9 := putM_box H9.out.1 noneM (.slice none 0 0)
    have hB9 := putM_below HW.out.2.2.2.2 noneM (.slice none 0 0) H9.out.2.1
    rw [← hW'] at b9 hB9
    have e9 : W' = (((((w3.setCell ⟨z, 0, none⟩ (.int .i64 0)).setCell ⟨z, 1, none⟩ (.int .i64 0)).setCell ⟨z, 2, none⟩ (.int .i64 0)).setCell ⟨z, 3, none⟩ (.int .i64 0)).setCell ⟨z, 4, none⟩ (.int .i64 0)).setCell ⟨z, 5, none⟩ (.slice none 0 0) := hW'
    rw [← e9]
    clear e9 hW' d0 d1 d2 d3 d4 d5 f0 f1 f2 f3 f4 f5
    obtain ⟨d0, d1, d2, d3, d4, d5⟩ := b9.cells
    exact bodyPost_ret (v := .tuple #[.agg #[.int .i64 0, .int .i64 0, .int .i64 0, .int .i64 0, .int .i64 0, .slice none 0 0], .int .i64 11]) (by simp [results, Tryd.results13, go_sem, d0, d1, d2, d3, d4, d5, noneM]) rfl ⟨⟨noneM, none, 0, 0, 11, rfl, .inr ⟨rfl, rfl, H9.out.2.2⟩, by omega, World.ownsRow_nil _ _ _ _⟩, hB9⟩
  have e5 : decide ((60 : Int) < (k : Int)) = false := by simp; omega
  have hk60 : k ≤ 60 := by omega
  clear hk
  obtain ⟨D, hD⟩ : ∃ D, D = w3.heap.size := ⟨_, rfl⟩
  have HC := Lib.hid (fun (W : World) (hW : Below D w3 W) => (⟨(World.cell?_of_block (hW.block g1 (by rw [hD]; exact hg1))).trans m0, (World.cell?_of_block (hW.block g1 (by rw [hD]; exact hg1))).trans m1, (World.cell?_of_block (hW.block g1 (by rw [hD]; exact hg1))).trans m2, (World.cell?_of_block (hW.block g1 (by rw [hD]; exact hg1))).trans m3, (World.cell?_of_block (hW.block g1 (by rw [hD]; exact hg1))).trans m4, (World.cell?_of_block (hW.block g1 (by rw [hD]; exact hg1))).trans m5⟩ : W.cell? ⟨g1, off, none⟩ = some (.int .i64 o0) ∧ W.cell? ⟨g1, off + 1, none⟩ = some (.int .i64 o1) ∧ W.cell? ⟨g1, off + 2, none⟩ = some (.int .i64 o2) ∧ W.cell? ⟨g1, off + 3, none⟩ = some (.int .i64 o3) ∧ W.cell? ⟨g1, off + 4, none⟩ = some (.int .i64 o4) ∧ W.cell? ⟨g1, off + 5, none⟩ = some (.int .i64 k)))
  obtain ⟨xa, hxa⟩ : ∃ x, x = w3.drew.alloc (.cells #[.int .i64 0, .int .i64 0, .int .i64 0, .int .i64 0, .int .i64 0, .slice none 0 0] 26) := ⟨_, rfl⟩
  have ba : Below D w3 xa := by rw [hxa, hD]; exact (Below.refl _ _).drew.alloc (Nat.le_refl _) _
  have bxa : BoxM xa D noneM (.slice none 0 0) := by rw [hxa, hD]; exact BoxM.new w3.drew noneM _
  obtain ⟨mo, hmo⟩ : ∃ mo : ManP, mo = ⟨o0, o1, o2, o3, o4, []⟩ := ⟨_, rfl⟩
  obtain ⟨W9, hW9⟩ : ∃ x, x = putM xa D mo (.slice none 0 0) := ⟨_, rfl⟩
  have b9 : BoxM W9 D mo (.slice none 0 0) := by rw [hW9]; exact putM_box bxa mo _
  have B9 : Below D w3 W9 := by rw [hW9]; exact putM_below (Nat.le_refl _) mo _ ba
  have e9 : W9 = (((((xa.setCell ⟨D, 0, none⟩ (.int .i64 o0)).setCell ⟨D, 1, none⟩ (.int .i64 o1)).setCell ⟨D, 2, none⟩ (.int .i64 o2)).setCell ⟨D, 3, none⟩ (.int .i64 o3)).setCell ⟨D, 4, none⟩ (.int .i64 o4)).setCell ⟨D, 5, none⟩ (.slice none 0 0) := by rw [hW9, hmo]; rfl
  obtain ⟨a0, a1, a2, a3, a4, a5⟩ := bxa.cells
  have f0 := bxa.frozen 0
  have f1 := bxa.frozen 1
  have f2 := bxa.frozen 2
  have f3 := bxa.frozen 3
  have f4 := bxa.frozen 4
  have f5 := bxa.frozen 5
  rw [hmo] at b9
  have row9 : Nu.Row .u8 r qr A5 c5 W9 := row5.on (by rw [← hD]; exact B9)
  have H9 := Lib.hid (⟨b9, B9, row9, e9⟩ : _ ∧ _ ∧ _ ∧ _)
  have HX := Lib.hid (⟨hxa, hD, ba⟩ : _ ∧ _ ∧ _)
  have H3 := Lib.hid (⟨x3, B3, hok, hp, hpb, h6, hqr, hrb, hz3', hql⟩ : _ ∧ _ ∧ _ ∧ _ ∧ _ ∧ _ ∧ _ ∧ _ ∧ _ ∧ _)
  clear x3 B3 hok hp hpb h6 hqr hrb hz3' hql row4 row5 hg1 hxa hD ba bxa hmo hW9 b9 B9 row9 e9 m0 m1 m2 m3 m4
  go_wp2_with fail
  clear m5 e5 q6
  refine wp_region_held_drew (S := (fun W => Below D w3 W)) (by kernel_rfl) ((Below.refl _ _).drew) (fun hHeld => ?_)
  refine take_at (i := 0) (d := 44) (oi := ?o1) (v := ?v1) ?hi1 ?hd1 (by kernel_rfl) (by kernel_rfl) (by kernel_rfl) ?hw1 ?hy1 ?hq1 (by assumption) ?r1
  case hi1 => (simp only [List.getElem?_toArray, List.getElem?_cons_zero]; rfl)
  case hd1 => rfl
  case hw1 => rfl
  case hy1 => ((intro w hSw; (try dsimp only at hSw); obtain ⟨s0, s1, s2, s3, s4, s5⟩ := HC.out w hSw; go_simp) <;> (with_reducible rfl))
  case hq1 => exact fun _ _ _ h => h
  simp only [List.set_cons_succ, List.set_cons_zero]
  refine take_at (i := 1) (d := 45) (oi := ?o2) (v := ?v2) ?hi2 ?hd2 (by kernel_rfl) (by kernel_rfl) (by kernel_rfl) ?hw2 ?hy2 ?hq2 (by assumption) ?r2
  case hi2 => (simp only [List.getElem?_toArray, List.getElem?_cons_succ, List.getElem?_cons_zero]; rfl)
  case hd2 => rfl
  case hw2 => rfl
  case hy2 => ((intro w hSw; (try dsimp only at hSw); obtain ⟨s0, s1, s2, s3, s4, s5⟩ := HC.out w hSw; go_simp) <;> (with_reducible rfl))
  case hq2 => exact fun _ _ _ h => h
  simp only [List.set_cons_succ, List.set_cons_zero]
  refine take_at (i := 2) (d := 46) (oi := ?o3) (v := ?v3) ?hi3 ?hd3 (by kernel_rfl) (by kernel_rfl) (by kernel_rfl) ?hw3 ?hy3 ?hq3 (by assumption) ?r3
  case hi3 => (simp only [List.getElem?_toArray, List.getElem?_cons_succ, List.getElem?_cons_zero]; rfl)
  case hd3 => rfl
  case hw3 => rfl
  case hy3 => ((intro w hSw; (try dsimp only at hSw); obtain ⟨s0, s1, s2, s3, s4, s5⟩ := HC.out w hSw; go_simp) <;> (with_reducible rfl))
  case hq3 => exact fun _ _ _ h => h
  simp only [List.set_cons_succ, List.set_cons_zero]
  refine take_at (i := 3) (d := 47) (oi := ?o4) (v := ?v4) ?hi4 ?hd4 (by kernel_rfl) (by kernel_rfl) (by kernel_rfl) ?hw4 ?hy4 ?hq4 (by assumption) ?r4
  case hi4 => (simp only [List.getElem?_toArray, List.getElem?_cons_succ, List.getElem?_cons_zero]; rfl)
  case hd4 => rfl
  case hw4 => rfl
  case hy4 => ((intro w hSw; (try dsimp only at hSw); obtain ⟨s0, s1, s2, s3, s4, s5⟩ := HC.out w hSw; go_simp) <;> (with_reducible rfl))
  case hq4 => exact fun _ _ _ h => h
  simp only [List.set_cons_succ, List.set_cons_zero]
  refine take_at (i := 4) (d := 48) (oi := ?o5) (v := ?v5) ?hi5 ?hd5 (by kernel_rfl) (by kernel_rfl) (by kernel_rfl) ?hw5 ?hy5 ?hq5 (by assumption) ?r5
  case hi5 => (simp only [List.getElem?_toArray, List.getElem?_cons_succ, List.getElem?_cons_zero]; rfl)
  case hd5 => rfl
  case hw5 => rfl
  case hy5 => ((intro w hSw; (try dsimp only at hSw); obtain ⟨s0, s1, s2, s3, s4, s5⟩ := HC.out w hSw; go_simp) <;> (with_reducible rfl))
  case hq5 => exact fun _ _ _ h => h
  simp only [List.set_cons_succ, List.set_cons_zero]
  refine take_at (i := 5) (d := 49) (oi := ?o6) (v := ?v6) ?hi6 ?hd6 (by kernel_rfl) (by kernel_rfl) (by kernel_rfl) ?hw6 ?hy6 ?hq6 (by assumption) ?r6
  case hi6 => (simp only [List.getElem?_toArray, List.getElem?_cons_succ, List.getElem?_cons_zero]; rfl)
  case hd6 => rfl
  case hw6 => rfl
  case hy6 => ((intro w hSw; (try dsimp only at hSw); obtain ⟨s0, s1, s2, s3, s4, s5⟩ := HC.out w hSw; go_simp) <;> (with_reducible rfl))
  case hq6 => exact fun _ _ _ h => h
  simp only [List.set_cons_succ, List.set_cons_zero]
  refine take_at (i := 6) (d := 50) (oi := ?o7) (v := ?v7) ?hi7 ?hd7 (by kernel_rfl) (by kernel_rfl) (by kernel_rfl) ?hw7 ?hy7 ?hq7 (by assumption) ?r7
  case hi7 => (simp only [List.getElem?_toArray, List.getElem?_cons_succ, List.getElem?_cons_zero]; rfl)
  case hd7 => rfl
  case hw7 => rfl
  case hy7 => ((intro w hSw; (try dsimp only at hSw); obtain ⟨s0, s1, s2, s3, s4, s5⟩ := HC.out w hSw; go_simp) <;> (with_reducible rfl))
  case hq7 => exact fun _ _ _ h => h
  simp only [List.set_cons_succ, List.set_cons_zero]
  refine take_at (i := 7) (d := 51) (oi := ?o8) (v := ?v8) ?hi8 ?hd8 (by kernel_rfl) (by kernel_rfl) (by kernel_rfl) ?hw8 ?hy8 ?hq8 (by assumption) ?r8
  case hi8 => (simp only [List.getElem?_toArray, List.getElem?_cons_succ, List.getElem?_cons_zero]; rfl)
  case hd8 => rfl
  case hw8 => rfl
  case hy8 => ((intro w hSw; (try dsimp only at hSw); obtain ⟨s0, s1, s2, s3, s4, s5⟩ := HC.out w hSw; go_simp) <;> (with_reducible rfl))
  case hq8 => exact fun _ _ _ h => h
  simp only [List.set_cons_succ, List.set_cons_zero]
  refine take_at (i := 8) (d := 52) (oi := ?o9) (v := ?v9) ?hi9 ?hd9 (by kernel_rfl) (by kernel_rfl) (by kernel_rfl) ?hw9 ?hy9 ?hq9 (by assumption) ?r9
  case hi9 => (simp only [List.getElem?_toArray, List.getElem?_cons_succ, List.getElem?_cons_zero]; rfl)
  case hd9 => rfl
  case hw9 => rfl
  case hy9 => ((intro w hSw; (try dsimp only at hSw); obtain ⟨s0, s1, s2, s3, s4, s5⟩ := HC.out w hSw; go_simp) <;> (with_reducible rfl))
  case hq9 => exact fun _ _ _ h => h
  simp only [List.set_cons_succ, List.set_cons_zero]
  refine take_at (i := 9) (d := 53) (oi := ?o10) (v := ?v10) ?hi10 ?hd10 (by kernel_rfl) (by kernel_rfl) (by kernel_rfl) ?hw10 ?hy10 ?hq10 (by assumption) ?r10
  case hi10 => (simp only [List.getElem?_toArray, List.getElem?_cons_succ, List.getElem?_cons_zero]; rfl)
  case hd10 => rfl
  case hw10 => rfl
  case hy10 => ((intro w hSw; (try dsimp only at hSw); obtain ⟨s0, s1, s2, s3, s4, s5⟩ := HC.out w hSw; go_simp) <;> (with_reducible rfl))
  case hq10 => exact fun _ _ _ h => h
  simp only [List.set_cons_succ, List.set_cons_zero]
  refine take_at (i := 10) (d := 54) (oi := ?o11) (v := ?v11) ?hi11 ?hd11 (by kernel_rfl) (by kernel_rfl) (by kernel_rfl) ?hw11 ?hy11 ?hq11 (by assumption) ?r11
  case hi11 => (simp only [List.getElem?_toArray, List.getElem?_cons_succ, List.getElem?_cons_zero]; rfl)
  case hd11 => rfl
  case hw11 => rfl
  case hy11 => ((intro w hSw; (try dsimp only at hSw); obtain ⟨s0, s1, s2, s3, s4, s5⟩ := HC.out w hSw; go_simp) <;> (with_reducible rfl))
  case hq11 => exact fun _ _ _ h => h
  simp only [List.set_cons_succ, List.set_cons_zero]
  refine take_at (i := 11) (d := 55) (oi := ?o12) (v := ?v12) ?hi12 ?hd12 (by kernel_rfl) (by kernel_rfl) (by kernel_rfl) ?hw12 ?hy12 ?hq12 (by assumption) ?r12
  case hi12 => (simp only [List.getElem?_toArray, List.getElem?_cons_succ, List.getElem?_cons_zero]; rfl)
  case hd12 => rfl
  case hw12 => rfl
  case hy12 => ((intro w hSw; (try dsimp only at hSw); obtain ⟨s0, s1, s2, s3, s4, s5⟩ := HC.out w hSw; go_simp) <;> (with_reducible rfl))
  case hq12 => exact fun _ _ _ h => h
  simp only [List.set_cons_succ, List.set_cons_zero]
  refine take_at (i := 12) (d := 56) (oi := ?o13) (v := ?v13) ?hi13 ?hd13 (by kernel_rfl) (by kernel_rfl) (by kernel_rfl) ?hw13 ?hy13 ?hq13 (by assumption) ?r13
  case hi13 => (simp only [List.getElem?_toArray, List.getElem?_cons_succ, List.getElem?_cons_zero]; rfl)
  case hd13 => rfl
  case hw13 => rfl
  case hy13 => ((intro w hSw; (try dsimp only at hSw); obtain ⟨s0, s1, s2, s3, s4, s5⟩ := HC.out w hSw; go_simp) <;> (with_reducible rfl))
  case hq13 => exact fun _ _ _ h => h
  simp only [List.set_cons_succ, List.set_cons_zero]
  refine take_at (i := 13) (d := 57) (oi := ?o14) (v := ?v14) ?hi14 ?hd14 (by kernel_rfl) (by kernel_rfl) (by kernel_rfl) ?hw14 ?hy14 ?hq14 (by assumption) ?r14
  case hi14 => (simp only [List.getElem?_toArray, List.getElem?_cons_succ, List.getElem?_cons_zero]; rfl)
  case hd14 => rfl
  case hw14 => rfl
  case hy14 => ((intro w hSw; (try dsimp only at hSw); obtain ⟨s0, s1, s2, s3, s4, s5⟩ := HC.out w hSw; go_simp) <;> (with_reducible rfl))
  case hq14 => exact fun _ _ _ h => h
  simp only [List.set_cons_succ, List.set_cons_zero]
  refine take_at (i := 14) (d := 58) (oi := ?o15) (v := ?v15) ?hi15 ?hd15 (by kernel_rfl) (by kernel_rfl) (by kernel_rfl) ?hw15 ?hy15 ?hq15 (by assumption) ?r15
  case hi15 => (simp only [List.getElem?_toArray, List.getElem?_cons_succ, List.getElem?_cons_zero]; rfl)
  case hd15 => rfl
  case hw15 => rfl
  case hy15 => ((intro w hSw; (try dsimp only at hSw); obtain ⟨s0, s1, s2, s3, s4, s5⟩ := HC.out w hSw; go_simp) <;> (with_reducible rfl))
  case hq15 => exact fun _ _ _ h => h
  simp only [List.set_cons_succ, List.set_cons_zero]
  refine take_at (i := 15) (d := 59) (oi := ?o16) (v := ?v16) ?hi16 ?hd16 (by kernel_rfl) (by kernel_rfl) (by kernel_rfl) ?hw16 ?hy16 ?hq16 (by assumption) ?r16
  case hi16 => (simp only [List.getElem?_toArray, List.getElem?_cons_succ, List.getElem?_cons_zero]; rfl)
  case hd16 => rfl
  case hw16 => rfl
  case hy16 => ((intro w hSw; (try dsimp only at hSw); obtain ⟨s0, s1, s2, s3, s4, s5⟩ := HC.out w hSw; go_simp) <;> (with_reducible rfl))
  case hq16 => exact fun _ _ _ h => h
  simp only [List.set_cons_succ, List.set_cons_zero]
  refine take_at (i := 16) (d := 60) (oi := ?o17) (v := ?v17) ?hi17 ?hd17 (by kernel_rfl) (by kernel_rfl) (by kernel_rfl) ?hw17 ?hy17 ?hq17 (by assumption) ?r17
  case hi17 => (simp only [List.getElem?_toArray, List.getElem?_cons_succ, List.getElem?_cons_zero]; rfl)
  case hd17 => rfl
  case hw17 => rfl
  case hy17 => ((intro w hSw; (try dsimp only at hSw); obtain ⟨s0, s1, s2, s3, s4, s5⟩ := HC.out w hSw; go_simp) <;> (with_reducible rfl))
  case hq17 => exact fun _ _ _ h => h
  simp only [List.set_cons_succ, List.set_cons_zero]
  refine wpAnyH_ready (rs := [17]) (by kernel_rfl) (by simp) ?_
  refine br_val (i := 17) (d := 9) (oi := ?o18) (v := (.pointer (some ⟨D, 0, none⟩))) (w' := xa) ?hi18 ?hd18 ?hw18 ?he18 HX.out.2.2 ?hc18
  case hi18 => (simp only [List.getElem?_toArray, List.getElem?_cons_succ, List.getElem?_cons_zero]; rfl)
  case hd18 => rfl
  case hw18 => rfl
  case he18 => (rw [HX.out.1, HX.out.2.1]; go_simp <;> with_reducible rfl)
  intro hHeld
  simp only [List.set_cons_succ, List.set_cons_zero]
  refine wpAnyH_ready (rs := [18]) (by kernel_rfl) (by simp) ?_
  refine br_store (i := 18) (oi := ?o19) (w' := (((((xa.setCell ⟨D, 0, none⟩ (.int .i64 o0)).setCell ⟨D, 1, none⟩ (.int .i64 o1)).setCell ⟨D, 2, none⟩ (.int .i64 o2)).setCell ⟨D, 3, none⟩ (.int .i64 o3)).setCell ⟨D, 4, none⟩ (.int .i64 o4)).setCell ⟨D, 5, none⟩ (.slice none 0 0)) ?hi19 ?hd19 ?hw19 ?he19 (by rw [← H9.out.2.2.2]; exact H9.out.2.1) ?hc19
  case hi19 => (simp only [List.getElem?_toArray, List.getElem?_cons_succ, List.getElem?_cons_zero]; rfl)
  case hd19 => rfl
  case hw19 => rfl
  case he19 => (go_simp <;> with_reducible rfl)
  intro hHeld
  refine wpAnyH_done (by kernel_rfl) ?_ _
  rw [← H9.out.2.2.2]
  clear a0 a1 a2 a3 a4 a5 f0 f1 f2 f3 f4 f5 hHeld
  go_wp2_with fail
  have Hqr := Lib.hid (takes_few (k := 6) (n := 1000000) (H3.out.2.2.2.2.1.drop 1) H3.out.2.2.2.2.2.1 (by have h2 := HW.out.2.2.2.1.1; rw [← H3.out.2.2.2.1, List.length_drop, List.length_take]; omega) H3.out.2.2.2.2.2.2.1)
  go_loopw [7, 10] (fun v x wr => ∃ (i q7 c7 c8 : Nat) (A7 A8 : Option Addr) (rest : List Int) (l : List SegP), i ≤ k ∧ v = .slice A7 q7 c7 ∧ x = .int .i64 i ∧ Nu.Row .u8 rest q7 A7 c7 wr ∧ Byt rest ∧ q7 ≤ 1000000 ∧ TkS r i l rest ∧ BoxM wr D ⟨o0, o1, o2, o3, o4, l⟩ (.slice A8 i c8) ∧ OwnS wr (D + 1) (.slice A8 i c8) i l ∧ Below D w3 wr) (fun _ x _ => k - (intOf x).toNat)
  case atStart => exact ⟨0, qr, c5, 0, A5, none, r, [], Nat.zero_le _, rfl, rfl, H9.out.2.2.1, H3.out.2.2.2.2.2.2.2.1, Hqr.out, TkS.first r, H9.out.1, World.ownsRow_nil _ _ _ _, H9.out.2.1⟩
  clear H9
  obtain ⟨i, q7, c7, c8, A7, A8, rest, l, hik, rfl, rfl, row, hrest, hq7, htk, bx, own, hB⟩ := hrel
  obtain ⟨-, -, -, -, -, m5⟩ := HC.out wr hB
  have xr : BoxM wr z noneM (.slice none 0 0) := (hB.block z (by rw [HX.out.2.1]; exact H3.out.2.2.2.2.2.2.2.2.1)).trans H3.out.1
  have Br : Below w.heap.size w wr := H3.out.2.1.trans (hB.mono (by rw [HX.out.2.1]; exact H3.out.2.1.size))
  have hzD : z < D := by rw [HX.out.2.1]; exact H3.out.2.2.2.2.2.2.2.2.1
  have hwD : w.heap.size ≤ D := by rw [HX.out.2.1]; exact H3.out.2.1.size
  have h6 := H3.out.2.2.2.2.2.1
  have hp := H3.out.2.2.2.1
  have hsz := hB.size
  have hDr : D < wr.heap.size := bx.lt
  by_cases hlt : i < k
  · obtain ⟨s, bh, e4, h4⟩ : ∃ s bh e4, Nu.takesP rest 4 = (s, bh, e4) := ⟨_, _, _, rfl⟩
    obtain ⟨qs, hqs⟩ : ∃ q, s.length = q := ⟨_, rfl⟩
    obtain ⟨qb, hqb⟩ : ∃ q, bh.length = q := ⟨_, rfl⟩
    have Ht := Lib.hid (Nu.rtakes_new A7 q7 c7 rest wr row.2 hrest (by omega) (many := 4) (by omega) h4 hqs hqb)
    have HR := Lib.hid (⟨row, hrest, htk, bx, own, hB, xr, Br, hzD, hwD, h6, hp, hsz, h4, hqs, hqb, hDr, hq7⟩ : _ ∧ _ ∧ _ ∧ _ ∧ _ ∧ _ ∧ _ ∧ _ ∧ _ ∧ _ ∧ _ ∧ _ ∧ _ ∧ _ ∧ _ ∧ _ ∧ _ ∧ _)
    clear row hrest htk bx own hB xr Br hzD hwD h6 hp hsz h4 hqs hqb hDr hq7
    go_wp2_with fail
    clear m5
    refine Calls.mono Ht.out ?_
    clear Ht
    rintro e w4 ⟨A11, c11, A12, c12, rfl, row11, row12, hn12, hn11, bb⟩
    obtain ⟨row, hrest, htk, bx, own, hB, xr, Br, hzD, hwD, h6, hp, hsz, h4, hqs, hqb, hDr, hq7⟩ := HR.out
    have x4 := xr.below bb
    have B4 := Br.trans (bb.mono Br.size)
    by_cases he4 : e4 = 0
    case neg =>
      have q4 : (e4 != 0) = true := by simpa using he4
      obtain ⟨d0, d1, d2, d3, d4, d5⟩ := (x4).cells
      have f0 := (x4).frozen 0
      have f1 := (x4).frozen 1
      have f2 := (x4).frozen 2
      have f3 := (x4).frozen 3
      have f4 := (x4).frozen 4
      have f5 := (x4).frozen 5
      have H9 := Lib.hid (⟨x4, B4, htk.err hp h6 rfl hlt (by rw [h4]; exact he4)⟩ : _ ∧ _ ∧ _)
      clear x4 B4 row hrest htk bx own hB xr Br hzD hwD h6 hp hsz h4 hqs hqb hDr hq7 row11 row12 hn12 hn11 he4 bb
      go_wp2_with fail
      obtain ⟨W', hW'⟩ : ∃ x, x = putM w4 z noneM (.slice none 0 0) := ⟨_, rfl⟩
      have b9 := putM_box H9.out.1 noneM (.slice none 0 0)
      have hB9 := putM_below HW.out.2.2.2.2 noneM (.slice none 0 0) H9.out.2.1
      rw [← hW'] at b9 hB9
      have e9 : W' = (((((w4.setCell ⟨z, 0, none⟩ (.int .i64 0)).setCell ⟨z, 1, none⟩ (.int .i64 0)).setCell ⟨z, 2, none⟩ (.int .i64 0)).setCell ⟨z, 3, none⟩ (.int .i64 0)).setCell ⟨z, 4, none⟩ (.int .i64 0)).setCell ⟨z, 5, none⟩ (.slice none 0 0) := hW'
      rw [← e9]
      clear e9 hW' d0 d1 d2 d3 d4 d5 f0 f1 f2 f3 f4 f5
      obtain ⟨d0, d1, d2, d3, d4, d5⟩ := b9.cells
      exact bodyPost_ret (v := .tuple #[.agg #[.int .i64 0, .int .i64 0, .int .i64 0, .int .i64 0, .int .i64 0, .slice none 0 0], .int .i64 11]) (by simp [results, Tryd.results13, go_sem, d0, d1, d2, d3, d4, d5, noneM]) rfl ⟨⟨noneM, none, 0, 0, 11, rfl, .inr ⟨rfl, rfl, H9.out.2.2⟩, by omega, World.ownsRow_nil _ _ _ _⟩, hB9⟩
    subst he4
    have q4 : ((0 : Int) != 0) = false := rfl
    obtain ⟨htk4, hs4⟩ := htk.next hrest h4
    obtain ⟨y0, y1, y2, y3, rfl⟩ := list4L s hs4
    obtain rfl : 4 = qs := hqs
    have hrest4 := takes_byt (k := 4) hrest h4
    have hqb7 : qb ≤ 1000000 := by
      have h1 := congrArg List.length (Nu.takesP_back (k := 4) hrest h4).2.2
      rw [List.length_append, hqb, row.2.1] at h1
      omega
    have hy3n := Nu.isNum_iff.1 (List.all_eq_true.1 (Nu.takesP_back (k := 4) hrest h4).2.1 y3 (by simp))
    obtain ⟨hy3, hy3'⟩ := hy3n
    have hwr : IntKind.i64.wrap (y3 - 1) = y3 - 1 := by rw [IntKind.wrap_i64]; omega
    have hwr' : wrap64 (y3 - 1) = y3 - 1 := by unfold wrap64; omega
    obtain ⟨g2, off2, hA11, hg2, hcell⟩ := row11.2.at_ (show 0 < 4 by omega)
    cases hA11
    have hg2r : wr.heap.size ≤ g2 := hn11 g2 rfl
    have p0 : w4.cell? ⟨g2, off2, none⟩ = some (.int .i64 y0) := hcell 0 (by omega)
    have p1 : w4.cell? ⟨g2, off2 + 1, none⟩ = some (.int .i64 y1) := hcell 1 (by omega)
    have p2 : w4.cell? ⟨g2, off2 + 2, none⟩ = some (.int .i64 y2) := hcell 2 (by omega)
    have p3 : w4.cell? ⟨g2, off2 + 3, none⟩ = some (.int .i64 y3) := hcell 3 (by omega)
    obtain ⟨W1, hW1⟩ : ∃ x, x = w4.drew.alloc (.cells #[.int .i64 y0, .int .i64 y1, .int .i64 y2, .int .i64 (y3 - 1)] 51) := ⟨_, rfl⟩
    obtain ⟨y, hy⟩ : ∃ y, y = w4.drew.heap.size := ⟨_, rfl⟩
    obtain ⟨sN, hsN⟩ : ∃ sN : SegP, sN = segOf [y0, y1, y2, y3] := ⟨_, rfl⟩
    have hsN' : sN = ⟨y0, y1, y2, y3 - 1⟩ := hsN
    rw [← hsN] at htk4
    have b1 : Below w4.heap.size w4 W1 := by rw [hW1]; exact (Below.refl _ _).drew.alloc (Nat.le_refl _) _
    have b41 := bb.trans (b1.mono bb.size)
    have own1 := own_keep own b41
    have bx1 := bx.below b41
    have hB1 := hB.trans (b41.mono (Nat.le_of_lt hDr))
    have src : Source W1 4 (some ⟨y, 0, none⟩) 1 (SegP.cs sN) := by
      have h := Row.source (by omega) SegP.len SegP.one (show Sg W1 W1.heap.size (some ⟨y, 0, none⟩) 1 [sN] by rw [hW1, hy, hsN']; exact sg_lit w4.drew ⟨y0, y1, y2, y3 - 1⟩)
      simpa using h
    have fin : ∀ (v' : Value) (w7 : World), Longer (D + 1) 51 4 W1 (.slice A8 i c8) (i + 1) (l.flatMap SegP.cs ++ SegP.cs sN) v' w7 →
        (w7.cell? ⟨g2, off2, none⟩ = some (.int .i64 y0) ∧ w7.cell? ⟨g2, off2 + 1, none⟩ = some (.int .i64 y1) ∧ w7.cell? ⟨g2, off2 + 2, none⟩ = some (.int .i64 y2) ∧ w7.cell? ⟨g2, off2 + 3, none⟩ = some (.int .i64 y3)) ∧ w7.cell? ⟨D, 5, none⟩ = some (.slice A8 i c8) ∧ w7.frozen? ⟨D, 5, none⟩ = false ∧
        ((w7.setCell ⟨D, 5, none⟩ v').cell? ⟨g2, off2, none⟩ = some (.int .i64 y0) ∧ (w7.setCell ⟨D, 5, none⟩ v').cell? ⟨g2, off2 + 1, none⟩ = some (.int .i64 y1) ∧ (w7.setCell ⟨D, 5, none⟩ v').cell? ⟨g2, off2 + 2, none⟩ = some (.int .i64 y2) ∧ (w7.setCell ⟨D, 5, none⟩ v').cell? ⟨g2, off2 + 3, none⟩ = some (.int .i64 y3)) ∧
        BoxM (w7.setCell ⟨D, 5, none⟩ v') D ⟨o0, o1, o2, o3, o4, l ++ [sN]⟩ v' ∧ OwnS (w7.setCell ⟨D, 5, none⟩ v') (D + 1) v' (i + 1) (l ++ [sN]) ∧ Nu.Row .u8 bh qb A12 c12 (w7.setCell ⟨D, 5, none⟩ v') ∧ Below D w3 (w7.setCell ⟨D, 5, none⟩ v') := fun v' w7 L7 => by
      have hown : ∀ g, (Value.slice A8 i c8).ownBlock = some g → D + 1 ≤ g ∧ g < wr.heap.size := fun g hg => own.lt g hg
      have hlow : ∀ j, j < W1.heap.size → (j ≤ D ∨ wr.heap.size ≤ j) → w7.heap[j]? = W1.heap[j]? := fun j hj h => L7.2.1.block j hj (fun e => by have := hown j e.symm; omega)
      have s41 := b41.size
      have s1 := b1.size
      have s4 := bb.size
      have h7 : w7.heap[g2]? = w4.heap[g2]? := (hlow g2 (by omega) (.inr hg2r)).trans (b1.block g2 hg2)
      have h9 : (w7.setCell ⟨D, 5, none⟩ v').heap[g2]? = w4.heap[g2]? := (Below.heap_setCell _ _ _ g2 (by simp; omega)).trans h7
      have bx7 : BoxM w7 D ⟨o0, o1, o2, o3, o4, l⟩ (.slice A8 i c8) := (hlow D (by omega) (.inl (Nat.le_refl _))).trans bx1
      have own7 : OwnS w7 (D + 1) v' (i + 1) (l ++ [sN]) := by
        unfold OwnS
        rw [List.flatMap_append]
        simpa using L7.1
      have hgr := L7.2.1.size
      refine ⟨⟨(World.cell?_of_block h7).trans p0, (World.cell?_of_block h7).trans p1, (World.cell?_of_block h7).trans p2, (World.cell?_of_block h7).trans p3⟩, bx7.cells.2.2.2.2.2, bx7.frozen 5, ⟨(World.cell?_of_block h9).trans p0, (World.cell?_of_block h9).trans p1, (World.cell?_of_block h9).trans p2, (World.cell?_of_block h9).trans p3⟩, heap_setM bx7 v', own_at own7 fun g hg => Below.heap_setCell _ _ _ g (by have := (own7.lt g hg).1; simp; omega), ⟨row12.1, rd_stay row12.2 (by simp; omega) fun b' off' ea hb' => ?_⟩, (L7.below hB1 (by omega) (fun g hg => by have := (hown g hg).1; omega)).setCell (p := ⟨D, 5, none⟩) (Nat.le_refl _) v'⟩
      have hbn : wr.heap.size ≤ b' := hn12 b' (by rw [ea]; rfl)
      exact ((Below.heap_setCell _ _ _ b' (by simp; omega)).trans (hlow b' (by omega) (.inr hbn))).trans (b1.block b' hb')
    have hm8 : (i + 1) * 32 ≤ 140737488355328 := by omega
    have hml : i + 1 ≤ maxLen := by unfold maxLen; omega
    have kS : W1.cell? ⟨g2, off2, none⟩ = some (.int .i64 y0) ∧ W1.cell? ⟨g2, off2 + 1, none⟩ = some (.int .i64 y1) ∧ W1.cell? ⟨g2, off2 + 2, none⟩ = some (.int .i64 y2) ∧ W1.cell? ⟨g2, off2 + 3, none⟩ = some (.int .i64 y3) := ⟨(World.cell?_of_block (b1.block g2 hg2)).trans p0, (World.cell?_of_block (b1.block g2 hg2)).trans p1, (World.cell?_of_block (b1.block g2 hg2)).trans p2, (World.cell?_of_block (b1.block g2 hg2)).trans p3⟩
    have kS0 : w4.drew.cell? ⟨g2, off2, none⟩ = some (.int .i64 y0) ∧ w4.drew.cell? ⟨g2, off2 + 1, none⟩ = some (.int .i64 y1) ∧ w4.drew.cell? ⟨g2, off2 + 2, none⟩ = some (.int .i64 y2) ∧ w4.drew.cell? ⟨g2, off2 + 3, none⟩ = some (.int .i64 y3) := ⟨p0, p1, p2, p3⟩
    have k5 : w4.cell? ⟨D, 5, none⟩ = some (.slice A8 i c8) := (bx.below bb).cells.2.2.2.2.2
    have k51 : W1.cell? ⟨D, 5, none⟩ = some (.slice A8 i c8) := bx1.cells.2.2.2.2.2
    have HF := Lib.hid fin
    have HA := Lib.hid (⟨own1, src, hml, hm8, (show D + 1 ≤ W1.heap.size by have := b41.size; omega), hrest4, hqb7, htk4⟩ : _ ∧ _ ∧ _ ∧ _ ∧ _ ∧ _ ∧ _ ∧ _)
    clear fin row hrest htk bx own hB xr Br hzD hwD h6 hp hsz h4 hqb hDr hq7 row11 row12 hn12 hn11 bb x4 B4 htk4 hs4 hrest4 hqb7 hg2 hcell hg2r b1 b41 own1 bx1 hB1 src hm8 hml hsN hsN' HR
    go_wp2_with fail
    refine wp_region_held_drew (S := (fun W2 => W2.cell? ⟨g2, off2, none⟩ = some (.int .i64 y0) ∧ W2.cell? ⟨g2, off2 + 1, none⟩ = some (.int .i64 y1) ∧ W2.cell? ⟨g2, off2 + 2, none⟩ = some (.int .i64 y2) ∧ W2.cell? ⟨g2, off2 + 3, none⟩ = some (.int .i64 y3))) (by kernel_rfl) kS0 (fun hHeld => ?_)
    refine take_at (i := 0) (d := 77) (oi := ?o20) (v := ?v20) ?hi20 ?hd20 (by kernel_rfl) (by kernel_rfl) (by kernel_rfl) ?hw20 ?hy20 ?hq20 (by assumption) ?r20
    case hi20 => (simp only [List.getElem?_toArray, List.getElem?_cons_zero]; rfl)
    case hd20 => rfl
    case hw20 => rfl
    case hy20 => ((intro w hSw; (try dsimp only at hSw); obtain ⟨s0, s1, s2, s3⟩ := hSw; go_simp) <;> (with_reducible rfl))
    case hq20 => exact fun _ _ _ h => h
    simp only [List.set_cons_succ, List.set_cons_zero]
    refine take_at (i := 2) (d := 79) (oi := ?o21) (v := ?v21) ?hi21 ?hd21 (by kernel_rfl) (by kernel_rfl) (by kernel_rfl) ?hw21 ?hy21 ?hq21 (by assumption) ?r21
    case hi21 => (simp only [List.getElem?_toArray, List.getElem?_cons_succ, List.getElem?_cons_zero]; rfl)
    case hd21 => rfl
    case hw21 => rfl
    case hy21 => ((intro w hSw; (try dsimp only at hSw); obtain ⟨s0, s1, s2, s3⟩ := hSw; go_simp) <;> (with_reducible rfl))
    case hq21 => exact fun _ _ _ h => h
    simp only [List.set_cons_succ, List.set_cons_zero]
    refine take_at (i := 3) (d := 80) (oi := ?o22) (v := ?v22) ?hi22 ?hd22 (by kernel_rfl) (by kernel_rfl) (by kernel_rfl) ?hw22 ?hy22 ?hq22 (by assumption) ?r22
    case hi22 => (simp only [List.getElem?_toArray, List.getElem?_cons_succ, List.getElem?_cons_zero]; rfl)
    case hd22 => rfl
    case hw22 => rfl
    case hy22 => ((intro w hSw; (try dsimp only at hSw); obtain ⟨s0, s1, s2, s3⟩ := hSw; go_simp) <;> (with_reducible rfl))
    case hq22 => exact fun _ _ _ h => h
    simp only [List.set_cons_succ, List.set_cons_zero]
    refine take_at (i := 4) (d := 81) (oi := ?o23) (v := ?v23) ?hi23 ?hd23 (by kernel_rfl) (by kernel_rfl) (by kernel_rfl) ?hw23 ?hy23 ?hq23 (by assumption) ?r23
    case hi23 => (simp only [List.getElem?_toArray, List.getElem?_cons_succ, List.getElem?_cons_zero]; rfl)
    case hd23 => rfl
    case hw23 => rfl
    case hy23 => ((intro w hSw; (try dsimp only at hSw); obtain ⟨s0, s1, s2, s3⟩ := hSw; go_simp) <;> (with_reducible rfl))
    case hq23 => exact fun _ _ _ h => h
    simp only [List.set_cons_succ, List.set_cons_zero]
    refine take_at (i := 5) (d := 82) (oi := ?o24) (v := ?v24) ?hi24 ?hd24 (by kernel_rfl) (by kernel_rfl) (by kernel_rfl) ?hw24 ?hy24 ?hq24 (by assumption) ?r24
    case hi24 => (simp only [List.getElem?_toArray, List.getElem?_cons_succ, List.getElem?_cons_zero]; rfl)
    case hd24 => rfl
    case hw24 => rfl
    case hy24 => ((intro w hSw; (try dsimp only at hSw); obtain ⟨s0, s1, s2, s3⟩ := hSw; go_simp) <;> (with_reducible rfl))
    case hq24 => exact fun _ _ _ h => h
    simp only [List.set_cons_succ, List.set_cons_zero]
    refine take_at (i := 6) (d := 83) (oi := ?o25) (v := ?v25) ?hi25 ?hd25 (by kernel_rfl) (by kernel_rfl) (by kernel_rfl) ?hw25 ?hy25 ?hq25 (by assumption) ?r25
    case hi25 => (simp only [List.getElem?_toArray, List.getElem?_cons_succ, List.getElem?_cons_zero]; rfl)
    case hd25 => rfl
    case hw25 => rfl
    case hy25 => ((intro w hSw; (try dsimp only at hSw); obtain ⟨s0, s1, s2, s3⟩ := hSw; go_simp) <;> (with_reducible rfl))
    case hq25 => exact fun _ _ _ h => h
    simp only [List.set_cons_succ, List.set_cons_zero]
    refine take_at (i := 7) (d := 84) (oi := ?o26) (v := ?v26) ?hi26 ?hd26 (by kernel_rfl) (by kernel_rfl) (by kernel_rfl) ?hw26 ?hy26 ?hq26 (by assumption) ?r26
    case hi26 => (simp only [List.getElem?_toArray, List.getElem?_cons_succ, List.getElem?_cons_zero]; rfl)
    case hd26 => rfl
    case hw26 => rfl
    case hy26 => ((intro w hSw; (try dsimp only at hSw); obtain ⟨s0, s1, s2, s3⟩ := hSw; go_simp) <;> (with_reducible rfl))
    case hq26 => exact fun _ _ _ h => h
    simp only [List.set_cons_succ, List.set_cons_zero]
    refine take_at (i := 8) (d := 85) (oi := ?o27) (v := ?v27) ?hi27 ?hd27 (by kernel_rfl) (by kernel_rfl) (by kernel_rfl) ?hw27 ?hy27 ?hq27 (by assumption) ?r27
    case hi27 => (simp only [List.getElem?_toArray, List.getElem?_cons_succ, List.getElem?_cons_zero]; rfl)
    case hd27 => rfl
    case hw27 => rfl
    case hy27 => ((intro w hSw; (try dsimp only at hSw); obtain ⟨s0, s1, s2, s3⟩ := hSw; go_simp) <;> (with_reducible rfl))
    case hq27 => exact fun _ _ _ h => h
    simp only [List.set_cons_succ, List.set_cons_zero]
    refine take_at (i := 9) (d := 86) (oi := ?o28) (v := ?v28) ?hi28 ?hd28 (by kernel_rfl) (by kernel_rfl) (by kernel_rfl) ?hw28 ?hy28 ?hq28 (by assumption) ?r28
    case hi28 => (simp only [List.getElem?_toArray, List.getElem?_cons_succ, List.getElem?_cons_zero]; rfl)
    case hd28 => rfl
    case hw28 => rfl
    case hy28 => ((intro w hSw; (try dsimp only at hSw); obtain ⟨s0, s1, s2, s3⟩ := hSw; go_simp) <;> (with_reducible rfl))
    case hq28 => exact fun _ _ _ h => h
    simp only [List.set_cons_succ, List.set_cons_zero]
    refine take_at (i := 10) (d := 87) (oi := ?o29) (v := ?v29) ?hi29 ?hd29 (by kernel_rfl) (by kernel_rfl) (by kernel_rfl) ?hw29 ?hy29 ?hq29 (by assumption) ?r29
    case hi29 => (simp only [List.getElem?_toArray, List.getElem?_cons_succ, List.getElem?_cons_zero]; rfl)
    case hd29 => rfl
    case hw29 => rfl
    case hy29 => ((intro w hSw; (try dsimp only at hSw); obtain ⟨s0, s1, s2, s3⟩ := hSw; go_simp) <;> (with_reducible rfl))
    case hq29 => exact fun _ _ _ h => h
    simp only [List.set_cons_succ, List.set_cons_zero]
    refine take_at (i := 11) (d := 88) (oi := ?o30) (v := ?v30) ?hi30 ?hd30 (by kernel_rfl) (by kernel_rfl) (by kernel_rfl) ?hw30 ?hy30 ?hq30 (by assumption) ?r30
    case hi30 => (simp only [List.getElem?_toArray, List.getElem?_cons_succ, List.getElem?_cons_zero]; rfl)
    case hd30 => rfl
    case hw30 => rfl
    case hy30 => ((intro w hSw; (try dsimp only at hSw); obtain ⟨s0, s1, s2, s3⟩ := hSw; go_simp) <;> (with_reducible rfl))
    case hq30 => exact fun _ _ _ h => h
    simp only [List.set_cons_succ, List.set_cons_zero]
    refine take_at (i := 12) (d := 89) (oi := ?o31) (v := ?v31) ?hi31 ?hd31 (by kernel_rfl) (by kernel_rfl) (by kernel_rfl) ?hw31 ?hy31 ?hq31 (by assumption) ?r31
    case hi31 => (simp only [List.getElem?_toArray, List.getElem?_cons_succ, List.getElem?_cons_zero]; rfl)
    case hd31 => rfl
    case hw31 => rfl
    case hy31 => ((intro w hSw; (try dsimp only at hSw); obtain ⟨s0, s1, s2, s3⟩ := hSw; go_simp) <;> (with_reducible rfl))
    case hq31 => exact fun _ _ _ h => h
    simp only [List.set_cons_succ, List.set_cons_zero]
    refine take_at (i := 13) (d := 90) (oi := ?o32) (v := ?v32) ?hi32 ?hd32 (by kernel_rfl) (by kernel_rfl) (by kernel_rfl) ?hw32 ?hy32 ?hq32 (by assumption) ?r32
    case hi32 => (simp only [List.getElem?_toArray, List.getElem?_cons_succ, List.getElem?_cons_zero]; rfl)
    case hd32 => rfl
    case hw32 => rfl
    case hy32 => ((intro w hSw; (try dsimp only at hSw); obtain ⟨s0, s1, s2, s3⟩ := hSw; go_simp) <;> (with_reducible rfl))
    case hq32 => exact fun _ _ _ h => h
    simp only [List.set_cons_succ, List.set_cons_zero]
    refine take_at (i := 14) (d := 91) (oi := ?o33) (v := ?v33) ?hi33 ?hd33 (by kernel_rfl) (by kernel_rfl) (by kernel_rfl) ?hw33 ?hy33 ?hq33 (by assumption) ?r33
    case hi33 => (simp only [List.getElem?_toArray, List.getElem?_cons_succ, List.getElem?_cons_zero]; rfl)
    case hd33 => rfl
    case hw33 => rfl
    case hy33 => ((intro w hSw; (try dsimp only at hSw); obtain ⟨s0, s1, s2, s3⟩ := hSw; go_simp) <;> (with_reducible rfl))
    case hq33 => exact fun _ _ _ h => h
    simp only [List.set_cons_succ, List.set_cons_zero]
    refine take_at (i := 15) (d := 92) (oi := ?o34) (v := ?v34) ?hi34 ?hd34 (by kernel_rfl) (by kernel_rfl) (by kernel_rfl) ?hw34 ?hy34 ?hq34 (by assumption) ?r34
    case hi34 => (simp only [List.getElem?_toArray, List.getElem?_cons_succ, List.getElem?_cons_zero]; rfl)
    case hd34 => rfl
    case hw34 => rfl
    case hy34 => ((intro w hSw; (try dsimp only at hSw); obtain ⟨s0, s1, s2, s3⟩ := hSw; go_simp) <;> (with_reducible rfl))
    case hq34 => exact fun _ _ _ h => h
    simp only [List.set_cons_succ, List.set_cons_zero]
    clear p0 p1 p2 p3
    refine wpAnyH_ready (rs := [1, 16]) (by kernel_rfl) (by simp) ?_
    apply two_ready
    · refine br_val (i := 1) (d := 78) (oi := ?o35) (v := .slice A8 i c8) (w' := w4.drew) ?hi35 ?hd35 ?hw35 ?he35 hHeld ?hc35
      case hi35 => (simp only [List.getElem?_toArray, List.getElem?_cons_succ, List.getElem?_cons_zero]; rfl)
      case hd35 => rfl
      case hw35 => rfl
      case he35 => (go_simp <;> with_reducible rfl)
      intro hHeld
      simp only [List.set_cons_succ, List.set_cons_zero]
      refine wpAnyH_ready (rs := [16]) (by kernel_rfl) (by simp) ?_
      refine br_val (i := 16) (d := 93) (oi := ?o36) (v := .slice (some ⟨y, 0, none⟩) 1 1) (w' := W1) ?hi36 ?hd36 ?hw36 ?he36 kS ?hc36
      case hi36 => (simp only [List.getElem?_toArray, List.getElem?_cons_succ, List.getElem?_cons_zero]; rfl)
      case hd36 => rfl
      case hw36 => rfl
      case he36 => (rw [hW1, hy]; go_simp <;> with_reducible rfl)
      intro hHeld
      simp only [List.set_cons_succ, List.set_cons_zero]
      clear hW1 hy hHeld kS0 kS k5 k51
      refine wpAnyH_ready (rs := [17]) (by kernel_rfl) (by simp) ?_
      refine br_append (i := 17) (d := 94) (oi := ?o37) (t := 24) (c := 1) (.tmp 78) (.tmp 93) Tryd.underlying24 hi hz0 hz1 hz2 seg_cells (by omega) HA.out.1 HA.out.2.1 HA.out.2.2.1 HA.out.2.2.2.1 HA.out.2.2.2.2.1 ?hi37 ?hd37 ?hw37 ?ho37 ?hs37 ?hx37 ?hc37
      case hi37 => (simp only [List.getElem?_toArray, List.getElem?_cons_succ, List.getElem?_cons_zero]; rfl)
      case hd37 => rfl
      case hw37 => rfl
      case ho37 => rfl
      case hs37 => rfl
      case hx37 => rfl
      intro v' w7 L7
      obtain ⟨A5', e5', hv5, -⟩ := own_slice L7.1
      subst hv5
      obtain ⟨s7, t5, f7, fin7⟩ := HF.out _ _ L7
      refine ⟨s7, fun hHeld => ?_⟩
      simp only [List.set_cons_succ, List.set_cons_zero]
      refine wpAnyH_ready (rs := [18]) (by kernel_rfl) (by simp) ?_
      refine br_val (i := 18) (d := 95) (oi := ?o38) (v := .pointer (some ⟨D, 5, none⟩)) (w' := w7) ?hi38 ?hd38 ?hw38 ?he38 s7 ?hc38
      case hi38 => (simp only [List.getElem?_toArray, List.getElem?_cons_succ, List.getElem?_cons_zero]; rfl)
      case hd38 => rfl
      case hw38 => rfl
      case he38 => (go_simp <;> with_reducible rfl)
      intro hHeld
      simp only [List.set_cons_succ, List.set_cons_zero]
      refine wpAnyH_ready (rs := [19]) (by kernel_rfl) (by simp) ?_
      refine br_store (i := 19) (oi := ?o39) (w' := w7.setCell ⟨D, 5, none⟩ (.slice A5' (i + 1) e5')) ?hi39 ?hd39 ?hw39 ?he39 fin7.1 ?hc39
      case hi39 => (simp only [List.getElem?_toArray, List.getElem?_cons_succ, List.getElem?_cons_zero]; rfl)
      case hd39 => rfl
      case hw39 => rfl
      case he39 => (go_simp <;> with_reducible rfl)
      intro hHeld
      refine wpAnyH_done (by kernel_rfl) ?_ _
      obtain ⟨w8, hw8⟩ : ∃ x, x = w7.setCell ⟨D, 5, none⟩ (.slice A5' (i + 1) e5') := ⟨_, rfl⟩
      rw [← hw8] at fin7 ⊢
      have H8 := Lib.hid fin7
      clear fin7 s7 t5 f7 L7 hHeld hw8 HF
      go_wp2_with fail
      go_roundw
      case rel => exact ⟨i + 1, qb, c12, e5', A12, A5', bh, l ++ [sN], by omega, rfl, by go_num, H8.out.2.2.2.1, HA.out.2.2.2.2.2.1, HA.out.2.2.2.2.2.2.1, HA.out.2.2.2.2.2.2.2, H8.out.2.1, H8.out.2.2.1, H8.out.2.2.2.2⟩
      case measure => simp [intOf]; omega
    · refine br_val (i := 16) (d := 93) (oi := ?o40) (v := .slice (some ⟨y, 0, none⟩) 1 1) (w' := W1) ?hi40 ?hd40 ?hw40 ?he40 kS ?hc40
      case hi40 => (simp only [List.getElem?_toArray, List.getElem?_cons_succ, List.getElem?_cons_zero]; rfl)
      case hd40 => rfl
      case hw40 => rfl
      case he40 => (rw [hW1, hy]; go_simp <;> with_reducible rfl)
      intro hHeld
      simp only [List.set_cons_succ, List.set_cons_zero]
      clear hW1 hy
      refine wpAnyH_ready (rs := [1]) (by kernel_rfl) (by simp) ?_
      refine br_val (i := 1) (d := 78) (oi := ?o41) (v := .slice A8 i c8) (w' := W1) ?hi41 ?hd41 ?hw41 ?he41 kS ?hc41
      case hi41 => (simp only [List.getElem?_toArray, List.getElem?_cons_succ, List.getElem?_cons_zero]; rfl)
      case hd41 => rfl
      case hw41 => rfl
      case he41 => (go_simp <;> with_reducible rfl)
      intro hHeld
      simp only [List.set_cons_succ, List.set_cons_zero]
      clear hHeld kS0 kS k5 k51
      refine wpAnyH_ready (rs := [17]) (by kernel_rfl) (by simp) ?_
      refine br_append (i := 17) (d := 94) (oi := ?o42) (t := 24) (c := 1) (.tmp 78) (.tmp 93) Tryd.underlying24 hi hz0 hz1 hz2 seg_cells (by omega) HA.out.1 HA.out.2.1 HA.out.2.2.1 HA.out.2.2.2.1 HA.out.2.2.2.2.1 ?hi42 ?hd42 ?hw42 ?ho42 ?hs42 ?hx42 ?hc42
      case hi42 => (simp only [List.getElem?_toArray, List.getElem?_cons_succ, List.getElem?_cons_zero]; rfl)
      case hd42 => rfl
      case hw42 => rfl
      case ho42 => rfl
      case hs42 => rfl
      case hx42 => rfl
      intro v' w7 L7
      obtain ⟨A5', e5', hv5, -⟩ := own_slice L7.1
      subst hv5
      obtain ⟨s7, t5, f7, fin7⟩ := HF.out _ _ L7
      refine ⟨s7, fun hHeld => ?_⟩
      simp only [List.set_cons_succ, List.set_cons_zero]
      refine wpAnyH_ready (rs := [18]) (by kernel_rfl) (by simp) ?_
      refine br_val (i := 18) (d := 95) (oi := ?o43) (v := .pointer (some ⟨D, 5, none⟩)) (w' := w7) ?hi43 ?hd43 ?hw43 ?he43 s7 ?hc43
      case hi43 => (simp only [List.getElem?_toArray, List.getElem?_cons_succ, List.getElem?_cons_zero]; rfl)
      case hd43 => rfl
      case hw43 => rfl
      case he43 => (go_simp <;> with_reducible rfl)
      intro hHeld
      simp only [List.set_cons_succ, List.set_cons_zero]
      refine wpAnyH_ready (rs := [19]) (by kernel_rfl) (by simp) ?_
      refine br_store (i := 19) (oi := ?o44) (w' := w7.setCell ⟨D, 5, none⟩ (.slice A5' (i + 1) e5')) ?hi44 ?hd44 ?hw44 ?he44 fin7.1 ?hc44
      case hi44 => (simp only [List.getElem?_toArray, List.getElem?_cons_succ, List.getElem?_cons_zero]; rfl)
      case hd44 => rfl
      case hw44 => rfl
      case he44 => (go_simp <;> with_reducible rfl)
      intro hHeld
      refine wpAnyH_done (by kernel_rfl) ?_ _
      obtain ⟨w8, hw8⟩ : ∃ x, x = w7.setCell ⟨D, 5, none⟩ (.slice A5' (i + 1) e5') := ⟨_, rfl⟩
      rw [← hw8] at fin7 ⊢
      have H8 := Lib.hid fin7
      clear fin7 s7 t5 f7 L7 hHeld hw8 HF
      go_wp2_with fail
      go_roundw
      case rel => exact ⟨i + 1, qb, c12, e5', A12, A5', bh, l ++ [sN], by omega, rfl, by go_num, H8.out.2.2.2.1, HA.out.2.2.2.2.2.1, HA.out.2.2.2.2.2.2.1, HA.out.2.2.2.2.2.2.2, H8.out.2.1, H8.out.2.2.1, H8.out.2.2.2.2⟩
      case measure => simp [intOf]; omega
  obtain rfl : i = k := by omega
  have hmM : ∀ t, IsMan t b → t = ⟨o0, o1, o2, o3, o4, l⟩ := fun t ht => htk.man hp h6 rfl ht
  obtain ⟨m, hm⟩ : ∃ m : ManP, m = ⟨o0, o1, o2, o3, o4, l⟩ := ⟨_, rfl⟩
  rw [← hm] at hmM
  have bxm : BoxM wr D m (.slice A8 i c8) := by rw [hm]; exact bx
  have hml : l = m.sg := by rw [hm]
  rw [hml] at own
  have hPut := Lib.hid (rputM_any m A8 i c8 wr (OwnS.sg own) (by omega))
  obtain ⟨k0, k1, k2, k3, k4, k5⟩ := bxm.cells
  have HR := Lib.hid (⟨bxm, own, xr, Br, hzD, hwD, hmM, hk60⟩ : _ ∧ _ ∧ _ ∧ _ ∧ _ ∧ _ ∧ _ ∧ _)
  clear row hrest htk bx bxm own hB xr Br hzD hwD h6 hp hsz hDr hq7 hm hml hmM
  go_wp2_with fail
  refine Calls.mono hPut.out ?_
  clear hPut k0 k1 k2 k3 k4 k5 m5
  rintro e w5 ⟨⟨Ap, qp, cp, L, er, rfl, hPI, hL, hqc, rL⟩, bb⟩
  obtain ⟨bx, own, xr, Br, hzD, hwD, hmM, hk60⟩ := HR.out
  have x5 := xr.below bb
  have B5 := Br.trans (bb.mono Br.size)
  rcases hPI with ⟨hM, rfl, rfl⟩ | ⟨hM, rfl, rfl⟩
  case inr =>
    have qn : ((2 : Int) != 0) = true := rfl
    obtain ⟨d0, d1, d2, d3, d4, d5⟩ := (x5).cells
    have f0 := (x5).frozen 0
    have f1 := (x5).frozen 1
    have f2 := (x5).frozen 2
    have f3 := (x5).frozen 3
    have f4 := (x5).frozen 4
    have f5 := (x5).frozen 5
    have H9 := Lib.hid (⟨x5, B5, fun t ht => hM (hmM t ht ▸ ht.1)⟩ : _ ∧ _ ∧ _)
    clear x5 B5 bx own xr Br hzD hwD hmM hk60 hL hqc rL bb hM
    go_wp2_with fail
    obtain ⟨W', hW'⟩ : ∃ x, x = putM w5 z noneM (.slice none 0 0) := ⟨_, rfl⟩
    have b9 := putM_box H9.out.1 noneM (.slice none 0 0)
    have hB9 := putM_below HW.out.2.2.2.2 noneM (.slice none 0 0) H9.out.2.1
    rw [← hW'] at b9 hB9
    have e9 : W' = (((((w5.setCell ⟨z, 0, none⟩ (.int .i64 0)).setCell ⟨z, 1, none⟩ (.int .i64 0)).setCell ⟨z, 2, none⟩ (.int .i64 0)).setCell ⟨z, 3, none⟩ (.int .i64 0)).setCell ⟨z, 4, none⟩ (.int .i64 0)).setCell ⟨z, 5, none⟩ (.slice none 0 0) := hW'
    rw [← e9]
    clear e9 hW' d0 d1 d2 d3 d4 d5 f0 f1 f2 f3 f4 f5
    obtain ⟨d0, d1, d2, d3, d4, d5⟩ := b9.cells
    exact bodyPost_ret (v := .tuple #[.agg #[.int .i64 0, .int .i64 0, .int .i64 0, .int .i64 0, .int .i64 0, .slice none 0 0], .int .i64 11]) (by simp [results, Tryd.results13, go_sem, d0, d1, d2, d3, d4, d5, noneM]) rfl ⟨⟨noneM, none, 0, 0, 11, rfl, .inr ⟨rfl, rfl, H9.out.2.2⟩, by omega, World.ownsRow_nil _ _ _ _⟩, hB9⟩
  have t1 := Cr.run_txt (P := Tryd.prog) (c := cp) 27 9 5 Tryd.underlying27 Tryd.underlying5 Tryd.underlying9 rL
  have t2 := Cr.run_txt (P := Tryd.prog) (c := c) 27 9 5 Tryd.underlying27 Tryd.underlying5 Tryd.underlying9 (HW.out.2.2.2.1.on B5 B5.size)
  have Hq := Lib.hid (Cr.txt_beq (manL_byt hM) HW.out.2.2.1)
  obtain ⟨s, hs⟩ : ∃ s, s = Cr.txt (manL m) := ⟨_, rfl⟩
  obtain ⟨t, ht⟩ : ∃ s, s = Cr.txt b := ⟨_, rfl⟩
  have H2q := Lib.hid (show (s.toList == t.toList) = Cr.eqB (manL m) b by rw [hs, ht]; exact Hq.out)
  rw [← hs] at t1
  rw [← ht] at t2
  clear hs ht Hq
  obtain ⟨bv, hbv⟩ : ∃ bv, (s.toList == t.toList) = bv := ⟨_, rfl⟩
  rw [hbv] at H2q
  have hbn : (s.toList != t.toList) = !bv := by rw [bne, hbv]
  cases bv
  case false =>
    have HNo := Lib.hid (show ∀ t, ¬ IsMan t b from fun t ht => by
      have h1 := hmM t ht
      subst h1
      have h2 := Cr.eqB_iff.2 ht.2.symm
      rw [← H2q.out] at h2
      cases h2)
    (try simp only [Bool.not_false] at hbn)
    obtain ⟨d0, d1, d2, d3, d4, d5⟩ := (x5).cells
    have f0 := (x5).frozen 0
    have f1 := (x5).frozen 1
    have f2 := (x5).frozen 2
    have f3 := (x5).frozen 3
    have f4 := (x5).frozen 4
    have f5 := (x5).frozen 5
    have H9 := Lib.hid (⟨x5, B5, HNo.out⟩ : _ ∧ _ ∧ _)
    clear x5 B5 bx own xr Br hzD hwD hmM hk60 hL hqc rL bb hM
    go_wp2_with fail
    obtain ⟨W', hW'⟩ : ∃ x, x = putM w5 z noneM (.slice none 0 0) := ⟨_, rfl⟩
    have b9 := putM_box H9.out.1 noneM (.slice none 0 0)
    have hB9 := putM_below HW.out.2.2.2.2 noneM (.slice none 0 0) H9.out.2.1
    rw [← hW'] at b9 hB9
    have e9 : W' = (((((w5.setCell ⟨z, 0, none⟩ (.int .i64 0)).setCell ⟨z, 1, none⟩ (.int .i64 0)).setCell ⟨z, 2, none⟩ (.int .i64 0)).setCell ⟨z, 3, none⟩ (.int .i64 0)).setCell ⟨z, 4, none⟩ (.int .i64 0)).setCell ⟨z, 5, none⟩ (.slice none 0 0) := hW'
    rw [← e9]
    clear e9 hW' d0 d1 d2 d3 d4 d5 f0 f1 f2 f3 f4 f5
    obtain ⟨d0, d1, d2, d3, d4, d5⟩ := b9.cells
    exact bodyPost_ret (v := .tuple #[.agg #[.int .i64 0, .int .i64 0, .int .i64 0, .int .i64 0, .int .i64 0, .slice none 0 0], .int .i64 11]) (by simp [results, Tryd.results13, go_sem, d0, d1, d2, d3, d4, d5, noneM]) rfl ⟨⟨noneM, none, 0, 0, 11, rfl, .inr ⟨rfl, rfl, H9.out.2.2⟩, by omega, World.ownsRow_nil _ _ _ _⟩, hB9⟩
  (try simp only [Bool.not_true] at hbn)
  have hbL : b = manL m := (Cr.eqB_iff.1 H2q.out.symm).symm
  obtain ⟨d0, d1, d2, d3, d4, d5⟩ := x5.cells
  obtain ⟨k0, k1, k2, k3, k4, k5⟩ := (bx.below bb).cells
  have f0 := x5.frozen 0
  have f1 := x5.frozen 1
  have f2 := x5.frozen 2
  have f3 := x5.frozen 3
  have f4 := x5.frozen 4
  have f5 := x5.frozen 5
  have own5 := own_keep own bb
  have H9 := Lib.hid (⟨x5, B5, own5, hzD, hwD, hk60, hM, hbL⟩ : _ ∧ _ ∧ _ ∧ _ ∧ _ ∧ _ ∧ _ ∧ _)
  clear x5 B5 bx own own5 xr Br hzD hwD hmM hk60 hL hqc rL bb hM hbL
  go_wp2_with fail
  obtain ⟨W', hW'⟩ : ∃ x, x = putM w5 z m (.slice A8 i c8) := ⟨_, rfl⟩
  have b9 := putM_box H9.out.1 m (.slice A8 i c8)
  have hB9 := putM_below HW.out.2.2.2.2 m (.slice A8 i c8) H9.out.2.1
  have own9 : OwnS W' w.heap.size (.slice A8 i c8) i m.sg := own_lowS (own_at H9.out.2.2.1 fun g hg => by
    rw [hW']
    exact putM_other (W := w5) (z := z) m (.slice A8 i c8) (by have h1 := (H9.out.2.2.1.lt g hg).1; have h2 := H9.out.2.2.2.1; omega)) (by have h2 := H9.out.2.2.2.2.1; omega)
  rw [← hW'] at b9 hB9
  have e9 : W' = (((((w5.setCell ⟨z, 0, none⟩ (.int .i64 m.nx)).setCell ⟨z, 1, none⟩ (.int .i64 m.tm)).setCell ⟨z, 2, none⟩ (.int .i64 m.vt)).setCell ⟨z, 3, none⟩ (.int .i64 m.ss)).setCell ⟨z, 4, none⟩ (.int .i64 m.sf)).setCell ⟨z, 5, none⟩ (.slice A8 i c8) := hW'
  rw [← e9]
  clear e9 hW' d0 d1 d2 d3 d4 d5 f0 f1 f2 f3 f4 f5 k0 k1 k2 k3 k4 k5 t1 t2 hbv hbn
  obtain ⟨d0, d1, d2, d3, d4, d5⟩ := b9.cells
  exact bodyPost_ret (v := .tuple #[.agg #[.int .i64 m.nx, .int .i64 m.tm, .int .i64 m.vt, .int .i64 m.ss, .int .i64 m.sf, .slice A8 i c8], .int .i64 0]) (by simp [results, Tryd.results13, go_sem, d0, d1, d2, d3, d4, d5]) rfl ⟨⟨m, A8, i, c8, 0, rfl, .inl ⟨rfl, H9.out.2.2.2.2.2.2.1, H9.out.2.2.2.2.2.2.2⟩, H9.out.2.2.2.2.2.1, own9⟩, hB9⟩
end Go.Proofs.YtafeadplmcoilaaDoor

