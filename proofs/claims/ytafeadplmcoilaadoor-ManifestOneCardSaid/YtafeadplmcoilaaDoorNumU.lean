/-
  Numbers as bytes: the document's Short, Take, Takes, beside num's Long and TakeLong (stage 1's texts, as one).
-/
import Derived.Laws.OwnMore
import GoSem.Op.String
import Derived.Test.YtafeadplmcoilaaDoorNumT
import Derived.Test.YtafeadplmcoilaaDoorNumR
import Derived.Test.YtafeadplmcoilaaDoorByt
namespace Go.Proofs.YtafeadplmcoilaaDoor.Nu
open Go.RowKit

theorem Row.alloc {k : IntKind} {R : List Int} {q : Nat} {A : Option Addr} {c : Nat} {w : World} (h : Row k R q A c w) (o : Obj) : Row k R q A c (w.alloc o) := h.on ((Below.refl _ _).alloc (Nat.le_refl _) o)
theorem cnt_bd {n : Int} (h0 : 0 ≤ n) (h1 : n ≤ 1073741824) : 1 ≤ cnt n ∧ cnt n ≤ 5 := (howMany_7 ⟨h0, h1⟩).2
/-- Take's answer, where what stands behind is told in new memory. -/
def TakeNew (l : List Int) (B : Nat) (e : Ending) (w' : World) : Prop :=
  ∃ v, e = .returned (.tuple #[.int .i64 (takeP l).1, v, .int .i64 (takeP l).2.2]) ∧ Gives .u8 (if (takeP l).2.2 = 0 then l.drop (takeP l).2.1 else []) v w' ∧ ∀ g, v.ownBlock = some g → B ≤ g
theorem TakeNew.mk {l : List Int} {x e : Int} {m B : Nat} {R : List Int} {v : Value} {w' : World} (h : takeP l = (x, m, e)) (hR : (if e = 0 then l.drop m else []) = R) (hg : Gives .u8 R v w') (hf : ∀ g, v.ownBlock = some g → B ≤ g) : TakeNew l B (.returned (.tuple #[.int .i64 x, v, .int .i64 e])) w' := by
  refine ⟨v, ?_, ?_, hf⟩
  · rw [h]
  · rw [h, hR]; exact hg
theorem nil_new (B : Nat) : ∀ g, (Value.slice none 0 0).ownBlock = some g → B ≤ g := fun g hg => by cases hg
set_option maxRecDepth 100000 in
set_option maxHeartbeats 1000000 in
theorem rtake_any (A : Option Addr) (n c : Nat) (l : List Int) (w : World) (hr : Rd w w.heap.size .u8 A n l) (hb : Byt l) (hnc : n ≤ c) (hn : n ≤ 1099511627776) :
    Calls Tryd.prog 61 #[.slice A n c] w fun e w' => TakeNew l w.heap.size e w' ∧ Below w.heap.size w w' := by
  have Hl := Lib.hid hr.1
  obtain ⟨i0, hi, hz0, hz1, hz2⟩ := info_parts info_byte
  by_cases hhead : 0 < n ∧ l[0]?.getD 0 = 128
  · obtain ⟨h0, h1⟩ := hhead
    obtain ⟨b, off, rfl, hB, hc⟩ := hr.at_ h0
    have hc0 := hc 0 h0
    simp only [Nat.add_zero] at hc0
    clear hc
    have Hf := Lib.hid (takeP_head (by rw [Hl.out]; exact h0) h1)
    go_enter Tryd.func61, Tryd.ntmps61
    go_wp2_with fail
    go_ret3
    exact ⟨TakeNew.mk Hf.out rfl (Gives.nil _ _) (nil_new _), Below.refl _ _⟩
  · have hfirst : AtNext n l 0 0 := AtNext.first Hl.out (by
      by_cases h0 : n = 0
      · exact .inl h0
      · exact .inr fun e => hhead ⟨by omega, e⟩)
    by_cases h00 : 0 < n
    · obtain ⟨b, off, rfl, hB, hc⟩ := hr.at_ h00
      have hc0 := hc 0 h00
      simp only [Nat.add_zero] at hc0
      have h128 : ¬ l[0]?.getD 0 = 128 := fun e => hhead ⟨h00, e⟩
      clear hhead
      have Hfirst := Lib.hid hfirst
      clear hfirst
      go_enter Tryd.func61, Tryd.ntmps61
      go_wp2_with fail
      go_loop [5, 6] (fun s i => ∃ (u : Nat) (z : Int), i = .int .i64 u ∧ s = .int .i64 z ∧ AtNext n l u z) (fun _ i => 5 - (intOf i).toNat)
      case atStart => exact ⟨0, 0, rfl, rfl, Hfirst.out⟩
      case round =>
        obtain ⟨u, z, rfl, rfl, hat⟩ := hrel
        have hu5 : u ≤ 5 := hat.2.1
        have hun : u ≤ n := hat.2.2.1
        have hs0 : 0 ≤ z := hat.2.2.2.1
        have hx := hb.at_ u
        by_cases hn2 : u < n
        · have hdn : decide ((u : Int) < (n : Int)) = true := by simp; omega
          by_cases h5 : u < 5
          · have hsb := hat.bound h5
            have hcu := hc u hn2
            by_cases hd : l[u]?.getD 0 < 128
            · by_cases hbig : 1073741824 < z * 128 + l[u]?.getD 0
              · have Hf := Lib.hid (hat.big h5 hn2 hd hbig)
                have Hno := Lib.hid (allNum_one_no hbig)
                clear hat hc
                go_wp2_with fail
                refine (ris_out _ 1 1 [z * 128 + l[u]?.getD 0 % 128] _ (x := false) (Rd.made _ .i64 3 [z * 128 + l[u]?.getD 0 % 128] (by simp)) (by omega) (allNum_one_no (by omega))).mono ?_
                rintro e w' ⟨rfl, rfl⟩
                go_wp2_with fail
                go_ret3
                exact ⟨TakeNew.mk Hf.out rfl (Gives.nil _ _) (nil_new _), (Below.refl _ _).alloc (Nat.le_refl _) _⟩
              · have e1 : l[u]?.getD 0 % 128 = l[u]?.getD 0 := by omega
                have Hf : Hid (takeP l = (z * 128 + l[u]?.getD 0 % 128, u + 1, 0)) := by rw [e1]; exact hat.done h5 hn2 hd (by omega)
                clear e1 hat hc
                have hcut := Rd.cut_at hr (m := u + 1) (by omega)
                go_wp2_with fail
                refine (ris_out _ 1 1 [z * 128 + l[u]?.getD 0 % 128] _ (x := true) (Rd.made _ .i64 3 [z * 128 + l[u]?.getD 0 % 128] (by simp)) (by omega) (allNum_one (by omega) (by omega))).mono ?_
                rintro e w' ⟨rfl, rfl⟩
                go_wp2_with (at_builtin; refine hold ?_)
                all_goals
                  refine unhold (wpList_append_rdg (.tmp 45) (.tmp 49) (R := l.drop (u + 1)) (k := .u8) (B := w.heap.size) 27 Tryd.underlying27 hi hz0 hz1 hz2 byte_cells (own_empty_at _ _ 5 (Nat.le_refl _) (by simp)) (by first | exact Rd.on hcut (((Below.refl _ _).alloc (Nat.le_refl _) _).alloc (by simp) _) (Nat.le_refl _) | exact Rd.on (hr.cut_all _ (by omega)) (((Below.refl _ _).alloc (Nat.le_refl _) _).alloc (by simp) _) (Nat.le_refl _)) (by unfold maxLen; omega) (by omega) (by simp) rfl rfl rfl rfl ?_)
                  intro v3 w3 L3
                  have hnew : ∀ g, v3.ownBlock = some g → w.heap.size ≤ g := fun g hg => by have := (L3.1.lt g hg).1; simp at this; omega
                  obtain ⟨⟨A3, c3, q3, rfl, r3⟩, hb3⟩ := L3.one_at (by simp)
                  have Hnew := Lib.hid hnew
                  clear hnew L3
                  go_wp2_with fail
                  go_ret3
                  exact ⟨TakeNew.mk Hf.out rfl r3.gives Hnew.out, ((Below.refl _ _).alloc (Nat.le_refl _) _).trans (hb3.mono (by simp))⟩
            · have Hf := Lib.hid (hat.more h5 hn2 (by omega) hx.2)
              clear hat hc
              go_wp2_with fail
              go_round
              case rel => exact ⟨u + 1, _, by go_num, rfl, Hf.out⟩
              case measure => simp [intOf]; omega
          · have Hf := Lib.hid (hat.five (by omega))
            have hd5 : decide ((u : Int) < 5) = false := by simp; omega
            clear hat hc
            go_wp2_with fail
            go_ret3
            exact ⟨TakeNew.mk Hf.out rfl (Gives.nil _ _) (nil_new _), Below.refl _ _⟩
        · have hdn : decide ((u : Int) < (n : Int)) = false := by simp; omega
          by_cases h5 : u < 5
          · have Hf := Lib.hid (hat.short h5 (by omega))
            clear hat hc
            go_wp2_with fail
            go_ret3
            exact ⟨TakeNew.mk Hf.out rfl (Gives.nil _ _) (nil_new _), Below.refl _ _⟩
          · have Hf := Lib.hid (hat.five (by omega))
            clear hat hc
            go_wp2_with fail
            go_ret3
            exact ⟨TakeNew.mk Hf.out rfl (Gives.nil _ _) (nil_new _), Below.refl _ _⟩
    · have hn0 : n = 0 := by omega
      subst hn0
      have Hf := Lib.hid (hfirst.short (by omega) (Nat.le_refl _))
      clear hhead hfirst
      go_enter Tryd.func61, Tryd.ntmps61
      go_wp2_with fail
      go_loop [5, 6] (fun s i => i = .int .i64 0 ∧ s = .int .i64 0) (fun _ i => 5 - (intOf i).toNat)
      case atStart => exact ⟨rfl, rfl⟩
      case round =>
        obtain ⟨rfl, rfl⟩ := hrel
        go_wp2_with fail
        go_ret3
        exact ⟨TakeNew.mk Hf.out rfl (Gives.nil _ _) (nil_new _), Below.refl _ _⟩
end Go.Proofs.YtafeadplmcoilaaDoor.Nu
namespace Go.Proofs.YtafeadplmcoilaaDoor.Nu
open Go.RowKit

theorem rtake_ok (A : Option Addr) (n c : Nat) (l : List Int) (w : World) (hr : Rd w w.heap.size .u8 A n l) (hb : Byt l) (hnc : n ≤ c) (hn : n ≤ 1099511627776) {x : Int} {m : Nat} {R : List Int} {q : Nat} (h : takeP l = (x, m, 0)) (hR : l.drop m = R) (hq : R.length = q) :
    Calls Tryd.prog 61 #[.slice A n c] w fun e w' => ∃ A' c', e = .returned (.tuple #[.int .i64 x, .slice A' q c', .int .i64 0]) ∧ Row .u8 R q A' c' w' ∧ (∀ g, (Value.slice A' q c').ownBlock = some g → w.heap.size ≤ g) ∧ Below w.heap.size w w' := by
  refine (rtake_any A n c l w hr hb hnc hn).mono ?_
  rintro e w' ⟨⟨v, rfl, hg, hf⟩, hb⟩
  rw [h] at hg
  obtain ⟨A', c', rfl, h'⟩ := hg.row hR hq
  exact ⟨A', c', by rw [h], h', hf, hb⟩
theorem rtake_err (A : Option Addr) (n c : Nat) (l : List Int) (w : World) (hr : Rd w w.heap.size .u8 A n l) (hb : Byt l) (hnc : n ≤ c) (hn : n ≤ 1099511627776) {x : Int} (h : takeP l = (0, 0, x)) (hx : x ≠ 0) :
    Calls Tryd.prog 61 #[.slice A n c] w fun e w' => ∃ A' c', e = .returned (.tuple #[.int .i64 0, .slice A' 0 c', .int .i64 x]) ∧ Row .u8 [] 0 A' c' w' ∧ Below w.heap.size w w' := by
  refine (rtake_any A n c l w hr hb hnc hn).mono ?_
  rintro e w' ⟨⟨v, rfl, hg, _⟩, hb⟩
  rw [h] at hg
  obtain ⟨A', c', rfl, h'⟩ := hg.row (R := []) (if_neg hx) (q := 0) rfl
  exact ⟨A', c', by rw [h], h', hb⟩
/-- A row lies on where another block has turned. -/
theorem Row.over {k : IntKind} {R : List Int} {q : Nat} {A : Option Addr} {c : Nat} {w w' : World} {tmp : Obj} {row : Option Nat} (h : Row k R q A c w) (hg : (w.alloc tmp).grownBy w' row) (hne : ∀ g, (Value.slice A q c).ownBlock = some g → row ≠ some g) : Row k R q A c w' := by
  refine ⟨h.1, h.2.1, fun hq => ?_⟩
  obtain ⟨b, off, rfl, hb, hc⟩ := h.2.2 hq
  have h1 : w'.heap[b]? = (w.alloc tmp).heap[b]? := hg.block b (by simp; omega) (fun e => hne b rfl e.symm)
  have hsz := hg.size
  refine ⟨b, off, rfl, by simp at hsz; omega, fun i hi => ?_⟩
  rw [World.cell?_of_block (a := ⟨b, off + i, none⟩) (h1.trans (Below.heap_alloc w tmp b hb))]
  exact hc i hi
theorem int_cells : (Value.int .i64 0).cells.size = 1 := rfl

set_option maxRecDepth 100000 in
set_option maxHeartbeats 1000000 in
theorem rtakes_any (A : Option Addr) (n c : Nat) (l : List Int) (many : Int) (w : World) (hr : Rd w w.heap.size .u8 A n l) (hb : Byt l) (hn : n ≤ 1099511627776) (hmany : many ≤ 1000) :
    Calls Tryd.prog 37 #[.slice A n c, .int .i64 many] w fun e w' => ManyOut l many e w' ∧ Below w.heap.size w w' := by
  have Hl := Lib.hid hr.1
  obtain ⟨i0, hi, hz0, hz1, hz2⟩ := info_parts info_byte
  obtain ⟨i1, hi1, hy0, hy1, hy2⟩ := info_parts info_int
  go_enter Tryd.func37, Tryd.ntmps37
  go_wp2_with (at_builtin; refine hold ?_)
  refine unhold (wpList_append_rdg (.tmp 13) (.tmp 14) 27 Tryd.underlying27 hi hz0 hz1 hz2 byte_cells (own_empty w w.heap.size 5 (Nat.le_refl _)) (hr.on ((Below.refl _ _).alloc (Nat.le_refl _) _) (Nat.le_refl _)) (by unfold maxLen; omega) (by omega) (by simp) rfl rfl rfl rfl ?_)
  intro v3 w3 L3
  obtain ⟨⟨A3, c3, q3, rfl, r3⟩, hB3⟩ := L3.one
  clear L3
  go_wp2_with fail
  go_loopw [7, 8, 9] (fun v o i wr => ∃ (j p q9 : Nat) (A9 : Option Addr) (c9 : Nat) (acc : List Int), i = .int .i64 j ∧ v = .slice A9 q9 c9 ∧ acc.length = j ∧ j ≤ 1000 ∧ AtMany l many p acc ∧ Row .u8 (l.drop p) q9 A9 c9 wr ∧ wr.ownsRow w.heap.size 3 1 o acc.length (acc.map (Value.int .i64)) ∧ Below w.heap.size w wr) (fun _ _ i _ => many.toNat - (intOf i).toNat)
  case atStart => exact ⟨0, 0, q3, A3, c3, [], rfl, rfl, rfl, by omega, AtMany.first l many, r3, World.ownsRow_nil _ _ _ _, hB3⟩
  case round =>
    obtain ⟨j, p, q9, A9, c9, acc, rfl, rfl, hacc, hj1, hat, r9, hrow, hB⟩ := hrel
    have hsz := hB.size
    have hq9 : q9 ≤ n := by
      have h1 := r9.rd.1
      rw [List.length_drop, Hl.out] at h1
      omega
    have Hacc := Lib.hid hacc
    rw [hacc] at hrow
    clear hacc
    by_cases hlt : (j : Int) < many
    · rcases takeP_fine (hb.drop p) with h | ⟨x, m, h, h1, h2, h3, h4, h5⟩
      · obtain ⟨f, hf, hf0⟩ : ∃ f, takeP (l.drop p) = (0, 0, f) ∧ f ≠ 0 := by
          rcases h with h | h
          · exact ⟨10, h, by decide⟩
          · exact ⟨11, h, by decide⟩
        have Hm := Lib.hid (hat.err (by rw [Hacc.out]; exact hlt) hf hf0)
        have H := Lib.hid hf
        have H0 := Lib.hid hf0
        have hne : (f != 0) = true := by simpa using hf0
        clear h hf hf0 hat
        go_wp2_with fail
        refine (rtake_err A9 q9 c9 _ wr r9.rd (hb.drop p) r9.1 (by omega) H.out H0.out).mono ?_
        rintro e w9 ⟨A10, c10, rfl, r10, hb10⟩
        go_wp2_with fail
        go_ret3
        exact ⟨ManyOut.mk Hm.out (Gives.nil _ _) (Gives.nil _ _), hB.trans (hb10.mono hsz)⟩
      · rw [List.length_drop] at h5
        have hnx := Lib.hid (hat.next (by rw [Hacc.out]; exact hlt) h h3 h5)
        have H := Lib.hid h
        clear h hat
        obtain ⟨d, hd9⟩ : ∃ d, ((l.drop p).drop m).length = d := ⟨_, rfl⟩
        have Hd := Lib.hid hd9
        clear hd9
        go_wp2_with fail
        refine (rtake_ok A9 q9 c9 _ wr r9.rd (hb.drop p) r9.1 (by omega) H.out rfl Hd.out).mono ?_
        rintro e w9 ⟨A10, c10, rfl, r10, hnew, hb10⟩
        have Hnew := Lib.hid hnew
        clear hnew
        have hB9 : Below w.heap.size w w9 := hB.trans (hb10.mono hsz)
        have Hlt := Lib.hid (fun g hg => (hrow.lt g hg).2)
        have hrow9 := own_below hrow hb10
        have hsz9 := hB9.size
        clear hb10 hrow r9
        go_wp2_with (at_builtin; refine hold ?_)
        refine unhold (wpList_append_rdg (.tmp 30) (.tmp 32) 59 Tryd.underlying59 hi1 hy0 hy1 hy2 int_cells (hrow9.alloc _) (Rd.made w9 .i64 3 [x] rfl) (by unfold maxLen; simp; omega) (by simp; omega) (by simp; omega) rfl rfl rfl rfl ?_)
        intro v4 w4 L4
        have hB4 : Below w.heap.size w w4 := L4.below (hB9.alloc hsz9 _) (by simp; omega) (fun g hg => (hrow9.lt g hg).1)
        have hrow4 := own_next L4 Hacc.out rfl
        have r4 := r10.over L4.2.1 (fun g hg e => by have h8 := Hnew.out g hg; have h9 := Hlt.out g e; omega)
        clear r10 L4
        go_wp2_with fail
        go_roundw
        case rel => exact ⟨j + 1, p + m, d, A10, c10, acc ++ [x], by go_num, rfl, by rw [List.length_append, Hacc.out]; rfl, by omega, hnx.out, by rw [← List.drop_drop]; exact r4, hrow4, hB4⟩
        case measure => simp [intOf]; omega
    · have Hf := Lib.hid (hat.full (by rw [Hacc.out]; omega))
      rw [← Hacc.out] at hrow
      go_wp2_with fail
      go_ret3
      exact ⟨ManyOut.mk Hf.out (Gives.own hrow) r9.gives, hB⟩
end Go.Proofs.YtafeadplmcoilaaDoor.Nu
namespace Go.Proofs.YtafeadplmcoilaaDoor.Nu
open Go.RowKit

/-- The digits of which j have been put. -/
def tailOf (x : Int) (j : Nat) : List Int := (shortOf x).drop (cnt x - j)
theorem tail_one {x : Int} (h0 : 0 ≤ x) (h1 : x ≤ 1073741824) : tailOf x 1 = [x % 128] := by
  unfold tailOf
  rcases five h0 h1 with h | ⟨h, h'⟩ | ⟨h, h'⟩ | ⟨h, h'⟩ | ⟨h, h'⟩
  · rw [short_1 h0 h, cnt_1 h]; simp; omega
  · rw [short_2 h h', cnt_2 h h']; rfl
  · rw [short_3 h h', cnt_3 h h']; rfl
  · rw [short_4 h h', cnt_4 h h']; rfl
  · rw [short_5 h h', cnt_5 h h']; rfl
/-- What is left of x when j digits have been put. -/
def leftOf (x : Int) (j : Nat) : Int := x / 128 ^ j
theorem left_next (x : Int) (j : Nat) : leftOf x (j + 1) = leftOf x j / 128 := by
  unfold leftOf
  rw [Int.pow_succ, Int.ediv_ediv_of_nonneg (Int.pow_nonneg (by decide))]
theorem tail_next {x : Int} (h0 : 0 ≤ x) (h1 : x ≤ 1073741824) {j : Nat} (hj : 1 ≤ j) (hc : j ≤ cnt x) (hy : 0 < leftOf x j) : (leftOf x j % 128 + 128) :: tailOf x j = tailOf x (j + 1) ∧ j + 1 ≤ cnt x := by
  unfold tailOf
  unfold leftOf at hy ⊢
  rcases five h0 h1 with h | ⟨h, h'⟩ | ⟨h, h'⟩ | ⟨h, h'⟩ | ⟨h, h'⟩
  · rw [cnt_1 h] at hc
    obtain rfl : j = 1 := by omega
    omega
  · rw [cnt_2 h h'] at hc
    rcases (by omega : j = 1 ∨ j = 2) with rfl | rfl
    · rw [short_2 h h', cnt_2 h h']; refine ⟨?_, by omega⟩; simp; omega
    · omega
  · rw [cnt_3 h h'] at hc
    rcases (by omega : j = 1 ∨ j = 2 ∨ j = 3) with rfl | rfl | rfl
    · rw [short_3 h h', cnt_3 h h']; refine ⟨?_, by omega⟩; simp
    · rw [short_3 h h', cnt_3 h h']; refine ⟨?_, by omega⟩; simp; omega
    · omega
  · rw [cnt_4 h h'] at hc
    rcases (by omega : j = 1 ∨ j = 2 ∨ j = 3 ∨ j = 4) with rfl | rfl | rfl | rfl
    · rw [short_4 h h', cnt_4 h h']; refine ⟨?_, by omega⟩; simp
    · rw [short_4 h h', cnt_4 h h']; refine ⟨?_, by omega⟩; simp
    · rw [short_4 h h', cnt_4 h h']; refine ⟨?_, by omega⟩; simp; omega
    · omega
  · rw [cnt_5 h h'] at hc
    rcases (by omega : j = 1 ∨ j = 2 ∨ j = 3 ∨ j = 4 ∨ j = 5) with rfl | rfl | rfl | rfl | rfl
    · rw [short_5 h h', cnt_5 h h']; refine ⟨?_, by omega⟩; simp
    · rw [short_5 h h', cnt_5 h h']; refine ⟨?_, by omega⟩; simp
    · rw [short_5 h h', cnt_5 h h']; refine ⟨?_, by omega⟩; simp
    · rw [short_5 h h', cnt_5 h h']; refine ⟨?_, by omega⟩; simp; omega
    · omega
theorem tail_end {x : Int} (h0 : 0 ≤ x) (h1 : x ≤ 1073741824) {j : Nat} (hj : 1 ≤ j) (hc : j ≤ cnt x) (hy : leftOf x j ≤ 0) : tailOf x j = shortOf x := by
  unfold tailOf
  unfold leftOf at hy
  have : j = cnt x := by
    rcases five h0 h1 with h | ⟨h, h'⟩ | ⟨h, h'⟩ | ⟨h, h'⟩ | ⟨h, h'⟩
    · rw [cnt_1 h] at hc ⊢; omega
    · rw [cnt_2 h h'] at hc ⊢
      rcases (by omega : j = 1 ∨ j = 2) with rfl | rfl <;> omega
    · rw [cnt_3 h h'] at hc ⊢
      rcases (by omega : j = 1 ∨ j = 2 ∨ j = 3) with rfl | rfl | rfl <;> omega
    · rw [cnt_4 h h'] at hc ⊢
      rcases (by omega : j = 1 ∨ j = 2 ∨ j = 3 ∨ j = 4) with rfl | rfl | rfl | rfl <;> omega
    · rw [cnt_5 h h'] at hc ⊢
      rcases (by omega : j = 1 ∨ j = 2 ∨ j = 3 ∨ j = 4 ∨ j = 5) with rfl | rfl | rfl | rfl | rfl <;> omega
  rw [this, Nat.sub_self]; rfl
theorem tail_len {x : Int} {j : Nat} (hc : j ≤ cnt x) : (tailOf x j).length = j := by
  unfold tailOf
  rw [List.length_drop, shortOf_length]
  omega

set_option maxRecDepth 100000 in
set_option maxHeartbeats 1000000 in
theorem rshorts_any (A : Option Addr) (n c : Nat) (l : List Int) (w : World) (hr : Rd w w.heap.size .i64 A n l) (hn : n ≤ 1099511627776) :
    Calls Tryd.prog 32 #[.slice A n c] w fun e w' => ShortOut l e w' ∧ Below w.heap.size w w' := by
  obtain ⟨i0, hi, hz0, hz1, hz2⟩ := info_parts info_byte
  have Hl := Lib.hid hr.1
  go_enter Tryd.func32, Tryd.ntmps32
  go_wp2_with fail
  refine (ris_any A n c l w hr (by omega)).mono ?_
  rintro e w' ⟨rfl, rfl⟩
  cases hall : allNum l
  · have Hall := Lib.hid hall
    clear hall
    go_wp2_with fail
    go_ret2
    exact ⟨ShortOut.no Hall.out, Below.refl _ _⟩
  · have Hall := Lib.hid hall
    clear hall
    go_wp2_with fail
    go_loopw [4, 5] (fun v i wr => ∃ k : Nat, k ≤ n ∧ i = .int .i64 k ∧ wr.ownsRow w.heap.size 5 1 v (shortsOf (l.take k)).length ((shortsOf (l.take k)).map (Value.int .u8)) ∧ Below w.heap.size w wr) (fun _ i _ => n - (intOf i).toNat)
    case atStart => exact ⟨0, Nat.zero_le _, rfl, World.ownsRow_nil _ _ _ _, Below.refl _ _⟩
    case round =>
      obtain ⟨k, hk, rfl, hrow, hB⟩ := hrel
      have hsz := hB.size
      by_cases hlt : k < n
      · have hx := allNum_at Hall.out (k := k) (by rw [Hl.out]; exact hlt)
        obtain ⟨b, off, rfl, hbl, hc⟩ := (hr.on hB hsz).at_ (by omega)
        have hck := hc k hlt
        clear hc
        have hlen : (shortsOf (l.take k)).length ≤ 5 * n := by
          have h1 := shortsOf_length (allNum_take Hall.out k)
          have h2 : (l.take k).length ≤ k := List.length_take_le _ _
          omega
        obtain ⟨q, hq⟩ : ∃ q, (shortsOf (l.take k)).length = q := ⟨_, rfl⟩
        rw [hq] at hrow hlen
        have Hq := Lib.hid hq
        clear hq
        have Hs := Lib.hid (take_snoc (l := l) (k := k) (by rw [Hl.out]; exact hlt))
        have hcnt := cnt_bd hx.1 hx.2
        have Ht1 := Lib.hid (tail_one hx.1 hx.2)
        have Hl1 : Hid (leftOf (l[k]?.getD 0) 1 = l[k]?.getD 0 / 128) := by
          show leftOf _ 1 = _
          unfold leftOf
          rw [Int.pow_one]
        obtain ⟨wo, hwo⟩ : ∃ wo : World, wo = wr := ⟨_, rfl⟩
        subst hwo
        go_wp2_with fail
        go_loopw [6, 7] (fun d y wi => ∃ (j q9 : Nat) (A9 : Option Addr) (c9 : Nat) (z : Int), 1 ≤ j ∧ j ≤ cnt (l[k]?.getD 0) ∧ y = .int .i64 z ∧ Hid (leftOf (l[k]?.getD 0) j = z) ∧ 0 ≤ z ∧ z ≤ 1073741824 ∧ d = .slice A9 q9 c9 ∧ Row .u8 (tailOf (l[k]?.getD 0) j) q9 A9 c9 wi ∧ Below wo.heap.size wo wi) (fun _ y _ => (intOf y).toNat)
        case atStart =>
          refine ⟨1, 1, some ⟨wo.heap.size, 0, none⟩, 1, l[k]?.getD 0 / 128, Nat.le_refl _, hcnt.1, rfl, Hl1, by omega, by omega, rfl, ?_, (Below.refl _ _).alloc (Nat.le_refl _) _⟩
          rw [Ht1.out]
          exact ⟨Nat.le_refl _, Rd.made wo .u8 5 [l[k]?.getD 0 % 128] rfl⟩
        case round =>
          obtain ⟨j, q9, A9, c9, z, hj1, hj2, rfl, Hz, hz3, hz4, rfl, r9, hBi⟩ := hrel
          have hszi := hBi.size
          have hq9 : q9 ≤ 5 := by
            have h1 := r9.rd.1
            rw [tail_len hj2] at h1
            omega
          by_cases hpos : 0 < z
          · have hnx := tail_next hx.1 hx.2 hj1 hj2 (by rw [Hz.out]; exact hpos)
            rw [Hz.out] at hnx
            have Hnx := Lib.hid hnx.1
            have hj3 := hnx.2
            clear hnx
            have Hz2 : Hid (leftOf (l[k]?.getD 0) (j + 1) = z / 128) := by
              show leftOf _ _ = _
              rw [left_next, Hz.out]
            go_wp2_with (at_builtin; refine hold ?_)
            refine unhold (wpList_append_rdg (.tmp 37) (.tmp 38) 27 Tryd.underlying27 hi hz0 hz1 hz2 byte_cells
              (show (wr.alloc (.cells #[.int .u8 (z % 128 + 128)] 5)).ownsRow wr.heap.size 5 1 (.slice (some ⟨wr.heap.size, 0, none⟩) 1 1) 1 ([z % 128 + 128].map (Value.int .u8)) from World.ownsRow_lit wr _ 1 (Nat.le_refl _) (by unfold maxLen; omega) rfl)
              (r9.alloc _).rd (by unfold maxLen; omega) (by omega) (by simp) rfl rfl rfl rfl ?_)
            intro v5 w5 L5
            have hB5 : Below wo.heap.size wo w5 := L5.below (hBi.alloc hszi _) (by simp; omega) (fun g hg => by simp [Value.ownBlock] at hg; omega)
            have hrow5 := own_next L5 rfl r9.rd.1
            rw [List.singleton_append, Hnx.out] at hrow5
            obtain ⟨A5, c5, rfl, hc5, hr5⟩ := own_rd hrow5
            obtain ⟨q5, hq5⟩ : ∃ q5, (tailOf (l[k]?.getD 0) (j + 1)).length = q5 := ⟨_, rfl⟩
            rw [hq5] at hc5 hr5
            rw [hq5]
            have r5 : Row .u8 (tailOf (l[k]?.getD 0) (j + 1)) q5 A5 c5 w5 := ⟨hc5, hr5⟩
            clear L5 hrow5 hc5 hr5 hq5
            go_wp2_with fail
            go_roundw
            case rel => exact ⟨j + 1, q5, A5, c5, z / 128, by omega, hj3, rfl, Hz2, by omega, by omega, rfl, r5, hB5⟩
            case measure => simp [intOf]; omega
          · have Hend := Lib.hid (tail_end hx.1 hx.2 hj1 hj2 (by rw [Hz.out]; omega))
            rw [Hend.out] at r9
            have hrowi := own_below hrow hBi
            have hBw : Below w.heap.size w wr := hB.trans (hBi.mono hsz)
            go_wp2_with (at_builtin; refine hold ?_)
            refine unhold (wpList_append_rdg (.tmp 40) (.tmp 41) 27 Tryd.underlying27 hi hz0 hz1 hz2 byte_cells hrowi r9.rd (by unfold maxLen; omega) (by omega) (by have := hBw.size; omega) rfl rfl rfl rfl ?_)
            intro v6 w6 L6
            have hB6 : Below w.heap.size w w6 := L6.below hBw hBw.size (fun g hg => (hrowi.lt g hg).1)
            have hrow6 := own_next L6 Hq.out r9.rd.1
            rw [← shortsOf_snoc, ← Hs.out] at hrow6
            clear L6 hrowi r9
            go_wp2_with fail
            go_roundw
            case rel => exact ⟨k + 1, by omega, by go_num, hrow6, hB6⟩
            case measure => simp [intOf]; omega
      · have hkn : l.take k = l := List.take_of_length_le (by rw [Hl.out]; omega)
        rw [hkn] at hrow
        clear hkn
        go_wp2_with fail
        go_ret2
        exact ⟨ShortOut.yes Hall.out (Gives.own hrow), hB⟩
end Go.Proofs.YtafeadplmcoilaaDoor.Nu
namespace Go.Proofs.YtafeadplmcoilaaDoor.Nu
open Go

theorem short_byt {n : Int} (h0 : 0 ≤ n) (h1 : n ≤ 1073741824) : Byt (shortOf n) := by
  rcases five h0 h1 with h | ⟨h, h'⟩ | ⟨h, h'⟩ | ⟨h, h'⟩ | ⟨h, h'⟩
  · rw [short_1 h0 h]; intro x hx; simp only [List.mem_cons, List.not_mem_nil, or_false] at hx; omega
  · rw [short_2 h h']; intro x hx; simp only [List.mem_cons, List.not_mem_nil, or_false] at hx; omega
  · rw [short_3 h h']; intro x hx; simp only [List.mem_cons, List.not_mem_nil, or_false] at hx; omega
  · rw [short_4 h h']; intro x hx; simp only [List.mem_cons, List.not_mem_nil, or_false] at hx; omega
  · rw [short_5 h h']; intro x hx; simp only [List.mem_cons, List.not_mem_nil, or_false] at hx; omega
end Go.Proofs.YtafeadplmcoilaaDoor.Nu
