/-
  moultref01.Long, Short, Takes: their contracts: they answer as num's do.
-/
import Derived.Test.YtbpinikldcakfaaRefA
namespace Go.Proofs.Ytbpinikldcakfaa
open Go.RowKit

theorem own_next {base : Nat} {e : TypeId} {k : IntKind} {W w' : World} {v v' : Value} {n m : Nat} {xs R : List Int} (h : Longer base e W v (n + m) (xs.map (Value.int k) ++ R.map (Value.int k)) v' w') (hn : xs.length = n) (hm : R.length = m) :
    w'.ownsRow base e 1 v' (xs ++ R).length ((xs ++ R).map (Value.int k)) := by
  rw [List.length_append, List.map_append, hn, hm]
  exact h.1
theorem own_below {base size n : Nat} {e : TypeId} {v : Value} {xs : List Value} {w w' : World} (h : w.ownsRow base e size v n xs) (hb : Below w.heap.size w w') : w'.ownsRow base e size v n xs :=
  h.kept (row := none) ⟨hb.os, hb.tape, hb.output, hb.size, fun k hk _ => hb.block k hk⟩ (by
    rcases h.2 with ⟨rfl, _⟩ | ⟨g, cap, cur, rfl, _⟩
    · exact .inl rfl
    · exact .inr (by simp [Value.ownBlock]))

set_option maxRecDepth 100000 in
set_option maxHeartbeats 1000000 in
theorem rlongs_any (A : Option Addr) (n c : Nat) (l : List Int) (w : World) (hr : Rd w w.heap.size .i64 A n l) (hn : n ≤ 1099511627776) :
    Calls Try.prog 12 #[.slice A n c] w fun e w' => LongPut l e w' ∧ Below w.heap.size w w' := by
  obtain ⟨i0, hi, hz0, hz1, hz2⟩ := info_parts info_byte
  have Hl := Lib.hid hr.1
  go_enter Try.func12, Try.ntmps12
  go_wp2_with fail
  refine (ris_any A n c l w hr (by omega)).mono ?_
  rintro e w' ⟨rfl, rfl⟩
  cases hall : allNum l
  · have Hall := Lib.hid hall
    clear hall
    go_wp2_with fail
    go_ret2
    exact ⟨LongPut.no Hall.out, Below.refl _ _⟩
  · have Hall := Lib.hid hall
    clear hall
    go_wp2_with fail
    go_loopw [4, 5] (fun v i wr => ∃ k : Nat, k ≤ n ∧ i = .int .i64 k ∧ wr.ownsRow w.heap.size 5 1 v (longsOf (l.take k)).length ((longsOf (l.take k)).map (Value.int .u8)) ∧ Below w.heap.size w wr) (fun _ i _ => n - (intOf i).toNat)
    case atStart => exact ⟨0, Nat.zero_le _, rfl, World.ownsRow_nil _ _ _ _, Below.refl _ _⟩
    case round =>
      obtain ⟨k, hk, rfl, hrow, hB⟩ := hrel
      have hsz := hB.size
      by_cases hlt : k < n
      · have hx := allNum_at Hall.out (k := k) (by rw [Hl.out]; exact hlt)
        obtain ⟨b, off, rfl, hbl, hc⟩ := (hr.on hB hsz).at_ (by omega)
        have hck := hc k hlt
        clear hc
        have hlen : (longsOf (l.take k)).length ≤ 5 * n := by
          have h2 : (l.take k).length ≤ k := List.length_take_le _ _
          rw [longsOf_length]
          omega
        obtain ⟨q, hq⟩ : ∃ q, (longsOf (l.take k)).length = q := ⟨_, rfl⟩
        rw [hq] at hrow hlen
        have Hq := Lib.hid hq
        clear hq
        have Hs := Lib.hid (take_snoc (l := l) (k := k) (by rw [Hl.out]; exact hlt))
        have e0 : l[k]?.getD 0 / 4294967296 = 0 := by omega
        have He : Hid (longOf (l[k]?.getD 0) = [0, l[k]?.getD 0 / 16777216 % 256, l[k]?.getD 0 / 65536 % 256, l[k]?.getD 0 / 256 % 256, l[k]?.getD 0 % 256]) := by rw [long_eq, e0]; rfl
        go_wp2_with (at_builtin; refine hold ?_)
        refine unhold (wpList_append_rdg (.tmp 20) (.tmp 39) 23 Try.underlying23 hi hz0 hz1 hz2 byte_cells (hrow.alloc _) (Rd.made wr .u8 5 [0, l[k]?.getD 0 / 16777216 % 256, l[k]?.getD 0 / 65536 % 256, l[k]?.getD 0 / 256 % 256, l[k]?.getD 0 % 256] rfl) (by unfold maxLen; simp; omega) (by simp; omega) (by simp; omega) rfl rfl rfl rfl ?_)
        intro v' w3 L3
        have hB3 : Below w.heap.size w w3 := L3.below (hB.alloc hsz _) (by simp; omega) (fun g hg => (hrow.lt g hg).1)
        have hrow3 := own_next L3 Hq.out rfl
        rw [← He.out, ← longsOf_snoc, ← Hs.out] at hrow3
        clear L3 e0
        go_wp2_with fail
        go_roundw
        case rel => exact ⟨k + 1, by omega, by go_num, hrow3, hB3⟩
        case measure => simp [intOf]; omega
      · have hkn : l.take k = l := List.take_of_length_le (by rw [Hl.out]; omega)
        rw [hkn] at hrow
        clear hkn
        go_wp2_with fail
        go_ret2
        exact ⟨LongPut.yes Hall.out (Gives.own hrow), hB⟩

theorem rtake_ok (A : Option Addr) (n c : Nat) (l : List Int) (w : World) (hr : Rd w w.heap.size .u8 A n l) (hb : Byt l) (hnc : n ≤ c) (hn : n ≤ 1099511627776) {x : Int} {m : Nat} {R : List Int} {q : Nat} (h : takeP l = (x, m, 0)) (hR : l.drop m = R) (hq : R.length = q) :
    Calls Try.prog 17 #[.slice A n c] w fun e w' => ∃ A' c', e = .returned (.tuple #[.int .i64 x, .slice A' q c', .int .i64 0]) ∧ Row .u8 R q A' c' w' ∧ (∀ g, (Value.slice A' q c').ownBlock = some g → w.heap.size ≤ g) ∧ Below w.heap.size w w' := by
  refine (rtake_any A n c l w hr hb hnc hn).mono ?_
  rintro e w' ⟨⟨v, rfl, hg, hf⟩, hb⟩
  rw [h] at hg
  obtain ⟨A', c', rfl, h'⟩ := hg.row hR hq
  exact ⟨A', c', by rw [h], h', hf, hb⟩
theorem rtake_err (A : Option Addr) (n c : Nat) (l : List Int) (w : World) (hr : Rd w w.heap.size .u8 A n l) (hb : Byt l) (hnc : n ≤ c) (hn : n ≤ 1099511627776) {x : Int} (h : takeP l = (0, 0, x)) (hx : x ≠ 0) :
    Calls Try.prog 17 #[.slice A n c] w fun e w' => ∃ A' c', e = .returned (.tuple #[.int .i64 0, .slice A' 0 c', .int .i64 x]) ∧ Row .u8 [] 0 A' c' w' ∧ Below w.heap.size w w' := by
  refine (rtake_any A n c l w hr hb hnc hn).mono ?_
  rintro e w' ⟨⟨v, rfl, hg, _⟩, hb⟩
  rw [h] at hg
  obtain ⟨A', c', rfl, h'⟩ := hg.row (R := []) (if_neg hx) (q := 0) rfl
  exact ⟨A', c', by rw [h], h', hb⟩
/-- A row lies on where another block has turned. -/
theorem Row.over {k : IntKind} {R : List Int} {q : Nat} {A : Option Addr} {c : Nat} {w w' : World} {tmp : Obj} {row : Option Nat} (h : Row k R q A c w) (hg : (w.alloc tmp).grownBy w' row) (hne : ∀ g, (Value.slice A q c).ownBlock = some g → row ≠ some g) : Row k R q A c w' := by
  refine ⟨h.1, h.2.1, fun hq => ?_⟩
  obtain ⟨b, off, rfl, hb, hc⟩ := h.2.2 hq
  have h1 : w'.heap[b]? = (w.alloc tmp).heap[b]? := hg.block b (by simp; omega) (fun e => hne b rfl e.symm)
  have hsz := hg.size
  refine ⟨b, off, rfl, by simp at hsz; omega, fun i hi => ?_⟩
  rw [World.cell?_of_block (a := ⟨b, off + i, none⟩) (h1.trans (Below.heap_alloc w tmp b hb))]
  exact hc i hi
theorem int_cells : (Value.int .i64 0).cells.size = 1 := rfl

set_option maxRecDepth 100000 in
set_option maxHeartbeats 1000000 in
theorem rtakes_any (A : Option Addr) (n c : Nat) (l : List Int) (many : Int) (w : World) (hr : Rd w w.heap.size .u8 A n l) (hb : Byt l) (hn : n ≤ 1099511627776) (hmany : many ≤ 1000) :
    Calls Try.prog 21 #[.slice A n c, .int .i64 many] w fun e w' => ManyOut l many e w' ∧ Below w.heap.size w w' := by
  have Hl := Lib.hid hr.1
  obtain ⟨i0, hi, hz0, hz1, hz2⟩ := info_parts info_byte
  obtain ⟨i1, hi1, hy0, hy1, hy2⟩ := info_parts info_int
  go_enter Try.func21, Try.ntmps21
  go_wp2_with (at_builtin; refine hold ?_)
  refine unhold (wpList_append_rdg (.tmp 13) (.tmp 14) 23 Try.underlying23 hi hz0 hz1 hz2 byte_cells (own_empty w w.heap.size 5 (Nat.le_refl _)) (hr.on ((Below.refl _ _).alloc (Nat.le_refl _) _) (Nat.le_refl _)) (by unfold maxLen; omega) (by omega) (by simp) rfl rfl rfl rfl ?_)
  intro v3 w3 L3
  obtain ⟨⟨A3, c3, q3, rfl, r3⟩, hB3⟩ := L3.one
  clear L3
  go_wp2_with fail
  go_loopw [7, 8, 9] (fun v o i wr => ∃ (j p q9 : Nat) (A9 : Option Addr) (c9 : Nat) (acc : List Int), i = .int .i64 j ∧ v = .slice A9 q9 c9 ∧ acc.length = j ∧ j ≤ 1000 ∧ AtMany l many p acc ∧ Row .u8 (l.drop p) q9 A9 c9 wr ∧ wr.ownsRow w.heap.size 3 1 o acc.length (acc.map (Value.int .i64)) ∧ Below w.heap.size w wr) (fun _ _ i _ => many.toNat - (intOf i).toNat)
  case atStart => exact ⟨0, 0, q3, A3, c3, [], rfl, rfl, rfl, by omega, AtMany.first l many, r3, World.ownsRow_nil _ _ _ _, hB3⟩
  case round =>
    obtain ⟨j, p, q9, A9, c9, acc, rfl, rfl, hacc, hj1, hat, r9, hrow, hB⟩ := hrel
    have hsz := hB.size
    have hq9 : q9 ≤ n := by
      have h1 := r9.rd.1
      rw [List.length_drop, Hl.out] at h1
      omega
    have Hacc := Lib.hid hacc
    rw [hacc] at hrow
    clear hacc
    by_cases hlt : (j : Int) < many
    · rcases takeP_fine (hb.drop p) with h | ⟨x, m, h, h1, h2, h3, h4, h5⟩
      · obtain ⟨f, hf, hf0⟩ : ∃ f, takeP (l.drop p) = (0, 0, f) ∧ f ≠ 0 := by
          rcases h with h | h
          · exact ⟨10, h, by decide⟩
          · exact ⟨11, h, by decide⟩
        have Hm := Lib.hid (hat.err (by rw [Hacc.out]; exact hlt) hf hf0)
        have H := Lib.hid hf
        have H0 := Lib.hid hf0
        have hne : (f != 0) = true := by simpa using hf0
        clear h hf hf0 hat
        go_wp2_with fail
        refine (rtake_err A9 q9 c9 _ wr r9.rd (hb.drop p) r9.1 (by omega) H.out H0.out).mono ?_
        rintro e w9 ⟨A10, c10, rfl, r10, hb10⟩
        go_wp2_with fail
        go_ret3
        exact ⟨ManyOut.mk Hm.out (Gives.nil _ _) (Gives.nil _ _), hB.trans (hb10.mono hsz)⟩
      · rw [List.length_drop] at h5
        have hnx := Lib.hid (hat.next (by rw [Hacc.out]; exact hlt) h h3 h5)
        have H := Lib.hid h
        clear h hat
        obtain ⟨d, hd9⟩ : ∃ d, ((l.drop p).drop m).length = d := ⟨_, rfl⟩
        have Hd := Lib.hid hd9
        clear hd9
        go_wp2_with fail
        refine (rtake_ok A9 q9 c9 _ wr r9.rd (hb.drop p) r9.1 (by omega) H.out rfl Hd.out).mono ?_
        rintro e w9 ⟨A10, c10, rfl, r10, hnew, hb10⟩
        have Hnew := Lib.hid hnew
        clear hnew
        have hB9 : Below w.heap.size w w9 := hB.trans (hb10.mono hsz)
        have Hlt := Lib.hid (fun g hg => (hrow.lt g hg).2)
        have hrow9 := own_below hrow hb10
        have hsz9 := hB9.size
        clear hb10 hrow r9
        go_wp2_with (at_builtin; refine hold ?_)
        refine unhold (wpList_append_rdg (.tmp 30) (.tmp 32) 22 Try.underlying22 hi1 hy0 hy1 hy2 int_cells (hrow9.alloc _) (Rd.made w9 .i64 3 [x] rfl) (by unfold maxLen; simp; omega) (by simp; omega) (by simp; omega) rfl rfl rfl rfl ?_)
        intro v4 w4 L4
        have hB4 : Below w.heap.size w w4 := L4.below (hB9.alloc hsz9 _) (by simp; omega) (fun g hg => (hrow9.lt g hg).1)
        have hrow4 := own_next L4 Hacc.out rfl
        have r4 := r10.over L4.2.1 (fun g hg e => by have h8 := Hnew.out g hg; have h9 := Hlt.out g e; omega)
        clear r10 L4
        go_wp2_with fail
        go_roundw
        case rel => exact ⟨j + 1, p + m, d, A10, c10, acc ++ [x], by go_num, rfl, by rw [List.length_append, Hacc.out]; rfl, by omega, hnx.out, by rw [← List.drop_drop]; exact r4, hrow4, hB4⟩
        case measure => simp [intOf]; omega
    · have Hf := Lib.hid (hat.full (by rw [Hacc.out]; omega))
      rw [← Hacc.out] at hrow
      go_wp2_with fail
      go_ret3
      exact ⟨ManyOut.mk Hf.out (Gives.own hrow) r9.gives, hB⟩

end Go.Proofs.Ytbpinikldcakfaa
