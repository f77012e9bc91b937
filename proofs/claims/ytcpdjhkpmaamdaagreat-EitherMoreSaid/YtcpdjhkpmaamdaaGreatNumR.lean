/-
  The document's numbers as bytes: moultref01's Is, Long, TakeLong: their contracts (stage 1's texts, as one).
-/
import Derived.Test.YtcpdjhkpmaamdaaGreatNumM
namespace Go.Proofs.YtcpdjhkpmaamdaaGreat.Nu
open Go.RowKit

theorem allNum_one {n : Int} (h0 : 0 ≤ n) (h1 : n ≤ 1073741824) : allNum [n] = true := by simp [allNum, isNum, h0, h1]
end Go.Proofs.YtcpdjhkpmaamdaaGreat.Nu

namespace Go.Proofs.YtcpdjhkpmaamdaaGreat.Nu
open Go.RowKit

theorem Rd.cut_at {w : World} {B n m b off : Nat} {k : IntKind} {l : List Int} (h : Rd w B k (some ⟨b, off, none⟩) n l) (hm : m ≤ n) : Rd w B k (some ⟨b, off + m, none⟩) (n - m) (l.drop m) := by
  refine ⟨by rw [List.length_drop, h.1], fun hn => ?_⟩
  obtain ⟨b', off', e, hb, hcell⟩ := h.2 (by omega)
  injection e with e
  injection e with e1 e2
  subst e1 e2
  refine ⟨b, off + m, rfl, hb, fun i hi => ?_⟩
  rw [Nat.add_assoc, hcell (m + i) (by omega), List.getElem?_drop]

theorem own_empty_at (w : World) (base : Nat) (e : TypeId) (h : base ≤ w.heap.size) {g : Nat} (hg : g = w.heap.size) : (w.alloc (.cells #[] e)).ownsRow base e 1 (.slice (some ⟨g, 0, none⟩) 0 0) 0 [] := by
  subst hg
  exact own_empty w base e h
theorem Longer.one_at {base : Nat} {e : TypeId} {W w1 : World} {v1 : Value} {n1 g : Nat} {R : List Int} {k : IntKind}
    (h1 : Longer base e (W.alloc (.cells #[] e)) (.slice (some ⟨g, 0, none⟩) 0 0) n1 ([] ++ R.map (Value.int k)) v1 w1) (hg : g = W.heap.size) :
    (∃ A c q, v1 = .slice A q c ∧ Row k R q A c w1) ∧ Below W.heap.size W w1 := by
  subst hg
  exact h1.one

set_option maxRecDepth 100000 in
set_option maxHeartbeats 400000 in
theorem ris_any (A : Option Addr) (n c : Nat) (l : List Int) (w : World) (hr : Rd w w.heap.size .i64 A n l) (hn : n ≤ 140737488355328) :
    Calls Tryz.prog 56 #[.slice A n c] w fun e w' => e = .returned (.bool (allNum l)) ∧ w = w' := by
  have hl : l.length = n := hr.1
  go_enter Tryz.func56, Tryz.ntmps56
  go_wp2
  go_loop [3] (fun i => ∃ k : Nat, k ≤ n ∧ i = .int .i64 k ∧ allNum (l.take k) = true) (fun i => n - (intOf i).toNat)
  case atStart => exact ⟨0, Nat.zero_le _, rfl, rfl⟩
  case round =>
    obtain ⟨k, hk, rfl, hall⟩ := hrel
    have Hall := Lib.hid hall
    clear hall
    have Hl := Lib.hid hl
    clear hl
    by_cases hlt : k < n
    · obtain ⟨b, off, rfl, hB, hc⟩ := hr.at_ (by omega)
      have hck := hc k hlt
      clear hc
      by_cases h0 : l[k]?.getD 0 < 0
      · have hd : decide (l[k]?.getD 0 < 0) = true := by simpa using h0
        go_wp2
        go_ret
        exact ⟨ret_bool (by rw [allNum_no (k := k) (by rw [Hl.out]; exact hlt) (by simp [isNum]; omega)]), rfl⟩
      · have hd : decide (l[k]?.getD 0 < 0) = false := by simpa using h0
        by_cases h1 : 1073741824 < l[k]?.getD 0
        · go_wp2
          go_ret
          exact ⟨ret_bool (by rw [allNum_no (k := k) (by rw [Hl.out]; exact hlt) (by simp [isNum]; omega)]), rfl⟩
        · go_wp2
          go_round
          case rel => exact ⟨k + 1, by omega, by go_num, by rw [take_snoc (by rw [Hl.out]; exact hlt), allNum_snoc, Hall.out]; simp [isNum]; omega⟩
          case measure => simp [intOf]; omega
    · have : k = n := by omega
      have hf : allNum l = true := by rw [← Hall.out, List.take_of_length_le (by rw [Hl.out]; omega)]
      have Hf := Lib.hid hf
      clear hf this
      go_wp2
      go_ret
      exact ⟨ret_bool (by rw [Hf.out]), rfl⟩
theorem ris_out (A : Option Addr) (n c : Nat) (l : List Int) (w : World) {x : Bool} (hr : Rd w w.heap.size .i64 A n l) (hn : n ≤ 140737488355328) (hx : allNum l = x) :
    Calls Tryz.prog 56 #[.slice A n c] w fun e w' => e = .returned (.bool x) ∧ w = w' := by
  have h := ris_any A n c l w hr hn
  rwa [hx] at h
theorem allNum_one_no {n : Int} (h : 1073741824 < n) : allNum [n] = false := by simp [allNum, isNum]; omega

theorem Row.gives {k : IntKind} {R : List Int} {q : Nat} {A : Option Addr} {c : Nat} {w : World} (h : Row k R q A c w) : Gives k R (.slice A q c) w := by
  have h1 := h.2.1
  subst h1
  exact ⟨A, c, rfl, h.1, h.2⟩

set_option maxRecDepth 100000 in
set_option maxHeartbeats 1000000 in
theorem rlong_any (A : Option Addr) (n c : Nat) (l : List Int) (w : World) (hr : Rd w w.heap.size .u8 A n l) (hb : Byt l) (hnc : n ≤ c) (hn : n ≤ 1099511627776) :
    Calls Tryz.prog 42 #[.slice A n c] w fun e w' => LongOut l e w' ∧ Below w.heap.size w w' := by
  by_cases h5 : n < 5
  · have H := Lib.hid (longP_short (l := l) (by rw [hr.1]; exact h5))
    go_enter Tryz.func42, Tryz.ntmps42
    go_wp2_with fail
    go_ret3
    exact ⟨LongOut.mk H.out (Gives.nil _ _), Below.refl _ _⟩
  · have Hl := Lib.hid hr.1
    obtain ⟨i0, hi, hz0, hz1, hz2⟩ := info_parts info_byte
    obtain ⟨b, off, rfl, hB, hcell⟩ := hr.at_ (by omega)
    go_enter Tryz.func42, Tryz.ntmps42
    go_wp2_with fail
    go_loop [6, 5] (fun i s => ∃ k : Nat, k ≤ 5 ∧ i = .int .i64 k ∧ s = .int .i64 (sumL (l.take k))) (fun i _ => 5 - (intOf i).toNat)
    case atStart => exact ⟨0, by omega, rfl, rfl⟩
    case round =>
      obtain ⟨k, hk, rfl, rfl⟩ := hrel
      by_cases hlt : k < 5
      · have hck := hcell k (by omega)
        have hx := hb.at_ k
        have hs := sumL_small hb hlt (by rw [Hl.out]; omega)
        have Hn := Lib.hid (sumL_next (l := l) (k := k) (by rw [Hl.out]; omega))
        clear hcell
        go_wp2_with fail
        go_round
        case rel => exact ⟨k + 1, by omega, by go_num, by rw [Hn.out]⟩
        case measure => simp [intOf]; omega
      · obtain rfl : k = 5 := by omega
        have hs5 := sumL_bound hb 5 (by rw [Hl.out]; omega)
        have hs0 := hs5.1
        clear hs5
        by_cases hbig : 1073741824 < sumL (l.take 5)
        · have H := Lib.hid (longP_big (l := l) (by rw [Hl.out]; omega) hbig)
          clear hcell
          go_wp2_with fail
          refine (ris_out _ 1 1 [sumL (l.take 5)] _ (x := false) (Rd.made _ .i64 3 [sumL (l.take 5)] (by simp)) (by omega) (allNum_one_no hbig)).mono ?_
          rintro e w' ⟨rfl, rfl⟩
          go_wp2_with fail
          go_ret3
          exact ⟨LongOut.mk H.out (Gives.nil _ _), (Below.refl _ _).alloc (Nat.le_refl _) _⟩
        · have H := Lib.hid (longP_ok (l := l) (by rw [Hl.out]; omega) (by omega))
          have hcut := Rd.cut_at (m := 5) hr (by omega)
          clear hcell
          go_wp2_with fail
          refine (ris_out _ 1 1 [sumL (l.take 5)] _ (x := true) (Rd.made _ .i64 3 [sumL (l.take 5)] (by simp)) (by omega) (allNum_one hs0 (by omega))).mono ?_
          rintro e w' ⟨rfl, rfl⟩
          go_wp2_with (at_builtin; refine hold ?_)
          all_goals
            refine unhold (wpList_append_rdg (.tmp 27) (.tmp 29) (R := l.drop 5) (k := .u8) (B := w.heap.size) 23 Tryz.underlying23 hi hz0 hz1 hz2 byte_cells (own_empty_at _ _ 5 (Nat.le_refl _) (by simp)) (by first | exact Rd.on hcut (((Below.refl _ _).alloc (Nat.le_refl _) _).alloc (by simp) _) (Nat.le_refl _) | exact Rd.on (hr.cut_all _ (by omega)) (((Below.refl _ _).alloc (Nat.le_refl _) _).alloc (by simp) _) (Nat.le_refl _)) (by unfold maxLen; omega) (by omega) (by simp) rfl rfl rfl rfl ?_)
            intro v3 w3 L3
            obtain ⟨⟨A3, c3, q3, rfl, r3⟩, hb3⟩ := L3.one_at (by simp)
            go_wp2_with fail
            go_ret3
            exact ⟨LongOut.mk H.out r3.gives, ((Below.refl _ _).alloc (Nat.le_refl _) _).trans (hb3.mono (by simp))⟩
end Go.Proofs.YtcpdjhkpmaamdaaGreat.Nu

namespace Go.Proofs.YtcpdjhkpmaamdaaGreat.Nu
open Go.RowKit

theorem own_next {base : Nat} {e : TypeId} {k : IntKind} {W w' : World} {v v' : Value} {n m : Nat} {xs R : List Int} (h : Longer base e W v (n + m) (xs.map (Value.int k) ++ R.map (Value.int k)) v' w') (hn : xs.length = n) (hm : R.length = m) :
    w'.ownsRow base e 1 v' (xs ++ R).length ((xs ++ R).map (Value.int k)) := by
  rw [List.length_append, List.map_append, hn, hm]
  exact h.1
theorem own_below {base size n : Nat} {e : TypeId} {v : Value} {xs : List Value} {w w' : World} (h : w.ownsRow base e size v n xs) (hb : Below w.heap.size w w') : w'.ownsRow base e size v n xs :=
  h.kept (row := none) ⟨hb.os, hb.tape, hb.output, hb.size, fun k hk _ => hb.block k hk⟩ (by
    rcases h.2 with ⟨rfl, _⟩ | ⟨g, cap, cur, rfl, _⟩
    · exact .inl rfl
    · exact .inr (by simp [Value.ownBlock]))

/-- Long's answer, as a whole: a row of the call's own. -/
def LongOwn (w : World) (l : List Int) (e : Ending) (w' : World) : Prop :=
  ∃ v, e = .returned (.tuple #[v, .int .i64 (if allNum l then 0 else 2)]) ∧ w'.ownsRow w.heap.size 5 1 v (if allNum l then longsOf l else []).length ((if allNum l then longsOf l else []).map (Value.int .u8))
theorem LongOwn.no {w : World} {l : List Int} {w' : World} (h : allNum l = false) : LongOwn w l (.returned (.tuple #[.slice none 0 0, .int .i64 2])) w' :=
  ⟨_, by rw [h]; rfl, by rw [h]; exact World.ownsRow_nil _ _ _ _⟩
theorem LongOwn.yes {w : World} {l : List Int} {v : Value} {w' : World} (h : allNum l = true) (hg : w'.ownsRow w.heap.size 5 1 v (longsOf l).length ((longsOf l).map (Value.int .u8))) : LongOwn w l (.returned (.tuple #[v, .int .i64 0])) w' :=
  ⟨_, by rw [h]; rfl, by rw [h]; exact hg⟩

set_option maxRecDepth 100000 in
set_option maxHeartbeats 1000000 in
theorem rlongs_any (A : Option Addr) (n c : Nat) (l : List Int) (w : World) (hr : Rd w w.heap.size .i64 A n l) (hn : n ≤ 1099511627776) :
    Calls Tryz.prog 51 #[.slice A n c] w fun e w' => LongOwn w l e w' ∧ Below w.heap.size w w' := by
  obtain ⟨i0, hi, hz0, hz1, hz2⟩ := info_parts info_byte
  have Hl := Lib.hid hr.1
  go_enter Tryz.func51, Tryz.ntmps51
  go_wp2_with fail
  refine (ris_any A n c l w hr (by omega)).mono ?_
  rintro e w' ⟨rfl, rfl⟩
  cases hall : allNum l
  · have Hall := Lib.hid hall
    clear hall
    go_wp2_with fail
    go_ret2
    exact ⟨LongOwn.no Hall.out, Below.refl _ _⟩
  · have Hall := Lib.hid hall
    clear hall
    go_wp2_with fail
    go_loopw [4, 5] (fun v i wr => ∃ k : Nat, k ≤ n ∧ i = .int .i64 k ∧ wr.ownsRow w.heap.size 5 1 v (longsOf (l.take k)).length ((longsOf (l.take k)).map (Value.int .u8)) ∧ Below w.heap.size w wr) (fun _ i _ => n - (intOf i).toNat)
    case atStart => exact ⟨0, Nat.zero_le _, rfl, World.ownsRow_nil _ _ _ _, Below.refl _ _⟩
    case round =>
      obtain ⟨k, hk, rfl, hrow, hB⟩ := hrel
      have hsz := hB.size
      by_cases hlt : k < n
      · have hx := allNum_at Hall.out (k := k) (by rw [Hl.out]; exact hlt)
        obtain ⟨b, off, rfl, hbl, hc⟩ := (hr.on hB hsz).at_ (by omega)
        have hck := hc k hlt
        clear hc
        have hlen : (longsOf (l.take k)).length ≤ 5 * n := by
          have h2 : (l.take k).length ≤ k := List.length_take_le _ _
          rw [longsOf_length]
          omega
        obtain ⟨q, hq⟩ : ∃ q, (longsOf (l.take k)).length = q := ⟨_, rfl⟩
        rw [hq] at hrow hlen
        have Hq := Lib.hid hq
        clear hq
        have Hs := Lib.hid (take_snoc (l := l) (k := k) (by rw [Hl.out]; exact hlt))
        have e0 : l[k]?.getD 0 / 4294967296 = 0 := by omega
        have He : Hid (longOf (l[k]?.getD 0) = [0, l[k]?.getD 0 / 16777216 % 256, l[k]?.getD 0 / 65536 % 256, l[k]?.getD 0 / 256 % 256, l[k]?.getD 0 % 256]) := by rw [long_eq, e0]; rfl
        go_wp2_with (at_builtin; refine hold ?_)
        refine unhold (wpList_append_rdg (.tmp 20) (.tmp 39) 23 Tryz.underlying23 hi hz0 hz1 hz2 byte_cells (hrow.alloc _) (Rd.made wr .u8 5 [0, l[k]?.getD 0 / 16777216 % 256, l[k]?.getD 0 / 65536 % 256, l[k]?.getD 0 / 256 % 256, l[k]?.getD 0 % 256] rfl) (by unfold maxLen; simp; omega) (by simp; omega) (by simp; omega) rfl rfl rfl rfl ?_)
        intro v' w3 L3
        have hB3 : Below w.heap.size w w3 := L3.below (hB.alloc hsz _) (by simp; omega) (fun g hg => (hrow.lt g hg).1)
        have hrow3 := own_next L3 Hq.out rfl
        rw [← He.out, ← longsOf_snoc, ← Hs.out] at hrow3
        clear L3 e0
        go_wp2_with fail
        go_roundw
        case rel => exact ⟨k + 1, by omega, by go_num, hrow3, hB3⟩
        case measure => simp [intOf]; omega
      · have hkn : l.take k = l := List.take_of_length_le (by rw [Hl.out]; omega)
        rw [hkn] at hrow
        clear hkn
        go_wp2_with fail
        go_ret2
        exact ⟨LongOwn.yes Hall.out hrow, hB⟩
end Go.Proofs.YtcpdjhkpmaamdaaGreat.Nu

