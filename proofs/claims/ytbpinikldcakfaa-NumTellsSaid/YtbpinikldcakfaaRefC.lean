/-
  moultref01.Short: its contract: it answers as num's does.
-/
import Derived.Test.YtbpinikldcakfaaRefB
import Derived.Laws.OwnMore
namespace Go.Proofs.Ytbpinikldcakfaa
open Go.RowKit

/-- The digits of which j have been put. -/
def tailOf (x : Int) (j : Nat) : List Int := (shortOf x).drop (cnt x - j)
theorem tail_one {x : Int} (h0 : 0 ≤ x) (h1 : x ≤ 1073741824) : tailOf x 1 = [x % 128] := by
  unfold tailOf
  rcases five h0 h1 with h | ⟨h, h'⟩ | ⟨h, h'⟩ | ⟨h, h'⟩ | ⟨h, h'⟩
  · rw [short_1 h0 h, cnt_1 h]; simp; omega
  · rw [short_2 h h', cnt_2 h h']; rfl
  · rw [short_3 h h', cnt_3 h h']; rfl
  · rw [short_4 h h', cnt_4 h h']; rfl
  · rw [short_5 h h', cnt_5 h h']; rfl
/-- What is left of x when j digits have been put. -/
def leftOf (x : Int) (j : Nat) : Int := x / 128 ^ j
theorem left_next (x : Int) (j : Nat) : leftOf x (j + 1) = leftOf x j / 128 := by
  unfold leftOf
  rw [Int.pow_succ, Int.ediv_ediv_of_nonneg (Int.pow_nonneg (by decide))]
theorem tail_next {x : Int} (h0 : 0 ≤ x) (h1 : x ≤ 1073741824) {j : Nat} (hj : 1 ≤ j) (hc : j ≤ cnt x) (hy : 0 < leftOf x j) : (leftOf x j % 128 + 128) :: tailOf x j = tailOf x (j + 1) ∧ j + 1 ≤ cnt x := by
  unfold tailOf
  unfold leftOf at hy ⊢
  rcases five h0 h1 with h | ⟨h, h'⟩ | ⟨h, h'⟩ | ⟨h, h'⟩ | ⟨h, h'⟩
  · rw [cnt_1 h] at hc
    obtain rfl : j = 1 := by omega
    omega
  · rw [cnt_2 h h'] at hc
    rcases (by omega : j = 1 ∨ j = 2) with rfl | rfl
    · rw [short_2 h h', cnt_2 h h']; refine ⟨?_, by omega⟩; simp; omega
    · omega
  · rw [cnt_3 h h'] at hc
    rcases (by omega : j = 1 ∨ j = 2 ∨ j = 3) with rfl | rfl | rfl
    · rw [short_3 h h', cnt_3 h h']; refine ⟨?_, by omega⟩; simp
    · rw [short_3 h h', cnt_3 h h']; refine ⟨?_, by omega⟩; simp; omega
    · omega
  · rw [cnt_4 h h'] at hc
    rcases (by omega : j = 1 ∨ j = 2 ∨ j = 3 ∨ j = 4) with rfl | rfl | rfl | rfl
    · rw [short_4 h h', cnt_4 h h']; refine ⟨?_, by omega⟩; simp
    · rw [short_4 h h', cnt_4 h h']; refine ⟨?_, by omega⟩; simp
    · rw [short_4 h h', cnt_4 h h']; refine ⟨?_, by omega⟩; simp; omega
    · omega
  · rw [cnt_5 h h'] at hc
    rcases (by omega : j = 1 ∨ j = 2 ∨ j = 3 ∨ j = 4 ∨ j = 5) with rfl | rfl | rfl | rfl | rfl
    · rw [short_5 h h', cnt_5 h h']; refine ⟨?_, by omega⟩; simp
    · rw [short_5 h h', cnt_5 h h']; refine ⟨?_, by omega⟩; simp
    · rw [short_5 h h', cnt_5 h h']; refine ⟨?_, by omega⟩; simp
    · rw [short_5 h h', cnt_5 h h']; refine ⟨?_, by omega⟩; simp; omega
    · omega
theorem tail_end {x : Int} (h0 : 0 ≤ x) (h1 : x ≤ 1073741824) {j : Nat} (hj : 1 ≤ j) (hc : j ≤ cnt x) (hy : leftOf x j ≤ 0) : tailOf x j = shortOf x := by
  unfold tailOf
  unfold leftOf at hy
  have : j = cnt x := by
    rcases five h0 h1 with h | ⟨h, h'⟩ | ⟨h, h'⟩ | ⟨h, h'⟩ | ⟨h, h'⟩
    · rw [cnt_1 h] at hc ⊢; omega
    · rw [cnt_2 h h'] at hc ⊢
      rcases (by omega : j = 1 ∨ j = 2) with rfl | rfl <;> omega
    · rw [cnt_3 h h'] at hc ⊢
      rcases (by omega : j = 1 ∨ j = 2 ∨ j = 3) with rfl | rfl | rfl <;> omega
    · rw [cnt_4 h h'] at hc ⊢
      rcases (by omega : j = 1 ∨ j = 2 ∨ j = 3 ∨ j = 4) with rfl | rfl | rfl | rfl <;> omega
    · rw [cnt_5 h h'] at hc ⊢
      rcases (by omega : j = 1 ∨ j = 2 ∨ j = 3 ∨ j = 4 ∨ j = 5) with rfl | rfl | rfl | rfl | rfl <;> omega
  rw [this, Nat.sub_self]; rfl
theorem tail_len {x : Int} {j : Nat} (hc : j ≤ cnt x) : (tailOf x j).length = j := by
  unfold tailOf
  rw [List.length_drop, shortOf_length]
  omega

set_option maxRecDepth 100000 in
set_option maxHeartbeats 1000000 in
theorem rshorts_any (A : Option Addr) (n c : Nat) (l : List Int) (w : World) (hr : Rd w w.heap.size .i64 A n l) (hn : n ≤ 1099511627776) :
    Calls Try.prog 10 #[.slice A n c] w fun e w' => ShortOut l e w' ∧ Below w.heap.size w w' := by
  obtain ⟨i0, hi, hz0, hz1, hz2⟩ := info_parts info_byte
  have Hl := Lib.hid hr.1
  go_enter Try.func10, Try.ntmps10
  go_wp2_with fail
  refine (ris_any A n c l w hr (by omega)).mono ?_
  rintro e w' ⟨rfl, rfl⟩
  cases hall : allNum l
  · have Hall := Lib.hid hall
    clear hall
    go_wp2_with fail
    go_ret2
    exact ⟨ShortOut.no Hall.out, Below.refl _ _⟩
  · have Hall := Lib.hid hall
    clear hall
    go_wp2_with fail
    go_loopw [4, 5] (fun v i wr => ∃ k : Nat, k ≤ n ∧ i = .int .i64 k ∧ wr.ownsRow w.heap.size 5 1 v (shortsOf (l.take k)).length ((shortsOf (l.take k)).map (Value.int .u8)) ∧ Below w.heap.size w wr) (fun _ i _ => n - (intOf i).toNat)
    case atStart => exact ⟨0, Nat.zero_le _, rfl, World.ownsRow_nil _ _ _ _, Below.refl _ _⟩
    case round =>
      obtain ⟨k, hk, rfl, hrow, hB⟩ := hrel
      have hsz := hB.size
      by_cases hlt : k < n
      · have hx := allNum_at Hall.out (k := k) (by rw [Hl.out]; exact hlt)
        obtain ⟨b, off, rfl, hbl, hc⟩ := (hr.on hB hsz).at_ (by omega)
        have hck := hc k hlt
        clear hc
        have hlen : (shortsOf (l.take k)).length ≤ 5 * n := by
          have h1 := shortsOf_length (allNum_take Hall.out k)
          have h2 : (l.take k).length ≤ k := List.length_take_le _ _
          omega
        obtain ⟨q, hq⟩ : ∃ q, (shortsOf (l.take k)).length = q := ⟨_, rfl⟩
        rw [hq] at hrow hlen
        have Hq := Lib.hid hq
        clear hq
        have Hs := Lib.hid (take_snoc (l := l) (k := k) (by rw [Hl.out]; exact hlt))
        have hcnt := cnt_bd hx.1 hx.2
        have Ht1 := Lib.hid (tail_one hx.1 hx.2)
        have Hl1 : Hid (leftOf (l[k]?.getD 0) 1 = l[k]?.getD 0 / 128) := by
          show leftOf _ 1 = _
          unfold leftOf
          rw [Int.pow_one]
        obtain ⟨wo, hwo⟩ : ∃ wo : World, wo = wr := ⟨_, rfl⟩
        subst hwo
        go_wp2_with fail
        go_loopw [6, 7] (fun d y wi => ∃ (j q9 : Nat) (A9 : Option Addr) (c9 : Nat) (z : Int), 1 ≤ j ∧ j ≤ cnt (l[k]?.getD 0) ∧ y = .int .i64 z ∧ Hid (leftOf (l[k]?.getD 0) j = z) ∧ 0 ≤ z ∧ z ≤ 1073741824 ∧ d = .slice A9 q9 c9 ∧ Row .u8 (tailOf (l[k]?.getD 0) j) q9 A9 c9 wi ∧ Below wo.heap.size wo wi) (fun _ y _ => (intOf y).toNat)
        case atStart =>
          refine ⟨1, 1, some ⟨wo.heap.size, 0, none⟩, 1, l[k]?.getD 0 / 128, Nat.le_refl _, hcnt.1, rfl, Hl1, by omega, by omega, rfl, ?_, (Below.refl _ _).alloc (Nat.le_refl _) _⟩
          rw [Ht1.out]
          exact ⟨Nat.le_refl _, Rd.made wo .u8 5 [l[k]?.getD 0 % 128] rfl⟩
        case round =>
          obtain ⟨j, q9, A9, c9, z, hj1, hj2, rfl, Hz, hz3, hz4, rfl, r9, hBi⟩ := hrel
          have hszi := hBi.size
          have hq9 : q9 ≤ 5 := by
            have h1 := r9.rd.1
            rw [tail_len hj2] at h1
            omega
          by_cases hpos : 0 < z
          · have hnx := tail_next hx.1 hx.2 hj1 hj2 (by rw [Hz.out]; exact hpos)
            rw [Hz.out] at hnx
            have Hnx := Lib.hid hnx.1
            have hj3 := hnx.2
            clear hnx
            have Hz2 : Hid (leftOf (l[k]?.getD 0) (j + 1) = z / 128) := by
              show leftOf _ _ = _
              rw [left_next, Hz.out]
            go_wp2_with (at_builtin; refine hold ?_)
            refine unhold (wpList_append_rdg (.tmp 37) (.tmp 38) 23 Try.underlying23 hi hz0 hz1 hz2 byte_cells
              (show (wr.alloc (.cells #[.int .u8 (z % 128 + 128)] 5)).ownsRow wr.heap.size 5 1 (.slice (some ⟨wr.heap.size, 0, none⟩) 1 1) 1 ([z % 128 + 128].map (Value.int .u8)) from World.ownsRow_lit wr _ 1 (Nat.le_refl _) (by unfold maxLen; omega) rfl)
              (r9.alloc _).rd (by unfold maxLen; omega) (by omega) (by simp) rfl rfl rfl rfl ?_)
            intro v5 w5 L5
            have hB5 : Below wo.heap.size wo w5 := L5.below (hBi.alloc hszi _) (by simp; omega) (fun g hg => by simp [Value.ownBlock] at hg; omega)
            have hrow5 := own_next L5 rfl r9.rd.1
            rw [List.singleton_append, Hnx.out] at hrow5
            obtain ⟨A5, c5, rfl, hc5, hr5⟩ := own_rd hrow5
            obtain ⟨q5, hq5⟩ : ∃ q5, (tailOf (l[k]?.getD 0) (j + 1)).length = q5 := ⟨_, rfl⟩
            rw [hq5] at hc5 hr5
            rw [hq5]
            have r5 : Row .u8 (tailOf (l[k]?.getD 0) (j + 1)) q5 A5 c5 w5 := ⟨hc5, hr5⟩
            clear L5 hrow5 hc5 hr5 hq5
            go_wp2_with fail
            go_roundw
            case rel => exact ⟨j + 1, q5, A5, c5, z / 128, by omega, hj3, rfl, Hz2, by omega, by omega, rfl, r5, hB5⟩
            case measure => simp [intOf]; omega
          · have Hend := Lib.hid (tail_end hx.1 hx.2 hj1 hj2 (by rw [Hz.out]; omega))
            rw [Hend.out] at r9
            have hrowi := own_below hrow hBi
            have hBw : Below w.heap.size w wr := hB.trans (hBi.mono hsz)
            go_wp2_with (at_builtin; refine hold ?_)
            refine unhold (wpList_append_rdg (.tmp 40) (.tmp 41) 23 Try.underlying23 hi hz0 hz1 hz2 byte_cells hrowi r9.rd (by unfold maxLen; omega) (by omega) (by have := hBw.size; omega) rfl rfl rfl rfl ?_)
            intro v6 w6 L6
            have hB6 : Below w.heap.size w w6 := L6.below hBw hBw.size (fun g hg => (hrowi.lt g hg).1)
            have hrow6 := own_next L6 Hq.out r9.rd.1
            rw [← shortsOf_snoc, ← Hs.out] at hrow6
            clear L6 hrowi r9
            go_wp2_with fail
            go_roundw
            case rel => exact ⟨k + 1, by omega, by go_num, hrow6, hB6⟩
            case measure => simp [intOf]; omega
      · have hkn : l.take k = l := List.take_of_length_le (by rw [Hl.out]; omega)
        rw [hkn] at hrow
        clear hkn
        go_wp2_with fail
        go_ret2
        exact ⟨ShortOut.yes Hall.out (Gives.own hrow), hB⟩

end Go.Proofs.Ytbpinikldcakfaa
