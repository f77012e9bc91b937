/-
  NumBack's walk: it returns true, and turns nothing that lay.
-/
import Derived.Test.YtbpinikldcakfaaAppend
import Derived.Test.YtbpinikldcakfaaOrder
namespace Go.Proofs.Ytbpinikldcakfaa
open Go.RowKit

theorem shorts_byt {l : List Int} (h : allNum l = true) : Byt (shortsOf l) := by
  intro x hx
  obtain ⟨y, hy, hxy⟩ := List.mem_flatMap.1 hx
  have h1 := isNum_iff.1 (List.all_eq_true.1 h y hy)
  exact short_byt h1.1 h1.2 x hxy
theorem longs_byt (l : List Int) : Byt (longsOf l) := by
  intro x hx
  obtain ⟨y, hy, hxy⟩ := List.mem_flatMap.1 hx
  exact long_byt y x hxy
theorem longs_drop {l : List Int} {k : Nat} (hk : k < l.length) (b : List Int) : longsOf (l.drop k) ++ b = longOf (l[k]?.getD 0) ++ (longsOf (l.drop (k + 1)) ++ b) := by
  rw [drop_cons hk, ← List.append_assoc]; rfl

set_option maxRecDepth 100000 in
set_option maxHeartbeats 400000 in
theorem back_great (A : Option Addr) (n c : Nat) (A' : Option Addr) (n' c' : Nat) (w : World) (h : 60 < n ∨ 100 < n') :
    Calls Try.prog 4 #[.slice A n c, .slice A' n' c'] w fun e w' => e = .returned (.bool true) ∧ Below w.heap.size w w' := by
  by_cases h1 : 60 < n
  · have hd : decide ((60 : Int) < (n : Int)) = true := by simp; omega
    go_enter Try.func4, Try.ntmps4
    go_wp2_with fail
    refine (wakes_any w).mono ?_
    rintro e w' ⟨rfl, hb⟩
    go_wp2_with fail
    go_ret
    exact ⟨rfl, hb⟩
  · have hd : decide ((60 : Int) < (n : Int)) = false := by simp; omega
    have hd2 : decide ((100 : Int) < (n' : Int)) = true := by simp; omega
    go_enter Try.func4, Try.ntmps4
    go_wp2_with fail
    refine (wakes_any w).mono ?_
    rintro e w' ⟨rfl, hb⟩
    go_wp2_with fail
    go_ret
    exact ⟨rfl, hb⟩

set_option maxRecDepth 100000 in
set_option maxHeartbeats 2000000 in
theorem back_in (A : Option Addr) (n c : Nat) (l : List Int) (A' : Option Addr) (n' c' : Nat) (b : List Int) (w : World) (hr : Rd w w.heap.size .i64 A n l) (hr' : Rd w w.heap.size .u8 A' n' b) (hb : Byt b) (hnc : n ≤ c) (hn : n ≤ 60) (hn' : n' ≤ 100) :
    Calls Try.prog 4 #[.slice A n c, .slice A' n' c'] w fun e w' => e = .returned (.bool true) ∧ Below w.heap.size w w' := by
  have hd : decide ((60 : Int) < (n : Int)) = false := by simp; omega
  have hd2 : decide ((100 : Int) < (n' : Int)) = false := by simp; omega
  have Hl := Lib.hid hr.1
  obtain ⟨i0, hi, hz0, hz1, hz2⟩ := info_parts info_byte
  go_enter Try.func4, Try.ntmps4
  go_wp2_with fail
  go_loop [5, 6] (fun f i => ∃ (k : Nat) (x : Bool), k ≤ n ∧ f = .bool x ∧ i = .int .i64 k ∧ allNum (l.take k) = x) (fun _ i => n - (intOf i).toNat)
  case atStart => exact ⟨0, true, Nat.zero_le _, rfl, rfl, rfl⟩
  case round =>
    obtain ⟨k, x, hk, rfl, rfl, hx⟩ := hrel
    have Hx := Lib.hid hx
    clear hx
    by_cases hlt : k < n
    · obtain ⟨bl, off, rfl, hB, hc⟩ := hr.at_ (by omega)
      have hck := hc k hlt
      clear hc
      have Hs := Lib.hid (take_snoc (l := l) (k := k) (by rw [Hl.out]; exact hlt))
      cases x
      · go_wp2_with fail
        go_round
        case rel => exact ⟨k + 1, false, by omega, rfl, by go_num, by rw [Hs.out, allNum_snoc, Hx.out]; rfl⟩
        case measure => simp [intOf]; omega
      · by_cases h0 : l[k]?.getD 0 < 0
        · have hd0 : decide (0 ≤ l[k]?.getD 0) = false := by simp; omega
          go_wp2_with fail
          go_round
          case rel => exact ⟨k + 1, false, by omega, rfl, by go_num, by rw [Hs.out, allNum_snoc, Hx.out]; simp [isNum]; omega⟩
          case measure => simp [intOf]; omega
        · have hd0 : decide (0 ≤ l[k]?.getD 0) = true := by simp; omega
          by_cases h1 : 1073741824 < l[k]?.getD 0
          · have hd1 : decide (l[k]?.getD 0 ≤ 1073741824) = false := by simp; omega
            go_wp2_with fail
            go_round
            case rel => exact ⟨k + 1, false, by omega, rfl, by go_num, by rw [Hs.out, allNum_snoc, Hx.out]; simp [isNum]; omega⟩
            case measure => simp [intOf]; omega
          · have hd1 : decide (l[k]?.getD 0 ≤ 1073741824) = true := by simp; omega
            go_wp2_with fail
            go_round
            case rel => exact ⟨k + 1, true, by omega, rfl, by go_num, by rw [Hs.out, allNum_snoc, Hx.out]; simp [isNum]; omega⟩
            case measure => simp [intOf]; omega
    · obtain rfl : k = n := by omega
      have hall : allNum l = x := by rw [← Hx.out, List.take_of_length_le (by rw [Hl.out]; exact Nat.le_refl _)]
      have Hall := Lib.hid hall
      clear hall
      cases x
      · go_wp2_with fail
        refine (short_no A k c l w hr (by omega) Hall.out).mono ?_
        rintro e w1 ⟨A1, c1, rfl, r1, hB⟩
        have hsz := hB.size
        go_wp2_with fail
        refine (long_no A k c l w1 (hr.on hB hsz) (by omega) Hall.out).mono ?_
        rintro e w2 ⟨A2, c2, rfl, r2, hb2⟩
        replace hB : Below w.heap.size w w2 := hB.trans (hb2.mono hsz)
        clear hb2 hsz
        have hsz := hB.size
        go_wp2_with fail
        refine (is_out A k c l w2 (hr.on hB hsz) (by omega) Hall.out).mono ?_
        rintro e w' ⟨rfl, rfl⟩
        go_wp2_with fail
        refine (wakes_any _).mono ?_
        rintro e w' ⟨rfl, hbw⟩
        go_wp2_with fail
        go_ret
        exact ⟨rfl, hB.trans (hbw.mono hB.size)⟩
      · have Hts := Lib.hid (takesP_short Hall.out b)
        rw [Hl.out] at Hts
        have hsq := shortsOf_length Hall.out
        have hlq := longsOf_length l
        rw [Hl.out] at hsq hlq
        have Hlq := Lib.hid hlq
        clear hlq
        obtain ⟨q, hq⟩ : ∃ q, (shortsOf l).length = q := ⟨_, rfl⟩
        have Hq := Lib.hid hq
        rw [hq] at hsq
        clear hq
        go_wp2_with fail
        refine (short_yes A k c l w hr (by omega) Hall.out rfl Hq.out).mono ?_
        rintro e w1 ⟨A1, c1, rfl, r1, hB⟩
        have hsz := hB.size
        go_wp2_with fail
        refine (long_yes A k c l w1 (hr.on hB hsz) (by omega) Hall.out rfl (q := 5 * k) Hlq.out).mono ?_
        rintro e w2 ⟨A2, c2, rfl, r2, hb2⟩
        replace r1 := r1.on hb2
        replace hB : Below w.heap.size w w2 := hB.trans (hb2.mono hsz)
        clear hb2 hsz
        have hsz := hB.size
        go_wp2_with (at_builtin; refine hold ?_)
        refine unhold (wpList_append_rdg (.tmp 86) (.tmp 87) 23 Try.underlying23 hi hz0 hz1 hz2 byte_cells (own_empty w2 w2.heap.size 5 (Nat.le_refl _)) (r1.alloc _).rd (by unfold maxLen; omega) (by omega) (by simp) rfl rfl rfl rfl ?_)
        intro v1 w3 L1
        go_wp2_with (at_builtin; refine hold ?_)
        refine unhold (wpList_append_rdg (.tmp 88) (.tmp 89) 23 Try.underlying23 hi hz0 hz1 hz2 byte_cells L1.1 ((hr'.on hB hsz).on L1.one.2 L1.one.2.size) (by unfold maxLen; omega) (by omega) (by have := L1.2.1.size; simp at this; omega) rfl rfl rfl rfl ?_)
        intro v2 w4 L2
        obtain ⟨⟨A3, c3, q3, rfl, r3⟩, hb3⟩ := L1.two L2
        replace hB : Below w.heap.size w w4 := hB.trans (hb3.mono hsz)
        replace r2 := r2.on hb3
        clear hb3 hsz L1 L2
        have hsz := hB.size
        have hq3 := r3.rd.1
        rw [List.length_append, Hq.out, hr'.1] at hq3
        have hq3' : q3 ≤ 400 := by omega
        clear hq3
        go_wp2_with fail
        refine (takes_out A3 q3 c3 _ w4 (many := (k : Int)) (e := 0) (R := l) (S := b) (q := k) (p := n') r3.rd (Byt.append (shorts_byt Hall.out) hb) r3.1 (by omega) Hts.out Hl.out hr'.1).mono ?_
        rintro e w5 ⟨A5, c5, A6, c6, rfl, r5, r6, hb5⟩
        replace hB : Below w.heap.size w w5 := hB.trans (hb5.mono hsz)
        replace r2 := r2.on hb5
        clear hb5 hsz r3
        have hsz := hB.size
        go_wp2_with fail
        refine (ints_yes _ _ _ _ _ _ l _ r5.rd (hr.on hB hsz) (by omega) (by omega)).mono ?_
        rintro e w6 ⟨rfl, hb6⟩
        replace hB : Below w.heap.size w w6 := hB.trans (hb6.mono hsz)
        replace r2 := r2.on hb6
        replace r6 := r6.on hb6
        clear hb6 hsz r5
        have hsz := hB.size
        go_wp2_with fail
        refine (same_yes _ _ _ _ _ _ b _ r6.rd (hr'.on hB hsz) hb).mono ?_
        rintro e w' ⟨rfl, rfl⟩
        clear r6
        have hd5 : (((5 * k : Nat) : Int) != 5 * (k : Int)) = false := by simp
        go_wp2_with (at_builtin; refine hold ?_)
        refine unhold (wpList_append_rdg (.tmp 127) (.tmp 128) 23 Try.underlying23 hi hz0 hz1 hz2 byte_cells (own_empty w6 w6.heap.size 5 (Nat.le_refl _)) (r2.alloc _).rd (by unfold maxLen; omega) (by omega) (by simp) rfl rfl rfl rfl ?_)
        intro v3 w7 L3
        go_wp2_with (at_builtin; refine hold ?_)
        refine unhold (wpList_append_rdg (.tmp 129) (.tmp 130) 23 Try.underlying23 hi hz0 hz1 hz2 byte_cells L3.1 ((hr'.on hB hsz).on L3.one.2 L3.one.2.size) (by unfold maxLen; omega) (by omega) (by have := L3.2.1.size; simp at this; omega) rfl rfl rfl rfl ?_)
        intro v4 w8 L4
        obtain ⟨⟨A8, c8, q8, rfl, r8⟩, hb8⟩ := L3.two L4
        replace hB : Below w.heap.size w w8 := hB.trans (hb8.mono hsz)
        clear hb8 hsz L3 L4 r2
        go_wp2_with fail
        go_loopw [14, 15] (fun v i wr => ∃ (j q : Nat) (A9 : Option Addr) (c9 : Nat), j ≤ k ∧ i = .int .i64 j ∧ v = .slice A9 q c9 ∧ Row .u8 (longsOf (l.drop j) ++ b) q A9 c9 wr ∧ Below w.heap.size w wr) (fun _ i _ => k - (intOf i).toNat)
        case atStart => exact ⟨0, q8, A8, c8, Nat.zero_le _, rfl, rfl, r8, hB⟩
        case round =>
          obtain ⟨j, q9, A9, c9, hj, rfl, rfl, r9, hBr⟩ := hrel
          have hsz := hBr.size
          by_cases hlt : j < k
          · have hx := allNum_at Hall.out (k := j) (by rw [Hl.out]; exact hlt)
            have hld := longs_drop (l := l) (k := j) (by rw [Hl.out]; exact hlt) b
            have hlen : q9 ≤ 400 := by
              have h1 := r9.rd.1
              rw [List.length_append, longsOf_length, List.length_drop, Hl.out, hr'.1] at h1
              omega
            rw [hld] at r9
            have Hlp := Lib.hid (longP_long hx.1 hx.2 (longsOf (l.drop (j + 1)) ++ b))
            clear hld
            obtain ⟨p, hp⟩ : ∃ p, (longsOf (l.drop (j + 1)) ++ b).length = p := ⟨_, rfl⟩
            have Hp := Lib.hid hp
            clear hp
            have hbyt : Byt (longOf (l[j]?.getD 0) ++ (longsOf (l.drop (j + 1)) ++ b)) := Byt.append (long_byt _) (Byt.append (longs_byt _) hb)
            obtain ⟨bl, off, rfl, hbl, hc⟩ := hr.at_ (by omega)
            have hcj := hc j hlt
            clear hc
            go_wp2_with fail
            refine (long_out A9 q9 c9 _ wr r9.rd hbyt r9.1 (by omega) Hlp.out Hp.out).mono ?_
            rintro e w9 ⟨A10, c10, rfl, r10, hb10⟩
            have hB9 : Below w.heap.size w w9 := hBr.trans (hb10.mono hsz)
            have hcj9 := (hB9.cell (p := ⟨bl, off + j, none⟩) hbl).trans hcj
            have hne : (l[j]?.getD 0 != l[j]?.getD 0) = false := by simp
            clear hcj hb10 hbyt
            go_wp2_with fail
            go_roundw
            case rel => exact ⟨j + 1, p, A10, c10, by omega, by go_num, rfl, r10, hB9⟩
            case measure => simp [intOf]; omega
          · have hjk : l.drop j = [] := List.drop_of_length_le (by rw [Hl.out]; omega)
            rw [hjk] at r9
            have hbb : longsOf [] ++ b = b := rfl
            rw [hbb] at r9
            clear hjk hbb
            go_wp2_with fail
            refine (same_yes _ _ _ _ _ _ b _ r9.rd (hr'.on hBr hsz) hb).mono ?_
            rintro e w' ⟨rfl, rfl⟩
            go_wp2_with fail
            refine (wakes_any _).mono ?_
            rintro e w' ⟨rfl, hbw⟩
            go_wp2_with fail
            go_ret
            exact ⟨rfl, hBr.trans (hbw.mono hsz)⟩

theorem back_any (A : Option Addr) (n c : Nat) (l : List Int) (A' : Option Addr) (n' c' : Nat) (b : List Int) (w : World) (hr : Rd w w.heap.size .i64 A n l) (hr' : Rd w w.heap.size .u8 A' n' b) (hb : Byt b) (hnc : n ≤ c) :
    Calls Try.prog 4 #[.slice A n c, .slice A' n' c'] w fun e w' => e = .returned (.bool true) ∧ Below w.heap.size w w' := by
  by_cases h : 60 < n ∨ 100 < n'
  · exact back_great A n c A' n' c' w h
  · exact back_in A n c l A' n' c' b w hr hr' hb hnc (by omega) (by omega)

end Go.Proofs.Ytbpinikldcakfaa
