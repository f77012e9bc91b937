/-
  moultref01.Is, Take, TakeLong: their contracts: they answer as num's do.
-/
import Derived.Test.YtbpinikldcakfaaAppend
import Derived.Test.YtbpinikldcakfaaOrder
namespace Go.Proofs.Ytbpinikldcakfaa
open Go.RowKit

theorem Rd.cut_at {w : World} {B n m b off : Nat} {k : IntKind} {l : List Int} (h : Rd w B k (some ⟨b, off, none⟩) n l) (hm : m ≤ n) : Rd w B k (some ⟨b, off + m, none⟩) (n - m) (l.drop m) := by
  refine ⟨by rw [List.length_drop, h.1], fun hn => ?_⟩
  obtain ⟨b', off', e, hb, hcell⟩ := h.2 (by omega)
  injection e with e
  injection e with e1 e2
  subst e1 e2
  refine ⟨b, off + m, rfl, hb, fun i hi => ?_⟩
  rw [Nat.add_assoc, hcell (m + i) (by omega), List.getElem?_drop]

theorem own_empty_at (w : World) (base : Nat) (e : TypeId) (h : base ≤ w.heap.size) {g : Nat} (hg : g = w.heap.size) : (w.alloc (.cells #[] e)).ownsRow base e 1 (.slice (some ⟨g, 0, none⟩) 0 0) 0 [] := by
  subst hg
  exact own_empty w base e h
theorem Longer.one_at {base : Nat} {e : TypeId} {W w1 : World} {v1 : Value} {n1 g : Nat} {R : List Int} {k : IntKind}
    (h1 : Longer base e (W.alloc (.cells #[] e)) (.slice (some ⟨g, 0, none⟩) 0 0) n1 ([] ++ R.map (Value.int k)) v1 w1) (hg : g = W.heap.size) :
    (∃ A c q, v1 = .slice A q c ∧ Row k R q A c w1) ∧ Below W.heap.size W w1 := by
  subst hg
  exact h1.one

set_option maxRecDepth 100000 in
set_option maxHeartbeats 400000 in
theorem ris_any (A : Option Addr) (n c : Nat) (l : List Int) (w : World) (hr : Rd w w.heap.size .i64 A n l) (hn : n ≤ 140737488355328) :
    Calls Try.prog 15 #[.slice A n c] w fun e w' => e = .returned (.bool (allNum l)) ∧ w = w' := by
  have hl : l.length = n := hr.1
  go_enter Try.func15, Try.ntmps15
  go_wp2
  go_loop [3] (fun i => ∃ k : Nat, k ≤ n ∧ i = .int .i64 k ∧ allNum (l.take k) = true) (fun i => n - (intOf i).toNat)
  case atStart => exact ⟨0, Nat.zero_le _, rfl, rfl⟩
  case round =>
    obtain ⟨k, hk, rfl, hall⟩ := hrel
    have Hall := Lib.hid hall
    clear hall
    have Hl := Lib.hid hl
    clear hl
    by_cases hlt : k < n
    · obtain ⟨b, off, rfl, hB, hc⟩ := hr.at_ (by omega)
      have hck := hc k hlt
      clear hc
      by_cases h0 : l[k]?.getD 0 < 0
      · have hd : decide (l[k]?.getD 0 < 0) = true := by simpa using h0
        go_wp2
        go_ret
        exact ⟨ret_bool (by rw [allNum_no (k := k) (by rw [Hl.out]; exact hlt) (by simp [isNum]; omega)]), rfl⟩
      · have hd : decide (l[k]?.getD 0 < 0) = false := by simpa using h0
        by_cases h1 : 1073741824 < l[k]?.getD 0
        · go_wp2
          go_ret
          exact ⟨ret_bool (by rw [allNum_no (k := k) (by rw [Hl.out]; exact hlt) (by simp [isNum]; omega)]), rfl⟩
        · go_wp2
          go_round
          case rel => exact ⟨k + 1, by omega, by go_num, by rw [take_snoc (by rw [Hl.out]; exact hlt), allNum_snoc, Hall.out]; simp [isNum]; omega⟩
          case measure => simp [intOf]; omega
    · have : k = n := by omega
      have hf : allNum l = true := by rw [← Hall.out, List.take_of_length_le (by rw [Hl.out]; omega)]
      have Hf := Lib.hid hf
      clear hf this
      go_wp2
      go_ret
      exact ⟨ret_bool (by rw [Hf.out]), rfl⟩
theorem ris_out (A : Option Addr) (n c : Nat) (l : List Int) (w : World) {x : Bool} (hr : Rd w w.heap.size .i64 A n l) (hn : n ≤ 140737488355328) (hx : allNum l = x) :
    Calls Try.prog 15 #[.slice A n c] w fun e w' => e = .returned (.bool x) ∧ w = w' := by
  have h := ris_any A n c l w hr hn
  rwa [hx] at h
theorem allNum_one_no {n : Int} (h : 1073741824 < n) : allNum [n] = false := by simp [allNum, isNum]; omega

/-- Take's answer, where what stands behind is told in new memory. -/
def TakeNew (l : List Int) (B : Nat) (e : Ending) (w' : World) : Prop :=
  ∃ v, e = .returned (.tuple #[.int .i64 (takeP l).1, v, .int .i64 (takeP l).2.2]) ∧ Gives .u8 (if (takeP l).2.2 = 0 then l.drop (takeP l).2.1 else []) v w' ∧ ∀ g, v.ownBlock = some g → B ≤ g
theorem TakeNew.mk {l : List Int} {x e : Int} {m B : Nat} {R : List Int} {v : Value} {w' : World} (h : takeP l = (x, m, e)) (hR : (if e = 0 then l.drop m else []) = R) (hg : Gives .u8 R v w') (hf : ∀ g, v.ownBlock = some g → B ≤ g) : TakeNew l B (.returned (.tuple #[.int .i64 x, v, .int .i64 e])) w' := by
  refine ⟨v, ?_, ?_, hf⟩
  · rw [h]
  · rw [h, hR]; exact hg
theorem nil_new (B : Nat) : ∀ g, (Value.slice none 0 0).ownBlock = some g → B ≤ g := fun g hg => by cases hg
theorem Row.gives {k : IntKind} {R : List Int} {q : Nat} {A : Option Addr} {c : Nat} {w : World} (h : Row k R q A c w) : Gives k R (.slice A q c) w := by
  have h1 := h.2.1
  subst h1
  exact ⟨A, c, rfl, h.1, h.2⟩

set_option maxRecDepth 100000 in
set_option maxHeartbeats 1000000 in
theorem rtake_any (A : Option Addr) (n c : Nat) (l : List Int) (w : World) (hr : Rd w w.heap.size .u8 A n l) (hb : Byt l) (hnc : n ≤ c) (hn : n ≤ 1099511627776) :
    Calls Try.prog 17 #[.slice A n c] w fun e w' => TakeNew l w.heap.size e w' ∧ Below w.heap.size w w' := by
  have Hl := Lib.hid hr.1
  obtain ⟨i0, hi, hz0, hz1, hz2⟩ := info_parts info_byte
  by_cases hhead : 0 < n ∧ l[0]?.getD 0 = 128
  · obtain ⟨h0, h1⟩ := hhead
    obtain ⟨b, off, rfl, hB, hc⟩ := hr.at_ h0
    have hc0 := hc 0 h0
    simp only [Nat.add_zero] at hc0
    clear hc
    have Hf := Lib.hid (takeP_head (by rw [Hl.out]; exact h0) h1)
    go_enter Try.func17, Try.ntmps17
    go_wp2_with fail
    go_ret3
    exact ⟨TakeNew.mk Hf.out rfl (Gives.nil _ _) (nil_new _), Below.refl _ _⟩
  · have hfirst : AtNext n l 0 0 := AtNext.first Hl.out (by
      by_cases h0 : n = 0
      · exact .inl h0
      · exact .inr fun e => hhead ⟨by omega, e⟩)
    by_cases h00 : 0 < n
    · obtain ⟨b, off, rfl, hB, hc⟩ := hr.at_ h00
      have hc0 := hc 0 h00
      simp only [Nat.add_zero] at hc0
      have h128 : ¬ l[0]?.getD 0 = 128 := fun e => hhead ⟨h00, e⟩
      clear hhead
      have Hfirst := Lib.hid hfirst
      clear hfirst
      go_enter Try.func17, Try.ntmps17
      go_wp2_with fail
      go_loop [5, 6] (fun s i => ∃ (u : Nat) (z : Int), i = .int .i64 u ∧ s = .int .i64 z ∧ AtNext n l u z) (fun _ i => 5 - (intOf i).toNat)
      case atStart => exact ⟨0, 0, rfl, rfl, Hfirst.out⟩
      case round =>
        obtain ⟨u, z, rfl, rfl, hat⟩ := hrel
        have hu5 : u ≤ 5 := hat.2.1
        have hun : u ≤ n := hat.2.2.1
        have hs0 : 0 ≤ z := hat.2.2.2.1
        have hx := hb.at_ u
        by_cases hn2 : u < n
        · have hdn : decide ((u : Int) < (n : Int)) = true := by simp; omega
          by_cases h5 : u < 5
          · have hsb := hat.bound h5
            have hcu := hc u hn2
            by_cases hd : l[u]?.getD 0 < 128
            · by_cases hbig : 1073741824 < z * 128 + l[u]?.getD 0
              · have Hf := Lib.hid (hat.big h5 hn2 hd hbig)
                have Hno := Lib.hid (allNum_one_no hbig)
                clear hat hc
                go_wp2_with fail
                refine (ris_out _ 1 1 [z * 128 + l[u]?.getD 0 % 128] _ (x := false) (Rd.made _ .i64 3 [z * 128 + l[u]?.getD 0 % 128] (by simp)) (by omega) (allNum_one_no (by omega))).mono ?_
                rintro e w' ⟨rfl, rfl⟩
                go_wp2_with fail
                go_ret3
                exact ⟨TakeNew.mk Hf.out rfl (Gives.nil _ _) (nil_new _), (Below.refl _ _).alloc (Nat.le_refl _) _⟩
              · have e1 : l[u]?.getD 0 % 128 = l[u]?.getD 0 := by omega
                have Hf : Hid (takeP l = (z * 128 + l[u]?.getD 0 % 128, u + 1, 0)) := by rw [e1]; exact hat.done h5 hn2 hd (by omega)
                clear e1 hat hc
                have hcut := hr.cut_at (m := u + 1) (by omega)
                go_wp2_with fail
                refine (ris_out _ 1 1 [z * 128 + l[u]?.getD 0 % 128] _ (x := true) (Rd.made _ .i64 3 [z * 128 + l[u]?.getD 0 % 128] (by simp)) (by omega) (allNum_one (by omega) (by omega))).mono ?_
                rintro e w' ⟨rfl, rfl⟩
                go_wp2_with (at_builtin; refine hold ?_)
                all_goals
                  refine unhold (wpList_append_rdg (.tmp 45) (.tmp 49) (R := l.drop (u + 1)) (k := .u8) (B := w.heap.size) 23 Try.underlying23 hi hz0 hz1 hz2 byte_cells (own_empty_at _ _ 5 (Nat.le_refl _) (by simp)) (by first | exact Rd.on hcut (((Below.refl _ _).alloc (Nat.le_refl _) _).alloc (by simp) _) (Nat.le_refl _) | exact Rd.on (hr.cut_all _ (by omega)) (((Below.refl _ _).alloc (Nat.le_refl _) _).alloc (by simp) _) (Nat.le_refl _)) (by unfold maxLen; omega) (by omega) (by simp) rfl rfl rfl rfl ?_)
                  intro v3 w3 L3
                  have hnew : ∀ g, v3.ownBlock = some g → w.heap.size ≤ g := fun g hg => by have := (L3.1.lt g hg).1; simp at this; omega
                  obtain ⟨⟨A3, c3, q3, rfl, r3⟩, hb3⟩ := L3.one_at (by simp)
                  have Hnew := Lib.hid hnew
                  clear hnew L3
                  go_wp2_with fail
                  go_ret3
                  exact ⟨TakeNew.mk Hf.out rfl r3.gives Hnew.out, ((Below.refl _ _).alloc (Nat.le_refl _) _).trans (hb3.mono (by simp))⟩
            · have Hf := Lib.hid (hat.more h5 hn2 (by omega) hx.2)
              clear hat hc
              go_wp2_with fail
              go_round
              case rel => exact ⟨u + 1, _, by go_num, rfl, Hf.out⟩
              case measure => simp [intOf]; omega
          · have Hf := Lib.hid (hat.five (by omega))
            have hd5 : decide ((u : Int) < 5) = false := by simp; omega
            clear hat hc
            go_wp2_with fail
            go_ret3
            exact ⟨TakeNew.mk Hf.out rfl (Gives.nil _ _) (nil_new _), Below.refl _ _⟩
        · have hdn : decide ((u : Int) < (n : Int)) = false := by simp; omega
          by_cases h5 : u < 5
          · have Hf := Lib.hid (hat.short h5 (by omega))
            clear hat hc
            go_wp2_with fail
            go_ret3
            exact ⟨TakeNew.mk Hf.out rfl (Gives.nil _ _) (nil_new _), Below.refl _ _⟩
          · have Hf := Lib.hid (hat.five (by omega))
            clear hat hc
            go_wp2_with fail
            go_ret3
            exact ⟨TakeNew.mk Hf.out rfl (Gives.nil _ _) (nil_new _), Below.refl _ _⟩
    · have hn0 : n = 0 := by omega
      subst hn0
      have Hf := Lib.hid (hfirst.short (by omega) (Nat.le_refl _))
      clear hhead hfirst
      go_enter Try.func17, Try.ntmps17
      go_wp2_with fail
      go_loop [5, 6] (fun s i => i = .int .i64 0 ∧ s = .int .i64 0) (fun _ i => 5 - (intOf i).toNat)
      case atStart => exact ⟨rfl, rfl⟩
      case round =>
        obtain ⟨rfl, rfl⟩ := hrel
        go_wp2_with fail
        go_ret3
        exact ⟨TakeNew.mk Hf.out rfl (Gives.nil _ _) (nil_new _), Below.refl _ _⟩

set_option maxRecDepth 100000 in
set_option maxHeartbeats 1000000 in
theorem rlong_any (A : Option Addr) (n c : Nat) (l : List Int) (w : World) (hr : Rd w w.heap.size .u8 A n l) (hb : Byt l) (hnc : n ≤ c) (hn : n ≤ 1099511627776) :
    Calls Try.prog 19 #[.slice A n c] w fun e w' => LongOut l e w' ∧ Below w.heap.size w w' := by
  by_cases h5 : n < 5
  · have H := Lib.hid (longP_short (l := l) (by rw [hr.1]; exact h5))
    go_enter Try.func19, Try.ntmps19
    go_wp2_with fail
    go_ret3
    exact ⟨LongOut.mk H.out (Gives.nil _ _), Below.refl _ _⟩
  · have Hl := Lib.hid hr.1
    obtain ⟨i0, hi, hz0, hz1, hz2⟩ := info_parts info_byte
    obtain ⟨b, off, rfl, hB, hcell⟩ := hr.at_ (by omega)
    go_enter Try.func19, Try.ntmps19
    go_wp2_with fail
    go_loop [6, 5] (fun i s => ∃ k : Nat, k ≤ 5 ∧ i = .int .i64 k ∧ s = .int .i64 (sumL (l.take k))) (fun i _ => 5 - (intOf i).toNat)
    case atStart => exact ⟨0, by omega, rfl, rfl⟩
    case round =>
      obtain ⟨k, hk, rfl, rfl⟩ := hrel
      by_cases hlt : k < 5
      · have hck := hcell k (by omega)
        have hx := hb.at_ k
        have hs := sumL_small hb hlt (by rw [Hl.out]; omega)
        have Hn := Lib.hid (sumL_next (l := l) (k := k) (by rw [Hl.out]; omega))
        clear hcell
        go_wp2_with fail
        go_round
        case rel => exact ⟨k + 1, by omega, by go_num, by rw [Hn.out]⟩
        case measure => simp [intOf]; omega
      · obtain rfl : k = 5 := by omega
        have hs5 := sumL_bound hb 5 (by rw [Hl.out]; omega)
        have hs0 := hs5.1
        clear hs5
        by_cases hbig : 1073741824 < sumL (l.take 5)
        · have H := Lib.hid (longP_big (l := l) (by rw [Hl.out]; omega) hbig)
          clear hcell
          go_wp2_with fail
          refine (ris_out _ 1 1 [sumL (l.take 5)] _ (x := false) (Rd.made _ .i64 3 [sumL (l.take 5)] (by simp)) (by omega) (allNum_one_no hbig)).mono ?_
          rintro e w' ⟨rfl, rfl⟩
          go_wp2_with fail
          go_ret3
          exact ⟨LongOut.mk H.out (Gives.nil _ _), (Below.refl _ _).alloc (Nat.le_refl _) _⟩
        · have H := Lib.hid (longP_ok (l := l) (by rw [Hl.out]; omega) (by omega))
          have hcut := hr.cut_at (m := 5) (by omega)
          clear hcell
          go_wp2_with fail
          refine (ris_out _ 1 1 [sumL (l.take 5)] _ (x := true) (Rd.made _ .i64 3 [sumL (l.take 5)] (by simp)) (by omega) (allNum_one hs0 (by omega))).mono ?_
          rintro e w' ⟨rfl, rfl⟩
          go_wp2_with (at_builtin; refine hold ?_)
          all_goals
            refine unhold (wpList_append_rdg (.tmp 27) (.tmp 29) (R := l.drop 5) (k := .u8) (B := w.heap.size) 23 Try.underlying23 hi hz0 hz1 hz2 byte_cells (own_empty_at _ _ 5 (Nat.le_refl _) (by simp)) (by first | exact Rd.on hcut (((Below.refl _ _).alloc (Nat.le_refl _) _).alloc (by simp) _) (Nat.le_refl _) | exact Rd.on (hr.cut_all _ (by omega)) (((Below.refl _ _).alloc (Nat.le_refl _) _).alloc (by simp) _) (Nat.le_refl _)) (by unfold maxLen; omega) (by omega) (by simp) rfl rfl rfl rfl ?_)
            intro v3 w3 L3
            obtain ⟨⟨A3, c3, q3, rfl, r3⟩, hb3⟩ := L3.one_at (by simp)
            go_wp2_with fail
            go_ret3
            exact ⟨LongOut.mk H.out r3.gives, ((Below.refl _ _).alloc (Nat.le_refl _) _).trans (hb3.mono (by simp))⟩

end Go.Proofs.Ytbpinikldcakfaa
