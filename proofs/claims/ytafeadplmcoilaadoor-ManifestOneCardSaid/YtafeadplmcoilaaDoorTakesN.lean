/-
  num.Takes: its contract, with what is made for the call; what is taken is put as the bytes that were there.
-/
import Derived.Test.YtafeadplmcoilaaDoorNumT
import Derived.Test.YtafeadplmcoilaaDoorNumU
namespace Go.Proofs.YtafeadplmcoilaaDoor.Nu
open Go.RowKit
set_option linter.unusedVariables false

/-- Takes's answer: the numbers lie in a row of the call's own. -/
def ManyOutN (l : List Int) (many : Int) (w : World) (e : Ending) (w' : World) : Prop :=
  ∃ v v', e = .returned (.tuple #[v, v', .int .i64 (takesP l many).2.2]) ∧ w'.ownsRow w.heap.size 3 1 v (takesP l many).1.length ((takesP l many).1.map (Value.int .i64)) ∧ Gives .u8 (takesP l many).2.1 v' w'
theorem ManyOutN.mk {l : List Int} {many : Int} {e : Int} {a r : List Int} {v v' : Value} {w w' : World} (h : takesP l many = (a, r, e)) (hg : w'.ownsRow w.heap.size 3 1 v a.length (a.map (Value.int .i64))) (hg' : Gives .u8 r v' w') : ManyOutN l many w (.returned (.tuple #[v, v', .int .i64 e])) w' := by
  refine ⟨v, v', ?_, ?_, ?_⟩
  · rw [h]
  · rw [h]; exact hg
  · rw [h]; exact hg'
theorem own_onN {w w' : World} {base : Nat} {e : TypeId} {size : Nat} {v : Value} {n : Nat} {xs : List Value} (h : w.ownsRow base e size v n xs) (hb : Below w.heap.size w w') : w'.ownsRow base e size v n xs := by
  refine ⟨h.1, ?_⟩
  rcases h.2 with a | ⟨g, cap, cur, e1, hbg, hh, r⟩
  · exact .inl a
  · exact .inr ⟨g, cap, cur, e1, hbg, (hb.block g (Array.getElem?_eq_some_iff.1 hh).1).trans hh, r⟩

set_option maxRecDepth 100000 in
set_option maxHeartbeats 1000000 in
theorem takesN_any (A : Option Addr) (n c : Nat) (l : List Int) (many : Int) (w : World) (hr : Rd w w.heap.size .u8 A n l) (hb : Byt l) (hnc : n ≤ c) (hn : n ≤ 1099511627776) :
    Calls Tryd.prog 59 #[.slice A n c, .int .i64 many] w fun e w' => ManyOutN l many w e w' ∧ Below w.heap.size w w' := by
  obtain ⟨i0, hi, hz0, hz1, hz2⟩ := info_parts info_int
  have Hl := Lib.hid hr.1
  go_enter Tryd.func59, Tryd.ntmps59
  go_wp2_with fail
  refine scope_once 0 (fun a' w' => ∃ (p : Nat) (acc : List Int) (v u8 u9 u10 u11 u12 u13 u14 u15 u16 u17 u18 u19 u20 u21 u22 u23 u24 u25 u26 u27 u28 u29 u30 u31 u32 u33 u34 u35 u36 : Value), AtMany l many p acc ∧ Held w v acc w' ∧
    a' = { tmps := #[.slice A n c, .int .i64 many, undef, undef, v, .slice none 0 0, .int .i64 0, .int .i64 p, u8, u9, u10, u11, u12, u13, u14, u15, u16, u17, u18, u19, u20, u21, u22, u23, u24, u25, u26, u27, u28, u29, u30, u31, u32, u33, u34, u35, u36], defers := [] })
    (fun a' _ => n - (intOf (a'.tmps.getD 7 undef)).toNat) rfl ?_ ?_
  · intro hrest
    go_wp2_with fail
    go_step3
    rename_i hK
    exact hK _ _ (hrest _ _ ⟨0, [], _, _, _, _, _, _, _, _, _, _, _, _, _, _, _, _, _, _, _, _, _, _, _, _, _, _, _, _, _, _, AtMany.first l many, ⟨World.ownsRow_nil _ _ _ _, Below.refl _ _⟩, rfl⟩)
  · rintro a' wr ⟨p, acc, v, u8, u9, u10, u11, u12, u13, u14, u15, u16, u17, u18, u19, u20, u21, u22, u23, u24, u25, u26, u27, u28, u29, u30, u31, u32, u33, u34, u35, u36, hat, ⟨hown, hbel⟩, rfl⟩
    obtain ⟨B, d, rfl, hBd, hrd⟩ := own_rd hown
    have hp : p ≤ n := by have := hat.1; rw [Hl.out] at this; exact this
    have hacc : acc.length ≤ p := hat.2.1
    have hrw : Rd wr wr.heap.size .u8 A n l := hr.on hbel hbel.size
    clear hrd
    by_cases hm : many ≤ acc.length
    · have H := Lib.hid (hat.full hm)
      by_cases hcm : c = p
      · have Hd := Lib.hid (List.drop_of_length_le (i := p) (l := l) (by rw [Hl.out]; omega))
        subst hcm
        go_wp2_with fail
        refine (clone_any _ _ _ [] _ Rd.nil (by omega)).mono ?_
        rintro e w' ⟨v', rfl, hg, hb2⟩
        go_wp2_with fail
        simp only [Exit.jump]
        go_ret3
        exact ⟨ManyOutN.mk H.out (own_onN hown hb2) (by rw [Hd.out]; exact hg), hbel.trans (hb2.mono hbel.size)⟩
      · have hcut := hrw.cut_off hp hnc hcm
        go_wp2_with fail
        refine (clone_any _ _ _ _ _ hcut (by omega)).mono ?_
        rintro e w' ⟨v', rfl, hg, hb2⟩
        go_wp2_with fail
        simp only [Exit.jump]
        go_ret3
        exact ⟨ManyOutN.mk H.out (own_onN hown hb2) hg, hbel.trans (hb2.mono hbel.size)⟩
    · by_cases hcm : c = p
      · have Hd := Lib.hid (List.drop_of_length_le (i := p) (l := l) (by rw [Hl.out]; omega))
        have H := Lib.hid (hat.err (by omega) (e := 10) (by rw [Hd.out]; rfl) (by omega))
        subst hcm
        go_wp2_with fail
        refine (take_any _ _ _ [] _ Rd.nil (fun _ h => by cases h) (by omega)).mono ?_
        rintro e w' ⟨rfl, rfl⟩
        go_wp2_with fail
        simp only [Exit.jump]
        go_ret3
        exact ⟨ManyOutN.mk H.out (World.ownsRow_nil _ _ _ _) (Gives.nil _ _), hbel⟩
      · have hcut := hrw.cut_off hp hnc hcm
        go_wp2_with fail
        refine (take_any _ _ _ _ _ hcut (hb.drop p) (by omega)).mono ?_
        rintro e w' ⟨rfl, rfl⟩
        rcases takeP_fine (hb.drop p) with (h | h) | ⟨x, m, h, h1, h2, h3, h4, h5⟩
        · have H := Lib.hid (hat.err (by omega) h (by omega))
          rw [h]
          clear h
          go_wp2_with fail
          simp only [Exit.jump]
          go_ret3
          exact ⟨ManyOutN.mk H.out (World.ownsRow_nil _ _ _ _) (Gives.nil _ _), hbel⟩
        · have H := Lib.hid (hat.err (by omega) h (by omega))
          rw [h]
          clear h
          go_wp2_with fail
          simp only [Exit.jump]
          go_ret3
          exact ⟨ManyOutN.mk H.out (World.ownsRow_nil _ _ _ _) (Gives.nil _ _), hbel⟩
        · rw [List.length_drop, Hl.out] at h5
          have H := Lib.hid (hat.next (by omega) h h3 (by rw [Hl.out]; exact h5))
          rw [h]
          clear h
          have hsz := hbel.size
          go_wp2_with (at_builtin; refine wpList_append_own _ rfl _ _ 59 rfl w.heap.size 3 i0 (.int .i64 0) 1 8 Tryd.underlying59 hi hz0 hz1 hz2 rfl (by decide) _ _ _ rfl (hown.alloc _) ⟨wr.heap.size, 0, none⟩ 1 1 [.int .i64 x] rfl rfl (cell_one_new _ _ _) (by simp [Value.oneCell']) (by unfold maxLen; omega) (by omega) (by simp; omega) ?_; intro v' w1 hown' hgrow _)
          have hb1 : Below w.heap.size w w1 := (hbel.alloc hsz _).grown hgrow (by simp; omega) (fun k hk => (hown.lt k hk).1)
          go_step3
          have e1 : ((p : Int) + (m : Int)) = ((p + m : Nat) : Int) := by omega
          rw [e1]
          refine ⟨rfl, ⟨p + m, acc ++ [x], v', _, _, _, _, _, _, _, _, _, _, _, _, _, _, _, _, _, _, _, _, _, _, _, _, _, _, _, _, _, H.out, ⟨by simpa using hown', hb1⟩, rfl⟩, ?_⟩
          simp [intOf]
          omega

/-! ### Plainly -/
theorem takeP_ok {b : List Int} (hb : Byt b) (h : (takeP b).2.2 = 0) : ∃ n m, takeP b = (n, m, 0) ∧ shortOf n = b.take m ∧ isNum n = true := by
  obtain ⟨n, m, e⟩ : ∃ n m, takeP b = (n, m, 0) := ⟨_, _, by rw [← h]⟩
  obtain ⟨h1, _, h2, h3⟩ := short_takeP hb e
  exact ⟨n, m, e, h1, isNum_iff.2 ⟨h2, h3⟩⟩
theorem takesGo_back : ∀ (k : Nat) (b acc l r : List Int), Byt b → takesGo k b acc = (l, r, 0) → ∃ t, l = acc ++ t ∧ t.length = k ∧ allNum t = true ∧ b = shortsOf t ++ r
  | 0, b, acc, l, r, hb, h => by
    simp only [takesGo, Prod.mk.injEq, and_true] at h
    obtain ⟨rfl, rfl⟩ := h
    exact ⟨[], by simp, rfl, rfl, rfl⟩
  | k + 1, b, acc, l, r, hb, h => by
    unfold takesGo at h
    split at h
    · rename_i h0
      obtain ⟨n, m, e, h1, h2⟩ := takeP_ok hb h0
      rw [e] at h
      obtain ⟨t, ht, hk, ha, hr⟩ := takesGo_back k _ _ _ _ (hb.drop m) h
      refine ⟨n :: t, by rw [ht, List.append_assoc]; rfl, by simp [hk], ?_, ?_⟩
      · rw [allNum, List.all_cons, h2, Bool.true_and]
        exact ha
      · have e2 : shortsOf (n :: t) = shortOf n ++ shortsOf t := by simp [shortsOf]
        rw [e2, h1, List.append_assoc, ← hr, List.take_append_drop]
    · rename_i h0
      simp only [Prod.mk.injEq] at h
      exact absurd h.2.2 h0
theorem takesP_back {b l r : List Int} {k : Nat} (hb : Byt b) (h : takesP b (k : Int) = (l, r, 0)) : l.length = k ∧ allNum l = true ∧ b = shortsOf l ++ r := by
  unfold takesP at h
  rw [Int.toNat_natCast] at h
  obtain ⟨t, ht, h1, h2, h3⟩ := takesGo_back k b [] l r hb h
  rw [List.nil_append] at ht
  subst ht
  exact ⟨h1, h2, h3⟩
theorem takesP_err {b : List Int} {k : Int} (h : (takesP b k).2.2 ≠ 0) : takesP b k = ([], [], (takesP b k).2.2) := by
  have key : ∀ (k : Nat) (b acc : List Int), (takesGo k b acc).2.2 ≠ 0 → takesGo k b acc = ([], [], (takesGo k b acc).2.2) := by
    intro k
    induction k with
    | zero => intro b acc h; exact absurd rfl h
    | succ k ih =>
      intro b acc h
      unfold takesGo at h ⊢
      split at h
      · rename_i h0
        rw [if_pos h0]
        exact ih _ _ h
      · rename_i h0
        rw [if_neg h0]
  exact key _ _ _ h
end Go.Proofs.YtafeadplmcoilaaDoor.Nu
