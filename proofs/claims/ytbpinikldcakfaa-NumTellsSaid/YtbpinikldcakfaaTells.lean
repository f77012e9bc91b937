/-
  NumTells's walk: it returns true, and turns nothing that lay.
-/
import Derived.Test.YtbpinikldcakfaaRefC
import Derived.Test.YtbpinikldcakfaaBack
import Derived.Test.YtbpinikldcakfaaTakesLaw
namespace Go.Proofs.Ytbpinikldcakfaa
open Go.RowKit

theorem out_short {l R : List Int} {q : Nat} {ec : Int} {e : Ending} {w' : World} (h : ShortOut l e w') (hR : (if allNum l then shortsOf l else []) = R) (hq : R.length = q) (he : (if allNum l then (0 : Int) else 2) = ec) :
    ∃ A c, e = .returned (.tuple #[.slice A q c, .int .i64 ec]) ∧ Row .u8 R q A c w' := by
  obtain ⟨v, rfl, hg⟩ := h
  obtain ⟨A, c, rfl, hr⟩ := hg.row hR hq
  exact ⟨A, c, by rw [he], hr⟩
theorem out_long {l R : List Int} {q : Nat} {ec : Int} {e : Ending} {w' : World} (h : LongPut l e w') (hR : (if allNum l then longsOf l else []) = R) (hq : R.length = q) (he : (if allNum l then (0 : Int) else 2) = ec) :
    ∃ A c, e = .returned (.tuple #[.slice A q c, .int .i64 ec]) ∧ Row .u8 R q A c w' := by
  obtain ⟨v, rfl, hg⟩ := h
  obtain ⟨A, c, rfl, hr⟩ := hg.row hR hq
  exact ⟨A, c, by rw [he], hr⟩
theorem out_take {l R : List Int} {q : Nat} {x ec : Int} {e : Ending} {w' : World} (h : TakeOut l e w') (hx : (takeP l).1 = x) (hR : (if (takeP l).2.2 = 0 then l.drop (takeP l).2.1 else []) = R) (hq : R.length = q) (he : (takeP l).2.2 = ec) :
    ∃ A c, e = .returned (.tuple #[.int .i64 x, .slice A q c, .int .i64 ec]) ∧ Row .u8 R q A c w' := by
  obtain ⟨v, rfl, hg⟩ := h
  obtain ⟨A, c, rfl, hr⟩ := hg.row hR hq
  exact ⟨A, c, by rw [hx, he], hr⟩
theorem TakeNew.out {l : List Int} {B : Nat} {e : Ending} {w' : World} (h : TakeNew l B e w') : TakeOut l e w' := by
  obtain ⟨v, h1, h2, _⟩ := h
  exact ⟨v, h1, h2⟩
theorem out_glong {l R : List Int} {q : Nat} {x ec : Int} {e : Ending} {w' : World} (h : LongOut l e w') (hx : (longP l).1 = x) (hR : (longP l).2.1 = R) (hq : R.length = q) (he : (longP l).2.2 = ec) :
    ∃ A c, e = .returned (.tuple #[.int .i64 x, .slice A q c, .int .i64 ec]) ∧ Row .u8 R q A c w' := by
  obtain ⟨v, rfl, hg⟩ := h
  obtain ⟨A, c, rfl, hr⟩ := hg.row hR hq
  exact ⟨A, c, by rw [hx, he], hr⟩
theorem out_many {l R S : List Int} {many : Int} {q p : Nat} {ec : Int} {e : Ending} {w' : World} (h : ManyOut l many e w') (hR : (takesP l many).1 = R) (hS : (takesP l many).2.1 = S) (hq : R.length = q) (hp : S.length = p) (he : (takesP l many).2.2 = ec) :
    ∃ A c A' c', e = .returned (.tuple #[.slice A q c, .slice A' p c', .int .i64 ec]) ∧ Row .i64 R q A c w' ∧ Row .u8 S p A' c' w' := by
  obtain ⟨v, v', rfl, hg, hg'⟩ := h
  obtain ⟨A, c, rfl, hr⟩ := hg.row hR hq
  obtain ⟨A', c', rfl, hr'⟩ := hg'.row hS hp
  exact ⟨A, c, A', c', by rw [he], hr, hr'⟩

theorem byt_nil : Byt [] := fun x hx => by cases hx
theorem takesGo_byt : ∀ (f : Nat) (r acc : List Int), Byt r → Byt (takesGo f r acc).2.1 := by
  intro f
  induction f with
  | zero => intro r acc h; exact h
  | succ f ih =>
    intro r acc h
    rw [takesGo]
    split
    · exact ih _ _ (h.drop _)
    · exact byt_nil
theorem takes_len {l : List Int} {many : Int} (hb : Byt l) (hm : many ≤ 400) : (takesP l many).1.length ≤ 400 := by
  rcases takesGo_fine many.toNat l [] hb with ⟨R, S, h⟩ | h | h
  · obtain ⟨t, h1, h2⟩ := takesGo_prefix _ _ _ _ _ h
    unfold takesP
    rw [h]
    rw [h1]
    simp
    omega
  · unfold takesP
    rw [h]; simp
  · unfold takesP
    rw [h]; simp

set_option maxRecDepth 100000 in
set_option maxHeartbeats 400000 in
theorem tells_great (A : Option Addr) (n c : Nat) (A' : Option Addr) (n' c' : Nat) (many : Int) (w : World) (h : 60 < n ∨ 300 < n' ∨ 400 < many) :
    Calls Try.prog 3 #[.slice A n c, .slice A' n' c', .int .i64 many] w fun e w' => e = .returned (.bool true) ∧ Below w.heap.size w w' := by
  by_cases h1 : 60 < n
  · have hd : decide ((60 : Int) < (n : Int)) = true := by simp; omega
    go_enter Try.func3, Try.ntmps3
    go_wp2_with fail
    refine (wakes_any w).mono ?_
    rintro e w' ⟨rfl, hb⟩
    go_wp2_with fail
    go_ret
    exact ⟨rfl, hb⟩
  · have hd : decide ((60 : Int) < (n : Int)) = false := by simp; omega
    by_cases h2 : 300 < n'
    · have hd2 : decide ((300 : Int) < (n' : Int)) = true := by simp; omega
      go_enter Try.func3, Try.ntmps3
      go_wp2_with fail
      refine (wakes_any w).mono ?_
      rintro e w' ⟨rfl, hb⟩
      go_wp2_with fail
      go_ret
      exact ⟨rfl, hb⟩
    · have hd2 : decide ((300 : Int) < (n' : Int)) = false := by simp; omega
      have h3 : 400 < many := by omega
      go_enter Try.func3, Try.ntmps3
      go_wp2_with fail
      refine (wakes_any w).mono ?_
      rintro e w' ⟨rfl, hb⟩
      go_wp2_with fail
      go_ret
      exact ⟨rfl, hb⟩

set_option maxRecDepth 100000 in
set_option maxHeartbeats 2000000 in
theorem tells_in (A : Option Addr) (n c : Nat) (l : List Int) (A' : Option Addr) (n' c' : Nat) (b : List Int) (many : Int) (w : World) (hr : Rd w w.heap.size .i64 A n l) (hr' : Rd w w.heap.size .u8 A' n' b) (hb : Byt b) (hnc' : n' ≤ c') (hn : n ≤ 60) (hn' : n' ≤ 300) (hm : many ≤ 400) :
    Calls Try.prog 3 #[.slice A n c, .slice A' n' c', .int .i64 many] w fun e w' => e = .returned (.bool true) ∧ Below w.heap.size w w' := by
  have hd : decide ((60 : Int) < (n : Int)) = false := by simp; omega
  have hd2 : decide ((300 : Int) < (n' : Int)) = false := by simp; omega
  obtain ⟨RS, hRS⟩ : ∃ RS : List Int, (if allNum l then shortsOf l else []) = RS := ⟨_, rfl⟩
  have HRS := Lib.hid hRS
  obtain ⟨RL, hRL⟩ : ∃ RL : List Int, (if allNum l then longsOf l else []) = RL := ⟨_, rfl⟩
  have HRL := Lib.hid hRL
  obtain ⟨ec, hec⟩ : ∃ ec : Int, (if allNum l then (0 : Int) else 2) = ec := ⟨_, rfl⟩
  have Hec := Lib.hid hec
  obtain ⟨bx, hbx⟩ : ∃ bx : Bool, allNum l = bx := ⟨_, rfl⟩
  have Hbx := Lib.hid hbx
  obtain ⟨qs, hqs⟩ : ∃ qs : Nat, RS.length = qs := ⟨_, rfl⟩
  have Hqs := Lib.hid hqs
  obtain ⟨ql, hql⟩ : ∃ ql : Nat, RL.length = ql := ⟨_, rfl⟩
  have Hql := Lib.hid hql
  obtain ⟨x, hx⟩ : ∃ x : Int, (takeP b).1 = x := ⟨_, rfl⟩
  have Hx := Lib.hid hx
  obtain ⟨et, het⟩ : ∃ et : Int, (takeP b).2.2 = et := ⟨_, rfl⟩
  have Het := Lib.hid het
  obtain ⟨RT, hRT⟩ : ∃ RT : List Int, (if (takeP b).2.2 = 0 then b.drop (takeP b).2.1 else []) = RT := ⟨_, rfl⟩
  have HRT := Lib.hid hRT
  obtain ⟨qt, hqt⟩ : ∃ qt : Nat, RT.length = qt := ⟨_, rfl⟩
  have Hqt := Lib.hid hqt
  obtain ⟨y, hy⟩ : ∃ y : Int, (longP b).1 = y := ⟨_, rfl⟩
  have Hy := Lib.hid hy
  obtain ⟨eg, heg⟩ : ∃ eg : Int, (longP b).2.2 = eg := ⟨_, rfl⟩
  have Heg := Lib.hid heg
  obtain ⟨RG, hRG⟩ : ∃ RG : List Int, (longP b).2.1 = RG := ⟨_, rfl⟩
  have HRG := Lib.hid hRG
  obtain ⟨qg, hqg⟩ : ∃ qg : Nat, RG.length = qg := ⟨_, rfl⟩
  have Hqg := Lib.hid hqg
  obtain ⟨RM, hRM⟩ : ∃ RM : List Int, (takesP b many).1 = RM := ⟨_, rfl⟩
  have HRM := Lib.hid hRM
  obtain ⟨SM, hSM⟩ : ∃ SM : List Int, (takesP b many).2.1 = SM := ⟨_, rfl⟩
  have HSM := Lib.hid hSM
  obtain ⟨em, hem⟩ : ∃ em : Int, (takesP b many).2.2 = em := ⟨_, rfl⟩
  have Hem := Lib.hid hem
  obtain ⟨qm, hqm⟩ : ∃ qm : Nat, RM.length = qm := ⟨_, rfl⟩
  have Hqm := Lib.hid hqm
  obtain ⟨pm, hpm⟩ : ∃ pm : Nat, SM.length = pm := ⟨_, rfl⟩
  have Hpm := Lib.hid hpm
  have bS : Byt RS := by
    rw [← hRS]
    cases h : allNum l
    · exact byt_nil
    · exact shorts_byt h
  have bL : Byt RL := by
    rw [← hRL]
    cases allNum l
    · exact byt_nil
    · exact longs_byt l
  have bT : Byt RT := by
    rw [← hRT]
    split
    · exact hb.drop _
    · exact byt_nil
  have bG : Byt RG := by
    rw [← hRG]
    unfold longP
    split
    · exact byt_nil
    · split
      · exact byt_nil
      · exact hb.drop 5
  have bM : Byt SM := by rw [← hSM]; exact takesGo_byt _ _ _ hb
  have lM : qm ≤ 400 := by rw [← hqm, ← hRM]; exact takes_len hb hm
  clear hRS hRL hec hbx hqs hql hx het hRT hqt hy heg hRG hqg hRM hSM hem hqm hpm
  have n1 : (ec != ec) = false := by simp
  have n2 : (bx != bx) = false := by simp
  have n3 : (x != x) = false := by simp
  have n4 : (et != et) = false := by simp
  have n5 : (y == y) = true := by simp
  have n6 : (eg == eg) = true := by simp
  have n7 : (em == em) = true := by simp
  go_enter Try.func3, Try.ntmps3
  go_wp2_with fail
  refine (callsIn_wide.1 (short_in A n c l _ hr (by omega))).mono ?_
  rintro e w1 ⟨ho, hb1⟩
  obtain ⟨A1, c1, rfl, r1⟩ := out_short ho HRS.out Hqs.out Hec.out
  clear ho
  have hB : Below w.heap.size w w1 := hb1
  have hsz := hB.size
  clear hb1
  go_wp2_with fail
  refine (rshorts_any A n c l _ (hr.on hB hsz) (by omega)).mono ?_
  rintro e w2 ⟨ho, hb2⟩
  obtain ⟨A2, c2, rfl, r2⟩ := out_short ho HRS.out Hqs.out Hec.out
  clear ho
  replace r1 := r1.on hb2
  replace hB : Below w.heap.size w w2 := hB.trans (hb2.mono hsz)
  clear hsz
  have hsz := hB.size
  clear hb2
  go_wp2_with fail
  refine (callsIn_wide.1 (long_in A n c l _ (hr.on hB hsz) (by omega))).mono ?_
  rintro e w3 ⟨ho, hb3⟩
  obtain ⟨A3, c3, rfl, r3⟩ := out_long ho HRL.out Hql.out Hec.out
  clear ho
  replace r1 := r1.on hb3
  replace r2 := r2.on hb3
  replace hB : Below w.heap.size w w3 := hB.trans (hb3.mono hsz)
  clear hsz
  have hsz := hB.size
  clear hb3
  go_wp2_with fail
  refine (rlongs_any A n c l _ (hr.on hB hsz) (by omega)).mono ?_
  rintro e w4 ⟨ho, hb4⟩
  obtain ⟨A4, c4, rfl, r4⟩ := out_long ho HRL.out Hql.out Hec.out
  clear ho
  replace r1 := r1.on hb4
  replace r2 := r2.on hb4
  replace r3 := r3.on hb4
  replace hB : Below w.heap.size w w4 := hB.trans (hb4.mono hsz)
  clear hsz
  have hsz := hB.size
  clear hb4
  go_wp2_with fail
  refine (same_yes _ _ _ _ _ _ RS _ r1.rd r2.rd bS).mono ?_
  rintro e w' ⟨rfl, rfl⟩
  go_wp2_with fail
  refine (same_yes _ _ _ _ _ _ RL _ r3.rd r4.rd bL).mono ?_
  rintro e w' ⟨rfl, rfl⟩
  clear r1 r2 r3 r4
  go_wp2_with fail
  refine (is_out A n c l _ (x := bx) (hr.on hB hsz) (by omega) Hbx.out).mono ?_
  rintro e w' ⟨rfl, rfl⟩
  go_wp2_with fail
  refine (ris_out A n c l _ (x := bx) (hr.on hB hsz) (by omega) Hbx.out).mono ?_
  rintro e w' ⟨rfl, rfl⟩
  go_wp2_with fail
  refine (Take_any A' n' c' b _ (hr'.on hB hsz) hb hnc' (by omega)).mono ?_
  rintro e w5 ⟨ho, hb5⟩
  obtain ⟨A5, c5, rfl, r5⟩ := out_take ho Hx.out HRT.out Hqt.out Het.out
  clear ho
  replace hB : Below w.heap.size w w5 := hB.trans (hb5.mono hsz)
  clear hsz
  have hsz := hB.size
  clear hb5
  go_wp2_with fail
  refine (rtake_any A' n' c' b _ (hr'.on hB hsz) hb hnc' (by omega)).mono ?_
  rintro e w6 ⟨ho, hb6⟩
  obtain ⟨A6, c6, rfl, r6⟩ := out_take ho.out Hx.out HRT.out Hqt.out Het.out
  clear ho
  replace r5 := r5.on hb6
  replace hB : Below w.heap.size w w6 := hB.trans (hb6.mono hsz)
  clear hsz
  have hsz := hB.size
  clear hb6
  go_wp2_with fail
  refine (same_yes _ _ _ _ _ _ RT _ r5.rd r6.rd bT).mono ?_
  rintro e w' ⟨rfl, rfl⟩
  clear r5 r6
  go_wp2_with fail
  refine (long_any A' n' c' b _ (hr'.on hB hsz) hb hnc' (by omega)).mono ?_
  rintro e w7 ⟨ho, hb7⟩
  obtain ⟨A7, c7, rfl, r7⟩ := out_glong ho Hy.out HRG.out Hqg.out Heg.out
  clear ho
  replace hB : Below w.heap.size w w7 := hB.trans (hb7.mono hsz)
  clear hsz
  have hsz := hB.size
  clear hb7
  go_wp2_with fail
  refine (rlong_any A' n' c' b _ (hr'.on hB hsz) hb hnc' (by omega)).mono ?_
  rintro e w8 ⟨ho, hb8⟩
  obtain ⟨A8, c8, rfl, r8⟩ := out_glong ho Hy.out HRG.out Hqg.out Heg.out
  clear ho
  replace r7 := r7.on hb8
  replace hB : Below w.heap.size w w8 := hB.trans (hb8.mono hsz)
  clear hsz
  have hsz := hB.size
  clear hb8
  go_wp2_with fail
  refine (takes_any A' n' c' b many _ (hr'.on hB hsz) hb hnc' (by omega)).mono ?_
  rintro e w9 ⟨ho, hb9⟩
  obtain ⟨A9, c9, B9, d9, rfl, r9, s9⟩ := out_many ho HRM.out HSM.out Hqm.out Hpm.out Hem.out
  clear ho
  replace r7 := r7.on hb9
  replace r8 := r8.on hb9
  replace hB : Below w.heap.size w w9 := hB.trans (hb9.mono hsz)
  clear hsz
  have hsz := hB.size
  clear hb9
  go_wp2_with fail
  refine (rtakes_any A' n' c' b many _ (hr'.on hB hsz) hb (by omega) (by omega)).mono ?_
  rintro e w10 ⟨ho, hb10⟩
  obtain ⟨A10, c10, B10, d10, rfl, r10, s10⟩ := out_many ho HRM.out HSM.out Hqm.out Hpm.out Hem.out
  clear ho
  replace r7 := r7.on hb10
  replace r8 := r8.on hb10
  replace r9 := r9.on hb10
  replace s9 := s9.on hb10
  replace hB : Below w.heap.size w w10 := hB.trans (hb10.mono hsz)
  clear hsz
  have hsz := hB.size
  clear hb10
  go_wp2_with fail
  refine (same_yes _ _ _ _ _ _ RG _ r7.rd r8.rd bG).mono ?_
  rintro e w' ⟨rfl, rfl⟩
  go_wp2_with fail
  refine (ints_yes _ _ _ _ _ _ RM _ r9.rd r10.rd (by omega) (by omega)).mono ?_
  rintro e w11 ⟨rfl, hb11⟩
  replace s9 := s9.on hb11
  replace s10 := s10.on hb11
  replace hB : Below w.heap.size w w11 := hB.trans (hb11.mono hsz)
  clear hsz hb11
  have hsz := hB.size
  go_wp2_with fail
  refine (same_yes _ _ _ _ _ _ SM _ s9.rd s10.rd bM).mono ?_
  rintro e w' ⟨rfl, rfl⟩
  go_wp2_with fail
  refine (wakes_any _).mono ?_
  rintro e w' ⟨rfl, hbw⟩
  go_wp2_with fail
  go_ret
  exact ⟨rfl, hB.trans (hbw.mono hsz)⟩

theorem tells_any (A : Option Addr) (n c : Nat) (l : List Int) (A' : Option Addr) (n' c' : Nat) (b : List Int) (many : Int) (w : World) (hr : Rd w w.heap.size .i64 A n l) (hr' : Rd w w.heap.size .u8 A' n' b) (hb : Byt b) (hnc' : n' ≤ c') :
    Calls Try.prog 3 #[.slice A n c, .slice A' n' c', .int .i64 many] w fun e w' => e = .returned (.bool true) ∧ Below w.heap.size w w' := by
  by_cases h : 60 < n ∨ 300 < n' ∨ 400 < many
  · exact tells_great A n c A' n' c' many w h
  · exact tells_in A n c l A' n' c' b many w hr hr' hb hnc' (by omega) (by omega) (by omega)

end Go.Proofs.Ytbpinikldcakfaa
