/-
  num.Takes: its contract.
-/
import Derived.Test.YtbpinikldcakfaaTakeLong
import Derived.Test.YtbpinikldcakfaaPureB
namespace Go.Proofs.Ytbpinikldcakfaa
open Go.RowKit

/-- Takes's answer, as a whole. -/
def ManyOut (l : List Int) (many : Int) (e : Ending) (w' : World) : Prop :=
  ∃ v v', e = .returned (.tuple #[v, v', .int .i64 (takesP l many).2.2]) ∧ Gives .i64 (takesP l many).1 v w' ∧ Gives .u8 (takesP l many).2.1 v' w'
theorem ManyOut.mk {l : List Int} {many : Int} {e : Int} {a r : List Int} {v v' : Value} {w' : World} (h : takesP l many = (a, r, e)) (hg : Gives .i64 a v w') (hg' : Gives .u8 r v' w') : ManyOut l many (.returned (.tuple #[v, v', .int .i64 e])) w' := by
  refine ⟨v, v', ?_, ?_, ?_⟩
  · rw [h]
  · rw [h]; exact hg
  · rw [h]; exact hg'
theorem info_int : (Try.prog.info? 3).map (fun i => (i.zero, i.size, i.bytes)) = some (some (.int .i64 0), 1, 8) := by kernel_rfl

/-- What is owned in the round's world. -/
def Held (w : World) (v : Value) (acc : List Int) (wr : World) : Prop := wr.ownsRow w.heap.size 3 1 v acc.length (acc.map (Value.int .i64)) ∧ Below w.heap.size w wr

set_option maxRecDepth 100000 in
set_option maxHeartbeats 1000000 in
theorem takes_any (A : Option Addr) (n c : Nat) (l : List Int) (many : Int) (w : World) (hr : Rd w w.heap.size .u8 A n l) (hb : Byt l) (hnc : n ≤ c) (hn : n ≤ 1099511627776) :
    Calls Try.prog 20 #[.slice A n c, .int .i64 many] w fun e w' => ManyOut l many e w' ∧ Below w.heap.size w w' := by
  obtain ⟨i0, hi, hz0, hz1, hz2⟩ := info_parts info_int
  have Hl := Lib.hid hr.1
  go_enter Try.func20, Try.ntmps20
  go_wp2_with fail
  refine scope_once 0 (fun a' w' => ∃ (p : Nat) (acc : List Int) (v u8 u9 u10 u11 u12 u13 u14 u15 u16 u17 u18 u19 u20 u21 u22 u23 u24 u25 u26 u27 u28 u29 u30 u31 u32 u33 u34 u35 u36 : Value), AtMany l many p acc ∧ Held w v acc w' ∧
    a' = { tmps := #[.slice A n c, .int .i64 many, undef, undef, v, .slice none 0 0, .int .i64 0, .int .i64 p, u8, u9, u10, u11, u12, u13, u14, u15, u16, u17, u18, u19, u20, u21, u22, u23, u24, u25, u26, u27, u28, u29, u30, u31, u32, u33, u34, u35, u36], defers := [] })
    (fun a' _ => n - (intOf (a'.tmps.getD 7 undef)).toNat) rfl ?_ ?_
  · intro hrest
    go_wp2_with fail
    go_step3
    rename_i hK
    exact hK _ _ (hrest _ _ ⟨0, [], _, _, _, _, _, _, _, _, _, _, _, _, _, _, _, _, _, _, _, _, _, _, _, _, _, _, _, _, _, _, AtMany.first l many, ⟨World.ownsRow_nil _ _ _ _, Below.refl _ _⟩, rfl⟩)
  · rintro a' wr ⟨p, acc, v, u8, u9, u10, u11, u12, u13, u14, u15, u16, u17, u18, u19, u20, u21, u22, u23, u24, u25, u26, u27, u28, u29, u30, u31, u32, u33, u34, u35, u36, hat, ⟨hown, hbel⟩, rfl⟩
    obtain ⟨B, d, rfl, hBd, hrd⟩ := own_rd hown
    have hp : p ≤ n := by have := hat.1; rw [Hl.out] at this; exact this
    have hacc : acc.length ≤ p := hat.2.1
    have hrw : Rd wr wr.heap.size .u8 A n l := hr.on hbel hbel.size
    clear hrd
    by_cases hm : many ≤ acc.length
    · have H := Lib.hid (hat.full hm)
      by_cases hcm : c = p
      · have Hd := Lib.hid (List.drop_of_length_le (i := p) (l := l) (by rw [Hl.out]; omega))
        subst hcm
        go_wp2_with fail
        refine (clone_any _ _ _ [] _ Rd.nil (by omega)).mono ?_
        rintro e w' ⟨v', rfl, hg, hb2⟩
        go_wp2_with fail
        simp only [Exit.jump]
        go_ret3
        exact ⟨ManyOut.mk H.out ((Gives.own hown).on hb2) (by rw [Hd.out]; exact hg), hbel.trans (hb2.mono hbel.size)⟩
      · have hcut := hrw.cut_off hp hnc hcm
        go_wp2_with fail
        refine (clone_any _ _ _ _ _ hcut (by omega)).mono ?_
        rintro e w' ⟨v', rfl, hg, hb2⟩
        go_wp2_with fail
        simp only [Exit.jump]
        go_ret3
        exact ⟨ManyOut.mk H.out ((Gives.own hown).on hb2) hg, hbel.trans (hb2.mono hbel.size)⟩
    · by_cases hcm : c = p
      · have Hd := Lib.hid (List.drop_of_length_le (i := p) (l := l) (by rw [Hl.out]; omega))
        have H := Lib.hid (hat.err (by omega) (e := 10) (by rw [Hd.out]; rfl) (by omega))
        subst hcm
        go_wp2_with fail
        refine (take_any _ _ _ [] _ Rd.nil (fun _ h => by cases h) (by omega)).mono ?_
        rintro e w' ⟨rfl, rfl⟩
        go_wp2_with fail
        simp only [Exit.jump]
        go_ret3
        exact ⟨ManyOut.mk H.out (Gives.nil _ _) (Gives.nil _ _), hbel⟩
      · have hcut := hrw.cut_off hp hnc hcm
        go_wp2_with fail
        refine (take_any _ _ _ _ _ hcut (hb.drop p) (by omega)).mono ?_
        rintro e w' ⟨rfl, rfl⟩
        rcases takeP_fine (hb.drop p) with (h | h) | ⟨x, m, h, h1, h2, h3, h4, h5⟩
        · have H := Lib.hid (hat.err (by omega) h (by omega))
          rw [h]
          clear h
          go_wp2_with fail
          simp only [Exit.jump]
          go_ret3
          exact ⟨ManyOut.mk H.out (Gives.nil _ _) (Gives.nil _ _), hbel⟩
        · have H := Lib.hid (hat.err (by omega) h (by omega))
          rw [h]
          clear h
          go_wp2_with fail
          simp only [Exit.jump]
          go_ret3
          exact ⟨ManyOut.mk H.out (Gives.nil _ _) (Gives.nil _ _), hbel⟩
        · rw [List.length_drop, Hl.out] at h5
          have H := Lib.hid (hat.next (by omega) h h3 (by rw [Hl.out]; exact h5))
          rw [h]
          clear h
          have hsz := hbel.size
          go_wp2_with (at_builtin; refine wpList_append_own _ rfl _ _ 22 rfl w.heap.size 3 i0 (.int .i64 0) 1 8 Try.underlying22 hi hz0 hz1 hz2 rfl (by decide) _ _ _ rfl (hown.alloc _) ⟨wr.heap.size, 0, none⟩ 1 1 [.int .i64 x] rfl rfl (cell_one_new _ _ _) (by simp [Value.oneCell']) (by unfold maxLen; omega) (by omega) (by simp; omega) ?_; intro v' w1 hown' hgrow _)
          have hb1 : Below w.heap.size w w1 := (hbel.alloc hsz _).grown hgrow (by simp; omega) (fun k hk => (hown.lt k hk).1)
          go_step3
          have e1 : ((p : Int) + (m : Int)) = ((p + m : Nat) : Int) := by omega
          rw [e1]
          refine ⟨rfl, ⟨p + m, acc ++ [x], v', _, _, _, _, _, _, _, _, _, _, _, _, _, _, _, _, _, _, _, _, _, _, _, _, _, _, _, _, _, H.out, ⟨by simpa using hown', hb1⟩, rfl⟩, ?_⟩
          simp [intOf]
          omega

end Go.Proofs.Ytbpinikldcakfaa
