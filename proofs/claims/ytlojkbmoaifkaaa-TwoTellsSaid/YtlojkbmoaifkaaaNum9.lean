/-
  Numbers as bytes: num's Takes (stage 1's texts, as one).
-/
import Derived.Test.YtlojkbmoaifkaaaBase
import Derived.Scope
import Derived.ScopeJumps
import Derived.WalkMore
import Derived.Outline
import Derived.BigQuiet
import Derived.Test.YtlojkbmoaifkaaaNum8
import Derived.Test.YtlojkbmoaifkaaaByt
namespace Go.Proofs.Ytlojkbmoaifkaaa.Nu
open Go.RowKit

/-- A scope with one label: what holds at the label holds at its first coming and at every jump; so the code behind it is walked once. -/
theorem scope_once {P : Program} {a : Act} {w : World} {Q : Exit → Act → World → Prop} {c rest : Code} (l : Nat) (J : Act → World → Prop) (μ : Act → World → Nat) (hf : findLabel c l = some (.seq .skip rest))
    (first : (∀ a w, J a w → rest.wp P (Exit.jump l J Q) a w) → c.wp P (Exit.jump l J Q) a w)
    (pass : ∀ a w, J a w → rest.wp P (Exit.jump l (fun a' w' => J a' w' ∧ μ a' w' < μ a w) Q) a w) : (Code.scope c).wp P Q a w :=
  wp_scope_jumps l J μ hf (first fun a w h => wp_mono (pass a w h) fun e a' w' hq => by
    cases e with
    | goto l' => exact ⟨hq.1, hq.2.1⟩
    | _ => exact hq) fun a w h => wp_seq (wp_skip (pass a w h))

set_option maxRecDepth 100000 in
set_option maxHeartbeats 400000 in
theorem take_any (A : Option Addr) (n c : Nat) (l : List Int) (w : World) (hr : Rd w w.heap.size .u8 A n l) (hb : Byt l) (hn : n ≤ 140737488355328) :
    Calls Try.prog 72 #[.slice A n c] w fun e w' => e = .returned (.tuple #[.int .i64 (takeP l).1, .int .i64 (takeP l).2.1, .int .i64 (takeP l).2.2]) ∧ w = w' := by
  go_enter Try.func72, Try.ntmps72
  go_wp2
  refine scope_once 0 (fun a' w' => w' = w ∧ ∃ (u : Nat) (s : Int) (u6 u7 u8 u9 u10 u11 u12 u13 u14 u15 u16 u17 u18 u19 u20 u21 u22 u23 u24 u25 u26 u27 u28 u29 u30 u31 u32 u33 u34 u35 u36 u37 u38 u39 : Value), AtNext n l u s ∧
    a' = { tmps := #[.slice A n c, undef, .int .i64 0, .int .i64 u, .int .i64 0, .int .i64 s, u6, u7, u8, u9, u10, u11, u12, u13, u14, u15, u16, u17, u18, u19, u20, u21, u22, u23, u24, u25, u26, u27, u28, u29, u30, u31, u32, u33, u34, u35, u36, u37, u38, u39], defers := [] })
    (fun a' _ => 5 - (intOf (a'.tmps.getD 3 undef)).toNat) rfl ?_ ?_
  · intro hrest
    by_cases h0 : 0 < n
    · obtain ⟨b, off, rfl, hB, hc⟩ := hr.at_ h0
      have hc0 := hc 0 h0
      simp only [Nat.add_zero] at hc0
      clear hc
      by_cases h1 : l[0]?.getD 0 = 128
      · have Hf := Lib.hid (takeP_head (by rw [hr.1]; exact h0) h1)
        go_wp2
        simp only [Exit.jump]
        go_ret3
        exact ⟨ret_num (by rw [Hf.out]) (by rw [Hf.out]; rfl) (by rw [Hf.out]), rfl⟩
      · have Hf := Lib.hid (AtNext.first hr.1 (.inr h1))
        go_wp2
        go_step3
        rename_i hK
        exact hK _ _ (hrest _ _ ⟨rfl, 0, 0, _, _, _, _, _, _, _, _, _, _, _, _, _, _, _, _, _, _, _, _, _, _, _, _, _, _, _, _, _, _, _, _, _, _, Hf.out, rfl⟩)
    · have Hf := Lib.hid (AtNext.first hr.1 (.inl (by omega)))
      go_wp2
      go_step3
      rename_i hK
      exact hK _ _ (hrest _ _ ⟨rfl, 0, 0, _, _, _, _, _, _, _, _, _, _, _, _, _, _, _, _, _, _, _, _, _, _, _, _, _, _, _, _, _, _, _, _, _, _, Hf.out, rfl⟩)
  · rintro a' w' ⟨rfl, u, s, u6, u7, u8, u9, u10, u11, u12, u13, u14, u15, u16, u17, u18, u19, u20, u21, u22, u23, u24, u25, u26, u27, u28, u29, u30, u31, u32, u33, u34, u35, u36, u37, u38, u39, hat, rfl⟩
    have hu5 : u ≤ 5 := hat.2.1
    have hun : u ≤ n := hat.2.2.1
    have hs0 : 0 ≤ s := hat.2.2.2.1
    have hx := hb.at_ u
    by_cases h5 : u < 5
    · have hsb := hat.bound h5
      by_cases hn2 : u < n
      · obtain ⟨b, off, rfl, hB, hc⟩ := hr.at_ (by omega)
        have hcu := hc u hn2
        clear hc
        by_cases hd : l[u]?.getD 0 < 128
        · by_cases hbig : 1073741824 < s * 128 + l[u]?.getD 0
          · have Hf := Lib.hid (hat.big h5 hn2 hd hbig)
            have Hat := Lib.hid hat
            clear hat hr hb
            go_wp2
            simp only [Exit.jump]
            go_ret3
            exact ⟨ret_num (by rw [Hf.out]) (by rw [Hf.out]; rfl) (by rw [Hf.out]), rfl⟩
          · have Hf := Lib.hid (hat.done h5 hn2 hd (by omega))
            have Hat := Lib.hid hat
            clear hat hr hb
            go_wp2
            simp only [Exit.jump]
            go_ret3
            exact ⟨ret_num (by rw [Hf.out]; show _ = s * 128 + l[u]?.getD 0; omega) (by rw [Hf.out]; rfl) (by rw [Hf.out]), rfl⟩
        · have Hf := Lib.hid (hat.more h5 hn2 (by omega) hx.2)
          have Hat := Lib.hid hat
          clear hat hr hb
          go_wp2
          go_step3
          refine ⟨rfl, ⟨rfl, u + 1, _, _, _, _, _, _, _, _, _, _, _, _, _, _, _, _, _, _, _, _, _, _, _, _, _, _, _, _, _, _, _, _, _, _, _, Hf.out, rfl⟩, ?_⟩
          simp [intOf]
          omega
      · have Hf := Lib.hid (hat.short h5 (by omega))
        have Hat := Lib.hid hat
        clear hat hr hb
        go_wp2
        simp only [Exit.jump]
        go_ret3
        exact ⟨ret_num (by rw [Hf.out]) (by rw [Hf.out]; rfl) (by rw [Hf.out]), rfl⟩
    · have Hf := Lib.hid (hat.five (by omega))
      have Hat := Lib.hid hat
      clear hat hr hb
      go_wp2
      simp only [Exit.jump]
      go_ret3
      exact ⟨ret_num (by rw [Hf.out]) (by rw [Hf.out]; rfl) (by rw [Hf.out]), rfl⟩
end Go.Proofs.Ytlojkbmoaifkaaa.Nu

namespace Go.Proofs.Ytlojkbmoaifkaaa.Nu
open Go.RowKit

/-- Takes's answer, as a whole. -/
def ManyOut (l : List Int) (many : Int) (e : Ending) (w' : World) : Prop :=
  ∃ v v', e = .returned (.tuple #[v, v', .int .i64 (takesP l many).2.2]) ∧ Gives .i64 (takesP l many).1 v w' ∧ Gives .u8 (takesP l many).2.1 v' w'
theorem ManyOut.mk {l : List Int} {many : Int} {e : Int} {a r : List Int} {v v' : Value} {w' : World} (h : takesP l many = (a, r, e)) (hg : Gives .i64 a v w') (hg' : Gives .u8 r v' w') : ManyOut l many (.returned (.tuple #[v, v', .int .i64 e])) w' := by
  refine ⟨v, v', ?_, ?_, ?_⟩
  · rw [h]
  · rw [h]; exact hg
  · rw [h]; exact hg'
theorem info_int : (Try.prog.info? 3).map (fun i => (i.zero, i.size, i.bytes)) = some (some (.int .i64 0), 1, 8) := by kernel_rfl

/-- What is owned in the round's world. -/
def Held (w : World) (v : Value) (acc : List Int) (wr : World) : Prop := wr.ownsRow w.heap.size 3 1 v acc.length (acc.map (Value.int .i64)) ∧ Below w.heap.size w wr

set_option maxRecDepth 100000 in
set_option maxHeartbeats 1000000 in
theorem takes_any (A : Option Addr) (n c : Nat) (l : List Int) (many : Int) (w : World) (hr : Rd w w.heap.size .u8 A n l) (hb : Byt l) (hnc : n ≤ c) (hn : n ≤ 1099511627776) :
    Calls Try.prog 68 #[.slice A n c, .int .i64 many] w fun e w' => ManyOut l many e w' ∧ Below w.heap.size w w' := by
  obtain ⟨i0, hi, hz0, hz1, hz2⟩ := info_parts info_int
  have Hl := Lib.hid hr.1
  go_enter Try.func68, Try.ntmps68
  go_wp2_with fail
  refine scope_once 0 (fun a' w' => ∃ (p : Nat) (acc : List Int) (v u8 u9 u10 u11 u12 u13 u14 u15 u16 u17 u18 u19 u20 u21 u22 u23 u24 u25 u26 u27 u28 u29 u30 u31 u32 u33 u34 u35 u36 : Value), AtMany l many p acc ∧ Held w v acc w' ∧
    a' = { tmps := #[.slice A n c, .int .i64 many, undef, undef, v, .slice none 0 0, .int .i64 0, .int .i64 p, u8, u9, u10, u11, u12, u13, u14, u15, u16, u17, u18, u19, u20, u21, u22, u23, u24, u25, u26, u27, u28, u29, u30, u31, u32, u33, u34, u35, u36], defers := [] })
    (fun a' _ => n - (intOf (a'.tmps.getD 7 undef)).toNat) rfl ?_ ?_
  · intro hrest
    go_wp2_with fail
    go_step3
    rename_i hK
    exact hK _ _ (hrest _ _ ⟨0, [], _, _, _, _, _, _, _, _, _, _, _, _, _, _, _, _, _, _, _, _, _, _, _, _, _, _, _, _, _, _, AtMany.first l many, ⟨World.ownsRow_nil _ _ _ _, Below.refl _ _⟩, rfl⟩)
  · rintro a' wr ⟨p, acc, v, u8, u9, u10, u11, u12, u13, u14, u15, u16, u17, u18, u19, u20, u21, u22, u23, u24, u25, u26, u27, u28, u29, u30, u31, u32, u33, u34, u35, u36, hat, ⟨hown, hbel⟩, rfl⟩
    obtain ⟨B, d, rfl, hBd, hrd⟩ := own_rd hown
    have hp : p ≤ n := by have := hat.1; rw [Hl.out] at this; exact this
    have hacc : acc.length ≤ p := hat.2.1
    have hrw : Rd wr wr.heap.size .u8 A n l := hr.on hbel hbel.size
    clear hrd
    by_cases hm : many ≤ acc.length
    · have H := Lib.hid (hat.full hm)
      by_cases hcm : c = p
      · have Hd := Lib.hid (List.drop_of_length_le (i := p) (l := l) (by rw [Hl.out]; omega))
        subst hcm
        go_wp2_with fail
        refine (clone_any _ _ _ [] _ Rd.nil (by omega)).mono ?_
        rintro e w' ⟨v', rfl, hg, hb2⟩
        go_wp2_with fail
        simp only [Exit.jump]
        go_ret3
        exact ⟨ManyOut.mk H.out ((Gives.own hown).on hb2) (by rw [Hd.out]; exact hg), hbel.trans (hb2.mono hbel.size)⟩
      · have hcut := hrw.cut_off hp hnc hcm
        go_wp2_with fail
        refine (clone_any _ _ _ _ _ hcut (by omega)).mono ?_
        rintro e w' ⟨v', rfl, hg, hb2⟩
        go_wp2_with fail
        simp only [Exit.jump]
        go_ret3
        exact ⟨ManyOut.mk H.out ((Gives.own hown).on hb2) hg, hbel.trans (hb2.mono hbel.size)⟩
    · by_cases hcm : c = p
      · have Hd := Lib.hid (List.drop_of_length_le (i := p) (l := l) (by rw [Hl.out]; omega))
        have H := Lib.hid (hat.err (by omega) (e := 10) (by rw [Hd.out]; rfl) (by omega))
        subst hcm
        go_wp2_with fail
        refine (take_any _ _ _ [] _ Rd.nil (fun _ h => by cases h) (by omega)).mono ?_
        rintro e w' ⟨rfl, rfl⟩
        go_wp2_with fail
        simp only [Exit.jump]
        go_ret3
        exact ⟨ManyOut.mk H.out (Gives.nil _ _) (Gives.nil _ _), hbel⟩
      · have hcut := hrw.cut_off hp hnc hcm
        go_wp2_with fail
        refine (take_any _ _ _ _ _ hcut (hb.drop p) (by omega)).mono ?_
        rintro e w' ⟨rfl, rfl⟩
        rcases takeP_fine (hb.drop p) with (h | h) | ⟨x, m, h, h1, h2, h3, h4, h5⟩
        · have H := Lib.hid (hat.err (by omega) h (by omega))
          rw [h]
          clear h
          go_wp2_with fail
          simp only [Exit.jump]
          go_ret3
          exact ⟨ManyOut.mk H.out (Gives.nil _ _) (Gives.nil _ _), hbel⟩
        · have H := Lib.hid (hat.err (by omega) h (by omega))
          rw [h]
          clear h
          go_wp2_with fail
          simp only [Exit.jump]
          go_ret3
          exact ⟨ManyOut.mk H.out (Gives.nil _ _) (Gives.nil _ _), hbel⟩
        · rw [List.length_drop, Hl.out] at h5
          have H := Lib.hid (hat.next (by omega) h h3 (by rw [Hl.out]; exact h5))
          rw [h]
          clear h
          have hsz := hbel.size
          go_wp2_with (at_builtin; refine wpList_append_own _ rfl _ _ 67 rfl w.heap.size 3 i0 (.int .i64 0) 1 8 Try.underlying67 hi hz0 hz1 hz2 rfl (by decide) _ _ _ rfl (hown.alloc _) ⟨wr.heap.size, 0, none⟩ 1 1 [.int .i64 x] rfl rfl (cell_one_new _ _ _) (by simp [Value.oneCell']) (by unfold maxLen; omega) (by omega) (by simp; omega) ?_; intro v' w1 hown' hgrow _)
          have hb1 : Below w.heap.size w w1 := (hbel.alloc hsz _).grown hgrow (by simp; omega) (fun k hk => (hown.lt k hk).1)
          go_step3
          have e1 : ((p : Int) + (m : Int)) = ((p + m : Nat) : Int) := by omega
          rw [e1]
          refine ⟨rfl, ⟨p + m, acc ++ [x], v', _, _, _, _, _, _, _, _, _, _, _, _, _, _, _, _, _, _, _, _, _, _, _, _, _, _, _, _, _, H.out, ⟨by simpa using hown', hb1⟩, rfl⟩, ?_⟩
          simp [intOf]
          omega
end Go.Proofs.Ytlojkbmoaifkaaa.Nu

namespace Go.Proofs.Ytlojkbmoaifkaaa.Nu
open Go.RowKit

section
variable (A : Option Addr) (n c : Nat) (l : List Int) (w : World)

variable (hr : Rd w w.heap.size .u8 A n l) (hb : Byt l) (hnc : n ≤ c) (hn : n ≤ 1099511627776)
include hr hb hnc hn
theorem takes_out {many e : Int} {R S : List Int} {q p : Nat} (h : takesP l many = (R, S, e)) (hq : R.length = q) (hp : S.length = p) :
    Calls Try.prog 68 #[.slice A n c, .int .i64 many] w fun e' w' => ∃ A' c' A'' c'', e' = .returned (.tuple #[.slice A' q c', .slice A'' p c'', .int .i64 e]) ∧ Row .i64 R q A' c' w' ∧ Row .u8 S p A'' c'' w' ∧ Below w.heap.size w w' := by
  refine (takes_any A n c l many w hr hb hnc hn).mono ?_
  rintro e w' ⟨⟨v, v', rfl, hg, hg'⟩, hb⟩
  rw [h] at hg hg'
  obtain ⟨A', c', rfl, h'⟩ := hg.row rfl hq
  obtain ⟨A'', c'', rfl, h''⟩ := hg'.row rfl hp
  exact ⟨A', c', A'', c'', by rw [h], h', h'', hb⟩
end
end Go.Proofs.Ytlojkbmoaifkaaa.Nu

