/-
  num.take: its contract.
-/
import Derived.Test.YtbpinikldcakfaaBase
import Derived.Test.YtbpinikldcakfaaPure
import Derived.Scope
import Derived.ScopeJumps
import Derived.WalkMore
import Derived.Outline
import Derived.BigQuiet
namespace Go.Proofs.Ytbpinikldcakfaa
open Go.RowKit

/-- A scope with one label: what holds at the label holds at its first coming and at every jump; so the code behind it is walked once. -/
theorem scope_once {P : Program} {a : Act} {w : World} {Q : Exit → Act → World → Prop} {c rest : Code} (l : Nat) (J : Act → World → Prop) (μ : Act → World → Nat) (hf : findLabel c l = some (.seq .skip rest))
    (first : (∀ a w, J a w → rest.wp P (Exit.jump l J Q) a w) → c.wp P (Exit.jump l J Q) a w)
    (pass : ∀ a w, J a w → rest.wp P (Exit.jump l (fun a' w' => J a' w' ∧ μ a' w' < μ a w) Q) a w) : (Code.scope c).wp P Q a w :=
  wp_scope_jumps l J μ hf (first fun a w h => wp_mono (pass a w h) fun e a' w' hq => by
    cases e with
    | goto l' => exact ⟨hq.1, hq.2.1⟩
    | _ => exact hq) fun a w h => wp_seq (wp_skip (pass a w h))

set_option maxRecDepth 100000 in
set_option maxHeartbeats 400000 in
theorem take_any (A : Option Addr) (n c : Nat) (l : List Int) (w : World) (hr : Rd w w.heap.size .u8 A n l) (hb : Byt l) (hn : n ≤ 140737488355328) :
    Calls Try.prog 24 #[.slice A n c] w fun e w' => e = .returned (.tuple #[.int .i64 (takeP l).1, .int .i64 (takeP l).2.1, .int .i64 (takeP l).2.2]) ∧ w = w' := by
  go_enter Try.func24, Try.ntmps24
  go_wp2
  refine scope_once 0 (fun a' w' => w' = w ∧ ∃ (u : Nat) (s : Int) (u6 u7 u8 u9 u10 u11 u12 u13 u14 u15 u16 u17 u18 u19 u20 u21 u22 u23 u24 u25 u26 u27 u28 u29 u30 u31 u32 u33 u34 u35 u36 u37 u38 u39 : Value), AtNext n l u s ∧
    a' = { tmps := #[.slice A n c, undef, .int .i64 0, .int .i64 u, .int .i64 0, .int .i64 s, u6, u7, u8, u9, u10, u11, u12, u13, u14, u15, u16, u17, u18, u19, u20, u21, u22, u23, u24, u25, u26, u27, u28, u29, u30, u31, u32, u33, u34, u35, u36, u37, u38, u39], defers := [] })
    (fun a' _ => 5 - (intOf (a'.tmps.getD 3 undef)).toNat) rfl ?_ ?_
  · intro hrest
    by_cases h0 : 0 < n
    · obtain ⟨b, off, rfl, hB, hc⟩ := hr.at_ h0
      have hc0 := hc 0 h0
      simp only [Nat.add_zero] at hc0
      clear hc
      by_cases h1 : l[0]?.getD 0 = 128
      · have Hf := Lib.hid (takeP_head (by rw [hr.1]; exact h0) h1)
        go_wp2
        simp only [Exit.jump]
        go_ret3
        exact ⟨ret_num (by rw [Hf.out]) (by rw [Hf.out]; rfl) (by rw [Hf.out]), rfl⟩
      · have Hf := Lib.hid (AtNext.first hr.1 (.inr h1))
        go_wp2
        go_step3
        rename_i hK
        exact hK _ _ (hrest _ _ ⟨rfl, 0, 0, _, _, _, _, _, _, _, _, _, _, _, _, _, _, _, _, _, _, _, _, _, _, _, _, _, _, _, _, _, _, _, _, _, _, Hf.out, rfl⟩)
    · have Hf := Lib.hid (AtNext.first hr.1 (.inl (by omega)))
      go_wp2
      go_step3
      rename_i hK
      exact hK _ _ (hrest _ _ ⟨rfl, 0, 0, _, _, _, _, _, _, _, _, _, _, _, _, _, _, _, _, _, _, _, _, _, _, _, _, _, _, _, _, _, _, _, _, _, _, Hf.out, rfl⟩)
  · rintro a' w' ⟨rfl, u, s, u6, u7, u8, u9, u10, u11, u12, u13, u14, u15, u16, u17, u18, u19, u20, u21, u22, u23, u24, u25, u26, u27, u28, u29, u30, u31, u32, u33, u34, u35, u36, u37, u38, u39, hat, rfl⟩
    have hu5 : u ≤ 5 := hat.2.1
    have hun : u ≤ n := hat.2.2.1
    have hs0 : 0 ≤ s := hat.2.2.2.1
    have hx := hb.at_ u
    by_cases h5 : u < 5
    · have hsb := hat.bound h5
      by_cases hn2 : u < n
      · obtain ⟨b, off, rfl, hB, hc⟩ := hr.at_ (by omega)
        have hcu := hc u hn2
        clear hc
        by_cases hd : l[u]?.getD 0 < 128
        · by_cases hbig : 1073741824 < s * 128 + l[u]?.getD 0
          · have Hf := Lib.hid (hat.big h5 hn2 hd hbig)
            have Hat := Lib.hid hat
            clear hat hr hb
            go_wp2
            simp only [Exit.jump]
            go_ret3
            exact ⟨ret_num (by rw [Hf.out]) (by rw [Hf.out]; rfl) (by rw [Hf.out]), rfl⟩
          · have Hf := Lib.hid (hat.done h5 hn2 hd (by omega))
            have Hat := Lib.hid hat
            clear hat hr hb
            go_wp2
            simp only [Exit.jump]
            go_ret3
            exact ⟨ret_num (by rw [Hf.out]; show _ = s * 128 + l[u]?.getD 0; omega) (by rw [Hf.out]; rfl) (by rw [Hf.out]), rfl⟩
        · have Hf := Lib.hid (hat.more h5 hn2 (by omega) hx.2)
          have Hat := Lib.hid hat
          clear hat hr hb
          go_wp2
          go_step3
          refine ⟨rfl, ⟨rfl, u + 1, _, _, _, _, _, _, _, _, _, _, _, _, _, _, _, _, _, _, _, _, _, _, _, _, _, _, _, _, _, _, _, _, _, _, _, Hf.out, rfl⟩, ?_⟩
          simp [intOf]
          omega
      · have Hf := Lib.hid (hat.short h5 (by omega))
        have Hat := Lib.hid hat
        clear hat hr hb
        go_wp2
        simp only [Exit.jump]
        go_ret3
        exact ⟨ret_num (by rw [Hf.out]) (by rw [Hf.out]; rfl) (by rw [Hf.out]), rfl⟩
    · have Hf := Lib.hid (hat.five (by omega))
      have Hat := Lib.hid hat
      clear hat hr hb
      go_wp2
      simp only [Exit.jump]
      go_ret3
      exact ⟨ret_num (by rw [Hf.out]) (by rw [Hf.out]; rfl) (by rw [Hf.out]), rfl⟩

end Go.Proofs.Ytbpinikldcakfaa
