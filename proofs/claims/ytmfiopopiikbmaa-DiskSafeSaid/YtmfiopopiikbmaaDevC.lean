/-
  The developers' do: operations done to files, in order: its contract.
-/
import Derived.Test.YtmfiopopiikbmaaDevB
import Derived.Test.YtmfiopopiikbmaaNms
import Derived.Scope
import Derived.ScopeJumps
import Derived.WalkMore
import Derived.Shelf.Abstract
namespace Go.Proofs.Ytmfiopopiikbmaa
open Go.RowKit Go.Maps Go.Shelf

/-- A scope with one label: what holds at the label holds at its first coming and at every jump; so the code behind it is walked once. -/
theorem scope_once {P : Program} {a : Act} {w : World} {Q : Exit → Act → World → Prop} {c rest : Code} (l : Nat) (J : Act → World → Prop) (μ : Act → World → Nat) (hf : findLabel c l = some (.seq .skip rest))
    (first : (∀ a w, J a w → rest.wp P (Exit.jump l J Q) a w) → c.wp P (Exit.jump l J Q) a w)
    (pass : ∀ a w, J a w → rest.wp P (Exit.jump l (fun a' w' => J a' w' ∧ μ a' w' < μ a w) Q) a w) : (Code.scope c).wp P Q a w :=
  wp_scope_jumps l J μ hf (first fun a w h => wp_mono (pass a w h) fun e a' w' hq => by
    cases e with
    | goto l' => exact ⟨hq.1, hq.2.1⟩
    | _ => exact hq) fun a w h => wp_seq (wp_skip (pass a w h))

/-- What holds at the label. -/
def DoInv (w : World) (b n : Nat) (fs : List FileM) (A : Option Addr) (m c : Nat) (os : List OpM) (C : Nat → Prop) (a' : Act) (w' : World) : Prop :=
  ∃ (g k : Nat) (fs' : List FileM) (u6 u7 u8 u9 u10 u11 u12 u13 u14 u15 u16 u17 u18 u19 u20 u21 u22 u23 u24 u25 u26 u27 u28 u29 u30 u31 u32 : Value), k ≤ m ∧ FM w' (CBox C g) b (n + k) fs' ∧ fs'.map FileM.pure = ((os.map OpM.pure).take k).foldl doneP (fs.map FileM.pure) ∧
    KeepC C w w' ∧ OpsAt w' g ∧
    a' = { tmps := #[.map (some b), .slice A m c, undef, undef, .map (some g), .int .i64 k, u6, u7, u8, u9, u10, u11, u12, u13, u14, u15, u16, u17, u18, u19, u20, u21, u22, u23, u24, u25, u26, u27, u28, u29, u30, u31, u32], defers := [] }
theorem hC_box {w w' : World} {C : Nat → Prop} {g : Nat} (hC : ∀ k, C k → k < w.heap.size) (hk : KeepC C w w') (hg : OpsAt w' g) : ∀ k, CBox C g k → k < w'.heap.size := fun k hk' => by
  rcases hk' with hk' | hk'
  · exact Nat.lt_of_lt_of_le (hC k hk') hk.size
  · rw [hk']; exact hg.lt

/-- The function of an operation's kind, and its contract. -/
theorem op_call {w : World} {C : Nat → Prop} {b n g : Nat} {fs : List FileM} (h : FM w C b n fs) (hC : ∀ k, C k → k < w.heap.size) (hg : OpsAt w g) (hn : n < maxLen) (o : OpM) (hk : 1 ≤ o.kind ∧ o.kind ≤ 4) (hs : o.name.size ≤ maxLen ∧ o.to.size ≤ maxLen)
    (hp : o.p.Ok w w.heap.size) (hpn : o.p.n ≤ 1048576) (hX : Bnd 4398046511104 (fs.map FileM.pure)) :
    ∃ N, (Instr.lookup 83 (.map (some g)) (.int .u8 o.kind) true).run Try.prog w = .ok (.tuple #[.func (.func N) #[] #[], .bool true]) w ∧ Enters Try.prog N ∧
      Calls Try.prog N #[.map (some b), .agg #[.int .u8 o.kind, .string o.name, .string o.to, .slice o.p.A o.p.n o.p.c]] w (Did w C b n fs o.pure) := by
  have hl := ops_look hg (k := o.kind) (by omega)
  rw [decide_eq_true hk] at hl
  by_cases h1 : o.kind = 1
  · rw [if_pos h1] at hl
    exact ⟨_, hl, enters_of Try.func65 (by kernel_rfl) rfl, dev_create h hC hn o h1 hs.1⟩
  rw [if_neg h1] at hl
  by_cases h2 : o.kind = 2
  · rw [if_pos h2] at hl
    exact ⟨_, hl, enters_of Try.func66 (by kernel_rfl) rfl, dev_append h hC hn o h2 hs.1 hp hpn hX⟩
  rw [if_neg h2] at hl
  by_cases h3 : o.kind = 3
  · rw [if_pos h3] at hl
    exact ⟨_, hl, enters_of Try.func67 (by kernel_rfl) rfl, dev_rename h hC hn o h3 hs⟩
  rw [if_neg h3] at hl
  have h4 : o.kind = 4 := by omega
  rw [if_pos h4] at hl
  exact ⟨_, hl, enters_of Try.func68 (by kernel_rfl) rfl, dev_remove h hC o h4 hs.1⟩
theorem op_none {w : World} {g : Nat} (hg : OpsAt w g) {k : Int} (hk : 0 ≤ k ∧ k ≤ 255) (h : ¬ (1 ≤ k ∧ k ≤ 4)) :
    (Instr.lookup 83 (.map (some g)) (.int .u8 k) true).run Try.prog w = .ok (.tuple #[.nilFunc, .bool false]) w := by
  have hl := ops_look hg hk
  rw [decide_eq_false h, if_neg (by omega), if_neg (by omega), if_neg (by omega), if_neg (by omega)] at hl
  exact hl

set_option maxRecDepth 100000 in
set_option maxHeartbeats 2000000 in
theorem dev_do {w : World} {C : Nat → Prop} {b n : Nat} {fs : List FileM} {A : Option Addr} {m c : Nat} {os : List OpM} (h : FM w C b n fs) (hC : ∀ k, C k → k < w.heap.size) (hO : ∀ W, KeepC C w W → Os W W.heap.size A m os)
    (hn : n ≤ 100000) (hm : m ≤ 1000) (hs : NmO (os.map OpM.pure)) (hp : ∀ o ∈ os, o.p.n ≤ 1048576) (hX : Bnd 2199023255552 (fs.map FileM.pure)) :
    Calls Try.prog 48 #[.map (some b), .slice A m c] w fun e w' =>
      e = .returned (.tuple #[]) ∧ (∃ fs', FM w' C b (n + m) fs' ∧ fs'.map FileM.pure = (os.map OpM.pure).foldl doneP (fs.map FileM.pure)) ∧ KeepC C w w' := by
  have Hl := Lib.hid ((hO w (KeepC.refl _ _)).len)
  have HO := Lib.hid hO
  have HX := Lib.hid hX
  have Hs := Lib.hid hs
  have Hp := Lib.hid hp
  have Hh := Lib.hid h
  have HC := Lib.hid hC
  clear hO hX hs hp h hC
  go_enter Try.func48, Try.ntmps48
  go_wp2_with fail
  refine scope_once 0 (DoInv w b n fs A m c os C) (fun a' _ => m - (intOf (a'.tmps.getD 5 undef)).toNat) rfl ?_ ?_
  · intro hrest
    go_wp2_with fail
    refine (dev_operations w).mono ?_
    rintro e w1 ⟨⟨g, rfl, hg, hwg⟩, hb1⟩
    have k1 := keepC_of hb1 HC.out
    have h1 : FM w1 (CBox C g) b n fs := (Hh.out.box hwg).below hb1
    have Hk1 := Lib.hid k1
    have Hh1 := Lib.hid h1
    have Hg := Lib.hid hg
    clear hwg hb1 k1 h1 hg
    go_wp2_with fail
    go_step3
    rename_i hK
    exact hK _ _ (hrest _ _ ⟨g, 0, fs, _, _, _, _, _, _, _, _, _, _, _, _, _, _, _, _, _, _, _, _, _, _, _, _, _, _, _, Nat.zero_le _, Hh1.out, rfl, Hk1.out, Hg.out, rfl⟩)
  · rintro a' wr ⟨g, k, fs1, u6, u7, u8, u9, u10, u11, u12, u13, u14, u15, u16, u17, u18, u19, u20, u21, u22, u23, u24, u25, u26, u27, u28, u29, u30, u31, u32, hk, h1, hf1, k1, hg, rfl⟩
    by_cases hlt : k < m
    · have hq : ((k : Int) == (m : Int)) = false := by simp; omega
      obtain ⟨bb, off, o, rfl, hbl, ho, c0, c1, c2, c3, hok, ho1, ho2⟩ := (HO.out wr k1).at_ hlt
      have hom : o ∈ os := List.mem_of_getElem? ho
      have hj2 : (0 : Int) ≤ (k : Int) := by omega
      have hj3 : (k : Int) < (m : Int) := by omega
      have hstep : ((os.map OpM.pure).take (k + 1)).foldl doneP (fs.map FileM.pure) = doneP (fs1.map FileM.pure) o.pure := by
        rw [hf1]
        exact foldl_take doneP (fs.map FileM.pure) (l := os.map OpM.pure) (k := k) (x := o.pure) (by rw [List.getElem?_map, ho]; rfl)
      have hC1 := hC_box HC.out k1 hg
      have hw1 : IntKind.i64.wrap ((k : Int) + 1) = ((k + 1 : Nat) : Int) := by rw [IntKind.wrap_i64]; omega
      have Hstep := Lib.hid hstep
      by_cases hkd : 1 ≤ o.kind ∧ o.kind ≤ 4
      · have hb1 : Bnd 4398046511104 (fs1.map FileM.pure) := by
          rw [hf1]
          refine (dones_bnd (X := 2199023255552) (Y := 1048576) ((os.map OpM.pure).take k) _ HX.out (fun x hx => ?_)).mono ?_
          · obtain ⟨y, hy, rfl⟩ := List.mem_map.1 (List.mem_of_mem_take hx)
            have h2 := Hp.out y hy
            have h3 := (((HO.out wr k1).ok y hy).1).rd.1
            show y.p.l.length ≤ _
            omega
          · have h2 : ((os.map OpM.pure).take k).length ≤ 1000 := by rw [List.length_take]; omega
            have h3 : ((os.map OpM.pure).take k).length * 1048576 ≤ 1000 * 1048576 := Nat.mul_le_mul_right _ h2
            omega
        obtain ⟨N, hlo, hen, hcall⟩ := op_call h1 hC1 hg (by unfold maxLen; omega) o hkd (Hs.out o.pure (List.mem_map_of_mem hom)) hok (Hp.out o hom) hb1
        have Hcall := Lib.hid hcall
        unfold Enters at hen
        have K1 := Lib.hid k1
        have HC1 := Lib.hid hC1
        have Hg := Lib.hid hg
        clear hcall k1 hC1 h1 hf1 hstep hkd hb1 ho hom hok ho1 ho2 hg
        go_wp2_with fail
        refine Hcall.out.mono ?_
        rintro e w2 ⟨rfl, ⟨fs2, h2, hf2⟩, k2⟩
        have H2 := Lib.hid (⟨h2, hf2, k2⟩ : _ ∧ _ ∧ _)
        clear h2 hf2 k2 c0 c1 c2 c3
        go_wp2_with fail
        go_step3
        refine ⟨rfl, ⟨g, k + 1, fs2, _, _, _, _, _, _, _, _, _, _, _, _, _, _, _, _, _, _, _, _, _, _, _, _, _, _, _, by omega, H2.out.1, by rw [H2.out.2.1, Hstep.out], K1.out.trans H2.out.2.2.unbox, Hg.out.below (H2.out.2.2.keep g (.inr rfl)), rfl⟩, ?_⟩
        simp [intOf]
        omega
      · have hlo := op_none hg ⟨ho1, ho2⟩ hkd
        have H2 := Lib.hid (show fs1.map FileM.pure = ((os.map OpM.pure).take (k + 1)).foldl doneP (fs.map FileM.pure) by rw [hstep]; exact doneElse (o := o) hkd)
        have K1 := Lib.hid k1
        have Hg := Lib.hid hg
        have H1 := Lib.hid (h1.mono (Nat.le_succ (n + k)))
        clear k1 hC1 h1 hf1 hstep hkd ho hom hok ho1 ho2 hg
        go_wp2_with fail
        go_step3
        refine ⟨rfl, ⟨g, k + 1, fs1, _, _, _, _, _, _, _, _, _, _, _, _, _, _, _, _, _, _, _, _, _, _, _, _, _, _, _, by omega, H1.out, H2.out, K1.out, Hg.out, rfl⟩, ?_⟩
        simp [intOf]
        omega
    · obtain rfl : k = m := by omega
      have H1 := Lib.hid h1.unbox
      have K1 := Lib.hid k1
      have H2 := Lib.hid (show fs1.map FileM.pure = (os.map OpM.pure).foldl doneP (fs.map FileM.pure) by rw [hf1, List.take_of_length_le (by rw [List.length_map, Hl.out]; exact Nat.le_refl _)])
      clear h1 hf1 k1 hg
      go_wp2_with fail
      simp only [Exit.jump]
      refine bodyPost_ret (results_none rfl _ _ _) rfl ?_
      exact ⟨rfl, ⟨fs1, H1.out, H2.out⟩, K1.out⟩

end Go.Proofs.Ytmfiopopiikbmaa
