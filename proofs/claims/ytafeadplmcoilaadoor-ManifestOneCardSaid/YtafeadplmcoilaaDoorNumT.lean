/-
  Numbers as bytes: num's Short and Takes, beside Long and TakeLong (stage 1's texts, as one).
-/
import Derived.Test.YtafeadplmcoilaaDoorBase
import Derived.Scope
import Derived.ScopeJumps
import Derived.WalkMore
import Derived.Outline
import Derived.BigQuiet
import Derived.Test.YtafeadplmcoilaaDoorNumM
import Derived.Test.YtafeadplmcoilaaDoorNumR
import Derived.Test.YtafeadplmcoilaaDoorByt
namespace Go.Proofs.YtafeadplmcoilaaDoor.Nu
end Go.Proofs.YtafeadplmcoilaaDoor.Nu

namespace Go.Proofs.YtafeadplmcoilaaDoor.Nu
end Go.Proofs.YtafeadplmcoilaaDoor.Nu

namespace Go.Proofs.YtafeadplmcoilaaDoor.Nu
open Go

end Go.Proofs.YtafeadplmcoilaaDoor.Nu

namespace Go.Proofs.YtafeadplmcoilaaDoor.Nu
open Go

end Go.Proofs.YtafeadplmcoilaaDoor.Nu

namespace Go.Proofs.YtafeadplmcoilaaDoor.Nu
open Go.RowKit

end Go.Proofs.YtafeadplmcoilaaDoor.Nu

namespace Go.Proofs.YtafeadplmcoilaaDoor.Nu
open Go.RowKit Go.Shelf

attribute [local go_sem] Oper.semAt_some

end Go.Proofs.YtafeadplmcoilaaDoor.Nu

namespace Go.Proofs.YtafeadplmcoilaaDoor.Nu
open Go.RowKit Go.Shelf

end Go.Proofs.YtafeadplmcoilaaDoor.Nu

namespace Go.Proofs.YtafeadplmcoilaaDoor.Nu
open Go.RowKit

end Go.Proofs.YtafeadplmcoilaaDoor.Nu

namespace Go.Proofs.YtafeadplmcoilaaDoor.Nu
open Go.RowKit

end Go.Proofs.YtafeadplmcoilaaDoor.Nu

namespace Go.Proofs.YtafeadplmcoilaaDoor.Nu
open Go.RowKit

end Go.Proofs.YtafeadplmcoilaaDoor.Nu

namespace Go.Proofs.YtafeadplmcoilaaDoor.Nu
open Go.RowKit

section
variable (A : Option Addr) (n c : Nat) (l : List Int) (w : World)

variable (hr : Rd w w.heap.size .u8 A n l) (hb : Byt l) (hnc : n ≤ c) (hn : n ≤ 1099511627776)
include hr hb hnc hn
end
end Go.Proofs.YtafeadplmcoilaaDoor.Nu

namespace Go.Proofs.YtafeadplmcoilaaDoor.Nu
open Go.RowKit

section
variable {P : Program} {w : World} {base B : Nat} {t ty e : TypeId} {i : TypeInfo} {z : Value} {bytes n m c : Nat} {v : Value} {xs : List Value} {A : Option Addr} {R : List Int} {k : IntKind}

end

end Go.Proofs.YtafeadplmcoilaaDoor.Nu

namespace Go.Proofs.YtafeadplmcoilaaDoor.Nu
open Go.RowKit Go.Shelf

attribute [local go_sem] Oper.semAt_some

/-- Short's answer, as a whole. -/
def ShortOut (l : List Int) (e : Ending) (w' : World) : Prop :=
  ∃ v, e = .returned (.tuple #[v, .int .i64 (if allNum l then 0 else 2)]) ∧ Gives .u8 (if allNum l then shortsOf l else []) v w'
theorem ShortOut.no {l : List Int} {w' : World} (h : allNum l = false) : ShortOut l (.returned (.tuple #[.slice none 0 0, .int .i64 2])) w' :=
  ⟨_, by rw [h]; rfl, by rw [h]; exact ⟨none, 0, rfl, Nat.le_refl _, Rd.nil⟩⟩
theorem ShortOut.yes {l : List Int} {v : Value} {w' : World} (h : allNum l = true) (hg : Gives .u8 (shortsOf l) v w') : ShortOut l (.returned (.tuple #[v, .int .i64 0])) w' :=
  ⟨_, by rw [h]; rfl, by rw [h]; exact hg⟩

/-- What holds at the head of Short's loop. -/
def SInv (A : Option Addr) (n c : Nat) (l : List Int) (w : World) (bB : Nat) (a' : Act) (w' : World) : Prop :=
  ∃ (k : Nat) (ds : List Nat) (v u6 u7 u8 u18 u19 u20 u21 u22 u23 u24 u25 u26 u27 u28 u29 u30 u31 u32 u33 : Value), k ≤ n ∧ Boxed w' bB 27 v ∧ w'.ownsRow w.heap.size 5 1 v (shortsOf (l.take k)).length ((shortsOf (l.take k)).map (Value.int .u8)) ∧
    Below w.heap.size w w' ∧ Marks w.heap.size ds w' ∧
    a' = { tmps := #[.slice A n c, undef, .slice none 0 0, .int .i64 0, .pointer (some ⟨bB, 0, none⟩), undef, u6, u7, u8, .slice A n c, .bool true, .bool false, .slice A n c, .int .i64 n, .slice (some ⟨w.heap.size, 0, none⟩) 0 n, .slice A n c, .int .i64 n, .int .i64 k, u18, u19, u20, u21, u22, u23, u24, u25, u26, u27, u28, u29, u30, u31, u32, u33, undef], defers := ds.map mark }

set_option maxRecDepth 100000 in
set_option maxHeartbeats 2000000 in
theorem short_in (A : Option Addr) (n c : Nat) (l : List Int) (w : World) (hr : Rd w w.heap.size .i64 A n l) (hn : n ≤ 1099511627776) :
    CallsIn Fence.wide 4 Tryd.prog 30 #[.slice A n c] w fun e w' => ShortOut l e w' ∧ Below w.heap.size w w' := by
  obtain ⟨i0, hi, hz0, hz1, hz2⟩ := info_parts info_byte
  have Hl := Lib.hid hr.1
  refine callsIn_of_wp_marks Tryd.func30 rfl trivial ?_ rfl
  simp only [Tryd.ntmps30, List.size_toArray, List.length_cons, List.length_nil, Nat.reduceAdd, Nat.reduceSub, Array.replicate_succ, Array.replicate_zero, List.push_toArray, List.append_toArray, List.nil_append, List.cons_append]
  gi_wp2_with fail
  refine ⟨trivial, ?_⟩
  refine (callsIn_wide.2 (is_any A n c l w hr (by omega))).mono ?_
  rintro e w' ⟨rfl, rfl⟩
  cases hall : allNum l
  · have Hall := Lib.hid hall
    clear hall
    gi_wp2
    refine ⟨_, results_tmp2 rfl _ _ _, ?_, Below.refl _ _⟩
    exact ShortOut.no Hall.out
  · have Hall := Lib.hid hall
    clear hall
    gi_wp2_with (gi_at_make; refine wpListIn_make_own _ rfl _ _ 27 rfl w.heap.size 5 i0 (.int .u8 0) 1 Tryd.underlying27 hi hz0 hz1 _ _ _ n rfl rfl rfl (by rw [hz2]; omega) (by unfold maxLen; omega) (Nat.le_refl _) ?_; intro w1 hown1 hgrow1)
    obtain ⟨bB, hbB⟩ : ∃ bB, bB = w1.heap.size := ⟨_, rfl⟩
    rw [← hbB]
    have HbB := Lib.hid hbB
    clear hbB
    refine wpIn_loop (SInv A n c l w bB) (fun a' _ => n - (intOf (a'.tmps.getD 17 undef)).toNat) ?_ ?_
    · refine ⟨0, [], .slice (some ⟨w.heap.size, 0, none⟩) 0 n, _, _, _, _, _, _, _, _, _, _, _, _, _, _, _, _, _, _, _, Nat.zero_le _, ?_, ?_, ?_, ⟨List.nodup_nil, fun d hd => by cases hd⟩, rfl⟩
      · rw [HbB.out]; exact Boxed.new w1 _ _
      · exact hown1.alloc _
      · exact ((Below.refl _ w).grown hgrow1 (Nat.le_refl _) (fun k e => by cases e)).alloc hgrow1.size _
    · rintro a' wr ⟨k, ds, v, u6, u7, u8, u18, u19, u20, u21, u22, u23, u24, u25, u26, u27, u28, u29, u30, u31, u32, u33, hk, hv, hrow, hB, hM, rfl⟩
      by_cases hlt : k < n
      · have hx := allNum_at Hall.out (k := k) (by rw [Hl.out]; exact hlt)
        obtain ⟨b, off, rfl, hbl, hcell⟩ := (hr.on hB hB.size).at_ (by omega)
        have hck := hcell k hlt
        clear hcell
        gi_wp2_with (refine ⟨trivial, ?_⟩; gi_at_call 51; refine (callsIn_wide.2 (digits_any (l[k]?.getD 0) 7 1 _ hx (by omega))).mono ?_; rintro e w2 ⟨rfl, hbn, hbw, hbm, hsz2, hbel2⟩)
        obtain ⟨s, hs⟩ : ∃ s, s = wr.heap.size := ⟨_, rfl⟩
        rw [← hs] at hbn hbw hbm hsz2 hbel2
        rw [← hs]
        obtain ⟨hc1, hc2, hc3⟩ := howMany_7 hx
        rw [hc1] at hbm
        have hbs : bB < s := by rw [hs]; exact hv.lt
        have hwb : w.heap.size ≤ bB := by rw [HbB.out]; exact hgrow1.size
        have hds : ∀ d ∈ ds, d < s := fun d hd => by rw [hs]; exact (Array.getElem?_eq_some_iff.1 (hM.2 d hd).2).1
        have hrow2 : w2.ownsRow w.heap.size 5 1 v (shortsOf (l.take k) ++ [].map putShort).length ((shortsOf (l.take k) ++ [].map putShort).map (Value.int .u8)) := by
          simp only [List.map_nil, List.append_nil]
          exact hrow.kept (row := none) ⟨hbel2.os, hbel2.tape, hbel2.output, by rw [hsz2]; omega, fun j hj _ => hbel2.block j (by rw [hs]; exact hj)⟩ (by
            rcases hrow.2 with ⟨rfl, _⟩ | ⟨g, cap, cur, rfl, _⟩
            · exact .inl rfl
            · exact .inr (by simp [Value.ownBlock]))
        have h0 : SI w bB (shortsOf (l.take k)) ds s (cnt (l[k]?.getD 0) : Int) (l[k]?.getD 0) 7 putShort [] w2 :=
          ⟨⟨v, (hbel2.block bB hbs).trans hv, hrow2⟩, hB.trans (hbel2.mono (by rw [hs]; exact hB.size)), fun d hd => (hbel2.block d (hds d hd)).trans (hM.2 d hd).2, hbn, hbw, hbm⟩
        have hacc : (shortsOf (l.take k)).length ≤ 5 * k := by
          have h1 := shortsOf_length (allNum_take Hall.out k)
          have h2 : (l.take k).length ≤ k := List.length_take_le _ _
          omega
        have Hs := Lib.hid hs
        clear hs
        refine wpIn_rangeFunc_ownG rfl (by omega) (gf := 65) (lb := #[.pointer (some ⟨s + 2, 0, none⟩), .pointer (some ⟨s, 0, none⟩), .pointer (some ⟨s + 1, 0, none⟩)]) rfl trivial (enters_of Tryd.func65 (by kernel_rfl) rfl)
          (iter_stops (s + 2) s (s + 1) (cnt (l[k]?.getD 0)) 7 (l[k]?.getD 0) hx (.inl rfl) ⟨hc2, hc3⟩ w2 hbm hbn hbw) (fun h h' => h.trans h') (kp3_b hsz2) (Below.refl _ _) (fun _ => rfl)
          (SI w bB (shortsOf (l.take k)) ds s (cnt (l[k]?.getD 0) : Int) (l[k]?.getD 0) 7 putShort) (fun _ _ _ => False) (SI.own (fun d hd => by have := hds d hd; omega) (by omega)) (fun _ _ _ _ _ h _ _ => h) h0
          (fun y => { tmps := #[.slice (some ⟨b, off, none⟩) n c, undef, .slice none 0 0, .int .i64 0, .pointer (some ⟨bB, 0, none⟩), undef, .int .i64 (l[k]?.getD 0), .int .i64 y.1, .int .u8 y.2, .slice (some ⟨b, off, none⟩) n c, .bool true, .bool false, .slice (some ⟨b, off, none⟩) n c, .int .i64 n, .slice (some ⟨w.heap.size, 0, none⟩) 0 n, .slice (some ⟨b, off, none⟩) n c, .int .i64 n, .int .i64 k, .bool true, .pointer (some ⟨b, off + k, none⟩), .int .i64 (l[k]?.getD 0), .int .i64 (l[k]?.getD 0), .func (.func 65) #[] #[.pointer (some ⟨s + 2, 0, none⟩), .pointer (some ⟨s, 0, none⟩), .pointer (some ⟨s + 1, 0, none⟩)], .int .i64 y.1, .int .u8 y.2, u25, u26, u27, u28, u29, u30, u31, u32, u33, undef], defers := [] }) ?assign ?body ?done ?stop
        case assign =>
          intro lp y W K hK
          gi_wp2
          exact hK
        case body =>
          rintro lp pre y W ⟨⟨v2, hv2, hrw⟩, hB2, hM2, b1, b2, b3⟩ hlt2
          have hcv := hv2.cell
          have hfv := hv2.frozen
          have hlen : (shortsOf (l.take k) ++ pre.map putShort).length ≤ 5 * n + 5 := by
            rw [List.length_append, List.length_map]
            omega
          obtain ⟨q, hq⟩ : ∃ q, (shortsOf (l.take k) ++ pre.map putShort).length = q := ⟨_, rfl⟩
          rw [hq] at hrw hlen
          have Hq := Lib.hid hq
          clear hq
          by_cases hy : 0 < y.1
          · have Hf : Hid (putShort y = (y.2 + 128) % 256) := by unfold putShort; rw [if_pos hy]; rfl
            gi_wp2_with (gi_at_builtin; refine wpListIn_append_own _ rfl _ _ 27 rfl w.heap.size 5 i0 (.int .u8 0) 1 1 Tryd.underlying27 hi hz0 hz1 hz2 rfl (by decide) _ _ _ rfl (hrw.alloc _) ⟨W.heap.size, 0, none⟩ 1 1 [.int .u8 ((y.2 + 128) % 256)] rfl rfl (cell_one_new _ _ _) (by simp [Value.oneCell']) (by unfold maxLen; omega) (by omega) (by have := hB2.size; simp; omega) ?_; intro v' w3 hown' hgrow _; obtain ⟨g', cap', rfl⟩ := ownsRow_succ hown'; obtain ⟨hv1, _⟩ := hv2.appended (by decide) hrw hB2.size hwb hown' hgrow; have hc1 := hv1.cell; have hf1 := hv1.frozen)
            exact SI.step _ hbs hwb hv2 (by rw [Hq.out]; exact hrw) hB2 hM2 b1 b2 b3 hown' (by rw [Hq.out]) (by rw [Hf.out]) hgrow
          · have Hf : Hid (putShort y = y.2) := by unfold putShort; rw [if_neg hy]; rfl
            gi_wp2_with (gi_at_builtin; refine wpListIn_append_own _ rfl _ _ 27 rfl w.heap.size 5 i0 (.int .u8 0) 1 1 Tryd.underlying27 hi hz0 hz1 hz2 rfl (by decide) _ _ _ rfl (hrw.alloc _) ⟨W.heap.size, 0, none⟩ 1 1 [.int .u8 (y.2)] rfl rfl (cell_one_new _ _ _) (by simp [Value.oneCell']) (by unfold maxLen; omega) (by omega) (by have := hB2.size; simp; omega) ?_; intro v' w3 hown' hgrow _; obtain ⟨g', cap', rfl⟩ := ownsRow_succ hown'; obtain ⟨hv1, _⟩ := hv2.appended (by decide) hrw hB2.size hwb hown' hgrow; have hc1 := hv1.cell; have hf1 := hv1.frozen)
            exact SI.step _ hbs hwb hv2 (by rw [Hq.out]; exact hrw) hB2 hM2 b1 b2 b3 hown' (by rw [Hq.out]) (by rw [Hf.out]) hgrow
        case done =>
          rintro D ys W hD rfl ⟨⟨v2, hv2, hrw⟩, hB2, hM2, b1, b2, b3⟩ hK
          have hnew : (shortsOf (l.take k) ++ (upTo (roundAt (l[k]?.getD 0) 7 (cnt (l[k]?.getD 0))) (cnt (l[k]?.getD 0))).map putShort) = shortsOf (l.take (k + 1)) := by
            rw [take_snoc (by rw [Hl.out]; exact hlt), shortsOf_snoc]; rfl
          rw [hnew] at hrw
          have hM3 : Marks w.heap.size (D :: ds) W := by
            refine ⟨List.nodup_cons.2 ⟨fun hd => ?_, hM.1⟩, fun d hd => ?_⟩
            · have := hds D hd; omega
            · rcases List.mem_cons.1 hd with rfl | hd
              · exact ⟨by omega, hK⟩
              · exact ⟨(hM.2 d hd).1, hM2 d hd⟩
          clear hnew hK
          gi_wp2
          refine ⟨⟨k + 1, D :: ds, v2, _, _, _, _, _, _, _, _, _, _, _, _, _, _, _, _, _, _, _, hlt, hv2, hrw, hB2, hM3, rfl⟩, ?_⟩
          simp [intOf]
          omega
        case stop =>
          rintro D cc pre W _ _ h _
          exact h.elim
      · obtain rfl : k = n := by omega
        have hfull : l.take k = l := List.take_of_length_le (by rw [Hl.out]; exact Nat.le_refl _)
        rw [hfull] at hrow
        clear hfull
        have hcv := hv.cell
        gi_wp2
        refine leaves_marks ds wr hM fun w' hw' => ⟨_, results_tmp2 rfl _ _ _, ?_, hB.trans hw'.1⟩
        exact ShortOut.yes Hall.out (Gives.own (own_kept hrow hw'))
end Go.Proofs.YtafeadplmcoilaaDoor.Nu

namespace Go.Proofs.YtafeadplmcoilaaDoor.Nu
open Go.RowKit

section
variable (A : Option Addr) (n c : Nat) (l : List Int) (w : World)

theorem short_yes {R : List Int} {q : Nat} (hr : Rd w w.heap.size .i64 A n l) (hn : n ≤ 1099511627776) (ha : allNum l = true) (hR : shortsOf l = R) (hq : R.length = q) :
    Calls Tryd.prog 30 #[.slice A n c] w fun e w' => ∃ A' c', e = .returned (.tuple #[.slice A' q c', .int .i64 0]) ∧ Row .u8 R q A' c' w' ∧ Below w.heap.size w w' := by
  refine (callsIn_wide.1 (short_in A n c l w hr hn)).mono ?_
  rintro e w' ⟨⟨v, rfl, hg⟩, hb⟩
  rw [ha] at hg
  obtain ⟨A', c', rfl, h⟩ := hg.row hR hq
  exact ⟨A', c', by rw [ha]; rfl, h, hb⟩
theorem short_no (hr : Rd w w.heap.size .i64 A n l) (hn : n ≤ 1099511627776) (ha : allNum l = false) :
    Calls Tryd.prog 30 #[.slice A n c] w fun e w' => ∃ A' c', e = .returned (.tuple #[.slice A' 0 c', .int .i64 2]) ∧ Row .u8 [] 0 A' c' w' ∧ Below w.heap.size w w' := by
  refine (callsIn_wide.1 (short_in A n c l w hr hn)).mono ?_
  rintro e w' ⟨⟨v, rfl, hg⟩, hb⟩
  rw [ha] at hg
  obtain ⟨A', c', rfl, h⟩ := hg.row rfl (q := 0) rfl
  exact ⟨A', c', by rw [ha]; rfl, h, hb⟩
variable (hr : Rd w w.heap.size .u8 A n l) (hb : Byt l) (hnc : n ≤ c) (hn : n ≤ 1099511627776)
include hr hb hnc hn
end
end Go.Proofs.YtafeadplmcoilaaDoor.Nu


namespace Go.Proofs.YtafeadplmcoilaaDoor.Nu
open Go.RowKit

/-- A scope with one label: what holds at the label holds at its first coming and at every jump; so the code behind it is walked once. -/
theorem scope_once {P : Program} {a : Act} {w : World} {Q : Exit → Act → World → Prop} {c rest : Code} (l : Nat) (J : Act → World → Prop) (μ : Act → World → Nat) (hf : findLabel c l = some (.seq .skip rest))
    (first : (∀ a w, J a w → rest.wp P (Exit.jump l J Q) a w) → c.wp P (Exit.jump l J Q) a w)
    (pass : ∀ a w, J a w → rest.wp P (Exit.jump l (fun a' w' => J a' w' ∧ μ a' w' < μ a w) Q) a w) : (Code.scope c).wp P Q a w :=
  wp_scope_jumps l J μ hf (first fun a w h => wp_mono (pass a w h) fun e a' w' hq => by
    cases e with
    | goto l' => exact ⟨hq.1, hq.2.1⟩
    | _ => exact hq) fun a w h => wp_seq (wp_skip (pass a w h))

set_option maxRecDepth 100000 in
set_option maxHeartbeats 400000 in
theorem take_any (A : Option Addr) (n c : Nat) (l : List Int) (w : World) (hr : Rd w w.heap.size .u8 A n l) (hb : Byt l) (hn : n ≤ 140737488355328) :
    Calls Tryd.prog 68 #[.slice A n c] w fun e w' => e = .returned (.tuple #[.int .i64 (takeP l).1, .int .i64 (takeP l).2.1, .int .i64 (takeP l).2.2]) ∧ w = w' := by
  go_enter Tryd.func68, Tryd.ntmps68
  go_wp2
  refine scope_once 0 (fun a' w' => w' = w ∧ ∃ (u : Nat) (s : Int) (u6 u7 u8 u9 u10 u11 u12 u13 u14 u15 u16 u17 u18 u19 u20 u21 u22 u23 u24 u25 u26 u27 u28 u29 u30 u31 u32 u33 u34 u35 u36 u37 u38 u39 : Value), AtNext n l u s ∧
    a' = { tmps := #[.slice A n c, undef, .int .i64 0, .int .i64 u, .int .i64 0, .int .i64 s, u6, u7, u8, u9, u10, u11, u12, u13, u14, u15, u16, u17, u18, u19, u20, u21, u22, u23, u24, u25, u26, u27, u28, u29, u30, u31, u32, u33, u34, u35, u36, u37, u38, u39], defers := [] })
    (fun a' _ => 5 - (intOf (a'.tmps.getD 3 undef)).toNat) rfl ?_ ?_
  · intro hrest
    by_cases h0 : 0 < n
    · obtain ⟨b, off, rfl, hB, hc⟩ := hr.at_ h0
      have hc0 := hc 0 h0
      simp only [Nat.add_zero] at hc0
      clear hc
      by_cases h1 : l[0]?.getD 0 = 128
      · have Hf := Lib.hid (takeP_head (by rw [hr.1]; exact h0) h1)
        go_wp2
        simp only [Exit.jump]
        go_ret3
        exact ⟨ret_num (by rw [Hf.out]) (by rw [Hf.out]; rfl) (by rw [Hf.out]), rfl⟩
      · have Hf := Lib.hid (AtNext.first hr.1 (.inr h1))
        go_wp2
        go_step3
        rename_i hK
        exact hK _ _ (hrest _ _ ⟨rfl, 0, 0, _, _, _, _, _, _, _, _, _, _, _, _, _, _, _, _, _, _, _, _, _, _, _, _, _, _, _, _, _, _, _, _, _, _, Hf.out, rfl⟩)
    · have Hf := Lib.hid (AtNext.first hr.1 (.inl (by omega)))
      go_wp2
      go_step3
      rename_i hK
      exact hK _ _ (hrest _ _ ⟨rfl, 0, 0, _, _, _, _, _, _, _, _, _, _, _, _, _, _, _, _, _, _, _, _, _, _, _, _, _, _, _, _, _, _, _, _, _, _, Hf.out, rfl⟩)
  · rintro a' w' ⟨rfl, u, s, u6, u7, u8, u9, u10, u11, u12, u13, u14, u15, u16, u17, u18, u19, u20, u21, u22, u23, u24, u25, u26, u27, u28, u29, u30, u31, u32, u33, u34, u35, u36, u37, u38, u39, hat, rfl⟩
    have hu5 : u ≤ 5 := hat.2.1
    have hun : u ≤ n := hat.2.2.1
    have hs0 : 0 ≤ s := hat.2.2.2.1
    have hx := hb.at_ u
    by_cases h5 : u < 5
    · have hsb := hat.bound h5
      by_cases hn2 : u < n
      · obtain ⟨b, off, rfl, hB, hc⟩ := hr.at_ (by omega)
        have hcu := hc u hn2
        clear hc
        by_cases hd : l[u]?.getD 0 < 128
        · by_cases hbig : 1073741824 < s * 128 + l[u]?.getD 0
          · have Hf := Lib.hid (hat.big h5 hn2 hd hbig)
            have Hat := Lib.hid hat
            clear hat hr hb
            go_wp2
            simp only [Exit.jump]
            go_ret3
            exact ⟨ret_num (by rw [Hf.out]) (by rw [Hf.out]; rfl) (by rw [Hf.out]), rfl⟩
          · have Hf := Lib.hid (hat.done h5 hn2 hd (by omega))
            have Hat := Lib.hid hat
            clear hat hr hb
            go_wp2
            simp only [Exit.jump]
            go_ret3
            exact ⟨ret_num (by rw [Hf.out]; show _ = s * 128 + l[u]?.getD 0; omega) (by rw [Hf.out]; rfl) (by rw [Hf.out]), rfl⟩
        · have Hf := Lib.hid (hat.more h5 hn2 (by omega) hx.2)
          have Hat := Lib.hid hat
          clear hat hr hb
          go_wp2
          go_step3
          refine ⟨rfl, ⟨rfl, u + 1, _, _, _, _, _, _, _, _, _, _, _, _, _, _, _, _, _, _, _, _, _, _, _, _, _, _, _, _, _, _, _, _, _, _, _, Hf.out, rfl⟩, ?_⟩
          simp [intOf]
          omega
      · have Hf := Lib.hid (hat.short h5 (by omega))
        have Hat := Lib.hid hat
        clear hat hr hb
        go_wp2
        simp only [Exit.jump]
        go_ret3
        exact ⟨ret_num (by rw [Hf.out]) (by rw [Hf.out]; rfl) (by rw [Hf.out]), rfl⟩
    · have Hf := Lib.hid (hat.five (by omega))
      have Hat := Lib.hid hat
      clear hat hr hb
      go_wp2
      simp only [Exit.jump]
      go_ret3
      exact ⟨ret_num (by rw [Hf.out]) (by rw [Hf.out]; rfl) (by rw [Hf.out]), rfl⟩
end Go.Proofs.YtafeadplmcoilaaDoor.Nu

namespace Go.Proofs.YtafeadplmcoilaaDoor.Nu
open Go.RowKit

/-- Takes's answer, as a whole. -/
def ManyOut (l : List Int) (many : Int) (e : Ending) (w' : World) : Prop :=
  ∃ v v', e = .returned (.tuple #[v, v', .int .i64 (takesP l many).2.2]) ∧ Gives .i64 (takesP l many).1 v w' ∧ Gives .u8 (takesP l many).2.1 v' w'
theorem ManyOut.mk {l : List Int} {many : Int} {e : Int} {a r : List Int} {v v' : Value} {w' : World} (h : takesP l many = (a, r, e)) (hg : Gives .i64 a v w') (hg' : Gives .u8 r v' w') : ManyOut l many (.returned (.tuple #[v, v', .int .i64 e])) w' := by
  refine ⟨v, v', ?_, ?_, ?_⟩
  · rw [h]
  · rw [h]; exact hg
  · rw [h]; exact hg'
theorem info_int : (Tryd.prog.info? 3).map (fun i => (i.zero, i.size, i.bytes)) = some (some (.int .i64 0), 1, 8) := by kernel_rfl

/-- What is owned in the round's world. -/
def Held (w : World) (v : Value) (acc : List Int) (wr : World) : Prop := wr.ownsRow w.heap.size 3 1 v acc.length (acc.map (Value.int .i64)) ∧ Below w.heap.size w wr

set_option maxRecDepth 100000 in
set_option maxHeartbeats 1000000 in
theorem takes_any (A : Option Addr) (n c : Nat) (l : List Int) (many : Int) (w : World) (hr : Rd w w.heap.size .u8 A n l) (hb : Byt l) (hnc : n ≤ c) (hn : n ≤ 1099511627776) :
    Calls Tryd.prog 59 #[.slice A n c, .int .i64 many] w fun e w' => ManyOut l many e w' ∧ Below w.heap.size w w' := by
  obtain ⟨i0, hi, hz0, hz1, hz2⟩ := info_parts info_int
  have Hl := Lib.hid hr.1
  go_enter Tryd.func59, Tryd.ntmps59
  go_wp2_with fail
  refine scope_once 0 (fun a' w' => ∃ (p : Nat) (acc : List Int) (v u8 u9 u10 u11 u12 u13 u14 u15 u16 u17 u18 u19 u20 u21 u22 u23 u24 u25 u26 u27 u28 u29 u30 u31 u32 u33 u34 u35 u36 : Value), AtMany l many p acc ∧ Held w v acc w' ∧
    a' = { tmps := #[.slice A n c, .int .i64 many, undef, undef, v, .slice none 0 0, .int .i64 0, .int .i64 p, u8, u9, u10, u11, u12, u13, u14, u15, u16, u17, u18, u19, u20, u21, u22, u23, u24, u25, u26, u27, u28, u29, u30, u31, u32, u33, u34, u35, u36], defers := [] })
    (fun a' _ => n - (intOf (a'.tmps.getD 7 undef)).toNat) rfl ?_ ?_
  · intro hrest
    go_wp2_with fail
    go_step3
    rename_i hK
    exact hK _ _ (hrest _ _ ⟨0, [], _, _, _, _, _, _, _, _, _, _, _, _, _, _, _, _, _, _, _, _, _, _, _, _, _, _, _, _, _, _, AtMany.first l many, ⟨World.ownsRow_nil _ _ _ _, Below.refl _ _⟩, rfl⟩)
  · rintro a' wr ⟨p, acc, v, u8, u9, u10, u11, u12, u13, u14, u15, u16, u17, u18, u19, u20, u21, u22, u23, u24, u25, u26, u27, u28, u29, u30, u31, u32, u33, u34, u35, u36, hat, ⟨hown, hbel⟩, rfl⟩
    obtain ⟨B, d, rfl, hBd, hrd⟩ := own_rd hown
    have hp : p ≤ n := by have := hat.1; rw [Hl.out] at this; exact this
    have hacc : acc.length ≤ p := hat.2.1
    have hrw : Rd wr wr.heap.size .u8 A n l := hr.on hbel hbel.size
    clear hrd
    by_cases hm : many ≤ acc.length
    · have H := Lib.hid (hat.full hm)
      by_cases hcm : c = p
      · have Hd := Lib.hid (List.drop_of_length_le (i := p) (l := l) (by rw [Hl.out]; omega))
        subst hcm
        go_wp2_with fail
        refine (clone_any _ _ _ [] _ Rd.nil (by omega)).mono ?_
        rintro e w' ⟨v', rfl, hg, hb2⟩
        go_wp2_with fail
        simp only [Exit.jump]
        go_ret3
        exact ⟨ManyOut.mk H.out ((Gives.own hown).on hb2) (by rw [Hd.out]; exact hg), hbel.trans (hb2.mono hbel.size)⟩
      · have hcut := hrw.cut_off hp hnc hcm
        go_wp2_with fail
        refine (clone_any _ _ _ _ _ hcut (by omega)).mono ?_
        rintro e w' ⟨v', rfl, hg, hb2⟩
        go_wp2_with fail
        simp only [Exit.jump]
        go_ret3
        exact ⟨ManyOut.mk H.out ((Gives.own hown).on hb2) hg, hbel.trans (hb2.mono hbel.size)⟩
    · by_cases hcm : c = p
      · have Hd := Lib.hid (List.drop_of_length_le (i := p) (l := l) (by rw [Hl.out]; omega))
        have H := Lib.hid (hat.err (by omega) (e := 10) (by rw [Hd.out]; rfl) (by omega))
        subst hcm
        go_wp2_with fail
        refine (take_any _ _ _ [] _ Rd.nil (fun _ h => by cases h) (by omega)).mono ?_
        rintro e w' ⟨rfl, rfl⟩
        go_wp2_with fail
        simp only [Exit.jump]
        go_ret3
        exact ⟨ManyOut.mk H.out (Gives.nil _ _) (Gives.nil _ _), hbel⟩
      · have hcut := hrw.cut_off hp hnc hcm
        go_wp2_with fail
        refine (take_any _ _ _ _ _ hcut (hb.drop p) (by omega)).mono ?_
        rintro e w' ⟨rfl, rfl⟩
        rcases takeP_fine (hb.drop p) with (h | h) | ⟨x, m, h, h1, h2, h3, h4, h5⟩
        · have H := Lib.hid (hat.err (by omega) h (by omega))
          rw [h]
          clear h
          go_wp2_with fail
          simp only [Exit.jump]
          go_ret3
          exact ⟨ManyOut.mk H.out (Gives.nil _ _) (Gives.nil _ _), hbel⟩
        · have H := Lib.hid (hat.err (by omega) h (by omega))
          rw [h]
          clear h
          go_wp2_with fail
          simp only [Exit.jump]
          go_ret3
          exact ⟨ManyOut.mk H.out (Gives.nil _ _) (Gives.nil _ _), hbel⟩
        · rw [List.length_drop, Hl.out] at h5
          have H := Lib.hid (hat.next (by omega) h h3 (by rw [Hl.out]; exact h5))
          rw [h]
          clear h
          have hsz := hbel.size
          go_wp2_with (at_builtin; refine wpList_append_own _ rfl _ _ 59 rfl w.heap.size 3 i0 (.int .i64 0) 1 8 Tryd.underlying59 hi hz0 hz1 hz2 rfl (by decide) _ _ _ rfl (hown.alloc _) ⟨wr.heap.size, 0, none⟩ 1 1 [.int .i64 x] rfl rfl (cell_one_new _ _ _) (by simp [Value.oneCell']) (by unfold maxLen; omega) (by omega) (by simp; omega) ?_; intro v' w1 hown' hgrow _)
          have hb1 : Below w.heap.size w w1 := (hbel.alloc hsz _).grown hgrow (by simp; omega) (fun k hk => (hown.lt k hk).1)
          go_step3
          have e1 : ((p : Int) + (m : Int)) = ((p + m : Nat) : Int) := by omega
          rw [e1]
          refine ⟨rfl, ⟨p + m, acc ++ [x], v', _, _, _, _, _, _, _, _, _, _, _, _, _, _, _, _, _, _, _, _, _, _, _, _, _, _, _, _, _, H.out, ⟨by simpa using hown', hb1⟩, rfl⟩, ?_⟩
          simp [intOf]
          omega
end Go.Proofs.YtafeadplmcoilaaDoor.Nu

namespace Go.Proofs.YtafeadplmcoilaaDoor.Nu
open Go.RowKit

section
variable (A : Option Addr) (n c : Nat) (l : List Int) (w : World)

variable (hr : Rd w w.heap.size .u8 A n l) (hb : Byt l) (hnc : n ≤ c) (hn : n ≤ 1099511627776)
include hr hb hnc hn
theorem takes_out {many e : Int} {R S : List Int} {q p : Nat} (h : takesP l many = (R, S, e)) (hq : R.length = q) (hp : S.length = p) :
    Calls Tryd.prog 59 #[.slice A n c, .int .i64 many] w fun e' w' => ∃ A' c' A'' c'', e' = .returned (.tuple #[.slice A' q c', .slice A'' p c'', .int .i64 e]) ∧ Row .i64 R q A' c' w' ∧ Row .u8 S p A'' c'' w' ∧ Below w.heap.size w w' := by
  refine (takes_any A n c l many w hr hb hnc hn).mono ?_
  rintro e w' ⟨⟨v, v', rfl, hg, hg'⟩, hb⟩
  rw [h] at hg hg'
  obtain ⟨A', c', rfl, h'⟩ := hg.row rfl hq
  obtain ⟨A'', c'', rfl, h''⟩ := hg'.row rfl hp
  exact ⟨A', c', A'', c'', by rw [h], h', h'', hb⟩
end
end Go.Proofs.YtafeadplmcoilaaDoor.Nu

