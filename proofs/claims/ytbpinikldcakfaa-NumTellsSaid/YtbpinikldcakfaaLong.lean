/-
  num.Long: its contract.
-/
import Derived.Test.YtbpinikldcakfaaIter
import Derived.Test.YtbpinikldcakfaaBody
import Derived.Test.YtbpinikldcakfaaIs
import Derived.Test.YtbpinikldcakfaaTakeOut
import Derived.Test.YtbpinikldcakfaaShort
namespace Go.Proofs.Ytbpinikldcakfaa
open Go.RowKit Go.Shelf

attribute [local go_sem] Oper.semAt_some

/-- Long's answer, as a whole. -/
def LongPut (l : List Int) (e : Ending) (w' : World) : Prop :=
  ∃ v, e = .returned (.tuple #[v, .int .i64 (if allNum l then 0 else 2)]) ∧ Gives .u8 (if allNum l then longsOf l else []) v w'
theorem LongPut.no {l : List Int} {w' : World} (h : allNum l = false) : LongPut l (.returned (.tuple #[.slice none 0 0, .int .i64 2])) w' :=
  ⟨_, by rw [h]; rfl, by rw [h]; exact ⟨none, 0, rfl, Nat.le_refl _, Rd.nil⟩⟩
theorem LongPut.yes {l : List Int} {v : Value} {w' : World} (h : allNum l = true) (hg : Gives .u8 (longsOf l) v w') : LongPut l (.returned (.tuple #[v, .int .i64 0])) w' :=
  ⟨_, by rw [h]; rfl, by rw [h]; exact hg⟩

/-- What holds at the head of Long's loop. -/
def LInv (A : Option Addr) (n c : Nat) (l : List Int) (w : World) (bB : Nat) (a' : Act) (w' : World) : Prop :=
  ∃ (k : Nat) (ds : List Nat) (v u6 u8 u19 u20 u21 u22 u23 u24 u25 u26 u27 u28 u29 u30 : Value), k ≤ n ∧ Boxed w' bB 23 v ∧ w'.ownsRow w.heap.size 5 1 v (longsOf (l.take k)).length ((longsOf (l.take k)).map (Value.int .u8)) ∧
    Below w.heap.size w w' ∧ Marks w.heap.size ds w' ∧
    a' = { tmps := #[.slice A n c, undef, .slice none 0 0, .int .i64 0, .pointer (some ⟨bB, 0, none⟩), undef, u6, undef, u8, .slice A n c, .bool true, .bool false, .slice A n c, .int .i64 n, .int .i64 (5 * n), .slice (some ⟨w.heap.size, 0, none⟩) 0 (5 * n), .slice A n c, .int .i64 n, .int .i64 k, u19, u20, u21, u22, u23, u24, u25, u26, u27, u28, u29, u30, undef], defers := ds.map mark }

set_option maxRecDepth 100000 in
set_option maxHeartbeats 2000000 in
theorem long_in (A : Option Addr) (n c : Nat) (l : List Int) (w : World) (hr : Rd w w.heap.size .i64 A n l) (hn : n ≤ 1099511627776) :
    CallsIn Fence.wide 4 Try.prog 11 #[.slice A n c] w fun e w' => LongPut l e w' ∧ Below w.heap.size w w' := by
  obtain ⟨i0, hi, hz0, hz1, hz2⟩ := info_parts info_byte
  have Hl := Lib.hid hr.1
  refine callsIn_of_wp_marks Try.func11 rfl trivial ?_ rfl
  simp only [Try.ntmps11, List.size_toArray, List.length_cons, List.length_nil, Nat.reduceAdd, Nat.reduceSub, Array.replicate_succ, Array.replicate_zero, List.push_toArray, List.append_toArray, List.nil_append, List.cons_append]
  gi_wp2_with fail
  refine ⟨trivial, ?_⟩
  refine (callsIn_wide.2 (is_any A n c l w hr (by omega))).mono ?_
  rintro e w' ⟨rfl, rfl⟩
  cases hall : allNum l
  · have Hall := Lib.hid hall
    clear hall
    gi_wp2
    refine ⟨_, results_tmp2 rfl _ _ _, ?_, Below.refl _ _⟩
    exact LongPut.no Hall.out
  · have Hall := Lib.hid hall
    clear hall
    gi_wp2_with (gi_at_make; refine wpListIn_make_own _ rfl _ _ 23 rfl w.heap.size 5 i0 (.int .u8 0) 1 Try.underlying23 hi hz0 hz1 _ _ _ (5 * n) rfl rfl (by omega) (by rw [hz2]; omega) (by unfold maxLen; omega) (Nat.le_refl _) ?_; intro w1 hown1 hgrow1)
    obtain ⟨bB, hbB⟩ : ∃ bB, bB = w1.heap.size := ⟨_, rfl⟩
    rw [← hbB]
    have HbB := Lib.hid hbB
    clear hbB
    refine wpIn_loop (LInv A n c l w bB) (fun a' _ => n - (intOf (a'.tmps.getD 18 undef)).toNat) ?_ ?_
    · refine ⟨0, [], .slice (some ⟨w.heap.size, 0, none⟩) 0 (5 * n), _, _, _, _, _, _, _, _, _, _, _, _, _, _, Nat.zero_le _, ?_, ?_, ?_, ⟨List.nodup_nil, fun d hd => by cases hd⟩, rfl⟩
      · rw [HbB.out]; exact Boxed.new w1 _ _
      · exact hown1.alloc _
      · exact ((Below.refl _ w).grown hgrow1 (Nat.le_refl _) (fun k e => by cases e)).alloc hgrow1.size _
    · rintro a' wr ⟨k, ds, v, u6, u8, u19, u20, u21, u22, u23, u24, u25, u26, u27, u28, u29, u30, hk, hv, hrow, hB, hM, rfl⟩
      by_cases hlt : k < n
      · have hx := allNum_at Hall.out (k := k) (by rw [Hl.out]; exact hlt)
        obtain ⟨b, off, rfl, hbl, hcell⟩ := (hr.on hB hB.size).at_ (by omega)
        have hck := hcell k hlt
        clear hcell
        gi_wp2_with (refine ⟨trivial, ?_⟩; gi_at_call 23; refine (callsIn_wide.2 (digits_any (l[k]?.getD 0) 8 5 _ hx (by omega))).mono ?_; rintro e w2 ⟨rfl, hbn, hbw, hbm, hsz2, hbel2⟩)
        obtain ⟨s, hs⟩ : ∃ s, s = wr.heap.size := ⟨_, rfl⟩
        rw [← hs] at hbn hbw hbm hsz2 hbel2
        rw [← hs]
        rw [howMany_8 hx] at hbm
        have hbs : bB < s := by rw [hs]; exact hv.lt
        have hwb : w.heap.size ≤ bB := by rw [HbB.out]; exact hgrow1.size
        have hds : ∀ d ∈ ds, d < s := fun d hd => by rw [hs]; exact (Array.getElem?_eq_some_iff.1 (hM.2 d hd).2).1
        have hrow2 : w2.ownsRow w.heap.size 5 1 v (longsOf (l.take k) ++ [].map putLong).length ((longsOf (l.take k) ++ [].map putLong).map (Value.int .u8)) := by
          simp only [List.map_nil, List.append_nil]
          exact hrow.kept (row := none) ⟨hbel2.os, hbel2.tape, hbel2.output, by rw [hsz2]; omega, fun j hj _ => hbel2.block j (by rw [hs]; exact hj)⟩ (by
            rcases hrow.2 with ⟨rfl, _⟩ | ⟨g, cap, cur, rfl, _⟩
            · exact .inl rfl
            · exact .inr (by simp [Value.ownBlock]))
        have h0 : SI w bB (longsOf (l.take k)) ds s ((5 : Nat) : Int) (l[k]?.getD 0) 8 putLong [] w2 :=
          ⟨⟨v, (hbel2.block bB hbs).trans hv, hrow2⟩, hB.trans (hbel2.mono (by rw [hs]; exact hB.size)), fun d hd => (hbel2.block d (hds d hd)).trans (hM.2 d hd).2, hbn, hbw, hbm⟩
        have hacc : (longsOf (l.take k)).length ≤ 5 * k := by
          have h2 : (l.take k).length ≤ k := List.length_take_le _ _
          rw [longsOf_length]
          omega
        have Hs := Lib.hid hs
        clear hs
        refine wpIn_rangeFunc_ownG rfl (by omega) (gf := 27) (lb := #[.pointer (some ⟨s + 2, 0, none⟩), .pointer (some ⟨s, 0, none⟩), .pointer (some ⟨s + 1, 0, none⟩)]) rfl trivial (enters_of Try.func27 (by kernel_rfl) rfl)
          (iter_stops (s + 2) s (s + 1) 5 8 (l[k]?.getD 0) hx (.inr rfl) (by omega) w2 hbm hbn hbw) (fun h h' => h.trans h') (kp3_b hsz2) (Below.refl _ _) (fun _ => rfl)
          (SI w bB (longsOf (l.take k)) ds s ((5 : Nat) : Int) (l[k]?.getD 0) 8 putLong) (fun _ _ _ => False) (SI.own (fun d hd => by have := hds d hd; omega) (by omega)) (fun _ _ _ _ _ h _ _ => h) h0
          (fun y => { tmps := #[.slice (some ⟨b, off, none⟩) n c, undef, .slice none 0 0, .int .i64 0, .pointer (some ⟨bB, 0, none⟩), undef, .int .i64 (l[k]?.getD 0), undef, .int .u8 y.2, .slice (some ⟨b, off, none⟩) n c, .bool true, .bool false, .slice (some ⟨b, off, none⟩) n c, .int .i64 n, .int .i64 (5 * n), .slice (some ⟨w.heap.size, 0, none⟩) 0 (5 * n), .slice (some ⟨b, off, none⟩) n c, .int .i64 n, .int .i64 k, .bool true, .pointer (some ⟨b, off + k, none⟩), .int .i64 (l[k]?.getD 0), .int .i64 (l[k]?.getD 0), .func (.func 27) #[] #[.pointer (some ⟨s + 2, 0, none⟩), .pointer (some ⟨s, 0, none⟩), .pointer (some ⟨s + 1, 0, none⟩)], .int .i64 y.1, .int .u8 y.2, u26, u27, u28, u29, u30, undef], defers := [] }) ?assign ?body ?done ?stop
        case assign =>
          intro lp y W K hK
          gi_wp2
          exact hK
        case body =>
          rintro lp pre y W ⟨⟨v2, hv2, hrw⟩, hB2, hM2, b1, b2, b3⟩ hlt2
          have hcv := hv2.cell
          have hfv := hv2.frozen
          have hlen : (longsOf (l.take k) ++ pre.map putLong).length ≤ 5 * n + 5 := by
            rw [List.length_append, List.length_map]
            omega
          obtain ⟨q, hq⟩ : ∃ q, (longsOf (l.take k) ++ pre.map putLong).length = q := ⟨_, rfl⟩
          rw [hq] at hrw hlen
          have Hq := Lib.hid hq
          clear hq
          gi_wp2_with (gi_at_builtin; refine wpListIn_append_own _ rfl _ _ 23 rfl w.heap.size 5 i0 (.int .u8 0) 1 1 Try.underlying23 hi hz0 hz1 hz2 rfl (by decide) _ _ _ rfl (hrw.alloc _) ⟨W.heap.size, 0, none⟩ 1 1 [.int .u8 (y.2)] rfl rfl (cell_one_new _ _ _) (by simp [Value.oneCell']) (by unfold maxLen; omega) (by omega) (by have := hB2.size; simp; omega) ?_; intro v' w3 hown' hgrow _; obtain ⟨g', cap', rfl⟩ := ownsRow_succ hown'; obtain ⟨hv1, _⟩ := hv2.appended (by decide) hrw hB2.size hwb hown' hgrow; have hc1 := hv1.cell; have hf1 := hv1.frozen)
          exact SI.step _ hbs hwb hv2 (by rw [Hq.out]; exact hrw) hB2 hM2 b1 b2 b3 hown' (by rw [Hq.out]) rfl hgrow
        case done =>
          rintro D ys W hD rfl ⟨⟨v2, hv2, hrw⟩, hB2, hM2, b1, b2, b3⟩ hK
          have hnew : (longsOf (l.take k) ++ (upTo (roundAt (l[k]?.getD 0) 8 5) 5).map putLong) = longsOf (l.take (k + 1)) := by
            rw [take_snoc (by rw [Hl.out]; exact hlt), longsOf_snoc]; rfl
          rw [hnew] at hrw
          have hM3 : Marks w.heap.size (D :: ds) W := by
            refine ⟨List.nodup_cons.2 ⟨fun hd => ?_, hM.1⟩, fun d hd => ?_⟩
            · have := hds D hd; omega
            · rcases List.mem_cons.1 hd with rfl | hd
              · exact ⟨by omega, hK⟩
              · exact ⟨(hM.2 d hd).1, hM2 d hd⟩
          clear hnew hK
          gi_wp2
          refine ⟨⟨k + 1, D :: ds, v2, _, _, _, _, _, _, _, _, _, _, _, _, _, _, hlt, hv2, hrw, hB2, hM3, rfl⟩, ?_⟩
          simp [intOf]
          omega
        case stop =>
          rintro D cc pre W _ _ h _
          exact h.elim
      · obtain rfl : k = n := by omega
        have hfull : l.take k = l := List.take_of_length_le (by rw [Hl.out]; exact Nat.le_refl _)
        rw [hfull] at hrow
        clear hfull
        have hcv := hv.cell
        gi_wp2
        refine leaves_marks ds wr hM fun w' hw' => ⟨_, results_tmp2 rfl _ _ _, ?_, hB.trans hw'.1⟩
        exact LongPut.yes Hall.out (Gives.own (own_kept hrow hw'))

end Go.Proofs.Ytbpinikldcakfaa
