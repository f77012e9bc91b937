/-
  names.Rest: its contract.
-/
import Derived.Test.YtbfdjjkphmchgaaDoorRestP
import Derived.Test.YtbfdjjkphmchgaaDoorDrawA
import Derived.Sort.CutIn
namespace Go.Proofs.YtbfdjjkphmchgaaDoor
open Go.RowKit Go.Shelf Go.Maps

attribute [local go_sem] Oper.semAt_some

theorem run_make_set (w : World) (k : Int) : (Instr.makeMap 59 (some (.int .i64 k))).run Tryd.prog w = .ok (.map (some w.heap.size)) (w.alloc (.map #[] 0)) := by
  simp [Instr.makeMap, run_underlying Tryd.underlying59, asInt, newObj, Result.andThen, go_sem]
  rfl

/-- What Rest answers: a row of the call's own. -/
def RestOut (w : World) (l : List ByteArray) (e : Ending) (w' : World) : Prop := (∃ v, e = .returned v ∧ w'.ownsRow w.heap.size 9 1 v l.length (l.map strV)) ∧ Below w.heap.size w w'

set_option maxRecDepth 100000 in
set_option maxHeartbeats 2000000 in
theorem rest_in (A : Option Addr) (n c : Nat) (l : List FlP) (A2 : Option Addr) (m c2 : Nat) (ks : List IdP) (w : World) (hP : Pow w) (hl : Fl w w.heap.size A n l) (hks : Ids w w.heap.size A2 m ks) (hOk : ∀ x ∈ ks, x.Ok) (hnm : ∀ f ∈ l, f.name.size ≤ 1000000) (hn : n ≤ 1000) (hm : m ≤ 1000) :
    CallsIn Fence.wide 4 Tryd.prog 22 #[.slice A n c, .slice A2 m c2] w (RestOut w (restP l ks)) := by
  have Hl := Lib.hid (⟨hl, hP, hks, hOk, hnm⟩ : _ ∧ _ ∧ _ ∧ _ ∧ _)
  have Hkl := Lib.hid hks.1
  clear hl hP hks hOk hnm
  have hmm := fun (w : World) => run_make_set w (m : Int)
  obtain ⟨g, hg⟩ : ∃ g, g = w.heap.size := ⟨_, rfl⟩
  obtain ⟨wa, hwa⟩ : ∃ wa, wa = w.alloc (.map #[] 0) := ⟨_, rfl⟩
  obtain ⟨w0, hw0⟩ : ∃ w0, w0 = wa.alloc (.cells #[.map (some g)] 59) := ⟨_, rfl⟩
  have hsa : wa.heap.size = g + 1 := by rw [hwa, hg]; simp
  have hs0 : w0.heap.size = g + 2 := by rw [hw0]; simp [hsa]
  have hB0 : Below w.heap.size w w0 := by rw [hw0, hwa]; exact ((Below.refl _ _).alloc (Nat.le_refl _) _).alloc (by simp) _
  have st0 : SetIs w0 g 0 [] := by rw [hw0, hwa, hg]; exact (SetIs.made w).alloc _
  have bs0 : Boxed w0 (g + 1) 59 (.map (some g)) := by rw [hw0, ← hsa]; exact Boxed.new _ _ _
  refine callsIn_of_wp_marks Tryd.func22 rfl trivial ?_ rfl
  simp only [Tryd.ntmps22, List.size_toArray, List.length_cons, List.length_nil, Nat.reduceAdd, Nat.reduceSub, Array.replicate_succ, Array.replicate_zero, List.push_toArray, List.append_toArray, List.nil_append, List.cons_append]
  gi_wp2_with fail
  rw [← hg, ← hwa, ← hw0]
  try rw [hsa]
  have Hd := Lib.hid (show w.heap.size ≤ g ∧ w0.heap.size = g + 2 by omega)
  clear hw0 hwa hg hsa hs0 hmm
  gi_loopw [20] (fun i wr => ∃ (k : Nat), k ≤ m ∧ i = .int .i64 k ∧ SetIs wr g k (keptP (ks.take k)) ∧ Boxed wr (g + 1) 59 (.map (some g)) ∧ Below w.heap.size w wr ∧ g + 2 ≤ wr.heap.size) (fun i _ => m - (intOf i).toNat)
  case atStart => exact ⟨0, Nat.zero_le _, rfl, st0, bs0, hB0, by have := Hd.out; omega⟩
  case round =>
    obtain ⟨k, hk, rfl, st, bs, hB, hsz⟩ := hrel
    clear st0 bs0 hB0
    by_cases hlt : k < m
    · obtain ⟨b, off, x, rfl, hb, hx, c0, c1, c2'⟩ := Ids.get (Hl.out.2.2.1.on hB (Nat.le_refl _)) hlt
      gi_wp2_with fail
      refine ⟨trivial, ?_⟩
      obtain ⟨w1, hw1⟩ : ∃ w1, w1 = wr.alloc (.cells #[.int .u8 x.kind, .int .i64 x.seq, .int .i64 x.fmt] 23) := ⟨_, rfl⟩
      have hB1 : Below w.heap.size w w1 := by rw [hw1]; exact hB.alloc hB.size _
      have st1 : SetIs w1 g k (keptP (ks.take k)) := by rw [hw1]; exact st.alloc _
      have bs1 : Boxed w1 (g + 1) 59 (.map (some g)) := by rw [hw1]; exact bs.alloc _
      have hs1 : wr.heap.size ≤ w1.heap.size := by rw [hw1]; simp
      rw [← hw1]
      clear hw1 st bs hB c0 c1 c2'
      refine (callsIn_wide.2 (name_any x w1 (Hl.out.2.1.on hB1) (Hl.out.2.2.2.1 x (List.mem_of_getElem? hx)))).mono ?_
      rintro e w2 ⟨rfl, hb2⟩
      have st2 := st1.below hb2
      have bs2 : Boxed w2 (g + 1) 59 (.map (some g)) := (hb2.block _ bs1.lt).trans bs1
      have hB2 := hB1.trans (hb2.mono hB1.size)
      have hs2 := hb2.size
      clear st1 bs1 hB1 hb2
      by_cases hM : MayP x
      · have hE : errP x = 0 := if_pos hM
        have hKs := kept_yes hx hM
        obtain ⟨w3, r3, st3, g3⟩ := st2.put (s := nameP x) (by unfold maxLen; omega) (by have := name_size x; unfold maxLen; omega)
        obtain ⟨N, hN⟩ : ∃ N, N = nameP x := ⟨_, rfl⟩
        rw [← hN] at r3 ⊢
        rw [hE]
        have hc := bs2.cell
        have bs3 := bs2.kept g3 (by simp)
        have hB3 := hB2.grown g3 hB2.size (fun k e => by cases e; exact Hd.out.1)
        have hs3 := g3.size
        have H3 := Lib.hid (⟨hKs, st3, bs3, hB3, show g + 2 ≤ w3.heap.size by omega⟩ : _ ∧ _ ∧ _ ∧ _ ∧ _)
        clear hE hM hN hKs st3 bs3 hB3 hs3 g3 st2 bs2 hB2 hs2 hs1 hsz hx
        gi_wp2_with fail
        go_roundw
        case rel => exact ⟨k + 1, by omega, by go_num, by rw [H3.out.1]; exact H3.out.2.1, H3.out.2.2.1, H3.out.2.2.2.1, H3.out.2.2.2.2⟩
        case measure => simp [intOf]; omega
      · have hE : errP x = 2 := if_neg hM
        have hKs := kept_no hx hM
        rw [hE]
        have H3 := Lib.hid (⟨hKs, st2, bs2, hB2, show g + 2 ≤ w2.heap.size by omega⟩ : _ ∧ _ ∧ _ ∧ _ ∧ _)
        clear hE hM hKs st2 bs2 hB2 hs2 hs1 hsz hx
        gi_wp2_with fail
        go_roundw
        case rel => exact ⟨k + 1, by omega, by go_num, by rw [H3.out.1]; exact H3.out.2.1.mono (by omega), H3.out.2.2.1, H3.out.2.2.2.1, H3.out.2.2.2.2⟩
        case measure => simp [intOf]; omega
    · obtain rfl : k = m := by omega
      rw [List.take_of_length_le (show ks.length ≤ k by rw [Hkl.out]; exact Nat.le_refl _)] at st
      gi_wp2_with fail
      refine ⟨trivial, ?_⟩
      obtain ⟨bR, hbR⟩ : ∃ bR, bR = wr.heap.size := ⟨_, rfl⟩
      obtain ⟨w1, hw1⟩ : ∃ w1, w1 = wr.alloc (.cells #[.slice none 0 0] 38) := ⟨_, rfl⟩
      have hB1 : Below w.heap.size w w1 := by rw [hw1]; exact hB.alloc hB.size _
      have st1 : SetIs w1 g k (keptP ks) := by rw [hw1]; exact st.alloc _
      have bs1 : Boxed w1 (g + 1) 59 (.map (some g)) := by rw [hw1]; exact bs.alloc _
      have br1 : Boxed w1 bR 38 (.slice none 0 0) := by rw [hw1, hbR]; exact Boxed.new _ _ _
      have hs1 : w1.heap.size = bR + 1 := by rw [hw1, hbR]; simp
      rw [← hw1, ← hbR]
      have hd := Hd.out
      have Hd2 := Lib.hid (show w.heap.size ≤ g ∧ g + 1 < bR ∧ w1.heap.size = bR + 1 by omega)
      clear hw1 hbR st bs hB hs1 hsz
      refine (callsIn_wide.2 (calls_any A n c w1)).mono ?_
      rintro e w2 ⟨rfl, hl2, hs2, hb2⟩
      obtain ⟨sB, hsB⟩ : ∃ sB, sB = w1.heap.size := ⟨_, rfl⟩
      rw [← hsB] at hl2 ⊢
      have hd2 := Hd2.out
      have h0 : RInv w bR (g + 1) g k w2.heap.size (keptP ks) [] w2 := ⟨⟨_, (hb2.block _ br1.lt).trans br1, World.ownsRow_nil _ _ _ _⟩, (hb2.block _ bs1.lt).trans bs1, st1.below hb2, hB1.trans (hb2.mono hB1.size), Nat.le_refl _⟩
      have Hd3 := Lib.hid (show w.heap.size ≤ g ∧ g + 1 < bR ∧ sB = bR + 1 ∧ w2.heap.size = sB + 1 by omega)
      have H0 := Lib.hid (⟨h0, hl2, Hl.out.1.low (w' := w2) (fun k hk => h0.low.block k hk)⟩ : _ ∧ _ ∧ _)
      clear h0 hl2 hs2 hb2 br1 bs1 st1 hB1 hsB hd hd2
      obtain ⟨i0, hi, hz0, hz1, hz2⟩ := info_parts info_str
      gi_wp2_with fail
      refine range_P 46 rfl (by decide) (gf := 37) (lb := #[.pointer (some ⟨sB, 0, none⟩)]) rfl trivial (enters_of Tryd.func37 (by kernel_rfl) rfl)
        (calls_seq sB w.heap.size (by omega) w2 (by have := Hd3.out; omega) H0.out.2.1 H0.out.2.2) (fun h h' => h.trans h') (KpL.put (by have := Hd3.out; omega)) (Below.refl _ _) (fun _ => rfl)
        (RInv w bR (g + 1) g k w2.heap.size (keptP ks)) (fun _ _ _ => False) (RInv.own (by have := Hd3.out; omega) (by have := Hd3.out; omega) (by have := Hd3.out; omega) (by have := Hd3.out; omega))
        (fun _ _ _ _ _ h _ _ => h) H0.out.1
        (fun d a' _ => a' = { tmps := #[.slice A n c, .slice A2 k c2, undef, undef, .slice none 0 0, .pointer (some ⟨g + 1, 0, none⟩), undef, u7, u8, u9, .pointer (some ⟨bR, 0, none⟩), undef, .string d.2, undef, undef, .slice A2 k c2, .int .i64 k, .map (some g), .slice A2 k c2, .int .i64 k, .int .i64 k, .bool false, u22, u23, u24, u25, u26, u27, u28, u29, u30, u31, u32, u33, u34, .slice A n c, .func (.func 37) #[] #[.pointer (some ⟨sB, 0, none⟩)], .int .i64 (d.1 : Int), .string d.2, undef, undef, undef, undef, undef, undef, undef, undef, undef, undef, undef, undef, undef], defers := [] })
        (fun _ _ _ _ _ _ h _ _ => h) ?assign ?body ?done ?stop
      case assign =>
        intro lp pre d W hI hok
        gi_wp2
        exact ⟨KeepsFrom.refl _ _, KpL.refl _ _, hI, by first | rfl | trivial⟩
      case body =>
        rintro lp pre d a' W hI rfl hok
        obtain ⟨f, hf, hdf, hpre⟩ := calls_get hok
        have hsz : d.2.size ≤ 1000000 := by rw [hdf]; exact Hl.out.2.2.2.2 f (List.mem_of_getElem? hf)
        have hlk := hI.set.look (s := d.2) (by unfold maxLen; omega)
        have hcs := hI.bs.cell
        have HI := Lib.hid hI
        have Hok := Lib.hid (⟨hok, hf, hdf, hpre, hsz⟩ : _ ∧ _ ∧ _ ∧ _ ∧ _)
        clear hI hok hf hdf hpre hsz
        by_cases hq : inB (keptP ks) d.2 = true
        · rw [hq] at hlk
          have Hq := Lib.hid hq
          clear hq
          gi_wp2_with fail
          have hb := (Below.refl W.heap.size W).alloc (Nat.le_refl _) (.cells #[] 60)
          have hI := HI.out
          have hd := Hd3.out
          have hsz := hI.size
          obtain ⟨v, hv, hrow⟩ := hI.row
          refine ⟨(KeepsOthers.alloc _ _).from _, KpL.below hb (by omega), ⟨⟨v, hv.alloc _, ?_⟩, hI.bs.alloc _, hI.set.alloc _, hI.low.trans (hb.mono (by omega)), by have := hb.size; omega⟩⟩
          rw [rest_yes Hq.out]
          exact hrow.alloc _
        · replace hq : inB (keptP ks) d.2 = false := by simpa using hq
          rw [hq] at hlk
          have Hq := Lib.hid hq
          clear hq
          obtain ⟨v, hv, hrow⟩ := HI.out.row
          gi_upto_region 14 with fail
          obtain ⟨W1, hW1⟩ : ∃ W1, W1 = W.alloc (.cells #[] 60) := ⟨_, rfl⟩
          have hb := (Below.refl W.heap.size W).alloc (Nat.le_refl _) (.cells #[] 60)
          have hI := HI.out
          have hd := Hd3.out
          have hsz := hI.size
          have hko : KeepsOthers W (W.alloc (.cells #[] 60)) := KeepsOthers.alloc _ _
          have hv1 := hv.alloc (.cells #[] 60)
          have hrow1 := hrow.alloc (.cells #[] 60)
          have hset1 := hI.set.alloc (.cells #[] 60)
          have hbs1 := hI.bs.alloc (.cells #[] 60)
          have hlow1 := hI.low.trans (hb.mono (by omega : w.heap.size ≤ W.heap.size))
          have hs1 := hb.size
          rw [← hW1] at hko hv1 hrow1 hset1 hbs1 hlow1 hs1 hb ⊢
          have Hlen := Lib.hid (show (restN (keptP ks) pre).length + 1 ≤ 1001 by
            have h1 := restN_le (keptP ks) pre
            have h2 := (List.getElem?_eq_some_iff.1 Hok.out.2.1).1
            have h3 := Hl.out.1.1
            omega)
          have hc := hv1.cell
          have H1 := Lib.hid (⟨hko, hset1, hbs1, hlow1, hs1, hsz, hb⟩ : _ ∧ _ ∧ _ ∧ _ ∧ _ ∧ _ ∧ _)
          clear hW1 hv hrow hI hd hsz hko hset1 hbs1 hlow1 hs1 hb hlk hcs
          gi_wp2_with (gi_at_builtin; refine wpListIn_append_own _ rfl _ _ 38 rfl w.heap.size 9 i0 (.string ⟨#[]⟩) 1 16 Tryd.underlying38 hi hz0 hz1 hz2 rfl (by decide) _ _ _ rfl (hrow1.alloc _) ⟨W1.heap.size, 0, none⟩ 1 1 [.string d.2] rfl rfl (cell_one_new _ _ _) (by simp [Value.oneCell']) (by have := Hlen.out; unfold maxLen; omega) (by have := Hlen.out; omega) (by have := H1.out.2.2.2.1.size; simp; omega) ?_; intro v' w1 hown' hgrow _; obtain ⟨g', cap', rfl⟩ := ownsRow_succ hown'; obtain ⟨hv1', hv2, hr2, hk2, hb2⟩ := hv1.appended (by decide) hrow1 H1.out.2.2.2.1.size (by have := Hd3.out; omega) hown' hgrow; have hc1 := hv1'.cell; have hf1 := hv1'.frozen)
          obtain ⟨hko, hset1, hbs1, hlow1, hs1, hsz, hb⟩ := H1.out
          have hd := Hd3.out
          have hbs2 : Boxed w1 (g + 1) 59 (.map (some g)) := (hbs1.alloc _).kept hgrow (hbs1.not_row (by decide) hrow1)
          have hset2 : SetIs w1 g k (keptP ks) := (hset1.alloc _).kept hgrow (hset1.not_row hrow1)
          have hbR : bR < W1.heap.size := hv1.lt
          refine ⟨(hko.trans hk2).from _, fun i hi => (hb2.block i hi).trans (hb.block i (by omega)), ⟨⟨_, hv2, ?_⟩, ?_, hset2.same (Below.heap_setCell _ _ _ g (by simp; omega)), hlow1.trans hb2, by have := hk2.size; omega⟩⟩
          · rw [rest_no Hq.out, List.length_append, List.map_append]
            exact hr2
          · exact (Below.heap_setCell _ _ _ (g + 1) (by simp; omega)).trans hbs2
      case done =>
        rintro D ys W hD2 rfl hI hK
        obtain ⟨v, hv, hrow⟩ := hI.row
        have hc := hv.cell
        have HR := Lib.hid (⟨hrow, hI.low, hK⟩ : _ ∧ _ ∧ _)
        clear hI hv hrow hK
        gi_wp2_with fail
        obtain ⟨hrow, hB, hK⟩ := HR.out
        refine leaves_marks (B := w.heap.size) [D] _ ⟨by simp, fun d hd => ?_⟩ fun w' hw' => ⟨_, results_tmp rfl _ _ _, ⟨v, rfl, own_marks hrow hw'⟩, hB.trans hw'.1⟩
        obtain rfl : d = D := by simpa using hd
        have hd := Hd3.out
        exact ⟨by omega, hK⟩
      case stop =>
        rintro D cc pre W _ h _
        exact h.elim

theorem rest_any (A : Option Addr) (n c : Nat) (l : List FlP) (A2 : Option Addr) (m c2 : Nat) (ks : List IdP) (w : World) (hP : Pow w) (hl : Fl w w.heap.size A n l) (hks : Ids w w.heap.size A2 m ks) (hOk : ∀ x ∈ ks, x.Ok) (hnm : ∀ f ∈ l, f.name.size ≤ 1000000) (hn : n ≤ 1000) (hm : m ≤ 1000) :
    Calls Tryd.prog 22 #[.slice A n c, .slice A2 m c2] w (RestOut w (restP l ks)) := callsIn_wide.1 (rest_in A n c l A2 m c2 ks w hP hl hks hOk hnm hn hm)

end Go.Proofs.YtbfdjjkphmchgaaDoor
