/-
  names.Find: its contract.
-/
import Derived.Test.YtbfdjjkphmchgaaDoorFindP
namespace Go.Proofs.YtbfdjjkphmchgaaDoor
open Go.RowKit Go.Shelf

attribute [local go_sem] Oper.semAt_some

set_option maxRecDepth 100000 in
set_option maxHeartbeats 2000000 in
theorem find_in (x : IdP) (hx : x.Ok) (A : Option Addr) (n c : Nat) (l : List FlP) (w : World) (hP : Pow w) (hl : Fl w w.heap.size A n l) (hn : n ≤ 140737488355328) :
    CallsIn Fence.wide 4 Tryd.prog 16 #[.slice A n c, x.v] w fun e w' => e = .returned (.int .i64 (foundP l x)) ∧ Below w.heap.size w w' := by
  have Hl := Lib.hid (⟨hl, hP, hx⟩ : _ ∧ _ ∧ _)
  clear hl hP hx
  unfold IdP.v
  refine callsIn_of_wp_marks Tryd.func16 rfl trivial ?_ rfl
  simp only [Tryd.ntmps16, List.size_toArray, List.length_cons, List.length_nil, Nat.reduceAdd, Nat.reduceSub, Array.replicate_succ, Array.replicate_zero, List.push_toArray, List.append_toArray, List.nil_append, List.cons_append]
  gi_wp2_with fail
  refine ⟨trivial, ?_⟩
  obtain ⟨z, hz⟩ : ∃ z, z = w.heap.size := ⟨_, rfl⟩
  obtain ⟨wa, hwa⟩ : ∃ wa, wa = w.alloc (.cells #[.int .u8 x.kind, .int .i64 x.seq, .int .i64 x.fmt] 23) := ⟨_, rfl⟩
  obtain ⟨w0, hw0⟩ : ∃ w0, w0 = wa.alloc (.cells #[.int .i64 0] 3) := ⟨_, rfl⟩
  have hsa : wa.heap.size = z + 1 := by rw [hwa, hz]; simp
  have hs0 : w0.heap.size = z + 2 := by rw [hw0]; simp [hsa]
  have hBa : Below w.heap.size w wa := by rw [hwa]; exact below_al (below_d0 w) _
  have hB0 : Below w.heap.size w w0 := by rw [hw0]; exact hBa.alloc hBa.size _
  have br0 : Boxed w0 (z + 1) 3 (.int .i64 0) := by rw [hw0, ← hsa]; exact Boxed.new wa _ _
  have he : w0 = (w.alloc (.cells #[.int .u8 x.kind, .int .i64 x.seq, .int .i64 x.fmt] 23)).alloc (.cells #[.int .i64 0] 3) := by rw [hw0, hwa]
  rw [← he, ← hz]
  have Hd := Lib.hid (show w.heap.size ≤ z ∧ w0.heap.size = z + 2 by omega)
  clear he hw0 hwa hz hsa hBa hs0
  refine (callsIn_wide.2 (name_any x w0 (Hl.out.2.1.on hB0) Hl.out.2.2)).mono ?_
  rintro e w1 ⟨rfl, hb1⟩
  have br1 : Boxed w1 (z + 1) 3 (.int .i64 0) := (hb1.block _ br0.lt).trans br0
  have hB1 := hB0.trans (hb1.mono hB0.size)
  have hs1 := hb1.size
  obtain ⟨N, hN⟩ : ∃ N, N = nameP x := ⟨_, rfl⟩
  rw [← hN]
  by_cases hM : MayP x
  · have hE : errP x = 0 := if_pos hM
    have hfo : foundP l x = findP l N := by rw [hN]; exact if_pos hM
    rw [hE]
    have HF := Lib.hid (⟨hfo, hB1, br1, hs1⟩ : _ ∧ _ ∧ _ ∧ _)
    clear hM hE hN hfo hB1 br1 hs1 br0 hB0 hb1
    gi_wp2_with fail
    obtain ⟨bN, hbN⟩ : ∃ bN, bN = w1.heap.size := ⟨_, rfl⟩
    obtain ⟨w2, hw2⟩ : ∃ w2, w2 = w1.alloc (.cells #[.string N] 9) := ⟨_, rfl⟩
    rw [← hw2, ← hbN]
    have bn2 : Boxed w2 bN 9 (.string N) := by rw [hw2, hbN]; exact Boxed.new _ _ _
    obtain ⟨hfo, hB1, br1, hs1⟩ := HF.out
    have br2 : Boxed w2 (z + 1) 3 (.int .i64 0) := by rw [hw2]; exact br1.alloc _
    have hB2 : Below w.heap.size w w2 := by rw [hw2]; exact hB1.alloc hB1.size _
    have hs2 : w2.heap.size = bN + 1 := by rw [hw2, hbN]; simp
    have hd := Hd.out
    have Hd2 := Lib.hid (show w.heap.size ≤ z ∧ z + 1 < bN ∧ w2.heap.size = bN + 1 by omega)
    clear hw2 hbN hs2 br1 hB1 hs1 hd
    refine ⟨trivial, ?_⟩
    refine (callsIn_wide.2 (calls_any A n c w2)).mono ?_
    rintro e w3 ⟨rfl, hl3, hs3, hb3⟩
    obtain ⟨sB, hsB⟩ : ∃ sB, sB = w2.heap.size := ⟨_, rfl⟩
    rw [← hsB] at hl3 ⊢
    have hd := Hd2.out
    have h0 : FInv w N bN (z + 1) w3.heap.size [] w3 := ⟨(fun y hy => by cases hy), (hb3.block bN (by omega)).trans bn2, (hb3.block _ (by omega)).trans br2, hB2.trans (hb3.mono (by omega)), Nat.le_refl _⟩
    have Hd3 := Lib.hid (show w.heap.size ≤ z ∧ z + 1 < bN ∧ sB = bN + 1 ∧ w3.heap.size = sB + 1 by omega)
    have H0 := Lib.hid (⟨h0, hl3, Hl.out.1.low (w' := w3) (fun k hk => h0.low.block k hk)⟩ : _ ∧ _ ∧ _)
    clear h0 hl3 hs3 hb3 bn2 br2 hB2 hsB hd hfo
    gi_wp2_with fail
    refine range_P 46 rfl (by decide) (gf := 37) (lb := #[.pointer (some ⟨sB, 0, none⟩)]) rfl trivial (enters_of Tryd.func37 (by kernel_rfl) rfl)
      (calls_seq sB w.heap.size hn w3 (by have := Hd3.out; omega) H0.out.2.1 H0.out.2.2) (fun h h' => h.trans h') (KpL.put (by have := Hd3.out; omega)) (Below.refl _ _) (fun _ => rfl)
      (FInv w N bN (z + 1) w3.heap.size) (fun c (_ : List (Nat × ByteArray)) W => c = Code.ret ∧ FEnd w l N (z + 1) w3.heap.size W) (FInv.own (by have := Hd3.out; omega) (by have := Hd3.out; omega) (by have := Hd3.out; omega))
      (FEnd.own (by have := Hd3.out; omega) (by have := Hd3.out; omega)) H0.out.1
      (fun d a' _ => a' = { tmps := #[.slice A n c, .agg #[.int .u8 x.kind, .int .i64 x.seq, .int .i64 x.fmt], undef, .pointer (some ⟨z, 0, none⟩), .pointer (some ⟨z + 1, 0, none⟩), .pointer (some ⟨bN, 0, none⟩), .int .i64 0, .int .i64 (d.1 : Int), .string d.2, .tuple #[.string N, .int .i64 0], .agg #[.int .u8 x.kind, .int .i64 x.seq, .int .i64 x.fmt], .tuple #[.string N, .int .i64 0], .string N, .int .i64 0, .int .i64 0, .bool false, .slice A n c, .func (.func 37) #[] #[.pointer (some ⟨sB, 0, none⟩)], .int .i64 (d.1 : Int), .string d.2, undef, undef, undef, undef], defers := [] })
      (fun _ _ _ _ _ _ h _ _ => h) ?assign ?body ?done ?stop
    case assign =>
      intro lp pre d W hI hok
      gi_wp2
      exact ⟨KeepsFrom.refl _ _, KpL.refl _ _, hI, by first | rfl | trivial⟩
    case body =>
      rintro lp pre d a' W hI rfl hok
      have hc := hI.bn.cell
      have hcr := hI.br.cell
      have hfr := hI.br.frozen
      have HI := Lib.hid hI
      clear hI
      by_cases hq : d.2 = N
      · have t1 := names_eq hq
        have Hq := Lib.hid (find_hit hok HI.out.none_ hq)
        clear hq hok
        gi_wp2_with fail
        have hd := Hd3.out
        refine ⟨KeepsFrom.of_grownBy (set_grown W (z + 1) _) (fun k e => by cases e; omega), rfl, ?_, HI.out.low.setCell (by show w.heap.size ≤ z + 1; omega) _, by have := (set_grown W (z + 1) (.int .i64 (d.1 : Int))).size; have := HI.out.size; omega⟩
        rw [Hq.out]
        exact HI.out.br.set _
      · have t1 := names_ne hq
        have Hq := Lib.hid hq
        clear hq hok
        gi_wp2_with fail
        refine ⟨KeepsFrom.refl _ _, KpL.refl _ _, ⟨fun y hy => ?_, HI.out.bn, HI.out.br, HI.out.low, HI.out.size⟩⟩
        rcases List.mem_append.1 hy with h | h
        · exact HI.out.none_ y h
        · obtain rfl := List.mem_singleton.1 h
          exact Hq.out
    case done =>
      rintro D ys W hD2 rfl hI hK
      have hc := hI.br.cell
      have hfr := hI.br.frozen
      have HI := Lib.hid hI
      have HK := Lib.hid (⟨hK, hD2⟩ : _ ∧ _)
      clear hI hK hD2
      gi_wp2_with fail
      have hd := Hd3.out
      have hms := find_miss HI.out.none_
      refine leaves_marks (B := w.heap.size) [D] _ ⟨by simp, fun d hd => ?_⟩ fun w' hw' => ⟨.int .i64 (-1), ?_, ⟨by rw [HF.out.1, hms], (HI.out.low.setCell (by show w.heap.size ≤ z + 1; omega) _).trans hw'.1⟩⟩
      · obtain rfl : d = D := by simpa using hd
        have := HK.out.2
        exact ⟨by omega, ((set_grown W (z + 1) _).block d (Array.getElem?_eq_some_iff.1 HK.out.1).1 (by simp; omega)).trans HK.out.1⟩
      · have hb' : Boxed w' (z + 1) 3 (.int .i64 (-1)) := hw'.2 _ _ (HI.out.br.set (.int .i64 (-1))) rfl
        have hc' := hb'.cell
        clear hd
        simp [results, Tryd.results16, go_sem, *]
    case stop =>
      rintro D cc pre W hD2 ⟨rfl, hI⟩ hK
      have HI := Lib.hid hI
      have HK := Lib.hid (⟨hK, hD2⟩ : _ ∧ _)
      clear hI hK hD2
      gi_wp2_with fail
      have hd := Hd3.out
      refine leaves_marks (B := w.heap.size) [D] _ ⟨by simp, fun d hd => ?_⟩ fun w' hw' => ⟨.int .i64 (findP l N), ?_, ⟨by rw [HF.out.1], HI.out.low.trans hw'.1⟩⟩
      · obtain rfl : d = D := by simpa using hd
        have := HK.out.2
        exact ⟨by omega, HK.out.1⟩
      · have hb' : Boxed w' (z + 1) 3 (.int .i64 (findP l N)) := hw'.2 _ _ HI.out.br rfl
        have hc' := hb'.cell
        clear hd
        simp [results, Tryd.results16, go_sem, *]
  · have hE : errP x = 2 := if_neg hM
    have hfo : foundP l x = -1 := if_neg hM
    rw [hE]
    have hf : (w1.alloc (.cells #[.string N] 9)).frozen? ⟨z + 1, 0, none⟩ = false := (br1.alloc _).frozen
    have hc : (w1.alloc (.cells #[.string N] 9)).cell? ⟨z + 1, 0, none⟩ = some (.int .i64 0) := (br1.alloc _).cell
    have HF := Lib.hid (⟨hfo, hB1, br1, hs1⟩ : _ ∧ _ ∧ _ ∧ _)
    clear hM hE hN hfo hB1 br1 hs1 br0 hB0 hb1
    gi_wp2_with fail
    obtain ⟨hfo, hB1, br1, hs1⟩ := HF.out
    refine leaves_marks (B := w.heap.size) [] _ ⟨List.nodup_nil, fun d hd => by cases hd⟩ fun w' hw' => ⟨.int .i64 (-1), ?_, ⟨by rw [hfo], ((hB1.alloc hB1.size _).setCell (by have := Hd.out; show w.heap.size ≤ z + 1; omega) _).trans hw'.1⟩⟩
    have hb' : Boxed w' (z + 1) 3 (.int .i64 (-1)) := hw'.2 _ _ ((br1.alloc _).set (.int .i64 (-1))) rfl
    have hc' := hb'.cell
    simp [results, Tryd.results16, go_sem, *]

theorem find_any (x : IdP) (hx : x.Ok) (A : Option Addr) (n c : Nat) (l : List FlP) (w : World) (hP : Pow w) (hl : Fl w w.heap.size A n l) (hn : n ≤ 140737488355328) :
    Calls Tryd.prog 16 #[.slice A n c, x.v] w fun e w' => e = .returned (.int .i64 (foundP l x)) ∧ Below w.heap.size w w' := callsIn_wide.1 (find_in x hx A n c l w hP hl hn)

end Go.Proofs.YtbfdjjkphmchgaaDoor
