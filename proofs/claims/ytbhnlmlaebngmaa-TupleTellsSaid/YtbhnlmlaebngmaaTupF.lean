/-
  Package tuple: mustFollow: its contract (a range over each whose body may panic).
-/
import Derived.Test.YtbhnlmlaebngmaaTupQ
namespace Go.Proofs.Ytbhnlmlaebngmaa
open Go.RowKit Go.Shelf
set_option linter.unusedVariables false
set_option linter.unusedSimpArgs false

attribute [local go_sem] Oper.semAt_some

theorem each_seq (lB zB B0 : Nat) {A : Option Addr} {n c : Nat} {l : List EnP} (hn : n ≤ 140737488355328) (w : World) (hlB : Boxed w lB 24 (.slice A n c)) (hr : Es w B0 A n l) (hB0 : B0 ≤ lB) (hz : zB < w.heap.size) (hzs : lB ≠ zB) :
    SeqX 39 Try.prog 79 #[.pointer (some ⟨lB, 0, none⟩)] encE (KpE B0 zB) (fun ys => ys = l) (fun pre => pre <+: l) w := fun l0 J Jp W hW hJ hY h0 =>
  each_in l0 lB zB B0 hn J Jp W hJ hY ((hW.block lB hlB.lt).trans hlB) (hr.low fun k hk => hW.block k (by have := hlB.lt; omega)) hB0 (by have := hW.size; omega) hzs h0
def EachOut (A : Option Addr) (n c : Nat) (w : World) (e : Ending) (w' : World) : Prop :=
  e = .returned (.func (.func 79) #[] #[.pointer (some ⟨w.heap.size, 0, none⟩)]) ∧ Boxed w' w.heap.size 24 (.slice A n c) ∧ w'.heap.size = w.heap.size + 1 ∧ Below w.heap.size w w'
set_option maxRecDepth 100000 in
theorem each_any (A : Option Addr) (n c : Nat) (w : World) : Calls Try.prog 72 #[.slice A n c] w (EachOut A n c w) := by
  go_enter Try.func72, Try.ntmps72
  go_wp2
  go_ret
  exact ⟨rfl, Boxed.new w _ _, by simp, (Below.refl _ w).alloc (Nat.le_refl _) _⟩

/-- Between two rounds: the box z holds the last one's term. -/
def MInv (w : World) (a : Int) (z : Nat) (pre : List EnP) (W : World) : Prop := FollowP a pre ∧ Boxed W z 3 (.int .i64 (lastTm a pre)) ∧ Below w.heap.size w W
/-- It fell. -/
def MPan (w : World) (a : Int) (l : List EnP) (ch : List PanicEntry) (_pre : List EnP) (W : World) : Prop := ch = fellL ∧ ¬ FollowP a l ∧ Below w.heap.size w W
theorem MInv.own {w : World} {a : Int} {z B : Nat} (hz : w.heap.size ≤ z ∧ z < B) : OwnT 39 B (MInv w a z) := by
  rintro pre W W' row ⟨h1, h2, h3⟩ hg hr
  exact ⟨h1, h2.kept hg (fun e => by have := (hr z e.symm).1; omega), h3.grown hg h3.size (fun k e => by have := (hr k e).1; omega)⟩
/-- What mustFollow answers. -/
def FollowOut (a : Int) (l : List EnP) (w : World) (e : Ending) (w' : World) : Prop := ((FollowP a l ∧ e = .returned (.int .i64 (lastTm a l))) ∨ (¬ FollowP a l ∧ e = .panicked fellL)) ∧ Below w.heap.size w w'
/-- What an iteration's variables hold. -/
def MAx (a : Int) (A : Option Addr) (n c z lB : Nat) (x : EnP) (a' : Act) (W : World) : Prop := ∃ xb, z < xb ∧ BoxE W xb x ∧
  a' = { tmps := #[.int .i64 a, .slice A n c, .pointer (some ⟨z, 0, none⟩), undef, .int .i64 0, .pointer (some ⟨xb, 0, none⟩), .slice A n c, .func (.func 79) #[] #[.pointer (some ⟨lB, 0, none⟩)], .agg #[.int .i64 x.tm, .int .i64 x.kd, .int .i64 x.vl], undef, undef, undef, undef, undef, undef, undef, undef, undef, undef, undef, undef], defers := [] }
theorem set_kpE {B0 z : Nat} {W : World} (hz : B0 ≤ z) {t : TypeId} {v : Value} (h : Boxed W z t v) (x : Value) : KpE B0 z W (W.setCell ⟨z, 0, none⟩ x) := by
  have other : ∀ k, k ≠ z → (W.setCell ⟨z, 0, none⟩ x).heap[k]? = W.heap[k]? := fun k hk => Below.heap_setCell _ _ _ k (by simpa using hk)
  refine ⟨fun k hk => other k (by omega), fun k o ho hw => ?_, fun k cur t' fr hk ho _ => (other k hk).trans ho⟩
  refine (other k ?_).trans ho
  rintro rfl
  rw [show W.heap[k]? = _ from h] at ho
  cases ho
  cases hw

theorem keeps_below {B : Nat} {W W' : World} (h : Below W.heap.size W W') : KeepsFrom B W W' := ⟨h.size, fun k o _ hk _ => (h.block k (Array.getElem?_eq_some_iff.1 hk).1).trans hk⟩
theorem keeps_set {B z : Nat} {W : World} {v : Value} (h : z < B) : KeepsFrom B W (W.setCell ⟨z, 0, none⟩ v) := ⟨by simp, fun k o hB hk _ => (Below.heap_setCell _ _ _ k (by simp; omega)).trans hk⟩
theorem MInv.on {w : World} {a : Int} {z : Nat} {pre : List EnP} {W W' : World} (h : MInv w a z pre W) (hb : Below W.heap.size W W') : MInv w a z pre W' := ⟨h.1, (hb.block z h.2.1.lt).trans h.2.1, h.2.2.trans (hb.mono h.2.2.size)⟩
set_option maxRecDepth 100000 in
set_option maxHeartbeats 2000000 in
theorem follow_any (a : Int) (A : Option Addr) (n c : Nat) (l : List EnP) (w : World) (hS : Es w w.heap.size A n l) (hn : n ≤ 140737488355328) :
    Calls Try.prog 67 #[.int .i64 a, .slice A n c] w (FollowOut a l w) := by
  obtain ⟨z, hz⟩ : ∃ z, z = w.heap.size := ⟨_, rfl⟩
  refine calls_at (n := 4) Try.func67 rfl ?_
  simp only [Try.ntmps67, List.size_toArray, List.length_cons, List.length_nil, Nat.reduceAdd, Nat.reduceSub, Array.replicate_succ, Array.replicate_zero, List.push_toArray, List.append_toArray, List.nil_append, List.cons_append]
  have Hl := Lib.hid hS.len
  refine wpAt_seq_in (n := 4) ?_
  gi_wp2_with fail
  obtain ⟨w1, hw1⟩ : ∃ x, x = w.alloc (.cells #[.int .i64 a] 3) := ⟨_, rfl⟩
  have b1 : Below w.heap.size w w1 := by rw [hw1]; exact below_al (below_d0 _) _
  have z1 : Boxed w1 z 3 (.int .i64 a) := by rw [hw1, hz]; exact Boxed.new w _ _
  rw [← hw1, ← hz]
  have hwz : w.heap.size ≤ z := by omega
  have HZ := Lib.hid hwz
  have hs1 : w1.heap.size = z + 1 := by rw [hw1, hz]; simp
  clear hw1 hz hwz
  refine wpAt_seq ?_
  refine wpAt_seq_in (n := 4) ?_
  gi_wp2_with fail
  refine ⟨trivial, ?_⟩
  refine (callsIn_wide.2 (each_any A n c w1)).mono ?_
  rintro e w2 ⟨rfl, hl2, hs2, hb2⟩
  obtain ⟨lB, hlB⟩ : ∃ lB, lB = w1.heap.size := ⟨_, rfl⟩
  rw [← hlB] at hl2 hs2 hb2 ⊢
  have z2 : Boxed w2 z 3 (.int .i64 a) := (hb2.block z (by omega)).trans z1
  have B2 : Below w.heap.size w w2 := b1.trans (hb2.mono (by have := HZ.out; omega))
  have h0 : MInv w a z [] w2 := ⟨follow_nil a, z2, B2⟩
  have hS2 : Es w2 w.heap.size A n l := hS.on B2 (Nat.le_refl _)
  have HD := Lib.hid (show lB = z + 1 ∧ w2.heap.size = lB + 1 by omega)
  have H0 := Lib.hid (⟨h0, hS2, hl2, z2⟩ : _ ∧ _ ∧ _ ∧ _)
  clear b1 z1 hs1 hlB hl2 hs2 hb2 z2 B2 h0 hS2 hS
  gi_wp2_with fail
  refine wpAt_block ?_
  refine range_X 39 Try.func67 (gf := 79) (lb := #[.pointer (some ⟨lB, 0, none⟩)]) rfl (enters_of Try.func79 (by kernel_rfl) rfl)
    (each_seq lB z w.heap.size hn w2 H0.out.2.2.1 H0.out.2.1 (by have := HD.out; have := HZ.out; omega) (by have := HD.out; omega) (by have := HD.out; omega)) (fun h h' => h.trans h') (KpE.put (by have := HD.out; have := HZ.out; omega)) (Below.refl _ _) (fun _ => rfl)
    (MInv w a z) (MPan w a l) (MInv.own (by have := HD.out; have := HZ.out; omega)) H0.out.1 (MAx a A n c z lB) ?hax ?assign ?body ?done ?pan
  case hax =>
    rintro x a' W l' o o' ⟨xb, h1, h2, h3⟩ ho hc
    refine ⟨xb, h1, (World.putObj_heap_other ?_).trans h2, h3⟩
    rintro rfl
    rw [show W.heap[xb]? = _ from h2] at ho
    cases ho
    cases hc
  case assign =>
    intro lp pre x W hI hok
    gi_wp2_with fail
    have bb : Below W.heap.size W (W.alloc (.cells #[.int .i64 x.tm, .int .i64 x.kd, .int .i64 x.vl] 39)) := below_al (below_d0 _) _
    exact ⟨keeps_below bb, KpE.below bb (by have := hI.2.2.size; omega), hI.on bb, W.heap.size, hI.2.1.lt, BoxE.new W x, rfl⟩
  case body =>
    rintro lp pre x a' W hI ⟨xb, hzx, hbx, rfl⟩ hok
    obtain ⟨k0, k1, k2⟩ := hbx.cells
    have hsz := hI.2.2.size
    have HI := Lib.hid hI
    have HX := Lib.hid (⟨hzx, hbx, hsz⟩ : _ ∧ _ ∧ _)
    have HK := Lib.hid hok
    clear hI hzx hbx hsz hok
    gi_wp2_with fail
    refine ⟨trivial, ?_⟩
    refine (CallsIn.inRound lp (callsIn_wide.2 (right_any x W))).mono ?_
    rintro e W1 ⟨rfl, hb⟩
    have hI1 := HI.out.on hb
    have hx1 := HX.out.2.1.below hb
    have hk1 : KpE w.heap.size z W W1 := KpE.below hb HX.out.2.2
    have hf1 : KeepsFrom w2.heap.size W W1 := keeps_below hb
    have bad : ¬ (RightP x ∧ lastTm a pre ≤ x.tm) → MPan w a l fellL (pre ++ [x]) W1 := fun hn => ⟨rfl, fun h => hn (follow_snoc.1 (follow_pre h HK.out)).2, hI1.2.2⟩
    obtain ⟨k0, k1, k2⟩ := hx1.cells
    have m0 := hI1.2.1.cell
    have m1 := hI1.2.1.frozen
    have HH := Lib.hid (⟨hI1, hk1, hf1, bad⟩ : _ ∧ _ ∧ _ ∧ _)
    clear hb hI1 hx1 hk1 hf1 bad
    by_cases hr : rightB x = true
    · rw [hr]
      by_cases ht : lastTm a pre ≤ x.tm
      · have q1 : decide (lastTm a pre ≤ x.tm) = true := decide_eq_true ht
        have HT := Lib.hid (⟨hr, ht⟩ : _ ∧ _)
        clear hr ht
        gi_wp2_with fail
        refine ⟨trivial, ?_⟩
        refine (CallsIn.inRound lp (callsIn_wide.2 (must_yes W1))).mono ?_
        rintro e W2 ⟨rfl, rfl⟩
        gi_wp2_with fail
        obtain ⟨hI1, hk1, hf1, _⟩ := HH.out
        have hzz : z < w2.heap.size := by have := HD.out; omega
        exact ⟨hf1.trans (keeps_set hzz), hk1.trans (set_kpE HZ.out hI1.2.1 _), follow_snoc.2 ⟨hI1.1, rightB_iff.1 HT.out.1, HT.out.2⟩, by rw [lastTm_snoc]; exact hI1.2.1.set _, hI1.2.2.setCell (p := ⟨z, 0, none⟩) HZ.out _⟩
      · have q1 : decide (lastTm a pre ≤ x.tm) = false := decide_eq_false ht
        have HT := Lib.hid ht
        clear ht
        gi_wp2_with fail
        refine ⟨trivial, ?_⟩
        refine (CallsIn.inRound lp (callsIn_wide.2 (must_no W1))).mono ?_
        rintro e W2 ⟨rfl, rfl⟩
        obtain ⟨hI1, hk1, hf1, bad⟩ := HH.out
        exact ⟨rfl, hf1, bad fun h => absurd h.2 (Int.not_le.2 HT.out)⟩
    · have hr2 := Bool.eq_false_iff.2 hr
      rw [hr2]
      have HT := Lib.hid hr
      clear hr
      gi_wp2_with fail
      refine ⟨trivial, ?_⟩
      refine (CallsIn.inRound lp (callsIn_wide.2 (must_no W1))).mono ?_
      rintro e W2 ⟨rfl, rfl⟩
      obtain ⟨hI1, hk1, hf1, bad⟩ := HH.out
      exact ⟨rfl, hf1, bad fun h => HT.out (rightB_iff.2 h.1)⟩
  case done =>
    rintro D ys W hD2 rfl hI hK
    refine ⟨.inl rfl, ?_⟩
    refine wpAt_in (n := 4) ?_
    have hc := hI.2.1.cell
    have HI := Lib.hid (⟨hI, hK, hD2⟩ : _ ∧ _ ∧ _)
    clear hI hK hD2
    gi_wp2_with fail
    refine leaves_marks (B := w.heap.size) [D] W ⟨by simp, fun d hd => by obtain rfl := List.mem_singleton.1 hd; exact ⟨by have := HI.out.2.2; have := HD.out; have := HZ.out; omega, HI.out.2.1⟩⟩ fun w' hw' => ⟨_, results_tmp rfl _ _ _, ?_⟩
    exact ⟨.inl ⟨HI.out.1.1, rfl⟩, HI.out.1.2.2.trans hw'.1⟩
  case pan =>
    rintro D ch pre W hD2 hI hK
    refine ⟨.inr ⟨_, rfl⟩, ?_⟩
    obtain ⟨rfl, hn2, hB⟩ := hI
    refine ⟨by simp, .inl ⟨D, _, rfl, run_takeDeferred hK, ?_⟩⟩
    refine ⟨.inr ⟨hn2, rfl⟩, ?_⟩
    refine hB.trans ⟨rfl, rfl, rfl, by simp, fun k hk' => World.putObj_heap_other (by have := HD.out; have := HZ.out; omega)⟩
end Go.Proofs.Ytbhnlmlaebngmaa
